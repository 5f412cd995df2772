/- Numbers as bits, byte by byte. No Go function in sight. -/
import Derived.Test.YtahefkjgcdchlaaByteC
namespace Cad

theorem natB_tb : ∀ (B : List Bool) (i : Nat), (natB B).testBit i = B.getD i false
  | [], i => by simp [natB]
  | b :: B, 0 => by
    cases b <;> simp [natB, Nat.testBit_zero] <;> omega
  | b :: B, i + 1 => by
    rw [Nat.testBit_succ, natB]
    rw [show (b.toNat + 2 * natB B) / 2 = natB B by have := Bool.toNat_le b; omega, natB_tb B i]
    simp [List.getD]
theorem numB_tb {v n : Nat} (hv : v < 2 ^ n) (i : Nat) : (numB v n).getD i false = v.testBit i := by
  rw [← natB_tb, natB_numB, Nat.mod_eq_of_lt hv]

theorem num_step {l : List Int} {L v n k : Nat} (h : IsB l L ((numB v n).take (8 * k))) (hv : v < 2 ^ n) (hL : k < L) :
    IsB (l.set k ((v / 2 ^ (8 * k) % 256 : Nat) : Int)) L ((numB v n).take (8 * (k + 1))) := by
  obtain ⟨h1, h2, h3⟩ := h
  have hm : v / 2 ^ (8 * k) % 256 < 256 := Nat.mod_lt _ (by decide)
  refine ⟨by simp [h1], mem_set_bd h2 _ ⟨by omega, by omega⟩, fun i => ?_⟩
  rw [bit_put _ _ _ _ (by omega), h3, getD_take, getD_take, numB_tb hv]
  by_cases g : i / 8 = k
  · rw [if_pos g, show (256 : Nat) = 2 ^ 8 by decide, Nat.testBit_mod_two_pow, Nat.testBit_div_two_pow, decide_eq_true (show i % 8 < 8 by omega), decide_eq_true (show i < 8 * (k + 1) by omega), show i % 8 + 8 * k = i by omega]
  · rw [if_neg g]
    by_cases g1 : i < 8 * k
    · rw [decide_eq_true g1, decide_eq_true (show i < 8 * (k + 1) by omega)]
    · rw [decide_eq_false g1, decide_eq_false (show ¬ i < 8 * (k + 1) by omega)]

theorem nat_step (B : List Bool) (k : Nat) : natB (B.take (8 * (k + 1))) = natB (B.take (8 * k)) ||| byteN B k * 2 ^ (8 * k) := by
  apply Nat.eq_of_testBit_eq
  intro i
  rw [Nat.testBit_or, natB_tb, natB_tb, shl_tb, byteN_tb, getD_take, getD_take]
  by_cases g1 : i < 8 * k
  · rw [decide_eq_true g1, decide_eq_true (show i < 8 * (k + 1) by omega), decide_eq_false (show ¬ 8 * k ≤ i by omega)]; simp
  · rw [decide_eq_false g1, decide_eq_true (show 8 * k ≤ i by omega), show 8 * k + (i - 8 * k) = i by omega]
    by_cases g2 : i < 8 * (k + 1)
    · rw [decide_eq_true g2, decide_eq_true (show i - 8 * k < 8 by omega)]; simp
    · rw [decide_eq_false g2, decide_eq_false (show ¬ i - 8 * k < 8 by omega)]; simp
end Cad
