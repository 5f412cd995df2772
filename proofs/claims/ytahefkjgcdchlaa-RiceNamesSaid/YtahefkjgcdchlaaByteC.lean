/- Bytes changed bit by bit: cutting and clearing. No Go function in sight. -/
import Derived.Test.YtahefkjgcdchlaaByte
namespace Cad

theorem byteN_ge (B : List Bool) {j : Nat} (h : B.length ≤ 8 * j) : byteN B j = 0 := by
  apply Nat.eq_of_testBit_eq
  intro t
  rw [byteN_tb, getD_ge B _ (by omega)]; simp
theorem pack_getD_any (B : List Bool) (j : Nat) : (pack B).getD j 0 = byteN B j := by
  by_cases h : j < (B.length + 7) / 8
  · exact pack_getD B j h
  · rw [getD_ge _ _ (by rw [pack_len]; omega), byteN_ge B (by omega)]; rfl

theorem bit_put (l : List Int) (p x i : Nat) (hp : p < l.length) : bit (l.set p (x : Int)) i = if i / 8 = p then x.testBit (i % 8) else bit l i := by
  rw [bit_tb, bit_tb, getD_set _ _ _ _ hp]
  by_cases h : i / 8 = p
  · rw [if_pos h, if_pos h]; simp
  · rw [if_neg h, if_neg h]

theorem isB_zero (L : Nat) : IsB (List.replicate L 0) L [] := by
  refine ⟨by simp, fun x hx => by have := List.eq_of_mem_replicate hx; omega, fun i => ?_⟩
  unfold bit
  have : (List.replicate L (0 : Int)).getD (i / 8) 0 = 0 := by
    simp only [List.getD, List.getElem?_replicate]
    split <;> rfl
  rw [this]; simp

/-- the number of two bytes, shifted -/
def mid16 (B : List Bool) (j s : Nat) : Nat := (byteN B j ||| byteN B (j + 1) * 256) / 2 ^ s % 256
theorem mid16_tb (B : List Bool) (j s t : Nat) (hs : s < 8) (ht : t < 8) : (mid16 B j s).testBit t = B.getD (8 * j + s + t) false := by
  unfold mid16
  rw [show (256 : Nat) = 2 ^ 8 by decide, Nat.testBit_mod_two_pow, Nat.testBit_div_two_pow, Nat.testBit_or, shl_tb, byteN_tb, byteN_tb]
  have q0 : decide (t < 8) = true := decide_eq_true ht
  rw [q0]
  by_cases h : t + s < 8
  · have q1 : decide (t + s < 8) = true := decide_eq_true h
    have q2 : decide (8 ≤ t + s) = false := decide_eq_false (by omega)
    rw [q1, q2, show 8 * j + (t + s) = 8 * j + s + t by omega]; simp
  · have q1 : decide (t + s < 8) = false := decide_eq_false h
    have q2 : decide (8 ≤ t + s) = true := decide_eq_true (by omega)
    have q3 : decide (t + s - 8 < 8) = true := decide_eq_true (by omega)
    rw [q1, q2, q3, show 8 * (j + 1) + (t + s - 8) = 8 * j + s + t by omega]; simp

theorem cut_step {l : List Int} {L f s k i0 : Nat} {B : List Bool} (h : IsB l L ((B.drop i0).take (8 * k))) (hA : i0 = 8 * f + s) (hs : s < 8) (hL : k < L) :
    IsB (l.set k ((mid16 B (f + k) s : Nat) : Int)) L ((B.drop i0).take (8 * (k + 1))) := by
  obtain ⟨h1, h2, h3⟩ := h
  have hm : mid16 B (f + k) s < 256 := Nat.mod_lt _ (by decide)
  refine ⟨by simp [h1], mem_set_bd h2 _ ⟨by omega, by omega⟩, fun i => ?_⟩
  rw [bit_put _ _ _ _ (by omega), h3, getD_take, getD_take, getD_drop]
  by_cases g : i / 8 = k
  · rw [if_pos g, mid16_tb _ _ _ _ hs (by omega), decide_eq_true (show i < 8 * (k + 1) by omega), show 8 * (f + k) + s + i % 8 = i0 + i by omega]; simp
  · rw [if_neg g]
    by_cases g1 : i < 8 * k
    · rw [decide_eq_true g1, decide_eq_true (show i < 8 * (k + 1) by omega)]
    · rw [decide_eq_false g1, decide_eq_false (show ¬ i < 8 * (k + 1) by omega)]

theorem IsB.out {l : List Int} {L : Nat} {C : List Bool} (h : IsB l L C) {i : Nat} (hi : 8 * L ≤ i) : C.getD i false = false := by
  rw [← h.2.2 i, bit_tb, getD_ge _ _ (by have := h.1; omega)]; simp
theorem clear_none {l : List Int} {L n : Nat} {C : List Bool} (h : IsB l L C) (hL : L = (n + 7) / 8) (h8 : n % 8 = 0) : IsB l L (C.take n) := by
  refine ⟨h.1, h.2.1, fun i => ?_⟩
  rw [h.2.2, getD_take]
  by_cases g : i < n
  · simp [g]
  · rw [h.out (by omega)]; simp
theorem clear_step {l : List Int} {L n d : Nat} {C : List Bool} (h : IsB l L C) (hL : L = (n + 7) / 8) (h8 : n % 8 ≠ 0) (hd : l.getD (L - 1) 0 = d) (hd8 : d < 256) :
    IsB (l.set (L - 1) ((d &&& (2 ^ (n % 8) - 1) : Nat) : Int)) L (C.take n) := by
  have hle : d &&& (2 ^ (n % 8) - 1) ≤ d := Nat.and_le_left
  refine ⟨by simp [h.1], mem_set_bd h.2.1 _ ⟨by omega, by omega⟩, fun i => ?_⟩
  have hd' : ∀ t, d.testBit t = ((l.getD (L - 1) 0).toNat).testBit t := fun t => by rw [hd]; rfl
  rw [bit_put _ _ _ _ (by have := h.1; omega), h.2.2, getD_take]
  by_cases g : i / 8 = L - 1
  · rw [if_pos g, Nat.testBit_and, Nat.testBit_two_pow_sub_one, hd', ← g, ← bit_tb, h.2.2]
    by_cases g1 : i < n
    · rw [decide_eq_true g1, decide_eq_true (show i % 8 < n % 8 by omega)]; simp
    · rw [decide_eq_false g1, decide_eq_false (show ¬ i % 8 < n % 8 by omega)]; simp
  · rw [if_neg g]
    by_cases g1 : i < n
    · rw [decide_eq_true g1]; simp
    · rw [decide_eq_false g1, h.out (by omega)]; simp
end Cad
