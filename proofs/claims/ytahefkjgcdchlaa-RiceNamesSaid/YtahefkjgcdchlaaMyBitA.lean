/- Contracts of the package bits: sizes, spare bits, checks. -/
import Derived.Test.YtahefkjgcdchlaaBitB
namespace Go.Proofs.Ytahefkjgcdchlaa
open Go.RowKit Cad

theorem spare_iff {l : List Int} {n : Nat} (hl : ∀ x ∈ l, 0 ≤ x ∧ x ≤ 255) (hlen : l.length = (n + 7) / 8) (hn : n ≤ 330000) : Valid l n ↔ n % 8 = 0 ∨ l.getD (l.length - 1) 0 / 2 ^ (n % 8) = 0 := by
  constructor
  · rintro ⟨B, hB, _, rfl⟩
    have hB : B.length = n := by omega
    by_cases h8 : n % 8 = 0
    · exact .inl h8
    · refine .inr ?_
      rw [pack_getD _ _ (by omega), hlen]
      have hb := byteN_lt B ((n + 7) / 8 - 1)
      have hz : byteN B ((n + 7) / 8 - 1) / 2 ^ (n % 8) = 0 := by
        apply Nat.div_eq_of_lt
        apply Nat.lt_pow_two_of_testBit
        intro i hi
        rw [Nat.testBit_eq_decide_div_mod_eq]
        by_cases h : i < 8
        · have := byteN_bit B ((n + 7) / 8 - 1) i h
          rw [getD_ge B _ (by omega)] at this
          simpa using this
        · have : byteN B ((n + 7) / 8 - 1) / 2 ^ i = 0 := Nat.div_eq_of_lt (Nat.lt_of_lt_of_le hb (Nat.pow_le_pow_right (n := 2) (by decide) (show 8 ≤ i by omega)))
          rw [this]; rfl
      generalize byteN B ((n + 7) / 8 - 1) = c at *
      rw [show ((c : Int) / 2 ^ (n % 8)) = ((c / 2 ^ (n % 8) : Nat) : Int) by simp, hz]; rfl
  · intro h
    refine Valid_of hl (by omega) (by omega) (by omega) fun i hi hj => ?_
    rcases h with h | h
    · omega
    · have hj' : i / 8 = l.length - 1 := by omega
      unfold bit
      rw [hj']
      have hb := getD_bd hl (l.length - 1)
      obtain ⟨c, hc⟩ : ∃ c : Nat, l.getD (l.length - 1) 0 = c := ⟨(l.getD (l.length - 1) 0).toNat, by omega⟩
      rw [hc] at h ⊢
      have h0 : c / 2 ^ (n % 8) = 0 := by
        have : ((c : Int) / 2 ^ (n % 8)) = ((c / 2 ^ (n % 8) : Nat) : Int) := by simp
        omega
      have h1 : c / 2 ^ (i % 8) = 0 := by
        have : i % 8 = n % 8 + (i % 8 - n % 8) := by omega
        rw [this, Nat.pow_add, ← Nat.div_div_eq_div_mul, h0]; simp
      rw [Int.toNat_natCast, h1]; rfl

theorem Bsize_ok (W : World) (n : Nat) (h1 : n ≤ 1000000000) :
    Calls Try.prog 42 #[.int .i64 n] W fun e W' => e = .returned (.int .i64 (((n + 7) / 8 : Nat) : Int)) ∧ W = W' := by
  go_enter Try.func42, Try.ntmps42
  go_wp2
  go_ret
  exact ⟨by go_num, rfl⟩

/-- what spare says of the last byte -/
def spareV (l : List Int) (n : Nat) : Int := if n % 8 = 0 then 0 else l.getD (l.length - 1) 0 / 2 ^ (n % 8)
theorem Bspare_ok (W : World) (a : Option Addr) (len cap : Nat) (n : Nat) (l : List Int) (hr : Row .u8 W a len cap l) (hn : n ≤ 330000) (hl : len = (n + 7) / 8) :
    Calls Try.prog 43 #[.agg #[.slice a len cap, .int .i64 n]] W fun e W' => e = .returned (.int .u8 (spareV l n)) ∧ Below W.heap.size W W' := by
  have hbE := (Below.refl W.heap.size W).alloc (Nat.le_refl _) (.cells #[.slice a len cap, .int .i64 n] 28)
  have hmax := hr.hmax
  have hcap := hr.hcap
  have hlen := hr.hlen
  unfold maxLen at hmax
  unfold spareV
  by_cases h8 : n % 8 = 0
  · rw [if_pos h8]
    clear hl hlen
    go_enter Try.func43, Try.ntmps43
    go_wp2
    go_ret
    exact ⟨rfl, hbE⟩
  · rw [if_neg h8]
    obtain ⟨b, off, rfl, hlt, hc⟩ := hr.cells (by omega)
    have hcell := hc (len - 1) (by omega)
    have hb := getD_bd (u8_bd hr.wf) (len - 1)
    have hp : 1 ≤ len := by omega
    rw [hlen]
    obtain ⟨c, hcc⟩ : ∃ c, c = l.getD (len - 1) 0 := ⟨_, rfl⟩
    rw [← hcc] at hcell hb ⊢
    clear hcc hc hr hl hlen
    go_enter Try.func43, Try.ntmps43
    go_wp2
    go_ret
    exact ⟨by go_num, hbE⟩
end Go.Proofs.Ytahefkjgcdchlaa
