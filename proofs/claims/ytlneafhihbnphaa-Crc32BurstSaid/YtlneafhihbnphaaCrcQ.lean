/- Bursts: bits of bytes that are flipped, and the sum. No Go function in sight. -/
import Derived.Test.YtlneafhihbnphaaCrcR
namespace Cad
open Go.Proofs.Ytlneafhihbnphaa

/-- lo is l, changed by the k lowest bits of ch from the bit i0 on -/
structure Flip (l lo : List Int) (i0 ch k : Nat) : Prop where
  len : lo.length = l.length
  wf : ∀ x ∈ lo, 0 ≤ x ∧ x ≤ 255
  bits : ∀ j, bit lo j = (bit l j ^^ (decide (i0 ≤ j) && (decide (j < i0 + k) && ch.testBit (j - i0))))

theorem bit_tb' (l : List Int) (i : Nat) : bit l i = (l.getD (i / 8) 0).toNat.testBit (i % 8) := by
  unfold bit
  rw [Nat.testBit_eq_decide_div_mod_eq]
  rfl
theorem Flip.zero {l : List Int} (hl : ∀ x ∈ l, 0 ≤ x ∧ x ≤ 255) (i0 ch : Nat) : Flip l l i0 ch 0 := by
  refine ⟨rfl, hl, fun j => ?_⟩
  by_cases h : i0 ≤ j
  · rw [decide_eq_false (show ¬ j < i0 + 0 by omega)]; simp
  · rw [decide_eq_false h]; simp
theorem Flip.off {l lo : List Int} {i0 ch k : Nat} (h : Flip l lo i0 ch k) (hc : ch.testBit k = false) : Flip l lo i0 ch (k + 1) := by
  refine ⟨h.len, h.wf, fun j => ?_⟩
  rw [h.bits j]
  congr 1
  by_cases h1 : i0 ≤ j
  · by_cases h2 : j < i0 + k
    · rw [decide_eq_true h2, decide_eq_true (show j < i0 + (k + 1) by omega)]
    · rw [decide_eq_false h2]
      by_cases h3 : j = i0 + k
      · subst h3; rw [show i0 + k - i0 = k by omega, hc]; simp
      · rw [decide_eq_false (show ¬ j < i0 + (k + 1) by omega)]
  · rw [decide_eq_false h1]; simp
theorem Flip.on {l lo : List Int} {i0 ch k d : Nat} (h : Flip l lo i0 ch k) (hc : ch.testBit k = true) (hi : i0 + k < 8 * l.length) (hd : lo.getD ((i0 + k) / 8) 0 = d) (hd8 : d < 256) :
    Flip l (lo.set ((i0 + k) / 8) ((d ^^^ 2 ^ ((i0 + k) % 8) : Nat) : Int)) i0 ch (k + 1) := by
  have hp : (i0 + k) / 8 < lo.length := by rw [h.len]; omega
  have h2 : 2 ^ ((i0 + k) % 8) < 2 ^ 8 := Nat.pow_lt_pow_right (by decide) (Nat.mod_lt _ (by decide))
  have hx : d ^^^ 2 ^ ((i0 + k) % 8) < 256 := Nat.xor_lt_two_pow (n := 8) hd8 h2
  refine ⟨by simp [h.len], ?_, fun j => ?_⟩
  · intro x hx'
    rcases List.mem_or_eq_of_mem_set hx' with h' | rfl
    · exact h.wf x h'
    · omega
  · have hb := h.bits j
    rw [bit_tb'] at hb ⊢
    have e : (lo.set ((i0 + k) / 8) ((d ^^^ 2 ^ ((i0 + k) % 8) : Nat) : Int)).getD (j / 8) 0 = if j / 8 = (i0 + k) / 8 then ((d ^^^ 2 ^ ((i0 + k) % 8) : Nat) : Int) else lo.getD (j / 8) 0 := by
      simp only [List.getD, List.getElem?_set]
      by_cases g : (i0 + k) / 8 = j / 8
      · rw [if_pos g, if_pos hp, if_pos g.symm]; rfl
      · rw [if_neg g, if_neg (fun e => g e.symm)]
    rw [e]
    by_cases g : j / 8 = (i0 + k) / 8
    · rw [if_pos g, Int.toNat_natCast, Nat.testBit_xor, Nat.testBit_two_pow]
      rw [g, hd, Int.toNat_natCast] at hb
      rw [hb]
      by_cases g2 : j = i0 + k
      · subst g2
        rw [decide_eq_true rfl, decide_eq_true (show i0 ≤ i0 + k by omega), decide_eq_false (show ¬ i0 + k < i0 + k by omega), decide_eq_true (show i0 + k < i0 + (k + 1) by omega), show i0 + k - i0 = k by omega, hc]
        simp
      · rw [decide_eq_false (show ¬ (i0 + k) % 8 = j % 8 by omega)]
        by_cases g3 : i0 ≤ j
        · by_cases g4 : j < i0 + k
          · rw [decide_eq_true g4, decide_eq_true (show j < i0 + (k + 1) by omega)]; simp
          · rw [decide_eq_false g4, decide_eq_false (show ¬ j < i0 + (k + 1) by omega)]; simp
        · rw [decide_eq_false g3]; simp
    · rw [if_neg g, hb]
      congr 1
      by_cases g3 : i0 ≤ j
      · by_cases g4 : j < i0 + k
        · rw [decide_eq_true g4, decide_eq_true (show j < i0 + (k + 1) by omega)]
        · have : j ≠ i0 + k := fun e => g (by rw [e])
          rw [decide_eq_false g4, decide_eq_false (show ¬ j < i0 + (k + 1) by omega)]
      · rw [decide_eq_false g3]; simp

theorem low_succ (ch k : Nat) : decide (ch % 2 ^ (k + 1) ≠ 0) = (decide (ch % 2 ^ k ≠ 0) || ch.testBit k) := by
  rw [Nat.testBit_eq_decide_div_mod_eq, Nat.pow_succ, Nat.mod_mul]
  have hp : 0 < 2 ^ k := Nat.pow_pos (by decide)
  rcases (show ch / 2 ^ k % 2 = 0 ∨ ch / 2 ^ k % 2 = 1 by omega) with h | h
  · rw [h]; simp
  · rw [h]
    have : ch % 2 ^ k + 2 ^ k * 1 ≠ 0 := by omega
    rw [decide_eq_true this]; simp

theorem crc_app3 (i r : Nat) (B : List Bool) (h : natB B = 0) : crcBits 0 (List.replicate i false ++ (B ++ List.replicate r false)) = 0 := by
  rw [crcBits_app, crcBits_app, crcBits_zeros, crcBits_zeros, iterZ_zero, crcBits_iter, Nat.zero_xor, h, iterZ_zero, iterZ_zero]

theorem getD_zipxor (A B : List Bool) (h : A.length = B.length) (i : Nat) : (List.zipWith xor A B).getD i false = (A.getD i false ^^ B.getD i false) := by
  by_cases hi : i < A.length
  · have h1 : i < (List.zipWith xor A B).length := by simp; omega
    have h2 : i < B.length := by omega
    simp only [List.getD, List.getElem?_eq_getElem h1, List.getElem?_eq_getElem hi, List.getElem?_eq_getElem h2, Option.getD_some, List.getElem_zipWith]
  · rw [getD_ge _ _ (by simp; omega), getD_ge A _ (by omega), getD_ge B _ (by omega)]; rfl

/-- the sum of bytes that are changed within 32 bits is another one if a bit is changed -/
theorem flip_sum {l lo : List Int} {i0 ch k : Nat} (h : Flip l lo i0 ch k) (hk : k ≤ 32) (hi : i0 + k ≤ 8 * l.length) : (crcSum l = crcSum lo) ↔ ch % 2 ^ k = 0 := by
  have hE : List.zipWith xor (bitsOf l) (bitsOf lo) = List.replicate i0 false ++ (numB ch k ++ List.replicate (8 * l.length - i0 - k) false) := by
    have hll : (bitsOf l).length = (bitsOf lo).length := by rw [bitsOf_len, bitsOf_len, h.len]
    apply ext_getD (by simp [bitsOf_len, h.len, numB_len]; omega)
    intro j hj
    simp [bitsOf_len, h.len] at hj
    rw [getD_zipxor _ _ hll, bitsOf_getD l j (by omega), bitsOf_getD lo j (by rw [h.len]; omega), h.bits j]
    have e1 : ∀ b c : Bool, (b ^^ (b ^^ c)) = c := by decide
    rw [e1]
    by_cases h1 : i0 ≤ j
    · rw [decide_eq_true h1]
      have e2 : (List.replicate i0 false ++ (numB ch k ++ List.replicate (8 * l.length - i0 - k) false)).getD j false = (numB ch k ++ List.replicate (8 * l.length - i0 - k) false).getD (j - i0) false := by
        simp only [List.getD]
        rw [List.getElem?_append_right (by simp; omega)]
        simp
      rw [e2]
      by_cases h2 : j < i0 + k
      · rw [decide_eq_true h2]
        have e3 : (numB ch k ++ List.replicate (8 * l.length - i0 - k) false).getD (j - i0) false = (numB ch k).getD (j - i0) false := by
          simp only [List.getD]
          rw [List.getElem?_append_left (by rw [numB_len]; omega)]
        rw [e3]
        simp only [numB, List.getD, List.getElem?_map, List.getElem?_range (show j - i0 < k by omega)]
        rw [Nat.testBit_eq_decide_div_mod_eq]
        rfl
      · rw [decide_eq_false h2]
        have e3 : (numB ch k ++ List.replicate (8 * l.length - i0 - k) false).getD (j - i0) false = false := by
          simp only [List.getD]
          rw [List.getElem?_append_right (by rw [numB_len]; omega)]
          simp only [List.getElem?_replicate]
          split <;> rfl
        rw [e3]; rfl
    · rw [decide_eq_false h1]
      have e2 : (List.replicate i0 false ++ (numB ch k ++ List.replicate (8 * l.length - i0 - k) false)).getD j false = false := by
        simp only [List.getD]
        rw [List.getElem?_append_left (by simp; omega)]
        simp only [List.getElem?_replicate]
        split <;> rfl
      rw [e2]; rfl
  have hx := crcBits_xor (bitsOf l) (bitsOf lo) 4294967295 4294967295 (by rw [bitsOf_len, bitsOf_len, h.len])
  rw [Nat.xor_self, hE, ← crcB_bits, ← crcB_bits] at hx
  have b1 := crcB_lt l (s := 4294967295) (by decide)
  have b2 := crcB_lt lo (s := 4294967295) (by decide)
  constructor
  · intro e
    have e' : crcB 4294967295 l = crcB 4294967295 lo := by unfold crcSum at e; omega
    rw [e', Nat.xor_self] at hx
    apply Classical.byContradiction
    intro hne
    exact burst_ne i0 _ (numB ch k) (by rw [numB_len]; exact hk) (by rw [natB_numB]; exact hne) hx
  · intro e
    rw [crc_app3 _ _ _ (by rw [natB_numB]; exact e)] at hx
    unfold crcSum
    rw [xor_eq_zero hx.symm]
end Cad
