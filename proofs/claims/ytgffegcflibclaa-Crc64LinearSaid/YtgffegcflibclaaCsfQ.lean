/- CRC-64: tables, linear over bytes, bursts of bytes. No Go function in sight. -/
import Derived.Test.YtgffegcflibclaaCsfP
namespace Cad

theorem iterY_up : ∀ (n m : Nat), 2 ^ n * m < 18446744073709551616 → iterY n m = 2 ^ n * m
  | 0, m, _ => by simp [iterY]
  | n + 1, m, h => by
    rw [Nat.pow_succ, Nat.mul_assoc] at h ⊢
    have hp : 0 < 2 ^ n := Nat.pow_pos (by decide)
    have h2 : 2 * m ≤ 2 ^ n * (2 * m) := Nat.le_mul_of_pos_left _ hp
    rw [iterY, csfZ_half (by omega), iterY_up n (2 * m) h]
theorem topB_upB : ∀ c : Fin 256, topB (upB c.val) = c.val * 72057594037927936 := of_decide_eq_true (by kernel_rfl)
theorem csfByte_iter {s c : Nat} (hs : s < 18446744073709551616) (hc : c < 256) : csfByte s c = iterY 8 (s ^^^ (c * 72057594037927936)) := by
  unfold csfByte
  rw [csfBits_iter _ s hs (by rw [upB_len]; decide), upB_len, topB_upB ⟨c, hc⟩]
theorem mul_pow_xor (n a b : Nat) : (a ^^^ b) * 2 ^ n = (a * 2 ^ n) ^^^ (b * 2 ^ n) := by
  rw [← Nat.shiftLeft_eq, ← Nat.shiftLeft_eq, ← Nat.shiftLeft_eq, Nat.shiftLeft_xor_distrib]
theorem up56_xor (a b : Nat) : (a ^^^ b) * 72057594037927936 = (a * 72057594037927936) ^^^ (b * 72057594037927936) := by
  have h := mul_pow_xor 56 a b
  rwa [show (2 : Nat) ^ 56 = 72057594037927936 by decide] at h
theorem up56_lt {c : Nat} (hc : c < 256) : c * 72057594037927936 < 18446744073709551616 := by
  have : c ≤ 255 := by omega
  exact Nat.lt_of_le_of_lt (Nat.mul_le_mul_right _ this) (by decide)
theorem csfByte_xor {s t c d : Nat} (hs : s < 18446744073709551616) (ht : t < 18446744073709551616) (hc : c < 256) (hd : d < 256) : csfByte (s ^^^ t) (c ^^^ d) = csfByte s c ^^^ csfByte t d := by
  have l1 := up56_lt hc
  have l2 := up56_lt hd
  rw [csfByte_iter hs hc, csfByte_iter ht hd, csfByte_iter (Nat.xor_lt_two_pow (n := 64) hs ht) (Nat.xor_lt_two_pow (n := 8) hc hd),
    ← iterY_xor 8 (Nat.xor_lt_two_pow (n := 64) hs l1) (Nat.xor_lt_two_pow (n := 64) ht l2), up56_xor]
  congr 1
  rw [Nat.xor_assoc, Nat.xor_assoc, ← Nat.xor_assoc t, ← Nat.xor_assoc (c * 72057594037927936), Nat.xor_comm t]
/-- the state behind a byte, by the table -/
theorem csfByte_table {s c : Nat} (hs : s < 18446744073709551616) (hc : c < 256) : csfByte s c = (256 * s) % 18446744073709551616 ^^^ csfByte 0 (s / 72057594037927936 ^^^ c) := by
  have hh : s / 72057594037927936 < 256 := by omega
  have hlo : s % 72057594037927936 < 72057594037927936 := Nat.mod_lt _ (by decide)
  have hx : s / 72057594037927936 ^^^ c < 256 := Nat.xor_lt_two_pow (n := 8) hh hc
  have es : s = (s % 72057594037927936) ^^^ (s / 72057594037927936 * 72057594037927936) := by
    apply Nat.eq_of_testBit_eq
    intro i
    rw [Nat.testBit_xor, show (72057594037927936 : Nat) = 2 ^ 56 by decide, Nat.mul_comm, Nat.testBit_two_pow_mul, Nat.testBit_mod_two_pow, Nat.testBit_div_two_pow]
    by_cases h : 56 ≤ i
    · rw [decide_eq_true h, decide_eq_false (show ¬ i < 56 by omega), show i - 56 + 56 = i by omega]; simp
    · rw [decide_eq_false h, decide_eq_true (show i < 56 by omega)]; simp
  have e : s ^^^ (c * 72057594037927936) = (s % 72057594037927936) ^^^ ((s / 72057594037927936 ^^^ c) * 72057594037927936) := by
    rw [up56_xor, ← Nat.xor_assoc, ← es]
  have hm : (256 * s) % 18446744073709551616 = 256 * (s % 72057594037927936) := by omega
  have hlo8 : 2 ^ 8 * (s % 72057594037927936) < 18446744073709551616 := by
    have : s % 72057594037927936 ≤ 72057594037927935 := by omega
    exact Nat.lt_of_le_of_lt (Nat.mul_le_mul_left _ this) (by decide)
  rw [csfByte_iter hs hc, csfByte_iter (s := 0) (by decide) hx, e, iterY_xor 8 (Nat.lt_trans hlo (by decide)) (up56_lt hx), iterY_up 8 _ hlo8, Nat.zero_xor, hm]

/-- two lists of bytes, changed by each other -/
theorem csfB_xorL : ∀ (a b : List Int) (s t : Nat), s < 18446744073709551616 → t < 18446744073709551616 → a.length = b.length → (∀ x ∈ a, 0 ≤ x ∧ x ≤ 255) → (∀ x ∈ b, 0 ≤ x ∧ x ≤ 255) →
    csfB (s ^^^ t) (List.zipWith (fun p q => ((p.toNat ^^^ q.toNat : Nat) : Int)) a b) = csfB s a ^^^ csfB t b
  | [], [], _, _, _, _, _, _, _ => rfl
  | p :: a, q :: b, s, t, hs, ht, h, ha, hb => by
    have h1 := ha p (by simp)
    have h2 := hb q (by simp)
    show csfB (csfByte (s ^^^ t) ((p.toNat ^^^ q.toNat : Nat) : Int).toNat) (List.zipWith (fun p q => ((p.toNat ^^^ q.toNat : Nat) : Int)) a b) = csfB (csfByte s p.toNat) a ^^^ csfB (csfByte t q.toNat) b
    rw [Int.toNat_natCast, csfByte_xor hs ht (by omega) (by omega), csfB_xorL a b _ _ (csfByte_lt hs _) (csfByte_lt ht _) (by simpa using h) (fun x hx => ha x (by simp [hx])) (fun x hx => hb x (by simp [hx]))]
  | [], _ :: _, _, _, _, _, h, _, _ => by simp at h
  | _ :: _, [], _, _, _, _, h, _, _ => by simp at h

/-- lo is l, changed by the k lowest bits of ch from the bit i0 on, the highest one of a byte first -/
structure FlipM (l lo : List Int) (i0 ch k : Nat) : Prop where
  len : lo.length = l.length
  wf : ∀ x ∈ lo, 0 ≤ x ∧ x ≤ 255
  bits : ∀ j, bitM lo j = (bitM l j ^^ (decide (i0 ≤ j) && (decide (j < i0 + k) && ch.testBit (j - i0))))

theorem FlipM.zero {l : List Int} (hl : ∀ x ∈ l, 0 ≤ x ∧ x ≤ 255) (i0 ch : Nat) : FlipM l l i0 ch 0 := by
  refine ⟨rfl, hl, fun j => ?_⟩
  by_cases h : i0 ≤ j
  · rw [decide_eq_false (show ¬ j < i0 + 0 by omega)]; simp
  · rw [decide_eq_false h]; simp
theorem FlipM.off {l lo : List Int} {i0 ch k : Nat} (h : FlipM l lo i0 ch k) (hc : ch.testBit k = false) : FlipM l lo i0 ch (k + 1) := by
  refine ⟨h.len, h.wf, fun j => ?_⟩
  rw [h.bits j]
  congr 1
  by_cases h1 : i0 ≤ j
  · by_cases h2 : j < i0 + k
    · rw [decide_eq_true h2, decide_eq_true (show j < i0 + (k + 1) by omega)]
    · rw [decide_eq_false h2]
      by_cases h3 : j = i0 + k
      · subst h3; rw [show i0 + k - i0 = k by omega, hc]; simp
      · rw [decide_eq_false (show ¬ j < i0 + (k + 1) by omega)]
  · rw [decide_eq_false h1]; simp
theorem FlipM.on {l lo : List Int} {i0 ch k d : Nat} (h : FlipM l lo i0 ch k) (hc : ch.testBit k = true) (hi : i0 + k < 8 * l.length) (hd : lo.getD ((i0 + k) / 8) 0 = d) (hd8 : d < 256) :
    FlipM l (lo.set ((i0 + k) / 8) ((d ^^^ 2 ^ (7 - (i0 + k) % 8) : Nat) : Int)) i0 ch (k + 1) := by
  have hp : (i0 + k) / 8 < lo.length := by rw [h.len]; omega
  have h2 : 2 ^ (7 - (i0 + k) % 8) < 2 ^ 8 := Nat.pow_lt_pow_right (by decide) (by omega)
  have hx : d ^^^ 2 ^ (7 - (i0 + k) % 8) < 256 := Nat.xor_lt_two_pow (n := 8) hd8 h2
  refine ⟨by simp [h.len], ?_, fun j => ?_⟩
  · intro x hx'
    rcases List.mem_or_eq_of_mem_set hx' with h' | rfl
    · exact h.wf x h'
    · omega
  · have hb := h.bits j
    unfold bitM at hb ⊢
    have e : (lo.set ((i0 + k) / 8) ((d ^^^ 2 ^ (7 - (i0 + k) % 8) : Nat) : Int)).getD (j / 8) 0 = if j / 8 = (i0 + k) / 8 then ((d ^^^ 2 ^ (7 - (i0 + k) % 8) : Nat) : Int) else lo.getD (j / 8) 0 := by
      simp only [List.getD, List.getElem?_set]
      by_cases g : (i0 + k) / 8 = j / 8
      · rw [if_pos g, if_pos hp, if_pos g.symm]; rfl
      · rw [if_neg g, if_neg (fun e => g e.symm)]
    rw [e]
    by_cases g : j / 8 = (i0 + k) / 8
    · rw [if_pos g, Int.toNat_natCast, Nat.testBit_xor, Nat.testBit_two_pow]
      rw [g] at hb ⊢
      rw [hd, Int.toNat_natCast] at hb
      rw [hb]
      by_cases g2 : j = i0 + k
      · subst g2
        rw [decide_eq_true rfl, decide_eq_true (show i0 ≤ i0 + k by omega), decide_eq_false (show ¬ i0 + k < i0 + k by omega), decide_eq_true (show i0 + k < i0 + (k + 1) by omega), show i0 + k - i0 = k by omega, hc]
        simp
      · rw [decide_eq_false (show ¬ 7 - (i0 + k) % 8 = 7 - j % 8 by omega)]
        by_cases g3 : i0 ≤ j
        · by_cases g4 : j < i0 + k
          · rw [decide_eq_true g4, decide_eq_true (show j < i0 + (k + 1) by omega)]; simp
          · rw [decide_eq_false g4, decide_eq_false (show ¬ j < i0 + (k + 1) by omega)]; simp
        · rw [decide_eq_false g3]; simp
    · rw [if_neg g, hb]
      congr 1
      by_cases g3 : i0 ≤ j
      · by_cases g4 : j < i0 + k
        · rw [decide_eq_true g4, decide_eq_true (show j < i0 + (k + 1) by omega)]
        · have : j ≠ i0 + k := fun e => g (by rw [e])
          rw [decide_eq_false g4, decide_eq_false (show ¬ j < i0 + (k + 1) by omega)]
      · rw [decide_eq_false g3]; simp

theorem low_succS (ch k : Nat) : decide (ch % 2 ^ (k + 1) ≠ 0) = (decide (ch % 2 ^ k ≠ 0) || ch.testBit k) := by
  rw [Nat.testBit_eq_decide_div_mod_eq, Nat.pow_succ, Nat.mod_mul]
  have hp : 0 < 2 ^ k := Nat.pow_pos (by decide)
  rcases (show ch / 2 ^ k % 2 = 0 ∨ ch / 2 ^ k % 2 = 1 by omega) with h | h
  · rw [h]; simp
  · rw [h]
    have : ch % 2 ^ k + 2 ^ k * 1 ≠ 0 := by omega
    rw [decide_eq_true this]; simp

theorem numB_zero_iff (ch k : Nat) : numB ch k = List.replicate k false ↔ ch % 2 ^ k = 0 := by
  rw [← natB_numB]
  constructor
  · intro e; rw [e, natB_zeros]
  · intro e
    have := numB_natB (numB ch k)
    rw [e, numB_len] at this
    rw [← this]
    apply ext_getD (by simp [numB_len])
    intro i hi
    rw [numB_len] at hi
    simp [numB, List.getD, hi]

theorem getD_zipxor' (A B : List Bool) (h : A.length = B.length) (i : Nat) : (List.zipWith xor A B).getD i false = (A.getD i false ^^ B.getD i false) := by
  by_cases hi : i < A.length
  · have h1 : i < (List.zipWith xor A B).length := by simp; omega
    have h2 : i < B.length := by omega
    simp only [List.getD, List.getElem?_eq_getElem h1, List.getElem?_eq_getElem hi, List.getElem?_eq_getElem h2, Option.getD_some, List.getElem_zipWith]
  · rw [getD_ge _ _ (by simp; omega), getD_ge A _ (by omega), getD_ge B _ (by omega)]; rfl

/-- the sum of bytes that are changed within 64 bits is another one if a bit is changed -/
theorem flip_csf {l lo : List Int} {i0 ch k : Nat} (h : FlipM l lo i0 ch k) (hk : k ≤ 64) (hi : i0 + k ≤ 8 * l.length) : (csfB 0 l = csfB 0 lo) ↔ ch % 2 ^ k = 0 := by
  have hE : List.zipWith xor (bitsOfM l) (bitsOfM lo) = List.replicate i0 false ++ (numB ch k ++ List.replicate (8 * l.length - i0 - k) false) := by
    have hll : (bitsOfM l).length = (bitsOfM lo).length := by rw [bitsOfM_len, bitsOfM_len, h.len]
    apply ext_getD (by simp [bitsOfM_len, h.len, numB_len]; omega)
    intro j hj
    simp [bitsOfM_len, h.len] at hj
    rw [getD_zipxor' _ _ hll, bitsOfM_getD l j (by omega), bitsOfM_getD lo j (by rw [h.len]; omega), h.bits j]
    have e1 : ∀ b c : Bool, (b ^^ (b ^^ c)) = c := by decide
    rw [e1]
    by_cases h1 : i0 ≤ j
    · rw [decide_eq_true h1]
      have e2 : (List.replicate i0 false ++ (numB ch k ++ List.replicate (8 * l.length - i0 - k) false)).getD j false = (numB ch k ++ List.replicate (8 * l.length - i0 - k) false).getD (j - i0) false := by
        simp only [List.getD]
        rw [List.getElem?_append_right (by simp; omega)]
        simp
      rw [e2]
      by_cases h2 : j < i0 + k
      · rw [decide_eq_true h2]
        have e3 : (numB ch k ++ List.replicate (8 * l.length - i0 - k) false).getD (j - i0) false = (numB ch k).getD (j - i0) false := by
          simp only [List.getD]
          rw [List.getElem?_append_left (by rw [numB_len]; omega)]
        rw [e3]
        simp only [numB, List.getD, List.getElem?_map, List.getElem?_range (show j - i0 < k by omega)]
        rw [Nat.testBit_eq_decide_div_mod_eq]
        rfl
      · rw [decide_eq_false h2]
        have e3 : (numB ch k ++ List.replicate (8 * l.length - i0 - k) false).getD (j - i0) false = false := by
          simp only [List.getD]
          rw [List.getElem?_append_right (by rw [numB_len]; omega)]
          simp only [List.getElem?_replicate]
          split <;> rfl
        rw [e3]; rfl
    · rw [decide_eq_false h1]
      have e2 : (List.replicate i0 false ++ (numB ch k ++ List.replicate (8 * l.length - i0 - k) false)).getD j false = false := by
        simp only [List.getD]
        rw [List.getElem?_append_left (by simp; omega)]
        simp only [List.getElem?_replicate]
        split <;> rfl
      rw [e2]; rfl
  have hx := csfBits_xor (bitsOfM l) (bitsOfM lo) 0 0 (by decide) (by decide) (by rw [bitsOfM_len, bitsOfM_len, h.len])
  rw [Nat.xor_self, hE, ← csfB_bits, ← csfB_bits] at hx
  have hb := csfBurst i0 (8 * l.length - i0 - k) (numB ch k) (by rw [numB_len]; exact hk)
  rw [numB_len, numB_zero_iff, hx] at hb
  rw [← hb]
  constructor
  · intro e; rw [e, Nat.xor_self]
  · intro e; exact xor_eq_zero e
end Cad
