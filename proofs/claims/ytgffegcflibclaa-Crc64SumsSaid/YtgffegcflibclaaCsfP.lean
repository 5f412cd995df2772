/- CRC-64, the highest bit first, on numbers: a step, a byte, bytes; linear, injective, bursts. No Go function in sight. -/
import Derived.Test.YtgffegcflibclaaCrcP
namespace Cad

/-- a step with the bit 0 -/
def csfZ (s : Nat) : Nat := (2 * s) % 18446744073709551616 ^^^ (if 9223372036854775808 ≤ s then 0x42f0e1eba9ea3693 else 0)
def csfStep (s : Nat) (b : Bool) : Nat := csfZ (s ^^^ (b.toNat * 9223372036854775808))
def csfBits (s : Nat) (B : List Bool) : Nat := B.foldl csfStep s
/-- the bits of a byte, the highest one first -/
def upB (c : Nat) : List Bool := (numB c 8).reverse
def csfByte (s c : Nat) : Nat := csfBits s (upB c)
def csfB (s : Nat) (l : List Int) : Nat := l.foldl (fun s c => csfByte s c.toNat) s

theorem upB_len (c : Nat) : (upB c).length = 8 := by simp [upB, numB_len]
theorem top_tb {s : Nat} (h : s < 18446744073709551616) : decide (9223372036854775808 ≤ s) = s.testBit 63 := by
  rw [Nat.testBit_eq_decide_div_mod_eq]
  by_cases g : 9223372036854775808 ≤ s
  · rw [decide_eq_true g, decide_eq_true (by omega)]
  · rw [decide_eq_false g, decide_eq_false (by omega)]
theorem dbl_tb (s i : Nat) : ((2 * s) % 18446744073709551616).testBit i = (decide (i < 64) && (decide (1 ≤ i) && s.testBit (i - 1))) := by
  rw [show (18446744073709551616 : Nat) = 2 ^ 64 by decide, Nat.testBit_mod_two_pow, show 2 * s = 2 ^ 1 * s by omega, Nat.testBit_two_pow_mul]
theorem csfZ_xor {a b : Nat} (ha : a < 18446744073709551616) (hb : b < 18446744073709551616) : csfZ (a ^^^ b) = csfZ a ^^^ csfZ b := by
  have hab : a ^^^ b < 18446744073709551616 := Nat.xor_lt_two_pow (n := 64) ha hb
  have e : ∀ s, s < 18446744073709551616 → (if 9223372036854775808 ≤ s then 0x42f0e1eba9ea3693 else 0) = if s.testBit 63 = true then 0x42f0e1eba9ea3693 else 0 := fun s hs => by
    rw [← top_tb hs]; simp
  unfold csfZ
  rw [e _ hab, e _ ha, e _ hb, Nat.testBit_xor]
  have h2 : (2 * (a ^^^ b)) % 18446744073709551616 = ((2 * a) % 18446744073709551616) ^^^ ((2 * b) % 18446744073709551616) := by
    apply Nat.eq_of_testBit_eq
    intro i
    rw [Nat.testBit_xor, dbl_tb, dbl_tb, dbl_tb, Nat.testBit_xor]
    cases decide (i < 64) <;> cases decide (1 ≤ i) <;> simp
  rw [h2]
  generalize (2 * a) % 18446744073709551616 = x
  generalize (2 * b) % 18446744073709551616 = y
  cases a.testBit 63 <;> cases b.testBit 63
  · simp
  · simp [Nat.xor_assoc]
  · simp only [Bool.xor_false, if_true, if_neg (show ¬ (false = true) by decide), Nat.xor_zero]
    rw [Nat.xor_assoc, Nat.xor_assoc, Nat.xor_comm y]
  · have : (x ^^^ 0x42f0e1eba9ea3693) ^^^ (y ^^^ 0x42f0e1eba9ea3693) = x ^^^ y := by
      rw [Nat.xor_comm y, Nat.xor_assoc, ← Nat.xor_assoc 0x42f0e1eba9ea3693, Nat.xor_self, Nat.zero_xor]
    simpa using this.symm
theorem csfZ_zero : csfZ 0 = 0 := by decide
theorem csfZ_lt (s : Nat) : csfZ s < 18446744073709551616 := by
  unfold csfZ
  refine Nat.xor_lt_two_pow (n := 64) (Nat.mod_lt _ (by decide)) ?_
  split <;> decide
theorem csfZ_half {m : Nat} (h : 2 * m < 18446744073709551616) : csfZ m = 2 * m := by
  unfold csfZ
  rw [if_neg (by omega), Nat.mod_eq_of_lt h, Nat.xor_zero]
theorem csfZ_ne {s : Nat} (h : s < 18446744073709551616) (h0 : s ≠ 0) : csfZ s ≠ 0 := by
  by_cases ho : 9223372036854775808 ≤ s
  · unfold csfZ
    rw [if_pos ho]
    intro e
    have hb : ((2 * s) % 18446744073709551616 ^^^ 0x42f0e1eba9ea3693).testBit 0 = true := by
      rw [Nat.testBit_xor, dbl_tb, decide_eq_false (show ¬ 1 ≤ 0 by decide), show Nat.testBit 0x42f0e1eba9ea3693 0 = true by decide]; simp
    rw [e] at hb
    simp at hb
  · rw [csfZ_half (by omega)]; omega

theorem bit63_lt (b : Bool) : b.toNat * 9223372036854775808 < 18446744073709551616 := by cases b <;> decide
theorem csfStep_lt (s : Nat) (b : Bool) : csfStep s b < 18446744073709551616 := csfZ_lt _
theorem csfStep_xor {s t : Nat} (hs : s < 18446744073709551616) (ht : t < 18446744073709551616) (b c : Bool) : csfStep (s ^^^ t) (b ^^ c) = csfStep s b ^^^ csfStep t c := by
  unfold csfStep
  rw [← csfZ_xor (Nat.xor_lt_two_pow (n := 64) hs (bit63_lt b)) (Nat.xor_lt_two_pow (n := 64) ht (bit63_lt c))]
  congr 1
  have e : (b ^^ c).toNat * 9223372036854775808 = b.toNat * 9223372036854775808 ^^^ c.toNat * 9223372036854775808 := by cases b <;> cases c <;> rfl
  rw [e, Nat.xor_assoc, Nat.xor_assoc, ← Nat.xor_assoc t, ← Nat.xor_assoc (b.toNat * _), Nat.xor_comm t]
theorem csfBits_lt : ∀ (B : List Bool) {s : Nat}, s < 18446744073709551616 → csfBits s B < 18446744073709551616
  | [], _, h => h
  | b :: B, s, _ => csfBits_lt B (csfStep_lt s b)
theorem csfByte_lt {s : Nat} (h : s < 18446744073709551616) (c : Nat) : csfByte s c < 18446744073709551616 := csfBits_lt _ h
theorem csfB_lt : ∀ (l : List Int) {s : Nat}, s < 18446744073709551616 → csfB s l < 18446744073709551616
  | [], _, h => h
  | c :: l, _, h => csfB_lt l (csfByte_lt h c.toNat)
theorem csfBits_app (s : Nat) (A B : List Bool) : csfBits s (A ++ B) = csfBits (csfBits s A) B := List.foldl_append
theorem csfB_app (s : Nat) (a b : List Int) : csfB s (a ++ b) = csfB (csfB s a) b := List.foldl_append
theorem csfB_snoc (s : Nat) (l : List Int) {k : Nat} (h : k < l.length) : csfB s (l.take (k + 1)) = csfByte (csfB s (l.take k)) (l.getD k 0).toNat := by
  rw [List.take_add_one, List.getElem?_eq_getElem h]
  show csfB s (List.take k l ++ [l[k]]) = _
  rw [csfB_app]
  simp [csfB, List.getD, h]

/-- bit i of bytes, the highest one of each first -/
def bitM (l : List Int) (i : Nat) : Bool := (l.getD (i / 8) 0).toNat.testBit (7 - i % 8)
def bitsOfM (l : List Int) : List Bool := l.flatMap fun c => upB c.toNat
theorem csfB_bits : ∀ (l : List Int) (s : Nat), csfB s l = csfBits s (bitsOfM l)
  | [], _ => rfl
  | c :: l, s => by
    show csfB (csfByte s c.toNat) l = csfBits s (upB c.toNat ++ bitsOfM l)
    rw [csfBits_app, csfB_bits l]
    rfl
theorem bitsOfM_len : ∀ l : List Int, (bitsOfM l).length = 8 * l.length
  | [] => rfl
  | c :: l => by
    show (upB c.toNat ++ bitsOfM l).length = _
    rw [List.length_append, upB_len, bitsOfM_len l, List.length_cons]; omega
theorem upB_getD (c i : Nat) (h : i < 8) : (upB c).getD i false = c.testBit (7 - i) := by
  unfold upB
  simp only [List.getD]
  rw [List.getElem?_reverse (by rw [numB_len]; exact h), numB_len]
  simp only [numB, List.getElem?_map, List.getElem?_range (show 8 - 1 - i < 8 by omega)]
  rw [Nat.testBit_eq_decide_div_mod_eq, show 8 - 1 - i = 7 - i by omega]
  rfl
theorem bitsOfM_getD : ∀ (l : List Int) (i : Nat), i < 8 * l.length → (bitsOfM l).getD i false = bitM l i
  | [], i, h => by simp at h
  | c :: l, i, h => by
    show (upB c.toNat ++ bitsOfM l).getD i false = _
    by_cases hi : i < 8
    · have e : (upB c.toNat ++ bitsOfM l).getD i false = (upB c.toNat).getD i false := by
        simp [List.getD, List.getElem?_append_left, upB_len, hi]
      rw [e, upB_getD _ _ hi]
      unfold bitM
      rw [show i / 8 = 0 by omega, show i % 8 = i by omega]
      rfl
    · have e : (upB c.toNat ++ bitsOfM l).getD i false = (bitsOfM l).getD (i - 8) false := by
        simp only [List.getD]
        rw [List.getElem?_append_right (by rw [upB_len]; omega), upB_len]
      rw [e, bitsOfM_getD l (i - 8) (by rw [List.length_cons] at h; omega)]
      unfold bitM
      rw [show i / 8 = (i - 8) / 8 + 1 by omega, show i % 8 = (i - 8) % 8 by omega]
      rfl

theorem csfBits_xor : ∀ (A B : List Bool) (s t : Nat), s < 18446744073709551616 → t < 18446744073709551616 → A.length = B.length → csfBits (s ^^^ t) (List.zipWith xor A B) = csfBits s A ^^^ csfBits t B
  | [], [], _, _, _, _, _ => rfl
  | a :: A, b :: B, s, t, hs, ht, h => by
    show csfBits (csfStep (s ^^^ t) (a ^^ b)) (List.zipWith xor A B) = csfBits (csfStep s a) A ^^^ csfBits (csfStep t b) B
    rw [csfStep_xor hs ht, csfBits_xor A B _ _ (csfStep_lt _ _) (csfStep_lt _ _) (by simpa using h)]
  | [], _ :: _, _, _, _, _, h => by simp at h
  | _ :: _, [], _, _, _, _, h => by simp at h

def iterY : Nat → Nat → Nat
  | 0, s => s
  | n + 1, s => iterY n (csfZ s)
theorem iterY_xor : ∀ (n : Nat) {a b : Nat}, a < 18446744073709551616 → b < 18446744073709551616 → iterY n (a ^^^ b) = iterY n a ^^^ iterY n b
  | 0, _, _, _, _ => rfl
  | n + 1, a, b, ha, hb => by rw [iterY, csfZ_xor ha hb, iterY_xor n (csfZ_lt _) (csfZ_lt _)]; rfl
theorem iterY_ne : ∀ (n : Nat) {s : Nat}, s < 18446744073709551616 → s ≠ 0 → iterY n s ≠ 0
  | 0, _, _, h => h
  | n + 1, s, h, h0 => iterY_ne n (csfZ_lt s) (csfZ_ne h h0)
theorem iterY_zero : ∀ n : Nat, iterY n 0 = 0
  | 0 => rfl
  | n + 1 => by rw [iterY, csfZ_zero, iterY_zero n]
theorem csfBits_zeros : ∀ (n s : Nat), s < 18446744073709551616 → csfBits s (List.replicate n false) = iterY n s
  | 0, _, _ => rfl
  | n + 1, s, h => by
    rw [List.replicate_succ]
    show csfBits (csfZ (s ^^^ (false.toNat * 9223372036854775808))) (List.replicate n false) = _
    rw [show false.toNat * 9223372036854775808 = 0 from rfl, Nat.xor_zero, csfBits_zeros n _ (csfZ_lt s)]
    rfl
/-- bits as a number, the first one the highest of 64 -/
def topB : List Bool → Nat
  | [] => 0
  | b :: B => b.toNat * 9223372036854775808 + topB B / 2
theorem topB_lt : ∀ B : List Bool, topB B < 18446744073709551616
  | [] => by decide
  | b :: B => by
    have := topB_lt B
    have := Bool.toNat_le b
    simp only [topB]; omega
theorem topB_low : ∀ (B : List Bool) (k : Nat), B.length + k ≤ 64 → topB B % 2 ^ k = 0
  | [], k, _ => by simp [topB]
  | b :: B, k, h => by
    rw [List.length_cons] at h
    have ih := topB_low B (k + 1) (by omega)
    simp only [topB]
    have h1 : topB B / 2 % 2 ^ k = 0 := by
      rw [Nat.pow_succ'] at ih
      obtain ⟨q, hq⟩ := Nat.dvd_of_mod_eq_zero ih
      rw [hq, Nat.mul_assoc, Nat.mul_div_cancel_left _ (by decide)]
      simp
    have h2 : b.toNat * 9223372036854775808 % 2 ^ k = 0 := by
      have : (9223372036854775808 : Nat) = 2 ^ k * 2 ^ (63 - k) := by rw [← Nat.pow_add, show k + (63 - k) = 63 by omega]
      rw [this, ← Nat.mul_assoc, Nat.mul_comm b.toNat, Nat.mul_assoc]
      simp
    rw [Nat.add_mod, h1, h2]; simp
theorem csfBits_iter : ∀ (B : List Bool) (s : Nat), s < 18446744073709551616 → B.length ≤ 64 → csfBits s B = iterY B.length (s ^^^ topB B)
  | [], s, _, _ => by simp [topB, csfBits, iterY]
  | b :: B, s, hs, h => by
    rw [List.length_cons] at h
    show csfBits (csfZ (s ^^^ (b.toNat * 9223372036854775808))) B = _
    rw [csfBits_iter B _ (csfZ_lt _) (by omega), List.length_cons, iterY, topB]
    congr 1
    have ht := topB_lt B
    have hl := topB_low B 1 (by omega)
    have e : b.toNat * 9223372036854775808 + topB B / 2 = (b.toNat * 9223372036854775808) ^^^ (topB B / 2) := by
      apply Nat.eq_of_testBit_eq
      intro i
      have hlt : topB B / 2 < 2 ^ 63 := by omega
      rw [show b.toNat * 9223372036854775808 = 2 ^ 63 * b.toNat by omega, Nat.testBit_two_pow_mul_add _ hlt, Nat.testBit_xor, Nat.testBit_two_pow_mul]
      by_cases g : i < 63
      · simp [g, show ¬ 63 ≤ i by omega]
      · have : (topB B / 2).testBit i = false := Nat.testBit_lt_two_pow (Nat.lt_of_lt_of_le hlt (Nat.pow_le_pow_right (n := 2) (by decide) (by omega)))
        simp [g, this, show 63 ≤ i by omega]
    rw [e, ← Nat.xor_assoc, csfZ_xor (Nat.xor_lt_two_pow (n := 64) hs (bit63_lt b)) (show topB B / 2 < 18446744073709551616 by omega), csfZ_half (show 2 * (topB B / 2) < 18446744073709551616 by omega)]
    congr 1
    omega
theorem topB_zero : ∀ B : List Bool, B.length ≤ 64 → (topB B = 0 ↔ B = List.replicate B.length false)
  | [], _ => by simp [topB]
  | b :: B, h => by
    rw [List.length_cons] at h
    have ih := topB_zero B (by omega)
    have hl := topB_low B 1 (by omega)
    have ht := topB_lt B
    simp only [topB, List.length_cons, List.replicate_succ, List.cons.injEq]
    constructor
    · intro e
      refine ⟨?_, ih.1 (by omega)⟩
      cases b
      · rfl
      · simp at e
    · rintro ⟨rfl, h2⟩
      rw [ih.2 h2]; rfl
/-- a burst changes the state -/
theorem csfBurst (i r : Nat) (B : List Bool) (hB : B.length ≤ 64) : csfBits 0 (List.replicate i false ++ (B ++ List.replicate r false)) = 0 ↔ B = List.replicate B.length false := by
  rw [csfBits_app, csfBits_app, csfBits_zeros i 0 (by decide), iterY_zero, csfBits_iter B 0 (by decide) hB, Nat.zero_xor]
  have h2 : iterY B.length (topB B) < 18446744073709551616 := by
    have := csfBits_lt B (s := 0) (by decide)
    rwa [csfBits_iter B 0 (by decide) hB, Nat.zero_xor] at this
  rw [csfBits_zeros _ _ h2, ← topB_zero B hB]
  constructor
  · intro e
    apply Classical.byContradiction
    intro hne
    exact iterY_ne r h2 (iterY_ne _ (topB_lt B) hne) e
  · intro e
    rw [e, iterY_zero, iterY_zero]
end Cad
