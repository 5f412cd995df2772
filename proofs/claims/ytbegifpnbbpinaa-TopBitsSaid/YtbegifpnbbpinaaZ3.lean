/- Texts of the proof, one behind the other: CrcP, CsfP, CsfQ, FolP, TopB, MyBitA, RegT, MyBitB, MyBitC, MyBitJ. -/
import Derived.Test.YtbegifpnbbpinaaZ2
import Derived.Laws.BitsAllLaws
import Derived.WalkArith
import Derived.Deep.QuietTactic
import Derived.BigQuiet
import Derived.Laws.CopyOwn
/- CRC-32 on numbers: a step, a byte, bytes; linear, injective, bursts. No Go function in sight. -/
namespace Cad

/-- a step with the bit 0 -/
def crcZ (s : Nat) : Nat := s / 2 ^^^ (if s % 2 = 1 then 3988292384 else 0)
def crcStep (s : Nat) (b : Bool) : Nat := crcZ (s ^^^ b.toNat)
def crcBits (s : Nat) (B : List Bool) : Nat := B.foldl crcStep s
def crcByte (s c : Nat) : Nat := crcBits s (numB c 8)
def crcB (s : Nat) (l : List Int) : Nat := l.foldl (fun s c => crcByte s c.toNat) s

theorem xor_div2 (a b : Nat) : (a ^^^ b) / 2 = a / 2 ^^^ b / 2 := by
  apply Nat.eq_of_testBit_eq
  intro i
  rw [← Nat.testBit_succ, Nat.testBit_xor, Nat.testBit_xor, Nat.testBit_succ, Nat.testBit_succ]
theorem xor_mod2 (a b : Nat) : (a ^^^ b) % 2 = (a % 2 + b % 2) % 2 := by
  have h : (a ^^^ b) % 2 = 1 ↔ ¬ (a % 2 = 1 ↔ b % 2 = 1) := Nat.xor_mod_two_eq_one
  have hc := Nat.mod_lt (a ^^^ b) (show 0 < 2 by decide)
  by_cases h1 : a % 2 = 1 <;> by_cases h2 : b % 2 = 1
  · have : ¬ (a ^^^ b) % 2 = 1 := fun e => h.1 e ⟨fun _ => h2, fun _ => h1⟩
    omega
  · have : (a ^^^ b) % 2 = 1 := h.2 fun e => h2 (e.1 h1)
    omega
  · have : (a ^^^ b) % 2 = 1 := h.2 fun e => h1 (e.2 h2)
    omega
  · have : ¬ (a ^^^ b) % 2 = 1 := fun e => h.1 e ⟨fun x => absurd x h1, fun x => absurd x h2⟩
    omega
theorem crcZ_xor (a b : Nat) : crcZ (a ^^^ b) = crcZ a ^^^ crcZ b := by
  unfold crcZ
  rw [xor_div2, xor_mod2]
  rcases (show a % 2 = 0 ∨ a % 2 = 1 by omega) with h1 | h1 <;> rcases (show b % 2 = 0 ∨ b % 2 = 1 by omega) with h2 | h2 <;> simp only [h1, h2]
  · simp
  · simp [Nat.xor_assoc]
  · simp only [Nat.reduceAdd, Nat.reduceMod, if_true, if_neg (show ¬ ((0 : Nat) = 1) by decide), Nat.xor_zero]
    rw [Nat.xor_assoc, Nat.xor_assoc, Nat.xor_comm (b / 2)]
  · have : (a / 2 ^^^ 3988292384) ^^^ (b / 2 ^^^ 3988292384) = a / 2 ^^^ b / 2 := by
      rw [Nat.xor_comm (b / 2), Nat.xor_assoc, ← Nat.xor_assoc 3988292384, Nat.xor_self, Nat.zero_xor]
    simpa using this.symm
theorem crcZ_zero : crcZ 0 = 0 := by decide
theorem crcZ_double (m : Nat) : crcZ (2 * m) = m := by
  unfold crcZ
  rw [if_neg (by omega)]; simp
theorem crcZ_lt {s : Nat} (h : s < 4294967296) : crcZ s < 4294967296 := by
  unfold crcZ
  refine Nat.xor_lt_two_pow (n := 32) (by omega) ?_
  split <;> decide
theorem crcZ_ne {s : Nat} (h : s < 4294967296) (h0 : s ≠ 0) : crcZ s ≠ 0 := by
  unfold crcZ
  by_cases ho : s % 2 = 1
  · rw [if_pos ho]
    intro e
    have hb : (s / 2 ^^^ 3988292384).testBit 31 = true := by
      rw [Nat.testBit_xor]
      have : (s / 2).testBit 31 = false := Nat.testBit_lt_two_pow (by omega)
      rw [this]; decide
    rw [e] at hb
    simp at hb
  · rw [if_neg ho]
    simp
    omega

theorem crcStep_xor (s t : Nat) (b c : Bool) : crcStep (s ^^^ t) (b ^^ c) = crcStep s b ^^^ crcStep t c := by
  unfold crcStep
  rw [← crcZ_xor]
  congr 1
  have e : (b ^^ c).toNat = b.toNat ^^^ c.toNat := by cases b <;> cases c <;> rfl
  rw [e, Nat.xor_assoc, Nat.xor_assoc, ← Nat.xor_assoc t, ← Nat.xor_assoc b.toNat, Nat.xor_comm t]
theorem crcStep_lt {s : Nat} (h : s < 4294967296) (b : Bool) : crcStep s b < 4294967296 := by
  refine crcZ_lt (Nat.xor_lt_two_pow (n := 32) h ?_)
  cases b <;> decide
theorem crcBits_lt : ∀ (B : List Bool) {s : Nat}, s < 4294967296 → crcBits s B < 4294967296
  | [], _, h => h
  | b :: B, _, h => crcBits_lt B (crcStep_lt h b)
theorem crcByte_lt {s : Nat} (h : s < 4294967296) (c : Nat) : crcByte s c < 4294967296 := crcBits_lt _ h
theorem crcB_lt : ∀ (l : List Int) {s : Nat}, s < 4294967296 → crcB s l < 4294967296
  | [], _, h => h
  | c :: l, _, h => crcB_lt l (crcByte_lt h c.toNat)
theorem crcBits_app (s : Nat) (A B : List Bool) : crcBits s (A ++ B) = crcBits (crcBits s A) B := List.foldl_append
theorem crcB_app (s : Nat) (a b : List Int) : crcB s (a ++ b) = crcB (crcB s a) b := List.foldl_append
theorem crcB_snoc (s : Nat) (l : List Int) {k : Nat} (h : k < l.length) : crcB s (l.take (k + 1)) = crcByte (crcB s (l.take k)) (l.getD k 0).toNat := by
  rw [List.take_add_one, List.getElem?_eq_getElem h]
  show crcB s (List.take k l ++ [l[k]]) = _
  rw [crcB_app]
  simp [crcB, List.getD, h]

/-- the bits of bytes, the lowest one of each first -/
def bitsOf (l : List Int) : List Bool := l.flatMap fun c => numB c.toNat 8
theorem crcB_bits : ∀ (l : List Int) (s : Nat), crcB s l = crcBits s (bitsOf l)
  | [], _ => rfl
  | c :: l, s => by
    show crcB (crcByte s c.toNat) l = crcBits s (numB c.toNat 8 ++ bitsOf l)
    rw [crcBits_app, crcB_bits l]
    rfl
theorem bitsOf_len : ∀ l : List Int, (bitsOf l).length = 8 * l.length
  | [] => rfl
  | c :: l => by
    show (numB c.toNat 8 ++ bitsOf l).length = _
    rw [List.length_append, numB_len, bitsOf_len l, List.length_cons]; omega
theorem bitsOf_getD : ∀ (l : List Int) (i : Nat), i < 8 * l.length → (bitsOf l).getD i false = bit l i
  | [], i, h => by simp at h
  | c :: l, i, h => by
    show (numB c.toNat 8 ++ bitsOf l).getD i false = _
    by_cases hi : i < 8
    · have e : (numB c.toNat 8 ++ bitsOf l).getD i false = (numB c.toNat 8).getD i false := by
        simp [List.getD, List.getElem?_append_left, numB_len, hi]
      rw [e]
      unfold bit numB
      rw [show i / 8 = 0 by omega, show i % 8 = i by omega]
      simp [List.getD, hi]
    · have e : (numB c.toNat 8 ++ bitsOf l).getD i false = (bitsOf l).getD (i - 8) false := by
        simp only [List.getD]
        rw [List.getElem?_append_right (by rw [numB_len]; omega), numB_len]
      rw [e, bitsOf_getD l (i - 8) (by rw [List.length_cons] at h; omega)]
      unfold bit
      rw [show i / 8 = (i - 8) / 8 + 1 by omega, show i % 8 = (i - 8) % 8 by omega]
      rfl

theorem crcBits_xor : ∀ (A B : List Bool) (s t : Nat), A.length = B.length → crcBits (s ^^^ t) (List.zipWith xor A B) = crcBits s A ^^^ crcBits t B
  | [], [], _, _, _ => rfl
  | a :: A, b :: B, s, t, h => by
    show crcBits (crcStep (s ^^^ t) (a ^^ b)) (List.zipWith xor A B) = crcBits (crcStep s a) A ^^^ crcBits (crcStep t b) B
    rw [crcStep_xor, crcBits_xor A B _ _ (by simpa using h)]
  | [], _ :: _, _, _, h => by simp at h
  | _ :: _, [], _, _, h => by simp at h

def iterZ : Nat → Nat → Nat
  | 0, s => s
  | n + 1, s => iterZ n (crcZ s)
theorem iterZ_xor : ∀ (n a b : Nat), iterZ n (a ^^^ b) = iterZ n a ^^^ iterZ n b
  | 0, _, _ => rfl
  | n + 1, a, b => by rw [iterZ, crcZ_xor, iterZ_xor n]; rfl
theorem iterZ_ne : ∀ (n : Nat) {s : Nat}, s < 4294967296 → s ≠ 0 → iterZ n s ≠ 0
  | 0, _, _, h => h
  | n + 1, _, h, h0 => iterZ_ne n (crcZ_lt h) (crcZ_ne h h0)
theorem iterZ_zero : ∀ n : Nat, iterZ n 0 = 0
  | 0 => rfl
  | n + 1 => by rw [iterZ, crcZ_zero, iterZ_zero n]
theorem iterZ_up : ∀ (n m : Nat), iterZ n (2 ^ n * m) = m
  | 0, m => by simp [iterZ]
  | n + 1, m => by rw [iterZ, Nat.pow_succ', Nat.mul_assoc, crcZ_double, iterZ_up n]
/-- bits are a number that changes the state, and then come zeros -/
theorem crcBits_iter : ∀ (B : List Bool) (s : Nat), crcBits s B = iterZ B.length (s ^^^ natB B)
  | [], s => by simp [natB, crcBits, iterZ]
  | b :: B, s => by
    show crcBits (crcZ (s ^^^ b.toNat)) B = _
    rw [crcBits_iter B, List.length_cons, iterZ, natB]
    congr 1
    have e : b.toNat + 2 * natB B = b.toNat ^^^ (2 * natB B) := by
      apply Nat.eq_of_testBit_eq
      intro i
      cases i with
      | zero => rw [Nat.testBit_xor]; cases b <;> simp [Nat.testBit_zero] <;> omega
      | succ i =>
        rw [Nat.testBit_xor, Nat.testBit_succ, Nat.testBit_succ, Nat.testBit_succ, show (b.toNat + 2 * natB B) / 2 = natB B by have := Bool.toNat_le b; omega, show b.toNat / 2 = 0 by have := Bool.toNat_le b; omega, show 2 * natB B / 2 = natB B by omega]
        simp
    rw [e, ← Nat.xor_assoc, crcZ_xor (s ^^^ b.toNat), crcZ_double]
theorem natB_zeros (n : Nat) : natB (List.replicate n false) = 0 := by
  induction n with
  | zero => rfl
  | succ n ih => rw [List.replicate_succ, natB, ih]; rfl
theorem crcBits_zeros (n s : Nat) : crcBits s (List.replicate n false) = iterZ n s := by
  rw [crcBits_iter, natB_zeros, Nat.xor_zero, List.length_replicate]
/-- a burst changes the state -/
theorem burst_ne (i r : Nat) (B : List Bool) (hB : B.length ≤ 32) (h0 : natB B ≠ 0) : crcBits 0 (List.replicate i false ++ (B ++ List.replicate r false)) ≠ 0 := by
  rw [crcBits_app, crcBits_app, crcBits_zeros, crcBits_zeros, iterZ_zero, crcBits_iter, Nat.zero_xor]
  have hlt : natB B < 4294967296 := Nat.lt_of_lt_of_le (natB_lt B) (Nat.pow_le_pow_right (n := 2) (by decide) hB)
  have h1 := iterZ_ne B.length hlt h0
  have h2 : iterZ B.length (natB B) < 4294967296 := by
    have := crcBits_lt B (s := 0) (by decide)
    rwa [crcBits_iter, Nat.zero_xor] at this
  exact iterZ_ne r h2 h1

theorem xor_eq_zero {a b : Nat} (h : a ^^^ b = 0) : a = b := by
  have : a ^^^ (a ^^^ b) = a := by rw [h, Nat.xor_zero]
  rw [← Nat.xor_assoc, Nat.xor_self, Nat.zero_xor] at this
  exact this.symm

/-- the state behind a byte, by the table -/
theorem crcByte_iter (s c : Nat) (hc : c < 256) : crcByte s c = iterZ 8 (s ^^^ c) := by
  unfold crcByte
  rw [crcBits_iter, numB_len, natB_numB, Nat.mod_eq_of_lt hc]
theorem split256 (x : Nat) : x = (2 ^ 8 * (x / 256)) ^^^ (x % 256) := by
  apply Nat.eq_of_testBit_eq
  intro i
  rw [Nat.testBit_xor, show (256 : Nat) = 2 ^ 8 by decide, Nat.testBit_two_pow_mul, Nat.testBit_mod_two_pow, Nat.testBit_div_two_pow]
  by_cases h : 8 ≤ i
  · rw [decide_eq_true h, decide_eq_false (show ¬ i < 8 by omega), show i - 8 + 8 = i by omega]; simp
  · rw [decide_eq_false h, decide_eq_true (show i < 8 by omega)]; simp
theorem crcByte_table (s c : Nat) (hc : c < 256) : crcByte s c = s / 256 ^^^ crcByte 0 (s % 256 ^^^ c) := by
  have hm : s % 256 ^^^ c < 256 := Nat.xor_lt_two_pow (n := 8) (Nat.mod_lt _ (by decide)) hc
  have e : s ^^^ c = (2 ^ 8 * (s / 256)) ^^^ (s % 256 ^^^ c) := by
    rw [← Nat.xor_assoc, ← split256 s]
  rw [crcByte_iter s c hc, crcByte_iter 0 _ hm, e, iterZ_xor, iterZ_up, Nat.zero_xor]
end Cad

/- CRC-64, the highest bit first, on numbers: a step, a byte, bytes; linear, injective, bursts. No Go function in sight. -/
namespace Cad

/-- a step with the bit 0 -/
def csfZ (s : Nat) : Nat := (2 * s) % 18446744073709551616 ^^^ (if 9223372036854775808 ≤ s then 0x42f0e1eba9ea3693 else 0)
def csfStep (s : Nat) (b : Bool) : Nat := csfZ (s ^^^ (b.toNat * 9223372036854775808))
def csfBits (s : Nat) (B : List Bool) : Nat := B.foldl csfStep s
/-- the bits of a byte, the highest one first -/
def upB (c : Nat) : List Bool := (numB c 8).reverse
def csfByte (s c : Nat) : Nat := csfBits s (upB c)
def csfB (s : Nat) (l : List Int) : Nat := l.foldl (fun s c => csfByte s c.toNat) s

theorem upB_len (c : Nat) : (upB c).length = 8 := by simp [upB, numB_len]
theorem top_tb {s : Nat} (h : s < 18446744073709551616) : decide (9223372036854775808 ≤ s) = s.testBit 63 := by
  rw [Nat.testBit_eq_decide_div_mod_eq]
  by_cases g : 9223372036854775808 ≤ s
  · rw [decide_eq_true g, decide_eq_true (by omega)]
  · rw [decide_eq_false g, decide_eq_false (by omega)]
theorem dbl_tb (s i : Nat) : ((2 * s) % 18446744073709551616).testBit i = (decide (i < 64) && (decide (1 ≤ i) && s.testBit (i - 1))) := by
  rw [show (18446744073709551616 : Nat) = 2 ^ 64 by decide, Nat.testBit_mod_two_pow, show 2 * s = 2 ^ 1 * s by omega, Nat.testBit_two_pow_mul]
theorem csfZ_xor {a b : Nat} (ha : a < 18446744073709551616) (hb : b < 18446744073709551616) : csfZ (a ^^^ b) = csfZ a ^^^ csfZ b := by
  have hab : a ^^^ b < 18446744073709551616 := Nat.xor_lt_two_pow (n := 64) ha hb
  have e : ∀ s, s < 18446744073709551616 → (if 9223372036854775808 ≤ s then 0x42f0e1eba9ea3693 else 0) = if s.testBit 63 = true then 0x42f0e1eba9ea3693 else 0 := fun s hs => by
    rw [← top_tb hs]; simp
  unfold csfZ
  rw [e _ hab, e _ ha, e _ hb, Nat.testBit_xor]
  have h2 : (2 * (a ^^^ b)) % 18446744073709551616 = ((2 * a) % 18446744073709551616) ^^^ ((2 * b) % 18446744073709551616) := by
    apply Nat.eq_of_testBit_eq
    intro i
    rw [Nat.testBit_xor, dbl_tb, dbl_tb, dbl_tb, Nat.testBit_xor]
    cases decide (i < 64) <;> cases decide (1 ≤ i) <;> simp
  rw [h2]
  generalize (2 * a) % 18446744073709551616 = x
  generalize (2 * b) % 18446744073709551616 = y
  cases a.testBit 63 <;> cases b.testBit 63
  · simp
  · simp [Nat.xor_assoc]
  · simp only [Bool.xor_false, if_true, if_neg (show ¬ (false = true) by decide), Nat.xor_zero]
    rw [Nat.xor_assoc, Nat.xor_assoc, Nat.xor_comm y]
  · have : (x ^^^ 0x42f0e1eba9ea3693) ^^^ (y ^^^ 0x42f0e1eba9ea3693) = x ^^^ y := by
      rw [Nat.xor_comm y, Nat.xor_assoc, ← Nat.xor_assoc 0x42f0e1eba9ea3693, Nat.xor_self, Nat.zero_xor]
    simpa using this.symm
theorem csfZ_zero : csfZ 0 = 0 := by decide
theorem csfZ_lt (s : Nat) : csfZ s < 18446744073709551616 := by
  unfold csfZ
  refine Nat.xor_lt_two_pow (n := 64) (Nat.mod_lt _ (by decide)) ?_
  split <;> decide
theorem csfZ_half {m : Nat} (h : 2 * m < 18446744073709551616) : csfZ m = 2 * m := by
  unfold csfZ
  rw [if_neg (by omega), Nat.mod_eq_of_lt h, Nat.xor_zero]
theorem csfZ_ne {s : Nat} (h : s < 18446744073709551616) (h0 : s ≠ 0) : csfZ s ≠ 0 := by
  by_cases ho : 9223372036854775808 ≤ s
  · unfold csfZ
    rw [if_pos ho]
    intro e
    have hb : ((2 * s) % 18446744073709551616 ^^^ 0x42f0e1eba9ea3693).testBit 0 = true := by
      rw [Nat.testBit_xor, dbl_tb, decide_eq_false (show ¬ 1 ≤ 0 by decide), show Nat.testBit 0x42f0e1eba9ea3693 0 = true by decide]; simp
    rw [e] at hb
    simp at hb
  · rw [csfZ_half (by omega)]; omega

theorem bit63_lt (b : Bool) : b.toNat * 9223372036854775808 < 18446744073709551616 := by cases b <;> decide
theorem csfStep_lt (s : Nat) (b : Bool) : csfStep s b < 18446744073709551616 := csfZ_lt _
theorem csfStep_xor {s t : Nat} (hs : s < 18446744073709551616) (ht : t < 18446744073709551616) (b c : Bool) : csfStep (s ^^^ t) (b ^^ c) = csfStep s b ^^^ csfStep t c := by
  unfold csfStep
  rw [← csfZ_xor (Nat.xor_lt_two_pow (n := 64) hs (bit63_lt b)) (Nat.xor_lt_two_pow (n := 64) ht (bit63_lt c))]
  congr 1
  have e : (b ^^ c).toNat * 9223372036854775808 = b.toNat * 9223372036854775808 ^^^ c.toNat * 9223372036854775808 := by cases b <;> cases c <;> rfl
  rw [e, Nat.xor_assoc, Nat.xor_assoc, ← Nat.xor_assoc t, ← Nat.xor_assoc (b.toNat * _), Nat.xor_comm t]
theorem csfBits_lt : ∀ (B : List Bool) {s : Nat}, s < 18446744073709551616 → csfBits s B < 18446744073709551616
  | [], _, h => h
  | b :: B, s, _ => csfBits_lt B (csfStep_lt s b)
theorem csfByte_lt {s : Nat} (h : s < 18446744073709551616) (c : Nat) : csfByte s c < 18446744073709551616 := csfBits_lt _ h
theorem csfB_lt : ∀ (l : List Int) {s : Nat}, s < 18446744073709551616 → csfB s l < 18446744073709551616
  | [], _, h => h
  | c :: l, _, h => csfB_lt l (csfByte_lt h c.toNat)
theorem csfBits_app (s : Nat) (A B : List Bool) : csfBits s (A ++ B) = csfBits (csfBits s A) B := List.foldl_append
theorem csfB_app (s : Nat) (a b : List Int) : csfB s (a ++ b) = csfB (csfB s a) b := List.foldl_append
theorem csfB_snoc (s : Nat) (l : List Int) {k : Nat} (h : k < l.length) : csfB s (l.take (k + 1)) = csfByte (csfB s (l.take k)) (l.getD k 0).toNat := by
  rw [List.take_add_one, List.getElem?_eq_getElem h]
  show csfB s (List.take k l ++ [l[k]]) = _
  rw [csfB_app]
  simp [csfB, List.getD, h]

/-- bit i of bytes, the highest one of each first -/
def bitM (l : List Int) (i : Nat) : Bool := (l.getD (i / 8) 0).toNat.testBit (7 - i % 8)
def bitsOfM (l : List Int) : List Bool := l.flatMap fun c => upB c.toNat
theorem csfB_bits : ∀ (l : List Int) (s : Nat), csfB s l = csfBits s (bitsOfM l)
  | [], _ => rfl
  | c :: l, s => by
    show csfB (csfByte s c.toNat) l = csfBits s (upB c.toNat ++ bitsOfM l)
    rw [csfBits_app, csfB_bits l]
    rfl
theorem bitsOfM_len : ∀ l : List Int, (bitsOfM l).length = 8 * l.length
  | [] => rfl
  | c :: l => by
    show (upB c.toNat ++ bitsOfM l).length = _
    rw [List.length_append, upB_len, bitsOfM_len l, List.length_cons]; omega
theorem upB_getD (c i : Nat) (h : i < 8) : (upB c).getD i false = c.testBit (7 - i) := by
  unfold upB
  simp only [List.getD]
  rw [List.getElem?_reverse (by rw [numB_len]; exact h), numB_len]
  simp only [numB, List.getElem?_map, List.getElem?_range (show 8 - 1 - i < 8 by omega)]
  rw [Nat.testBit_eq_decide_div_mod_eq, show 8 - 1 - i = 7 - i by omega]
  rfl
theorem bitsOfM_getD : ∀ (l : List Int) (i : Nat), i < 8 * l.length → (bitsOfM l).getD i false = bitM l i
  | [], i, h => by simp at h
  | c :: l, i, h => by
    show (upB c.toNat ++ bitsOfM l).getD i false = _
    by_cases hi : i < 8
    · have e : (upB c.toNat ++ bitsOfM l).getD i false = (upB c.toNat).getD i false := by
        simp [List.getD, List.getElem?_append_left, upB_len, hi]
      rw [e, upB_getD _ _ hi]
      unfold bitM
      rw [show i / 8 = 0 by omega, show i % 8 = i by omega]
      rfl
    · have e : (upB c.toNat ++ bitsOfM l).getD i false = (bitsOfM l).getD (i - 8) false := by
        simp only [List.getD]
        rw [List.getElem?_append_right (by rw [upB_len]; omega), upB_len]
      rw [e, bitsOfM_getD l (i - 8) (by rw [List.length_cons] at h; omega)]
      unfold bitM
      rw [show i / 8 = (i - 8) / 8 + 1 by omega, show i % 8 = (i - 8) % 8 by omega]
      rfl

theorem csfBits_xor : ∀ (A B : List Bool) (s t : Nat), s < 18446744073709551616 → t < 18446744073709551616 → A.length = B.length → csfBits (s ^^^ t) (List.zipWith xor A B) = csfBits s A ^^^ csfBits t B
  | [], [], _, _, _, _, _ => rfl
  | a :: A, b :: B, s, t, hs, ht, h => by
    show csfBits (csfStep (s ^^^ t) (a ^^ b)) (List.zipWith xor A B) = csfBits (csfStep s a) A ^^^ csfBits (csfStep t b) B
    rw [csfStep_xor hs ht, csfBits_xor A B _ _ (csfStep_lt _ _) (csfStep_lt _ _) (by simpa using h)]
  | [], _ :: _, _, _, _, _, h => by simp at h
  | _ :: _, [], _, _, _, _, h => by simp at h

def iterY : Nat → Nat → Nat
  | 0, s => s
  | n + 1, s => iterY n (csfZ s)
theorem iterY_xor : ∀ (n : Nat) {a b : Nat}, a < 18446744073709551616 → b < 18446744073709551616 → iterY n (a ^^^ b) = iterY n a ^^^ iterY n b
  | 0, _, _, _, _ => rfl
  | n + 1, a, b, ha, hb => by rw [iterY, csfZ_xor ha hb, iterY_xor n (csfZ_lt _) (csfZ_lt _)]; rfl
theorem iterY_ne : ∀ (n : Nat) {s : Nat}, s < 18446744073709551616 → s ≠ 0 → iterY n s ≠ 0
  | 0, _, _, h => h
  | n + 1, s, h, h0 => iterY_ne n (csfZ_lt s) (csfZ_ne h h0)
theorem iterY_zero : ∀ n : Nat, iterY n 0 = 0
  | 0 => rfl
  | n + 1 => by rw [iterY, csfZ_zero, iterY_zero n]
theorem csfBits_zeros : ∀ (n s : Nat), s < 18446744073709551616 → csfBits s (List.replicate n false) = iterY n s
  | 0, _, _ => rfl
  | n + 1, s, h => by
    rw [List.replicate_succ]
    show csfBits (csfZ (s ^^^ (false.toNat * 9223372036854775808))) (List.replicate n false) = _
    rw [show false.toNat * 9223372036854775808 = 0 from rfl, Nat.xor_zero, csfBits_zeros n _ (csfZ_lt s)]
    rfl
/-- bits as a number, the first one the highest of 64 -/
def topB : List Bool → Nat
  | [] => 0
  | b :: B => b.toNat * 9223372036854775808 + topB B / 2
theorem topB_lt : ∀ B : List Bool, topB B < 18446744073709551616
  | [] => by decide
  | b :: B => by
    have := topB_lt B
    have := Bool.toNat_le b
    simp only [topB]; omega
theorem topB_low : ∀ (B : List Bool) (k : Nat), B.length + k ≤ 64 → topB B % 2 ^ k = 0
  | [], k, _ => by simp [topB]
  | b :: B, k, h => by
    rw [List.length_cons] at h
    have ih := topB_low B (k + 1) (by omega)
    simp only [topB]
    have h1 : topB B / 2 % 2 ^ k = 0 := by
      rw [Nat.pow_succ'] at ih
      obtain ⟨q, hq⟩ := Nat.dvd_of_mod_eq_zero ih
      rw [hq, Nat.mul_assoc, Nat.mul_div_cancel_left _ (by decide)]
      simp
    have h2 : b.toNat * 9223372036854775808 % 2 ^ k = 0 := by
      have : (9223372036854775808 : Nat) = 2 ^ k * 2 ^ (63 - k) := by rw [← Nat.pow_add, show k + (63 - k) = 63 by omega]
      rw [this, ← Nat.mul_assoc, Nat.mul_comm b.toNat, Nat.mul_assoc]
      simp
    rw [Nat.add_mod, h1, h2]; simp
theorem csfBits_iter : ∀ (B : List Bool) (s : Nat), s < 18446744073709551616 → B.length ≤ 64 → csfBits s B = iterY B.length (s ^^^ topB B)
  | [], s, _, _ => by simp [topB, csfBits, iterY]
  | b :: B, s, hs, h => by
    rw [List.length_cons] at h
    show csfBits (csfZ (s ^^^ (b.toNat * 9223372036854775808))) B = _
    rw [csfBits_iter B _ (csfZ_lt _) (by omega), List.length_cons, iterY, topB]
    congr 1
    have ht := topB_lt B
    have hl := topB_low B 1 (by omega)
    have e : b.toNat * 9223372036854775808 + topB B / 2 = (b.toNat * 9223372036854775808) ^^^ (topB B / 2) := by
      apply Nat.eq_of_testBit_eq
      intro i
      have hlt : topB B / 2 < 2 ^ 63 := by omega
      rw [show b.toNat * 9223372036854775808 = 2 ^ 63 * b.toNat by omega, Nat.testBit_two_pow_mul_add _ hlt, Nat.testBit_xor, Nat.testBit_two_pow_mul]
      by_cases g : i < 63
      · simp [g, show ¬ 63 ≤ i by omega]
      · have : (topB B / 2).testBit i = false := Nat.testBit_lt_two_pow (Nat.lt_of_lt_of_le hlt (Nat.pow_le_pow_right (n := 2) (by decide) (by omega)))
        simp [g, this, show 63 ≤ i by omega]
    rw [e, ← Nat.xor_assoc, csfZ_xor (Nat.xor_lt_two_pow (n := 64) hs (bit63_lt b)) (show topB B / 2 < 18446744073709551616 by omega), csfZ_half (show 2 * (topB B / 2) < 18446744073709551616 by omega)]
    congr 1
    omega
theorem topB_zero : ∀ B : List Bool, B.length ≤ 64 → (topB B = 0 ↔ B = List.replicate B.length false)
  | [], _ => by simp [topB]
  | b :: B, h => by
    rw [List.length_cons] at h
    have ih := topB_zero B (by omega)
    have hl := topB_low B 1 (by omega)
    have ht := topB_lt B
    simp only [topB, List.length_cons, List.replicate_succ, List.cons.injEq]
    constructor
    · intro e
      refine ⟨?_, ih.1 (by omega)⟩
      cases b
      · rfl
      · simp at e
    · rintro ⟨rfl, h2⟩
      rw [ih.2 h2]; rfl
/-- a burst changes the state -/
theorem csfBurst (i r : Nat) (B : List Bool) (hB : B.length ≤ 64) : csfBits 0 (List.replicate i false ++ (B ++ List.replicate r false)) = 0 ↔ B = List.replicate B.length false := by
  rw [csfBits_app, csfBits_app, csfBits_zeros i 0 (by decide), iterY_zero, csfBits_iter B 0 (by decide) hB, Nat.zero_xor]
  have h2 : iterY B.length (topB B) < 18446744073709551616 := by
    have := csfBits_lt B (s := 0) (by decide)
    rwa [csfBits_iter B 0 (by decide) hB, Nat.zero_xor] at this
  rw [csfBits_zeros _ _ h2, ← topB_zero B hB]
  constructor
  · intro e
    apply Classical.byContradiction
    intro hne
    exact iterY_ne r h2 (iterY_ne _ (topB_lt B) hne) e
  · intro e
    rw [e, iterY_zero, iterY_zero]
end Cad

/- CRC-64: tables, linear over bytes, bursts of bytes. No Go function in sight. -/
namespace Cad

theorem iterY_up : ∀ (n m : Nat), 2 ^ n * m < 18446744073709551616 → iterY n m = 2 ^ n * m
  | 0, m, _ => by simp [iterY]
  | n + 1, m, h => by
    rw [Nat.pow_succ, Nat.mul_assoc] at h ⊢
    have hp : 0 < 2 ^ n := Nat.pow_pos (by decide)
    have h2 : 2 * m ≤ 2 ^ n * (2 * m) := Nat.le_mul_of_pos_left _ hp
    rw [iterY, csfZ_half (by omega), iterY_up n (2 * m) h]
theorem topB_upB : ∀ c : Fin 256, topB (upB c.val) = c.val * 72057594037927936 := of_decide_eq_true (by kernel_rfl)
theorem csfByte_iter {s c : Nat} (hs : s < 18446744073709551616) (hc : c < 256) : csfByte s c = iterY 8 (s ^^^ (c * 72057594037927936)) := by
  unfold csfByte
  rw [csfBits_iter _ s hs (by rw [upB_len]; decide), upB_len, topB_upB ⟨c, hc⟩]
theorem mul_pow_xor (n a b : Nat) : (a ^^^ b) * 2 ^ n = (a * 2 ^ n) ^^^ (b * 2 ^ n) := by
  rw [← Nat.shiftLeft_eq, ← Nat.shiftLeft_eq, ← Nat.shiftLeft_eq, Nat.shiftLeft_xor_distrib]
theorem up56_xor (a b : Nat) : (a ^^^ b) * 72057594037927936 = (a * 72057594037927936) ^^^ (b * 72057594037927936) := by
  have h := mul_pow_xor 56 a b
  rwa [show (2 : Nat) ^ 56 = 72057594037927936 by decide] at h
theorem up56_lt {c : Nat} (hc : c < 256) : c * 72057594037927936 < 18446744073709551616 := by
  have : c ≤ 255 := by omega
  exact Nat.lt_of_le_of_lt (Nat.mul_le_mul_right _ this) (by decide)
theorem csfByte_xor {s t c d : Nat} (hs : s < 18446744073709551616) (ht : t < 18446744073709551616) (hc : c < 256) (hd : d < 256) : csfByte (s ^^^ t) (c ^^^ d) = csfByte s c ^^^ csfByte t d := by
  have l1 := up56_lt hc
  have l2 := up56_lt hd
  rw [csfByte_iter hs hc, csfByte_iter ht hd, csfByte_iter (Nat.xor_lt_two_pow (n := 64) hs ht) (Nat.xor_lt_two_pow (n := 8) hc hd),
    ← iterY_xor 8 (Nat.xor_lt_two_pow (n := 64) hs l1) (Nat.xor_lt_two_pow (n := 64) ht l2), up56_xor]
  congr 1
  rw [Nat.xor_assoc, Nat.xor_assoc, ← Nat.xor_assoc t, ← Nat.xor_assoc (c * 72057594037927936), Nat.xor_comm t]
/-- the state behind a byte, by the table -/
theorem csfByte_table {s c : Nat} (hs : s < 18446744073709551616) (hc : c < 256) : csfByte s c = (256 * s) % 18446744073709551616 ^^^ csfByte 0 (s / 72057594037927936 ^^^ c) := by
  have hh : s / 72057594037927936 < 256 := by omega
  have hlo : s % 72057594037927936 < 72057594037927936 := Nat.mod_lt _ (by decide)
  have hx : s / 72057594037927936 ^^^ c < 256 := Nat.xor_lt_two_pow (n := 8) hh hc
  have es : s = (s % 72057594037927936) ^^^ (s / 72057594037927936 * 72057594037927936) := by
    apply Nat.eq_of_testBit_eq
    intro i
    rw [Nat.testBit_xor, show (72057594037927936 : Nat) = 2 ^ 56 by decide, Nat.mul_comm, Nat.testBit_two_pow_mul, Nat.testBit_mod_two_pow, Nat.testBit_div_two_pow]
    by_cases h : 56 ≤ i
    · rw [decide_eq_true h, decide_eq_false (show ¬ i < 56 by omega), show i - 56 + 56 = i by omega]; simp
    · rw [decide_eq_false h, decide_eq_true (show i < 56 by omega)]; simp
  have e : s ^^^ (c * 72057594037927936) = (s % 72057594037927936) ^^^ ((s / 72057594037927936 ^^^ c) * 72057594037927936) := by
    rw [up56_xor, ← Nat.xor_assoc, ← es]
  have hm : (256 * s) % 18446744073709551616 = 256 * (s % 72057594037927936) := by omega
  have hlo8 : 2 ^ 8 * (s % 72057594037927936) < 18446744073709551616 := by
    have : s % 72057594037927936 ≤ 72057594037927935 := by omega
    exact Nat.lt_of_le_of_lt (Nat.mul_le_mul_left _ this) (by decide)
  rw [csfByte_iter hs hc, csfByte_iter (s := 0) (by decide) hx, e, iterY_xor 8 (Nat.lt_trans hlo (by decide)) (up56_lt hx), iterY_up 8 _ hlo8, Nat.zero_xor, hm]

/-- two lists of bytes, changed by each other -/
theorem csfB_xorL : ∀ (a b : List Int) (s t : Nat), s < 18446744073709551616 → t < 18446744073709551616 → a.length = b.length → (∀ x ∈ a, 0 ≤ x ∧ x ≤ 255) → (∀ x ∈ b, 0 ≤ x ∧ x ≤ 255) →
    csfB (s ^^^ t) (List.zipWith (fun p q => ((p.toNat ^^^ q.toNat : Nat) : Int)) a b) = csfB s a ^^^ csfB t b
  | [], [], _, _, _, _, _, _, _ => rfl
  | p :: a, q :: b, s, t, hs, ht, h, ha, hb => by
    have h1 := ha p (by simp)
    have h2 := hb q (by simp)
    show csfB (csfByte (s ^^^ t) ((p.toNat ^^^ q.toNat : Nat) : Int).toNat) (List.zipWith (fun p q => ((p.toNat ^^^ q.toNat : Nat) : Int)) a b) = csfB (csfByte s p.toNat) a ^^^ csfB (csfByte t q.toNat) b
    rw [Int.toNat_natCast, csfByte_xor hs ht (by omega) (by omega), csfB_xorL a b _ _ (csfByte_lt hs _) (csfByte_lt ht _) (by simpa using h) (fun x hx => ha x (by simp [hx])) (fun x hx => hb x (by simp [hx]))]
  | [], _ :: _, _, _, _, _, h, _, _ => by simp at h
  | _ :: _, [], _, _, _, _, h, _, _ => by simp at h

/-- lo is l, changed by the k lowest bits of ch from the bit i0 on, the highest one of a byte first -/
structure FlipM (l lo : List Int) (i0 ch k : Nat) : Prop where
  len : lo.length = l.length
  wf : ∀ x ∈ lo, 0 ≤ x ∧ x ≤ 255
  bits : ∀ j, bitM lo j = (bitM l j ^^ (decide (i0 ≤ j) && (decide (j < i0 + k) && ch.testBit (j - i0))))

theorem FlipM.zero {l : List Int} (hl : ∀ x ∈ l, 0 ≤ x ∧ x ≤ 255) (i0 ch : Nat) : FlipM l l i0 ch 0 := by
  refine ⟨rfl, hl, fun j => ?_⟩
  by_cases h : i0 ≤ j
  · rw [decide_eq_false (show ¬ j < i0 + 0 by omega)]; simp
  · rw [decide_eq_false h]; simp
theorem FlipM.off {l lo : List Int} {i0 ch k : Nat} (h : FlipM l lo i0 ch k) (hc : ch.testBit k = false) : FlipM l lo i0 ch (k + 1) := by
  refine ⟨h.len, h.wf, fun j => ?_⟩
  rw [h.bits j]
  congr 1
  by_cases h1 : i0 ≤ j
  · by_cases h2 : j < i0 + k
    · rw [decide_eq_true h2, decide_eq_true (show j < i0 + (k + 1) by omega)]
    · rw [decide_eq_false h2]
      by_cases h3 : j = i0 + k
      · subst h3; rw [show i0 + k - i0 = k by omega, hc]; simp
      · rw [decide_eq_false (show ¬ j < i0 + (k + 1) by omega)]
  · rw [decide_eq_false h1]; simp
theorem FlipM.on {l lo : List Int} {i0 ch k d : Nat} (h : FlipM l lo i0 ch k) (hc : ch.testBit k = true) (hi : i0 + k < 8 * l.length) (hd : lo.getD ((i0 + k) / 8) 0 = d) (hd8 : d < 256) :
    FlipM l (lo.set ((i0 + k) / 8) ((d ^^^ 2 ^ (7 - (i0 + k) % 8) : Nat) : Int)) i0 ch (k + 1) := by
  have hp : (i0 + k) / 8 < lo.length := by rw [h.len]; omega
  have h2 : 2 ^ (7 - (i0 + k) % 8) < 2 ^ 8 := Nat.pow_lt_pow_right (by decide) (by omega)
  have hx : d ^^^ 2 ^ (7 - (i0 + k) % 8) < 256 := Nat.xor_lt_two_pow (n := 8) hd8 h2
  refine ⟨by simp [h.len], ?_, fun j => ?_⟩
  · intro x hx'
    rcases List.mem_or_eq_of_mem_set hx' with h' | rfl
    · exact h.wf x h'
    · omega
  · have hb := h.bits j
    unfold bitM at hb ⊢
    have e : (lo.set ((i0 + k) / 8) ((d ^^^ 2 ^ (7 - (i0 + k) % 8) : Nat) : Int)).getD (j / 8) 0 = if j / 8 = (i0 + k) / 8 then ((d ^^^ 2 ^ (7 - (i0 + k) % 8) : Nat) : Int) else lo.getD (j / 8) 0 := by
      simp only [List.getD, List.getElem?_set]
      by_cases g : (i0 + k) / 8 = j / 8
      · rw [if_pos g, if_pos hp, if_pos g.symm]; rfl
      · rw [if_neg g, if_neg (fun e => g e.symm)]
    rw [e]
    by_cases g : j / 8 = (i0 + k) / 8
    · rw [if_pos g, Int.toNat_natCast, Nat.testBit_xor, Nat.testBit_two_pow]
      rw [g] at hb ⊢
      rw [hd, Int.toNat_natCast] at hb
      rw [hb]
      by_cases g2 : j = i0 + k
      · subst g2
        rw [decide_eq_true rfl, decide_eq_true (show i0 ≤ i0 + k by omega), decide_eq_false (show ¬ i0 + k < i0 + k by omega), decide_eq_true (show i0 + k < i0 + (k + 1) by omega), show i0 + k - i0 = k by omega, hc]
        simp
      · rw [decide_eq_false (show ¬ 7 - (i0 + k) % 8 = 7 - j % 8 by omega)]
        by_cases g3 : i0 ≤ j
        · by_cases g4 : j < i0 + k
          · rw [decide_eq_true g4, decide_eq_true (show j < i0 + (k + 1) by omega)]; simp
          · rw [decide_eq_false g4, decide_eq_false (show ¬ j < i0 + (k + 1) by omega)]; simp
        · rw [decide_eq_false g3]; simp
    · rw [if_neg g, hb]
      congr 1
      by_cases g3 : i0 ≤ j
      · by_cases g4 : j < i0 + k
        · rw [decide_eq_true g4, decide_eq_true (show j < i0 + (k + 1) by omega)]
        · have : j ≠ i0 + k := fun e => g (by rw [e])
          rw [decide_eq_false g4, decide_eq_false (show ¬ j < i0 + (k + 1) by omega)]
      · rw [decide_eq_false g3]; simp

theorem low_succS (ch k : Nat) : decide (ch % 2 ^ (k + 1) ≠ 0) = (decide (ch % 2 ^ k ≠ 0) || ch.testBit k) := by
  rw [Nat.testBit_eq_decide_div_mod_eq, Nat.pow_succ, Nat.mod_mul]
  have hp : 0 < 2 ^ k := Nat.pow_pos (by decide)
  rcases (show ch / 2 ^ k % 2 = 0 ∨ ch / 2 ^ k % 2 = 1 by omega) with h | h
  · rw [h]; simp
  · rw [h]
    have : ch % 2 ^ k + 2 ^ k * 1 ≠ 0 := by omega
    rw [decide_eq_true this]; simp

theorem numB_zero_iff (ch k : Nat) : numB ch k = List.replicate k false ↔ ch % 2 ^ k = 0 := by
  rw [← natB_numB]
  constructor
  · intro e; rw [e, natB_zeros]
  · intro e
    have := numB_natB (numB ch k)
    rw [e, numB_len] at this
    rw [← this]
    apply ext_getD (by simp [numB_len])
    intro i hi
    rw [numB_len] at hi
    simp [numB, List.getD, hi]

theorem getD_zipxor' (A B : List Bool) (h : A.length = B.length) (i : Nat) : (List.zipWith xor A B).getD i false = (A.getD i false ^^ B.getD i false) := by
  by_cases hi : i < A.length
  · have h1 : i < (List.zipWith xor A B).length := by simp; omega
    have h2 : i < B.length := by omega
    simp only [List.getD, List.getElem?_eq_getElem h1, List.getElem?_eq_getElem hi, List.getElem?_eq_getElem h2, Option.getD_some, List.getElem_zipWith]
  · rw [getD_ge _ _ (by simp; omega), getD_ge A _ (by omega), getD_ge B _ (by omega)]; rfl

/-- the sum of bytes that are changed within 64 bits is another one if a bit is changed -/
theorem flip_csf {l lo : List Int} {i0 ch k : Nat} (h : FlipM l lo i0 ch k) (hk : k ≤ 64) (hi : i0 + k ≤ 8 * l.length) : (csfB 0 l = csfB 0 lo) ↔ ch % 2 ^ k = 0 := by
  have hE : List.zipWith xor (bitsOfM l) (bitsOfM lo) = List.replicate i0 false ++ (numB ch k ++ List.replicate (8 * l.length - i0 - k) false) := by
    have hll : (bitsOfM l).length = (bitsOfM lo).length := by rw [bitsOfM_len, bitsOfM_len, h.len]
    apply ext_getD (by simp [bitsOfM_len, h.len, numB_len]; omega)
    intro j hj
    simp [bitsOfM_len, h.len] at hj
    rw [getD_zipxor' _ _ hll, bitsOfM_getD l j (by omega), bitsOfM_getD lo j (by rw [h.len]; omega), h.bits j]
    have e1 : ∀ b c : Bool, (b ^^ (b ^^ c)) = c := by decide
    rw [e1]
    by_cases h1 : i0 ≤ j
    · rw [decide_eq_true h1]
      have e2 : (List.replicate i0 false ++ (numB ch k ++ List.replicate (8 * l.length - i0 - k) false)).getD j false = (numB ch k ++ List.replicate (8 * l.length - i0 - k) false).getD (j - i0) false := by
        simp only [List.getD]
        rw [List.getElem?_append_right (by simp; omega)]
        simp
      rw [e2]
      by_cases h2 : j < i0 + k
      · rw [decide_eq_true h2]
        have e3 : (numB ch k ++ List.replicate (8 * l.length - i0 - k) false).getD (j - i0) false = (numB ch k).getD (j - i0) false := by
          simp only [List.getD]
          rw [List.getElem?_append_left (by rw [numB_len]; omega)]
        rw [e3]
        simp only [numB, List.getD, List.getElem?_map, List.getElem?_range (show j - i0 < k by omega)]
        rw [Nat.testBit_eq_decide_div_mod_eq]
        rfl
      · rw [decide_eq_false h2]
        have e3 : (numB ch k ++ List.replicate (8 * l.length - i0 - k) false).getD (j - i0) false = false := by
          simp only [List.getD]
          rw [List.getElem?_append_right (by rw [numB_len]; omega)]
          simp only [List.getElem?_replicate]
          split <;> rfl
        rw [e3]; rfl
    · rw [decide_eq_false h1]
      have e2 : (List.replicate i0 false ++ (numB ch k ++ List.replicate (8 * l.length - i0 - k) false)).getD j false = false := by
        simp only [List.getD]
        rw [List.getElem?_append_left (by simp; omega)]
        simp only [List.getElem?_replicate]
        split <;> rfl
      rw [e2]; rfl
  have hx := csfBits_xor (bitsOfM l) (bitsOfM lo) 0 0 (by decide) (by decide) (by rw [bitsOfM_len, bitsOfM_len, h.len])
  rw [Nat.xor_self, hE, ← csfB_bits, ← csfB_bits] at hx
  have hb := csfBurst i0 (8 * l.length - i0 - k) (numB ch k) (by rw [numB_len]; exact hk)
  rw [numB_len, numB_zero_iff, hx] at hb
  rw [← hb]
  constructor
  · intro e; rw [e, Nat.xor_self]
  · intro e; exact xor_eq_zero e
end Cad

/- Plain mathematics of layer 5 (no Go in sight): signs folded. -/
namespace CadF
open Go Go.RowKit Go.Proofs.Ytbegifpnbbpinaa

/-- a signed number, folded -/
def zig (x : Int) : Int := if 0 ≤ x then 2 * x else -2 * x - 1
/-- a number, unfolded -/
def zag (n : Int) : Int := if n % 2 = 0 then n / 2 else -((n + 1) / 2)

theorem zig_bd {x : Int} (h : -2147483648 ≤ x ∧ x ≤ 2147483647) : 0 ≤ zig x ∧ zig x ≤ 4294967295 := by unfold zig; split <;> omega
theorem zag_bd {n : Int} (h : 0 ≤ n ∧ n ≤ 4294967295) : -2147483648 ≤ zag n ∧ zag n ≤ 2147483647 := by unfold zag; split <;> omega
theorem zag_zig (x : Int) : zag (zig x) = x := by unfold zig zag; split <;> split <;> omega
theorem zig_zag {n : Int} (h : 0 ≤ n) : zig (zag n) = n := by unfold zig zag; split <;> split <;> omega

theorem i32_not (a : Nat) (ha : a < 2147483648) : bits .xor .i32 (-1) (a : Int) = -1 - (a : Int) := by
  show IntKind.i32.wrap ((BitVec.ofInt 32 (-1) ^^^ BitVec.ofInt 32 (a : Int)).toNat : Int) = _
  have h1 : BitVec.ofInt 32 (-1) = BitVec.allOnes 32 := by decide
  rw [h1, BitVec.allOnes_xor, BitVec.toNat_not, ofInt_u32 a (by omega), IntKind.wrap_i32]
  omega
theorem u32_not (a : Nat) (ha : a < 4294967296) : bits .xor .u32 IntKind.u32.max (a : Int) = 4294967295 - (a : Int) := by
  show IntKind.u32.wrap ((BitVec.ofInt 32 4294967295 ^^^ BitVec.ofInt 32 (a : Int)).toNat : Int) = _
  have h1 : BitVec.ofInt 32 4294967295 = BitVec.allOnes 32 := by decide
  rw [h1, BitVec.allOnes_xor, BitVec.toNat_not, ofInt_u32 a (by omega), IntKind.wrap_u32]
  omega

theorem i32_wf {x : Int} (h : -2147483648 ≤ x ∧ x ≤ 2147483647) : (Lit.int .i32 x).wf = true := WalkArith.wf_i32 h
theorem u32_wf {x : Int} (h : 0 ≤ x ∧ x ≤ 4294967295) : (Lit.int .u32 x).wf = true := WalkArith.wf_u32 h
theorem i32_bd {x : Int} (h : (Lit.int .i32 x).wf = true) : -2147483648 ≤ x ∧ x ≤ 2147483647 := bounds_i32 h
theorem u32_bd {x : Int} (h : (Lit.int .u32 x).wf = true) : 0 ≤ x ∧ x ≤ 4294967295 := bounds_u32 h
theorem zig_wfs {l : List Int} (h : ∀ x ∈ l, (Lit.int .i32 x).wf = true) : ∀ x ∈ l.map zig, (Lit.int .u32 x).wf = true := by
  intro x hx
  obtain ⟨y, hy, rfl⟩ := List.mem_map.1 hx
  exact u32_wf (zig_bd (i32_bd (h y hy)))
theorem zag_wfs {l : List Int} (h : ∀ x ∈ l, (Lit.int .u32 x).wf = true) : ∀ x ∈ l.map zag, (Lit.int .i32 x).wf = true := by
  intro x hx
  obtain ⟨y, hy, rfl⟩ := List.mem_map.1 hx
  exact i32_wf (zag_bd (u32_bd (h y hy)))
theorem zag_zigs (l : List Int) : (l.map zig).map zag = l := by
  rw [List.map_map]; exact (List.map_congr_left fun x _ => zag_zig x).trans (List.map_id l)
theorem zig_zags {l : List Int} (h : ∀ x ∈ l, (Lit.int .u32 x).wf = true) : (l.map zag).map zig = l := by
  rw [List.map_map]; exact (List.map_congr_left fun x hx => zig_zag (u32_bd (h x hx)).1).trans (List.map_id l)
end CadF

/- Numbers as 32 bits, as four bytes, as runs: how they lie behind each other. No Go function in sight. -/
namespace Go.Proofs.Ytbegifpnbbpinaa
open Go Go.RowKit Cad CadL CadF

theorem byteN_left (A B : List Bool) {i : Nat} (h : 8 * (i + 1) ≤ A.length) : byteN (A ++ B) i = byteN A i := by
  have e : ∀ k, k < 8 → (A ++ B).getD (8 * i + k) false = A.getD (8 * i + k) false := fun k hk => by
    rw [getD_app, if_pos (by omega)]
  unfold byteN
  have e0 := e 0 (by decide)
  rw [Nat.add_zero] at e0
  rw [e0, e 1 (by decide), e 2 (by decide), e 3 (by decide), e 4 (by decide), e 5 (by decide), e 6 (by decide), e 7 (by decide)]
theorem byteN_right (A B : List Bool) {a : Nat} (i : Nat) (h : A.length = 8 * a) : byteN (A ++ B) (a + i) = byteN B i := by
  have e : ∀ k, (A ++ B).getD (8 * (a + i) + k) false = B.getD (8 * i + k) false := fun k => by
    rw [getD_app, if_neg (by omega)]
    congr 1; omega
  unfold byteN
  have e0 := e 0
  rw [Nat.add_zero, Nat.add_zero] at e0
  rw [e0, e 1, e 2, e 3, e 4, e 5, e 6, e 7]
theorem pack_app (A B : List Bool) {a : Nat} (h : A.length = 8 * a) : pack (A ++ B) = pack A ++ pack B := by
  apply List.ext_getElem
  · rw [List.length_append, pack_len, pack_len, pack_len, List.length_append]; omega
  · intro i h1 h2
    rw [pack_len, List.length_append] at h1
    by_cases hi : i < a
    · rw [List.getElem_append_left (by rw [pack_len]; omega)]
      simp [pack, byteN_left A B (i := i) (by omega)]
    · obtain ⟨j, rfl⟩ : ∃ j, i = a + j := ⟨i - a, by omega⟩
      rw [List.getElem_append_right (by rw [pack_len]; omega)]
      simp only [pack, List.getElem_map, List.getElem_range]
      rw [byteN_right A B j h]
      congr 2
      simp; omega
theorem byteN_num (u : Nat) {i n : Nat} (h : 8 * (i + 1) ≤ n) : byteN (numB u n) i = u / 256 ^ i % 256 := by
  apply Nat.eq_of_testBit_eq
  intro t
  have e : ∀ k, k < n → (numB u n).getD k false = u.testBit k := fun k hk => by
    simp only [numB, List.getD, List.getElem?_map, List.getElem?_range hk, Option.map_some, Option.getD_some]
    rw [Nat.testBit_eq_decide_div_mod_eq]
    by_cases hh : u / 2 ^ k % 2 = 1 <;> simp [hh]
  rw [byteN_tb, show (256 : Nat) = 2 ^ 8 by decide, ← Nat.pow_mul, Nat.testBit_mod_two_pow, Nat.testBit_div_two_pow]
  by_cases ht : t < 8
  · rw [e _ (by omega), Nat.add_comm]
  · simp [ht]
theorem pack_num4 (u : Nat) : pack (numB u 32) = leB (u : Int) 4 := by
  have hb : ∀ i, i < 4 → ((byteN (numB u 32) i : Nat) : Int) = (u : Int) / 256 ^ i % 256 := fun i hi => by
    rw [byteN_num u (by omega)]; simp
  unfold pack leB
  rw [numB_len]
  apply List.map_congr_left
  intro i hi
  rw [List.mem_range] at hi
  exact hb i hi

/-- the bits, and the bytes, of numbers, 32 bits each -/
def wideB (l : List Nat) : List Bool := l.flatMap fun u => numB u 32
def wideL (l : List Nat) : List Int := l.flatMap fun (u : Nat) => leB ((u : Nat) : Int) 4
theorem wideB_len : ∀ l : List Nat, (wideB l).length = 32 * l.length
  | [] => rfl
  | u :: l => by have := wideB_len l; simp only [wideB, List.flatMap_cons, List.length_append, List.length_cons, numB_len] at this ⊢; omega
theorem wideB_snoc (l : List Nat) (u : Nat) : wideB (l ++ [u]) = wideB l ++ numB u 32 := by simp [wideB]
theorem wideL_snoc (l : List Nat) (u : Nat) : wideL (l ++ [u]) = wideL l ++ leB (u : Int) 4 := by simp [wideL]
theorem wideL_len : ∀ l : List Nat, (wideL l).length = 4 * l.length
  | [] => rfl
  | u :: l => by have := wideL_len l; simp only [wideL, List.flatMap_cons, List.length_append, List.length_cons, length_leB] at this ⊢; omega
theorem wide_pack : ∀ l : List Nat, pack (wideB l) = wideL l
  | [] => rfl
  | u :: l => by
    have e : wideB (u :: l) = numB u 32 ++ wideB l := rfl
    rw [e, pack_app _ _ (a := 4) (by rw [numB_len]), pack_num4, wide_pack l]
    rfl
theorem wideB_split (l : List Nat) {i : Nat} (hi : i < l.length) : wideB l = wideB (l.take i) ++ (numB (l.getD i 0) 32 ++ wideB (l.drop (i + 1))) := by
  have e : l = l.take i ++ (l.getD i 0 :: l.drop (i + 1)) := by
    rw [show l.getD i 0 = l[i] by simp [List.getD, hi], ← List.drop_eq_getElem_cons hi, List.take_append_drop]
  conv => lhs; rw [e]
  simp [wideB]
theorem wideL_split (l : List Nat) {i : Nat} (hi : i < l.length) : wideL l = wideL (l.take i) ++ (leB ((l.getD i 0 : Nat) : Int) 4 ++ wideL (l.drop (i + 1))) := by
  have e : l = l.take i ++ (l.getD i 0 :: l.drop (i + 1)) := by
    rw [show l.getD i 0 = l[i] by simp [List.getD, hi], ← List.drop_eq_getElem_cons hi, List.take_append_drop]
  conv => lhs; rw [e]
  simp [wideL]
theorem wide_get (l : List Nat) {i : Nat} (hi : i < l.length) : midB (wideB l) (32 * i) (32 * i + 32) = numB (l.getD i 0) 32 := by
  have h1 : (wideB (l.take i)).length = 32 * i := by rw [wideB_len, List.length_take]; omega
  unfold midB
  rw [wideB_split l hi, List.drop_left' h1, show 32 * i + 32 - 32 * i = 32 by omega, List.take_left' (numB_len _ _)]
theorem wideL_get (l : List Nat) {i : Nat} (hi : i < l.length) : ((wideL l).drop (4 * i)).take 4 = leB ((l.getD i 0 : Nat) : Int) 4 := by
  have h1 : (wideL (l.take i)).length = 4 * i := by rw [wideL_len, List.length_take]; omega
  rw [wideL_split l hi, List.drop_left' h1, List.take_left' (length_leB _ _)]
theorem take_snocN (l : List Nat) {k : Nat} (h : k < l.length) : l.take (k + 1) = l.take k ++ [l.getD k 0] := by
  rw [List.take_add_one, List.getElem?_eq_getElem h]; simp [List.getD, h]
theorem getD_mapN (f : Nat → Nat) (l : List Nat) {k : Nat} (h : k < l.length) : (l.map f).getD k 0 = f (l.getD k 0) := by simp [List.getD, h]
end Go.Proofs.Ytbegifpnbbpinaa

/- Contracts of the package bits: sizes, spare bits, checks. -/
namespace Go.Proofs.Ytbegifpnbbpinaa
open Go.RowKit Cad

theorem spare_iff {l : List Int} {n : Nat} (hl : ∀ x ∈ l, 0 ≤ x ∧ x ≤ 255) (hlen : l.length = (n + 7) / 8) (hn : n ≤ 330000) : Valid l n ↔ n % 8 = 0 ∨ l.getD (l.length - 1) 0 / 2 ^ (n % 8) = 0 := by
  constructor
  · rintro ⟨B, hB, _, rfl⟩
    have hB : B.length = n := by omega
    by_cases h8 : n % 8 = 0
    · exact .inl h8
    · refine .inr ?_
      rw [pack_getD _ _ (by omega), hlen]
      have hb := byteN_lt B ((n + 7) / 8 - 1)
      have hz : byteN B ((n + 7) / 8 - 1) / 2 ^ (n % 8) = 0 := by
        apply Nat.div_eq_of_lt
        apply Nat.lt_pow_two_of_testBit
        intro i hi
        rw [Nat.testBit_eq_decide_div_mod_eq]
        by_cases h : i < 8
        · have := byteN_bit B ((n + 7) / 8 - 1) i h
          rw [getD_ge B _ (by omega)] at this
          simpa using this
        · have : byteN B ((n + 7) / 8 - 1) / 2 ^ i = 0 := Nat.div_eq_of_lt (Nat.lt_of_lt_of_le hb (Nat.pow_le_pow_right (n := 2) (by decide) (show 8 ≤ i by omega)))
          rw [this]; rfl
      generalize byteN B ((n + 7) / 8 - 1) = c at *
      rw [show ((c : Int) / 2 ^ (n % 8)) = ((c / 2 ^ (n % 8) : Nat) : Int) by simp, hz]; rfl
  · intro h
    refine Valid_of hl (by omega) (by omega) (by omega) fun i hi hj => ?_
    rcases h with h | h
    · omega
    · have hj' : i / 8 = l.length - 1 := by omega
      unfold bit
      rw [hj']
      have hb := getD_bd hl (l.length - 1)
      obtain ⟨c, hc⟩ : ∃ c : Nat, l.getD (l.length - 1) 0 = c := ⟨(l.getD (l.length - 1) 0).toNat, by omega⟩
      rw [hc] at h ⊢
      have h0 : c / 2 ^ (n % 8) = 0 := by
        have : ((c : Int) / 2 ^ (n % 8)) = ((c / 2 ^ (n % 8) : Nat) : Int) := by simp
        omega
      have h1 : c / 2 ^ (i % 8) = 0 := by
        have : i % 8 = n % 8 + (i % 8 - n % 8) := by omega
        rw [this, Nat.pow_add, ← Nat.div_div_eq_div_mul, h0]; simp
      rw [Int.toNat_natCast, h1]; rfl

theorem Bsize_ok (W : World) (n : Nat) (h1 : n ≤ 1000000000) :
    Calls Try.prog 52 #[.int .i64 n] W fun e W' => e = .returned (.int .i64 (((n + 7) / 8 : Nat) : Int)) ∧ W = W' := by
  go_enter Try.func52, Try.ntmps52
  go_wp2
  go_ret
  exact ⟨by go_num, rfl⟩

/-- what spare says of the last byte -/
def spareV (l : List Int) (n : Nat) : Int := if n % 8 = 0 then 0 else l.getD (l.length - 1) 0 / 2 ^ (n % 8)
theorem Bspare_ok (W : World) (a : Option Addr) (len cap : Nat) (n : Nat) (l : List Int) (hr : Row .u8 W a len cap l) (hn : n ≤ 330000) (hl : len = (n + 7) / 8) :
    Calls Try.prog 53 #[.agg #[.slice a len cap, .int .i64 n]] W fun e W' => e = .returned (.int .u8 (spareV l n)) ∧ Below W.heap.size W W' := by
  have hbE := (Below.refl W.heap.size W).alloc (Nat.le_refl _) (.cells #[.slice a len cap, .int .i64 n] 27)
  have hmax := hr.hmax
  have hcap := hr.hcap
  have hlen := hr.hlen
  unfold maxLen at hmax
  unfold spareV
  by_cases h8 : n % 8 = 0
  · rw [if_pos h8]
    clear hl hlen
    go_enter Try.func53, Try.ntmps53
    go_wp2
    go_ret
    exact ⟨rfl, hbE⟩
  · rw [if_neg h8]
    obtain ⟨b, off, rfl, hlt, hc⟩ := hr.cells (by omega)
    have hcell := hc (len - 1) (by omega)
    have hb := getD_bd (u8_bd hr.wf) (len - 1)
    have hp : 1 ≤ len := by omega
    rw [hlen]
    obtain ⟨c, hcc⟩ : ∃ c, c = l.getD (len - 1) 0 := ⟨_, rfl⟩
    rw [← hcc] at hcell hb ⊢
    clear hcc hc hr hl hlen
    go_enter Try.func53, Try.ntmps53
    go_wp2
    go_ret
    exact ⟨by go_num, hbE⟩
end Go.Proofs.Ytbegifpnbbpinaa

/- A region that draws its order: a head that leaves the world alone, walked by the cheap steps, and a tail in one forced order. No Go function in sight. -/
namespace Go.Proofs.Ytbegifpnbbpinaa
open Go.RowKit

theorem still_of_quiet {P : Program} {ops : Array Oper} {w : World} {Q : Act → Prop} : ∀ (l : List Oper) (a : Act), wpQuiet P ops (fun w' => w' = w) Q l a → wpStill P ops w Q l a
  | [], _, h => h
  | o :: l, a, h => by
    unfold wpQuiet at h
    unfold wpStill
    by_cases hw : Region.wanted o (yielded ops a.tmps) = true
    · rw [if_pos hw] at h ⊢
      obtain ⟨v, h1, h2⟩ := h
      have h3 := h1 w rfl
      have h4 := still_of_quiet l _ h2
      unfold Oper.quietAt at h3
      unfold Oper.still Oper.stillUpon
      generalize (execOp a.eval o).run P w = r at *
      cases r with
      | ok n w' =>
        cases n <;> simp only [Oper.quietUpon] at h3 ⊢
        case value u => exact ⟨h3.1, by rw [h3.2]; exact h4⟩
        case skip => exact ⟨h3.1, by rw [← h3.2]; exact h4⟩
        case enter f args => exact ⟨h3.1, v, h3.2, h4⟩
      | halt x w' => simp only [Oper.quietUpon] at h3
    · rw [if_neg hw] at h ⊢
      exact still_of_quiet l _ h

theorem wp_region_quiet_tail {P : Program} {id : Nat} {Q : Exit → Act → World → Prop} {a : Act} {w : World} {l : List Oper} (n : Nat) (hm : P.follows .mixedOrders = true) (hB : Region.lexTailB .any l.toArray n = true)
    (h : wpQuiet P l.toArray (fun w' => w' = w.drew) (fun a' => wpList P l.toArray Q (l.drop n) a' w.drew) (l.take n) a) : (Code.region id l.toArray true).wp P Q a w :=
  wp_region_still_tail n hm hB (still_of_quiet _ _ h)
end Go.Proofs.Ytbegifpnbbpinaa

/- Contracts of the package bits: Check. -/
namespace Go.Proofs.Ytbegifpnbbpinaa
open Go.RowKit Cad

theorem BCheck_neg (W : World) (a : Option Addr) (len cap : Nat) (N : Int) (h0 : N < 0) (_bN : -9223372036854775808 ≤ N) :
    Calls Try.prog 36 #[.agg #[.slice a len cap, .int .i64 N]] W fun e W' => e = .returned (.int .i64 8) ∧ Below W.heap.size W W' := by
  have hbel := ((Below.refl W.heap.size W).alloc (Nat.le_refl _) (.cells #[.slice a len cap, .int .i64 N] 27))
  go_enter Try.func36, Try.ntmps36
  go_wp2
  go_quiet (fail)
  all_goals go_wp2
  all_goals go_ret
  all_goals exact ⟨rfl, Below.drewN hbel _⟩

theorem BCheck_great (W : World) (a : Option Addr) (len cap : Nat) (N : Int) (h0 : ¬ N < 0) (h1 : N > 330000) (_bN : N ≤ 9223372036854775807) :
    Calls Try.prog 36 #[.agg #[.slice a len cap, .int .i64 N]] W fun e W' => e = .returned (.int .i64 8) ∧ Below W.heap.size W W' := by
  have hbel := ((Below.refl W.heap.size W).alloc (Nat.le_refl _) (.cells #[.slice a len cap, .int .i64 N] 27))
  have c0 : decide (N < 0) = false := decide_eq_false h0
  have c1 : (330000 : Int) < N := h1
  clear h0
  go_enter Try.func36, Try.ntmps36
  go_wp2
  go_quiet (fail)
  all_goals go_wp2
  all_goals go_ret
  all_goals exact ⟨rfl, Below.drewN hbel _⟩

theorem BCheck_len (W : World) (a : Option Addr) (len cap n : Nat) (h1 : (n : Int) ≤ 330000) (h2 : len ≠ (n + 7) / 8) (_hl : len ≤ 9223372036854775807) :
    Calls Try.prog 36 #[.agg #[.slice a len cap, .int .i64 n]] W fun e W' => e = .returned (.int .i64 8) ∧ Below W.heap.size W W' := by
  have hbel := ((Below.refl W.heap.size W).alloc (Nat.le_refl _) (.cells #[.slice a len cap, .int .i64 n] 27))
  have h3 : ¬ ((len : Int) = (((n + 7) / 8 : Nat) : Int)) := by omega
  have hsz := Go.Lib.hid (fun w => Bsize_ok w n (by omega))
  obtain ⟨m, hm⟩ : ∃ m, m = (n + 7) / 8 := ⟨_, rfl⟩
  rw [← hm] at h3 hsz
  clear h2 hm
  have c0 : decide ((n : Int) < 0) = false := decide_eq_false (by omega)
  have c1 : decide ((330000 : Int) < n) = false := decide_eq_false (by omega)
  go_enter Try.func36, Try.ntmps36
  go_wp2
  go_quiet ((go_at_call 52; refine (hsz.out _).mono ?_; rintro e w1 ⟨rfl, rfl⟩; exact ⟨rfl, _, rfl⟩))
  all_goals go_wp2
  all_goals go_ret
  all_goals exact ⟨rfl, Below.drewN hbel _⟩

theorem BCheck_in (W : World) (a : Option Addr) (len cap n : Nat) (s : Int) (_hs0 : 0 ≤ s ∧ s ≤ 255) (h1 : (n : Int) ≤ 330000) (h2 : len = (n + 7) / 8) (_hl : len ≤ 9223372036854775807)
    (hsp : Hid (∀ w, Below W.heap.size W w → Calls Try.prog 53 #[.agg #[.slice a len cap, .int .i64 n]] w fun e W' => e = .returned (.int .u8 s) ∧ Below w.heap.size w W')) :
    Calls Try.prog 36 #[.agg #[.slice a len cap, .int .i64 n]] W fun e W' => e = .returned (.int .i64 (if s = 0 then 0 else 8)) ∧ Below W.heap.size W W' := by
  have hbel := ((Below.refl W.heap.size W).alloc (Nat.le_refl _) (.cells #[.slice a len cap, .int .i64 n] 27)).drew
  have hbel' := Go.Lib.hid hbel
  have hsz := Go.Lib.hid (fun w => Bsize_ok w n (by omega))
  rw [← h2] at hsz
  clear h2 hbel
  have c0 : decide ((n : Int) < 0) = false := decide_eq_false (by omega)
  have c1 : decide ((330000 : Int) < n) = false := decide_eq_false (by omega)
  by_cases h4 : s = 0
  all_goals
    go_enter Try.func36, Try.ntmps36
    go_wp2
    refine wp_region_quiet_tail 18 (by kernel_rfl) (by kernel_rfl) ?_
    simp only [List.take_succ_cons, List.take_zero, List.drop_succ_cons, List.drop_zero]
    repeat (first
      | go_big_quiet_skip
      | (go_big_quiet_want; go_big_quiet_op; first | go_big_quiet_on | (apply Exists.intro; refine ⟨?_, ?_⟩; (focus (go_at_call 52; refine (hsz.out _).mono ?_; rintro e w1 ⟨rfl, rfl⟩; exact ⟨rfl, rfl⟩)); go_big_quiet_on)))
    refine wpQuiet_nil ?_
    go_wp2_with (go_at_call 53; refine (hsp.out _ hbel'.out).mono ?_; rintro e w1 ⟨rfl, hb1⟩)
    go_ret
    exact ⟨ret_int (by simp ), hbel'.out.trans (hb1.mono (by simp))⟩

theorem BCheck_any (W : World) (a : Option Addr) (len cap : Nat) (N : Int) (l : List Int) (hr : Row .u8 W a len cap l) (hN : (Lit.int .i64 N).wf = true) (r : Int) (hr0 : chk l N r) :
    Calls Try.prog 36 #[.agg #[.slice a len cap, .int .i64 N]] W fun e W' => e = .returned (.int .i64 r) ∧ Below W.heap.size W W' := by
  have hmax := hr.hmax
  have hcap := hr.hcap
  have hlen := hr.hlen
  have bN := bounds_i64 hN
  unfold maxLen at hmax
  by_cases h0 : N < 0
  · obtain rfl := hr0.no fun h => by have := h.n; omega
    exact BCheck_neg W a len cap N h0 bN.1
  by_cases h1 : N > 330000
  · obtain rfl := hr0.no fun h => by have := h.n; omega
    exact BCheck_great W a len cap N h0 h1 bN.2
  obtain ⟨n, rfl⟩ : ∃ n : Nat, N = n := ⟨N.toNat, by omega⟩
  by_cases h2 : len = (n + 7) / 8
  · have key : Valid l n ↔ spareV l n = 0 := by
      rw [spare_iff (u8_bd hr.wf) (by omega) (by omega)]
      unfold spareV
      split <;> simp_all
    have hr1 : r = if spareV l n = 0 then 0 else 8 := by
      by_cases hv : spareV l n = 0
      · rw [if_pos hv]; exact hr0.yes (key.2 hv)
      · rw [if_neg hv]; exact hr0.no fun h => hv (key.1 h)
    have hb := getD_bd (u8_bd hr.wf) (l.length - 1)
    have hsb : 0 ≤ spareV l n ∧ spareV l n ≤ 255 := by
      unfold spareV
      split
      · exact ⟨by decide, by decide⟩
      · exact ⟨Int.ediv_nonneg hb.1 (Int.pow_nonneg (by decide)), Int.le_trans (Int.ediv_le_self _ hb.1) hb.2⟩
    rw [hr1]
    exact BCheck_in W a len cap n _ hsb (by omega) h2 (by omega) (Go.Lib.hid fun w hw => Bspare_ok w a len cap n l (hr.below hw (Nat.le_refl _)) (by omega) h2)
  · obtain rfl := hr0.no fun h => by have := h.n; omega
    exact BCheck_len W a len cap n (by omega) h2 (by omega)
end Go.Proofs.Ytbegifpnbbpinaa

/- Contracts of the package bits: copies, bits of bytes, aligned bits. -/
namespace Go.Proofs.Ytbegifpnbbpinaa
open Go.RowKit Cad

theorem Bcopied_ok (W : World) (a : Option Addr) (len cap : Nat) (l : List Int) (hr : Row .u8 W a len cap l) (hlen : len ≤ 1000000000) :
    Calls Try.prog 41 #[.slice a len cap] W fun e W' => ∃ v', e = .returned v' ∧
      W'.ownsRow W.heap.size 5 1 v' len (nums .u8 l) ∧ Below W.heap.size W W' := by
  have hr' := Go.Lib.hid hr
  clear hr
  go_enter Try.func41, Try.ntmps41
  go_wp2_with (first
    | (refine law_make elU8 _ rfl _ _ rfl .i64 .i64 _ _ len rfl rfl (by omega) (by omega) (by omega) ?_; intro w1 hown1 hb1 hs1; have hr1 := (hr'.out.below hb1 (Nat.le_refl _)); have hown1' := Go.Lib.hid hown1; have hb1' := Go.Lib.hid hb1; clear hown1 hb1)
    | (with_reducible show wpList _ _ _ _ _ _; refine law_copyRow elU8 _ rfl _ _ _ rfl W.heap.size W.heap.size len len (List.replicate len 0) rfl hown1'.out a len cap l rfl hr1 (Nat.le_refl _) ?_; intro w2 hown2 hb2; have hown2' := Go.Lib.hid hown2; have hb2' := Go.Lib.hid hb2; clear hown2 hb2))
  go_ret
  refine ⟨_, rfl, by simpa using hown2'.out, hb1'.out.trans hb2'.out⟩

theorem BOf_many (W : World) (a : Option Addr) (len cap : Nat) (h : (41250 : Int) < len) (_hl : len ≤ 9223372036854775807) :
    Calls Try.prog 14 #[.slice a len cap] W fun e W' => e = .returned (.tuple #[.agg #[.slice none 0 0, .int .i64 0], .int .i64 4]) ∧ Below W.heap.size W W' := by
  go_enter Try.func14, Try.ntmps14
  go_wp2
  go_returns
  exact ⟨rfl, (Below.refl _ _).alloc (Nat.le_refl _) _⟩

theorem BOf_ok (W : World) (a : Option Addr) (len cap : Nat) (l : List Int) (hr : Row .u8 W a len cap l) (h : (len : Int) ≤ 41250) :
    Calls Try.prog 14 #[.slice a len cap] W fun e W' => ∃ v', e = .returned (.tuple #[.agg #[v', .int .i64 (8 * (len : Int))], .int .i64 0]) ∧
      W'.ownsRow W.heap.size 5 1 v' len (nums .u8 l) ∧ Below W.heap.size W W' := by
  have hbE := ((Below.refl W.heap.size W).alloc (Nat.le_refl _) (.cells #[.slice none 0 0, .int .i64 0] 27))
  have hcp := Go.Lib.hid (Bcopied_ok _ a len cap l (hr.below hbE (Nat.le_refl _)) (by omega))
  have hy0 : BoxAt (W.alloc (.cells #[.slice none 0 0, .int .i64 0] 27)) W.heap.size (.slice none 0 0) 0 := by
    unfold BoxAt; rw [heap_alloc_new]
  have hbE' := Go.Lib.hid hbE
  have hy0' := Go.Lib.hid hy0
  clear hr hbE hy0
  go_enter Try.func14, Try.ntmps14
  go_wp2_with (go_at_call 41; refine hcp.out.mono ?_; rintro e w1 ⟨v1, rfl, hown1, hb1⟩; obtain ⟨a1, c1, rfl⟩ := own_form hown1; obtain ⟨d0, d1, g0, g1⟩ := (hy0'.out.below hb1 (by simp)).cells; have hb1' := Go.Lib.hid hb1; have ho1' := Go.Lib.hid hown1; clear hb1 hown1)
  (try simp only [Exit.inBlock, Exit.then])
  have hy1 := hy0'.out.below hb1'.out (by simp)
  have ap := hy1.apart ho1'.out
  refine bodyPost_ret (results_box_tmp (by rfl) _ _ W.heap.size _ _ rfl (hy1.set _ _)) rfl ?_
  refine ⟨.slice a1 len c1, by simp [Int.mul_comm], own_set (own_set (own_base ho1'.out (by simp)) ap _ _) ap _ _, ?_⟩
  exact ((hbE'.out.trans (hb1'.out.mono (by simp))).setCell (Nat.le_refl _) _).setCell (Nat.le_refl _) _

end Go.Proofs.Ytbegifpnbbpinaa

/- Contracts of the package bits: join. -/
namespace Go.Proofs.Ytbegifpnbbpinaa
open Go.RowKit Cad

theorem Bjoin_ok (W : World) (a : Option Addr) (len cap : Nat) (A : List Bool) (hr : Row .u8 W a len cap (pack A)) (a' : Option Addr) (len' cap' : Nat) (B : List Bool) (hr' : Row .u8 W a' len' cap' (pack B)) (hAB : A.length + B.length ≤ 330000) :
    Calls Try.prog 39 #[.agg #[.slice a len cap, .int .i64 A.length], .agg #[.slice a' len' cap', .int .i64 B.length]] W fun e W' => ∃ b c, e = .returned (.tuple #[.agg #[.slice b (((A ++ B).length + 7) / 8) c, .int .i64 ((A.length + B.length : Nat) : Int)], .int .i64 0]) ∧
      Row .u8 W' b (((A ++ B).length + 7) / 8) c (pack (A ++ B)) ∧ Below W.heap.size W W' := by
  have hl := hr.hlen
  have hl' := hr'.hlen
  rw [pack_len] at hl hl'
  have hbE := (((Below.refl W.heap.size W).alloc (Nat.le_refl _) (.cells #[.slice a len cap, .int .i64 A.length] 27)).alloc (by simp) (.cells #[.slice a' len' cap', .int .i64 B.length] 27)).alloc (by simp; omega) (.cells #[.slice none 0 0, .int .i64 0] 27)
  obtain ⟨W0, hW0⟩ : ∃ W0, W0 = ((W.alloc (.cells #[.slice a len cap, .int .i64 A.length] 27)).alloc (.cells #[.slice a' len' cap', .int .i64 B.length] 27)).alloc (.cells #[.slice none 0 0, .int .i64 0] 27) := ⟨_, rfl⟩
  have hs0 : W0.heap.size = W.heap.size + 1 + 1 + 1 := by rw [hW0]; simp
  have hx0 : BoxAt W0 W.heap.size (.slice a len cap) A.length := by
    rw [hW0]; unfold BoxAt; rw [Below.heap_alloc _ _ _ (by simp; omega), Below.heap_alloc _ _ _ (by simp), heap_alloc_new]
  have hb0 : BoxAt W0 (W.heap.size + 1) (.slice a' len' cap') B.length := by
    rw [hW0]; unfold BoxAt; rw [Below.heap_alloc _ _ _ (by simp), heap_alloc2_new]
  have hy0 : BoxAt W0 (W.heap.size + 1 + 1) (.slice none 0 0) 0 := by
    have := heap_alloc_new ((W.alloc (.cells #[.slice a len cap, .int .i64 A.length] 27)).alloc (.cells #[.slice a' len' cap', .int .i64 B.length] 27)) (.cells #[.slice none 0 0, .int .i64 0] 27)
    rw [show ((W.alloc (.cells #[.slice a len cap, .int .i64 A.length] 27)).alloc (.cells #[.slice a' len' cap', .int .i64 B.length] 27)).heap.size = W.heap.size + 1 + 1 by simp] at this
    rw [hW0]; exact this
  rw [← hW0] at hbE
  have hrE := hr.below hbE (Nat.le_refl _)
  have hrE' := hr'.below hbE (Nat.le_refl _)
  obtain ⟨c0, c1, c2, c3⟩ := hx0.cells
  obtain ⟨d0, d1, d2, d3⟩ := hb0.cells
  obtain ⟨m, hm⟩ : ∃ m, m = ((A ++ B).length + 7) / 8 := ⟨_, rfl⟩
  obtain ⟨f, s, hf⟩ : ∃ f s : Nat, f = A.length / 8 ∧ s = A.length % 8 ∧ s < 8 ∧ A.length = 8 * f + s := ⟨_, _, rfl, rfl, by omega, by omega⟩
  have hff := Go.Lib.hid hf
  have e8 : Hid (IntKind.i64.wrap ((A.length : Int) / 8) = (f : Int)) := Go.Lib.hid (by rw [IntWalk.i64_in _ (by omega)]; omega)
  have e9 : Hid ((A.length : Int).tmod 8 = (s : Int)) := Go.Lib.hid (by rw [Int.tmod_eq_emod_of_nonneg (by omega)]; omega)
  clear hf
  have hsz : Hid (∀ w, Calls Try.prog 52 #[.int .i64 ((A.length : Int) + (B.length : Int))] w fun e W' => e = .returned (.int .i64 (m : Int)) ∧ w = W') := Go.Lib.hid (fun w => by
    have := Bsize_ok w (A.length + B.length) (by omega)
    rw [← List.length_append, ← hm] at this
    rw [List.length_append] at this
    exact_mod_cast this)
  have hmb : m ≤ 41250 := by rw [hm, List.length_append]; omega
  rw [← hm]
  have hx0' := Go.Lib.hid hx0
  have hb0' := Go.Lib.hid hb0
  have hy0' := Go.Lib.hid hy0
  have hbE' := Go.Lib.hid hbE
  have hrA := Go.Lib.hid hrE
  have hrB := Go.Lib.hid hrE'
  have hl1 := Go.Lib.hid hl
  have hl2 := Go.Lib.hid hl'
  have hm' := Go.Lib.hid hm
  have hlm : len ≤ m + 1 := by rw [hm, List.length_append]; omega
  have hsA : ((A.length : Int) + (B.length : Int) ≤ 330000) := by omega
  have hs0' := Go.Lib.hid hs0
  clear hx0 hb0 hy0 hbE hrE hrE' hl hl' hm hr hr'
  go_enter Try.func39, Try.ntmps39
  go_wp2_with (first
    | (go_at_call 52; rw [← hW0]; refine (hsz.out _).mono ?_; rintro e w1 ⟨rfl, rfl⟩; clear hW0)
    | (refine law_make elU8 _ rfl _ _ rfl .i64 .i64 _ _ (m + 1) rfl rfl (by omega) (by omega) (by omega) ?_; intro w1 hown1 hb1 hs1; simp only [hs0] at hown1 hb1 hs1; obtain ⟨e0, e1, e2, e3⟩ := (hx0'.out.below hb1 (by omega)).cells; have hrA1 := (hrA.out.below hb1 (Nat.le_of_eq hs0)); have hown1' := Go.Lib.hid hown1; have hb1' := Go.Lib.hid hb1; clear hown1 hb1)
    | (with_reducible show wpList _ _ _ _ _ _; refine law_copyRow elU8 _ rfl _ _ _ rfl (W.heap.size + 1 + 1 + 1) (W.heap.size + 1 + 1 + 1) (m + 1) (m + 1) (List.replicate (m + 1) 0) rfl hown1'.out a len cap (pack A) rfl hrA1 hlm ?_; intro w2 hown2 hb2; have hb12 := (hb1'.out.trans hb2); obtain ⟨f0, f1, f2, f3⟩ := (hx0'.out.below hb12 (by omega)).cells; obtain ⟨g0, g1, g2, g3⟩ := (hb0'.out.below hb12 (by omega)).cells; have hown2' := Go.Lib.hid hown2; have hb2' := Go.Lib.hid hb12; clear hown2 hb2 hb12))
  go_quiet (fail)
  go_wp2
  have hbE2 := Below.drewN hb2'.out nq
  obtain ⟨w3, hw3⟩ : ∃ w3, w3 = w2.drewN nq := ⟨_, rfl⟩
  have hown3 : w3.ownsRow (W.heap.size + 1 + 1 + 1) 5 1 (.slice (some ⟨W.heap.size + 1 + 1 + 1, 0, none⟩) (m + 1) (m + 1)) (m + 1) (nums .u8 (pack A ++ List.drop len (List.replicate (m + 1) 0))) := by rw [hw3]; exact hown2'.out
  rw [← hw3] at hbE2 ⊢
  have hb3' := Go.Lib.hid hbE2
  have hs3 : W.heap.size + 1 + 1 + 1 ≤ w3.heap.size := by have := hbE2.size; omega
  clear hw3 hbE2 hrA1 e0 e1 e2 e3 f0 f1 f2 f3 g0 g1 g2 g3 c0 c1 c2 c3 d0 d1 d2 d3 hown1' hb1' hs1 hs0 hown2' hb2'
  simp only [e8.out, e9.out]
  go_loopw [38] (fun i wr => ∃ (k : Nat) (l : List Int), k ≤ len' ∧ i = .int .i64 k ∧ IsB l (m + 1) (A ++ B.take (8 * k)) ∧
    wr.ownsRow (W.heap.size + 1 + 1 + 1) 5 1 (.slice (some ⟨W.heap.size + 1 + 1 + 1, 0, none⟩) (m + 1) (m + 1)) (m + 1) (nums .u8 l) ∧ Below (W.heap.size + 1 + 1 + 1) W0 wr) (fun i _ => len' - (intOf i).toNat)
  case atStart => exact ⟨0, _, Nat.zero_le _, rfl, by rw [← hl1.out]; simpa using isB_start A (by have := hl1.out; omega), hown3, hb3'.out⟩
  case round =>
    obtain ⟨k, l, hk, rfl, hB, hown, hbk⟩ := hrel
    by_cases hlt : k < len'
    · obtain ⟨b', off, rfl, hlt', hc⟩ := (hrB.out.below hbk (Nat.le_of_eq hs0'.out)).cells (by omega)
      have hs8 := hff.out.2.2.1
      have hfk : f + k + 1 < m + 1 := by have := hff.out.2.2.2; have := hm'.out; have := hl2.out; rw [List.length_append] at *; omega
      obtain ⟨d, hd, hd8⟩ := hB.byte (f + k)
      obtain ⟨e, he, he8⟩ := hB.byte (f + k + 1)
      have hst := Go.Lib.hid (join_step hB hff.out.2.2.2 hs8 hfk hd hd8 he he8)
      have hcell := hc k hlt
      rw [pack_getD B k (by have := hl2.out; omega)] at hcell
      have hc8 := byteN_lt B k
      obtain ⟨c, hcc⟩ : ∃ c, c = byteN B k := ⟨_, rfl⟩
      rw [← hcc] at hcell hst hc8
      clear hcc
      have hx16 : c * 2 ^ s < 65536 := by
        have : 2 ^ s ≤ 128 := by rcases lt8 hs8 with h | h | h | h | h | h | h | h <;> rw [h] <;> decide
        calc c * 2 ^ s ≤ 255 * 128 := Nat.mul_le_mul (by omega) this
          _ < 65536 := by decide
      obtain ⟨x, hxx⟩ : ∃ x, x = c * 2 ^ s := ⟨_, rfl⟩
      rw [← hxx] at hst hx16
      have hmul : (c : Int) * 2 ^ s = (x : Int) := by rw [hxx]; simp
      have o1 := Go.u8_or_nat d (x % 256) hd8 (Nat.mod_lt _ (by decide))
      have o2 := Go.u8_or_nat e (x / 256) he8 (by omega)
      have lk : l.length = m + 1 := hB.1
      have hc1 := hown.cellAt (f + k) (by omega)
      have hc2 := hown.cellAt (f + k + 1) (by omega)
      have hf1 := hown.frozenAt (f + k)
      have hf2 := hown.frozenAt (f + k + 1)
      rw [show (nums .u8 l)[f + k]? = some (.int .u8 (d : Int)) by rw [← hd]; simp [nums, List.getD, show f + k < l.length by omega]] at hc1
      rw [show (nums .u8 l)[f + k + 1]? = some (.int .u8 (e : Int)) by rw [← he]; simp [nums, List.getD, show f + k + 1 < l.length by omega]] at hc2
      have hown' := Go.Lib.hid hown
      have hbk' := Go.Lib.hid hbk
      clear hxx hc hB hown hbk hd he lk hown3
      go_wp2
      rw [show ((x : Int) % 256) = ((x % 256 : Nat) : Int) by simp, show ((x : Int) / 256) = ((x / 256 : Nat) : Int) by simp, o1, o2]
      have h1 := (hown'.out.stored (f + k) (.int .u8 ((d ||| x % 256 : Nat) : Int))).1
      have h2 := (h1.stored (f + k + 1) (.int .u8 ((e ||| x / 256 : Nat) : Int))).1
      rw [nums_set, nums_set] at h2
      exact ⟨⟨k + 1, _, by omega, by go_num, hst.out, h2, (hbk'.out.setCell (Nat.le_refl _) _).setCell (Nat.le_refl _) _⟩, by simp [intOf]; omega⟩
    · obtain rfl : k = len' := by omega
      have hy := hy0'.out.below hbk (by omega)
      obtain ⟨y0, y1, y2, y3⟩ := hy.cells
      have hy' := Go.Lib.hid hy
      have hown' := Go.Lib.hid hown
      have hbk' := Go.Lib.hid hbk
      have hB' := Go.Lib.hid hB
      clear hy hB hown hbk hown3
      go_wp2_with (go_at_call 52; refine (hsz.out _).mono ?_; rintro e w5 ⟨rfl, rfl⟩)
      have ap := hy'.out.apart hown'.out
      have hfin : ∀ i, (A ++ B.take (8 * k)).getD i false = (A ++ B).getD i false := fun i => by
        rw [List.take_of_length_le (by have := hl2.out; omega)]
      have htk := isB_take hB'.out hfin (by have := hm'.out; omega)
      rw [← hm'.out] at htk
      refine bodyPost_ret (results_box_tmp (by rfl) _ _ (W.heap.size + 1 + 1) _ _ rfl (hy'.out.set _ _)) rfl ?_
      refine ⟨some ⟨W.heap.size + 1 + 1 + 1, 0, none⟩, m, by simp, ?_, ?_⟩
      · have h1 := Row.of_own (own_set (own_set hown'.out ap 0 (.slice (some ⟨W.heap.size + 1 + 1 + 1, 0, none⟩) m m)) ap 1 (.int .i64 ((A.length : Int) + (B.length : Int)))) (u8_wf hB'.out.2.1)
        have h2 := (h1.take m (by omega)).clip
        rw [htk] at h2
        exact h2
      · exact ((hbE'.out.trans (hbk'.out.mono (by omega))).setCell (by simp; omega) _).setCell (by simp; omega) _
end Go.Proofs.Ytbegifpnbbpinaa
