/- CRC-32 on numbers: a step, a byte, bytes; linear, injective, bursts. No Go function in sight. -/
import Derived.Test.YtgffegcflibclaaBitP
namespace Cad

/-- a step with the bit 0 -/
def crcZ (s : Nat) : Nat := s / 2 ^^^ (if s % 2 = 1 then 3988292384 else 0)
def crcStep (s : Nat) (b : Bool) : Nat := crcZ (s ^^^ b.toNat)
def crcBits (s : Nat) (B : List Bool) : Nat := B.foldl crcStep s
def crcByte (s c : Nat) : Nat := crcBits s (numB c 8)
def crcB (s : Nat) (l : List Int) : Nat := l.foldl (fun s c => crcByte s c.toNat) s

theorem xor_div2 (a b : Nat) : (a ^^^ b) / 2 = a / 2 ^^^ b / 2 := by
  apply Nat.eq_of_testBit_eq
  intro i
  rw [← Nat.testBit_succ, Nat.testBit_xor, Nat.testBit_xor, Nat.testBit_succ, Nat.testBit_succ]
theorem xor_mod2 (a b : Nat) : (a ^^^ b) % 2 = (a % 2 + b % 2) % 2 := by
  have h : (a ^^^ b) % 2 = 1 ↔ ¬ (a % 2 = 1 ↔ b % 2 = 1) := Nat.xor_mod_two_eq_one
  have hc := Nat.mod_lt (a ^^^ b) (show 0 < 2 by decide)
  by_cases h1 : a % 2 = 1 <;> by_cases h2 : b % 2 = 1
  · have : ¬ (a ^^^ b) % 2 = 1 := fun e => h.1 e ⟨fun _ => h2, fun _ => h1⟩
    omega
  · have : (a ^^^ b) % 2 = 1 := h.2 fun e => h2 (e.1 h1)
    omega
  · have : (a ^^^ b) % 2 = 1 := h.2 fun e => h1 (e.2 h2)
    omega
  · have : ¬ (a ^^^ b) % 2 = 1 := fun e => h.1 e ⟨fun x => absurd x h1, fun x => absurd x h2⟩
    omega
theorem crcZ_xor (a b : Nat) : crcZ (a ^^^ b) = crcZ a ^^^ crcZ b := by
  unfold crcZ
  rw [xor_div2, xor_mod2]
  rcases (show a % 2 = 0 ∨ a % 2 = 1 by omega) with h1 | h1 <;> rcases (show b % 2 = 0 ∨ b % 2 = 1 by omega) with h2 | h2 <;> simp only [h1, h2]
  · simp
  · simp [Nat.xor_assoc]
  · simp only [Nat.reduceAdd, Nat.reduceMod, if_true, if_neg (show ¬ ((0 : Nat) = 1) by decide), Nat.xor_zero]
    rw [Nat.xor_assoc, Nat.xor_assoc, Nat.xor_comm (b / 2)]
  · have : (a / 2 ^^^ 3988292384) ^^^ (b / 2 ^^^ 3988292384) = a / 2 ^^^ b / 2 := by
      rw [Nat.xor_comm (b / 2), Nat.xor_assoc, ← Nat.xor_assoc 3988292384, Nat.xor_self, Nat.zero_xor]
    simpa using this.symm
theorem crcZ_zero : crcZ 0 = 0 := by decide
theorem crcZ_double (m : Nat) : crcZ (2 * m) = m := by
  unfold crcZ
  rw [if_neg (by omega)]; simp
theorem crcZ_lt {s : Nat} (h : s < 4294967296) : crcZ s < 4294967296 := by
  unfold crcZ
  refine Nat.xor_lt_two_pow (n := 32) (by omega) ?_
  split <;> decide
theorem crcZ_ne {s : Nat} (h : s < 4294967296) (h0 : s ≠ 0) : crcZ s ≠ 0 := by
  unfold crcZ
  by_cases ho : s % 2 = 1
  · rw [if_pos ho]
    intro e
    have hb : (s / 2 ^^^ 3988292384).testBit 31 = true := by
      rw [Nat.testBit_xor]
      have : (s / 2).testBit 31 = false := Nat.testBit_lt_two_pow (by omega)
      rw [this]; decide
    rw [e] at hb
    simp at hb
  · rw [if_neg ho]
    simp
    omega

theorem crcStep_xor (s t : Nat) (b c : Bool) : crcStep (s ^^^ t) (b ^^ c) = crcStep s b ^^^ crcStep t c := by
  unfold crcStep
  rw [← crcZ_xor]
  congr 1
  have e : (b ^^ c).toNat = b.toNat ^^^ c.toNat := by cases b <;> cases c <;> rfl
  rw [e, Nat.xor_assoc, Nat.xor_assoc, ← Nat.xor_assoc t, ← Nat.xor_assoc b.toNat, Nat.xor_comm t]
theorem crcStep_lt {s : Nat} (h : s < 4294967296) (b : Bool) : crcStep s b < 4294967296 := by
  refine crcZ_lt (Nat.xor_lt_two_pow (n := 32) h ?_)
  cases b <;> decide
theorem crcBits_lt : ∀ (B : List Bool) {s : Nat}, s < 4294967296 → crcBits s B < 4294967296
  | [], _, h => h
  | b :: B, _, h => crcBits_lt B (crcStep_lt h b)
theorem crcByte_lt {s : Nat} (h : s < 4294967296) (c : Nat) : crcByte s c < 4294967296 := crcBits_lt _ h
theorem crcB_lt : ∀ (l : List Int) {s : Nat}, s < 4294967296 → crcB s l < 4294967296
  | [], _, h => h
  | c :: l, _, h => crcB_lt l (crcByte_lt h c.toNat)
theorem crcBits_app (s : Nat) (A B : List Bool) : crcBits s (A ++ B) = crcBits (crcBits s A) B := List.foldl_append
theorem crcB_app (s : Nat) (a b : List Int) : crcB s (a ++ b) = crcB (crcB s a) b := List.foldl_append
theorem crcB_snoc (s : Nat) (l : List Int) {k : Nat} (h : k < l.length) : crcB s (l.take (k + 1)) = crcByte (crcB s (l.take k)) (l.getD k 0).toNat := by
  rw [List.take_add_one, List.getElem?_eq_getElem h]
  show crcB s (List.take k l ++ [l[k]]) = _
  rw [crcB_app]
  simp [crcB, List.getD, h]

/-- the bits of bytes, the lowest one of each first -/
def bitsOf (l : List Int) : List Bool := l.flatMap fun c => numB c.toNat 8
theorem crcB_bits : ∀ (l : List Int) (s : Nat), crcB s l = crcBits s (bitsOf l)
  | [], _ => rfl
  | c :: l, s => by
    show crcB (crcByte s c.toNat) l = crcBits s (numB c.toNat 8 ++ bitsOf l)
    rw [crcBits_app, crcB_bits l]
    rfl
theorem bitsOf_len : ∀ l : List Int, (bitsOf l).length = 8 * l.length
  | [] => rfl
  | c :: l => by
    show (numB c.toNat 8 ++ bitsOf l).length = _
    rw [List.length_append, numB_len, bitsOf_len l, List.length_cons]; omega
theorem bitsOf_getD : ∀ (l : List Int) (i : Nat), i < 8 * l.length → (bitsOf l).getD i false = bit l i
  | [], i, h => by simp at h
  | c :: l, i, h => by
    show (numB c.toNat 8 ++ bitsOf l).getD i false = _
    by_cases hi : i < 8
    · have e : (numB c.toNat 8 ++ bitsOf l).getD i false = (numB c.toNat 8).getD i false := by
        simp [List.getD, List.getElem?_append_left, numB_len, hi]
      rw [e]
      unfold bit numB
      rw [show i / 8 = 0 by omega, show i % 8 = i by omega]
      simp [List.getD, hi]
    · have e : (numB c.toNat 8 ++ bitsOf l).getD i false = (bitsOf l).getD (i - 8) false := by
        simp only [List.getD]
        rw [List.getElem?_append_right (by rw [numB_len]; omega), numB_len]
      rw [e, bitsOf_getD l (i - 8) (by rw [List.length_cons] at h; omega)]
      unfold bit
      rw [show i / 8 = (i - 8) / 8 + 1 by omega, show i % 8 = (i - 8) % 8 by omega]
      rfl

theorem crcBits_xor : ∀ (A B : List Bool) (s t : Nat), A.length = B.length → crcBits (s ^^^ t) (List.zipWith xor A B) = crcBits s A ^^^ crcBits t B
  | [], [], _, _, _ => rfl
  | a :: A, b :: B, s, t, h => by
    show crcBits (crcStep (s ^^^ t) (a ^^ b)) (List.zipWith xor A B) = crcBits (crcStep s a) A ^^^ crcBits (crcStep t b) B
    rw [crcStep_xor, crcBits_xor A B _ _ (by simpa using h)]
  | [], _ :: _, _, _, h => by simp at h
  | _ :: _, [], _, _, h => by simp at h

def iterZ : Nat → Nat → Nat
  | 0, s => s
  | n + 1, s => iterZ n (crcZ s)
theorem iterZ_xor : ∀ (n a b : Nat), iterZ n (a ^^^ b) = iterZ n a ^^^ iterZ n b
  | 0, _, _ => rfl
  | n + 1, a, b => by rw [iterZ, crcZ_xor, iterZ_xor n]; rfl
theorem iterZ_ne : ∀ (n : Nat) {s : Nat}, s < 4294967296 → s ≠ 0 → iterZ n s ≠ 0
  | 0, _, _, h => h
  | n + 1, _, h, h0 => iterZ_ne n (crcZ_lt h) (crcZ_ne h h0)
theorem iterZ_zero : ∀ n : Nat, iterZ n 0 = 0
  | 0 => rfl
  | n + 1 => by rw [iterZ, crcZ_zero, iterZ_zero n]
theorem iterZ_up : ∀ (n m : Nat), iterZ n (2 ^ n * m) = m
  | 0, m => by simp [iterZ]
  | n + 1, m => by rw [iterZ, Nat.pow_succ', Nat.mul_assoc, crcZ_double, iterZ_up n]
/-- bits are a number that changes the state, and then come zeros -/
theorem crcBits_iter : ∀ (B : List Bool) (s : Nat), crcBits s B = iterZ B.length (s ^^^ natB B)
  | [], s => by simp [natB, crcBits, iterZ]
  | b :: B, s => by
    show crcBits (crcZ (s ^^^ b.toNat)) B = _
    rw [crcBits_iter B, List.length_cons, iterZ, natB]
    congr 1
    have e : b.toNat + 2 * natB B = b.toNat ^^^ (2 * natB B) := by
      apply Nat.eq_of_testBit_eq
      intro i
      cases i with
      | zero => rw [Nat.testBit_xor]; cases b <;> simp [Nat.testBit_zero] <;> omega
      | succ i =>
        rw [Nat.testBit_xor, Nat.testBit_succ, Nat.testBit_succ, Nat.testBit_succ, show (b.toNat + 2 * natB B) / 2 = natB B by have := Bool.toNat_le b; omega, show b.toNat / 2 = 0 by have := Bool.toNat_le b; omega, show 2 * natB B / 2 = natB B by omega]
        simp
    rw [e, ← Nat.xor_assoc, crcZ_xor (s ^^^ b.toNat), crcZ_double]
theorem natB_zeros (n : Nat) : natB (List.replicate n false) = 0 := by
  induction n with
  | zero => rfl
  | succ n ih => rw [List.replicate_succ, natB, ih]; rfl
theorem crcBits_zeros (n s : Nat) : crcBits s (List.replicate n false) = iterZ n s := by
  rw [crcBits_iter, natB_zeros, Nat.xor_zero, List.length_replicate]
/-- a burst changes the state -/
theorem burst_ne (i r : Nat) (B : List Bool) (hB : B.length ≤ 32) (h0 : natB B ≠ 0) : crcBits 0 (List.replicate i false ++ (B ++ List.replicate r false)) ≠ 0 := by
  rw [crcBits_app, crcBits_app, crcBits_zeros, crcBits_zeros, iterZ_zero, crcBits_iter, Nat.zero_xor]
  have hlt : natB B < 4294967296 := Nat.lt_of_lt_of_le (natB_lt B) (Nat.pow_le_pow_right (n := 2) (by decide) hB)
  have h1 := iterZ_ne B.length hlt h0
  have h2 : iterZ B.length (natB B) < 4294967296 := by
    have := crcBits_lt B (s := 0) (by decide)
    rwa [crcBits_iter, Nat.zero_xor] at this
  exact iterZ_ne r h2 h1

theorem xor_eq_zero {a b : Nat} (h : a ^^^ b = 0) : a = b := by
  have : a ^^^ (a ^^^ b) = a := by rw [h, Nat.xor_zero]
  rw [← Nat.xor_assoc, Nat.xor_self, Nat.zero_xor] at this
  exact this.symm

/-- the state behind a byte, by the table -/
theorem crcByte_iter (s c : Nat) (hc : c < 256) : crcByte s c = iterZ 8 (s ^^^ c) := by
  unfold crcByte
  rw [crcBits_iter, numB_len, natB_numB, Nat.mod_eq_of_lt hc]
theorem split256 (x : Nat) : x = (2 ^ 8 * (x / 256)) ^^^ (x % 256) := by
  apply Nat.eq_of_testBit_eq
  intro i
  rw [Nat.testBit_xor, show (256 : Nat) = 2 ^ 8 by decide, Nat.testBit_two_pow_mul, Nat.testBit_mod_two_pow, Nat.testBit_div_two_pow]
  by_cases h : 8 ≤ i
  · rw [decide_eq_true h, decide_eq_false (show ¬ i < 8 by omega), show i - 8 + 8 = i by omega]; simp
  · rw [decide_eq_false h, decide_eq_true (show i < 8 by omega)]; simp
theorem crcByte_table (s c : Nat) (hc : c < 256) : crcByte s c = s / 256 ^^^ crcByte 0 (s % 256 ^^^ c) := by
  have hm : s % 256 ^^^ c < 256 := Nat.xor_lt_two_pow (n := 8) (Nat.mod_lt _ (by decide)) hc
  have e : s ^^^ c = (2 ^ 8 * (s / 256)) ^^^ (s % 256 ^^^ c) := by
    rw [← Nat.xor_assoc, ← split256 s]
  rw [crcByte_iter s c hc, crcByte_iter 0 _ hm, e, iterZ_xor, iterZ_up, Nat.zero_xor]
end Cad
