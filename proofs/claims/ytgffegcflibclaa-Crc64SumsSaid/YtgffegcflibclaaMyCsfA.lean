/- Contracts of the package crc64 (the true code): a step, halves of a byte. -/
import Derived.Test.YtgffegcflibclaaCsfR
import Derived.Laws.Rows
import Derived.Laws.Tables
namespace Go.Proofs.Ytgffegcflibclaa
open Go.RowKit Cad

theorem CStep_one (W : World) (s b x : Nat) (hs : s < 18446744073709551616) (hb : b = 0 ∨ b = 1) (hx : x < 18446744073709551616) (e : bits .xor .u64 (s : Int) ((b : Int) * 9223372036854775808) = (x : Int)) :
    Calls Try.prog 20 #[.int .u64 s, .int .u64 b] W fun e W' => e = .returned (.int .u64 (csfZ x : Nat)) ∧ W = W' := by
  rcases (show x < 9223372036854775808 ∨ 9223372036854775808 ≤ x by omega) with h | h
  · have e2 : bits .and .u64 4823603603198064275 0 = 0 := by
      have := Go.u64_and_nat 4823603603198064275 0 (by decide) (by decide)
      simpa using this
    have e3 : bits .xor .u64 ((x : Int) * 2) 0 = (x : Int) * 2 := by
      have := Go.u64_xor_nat (x * 2) 0 (by omega) (by decide)
      simpa using this
    have hq : (x : Int) / 9223372036854775808 = 0 := by omega
    have hz := Go.Lib.hid (show csfZ x = x * 2 by rw [csfZ_half (by omega)]; omega)
    rcases hb with rfl | rfl
    · simp only [Int.natCast_zero, Int.zero_mul] at e ⊢
      go_enter Try.func20, Try.ntmps20
      go_wp2
      go_ret
      exact ⟨ret_int (by rw [hz.out]; simp), rfl⟩
    · simp only [Int.natCast_one, Int.one_mul] at e ⊢
      go_enter Try.func20, Try.ntmps20
      go_wp2
      go_ret
      exact ⟨ret_int (by rw [hz.out]; simp), rfl⟩
  · have e2 : bits .and .u64 4823603603198064275 18446744073709551615 = 4823603603198064275 := by
      have := Go.u64_and_nat 4823603603198064275 18446744073709551615 (by decide) (by decide)
      simpa using this
    obtain ⟨y, hy⟩ : ∃ y, y = (2 * x) % 18446744073709551616 := ⟨_, rfl⟩
    have hyx : (y : Int) + 18446744073709551616 = (x : Int) * 2 := by omega
    have e3 : bits .xor .u64 (y : Int) 4823603603198064275 = ((y ^^^ 4823603603198064275 : Nat) : Int) := by
      have := Go.u64_xor_nat y 4823603603198064275 (by omega) (by decide)
      simpa using this
    have hq : (x : Int) / 9223372036854775808 = 1 := by omega
    have hz := Go.Lib.hid (show csfZ x = y ^^^ 4823603603198064275 by unfold csfZ; rw [if_pos h, hy])
    have w1 : IntKind.u64.wrap ((x : Int) * 2) = (y : Int) := by rw [hy]; simp [IntKind.wrap, IntKind.signed, IntKind.bits]; omega
    have w2 : IntKind.u64.wrap (-1) = 18446744073709551615 := by decide
    clear hy
    rcases hb with rfl | rfl
    · simp only [Int.natCast_zero, Int.zero_mul] at e ⊢
      go_enter Try.func20, Try.ntmps20
      go_wp2
      go_ret
      exact ⟨ret_int (by rw [hz.out]), rfl⟩
    · simp only [Int.natCast_one, Int.one_mul] at e ⊢
      go_enter Try.func20, Try.ntmps20
      go_wp2
      go_ret
      exact ⟨ret_int (by rw [hz.out]), rfl⟩

/-- the bits of half a byte, the highest one first -/
def upN (h : Nat) : List Bool := (numB h 4).reverse
def nib (h : Nat) : Nat := csfBits 0 (upN h)
theorem upN_step : ∀ i < 16, upN (i / 2) = false :: (upN (i / 2)).drop 1 ∧ upN i = (upN (i / 2)).drop 1 ++ [decide (i % 2 = 1)] := by decide
theorem nib_step {i : Nat} (h : i < 16) : nib i = csfStep (nib (i / 2)) (decide (i % 2 = 1)) := by
  obtain ⟨h1, h2⟩ := upN_step i h
  unfold nib
  rw [h2, h1]
  obtain ⟨L, hL⟩ : ∃ L, L = (upN (i / 2)).drop 1 := ⟨_, rfl⟩
  rw [← hL]
  show csfBits 0 (L ++ [decide (i % 2 = 1)]) = csfStep (csfBits (csfStep 0 false) L) _
  rw [csfBits_app, show csfStep 0 false = 0 by decide]
  rfl
theorem nib_zero : nib 0 = 0 := by decide
theorem nib_lt (h : Nat) : nib h < 18446744073709551616 := csfBits_lt _ (by decide)
theorem upB_half : ∀ c < 256, upB c = upN (c / 16) ++ upN (c % 16) := by decide +kernel
theorem upN_len (h : Nat) : (upN h).length = 4 := by simp [upN, numB_len]
theorem topN : ∀ h < 16, topB (upN h) = h * 1152921504606846976 := by decide
/-- four steps at once: the highest bits and the half go through the table together -/
theorem half_step {s h : Nat} (hs : s < 18446744073709551616) (hh : h < 16) : csfBits s (upN h) = (s * 16) % 18446744073709551616 ^^^ nib ((s / 1152921504606846976) ^^^ h) := by
  have hx : (s / 1152921504606846976) ^^^ h < 16 := Nat.xor_lt_two_pow (n := 4) (by omega) hh
  obtain ⟨x, hxd⟩ : ∃ x, x = (s / 1152921504606846976) ^^^ h := ⟨_, rfl⟩
  rw [← hxd] at hx ⊢
  have e1 : s ^^^ (h * 1152921504606846976) = (s % 1152921504606846976) ^^^ (x * 1152921504606846976) := by
    apply Nat.eq_of_testBit_eq
    intro i
    rw [Nat.testBit_xor, Nat.testBit_xor, hxd, show (1152921504606846976 : Nat) = 2 ^ 60 by decide, Nat.testBit_mod_two_pow, Nat.mul_comm h, Nat.mul_comm _ (2 ^ 60), Nat.testBit_two_pow_mul, Nat.testBit_two_pow_mul, Nat.testBit_xor, Nat.testBit_div_two_pow]
    by_cases g : 60 ≤ i
    · simp [g, show ¬ i < 60 by omega, show 60 + (i - 60) = i by omega, show i - 60 + 60 = i by omega]
    · simp [g, show i < 60 by omega]
  have ex : x * 1152921504606846976 < 18446744073709551616 := by omega
  have em : s % 1152921504606846976 < 18446744073709551616 := by omega
  have e4 : iterY 4 (s % 1152921504606846976) = (s * 16) % 18446744073709551616 := by
    obtain ⟨m, hm⟩ : ∃ m, m = s % 1152921504606846976 := ⟨_, rfl⟩
    have hm2 : m < 1152921504606846976 := by omega
    have hm3 : (s * 16) % 18446744073709551616 = m * 16 := by omega
    rw [← hm, hm3]
    show csfZ (csfZ (csfZ (csfZ m))) = _
    rw [csfZ_half (m := m) (by omega), csfZ_half (m := 2 * m) (by omega), csfZ_half (m := 2 * (2 * m)) (by omega), csfZ_half (m := 2 * (2 * (2 * m))) (by omega)]
    omega
  rw [csfBits_iter _ _ hs (by rw [upN_len]; decide), upN_len, topN h hh, e1, iterY_xor 4 em ex, e4]
  unfold nib
  rw [csfBits_iter _ 0 (by decide) (by rw [upN_len]; decide), upN_len, topN x hx, Nat.zero_xor]
theorem byte_half {s c : Nat} (hc : c < 256) : csfByte s c = csfBits (csfBits s (upN (c / 16))) (upN (c % 16)) := by
  unfold csfByte
  rw [upB_half c hc, csfBits_app]
end Go.Proofs.Ytgffegcflibclaa
