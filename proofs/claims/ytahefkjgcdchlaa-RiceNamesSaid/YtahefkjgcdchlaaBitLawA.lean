/- What the statements of bits share: the chapter's examples, and a number's lowest bits. -/
import Derived.Test.YtahefkjgcdchlaaMyBitI
namespace Go.Proofs.Ytahefkjgcdchlaa
open Go.RowKit Cad

theorem two_sub (v n : Nat) : v &&& (2 ^ n - 1) = v % 2 ^ n := Nat.and_two_pow_sub_one_eq_mod v n
theorem pk1 : pack ([] ++ numB 5 3) = [5] := by rfl
theorem pk1' : pack (numB 5 3) = [5] := by rfl
theorem pk2 : pack (numB 5 3 ++ numB 6 4) = [53] := by rfl
theorem nb3 : natB (midB (numB 5 3 ++ numB 6 4) 2 (2 + 4)) = 13 := by rfl
theorem al1 (w : World) : Calls Try.prog 12 #[.agg #[.slice none 0 0, .int .i64 0], .int .u64 5, .int .i64 3] w fun e W' => ∃ b c, e = .returned (.tuple #[.agg #[.slice b 1 c, .int .i64 3], .int .i64 0]) ∧ Row .u8 W' b 1 c [5] ∧ Below w.heap.size w W' := by
  have := BPut_ok w none 0 0 [] 5 3 (by rw [show pack [] = [] by rfl]; exact Row.nil_row _ _) (by simp) (by omega) (by omega)
  rw [pk1] at this
  exact this
theorem al2 (w : World) (b : Option Addr) (c : Nat) (h : Row .u8 w b 1 c [5]) : Calls Try.prog 12 #[.agg #[.slice b 1 c, .int .i64 3], .int .u64 6, .int .i64 4] w fun e W' => ∃ b c, e = .returned (.tuple #[.agg #[.slice b 1 c, .int .i64 7], .int .i64 0]) ∧ Row .u8 W' b 1 c [53] ∧ Below w.heap.size w W' := by
  have := BPut_ok w b 1 c (numB 5 3) 6 4 (by rw [pk1']; exact h) (by rw [numB_len]; omega) (by omega) (by omega)
  rw [pk2, numB_len] at this
  exact this
theorem al3 (w : World) (b : Option Addr) (c : Nat) (h : Row .u8 w b 1 c [53]) : Calls Try.prog 31 #[.agg #[.slice b 1 c, .int .i64 7], .int .i64 2, .int .i64 4] w fun e W' => e = .returned (.tuple #[.int .u64 13, .int .i64 0]) ∧ Below w.heap.size w W' := by
  have := BGet_ok w b 1 c (numB 5 3 ++ numB 6 4) 2 4 (by rw [pk2]; exact h) (by rw [List.length_append, numB_len, numB_len]; omega) (by omega) (by rw [List.length_append, numB_len, numB_len]; omega)
  rw [nb3, List.length_append, numB_len, numB_len] at this
  exact this

end Go.Proofs.Ytahefkjgcdchlaa
