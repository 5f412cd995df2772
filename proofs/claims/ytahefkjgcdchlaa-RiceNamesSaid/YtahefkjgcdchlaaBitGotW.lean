/- BitsGot: what was put is got, wherever it stands. -/
import Derived.Test.YtahefkjgcdchlaaBitLawA
namespace Go.Proofs.Ytahefkjgcdchlaa
open Go.RowKit Cad

theorem mid_behind (A B : List Bool) : midB (A ++ B) A.length (A.length + B.length) = B := by
  unfold midB
  rw [List.drop_left, Nat.add_sub_cancel_left, List.take_length]
theorem mid_front (A B : List Bool) {i t : Nat} (h : i ≤ t) (ht : t ≤ A.length) : midB (A ++ B) i t = midB A i t := by
  unfold midB
  rw [List.drop_append_of_le_length (by omega), List.take_append_of_le_length (by simp; omega)]
theorem natB_numB_self {v n : Nat} (h : v < 2 ^ n) : natB (numB v n) = v := by rw [natB_numB, Nat.mod_eq_of_lt h]

theorem box1 (W : World) (v : Value) (N : Int) : BoxAt (W.alloc (.cells #[v, .int .i64 N] 28)) W.heap.size v N := heap_alloc_new _ _
end Go.Proofs.Ytahefkjgcdchlaa
