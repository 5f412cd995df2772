/- Contracts of the reference's functions on bits: joined. -/
import Derived.Test.YtahefkjgcdchlaaBitC
namespace Go.Proofs.Ytahefkjgcdchlaa
open Go.RowKit Cad

theorem join_snoc (A B : List Bool) {k : Nat} (hk : k < B.length) : A ++ B.take (k + 1) = (A ++ B.take k) ++ [B.getD k false] := by
  rw [List.take_add_one, List.append_assoc]
  simp [List.getD, hk]
theorem join_len (A B : List Bool) {k : Nat} (hk : k ≤ B.length) : (A ++ B.take k).length = A.length + k := by simp; omega
theorem Kept.of {base : Nat} {W w : World} (h : Below W.heap.size W w) (hb : base ≤ W.heap.size) : Kept base W w := ⟨h.mono hb, fun k hk _ => h.block k hk⟩

end Go.Proofs.Ytahefkjgcdchlaa
