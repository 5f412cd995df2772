/- Contracts of the reference's functions on bits: filled up. -/
import Derived.Test.YtahefkjgcdchlaaBitO
namespace Go.Proofs.Ytahefkjgcdchlaa
open Go.RowKit Cad

theorem BoxAt.below {w w' : World} {B x : Nat} {v : Value} {N : Int} (h : BoxAt w x v N) (hb : Below B w w') (hx : x < B) : BoxAt w' x v N := by
  unfold BoxAt at h ⊢
  rw [hb.block x hx, h]
theorem BoxAt.alloc {w : World} {x : Nat} {v : Value} {N : Int} (h : BoxAt w x v N) (o : Obj) : BoxAt (w.alloc o) x v N := by
  have hx : x < w.heap.size := by
    apply Classical.byContradiction; intro hx; unfold BoxAt at h; rw [Array.getElem?_eq_none (by omega)] at h; cases h
  unfold BoxAt at h ⊢
  rw [Below.heap_alloc _ _ _ hx, h]
end Go.Proofs.Ytahefkjgcdchlaa
