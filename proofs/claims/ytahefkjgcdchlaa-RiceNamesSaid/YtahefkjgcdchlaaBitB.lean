/- Contracts of the reference's functions on bits: parts. -/
import Derived.Test.YtahefkjgcdchlaaBitA
import Derived.Deep.RegionLaw
import Derived.Deep.RegionWith
namespace Go.Proofs.Ytahefkjgcdchlaa
open Go.RowKit Cad

/-- the bits from i up to k -/
def midB (B : List Bool) (i k : Nat) : List Bool := (B.drop i).take (k - i)
theorem midB_len (B : List Bool) {i k : Nat} (h : i ≤ k) (hk : k ≤ B.length) : (midB B i k).length = k - i := by simp [midB]; omega
theorem midB_snoc (B : List Bool) {i k : Nat} (h : i ≤ k) (hk : k < B.length) : midB B i (k + 1) = midB B i k ++ [B.getD k false] := by
  unfold midB
  rw [show k + 1 - i = (k - i) + 1 by omega, List.take_add_one, List.getElem?_drop, show i + (k - i) = k by omega]
  simp [List.getD, hk]
theorem BoxAt.drew {w : World} {x : Nat} {v : Value} {N : Int} (h : BoxAt w x v N) : BoxAt w.drew x v N := h
theorem BoxAt.lt {w : World} {x : Nat} {v : Value} {N : Int} (h : BoxAt w x v N) : x < w.heap.size := by
  apply Classical.byContradiction; intro hx; unfold BoxAt at h; rw [Array.getElem?_eq_none (by omega)] at h; cases h
theorem Kept.drew {base : Nat} {W w : World} (h : Kept base W w) : Kept base W w.drew := ⟨h.bel.drew, h.oth⟩
theorem Kept.below {base B : Nat} {w w' : World} (h : Below B w w') (hb : base ≤ B) (hs : w.heap.size ≤ B) : Kept base w w' := ⟨h.mono hb, fun k hk _ => h.block k (Nat.lt_of_lt_of_le hk hs)⟩

/-- behind 'out = Add(out, At(b, i))' -/
theorem added {W wr wA wB : World} {z x y : Nat} {vx vy vz v1 : Value} {Nx Ny Nz N1 : Int} {n : Nat} {xs : List Value} (hk : Kept W.heap.size W wr) (hbA : Below wr.drew.heap.size wr.drew wA) (hkB : Kept W.heap.size wA wB)
    (ho : wB.ownsRow W.heap.size 5 1 v1 n xs) (hx : BoxAt wr x vx Nx) (hy : BoxAt wr y vy Ny) (hz : BoxAt wr z vz Nz) (hxz : x ≠ z) (hyz : y ≠ z) (hW : W.heap.size ≤ z) :
    ((wB.setCell ⟨z, 0, none⟩ v1).setCell ⟨z, 1, none⟩ (.int .i64 N1)).ownsRow W.heap.size 5 1 v1 n xs ∧ BoxAt ((wB.setCell ⟨z, 0, none⟩ v1).setCell ⟨z, 1, none⟩ (.int .i64 N1)) x vx Nx ∧
    BoxAt ((wB.setCell ⟨z, 0, none⟩ v1).setCell ⟨z, 1, none⟩ (.int .i64 N1)) y vy Ny ∧ BoxAt ((wB.setCell ⟨z, 0, none⟩ v1).setCell ⟨z, 1, none⟩ (.int .i64 N1)) z v1 N1 ∧
    Kept W.heap.size W ((wB.setCell ⟨z, 0, none⟩ v1).setCell ⟨z, 1, none⟩ (.int .i64 N1)) := by
  have hxB := (hx.drew.below hbA hx.lt).kept hkB
  have hyB := (hy.drew.below hbA hy.lt).kept hkB
  have hzB := (hz.drew.below hbA hz.lt).kept hkB
  have ap := hzB.apart ho
  refine ⟨own_set (own_set ho ap _ _) ap _ _, (hxB.other hxz _).other hxz _, (hyB.other hyz _).other hyz _, hzB.set _ _, ?_⟩
  exact (((hk.drew.trans (Kept.below hbA (Nat.le_trans hk.bel.size (Nat.le_refl _)) (Nat.le_refl _))).trans hkB).setCell (Nat.le_refl _) hW _).setCell (Nat.le_refl _) hW _

end Go.Proofs.Ytahefkjgcdchlaa
