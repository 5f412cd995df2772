/- Contracts of the reference's functions on bits: numbers put. -/
import Derived.Test.YtahefkjgcdchlaaBitT
namespace Go.Proofs.Ytahefkjgcdchlaa
open Go.RowKit Cad

theorem Kept.setCell {base : Nat} {W w : World} (h : Kept base W w) (hb : base ≤ W.heap.size) {p : Addr} (hp : W.heap.size ≤ p.block) (u : Value) : Kept base W (w.setCell p u) :=
  ⟨h.bel.setCell (by omega) u, fun k hk hn => by rw [Below.heap_setCell _ _ _ _ (by omega)]; exact h.oth k hk hn⟩
theorem Kept.alloc {base : Nat} {W w : World} (h : Kept base W w) (hb : base ≤ W.heap.size) (o : Obj) : Kept base W (w.alloc o) :=
  ⟨h.bel.alloc (Nat.le_trans hb h.bel.size) o, fun k hk hn => by rw [Below.heap_alloc _ _ _ (Nat.lt_of_lt_of_le hk h.bel.size)]; exact h.oth k hk hn⟩
/-- a variable that holds bits: its block -/
def BoxAt (w : World) (x : Nat) (v : Value) (N : Int) : Prop := w.heap[x]? = some (.cells #[v, .int .i64 N] 28)
theorem BoxAt.cells {w : World} {x : Nat} {v : Value} {N : Int} (h : BoxAt w x v N) : w.cell? ⟨x, 0, none⟩ = some v ∧ w.cell? ⟨x, 1, none⟩ = some (.int .i64 N) ∧ w.frozen? ⟨x, 0, none⟩ = false ∧ w.frozen? ⟨x, 1, none⟩ = false := by
  unfold BoxAt at h
  refine ⟨?_, ?_, ?_, ?_⟩
  · unfold World.cell?; rw [h]; rfl
  · unfold World.cell?; rw [h]; rfl
  · unfold World.frozen?; rw [h]; simp
  · unfold World.frozen?; rw [h]; simp
theorem BoxAt.kept {w w' : World} {base x : Nat} {v : Value} {N : Int} (h : BoxAt w x v N) (k : Kept base w w') : BoxAt w' x v N := by
  unfold BoxAt at h ⊢
  have hx : x < w.heap.size := by
    apply Classical.byContradiction; intro hx; rw [Array.getElem?_eq_none (by omega)] at h; cases h
  rw [k.oth x hx (fun cur fr e => by rw [h] at e; simp at e), h]
theorem BoxAt.set {w : World} {x : Nat} {v : Value} {N : Int} (h : BoxAt w x v N) (v' : Value) (N' : Int) : BoxAt ((w.setCell ⟨x, 0, none⟩ v').setCell ⟨x, 1, none⟩ (.int .i64 N')) x v' N' := by
  have := heap_setCell_same _ _ 1 _ _ (.int .i64 N') (heap_setCell_same _ _ 0 _ _ v' h)
  unfold BoxAt
  rw [this]; simp
theorem BoxAt.other {w : World} {x : Nat} {v : Value} {N : Int} (h : BoxAt w x v N) {p : Addr} (hp : x ≠ p.block) (u : Value) : BoxAt (w.setCell p u) x v N := by
  unfold BoxAt at h ⊢
  rw [Below.heap_setCell _ _ _ _ hp, h]
theorem BoxAt.apart {w : World} {x : Nat} {v : Value} {N : Int} (h : BoxAt w x v N) {base n : Nat} {v' : Value} {xs : List Value} (ho : w.ownsRow base 5 1 v' n xs) : ∀ g, v'.ownBlock = some g → g ≠ x := by
  intro g e
  rcases ho.2 with ⟨rfl, _⟩ | ⟨g', cap, cur, rfl, _, hh, _⟩
  · cases e
  · cases e
    rintro rfl
    unfold BoxAt at h
    rw [h] at hh; simp at hh
theorem own_set {w : World} {x : Nat} {base n : Nat} {v' : Value} {xs : List Value} (ho : w.ownsRow base 5 1 v' n xs) (ha : ∀ g, v'.ownBlock = some g → g ≠ x) (o : Nat) (u : Value) : (w.setCell ⟨x, o, none⟩ u).ownsRow base 5 1 v' n xs :=
  own_congr ho fun g e => by rw [Below.heap_setCell _ _ _ _ (ha g e)]

end Go.Proofs.Ytahefkjgcdchlaa
