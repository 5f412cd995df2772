/- Contracts of the reference's functions on bits: copies. -/
import Derived.Test.YtahefkjgcdchlaaBitV
import Derived.Deep.RegionHeld3
import Derived.WalkSpells
import Derived.StillTactics
namespace Go.Proofs.Ytahefkjgcdchlaa
open Go.RowKit Cad

theorem twin_after {W w1 : World} {a : Option Addr} {len cap : Nat} {N : Int} {v' : Value} {xs : List Value} {base : Nat}
    (hgrow : ((((W.alloc (.cells #[.slice a len cap, .int .i64 N] 28)).alloc (.cells #[.slice none 0 0, .int .i64 0] 28)).alloc (.cells #[] 5)).drew).grownBy w1 (Value.slice (some ⟨W.heap.size + 1 + 1, 0, none⟩) 0 0).ownBlock)
    (hown1 : w1.ownsRow base 5 1 v' (0 + len) xs) :
    ∃ av cv, v' = .slice av (0 + len) cv ∧ Hid (w1.heap[W.heap.size + 1]? = some (.cells #[.slice none 0 0, .int .i64 0] 28)) ∧
      w1.cell? ⟨W.heap.size + 1, 0, none⟩ = some (.slice none 0 0) ∧ w1.cell? ⟨W.heap.size + 1, 1, none⟩ = some (.int .i64 0) ∧ w1.frozen? ⟨W.heap.size + 1, 0, none⟩ = false ∧ w1.frozen? ⟨W.heap.size + 1, 1, none⟩ = false := by
  have hy : w1.heap[W.heap.size + 1]? = some (.cells #[.slice none 0 0, .int .i64 0] 28) := by
    have h := hgrow.block (W.heap.size + 1) (by simp) (by simp [Value.ownBlock])
    rw [h]
    show ((((W.alloc (.cells #[.slice a len cap, .int .i64 N] 28)).alloc (.cells #[.slice none 0 0, .int .i64 0] 28)).alloc (.cells #[] 5))).heap[W.heap.size + 1]? = _
    rw [Below.heap_alloc _ _ _ (by simp), heap_alloc2_new]
  have e : ∃ av cv, v' = .slice av (0 + len) cv := by
    rcases hown1.2 with ⟨rfl, h0⟩ | ⟨g, cap', cur', rfl, _⟩
    · exact ⟨none, 0, by rw [h0]⟩
    · exact ⟨_, _, rfl⟩
  obtain ⟨av, cv, e⟩ := e
  refine ⟨av, cv, e, Go.Lib.hid hy, ?_, ?_, ?_, ?_⟩
  · unfold World.cell?; rw [hy]; rfl
  · unfold World.cell?; rw [hy]; rfl
  · unfold World.frozen?; rw [hy]; simp
  · unfold World.frozen?; rw [hy]; simp

theorem RTwin_ok (W : World) (a : Option Addr) (len cap : Nat) (N : Int) (l : List Int) (hr : Row .u8 W a len cap l) (hlen : len ≤ 1000000000) :
    Calls Try.prog 16 #[.agg #[.slice a len cap, .int .i64 N]] W fun e W' => ∃ v', e = .returned (.agg #[v', .int .i64 N]) ∧
      W'.ownsRow W.heap.size 5 1 v' len (nums .u8 l) ∧ Below W.heap.size W W' := by
  go_enter Try.func16, Try.ntmps16
  go_wp2_with fail
  have e1 := box_cell W #[.slice a len cap, .int .i64 N] 28
  have hownE : ((((W.alloc (.cells #[.slice a len cap, .int .i64 N] 28)).alloc (.cells #[.slice none 0 0, .int .i64 0] 28)).alloc (.cells #[] 5)).drew).ownsRow (W.heap.size + 1 + 1) 5 1 (.slice (some ⟨W.heap.size + 1 + 1, 0, none⟩) 0 0) 0 (nums .u8 []) := by
    have := (own_empty ((W.alloc (.cells #[.slice a len cap, .int .i64 N] 28)).alloc (.cells #[.slice none 0 0, .int .i64 0] 28)) 5 .u8).drew
    simpa using this
  have hrE : Row .u8 ((((W.alloc (.cells #[.slice a len cap, .int .i64 N] 28)).alloc (.cells #[.slice none 0 0, .int .i64 0] 28)).alloc (.cells #[] 5)).drew) a len cap l :=
    hr.below (((((Below.refl _ _).alloc (Nat.le_refl _) _).alloc (by simp) _).alloc (by simp; omega) _).drew) (Nat.le_refl _)
  go_region_held3 (fun w' => w'.cell? ⟨W.heap.size, 0, none⟩ = some (.slice a len cap) ∧ w'.cell? ⟨W.heap.size, 1, none⟩ = some (.int .i64 N))
    (first
      | go_keep
      | (go_split_ands
         refine ⟨?_, ?_⟩
         · (rw [hgrow.cell_far ⟨W.heap.size, 0, none⟩ (by simp; omega) (by simp [Value.ownBlock]; omega)]; assumption)
         · (rw [hgrow.cell_far ⟨W.heap.size, 1, none⟩ (by simp; omega) (by simp [Value.ownBlock]; omega)]; assumption)))
    ((go_loud (refine step_appendRow elU8 _ (by rfl) _ _ (by rfl) (W.heap.size + 1 + 1) _ 0 [] (by rfl) hownE a len cap l (by rfl) hrE (by omega) (by simp) ?_; intro v' w1 hown1 hgrow; obtain ⟨av, cv, rfl, hy', cy0, cy1, fy0, fy1⟩ := twin_after hgrow hown1)))
  go_wp2
  have hb5 := heap_setCell_same _ _ 1 _ _ (.int .i64 N) (heap_setCell_same _ _ 0 _ _ (.slice av len cv) hy'.out)
  have hgB : ∀ g, (Value.slice av (0 + len) cv).ownBlock = some g → W.heap.size + 1 + 1 ≤ g := fun g e => (hown1.lt g e).1
  refine bodyPost_ret (results_cell_row (by rfl) _ _ (W.heap.size + 1) _ _ _ _ rfl hb5 Try.underlying28 rfl (by kernel_rfl)) rfl ?_
  rw [Nat.zero_add] at hown1 hgB
  refine ⟨.slice av len cv, by simp, ?_, ?_⟩
  · have h : w1.ownsRow W.heap.size 5 1 (.slice av len cv) len (nums .u8 l) := by
      refine ⟨hown1.1, ?_⟩
      rcases hown1.2 with h0 | ⟨g, cap', cur', e, h1, h2⟩
      · exact .inl h0
      · exact .inr ⟨g, cap', cur', e, by omega, h2⟩
    refine own_congr h fun g e => ?_
    have := hgB g e
    rw [Below.heap_setCell _ _ _ _ (by simp; omega), Below.heap_setCell _ _ _ _ (by simp; omega)]
  · have hb1 : Below W.heap.size W w1 := ((((((Below.refl _ _).alloc (Nat.le_refl _) _).alloc (by simp) _).alloc (by simp; omega) _).drew).grown hgrow (by simp; omega) (fun k hk => by simp [Value.ownBlock] at hk; omega))
    exact (hb1.setCell (by simp) _).setCell (by simp) _
end Go.Proofs.Ytahefkjgcdchlaa
