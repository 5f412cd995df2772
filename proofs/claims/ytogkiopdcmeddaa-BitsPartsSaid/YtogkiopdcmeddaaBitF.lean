/- Contracts of the reference's functions on bits: filled up. -/
import Derived.Test.YtogkiopdcmeddaaBitO
namespace Go.Proofs.Ytogkiopdcmeddaa
open Go.RowKit Cad

theorem BoxAt.below {w w' : World} {B x : Nat} {v : Value} {N : Int} (h : BoxAt w x v N) (hb : Below B w w') (hx : x < B) : BoxAt w' x v N := by
  unfold BoxAt at h ⊢
  rw [hb.block x hx, h]
theorem BoxAt.alloc {w : World} {x : Nat} {v : Value} {N : Int} (h : BoxAt w x v N) (o : Obj) : BoxAt (w.alloc o) x v N := by
  have hx : x < w.heap.size := by
    apply Classical.byContradiction; intro hx; unfold BoxAt at h; rw [Array.getElem?_eq_none (by omega)] at h; cases h
  unfold BoxAt at h ⊢
  rw [Below.heap_alloc _ _ _ hx, h]
theorem own_base {w : World} {base base' e n : Nat} {v : Value} {xs : List Value} (h : w.ownsRow base e 1 v n xs) (hb : base' ≤ base) : w.ownsRow base' e 1 v n xs := by
  refine ⟨h.1, ?_⟩
  rcases h.2 with h0 | ⟨g, cap', cur', e, h1, h2⟩
  · exact .inl h0
  · exact .inr ⟨g, cap', cur', e, by omega, h2⟩

theorem RFilled_ok (W : World) (a : Option Addr) (len cap : Nat) (N : Int) (l : List Int) (hr : Row .u8 W a len cap l) (hlen : len ≤ 1000000000) :
    Calls Try.prog 31 #[.agg #[.slice a len cap, .int .i64 N]] W fun e W' => ∃ v', e = .returned (.agg #[v', .int .i64 (8 * (len : Int))]) ∧
      W'.ownsRow W.heap.size 5 1 v' len (nums .u8 l) ∧ Below W.heap.size W W' := by
  have hbE := ((Below.refl W.heap.size W).alloc (Nat.le_refl _) (.cells #[.slice a len cap, .int .i64 N] 24)).alloc (by simp) (.cells #[.slice none 0 0, .int .i64 0] 24)
  have hrE := hr.below hbE (Nat.le_refl _)
  have hx0 : BoxAt ((W.alloc (.cells #[.slice a len cap, .int .i64 N] 24)).alloc (.cells #[.slice none 0 0, .int .i64 0] 24)) W.heap.size (.slice a len cap) N := by
    unfold BoxAt; rw [Below.heap_alloc _ _ _ (by simp), heap_alloc_new]
  have hy0 : BoxAt ((W.alloc (.cells #[.slice a len cap, .int .i64 N] 24)).alloc (.cells #[.slice none 0 0, .int .i64 0] 24)) (W.heap.size + 1) (.slice none 0 0) 0 := by
    unfold BoxAt; rw [heap_alloc2_new]
  have htw := Go.Lib.hid (RTwin_ok _ a len cap N l hrE hlen)
  have hx0' := Go.Lib.hid hx0
  have hy0' := Go.Lib.hid hy0
  have hbE' := Go.Lib.hid hbE
  clear hr hrE hx0 hy0 hbE
  go_enter Try.func31, Try.ntmps31
  go_wp2_with (go_at_call 25; refine htw.out.mono ?_; rintro e w1 ⟨v1, rfl, hown1, hb1⟩; obtain ⟨a1, c1, rfl⟩ := own_form hown1; simp only [World.size_alloc] at hb1 hown1; obtain ⟨d0, d1, g0, g1⟩ := (hx0'.out.below hb1 (by omega)).cells; obtain ⟨e0, e1, f0, f1⟩ := (hy0'.out.below hb1 (by omega)).cells; have hsz := hb1.size; simp only [World.size_alloc] at hsz; have n0 : W.heap.size ≠ w1.heap.size := (by omega); have n1 : W.heap.size + 1 ≠ w1.heap.size := (by omega); have l0 : W.heap.size < w1.heap.size := (by omega); have l1 : W.heap.size + 1 < w1.heap.size := (by omega); have hb1' := Go.Lib.hid hb1; have hown1' := Go.Lib.hid hown1; clear hb1 hown1)
  have hy1 := hy0'.out.below hb1'.out (by omega)
  have ap := hy1.apart hown1'.out
  refine bodyPost_ret (results_cell_row (by rfl) _ _ (W.heap.size + 1) _ _ _ _ rfl ((hy1.set _ _).alloc _) Try.underlying24 rfl (by kernel_rfl)) rfl ?_
  refine ⟨.slice a1 len c1, rfl, (own_set (own_set (own_base hown1'.out (by omega)) ap _ _) ap _ _).alloc _, ?_⟩
  exact (((hbE'.out.trans (hb1'.out.mono (by omega))).setCell (by simp) _).setCell (by simp) _).alloc (by simp; omega) _
end Go.Proofs.Ytogkiopdcmeddaa
