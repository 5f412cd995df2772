/- Contracts of the reference's functions on bits: aligned. -/
import Derived.Test.YtogkiopdcmeddaaBitF
namespace Go.Proofs.Ytogkiopdcmeddaa
open Go.RowKit Cad

theorem RAlign_bad (W : World) (a : Option Addr) (len cap : Nat) (N : Int) (l : List Int) (hr : Row .u8 W a len cap l) (hN : (Lit.int .i64 N).wf = true) (hv : ¬ Valid l N) :
    Calls Try.prog 16 #[.agg #[.slice a len cap, .int .i64 N]] W fun e W' => e = .returned (.tuple #[.agg #[.slice none 0 0, .int .i64 0], .int .i64 8]) ∧ Below W.heap.size W W' := by
  have hbE := ((Below.refl W.heap.size W).alloc (Nat.le_refl _) (.cells #[.slice a len cap, .int .i64 N] 24)).alloc (by simp) (.cells #[.slice none 0 0, .int .i64 0] 24)
  have hrE := hr.below hbE (Nat.le_refl _)
  have hy0 : BoxAt ((W.alloc (.cells #[.slice a len cap, .int .i64 N] 24)).alloc (.cells #[.slice none 0 0, .int .i64 0] 24)) (W.heap.size + 1) (.slice none 0 0) 0 := by
    unfold BoxAt; rw [heap_alloc2_new]
  have hck := Go.Lib.hid (RCheck_any _ a len cap N l hrE hN 8 (.inr ⟨hv, rfl⟩))
  have hy0' := Go.Lib.hid hy0
  have hbE' := Go.Lib.hid hbE
  clear hr hrE hy0 hbE hN
  go_enter Try.func16, Try.ntmps16
  go_wp2_with (go_at_call 18; refine hck.out.mono ?_; rintro e w1 ⟨rfl, hb1⟩; simp only [World.size_alloc] at hb1; obtain ⟨e0, e1, f0, f1⟩ := (hy0'.out.below hb1 (by omega)).cells; have hb1' := Go.Lib.hid hb1; clear hb1)
  (try simp only [Exit.inBlock, Exit.then])
  refine bodyPost_ret (results_box_tmp (by rfl) _ _ (W.heap.size + 1) _ _ rfl ((hy0'.out.below hb1'.out (by omega)).set _ _)) rfl ?_
  exact ⟨rfl, ((hbE'.out.trans (hb1'.out.mono (by omega))).setCell (by simp) _).setCell (by simp) _⟩

theorem RAlign_ok (W : World) (a : Option Addr) (len cap : Nat) (N : Int) (l : List Int) (hr : Row .u8 W a len cap l) (hN : (Lit.int .i64 N).wf = true) (hv : Valid l N) :
    Calls Try.prog 16 #[.agg #[.slice a len cap, .int .i64 N]] W fun e W' => ∃ v', e = .returned (.tuple #[.agg #[v', .int .i64 (8 * (len : Int))], .int .i64 0]) ∧
      W'.ownsRow W.heap.size 5 1 v' len (nums .u8 l) ∧ Below W.heap.size W W' := by
  have hlen : len ≤ 1000000000 := by have := hv.n; have := hr.hlen; omega
  have hbE := ((Below.refl W.heap.size W).alloc (Nat.le_refl _) (.cells #[.slice a len cap, .int .i64 N] 24)).alloc (by simp) (.cells #[.slice none 0 0, .int .i64 0] 24)
  have hrE := hr.below hbE (Nat.le_refl _)
  have hx0 : BoxAt ((W.alloc (.cells #[.slice a len cap, .int .i64 N] 24)).alloc (.cells #[.slice none 0 0, .int .i64 0] 24)) W.heap.size (.slice a len cap) N := by
    unfold BoxAt; rw [Below.heap_alloc _ _ _ (by simp), heap_alloc_new]
  have hy0 : BoxAt ((W.alloc (.cells #[.slice a len cap, .int .i64 N] 24)).alloc (.cells #[.slice none 0 0, .int .i64 0] 24)) (W.heap.size + 1) (.slice none 0 0) 0 := by
    unfold BoxAt; rw [heap_alloc2_new]
  have hck := Go.Lib.hid (RCheck_any _ a len cap N l hrE hN 0 (.inl ⟨hv, rfl⟩))
  have hx0' := Go.Lib.hid hx0
  have hy0' := Go.Lib.hid hy0
  have hbE' := Go.Lib.hid hbE
  have hrE' := Go.Lib.hid hrE
  clear hr hrE hy0 hbE hN hx0
  go_enter Try.func16, Try.ntmps16
  go_wp2_with (first
    | (go_at_call 18; refine hck.out.mono ?_; rintro e w1 ⟨rfl, hb1⟩; simp only [World.size_alloc] at hb1; obtain ⟨d0, d1, g0, g1⟩ := (hx0'.out.below hb1 (by omega)).cells; have hb1' := Go.Lib.hid hb1; clear hb1)
    | (go_at_call 31; refine (RFilled_ok _ a len cap N l (hrE'.out.below hb1'.out (by simp)) hlen).mono ?_; rintro e w2 ⟨v2, rfl, hown2, hb2⟩; obtain ⟨a2, c2, rfl⟩ := own_form hown2; have hb12 := (hb1'.out.trans (hb2.mono (Nat.le_trans (by simp) hb1'.out.size))); obtain ⟨e0, e1, f0, f1⟩ := (hy0'.out.below hb12 (by omega)).cells; have hb12' := Go.Lib.hid hb12; have hown2' := Go.Lib.hid hown2; have hsz := Go.Lib.hid hb1'.out.size; clear hb2 hb12 hown2))
  (try simp only [Exit.inBlock, Exit.then])
  have hy2 := hy0'.out.below hb12'.out (by omega)
  have ap := hy2.apart hown2'.out
  have hs := hsz.out
  simp only [World.size_alloc] at hs
  refine bodyPost_ret (results_box_tmp (by rfl) _ _ (W.heap.size + 1) _ _ rfl (hy2.set _ _)) rfl ?_
  refine ⟨.slice a2 len c2, by simp, own_set (own_set (own_base hown2'.out (by omega)) ap _ _) ap _ _, ?_⟩
  exact ((hbE'.out.trans (hb12'.out.mono (by omega))).setCell (by simp) _).setCell (by simp) _
end Go.Proofs.Ytogkiopdcmeddaa
