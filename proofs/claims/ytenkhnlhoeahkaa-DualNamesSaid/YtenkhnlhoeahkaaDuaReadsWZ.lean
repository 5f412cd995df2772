/- DualReads: Read is the reference's. -/
import Derived.Test.YtenkhnlhoeahkaaDuaCodesWZ

namespace Go.Proofs.Ytenkhnlhoeahkaa
open Go.RowKit Cad

set_option maxRecDepth 100000 in
theorem dualReads_great (W : World) (aa : Option Addr) (len cap : Nat) (N at_ a b c d : Int) (hl : len ≤ 9223372036854775807) (hg : great len = true) :
    Calls Try.prog 5 #[.agg #[.slice aa len cap, .int .i64 N], .int .i64 at_, .agg #[.int .i64 a, .int .i64 b, .int .u64 c, .int .u64 d]] W fun e w' => e = .returned (.bool true) ∧ Below W.heap.size W w' := by
  have hG := Go.Lib.hid fun w => RGreat_ok w aa len cap N hl
  rw [hg] at hG
  have hWE0 := Go.Lib.hid ((below1 W (.cells #[.slice aa len cap, .int .i64 N] 24)).alloc (below1 W (.cells #[.slice aa len cap, .int .i64 N] 24)).size (.cells #[.int .i64 a, .int .i64 b, .int .u64 c, .int .u64 d] 30))
  have BE0_b := Go.Lib.hid ((box1 W (.slice aa len cap) N).alloc (.cells #[.int .i64 a, .int .i64 b, .int .u64 c, .int .u64 d] 30))
  have BE0_d := Go.Lib.hid (duat2 W (.cells #[.slice aa len cap, .int .i64 N] 24) a b c d)
  obtain ⟨z0, z1, z2, z3⟩ := BE0_b.out.cells
  go_enter Try.func5, Try.ntmps5
  go_wp2_with (go_at_call 18; refine (hG.out _).mono ?_; rintro e w1 ⟨rfl, hb1⟩)
  go_ret
  exact ⟨rfl, hWE0.out.trans (hb1.mono hWE0.out.size)⟩

set_option maxRecDepth 100000 in
set_option maxHeartbeats 4000000 in
theorem dualReads_in (W : World) (aa : Option Addr) (len cap : Nat) (l : List Int) (N at_ a b c d : Int) (hr : Row .u8 W aa len cap l) (hl : len ≤ 9223372036854775807) (hgr : great len = false)
    (hN : (Lit.int .i64 N).wf = true) (hat : (Lit.int .i64 at_).wf = true) (ha : (Lit.int .i64 a).wf = true) (hb : (Lit.int .i64 b).wf = true) (hc : (Lit.int .u64 c).wf = true) (hd : (Lit.int .u64 d).wf = true) :
    Calls Try.prog 5 #[.agg #[.slice aa len cap, .int .i64 N], .int .i64 at_, .agg #[.int .i64 a, .int .i64 b, .int .u64 c, .int .u64 d]] W fun e w' => e = .returned (.bool true) ∧ Below W.heap.size W w' := by
  have hg := Go.Lib.hid fun w => RGreat_ok w aa len cap N hl
  rw [hgr] at hg
  obtain ⟨p, q, i1, j1, k1, m1, e1, r1, r2⟩ := dread_both N l at_ a b c d hN hat ha hb hc hd
  unfold ResR at r1 r2
  have r1 := Go.Lib.hid r1
  have r2 := Go.Lib.hid r2
  have q1 := sameD_self i1 j1 k1 m1
  have hWE0 := Go.Lib.hid ((below1 W (.cells #[.slice aa len cap, .int .i64 N] 24)).alloc (below1 W (.cells #[.slice aa len cap, .int .i64 N] 24)).size (.cells #[.int .i64 a, .int .i64 b, .int .u64 c, .int .u64 d] 30))
  have BE0_b := Go.Lib.hid ((box1 W (.slice aa len cap) N).alloc (.cells #[.int .i64 a, .int .i64 b, .int .u64 c, .int .u64 d] 30))
  have BE0_d := Go.Lib.hid (duat2 W (.cells #[.slice aa len cap, .int .i64 N] 24) a b c d)
  have RE0_b := Go.Lib.hid (hr.below hWE0.out (Nat.le_refl _))
  obtain ⟨z0, z1, z2, z3⟩ := BE0_b.out.cells
  clear hr hN hgr hat ha hb hc hd
  go_enter Try.func5, Try.ntmps5
  go_wp2_with (first
    | (go_at_call 18; ((with_reducible refine (hg.out _).mono ?_)); rintro e w1 ⟨rfl, hb1⟩; have hWE1 := Go.Lib.hid hWE0.out; have hW1 := Go.Lib.hid (hWE1.out.trans (hb1.mono hWE1.out.size)); have R1_b := Go.Lib.hid (RE0_b.out.below hb1 (Nat.le_refl _)); have BE1_b := Go.Lib.hid BE0_b.out; have B1_b := Go.Lib.hid (BE1_b.out.below hb1 BE1_b.out.lt); obtain ⟨k1b0, k1b1, k1b2, k1b3⟩ := B1_b.out.cells; have BE1_d := Go.Lib.hid BE0_d.out; have B1_d := Go.Lib.hid (BE1_d.out.below hb1 BE1_d.out.lt); obtain ⟨k1d0, k1d1, k1d2, k1d3, k1d4, k1d5, k1d6, k1d7⟩ := B1_d.out.cells; clear hb1)
    | (go_at_call 14; ((with_reducible refine (r1.out _ _ _ _ ?h1).mono ?_)); (case h1 => exact R1_b.out); rintro e w2 ⟨rfl, hb2⟩; have hWE2 := Go.Lib.hid hW1.out; have hW2 := Go.Lib.hid (hWE2.out.trans (hb2.mono hWE2.out.size)); have R2_b := Go.Lib.hid (R1_b.out.below hb2 (Nat.le_refl _)); have BE2_b := Go.Lib.hid B1_b.out; have B2_b := Go.Lib.hid (BE2_b.out.below hb2 BE2_b.out.lt); obtain ⟨k2b0, k2b1, k2b2, k2b3⟩ := B2_b.out.cells; have BE2_d := Go.Lib.hid B1_d.out; have B2_d := Go.Lib.hid (BE2_d.out.below hb2 BE2_d.out.lt); obtain ⟨k2d0, k2d1, k2d2, k2d3, k2d4, k2d5, k2d6, k2d7⟩ := B2_d.out.cells; have l2b := B2_b.out.lt; have n2b : W.heap.size ≠ w2.heap.size := (by omega); have l2d := B2_d.out.lt; have n2d : W.heap.size + 1 ≠ w2.heap.size := (by omega); clear hb2)
    | (go_at_call 27; ((with_reducible refine (r2.out _ _ _ _ ?h1).mono ?_)); (case h1 => exact (R2_b.out.below (below1 w2 (.cells #[.int .i64 i1, .int .i64 j1, .int .u64 k1, .int .u64 m1] 30)) (Nat.le_refl _))); rintro e w3 ⟨rfl, hb3⟩; have hWE3 := Go.Lib.hid (hW2.out.alloc hW2.out.size (.cells #[.int .i64 i1, .int .i64 j1, .int .u64 k1, .int .u64 m1] 30)); have hW3 := Go.Lib.hid (hWE3.out.trans (hb3.mono hWE3.out.size)); have R3_b := Go.Lib.hid ((R2_b.out.below (below1 w2 (.cells #[.int .i64 i1, .int .i64 j1, .int .u64 k1, .int .u64 m1] 30)) (Nat.le_refl _)).below hb3 (Nat.le_refl _)); have BE3_b := Go.Lib.hid (B2_b.out.alloc (.cells #[.int .i64 i1, .int .i64 j1, .int .u64 k1, .int .u64 m1] 30)); have B3_b := Go.Lib.hid (BE3_b.out.below hb3 BE3_b.out.lt); obtain ⟨k3b0, k3b1, k3b2, k3b3⟩ := B3_b.out.cells; have BE3_d := Go.Lib.hid (B2_d.out.alloc (.cells #[.int .i64 i1, .int .i64 j1, .int .u64 k1, .int .u64 m1] 30)); have B3_d := Go.Lib.hid (BE3_d.out.below hb3 BE3_d.out.lt); obtain ⟨k3d0, k3d1, k3d2, k3d3, k3d4, k3d5, k3d6, k3d7⟩ := B3_d.out.cells; have BE3_x := Go.Lib.hid (duat1 w2 i1 j1 k1 m1); have B3_x := Go.Lib.hid (BE3_x.out.below hb3 BE3_x.out.lt); obtain ⟨k3x0, k3x1, k3x2, k3x3, k3x4, k3x5, k3x6, k3x7⟩ := B3_x.out.cells; have l3b := B3_b.out.lt; have n3b : W.heap.size ≠ w3.heap.size := (by omega); have l3d := B3_d.out.lt; have n3d : W.heap.size + 1 ≠ w3.heap.size := (by omega); have l3x := B3_x.out.lt; have n3x : w2.heap.size ≠ w3.heap.size := (by omega); clear hb3))
  go_ret
  exact ⟨rfl, (hW3.out.alloc hW3.out.size (.cells #[.int .i64 i1, .int .i64 j1, .int .u64 k1, .int .u64 m1] 30))⟩

theorem dualReads_walk (ax0_0 : Option Addr) (lenx0_0 capx0_0 : Nat) (zx0_0 : List Int) (x0_1 : Int) (x1 : Int) (x2_0 : Int) (x2_1 : Int) (x2_2 : Int) (x2_3 : Int) (W : World) (wx0_0 : IsRow .u8 W ax0_0 lenx0_0 capx0_0 zx0_0) (wx0_1 : (Lit.int .i64 x0_1).wf = true) (wx1 : (Lit.int .i64 x1).wf = true) (wx2_0 : (Lit.int .i64 x2_0).wf = true) (wx2_1 : (Lit.int .i64 x2_1).wf = true) (wx2_2 : (Lit.int .u64 x2_2).wf = true) (wx2_3 : (Lit.int .u64 x2_3).wf = true) :
    Calls Try.prog 5 #[.agg #[.slice ax0_0 lenx0_0 capx0_0, .int .i64 x0_1], .int .i64 x1, .agg #[.int .i64 x2_0, .int .i64 x2_1, .int .u64 x2_2, .int .u64 x2_3]] W fun e w' => e = .returned (.bool true) ∧ Below W.heap.size W w' := by
  have hr := Row.of_isRow wx0_0
  have hm := Nat.le_trans hr.hcap hr.hmax
  unfold maxLen at hm
  cases hg : great lenx0_0 with
  | true => exact dualReads_great W _ _ _ _ _ _ _ _ _ (by omega) hg
  | false => exact dualReads_in W _ _ _ _ _ _ _ _ _ _ hr (by omega) hg wx0_1 wx1 wx2_0 wx2_1 wx2_2 wx2_3
end Go.Proofs.Ytenkhnlhoeahkaa
