/- CoderReads: Decode is the reference's. -/
import Derived.Test.YtifbigmgiakakaaZ9

namespace Go.Proofs.Ytifbigmgiakakaa
open Go.RowKit Cad

set_option maxRecDepth 100000 in
theorem coderReads_great (W : World) (aa : Option Addr) (len cap : Nat) (N n : Int) (hl : len ≤ 9223372036854775807) (hg : great len = true) :
    Calls Try.prog 5 #[.agg #[.slice aa len cap, .int .i64 N], .int .i64 n] W fun e w' => e = .returned (.bool true) ∧ Below W.heap.size W w' := by
  have hG := Go.Lib.hid fun w => RGreat_ok w aa len cap N hl
  rw [hg] at hG
  have hWE0 := Go.Lib.hid (below1 W (.cells #[.slice aa len cap, .int .i64 N] 24))
  have BE0_b := Go.Lib.hid (box1 W (.slice aa len cap) N)
  obtain ⟨z0, z1, z2, z3⟩ := BE0_b.out.cells
  go_enter Try.func5, Try.ntmps5
  go_wp2_with (go_at_call 22; refine (hG.out _).mono ?_; rintro e w1 ⟨rfl, hb1⟩)
  go_ret
  exact ⟨rfl, hWE0.out.trans (hb1.mono hWE0.out.size)⟩

set_option maxRecDepth 100000 in
set_option maxHeartbeats 4000000 in
theorem coderReads_in (W : World) (aa : Option Addr) (len cap : Nat) (l : List Int) (N n : Int) (hr : Row .u8 W aa len cap l) (hl : len ≤ 9223372036854775807) (hgr : great len = false) (hlen : len ≤ 1000000000) (hN : (Lit.int .i64 N).wf = true) :
    Calls Try.prog 5 #[.agg #[.slice aa len cap, .int .i64 N], .int .i64 n] W fun e w' => e = .returned (.bool true) ∧ Below W.heap.size W w' := by
  have hg := Go.Lib.hid fun w => RGreat_ok w aa len cap N hl
  rw [hgr] at hg
  have htw := Go.Lib.hid fun w hw => RTwin_row w aa len cap N l hw hlen
  obtain ⟨lj, p, we, r1, r2⟩ := cdecode_both N n l hN
  unfold ResL at r1 r2
  have r1 := Go.Lib.hid r1
  have r2 := Go.Lib.hid r2
  have s1 : Hid (∀ w b k c b' k' c', Row .u32 w b k c lj → Row .u32 w b' k' c' lj → Calls Try.prog 21 #[.slice b k c, .slice b' k' c'] w fun e W' => e = .returned (.bool true) ∧ Below w.heap.size w W') := Go.Lib.hid fun w b k c b' k' c' h h' => by
    have := CSame_ok w b k c lj h b' k' c' lj h'
    simpa using this
  have s2 : Hid (∀ w b c, Row .u8 w b len c l → Row .u8 w aa len cap l → Calls Try.prog 20 #[.agg #[.slice b len c, .int .i64 N], .agg #[.slice aa len cap, .int .i64 N]] w fun e W' => e = .returned (.bool true) ∧ Below w.heap.size w W') := Go.Lib.hid fun w b c h h' => by
    have := RSame_ok w b len c N l h aa len cap N l h'
    simpa using this
  have hWE0 := Go.Lib.hid (below1 W (.cells #[.slice aa len cap, .int .i64 N] 24))
  have BE0_b := Go.Lib.hid (box1 W (.slice aa len cap) N)
  have RE0_b := Go.Lib.hid (hr.below hWE0.out (Nat.le_refl _))
  obtain ⟨z0, z1, z2, z3⟩ := BE0_b.out.cells
  clear hr hN hgr
  go_enter Try.func5, Try.ntmps5
  go_wp2_with (first
    | (go_at_call 22; ((with_reducible refine (hg.out _).mono ?_)); rintro e w1 ⟨rfl, hb1⟩; have hWE1 := Go.Lib.hid hWE0.out; have hW1 := Go.Lib.hid (hWE1.out.trans (hb1.mono hWE1.out.size)); have R1_b := Go.Lib.hid (RE0_b.out.below hb1 (Nat.le_refl _)); have BE1_b := Go.Lib.hid BE0_b.out; have B1_b := Go.Lib.hid (BE1_b.out.below hb1 BE1_b.out.lt); obtain ⟨k1b0, k1b1, k1b2, k1b3⟩ := B1_b.out.cells; clear hb1)
    | (go_at_call 23; ((with_reducible refine (htw.out _ ?h1).mono ?_)); (case h1 => exact R1_b.out); rintro e w2 ⟨b2, cp2, rfl, hr2, hb2⟩; have hWE2 := Go.Lib.hid hW1.out; have hW2 := Go.Lib.hid (hWE2.out.trans (hb2.mono hWE2.out.size)); have R2_b := Go.Lib.hid (R1_b.out.below hb2 (Nat.le_refl _)); have R2_o := Go.Lib.hid hr2; clear hr2; have BE2_b := Go.Lib.hid B1_b.out; have B2_b := Go.Lib.hid (BE2_b.out.below hb2 BE2_b.out.lt); obtain ⟨k2b0, k2b1, k2b2, k2b3⟩ := B2_b.out.cells; have l2b := B2_b.out.lt; have n2b : W.heap.size ≠ w2.heap.size := (by omega); clear hb2)
    | (go_at_call 13; ((with_reducible refine (r1.out _ _ _ _ ?h1).mono ?_)); (case h1 => exact (R2_o.out.below (below1 w2 (.cells #[(.slice b2 len cp2), .int .i64 N] 24)) (Nat.le_refl _))); rintro e w3 ⟨b3, n3, cp3, rfl, hr3, hb3⟩; have hWE3 := Go.Lib.hid (hW2.out.alloc hW2.out.size (.cells #[(.slice b2 len cp2), .int .i64 N] 24)); have hW3 := Go.Lib.hid (hWE3.out.trans (hb3.mono hWE3.out.size)); have R3_b := Go.Lib.hid ((R2_b.out.below (below1 w2 (.cells #[(.slice b2 len cp2), .int .i64 N] 24)) (Nat.le_refl _)).below hb3 (Nat.le_refl _)); have R3_o := Go.Lib.hid ((R2_o.out.below (below1 w2 (.cells #[(.slice b2 len cp2), .int .i64 N] 24)) (Nat.le_refl _)).below hb3 (Nat.le_refl _)); have R3_p := Go.Lib.hid hr3; clear hr3; have BE3_b := Go.Lib.hid (B2_b.out.alloc (.cells #[(.slice b2 len cp2), .int .i64 N] 24)); have B3_b := Go.Lib.hid (BE3_b.out.below hb3 BE3_b.out.lt); obtain ⟨k3b0, k3b1, k3b2, k3b3⟩ := B3_b.out.cells; have BE3_o := Go.Lib.hid (box1 w2 (.slice b2 len cp2) N); have B3_o := Go.Lib.hid (BE3_o.out.below hb3 BE3_o.out.lt); obtain ⟨k3o0, k3o1, k3o2, k3o3⟩ := B3_o.out.cells; clear hb3)
    | (go_at_call 24; ((with_reducible refine (r2.out _ _ _ _ ?h1).mono ?_)); (case h1 => exact R3_b.out); rintro e w4 ⟨b4, n4, cp4, rfl, hr4, hb4⟩; have hWE4 := Go.Lib.hid hW3.out; have hW4 := Go.Lib.hid (hWE4.out.trans (hb4.mono hWE4.out.size)); have R4_b := Go.Lib.hid (R3_b.out.below hb4 (Nat.le_refl _)); have R4_o := Go.Lib.hid (R3_o.out.below hb4 (Nat.le_refl _)); have R4_p := Go.Lib.hid (R3_p.out.below hb4 (Nat.le_refl _)); have R4_q := Go.Lib.hid hr4; clear hr4; have BE4_b := Go.Lib.hid B3_b.out; have B4_b := Go.Lib.hid (BE4_b.out.below hb4 BE4_b.out.lt); obtain ⟨k4b0, k4b1, k4b2, k4b3⟩ := B4_b.out.cells; have BE4_o := Go.Lib.hid B3_o.out; have B4_o := Go.Lib.hid (BE4_o.out.below hb4 BE4_o.out.lt); obtain ⟨k4o0, k4o1, k4o2, k4o3⟩ := B4_o.out.cells; clear hb4)
    | (go_at_call 21; ((with_reducible refine (s1.out _ _ _ _ _ _ _ ?h1 ?h2).mono ?_)); (case h1 => exact R4_p.out); (case h2 => exact R4_q.out); rintro e w5 ⟨rfl, hb5⟩; have hWE5 := Go.Lib.hid hW4.out; have hW5 := Go.Lib.hid (hWE5.out.trans (hb5.mono hWE5.out.size)); have R5_b := Go.Lib.hid (R4_b.out.below hb5 (Nat.le_refl _)); have R5_o := Go.Lib.hid (R4_o.out.below hb5 (Nat.le_refl _)); have R5_p := Go.Lib.hid (R4_p.out.below hb5 (Nat.le_refl _)); have R5_q := Go.Lib.hid (R4_q.out.below hb5 (Nat.le_refl _)); have BE5_b := Go.Lib.hid B4_b.out; have B5_b := Go.Lib.hid (BE5_b.out.below hb5 BE5_b.out.lt); obtain ⟨k5b0, k5b1, k5b2, k5b3⟩ := B5_b.out.cells; have BE5_o := Go.Lib.hid B4_o.out; have B5_o := Go.Lib.hid (BE5_o.out.below hb5 BE5_o.out.lt); obtain ⟨k5o0, k5o1, k5o2, k5o3⟩ := B5_o.out.cells; clear hb5)
    | (go_at_call 20; ((with_reducible refine (s2.out _ _ _ ?h1 ?h2).mono ?_)); (case h1 => exact R5_o.out); (case h2 => exact R5_b.out); rintro e w6 ⟨rfl, hb6⟩; have hWE6 := Go.Lib.hid hW5.out; have hW6 := Go.Lib.hid (hWE6.out.trans (hb6.mono hWE6.out.size)); have R6_b := Go.Lib.hid (R5_b.out.below hb6 (Nat.le_refl _)); have R6_o := Go.Lib.hid (R5_o.out.below hb6 (Nat.le_refl _)); have R6_p := Go.Lib.hid (R5_p.out.below hb6 (Nat.le_refl _)); have R6_q := Go.Lib.hid (R5_q.out.below hb6 (Nat.le_refl _)); have BE6_b := Go.Lib.hid B5_b.out; have B6_b := Go.Lib.hid (BE6_b.out.below hb6 BE6_b.out.lt); obtain ⟨k6b0, k6b1, k6b2, k6b3⟩ := B6_b.out.cells; have BE6_o := Go.Lib.hid B5_o.out; have B6_o := Go.Lib.hid (BE6_o.out.below hb6 BE6_o.out.lt); obtain ⟨k6o0, k6o1, k6o2, k6o3⟩ := B6_o.out.cells; clear hb6))
  go_ret
  exact ⟨rfl, hW6.out⟩

theorem coderReads_walk (ax0_0 : Option Addr) (lenx0_0 capx0_0 : Nat) (zx0_0 : List Int) (x0_1 : Int) (x1 : Int) (W : World) (wx0_0 : IsRow .u8 W ax0_0 lenx0_0 capx0_0 zx0_0) (wx0_1 : (Lit.int .i64 x0_1).wf = true) (_wx1 : (Lit.int .i64 x1).wf = true) :
    Calls Try.prog 5 #[.agg #[.slice ax0_0 lenx0_0 capx0_0, .int .i64 x0_1], .int .i64 x1] W fun e w' => e = .returned (.bool true) ∧ Below W.heap.size W w' := by
  have hr := Row.of_isRow wx0_0
  have hm := Nat.le_trans hr.hcap hr.hmax
  unfold maxLen at hm
  cases hg : great lenx0_0 with
  | true => exact coderReads_great W _ _ _ _ _ (by omega) hg
  | false =>
    have hlen : lenx0_0 ≤ 41350 := by
      have := of_decide_eq_false hg
      omega
    exact coderReads_in W _ _ _ _ _ _ hr (by omega) hg (by omega) wx0_1
end Go.Proofs.Ytifbigmgiakakaa
