/- RiceCodes: lengths, writing and reading are the reference's. -/
import Derived.Test.YtahefkjgcdchlaaRicL
namespace Go.Proofs.Ytahefkjgcdchlaa
open Go.RowKit Cad

theorem riceCodes_great (W : World) (a : Option Addr) (len cap : Nat) (N : Int) (v : Nat) (k at_ : Int) (hl : len ≤ 9223372036854775807) (hg : great len = true) :
    Calls Try.prog 4 #[.agg #[.slice a len cap, .int .i64 N], .int .u32 v, .int .i64 k, .int .i64 at_] W fun e w' => e = .returned (.bool true) ∧ Below W.heap.size W w' := by
  have hG := Go.Lib.hid fun w => RGreat_ok w a len cap N hl
  rw [hg] at hG
  have hbE' := Go.Lib.hid (below1 W (.cells #[.slice a len cap, .int .i64 N] 28))
  go_enter Try.func4, Try.ntmps4
  go_wp2_with (go_at_call 15; refine (hG.out _).mono ?_; rintro e w1 ⟨rfl, hb1⟩)
  go_ret
  exact ⟨rfl, hbE'.out.trans (hb1.mono (by simp))⟩

set_option maxRecDepth 100000 in
set_option maxHeartbeats 4000000 in
theorem riceCodes_in (W : World) (a : Option Addr) (len cap : Nat) (l : List Int) (N : Int) (v : Nat) (k at_ : Int) (hr : Row .u8 W a len cap l) (hl : len ≤ 9223372036854775807) (hgr : great len = false) (hlen : len ≤ 1000000000)
    (hN : (Lit.int .i64 N).wf = true) (hv : v < 4294967296) (hk : (Lit.int .i64 k).wf = true) (hat : (Lit.int .i64 at_).wf = true) :
    Calls Try.prog 4 #[.agg #[.slice a len cap, .int .i64 N], .int .u32 v, .int .i64 k, .int .i64 at_] W fun e w' => e = .returned (.bool true) ∧ Below W.heap.size W w' := by
  have hg := Go.Lib.hid fun w => RGreat_ok w a len cap N hl
  rw [hgr] at hg
  have htw := Go.Lib.hid fun w hw => RTwin_row w a len cap N l hw hlen
  obtain ⟨lp, le, l1, l2⟩ := rlength_both v k hv hk
  obtain ⟨m, lj, t, we, u1, u2⟩ := rwrite_both N l v k hN hv hk
  obtain ⟨rp, rq, re, r1, r2⟩ := rread_both N l at_ k hN hat hk
  unfold Res at u1 u2
  unfold Res3u at r1 r2
  have l1 := Go.Lib.hid l1
  have l2 := Go.Lib.hid l2
  have u1 := Go.Lib.hid u1
  have u2 := Go.Lib.hid u2
  have r1 := Go.Lib.hid r1
  have r2 := Go.Lib.hid r2
  have s1 : Hid (∀ w b c b' c', Row .u8 w b m c lj → Row .u8 w b' m c' lj → Calls Try.prog 20 #[.agg #[.slice b m c, .int .i64 t], .agg #[.slice b' m c', .int .i64 t]] w fun e W' => e = .returned (.bool true) ∧ Below w.heap.size w W') := Go.Lib.hid fun w b c b' c' h h' => by
    have := RSame_ok w b m c t lj h b' m c' t lj h'
    simpa using this
  have s2 : Hid (∀ w b c, Row .u8 w b len c l → Row .u8 w a len cap l → Calls Try.prog 20 #[.agg #[.slice b len c, .int .i64 N], .agg #[.slice a len cap, .int .i64 N]] w fun e W' => e = .returned (.bool true) ∧ Below w.heap.size w W') := Go.Lib.hid fun w b c h h' => by
    have := RSame_ok w b len c N l h a len cap N l h'
    simpa using this
  have hWE0 := Go.Lib.hid (below1 W (.cells #[.slice a len cap, .int .i64 N] 28))
  have BE0_b := Go.Lib.hid (box1 W (.slice a len cap) N)
  have RE0_b := Go.Lib.hid (hr.below hWE0.out (Nat.le_refl _))
  clear hr hN hat hgr hk
  go_enter Try.func4, Try.ntmps4
  go_wp2_with (first
    | (go_at_call 15; ((with_reducible refine (hg.out _).mono ?_)); rintro e w1 ⟨rfl, hb1⟩; have hWE1 := Go.Lib.hid hWE0.out; have hW1 := Go.Lib.hid (hWE1.out.trans (hb1.mono hWE1.out.size)); have R1_b := Go.Lib.hid (RE0_b.out.below hb1 (Nat.le_refl _)); have BE1_b := Go.Lib.hid BE0_b.out; have B1_b := Go.Lib.hid (BE1_b.out.below hb1 BE1_b.out.lt); obtain ⟨k1b0, k1b1, k1b2, k1b3⟩ := B1_b.out.cells; clear hb1)
    | (go_at_call 16; ((with_reducible refine (htw.out _ ?h1).mono ?_)); (case h1 => exact R1_b.out); rintro e w2 ⟨b2, cp2, rfl, hr2, hb2⟩; have hWE2 := Go.Lib.hid hW1.out; have hW2 := Go.Lib.hid (hWE2.out.trans (hb2.mono hWE2.out.size)); have R2_b := Go.Lib.hid (R1_b.out.below hb2 (Nat.le_refl _)); have R2_o := Go.Lib.hid hr2; clear hr2; have BE2_b := Go.Lib.hid B1_b.out; have B2_b := Go.Lib.hid (BE2_b.out.below hb2 BE2_b.out.lt); obtain ⟨k2b0, k2b1, k2b2, k2b3⟩ := B2_b.out.cells; have l2b := B2_b.out.lt; have n2b : W.heap.size ≠ w2.heap.size := (by omega); clear hb2)
    | (go_at_call 9; ((with_reducible refine (l1.out _).mono ?_)); rintro e wz ⟨rfl, rfl⟩)
    | (go_at_call 17; ((with_reducible refine (l2.out _).mono ?_)); rintro e wz ⟨rfl, rfl⟩)
    | (go_at_call 10; ((with_reducible refine (u1.out _ _ _ _ ?h1).mono ?_)); (case h1 => exact (R2_o.out.below (below1 w2 (.cells #[(.slice b2 len cp2), .int .i64 N] 28)) (Nat.le_refl _))); rintro e w3 ⟨b3, cp3, rfl, hr3, hb3⟩; have hWE3 := Go.Lib.hid (hW2.out.alloc hW2.out.size (.cells #[(.slice b2 len cp2), .int .i64 N] 28)); have hW3 := Go.Lib.hid (hWE3.out.trans (hb3.mono hWE3.out.size)); have R3_b := Go.Lib.hid ((R2_b.out.below (below1 w2 (.cells #[(.slice b2 len cp2), .int .i64 N] 28)) (Nat.le_refl _)).below hb3 (Nat.le_refl _)); have R3_o := Go.Lib.hid ((R2_o.out.below (below1 w2 (.cells #[(.slice b2 len cp2), .int .i64 N] 28)) (Nat.le_refl _)).below hb3 (Nat.le_refl _)); have R3_x := Go.Lib.hid hr3; clear hr3; have BE3_b := Go.Lib.hid (B2_b.out.alloc (.cells #[(.slice b2 len cp2), .int .i64 N] 28)); have B3_b := Go.Lib.hid (BE3_b.out.below hb3 BE3_b.out.lt); obtain ⟨k3b0, k3b1, k3b2, k3b3⟩ := B3_b.out.cells; have BE3_o := Go.Lib.hid (box1 w2 (.slice b2 len cp2) N); have B3_o := Go.Lib.hid (BE3_o.out.below hb3 BE3_o.out.lt); obtain ⟨k3o0, k3o1, k3o2, k3o3⟩ := B3_o.out.cells; have l3b := B3_b.out.lt; have n3b : W.heap.size ≠ w3.heap.size := (by omega); have l3o := B3_o.out.lt; have n3o : w2.heap.size ≠ w3.heap.size := (by omega); clear hb3)
    | (go_at_call 18; ((with_reducible refine (u2.out _ _ _ _ ?h1).mono ?_)); (case h1 => exact (R3_b.out.below (below1 w3 (.cells #[(.slice b3 m cp3), .int .i64 t] 28)) (Nat.le_refl _))); rintro e w4 ⟨b4, cp4, rfl, hr4, hb4⟩; have hWE4 := Go.Lib.hid (hW3.out.alloc hW3.out.size (.cells #[(.slice b3 m cp3), .int .i64 t] 28)); have hW4 := Go.Lib.hid (hWE4.out.trans (hb4.mono hWE4.out.size)); have R4_b := Go.Lib.hid ((R3_b.out.below (below1 w3 (.cells #[(.slice b3 m cp3), .int .i64 t] 28)) (Nat.le_refl _)).below hb4 (Nat.le_refl _)); have R4_o := Go.Lib.hid ((R3_o.out.below (below1 w3 (.cells #[(.slice b3 m cp3), .int .i64 t] 28)) (Nat.le_refl _)).below hb4 (Nat.le_refl _)); have R4_x := Go.Lib.hid ((R3_x.out.below (below1 w3 (.cells #[(.slice b3 m cp3), .int .i64 t] 28)) (Nat.le_refl _)).below hb4 (Nat.le_refl _)); have R4_y := Go.Lib.hid hr4; clear hr4; have BE4_b := Go.Lib.hid (B3_b.out.alloc (.cells #[(.slice b3 m cp3), .int .i64 t] 28)); have B4_b := Go.Lib.hid (BE4_b.out.below hb4 BE4_b.out.lt); obtain ⟨k4b0, k4b1, k4b2, k4b3⟩ := B4_b.out.cells; have BE4_o := Go.Lib.hid (B3_o.out.alloc (.cells #[(.slice b3 m cp3), .int .i64 t] 28)); have B4_o := Go.Lib.hid (BE4_o.out.below hb4 BE4_o.out.lt); obtain ⟨k4o0, k4o1, k4o2, k4o3⟩ := B4_o.out.cells; have BE4_x := Go.Lib.hid (box1 w3 (.slice b3 m cp3) t); have B4_x := Go.Lib.hid (BE4_x.out.below hb4 BE4_x.out.lt); obtain ⟨k4x0, k4x1, k4x2, k4x3⟩ := B4_x.out.cells; have l4b := B4_b.out.lt; have n4b : W.heap.size ≠ w4.heap.size := (by omega); have l4o := B4_o.out.lt; have n4o : w2.heap.size ≠ w4.heap.size := (by omega); have l4x := B4_x.out.lt; have n4x : w3.heap.size ≠ w4.heap.size := (by omega); clear hb4)
    | (go_at_call 11; ((with_reducible refine (r1.out _ _ _ _ ?h1).mono ?_)); (case h1 => exact (R4_o.out.below (below1 w4 (.cells #[(.slice b4 m cp4), .int .i64 t] 28)) (Nat.le_refl _))); rintro e w5 ⟨rfl, hb5⟩; have hWE5 := Go.Lib.hid (hW4.out.alloc hW4.out.size (.cells #[(.slice b4 m cp4), .int .i64 t] 28)); have hW5 := Go.Lib.hid (hWE5.out.trans (hb5.mono hWE5.out.size)); have R5_b := Go.Lib.hid ((R4_b.out.below (below1 w4 (.cells #[(.slice b4 m cp4), .int .i64 t] 28)) (Nat.le_refl _)).below hb5 (Nat.le_refl _)); have R5_o := Go.Lib.hid ((R4_o.out.below (below1 w4 (.cells #[(.slice b4 m cp4), .int .i64 t] 28)) (Nat.le_refl _)).below hb5 (Nat.le_refl _)); have R5_x := Go.Lib.hid ((R4_x.out.below (below1 w4 (.cells #[(.slice b4 m cp4), .int .i64 t] 28)) (Nat.le_refl _)).below hb5 (Nat.le_refl _)); have R5_y := Go.Lib.hid ((R4_y.out.below (below1 w4 (.cells #[(.slice b4 m cp4), .int .i64 t] 28)) (Nat.le_refl _)).below hb5 (Nat.le_refl _)); have BE5_b := Go.Lib.hid (B4_b.out.alloc (.cells #[(.slice b4 m cp4), .int .i64 t] 28)); have B5_b := Go.Lib.hid (BE5_b.out.below hb5 BE5_b.out.lt); obtain ⟨k5b0, k5b1, k5b2, k5b3⟩ := B5_b.out.cells; have BE5_o := Go.Lib.hid (B4_o.out.alloc (.cells #[(.slice b4 m cp4), .int .i64 t] 28)); have B5_o := Go.Lib.hid (BE5_o.out.below hb5 BE5_o.out.lt); obtain ⟨k5o0, k5o1, k5o2, k5o3⟩ := B5_o.out.cells; have BE5_x := Go.Lib.hid (B4_x.out.alloc (.cells #[(.slice b4 m cp4), .int .i64 t] 28)); have B5_x := Go.Lib.hid (BE5_x.out.below hb5 BE5_x.out.lt); obtain ⟨k5x0, k5x1, k5x2, k5x3⟩ := B5_x.out.cells; have BE5_y := Go.Lib.hid (box1 w4 (.slice b4 m cp4) t); have B5_y := Go.Lib.hid (BE5_y.out.below hb5 BE5_y.out.lt); obtain ⟨k5y0, k5y1, k5y2, k5y3⟩ := B5_y.out.cells; clear hb5)
    | (go_at_call 19; ((with_reducible refine (r2.out _ _ _ _ ?h1).mono ?_)); (case h1 => exact R5_b.out); rintro e w6 ⟨rfl, hb6⟩; have hWE6 := Go.Lib.hid hW5.out; have hW6 := Go.Lib.hid (hWE6.out.trans (hb6.mono hWE6.out.size)); have R6_b := Go.Lib.hid (R5_b.out.below hb6 (Nat.le_refl _)); have R6_o := Go.Lib.hid (R5_o.out.below hb6 (Nat.le_refl _)); have R6_x := Go.Lib.hid (R5_x.out.below hb6 (Nat.le_refl _)); have R6_y := Go.Lib.hid (R5_y.out.below hb6 (Nat.le_refl _)); have BE6_b := Go.Lib.hid B5_b.out; have B6_b := Go.Lib.hid (BE6_b.out.below hb6 BE6_b.out.lt); obtain ⟨k6b0, k6b1, k6b2, k6b3⟩ := B6_b.out.cells; have BE6_o := Go.Lib.hid B5_o.out; have B6_o := Go.Lib.hid (BE6_o.out.below hb6 BE6_o.out.lt); obtain ⟨k6o0, k6o1, k6o2, k6o3⟩ := B6_o.out.cells; have BE6_x := Go.Lib.hid B5_x.out; have B6_x := Go.Lib.hid (BE6_x.out.below hb6 BE6_x.out.lt); obtain ⟨k6x0, k6x1, k6x2, k6x3⟩ := B6_x.out.cells; have BE6_y := Go.Lib.hid B5_y.out; have B6_y := Go.Lib.hid (BE6_y.out.below hb6 BE6_y.out.lt); obtain ⟨k6y0, k6y1, k6y2, k6y3⟩ := B6_y.out.cells; clear hb6)
    | (go_at_call 20; ((with_reducible refine (s1.out _ _ _ _ _ ?h1 ?h2).mono ?_)); (case h1 => exact R6_x.out); (case h2 => exact R6_y.out); rintro e w7 ⟨rfl, hb7⟩; have hWE7 := Go.Lib.hid hW6.out; have hW7 := Go.Lib.hid (hWE7.out.trans (hb7.mono hWE7.out.size)); have R7_b := Go.Lib.hid (R6_b.out.below hb7 (Nat.le_refl _)); have R7_o := Go.Lib.hid (R6_o.out.below hb7 (Nat.le_refl _)); have R7_x := Go.Lib.hid (R6_x.out.below hb7 (Nat.le_refl _)); have R7_y := Go.Lib.hid (R6_y.out.below hb7 (Nat.le_refl _)); have BE7_b := Go.Lib.hid B6_b.out; have B7_b := Go.Lib.hid (BE7_b.out.below hb7 BE7_b.out.lt); obtain ⟨k7b0, k7b1, k7b2, k7b3⟩ := B7_b.out.cells; have BE7_o := Go.Lib.hid B6_o.out; have B7_o := Go.Lib.hid (BE7_o.out.below hb7 BE7_o.out.lt); obtain ⟨k7o0, k7o1, k7o2, k7o3⟩ := B7_o.out.cells; have BE7_x := Go.Lib.hid B6_x.out; have B7_x := Go.Lib.hid (BE7_x.out.below hb7 BE7_x.out.lt); obtain ⟨k7x0, k7x1, k7x2, k7x3⟩ := B7_x.out.cells; have BE7_y := Go.Lib.hid B6_y.out; have B7_y := Go.Lib.hid (BE7_y.out.below hb7 BE7_y.out.lt); obtain ⟨k7y0, k7y1, k7y2, k7y3⟩ := B7_y.out.cells; clear hb7)
    | (go_at_call 20; ((with_reducible refine (s2.out _ _ _ ?h1 ?h2).mono ?_)); (case h1 => exact R7_o.out); (case h2 => exact R7_b.out); rintro e w8 ⟨rfl, hb8⟩; have hWE8 := Go.Lib.hid hW7.out; have hW8 := Go.Lib.hid (hWE8.out.trans (hb8.mono hWE8.out.size)); have R8_b := Go.Lib.hid (R7_b.out.below hb8 (Nat.le_refl _)); have R8_o := Go.Lib.hid (R7_o.out.below hb8 (Nat.le_refl _)); have R8_x := Go.Lib.hid (R7_x.out.below hb8 (Nat.le_refl _)); have R8_y := Go.Lib.hid (R7_y.out.below hb8 (Nat.le_refl _)); have BE8_b := Go.Lib.hid B7_b.out; have B8_b := Go.Lib.hid (BE8_b.out.below hb8 BE8_b.out.lt); obtain ⟨k8b0, k8b1, k8b2, k8b3⟩ := B8_b.out.cells; have BE8_o := Go.Lib.hid B7_o.out; have B8_o := Go.Lib.hid (BE8_o.out.below hb8 BE8_o.out.lt); obtain ⟨k8o0, k8o1, k8o2, k8o3⟩ := B8_o.out.cells; have BE8_x := Go.Lib.hid B7_x.out; have B8_x := Go.Lib.hid (BE8_x.out.below hb8 BE8_x.out.lt); obtain ⟨k8x0, k8x1, k8x2, k8x3⟩ := B8_x.out.cells; have BE8_y := Go.Lib.hid B7_y.out; have B8_y := Go.Lib.hid (BE8_y.out.below hb8 BE8_y.out.lt); obtain ⟨k8y0, k8y1, k8y2, k8y3⟩ := B8_y.out.cells; clear hb8))
  go_ret
  exact ⟨rfl, hW8.out⟩

theorem riceCodes_walk (ax0_0 : Option Addr) (lenx0_0 capx0_0 : Nat) (zx0_0 : List Int) (x0_1 : Int) (x1 : Int) (x2 : Int) (x3 : Int) (W : World) (wx0_0 : IsRow .u8 W ax0_0 lenx0_0 capx0_0 zx0_0) (wx0_1 : (Lit.int .i64 x0_1).wf = true) (wx1 : (Lit.int .u32 x1).wf = true) (wx2 : (Lit.int .i64 x2).wf = true) (wx3 : (Lit.int .i64 x3).wf = true) :
    Calls Try.prog 4 #[.agg #[.slice ax0_0 lenx0_0 capx0_0, .int .i64 x0_1], .int .u32 x1, .int .i64 x2, .int .i64 x3] W fun e w' => e = .returned (.bool true) ∧ Below W.heap.size W w' := by
  have hr := Row.of_isRow wx0_0
  obtain ⟨v, rfl, hv⟩ := nat_u32 wx1
  have hm := Nat.le_trans hr.hcap hr.hmax
  unfold maxLen at hm
  cases hg : great lenx0_0 with
  | true => exact riceCodes_great W _ _ _ _ _ _ _ (by omega) hg
  | false =>
    have hlen : lenx0_0 ≤ 41350 := by
      have := of_decide_eq_false hg
      omega
    exact riceCodes_in W _ _ _ _ _ _ _ _ hr (by omega) hg (by omega) wx0_1 hv wx2 wx3
end Go.Proofs.Ytahefkjgcdchlaa
