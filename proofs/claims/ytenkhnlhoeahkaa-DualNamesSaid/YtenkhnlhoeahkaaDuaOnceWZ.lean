/- DualOnce: there is one code for each number: what is read has just this code. -/
import Derived.Test.YtenkhnlhoeahkaaDuaReadsWZ

namespace Go.Proofs.Ytenkhnlhoeahkaa
open Go.RowKit Cad

set_option maxRecDepth 100000 in
set_option maxHeartbeats 2000000 in
theorem dualOnce_out (W : World) (aa : Option Addr) (len cap : Nat) (l : List Int) (N at_ a b c d : Int) (hr : Row .u8 W aa len cap l) (hN : (Lit.int .i64 N).wf = true) (r s : Int) (hk : chk l N r) (hs : chkD a b c d s)
    (ha : (Lit.int .i64 a).wf = true) (hb : (Lit.int .i64 b).wf = true) (hc : (Lit.int .u64 c).wf = true) (hd : (Lit.int .u64 d).wf = true)
    (h : r = 8 ∨ (r = 0 ∧ (1500 < N ∨ at_ < 0 ∨ N < at_ ∨ s = 8))) :
    Calls Try.prog 7 #[.agg #[.slice aa len cap, .int .i64 N], .int .i64 at_, .agg #[.int .i64 a, .int .i64 b, .int .u64 c, .int .u64 d]] W fun e w' => e = .returned (.bool true) ∧ Below W.heap.size W w' := by
  have hWE0 := Go.Lib.hid ((below1 W (.cells #[.slice aa len cap, .int .i64 N] 24)).alloc (below1 W (.cells #[.slice aa len cap, .int .i64 N] 24)).size (.cells #[.int .i64 a, .int .i64 b, .int .u64 c, .int .u64 d] 30))
  have BE0_b := Go.Lib.hid ((box1 W (.slice aa len cap) N).alloc (.cells #[.int .i64 a, .int .i64 b, .int .u64 c, .int .u64 d] 30))
  have BE0_d := Go.Lib.hid (duat2 W (.cells #[.slice aa len cap, .int .i64 N] 24) a b c d)
  have RE0_b := Go.Lib.hid (hr.below hWE0.out (Nat.le_refl _))
  obtain ⟨z0, z1, z2, z3⟩ := BE0_b.out.cells
  have hck : Hid (∀ w, Row .u8 w aa len cap l → Calls Try.prog 28 #[.agg #[.slice aa len cap, .int .i64 N]] w fun e W' => e = .returned (.int .i64 r) ∧ Below w.heap.size w W') := Go.Lib.hid fun w h => RCheck_any w aa len cap N l h hN r hk
  have hcd := Go.Lib.hid fun w => RdCheck_any w a b c d ha hb hc hd s hs
  have key : (r = 8) ∨ (r = 0 ∧ 1500 < N) ∨ (r = 0 ∧ ¬ 1500 < N ∧ at_ < 0) ∨ (r = 0 ∧ ¬ 1500 < N ∧ ¬ at_ < 0 ∧ N < at_) ∨ (r = 0 ∧ ¬ 1500 < N ∧ ¬ at_ < 0 ∧ ¬ N < at_ ∧ s = 8) := by omega
  clear h hr hN hk hs ha hb hc hd
  rcases key with rfl | ⟨rfl, h⟩ | ⟨rfl, h1, h2⟩ | ⟨rfl, h1, h2, h3⟩ | ⟨rfl, h1, h2, h3, rfl⟩
  · go_enter Try.func7, Try.ntmps7
    go_wp2_with (first
      | (go_at_call 28; ((with_reducible refine (hck.out _ ?h1).mono ?_)); (case h1 => exact RE0_b.out); rintro e w1 ⟨rfl, hb1⟩; have hWE1 := Go.Lib.hid hWE0.out; have hW1 := Go.Lib.hid (hWE1.out.trans (hb1.mono hWE1.out.size)); have R1_b := Go.Lib.hid (RE0_b.out.below hb1 (Nat.le_refl _)); have BE1_b := Go.Lib.hid BE0_b.out; have B1_b := Go.Lib.hid (BE1_b.out.below hb1 BE1_b.out.lt); obtain ⟨k1b0, k1b1, k1b2, k1b3⟩ := B1_b.out.cells; have BE1_d := Go.Lib.hid BE0_d.out; have B1_d := Go.Lib.hid (BE1_d.out.below hb1 BE1_d.out.lt); obtain ⟨k1d0, k1d1, k1d2, k1d3, k1d4, k1d5, k1d6, k1d7⟩ := B1_d.out.cells; clear hb1)
      | (go_at_call 17; refine (alive8_ok _).mono ?_; rintro e w2 ⟨rfl, hb2⟩; have hWE2 := Go.Lib.hid hW1.out; have hW2 := Go.Lib.hid (hWE2.out.trans (hb2.mono hWE2.out.size)); clear hb2))
    go_ret
    exact ⟨rfl, hW2.out⟩
  · go_enter Try.func7, Try.ntmps7
    go_wp2_with (first
      | (go_at_call 28; ((with_reducible refine (hck.out _ ?h1).mono ?_)); (case h1 => exact RE0_b.out); rintro e w1 ⟨rfl, hb1⟩; have hWE1 := Go.Lib.hid hWE0.out; have hW1 := Go.Lib.hid (hWE1.out.trans (hb1.mono hWE1.out.size)); have R1_b := Go.Lib.hid (RE0_b.out.below hb1 (Nat.le_refl _)); have BE1_b := Go.Lib.hid BE0_b.out; have B1_b := Go.Lib.hid (BE1_b.out.below hb1 BE1_b.out.lt); obtain ⟨k1b0, k1b1, k1b2, k1b3⟩ := B1_b.out.cells; have BE1_d := Go.Lib.hid BE0_d.out; have B1_d := Go.Lib.hid (BE1_d.out.below hb1 BE1_d.out.lt); obtain ⟨k1d0, k1d1, k1d2, k1d3, k1d4, k1d5, k1d6, k1d7⟩ := B1_d.out.cells; clear hb1)
      | (go_at_call 17; refine (alive8_ok _).mono ?_; rintro e w2 ⟨rfl, hb2⟩; have hWE2 := Go.Lib.hid hW1.out; have hW2 := Go.Lib.hid (hWE2.out.trans (hb2.mono hWE2.out.size)); clear hb2))
    go_ret
    exact ⟨rfl, hW2.out⟩
  · have d1 : decide ((1500 : Int) < N) = false := decide_eq_false h1
    go_enter Try.func7, Try.ntmps7
    go_wp2_with (first
      | (go_at_call 28; ((with_reducible refine (hck.out _ ?h1).mono ?_)); (case h1 => exact RE0_b.out); rintro e w1 ⟨rfl, hb1⟩; have hWE1 := Go.Lib.hid hWE0.out; have hW1 := Go.Lib.hid (hWE1.out.trans (hb1.mono hWE1.out.size)); have R1_b := Go.Lib.hid (RE0_b.out.below hb1 (Nat.le_refl _)); have BE1_b := Go.Lib.hid BE0_b.out; have B1_b := Go.Lib.hid (BE1_b.out.below hb1 BE1_b.out.lt); obtain ⟨k1b0, k1b1, k1b2, k1b3⟩ := B1_b.out.cells; have BE1_d := Go.Lib.hid BE0_d.out; have B1_d := Go.Lib.hid (BE1_d.out.below hb1 BE1_d.out.lt); obtain ⟨k1d0, k1d1, k1d2, k1d3, k1d4, k1d5, k1d6, k1d7⟩ := B1_d.out.cells; clear hb1)
      | (go_at_call 17; refine (alive8_ok _).mono ?_; rintro e w2 ⟨rfl, hb2⟩; have hWE2 := Go.Lib.hid hW1.out; have hW2 := Go.Lib.hid (hWE2.out.trans (hb2.mono hWE2.out.size)); clear hb2))
    go_ret
    exact ⟨rfl, hW2.out⟩
  · have d1 : decide ((1500 : Int) < N) = false := decide_eq_false h1
    have d2 : decide (at_ < 0) = false := decide_eq_false h2
    go_enter Try.func7, Try.ntmps7
    go_wp2_with (first
      | (go_at_call 28; ((with_reducible refine (hck.out _ ?h1).mono ?_)); (case h1 => exact RE0_b.out); rintro e w1 ⟨rfl, hb1⟩; have hWE1 := Go.Lib.hid hWE0.out; have hW1 := Go.Lib.hid (hWE1.out.trans (hb1.mono hWE1.out.size)); have R1_b := Go.Lib.hid (RE0_b.out.below hb1 (Nat.le_refl _)); have BE1_b := Go.Lib.hid BE0_b.out; have B1_b := Go.Lib.hid (BE1_b.out.below hb1 BE1_b.out.lt); obtain ⟨k1b0, k1b1, k1b2, k1b3⟩ := B1_b.out.cells; have BE1_d := Go.Lib.hid BE0_d.out; have B1_d := Go.Lib.hid (BE1_d.out.below hb1 BE1_d.out.lt); obtain ⟨k1d0, k1d1, k1d2, k1d3, k1d4, k1d5, k1d6, k1d7⟩ := B1_d.out.cells; clear hb1)
      | (go_at_call 17; refine (alive8_ok _).mono ?_; rintro e w2 ⟨rfl, hb2⟩; have hWE2 := Go.Lib.hid hW1.out; have hW2 := Go.Lib.hid (hWE2.out.trans (hb2.mono hWE2.out.size)); clear hb2))
    go_ret
    exact ⟨rfl, hW2.out⟩
  · have d1 : decide ((1500 : Int) < N) = false := decide_eq_false h1
    have d2 : decide (at_ < 0) = false := decide_eq_false h2
    have d3 : decide (N < at_) = false := decide_eq_false h3
    go_enter Try.func7, Try.ntmps7
    go_wp2_with (first
      | (go_at_call 28; ((with_reducible refine (hck.out _ ?h1).mono ?_)); (case h1 => exact RE0_b.out); rintro e w1 ⟨rfl, hb1⟩; have hWE1 := Go.Lib.hid hWE0.out; have hW1 := Go.Lib.hid (hWE1.out.trans (hb1.mono hWE1.out.size)); have R1_b := Go.Lib.hid (RE0_b.out.below hb1 (Nat.le_refl _)); have BE1_b := Go.Lib.hid BE0_b.out; have B1_b := Go.Lib.hid (BE1_b.out.below hb1 BE1_b.out.lt); obtain ⟨k1b0, k1b1, k1b2, k1b3⟩ := B1_b.out.cells; have BE1_d := Go.Lib.hid BE0_d.out; have B1_d := Go.Lib.hid (BE1_d.out.below hb1 BE1_d.out.lt); obtain ⟨k1d0, k1d1, k1d2, k1d3, k1d4, k1d5, k1d6, k1d7⟩ := B1_d.out.cells; clear hb1)
      | (go_at_call 25; ((with_reducible refine (hcd.out _).mono ?_)); rintro e w2 ⟨rfl, hb2⟩; have hWE2 := Go.Lib.hid hW1.out; have hW2 := Go.Lib.hid (hWE2.out.trans (hb2.mono hWE2.out.size)); have R2_b := Go.Lib.hid (R1_b.out.below hb2 (Nat.le_refl _)); have BE2_b := Go.Lib.hid B1_b.out; have B2_b := Go.Lib.hid (BE2_b.out.below hb2 BE2_b.out.lt); obtain ⟨k2b0, k2b1, k2b2, k2b3⟩ := B2_b.out.cells; have BE2_d := Go.Lib.hid B1_d.out; have B2_d := Go.Lib.hid (BE2_d.out.below hb2 BE2_d.out.lt); obtain ⟨k2d0, k2d1, k2d2, k2d3, k2d4, k2d5, k2d6, k2d7⟩ := B2_d.out.cells; clear hb2)
      | (go_at_call 17; refine (alive8_ok _).mono ?_; rintro e w3 ⟨rfl, hb3⟩; have hWE3 := Go.Lib.hid hW2.out; have hW3 := Go.Lib.hid (hWE3.out.trans (hb3.mono hWE3.out.size)); clear hb3))
    go_ret
    exact ⟨rfl, hW3.out⟩

set_option maxRecDepth 100000 in
set_option maxHeartbeats 4000000 in
theorem dualOnce_no (W : World) (aa : Option Addr) (len cap : Nat) (B : List Bool) (i er : Nat) (D : Du) (hr : Row .u8 W aa len cap (pack B)) (hB : B.length ≤ 1500) (hi : i ≤ B.length) (hd : D.ok) (hv : readD B i D = (0, 0, er)) (he : er = 24 ∨ (er = 12 ∧ i + 81 ≤ B.length)) :
    Calls Try.prog 7 #[.agg #[.slice aa len cap, .int .i64 B.length], .int .i64 i, .agg #[.int .i64 D.k0, .int .i64 D.k1, .int .u64 D.s0, .int .u64 D.s1]] W fun e w' => e = .returned (.bool true) ∧ Below W.heap.size W w' := by
  have hWE0 := Go.Lib.hid ((below1 W (.cells #[.slice aa len cap, .int .i64 B.length] 24)).alloc (below1 W (.cells #[.slice aa len cap, .int .i64 B.length] 24)).size (.cells #[.int .i64 D.k0, .int .i64 D.k1, .int .u64 D.s0, .int .u64 D.s1] 30))
  have BE0_b := Go.Lib.hid ((box1 W (.slice aa len cap) B.length).alloc (.cells #[.int .i64 D.k0, .int .i64 D.k1, .int .u64 D.s0, .int .u64 D.s1] 30))
  have BE0_d := Go.Lib.hid (duat2 W (.cells #[.slice aa len cap, .int .i64 B.length] 24) (D.k0 : Int) (D.k1 : Int) (D.s0 : Int) (D.s1 : Int))
  have RE0_b := Go.Lib.hid (hr.below hWE0.out (Nat.le_refl _))
  obtain ⟨z0, z1, z2, z3⟩ := BE0_b.out.cells
  obtain ⟨N, hN⟩ : ∃ N, N = B.length := ⟨_, rfl⟩
  have hck : Hid (∀ w, Row .u8 w aa len cap (pack B) → Calls Try.prog 28 #[.agg #[.slice aa len cap, .int .i64 N]] w fun e W' => e = .returned (.int .i64 0) ∧ Below w.heap.size w W') := Go.Lib.hid fun w h => by
    rw [hN]
    exact RCheck_any w aa len cap B.length (pack B) h (bounds_of_len (by omega)) 0 (.inl ⟨⟨B, rfl, by omega, rfl⟩, rfl⟩)
  have hcd := Go.Lib.hid fun w => RdCheck_any w D.k0 D.k1 D.s0 D.s1 (du_wf hd).1 (du_wf hd).2.1 (du_wf hd).2.2.1 (du_wf hd).2.2.2 0 (.inl ⟨du_ok hd, rfl⟩)
  have d1 : decide ((1500 : Int) < N) = false := decide_eq_false (by omega)
  have d2 : decide ((i : Int) < 0) = false := decide_eq_false (by omega)
  have d3 : decide ((N : Int) < i) = false := decide_eq_false (by omega)
  have hN' : (N : Int) ≤ 1500 := by omega
  have hi' : (i : Int) ≤ N := by omega
  rw [← hN] at hWE0 BE0_b BE0_d RE0_b z0 z1 z2 z3 he ⊢
  obtain ⟨er', her⟩ : ∃ er' : Int, er' = er := ⟨_, rfl⟩
  have rd : Hid (∀ w, Row .u8 w aa len cap (pack B) → ResR 14 #[.agg #[.slice aa len cap, .int .i64 N], .int .i64 i, .agg #[.int .i64 D.k0, .int .i64 D.k1, .int .u64 D.s0, .int .u64 D.s1]] w 0 0 0 0 0 0 er') := Go.Lib.hid fun w h => by
    rw [hN, her]
    exact DRead_er w aa len cap B i D h (by omega) hi hd 0 0 er (by omega) hv
  unfold ResR at rd
  have q0 := sameD_self 0 0 0 0
  have he' : er' = 24 ∨ (er' = 12 ∧ decide ((81 : Int) ≤ (N : Int) - (i : Int)) = true) := by
    rcases he with h | ⟨h, h'⟩
    · left; omega
    · right; exact ⟨by omega, decide_eq_true (by omega)⟩
  clear hv hN hr hB hi hd her he
  rcases he' with rfl | ⟨rfl, d6⟩
  · go_enter Try.func7, Try.ntmps7
    go_wp2_with (first
      | (go_at_call 28; ((with_reducible refine (hck.out _ ?h1).mono ?_)); (case h1 => exact RE0_b.out); rintro e w1 ⟨rfl, hb1⟩; have hWE1 := Go.Lib.hid hWE0.out; have hW1 := Go.Lib.hid (hWE1.out.trans (hb1.mono hWE1.out.size)); have R1_b := Go.Lib.hid (RE0_b.out.below hb1 (Nat.le_refl _)); have BE1_b := Go.Lib.hid BE0_b.out; have B1_b := Go.Lib.hid (BE1_b.out.below hb1 BE1_b.out.lt); obtain ⟨k1b0, k1b1, k1b2, k1b3⟩ := B1_b.out.cells; have BE1_d := Go.Lib.hid BE0_d.out; have B1_d := Go.Lib.hid (BE1_d.out.below hb1 BE1_d.out.lt); obtain ⟨k1d0, k1d1, k1d2, k1d3, k1d4, k1d5, k1d6, k1d7⟩ := B1_d.out.cells; clear hb1)
      | (go_at_call 25; ((with_reducible refine (hcd.out _).mono ?_)); rintro e w2 ⟨rfl, hb2⟩; have hWE2 := Go.Lib.hid hW1.out; have hW2 := Go.Lib.hid (hWE2.out.trans (hb2.mono hWE2.out.size)); have R2_b := Go.Lib.hid (R1_b.out.below hb2 (Nat.le_refl _)); have BE2_b := Go.Lib.hid B1_b.out; have B2_b := Go.Lib.hid (BE2_b.out.below hb2 BE2_b.out.lt); obtain ⟨k2b0, k2b1, k2b2, k2b3⟩ := B2_b.out.cells; have BE2_d := Go.Lib.hid B1_d.out; have B2_d := Go.Lib.hid (BE2_d.out.below hb2 BE2_d.out.lt); obtain ⟨k2d0, k2d1, k2d2, k2d3, k2d4, k2d5, k2d6, k2d7⟩ := B2_d.out.cells; clear hb2)
      | (go_at_call 14; ((with_reducible refine (rd.out _ ?h1).mono ?_)); (case h1 => exact R2_b.out); rintro e w3 ⟨rfl, hb3⟩; have hWE3 := Go.Lib.hid hW2.out; have hW3 := Go.Lib.hid (hWE3.out.trans (hb3.mono hWE3.out.size)); have R3_b := Go.Lib.hid (R2_b.out.below hb3 (Nat.le_refl _)); have BE3_b := Go.Lib.hid B2_b.out; have B3_b := Go.Lib.hid (BE3_b.out.below hb3 BE3_b.out.lt); obtain ⟨k3b0, k3b1, k3b2, k3b3⟩ := B3_b.out.cells; have BE3_d := Go.Lib.hid B2_d.out; have B3_d := Go.Lib.hid (BE3_d.out.below hb3 BE3_d.out.lt); obtain ⟨k3d0, k3d1, k3d2, k3d3, k3d4, k3d5, k3d6, k3d7⟩ := B3_d.out.cells; have l3b := B3_b.out.lt; have n3b : W.heap.size ≠ w3.heap.size := (by omega); have l3d := B3_d.out.lt; have n3d : W.heap.size + 1 ≠ w3.heap.size := (by omega); clear hb3)
      | (go_at_call 17; refine (alive8_ok _).mono ?_; rintro e w4 ⟨rfl, hb4⟩; have hWE4 := Go.Lib.hid (hW3.out.alloc hW3.out.size (.cells #[.int .i64 0, .int .i64 0, .int .u64 0, .int .u64 0] 30)); have hW4 := Go.Lib.hid (hWE4.out.trans (hb4.mono hWE4.out.size)); clear hb4))
    go_ret
    exact ⟨rfl, hW4.out⟩
  · have d7 : (81 : Int) ≤ (N : Int) - (i : Int) := of_decide_eq_true d6
    go_enter Try.func7, Try.ntmps7
    go_wp2_with (first
      | (go_at_call 28; ((with_reducible refine (hck.out _ ?h1).mono ?_)); (case h1 => exact RE0_b.out); rintro e w1 ⟨rfl, hb1⟩; have hWE1 := Go.Lib.hid hWE0.out; have hW1 := Go.Lib.hid (hWE1.out.trans (hb1.mono hWE1.out.size)); have R1_b := Go.Lib.hid (RE0_b.out.below hb1 (Nat.le_refl _)); have BE1_b := Go.Lib.hid BE0_b.out; have B1_b := Go.Lib.hid (BE1_b.out.below hb1 BE1_b.out.lt); obtain ⟨k1b0, k1b1, k1b2, k1b3⟩ := B1_b.out.cells; have BE1_d := Go.Lib.hid BE0_d.out; have B1_d := Go.Lib.hid (BE1_d.out.below hb1 BE1_d.out.lt); obtain ⟨k1d0, k1d1, k1d2, k1d3, k1d4, k1d5, k1d6, k1d7⟩ := B1_d.out.cells; clear hb1)
      | (go_at_call 25; ((with_reducible refine (hcd.out _).mono ?_)); rintro e w2 ⟨rfl, hb2⟩; have hWE2 := Go.Lib.hid hW1.out; have hW2 := Go.Lib.hid (hWE2.out.trans (hb2.mono hWE2.out.size)); have R2_b := Go.Lib.hid (R1_b.out.below hb2 (Nat.le_refl _)); have BE2_b := Go.Lib.hid B1_b.out; have B2_b := Go.Lib.hid (BE2_b.out.below hb2 BE2_b.out.lt); obtain ⟨k2b0, k2b1, k2b2, k2b3⟩ := B2_b.out.cells; have BE2_d := Go.Lib.hid B1_d.out; have B2_d := Go.Lib.hid (BE2_d.out.below hb2 BE2_d.out.lt); obtain ⟨k2d0, k2d1, k2d2, k2d3, k2d4, k2d5, k2d6, k2d7⟩ := B2_d.out.cells; clear hb2)
      | (go_at_call 14; ((with_reducible refine (rd.out _ ?h1).mono ?_)); (case h1 => exact R2_b.out); rintro e w3 ⟨rfl, hb3⟩; have hWE3 := Go.Lib.hid hW2.out; have hW3 := Go.Lib.hid (hWE3.out.trans (hb3.mono hWE3.out.size)); have R3_b := Go.Lib.hid (R2_b.out.below hb3 (Nat.le_refl _)); have BE3_b := Go.Lib.hid B2_b.out; have B3_b := Go.Lib.hid (BE3_b.out.below hb3 BE3_b.out.lt); obtain ⟨k3b0, k3b1, k3b2, k3b3⟩ := B3_b.out.cells; have BE3_d := Go.Lib.hid B2_d.out; have B3_d := Go.Lib.hid (BE3_d.out.below hb3 BE3_d.out.lt); obtain ⟨k3d0, k3d1, k3d2, k3d3, k3d4, k3d5, k3d6, k3d7⟩ := B3_d.out.cells; have l3b := B3_b.out.lt; have n3b : W.heap.size ≠ w3.heap.size := (by omega); have l3d := B3_d.out.lt; have n3d : W.heap.size + 1 ≠ w3.heap.size := (by omega); clear hb3)
      | (go_at_call 17; refine (alive8_ok _).mono ?_; rintro e w4 ⟨rfl, hb4⟩; have hWE4 := Go.Lib.hid (hW3.out.alloc hW3.out.size (.cells #[.int .i64 0, .int .i64 0, .int .u64 0, .int .u64 0] 30)); have hW4 := Go.Lib.hid (hWE4.out.trans (hb4.mono hWE4.out.size)); clear hb4))
    go_ret
    exact ⟨rfl, hW4.out⟩

set_option maxRecDepth 100000 in
set_option maxHeartbeats 4000000 in
theorem dualOnce_yes (W : World) (aa : Option Addr) (len cap : Nat) (B : List Bool) (i v q : Nat) (D : Du) (hr : Row .u8 W aa len cap (pack B)) (hB : B.length ≤ 1500) (hi : i ≤ B.length) (hd : D.ok) (hv : readD B i D = (v, q, 0)) :
    Calls Try.prog 7 #[.agg #[.slice aa len cap, .int .i64 B.length], .int .i64 i, .agg #[.int .i64 D.k0, .int .i64 D.k1, .int .u64 D.s0, .int .u64 D.s1]] W fun e w' => e = .returned (.bool true) ∧ Below W.heap.size W w' := by
  have hWE0 := Go.Lib.hid ((below1 W (.cells #[.slice aa len cap, .int .i64 B.length] 24)).alloc (below1 W (.cells #[.slice aa len cap, .int .i64 B.length] 24)).size (.cells #[.int .i64 D.k0, .int .i64 D.k1, .int .u64 D.s0, .int .u64 D.s1] 30))
  have BE0_b := Go.Lib.hid ((box1 W (.slice aa len cap) B.length).alloc (.cells #[.int .i64 D.k0, .int .i64 D.k1, .int .u64 D.s0, .int .u64 D.s1] 30))
  have BE0_d := Go.Lib.hid (duat2 W (.cells #[.slice aa len cap, .int .i64 B.length] 24) (D.k0 : Int) (D.k1 : Int) (D.s0 : Int) (D.s1 : Int))
  have RE0_b := Go.Lib.hid (hr.below hWE0.out (Nat.le_refl _))
  obtain ⟨z0, z1, z2, z3⟩ := BE0_b.out.cells
  obtain ⟨N, hN⟩ : ∃ N, N = B.length := ⟨_, rfl⟩
  have hck : Hid (∀ w, Row .u8 w aa len cap (pack B) → Calls Try.prog 28 #[.agg #[.slice aa len cap, .int .i64 N]] w fun e W' => e = .returned (.int .i64 0) ∧ Below w.heap.size w W') := Go.Lib.hid fun w h => by
    rw [hN]
    exact RCheck_any w aa len cap B.length (pack B) h (bounds_of_len (by omega)) 0 (.inl ⟨⟨B, rfl, by omega, rfl⟩, rfl⟩)
  have hcd := Go.Lib.hid fun w => RdCheck_any w D.k0 D.k1 D.s0 D.s1 (du_wf hd).1 (du_wf hd).2.1 (du_wf hd).2.2.1 (du_wf hd).2.2.2 0 (.inl ⟨du_ok hd, rfl⟩)
  have d1 : decide ((1500 : Int) < N) = false := decide_eq_false (by omega)
  have d2 : decide ((i : Int) < 0) = false := decide_eq_false (by omega)
  have d3 : decide ((N : Int) < i) = false := decide_eq_false (by omega)
  have hN' : (N : Int) ≤ 1500 := by omega
  have hi' : (i : Int) ≤ N := by omega
  obtain ⟨hv32, hq, hqN, hrun⟩ := dual_is hv hi hd.1 hd.2.1
  obtain ⟨A, hA⟩ : ∃ A, A = dualLen D v := ⟨_, rfl⟩
  obtain ⟨mn, hmn⟩ : ∃ q, q = (A + 7) / 8 := ⟨_, rfl⟩
  obtain ⟨Y, hY⟩ : ∃ Y, Y = dualB D v := ⟨_, rfl⟩
  obtain ⟨X, hX⟩ : ∃ X, X = learnD D v := ⟨_, rfl⟩
  have rd : Hid (∀ w, Row .u8 w aa len cap (pack B) → ResR 14 #[.agg #[.slice aa len cap, .int .i64 N], .int .i64 i, .agg #[.int .i64 D.k0, .int .i64 D.k1, .int .u64 D.s0, .int .u64 D.s1]] w v q X.k0 X.k1 X.s0 X.s1 0) := Go.Lib.hid fun w h => by
    rw [hN, hX]
    exact DRead_ok w aa len cap B i D h (by omega) hi hd v q hv
  have kn : Hid (∀ w, Row .u8 w aa len cap (pack B) → Calls Try.prog 29 #[.agg #[.slice aa len cap, .int .i64 N], .int .i64 i, .int .i64 q] w fun e W' => ∃ b c, e = .returned (.tuple #[.agg #[.slice b mn c, .int .i64 A], .int .i64 0]) ∧ Row .u8 W' b mn c (pack Y) ∧ Below w.heap.size w W') := Go.Lib.hid fun w h => by
    have := BCut_ok w aa len cap B i q h (by omega) (by omega) hqN
    have e : midB B i q = Y := by rw [hY]; exact hrun
    rw [e, show Y.length = A by rw [hY, hA, dualB_len], ← hmn, show q - i = A by omega, ← hN] at this
    exact this
  have un := Go.Lib.hid fun w => DWrite_alone w D v hd hv32 A mn hA.symm hmn.symm (pack Y) (by rw [hY]) X hX.symm
  unfold ResR at rd
  unfold ResD at un
  have sm : Hid (∀ w a c a' c', Row .u8 w a mn c (pack Y) → Row .u8 w a' mn c' (pack Y) → Calls Try.prog 26 #[.agg #[.slice a mn c, .int .i64 A], .agg #[.slice a' mn c', .int .i64 A]] w fun e W' => e = .returned (.bool true) ∧ Below w.heap.size w W') := Go.Lib.hid fun w a c a' c' h h' => by
    have := RSame_ok w a mn c A (pack Y) h a' mn c' A (pack Y) h'
    simpa using this
  have q1 := sameD_self X.k0 X.k1 X.s0 X.s1
  have d6 : decide ((q : Int) < i) = false := decide_eq_false (by omega)
  have d7 : decide ((N : Int) < q) = false := decide_eq_false (by omega)
  have hq1 : (i : Int) ≤ q := by omega
  have hq2 : (q : Int) ≤ N := by omega
  rw [← hN] at hWE0 BE0_b BE0_d RE0_b z0 z1 z2 z3 ⊢
  clear hv hN hr hB hi hq hqN hrun hA hmn hX hY hd
  go_enter Try.func7, Try.ntmps7
  go_wp2_with (first
    | (go_at_call 28; ((with_reducible refine (hck.out _ ?h1).mono ?_)); (case h1 => exact RE0_b.out); rintro e w1 ⟨rfl, hb1⟩; have hWE1 := Go.Lib.hid hWE0.out; have hW1 := Go.Lib.hid (hWE1.out.trans (hb1.mono hWE1.out.size)); have R1_b := Go.Lib.hid (RE0_b.out.below hb1 (Nat.le_refl _)); have BE1_b := Go.Lib.hid BE0_b.out; have B1_b := Go.Lib.hid (BE1_b.out.below hb1 BE1_b.out.lt); obtain ⟨k1b0, k1b1, k1b2, k1b3⟩ := B1_b.out.cells; have BE1_d := Go.Lib.hid BE0_d.out; have B1_d := Go.Lib.hid (BE1_d.out.below hb1 BE1_d.out.lt); obtain ⟨k1d0, k1d1, k1d2, k1d3, k1d4, k1d5, k1d6, k1d7⟩ := B1_d.out.cells; clear hb1)
    | (go_at_call 25; ((with_reducible refine (hcd.out _).mono ?_)); rintro e w2 ⟨rfl, hb2⟩; have hWE2 := Go.Lib.hid hW1.out; have hW2 := Go.Lib.hid (hWE2.out.trans (hb2.mono hWE2.out.size)); have R2_b := Go.Lib.hid (R1_b.out.below hb2 (Nat.le_refl _)); have BE2_b := Go.Lib.hid B1_b.out; have B2_b := Go.Lib.hid (BE2_b.out.below hb2 BE2_b.out.lt); obtain ⟨k2b0, k2b1, k2b2, k2b3⟩ := B2_b.out.cells; have BE2_d := Go.Lib.hid B1_d.out; have B2_d := Go.Lib.hid (BE2_d.out.below hb2 BE2_d.out.lt); obtain ⟨k2d0, k2d1, k2d2, k2d3, k2d4, k2d5, k2d6, k2d7⟩ := B2_d.out.cells; clear hb2)
    | (go_at_call 14; ((with_reducible refine (rd.out _ ?h1).mono ?_)); (case h1 => exact R2_b.out); rintro e w3 ⟨rfl, hb3⟩; have hWE3 := Go.Lib.hid hW2.out; have hW3 := Go.Lib.hid (hWE3.out.trans (hb3.mono hWE3.out.size)); have R3_b := Go.Lib.hid (R2_b.out.below hb3 (Nat.le_refl _)); have BE3_b := Go.Lib.hid B2_b.out; have B3_b := Go.Lib.hid (BE3_b.out.below hb3 BE3_b.out.lt); obtain ⟨k3b0, k3b1, k3b2, k3b3⟩ := B3_b.out.cells; have BE3_d := Go.Lib.hid B2_d.out; have B3_d := Go.Lib.hid (BE3_d.out.below hb3 BE3_d.out.lt); obtain ⟨k3d0, k3d1, k3d2, k3d3, k3d4, k3d5, k3d6, k3d7⟩ := B3_d.out.cells; have l3b := B3_b.out.lt; have n3b : W.heap.size ≠ w3.heap.size := (by omega); have l3d := B3_d.out.lt; have n3d : W.heap.size + 1 ≠ w3.heap.size := (by omega); clear hb3)
    | (go_at_call 29; ((with_reducible refine (kn.out _ ?h1).mono ?_)); (case h1 => exact (R3_b.out.below (below1 w3 (.cells #[.int .i64 X.k0, .int .i64 X.k1, .int .u64 X.s0, .int .u64 X.s1] 30)) (Nat.le_refl _))); rintro e w4 ⟨b4, cp4, rfl, hr4, hb4⟩; have hWE4 := Go.Lib.hid (hW3.out.alloc hW3.out.size (.cells #[.int .i64 X.k0, .int .i64 X.k1, .int .u64 X.s0, .int .u64 X.s1] 30)); have hW4 := Go.Lib.hid (hWE4.out.trans (hb4.mono hWE4.out.size)); have R4_b := Go.Lib.hid ((R3_b.out.below (below1 w3 (.cells #[.int .i64 X.k0, .int .i64 X.k1, .int .u64 X.s0, .int .u64 X.s1] 30)) (Nat.le_refl _)).below hb4 (Nat.le_refl _)); have R4_p := Go.Lib.hid hr4; clear hr4; have BE4_b := Go.Lib.hid (B3_b.out.alloc (.cells #[.int .i64 X.k0, .int .i64 X.k1, .int .u64 X.s0, .int .u64 X.s1] 30)); have B4_b := Go.Lib.hid (BE4_b.out.below hb4 BE4_b.out.lt); obtain ⟨k4b0, k4b1, k4b2, k4b3⟩ := B4_b.out.cells; have BE4_d := Go.Lib.hid (B3_d.out.alloc (.cells #[.int .i64 X.k0, .int .i64 X.k1, .int .u64 X.s0, .int .u64 X.s1] 30)); have B4_d := Go.Lib.hid (BE4_d.out.below hb4 BE4_d.out.lt); obtain ⟨k4d0, k4d1, k4d2, k4d3, k4d4, k4d5, k4d6, k4d7⟩ := B4_d.out.cells; have BE4_x := Go.Lib.hid (duat1 w3 X.k0 X.k1 X.s0 X.s1); have B4_x := Go.Lib.hid (BE4_x.out.below hb4 BE4_x.out.lt); obtain ⟨k4x0, k4x1, k4x2, k4x3, k4x4, k4x5, k4x6, k4x7⟩ := B4_x.out.cells; have l4b := B4_b.out.lt; have n4b : W.heap.size ≠ w4.heap.size := (by omega); have l4d := B4_d.out.lt; have n4d : W.heap.size + 1 ≠ w4.heap.size := (by omega); have l4x := B4_x.out.lt; have n4x : w3.heap.size ≠ w4.heap.size := (by omega); clear hb4)
    | (go_at_call 13; ((with_reducible refine (un.out _).mono ?_)); rintro e w5 ⟨b5, cp5, rfl, hr5, hb5⟩; have hWE5 := Go.Lib.hid (hW4.out.alloc hW4.out.size (.cells #[(.slice b4 mn cp4), .int .i64 A] 24)); have hW5 := Go.Lib.hid (hWE5.out.trans (hb5.mono hWE5.out.size)); have R5_b := Go.Lib.hid ((R4_b.out.below (below1 w4 (.cells #[(.slice b4 mn cp4), .int .i64 A] 24)) (Nat.le_refl _)).below hb5 (Nat.le_refl _)); have R5_p := Go.Lib.hid ((R4_p.out.below (below1 w4 (.cells #[(.slice b4 mn cp4), .int .i64 A] 24)) (Nat.le_refl _)).below hb5 (Nat.le_refl _)); have R5_q := Go.Lib.hid hr5; clear hr5; have BE5_b := Go.Lib.hid (B4_b.out.alloc (.cells #[(.slice b4 mn cp4), .int .i64 A] 24)); have B5_b := Go.Lib.hid (BE5_b.out.below hb5 BE5_b.out.lt); obtain ⟨k5b0, k5b1, k5b2, k5b3⟩ := B5_b.out.cells; have BE5_d := Go.Lib.hid (B4_d.out.alloc (.cells #[(.slice b4 mn cp4), .int .i64 A] 24)); have B5_d := Go.Lib.hid (BE5_d.out.below hb5 BE5_d.out.lt); obtain ⟨k5d0, k5d1, k5d2, k5d3, k5d4, k5d5, k5d6, k5d7⟩ := B5_d.out.cells; have BE5_x := Go.Lib.hid (B4_x.out.alloc (.cells #[(.slice b4 mn cp4), .int .i64 A] 24)); have B5_x := Go.Lib.hid (BE5_x.out.below hb5 BE5_x.out.lt); obtain ⟨k5x0, k5x1, k5x2, k5x3, k5x4, k5x5, k5x6, k5x7⟩ := B5_x.out.cells; have BE5_p := Go.Lib.hid (box1 w4 (.slice b4 mn cp4) A); have B5_p := Go.Lib.hid (BE5_p.out.below hb5 BE5_p.out.lt); obtain ⟨k5p0, k5p1, k5p2, k5p3⟩ := B5_p.out.cells; have l5b := B5_b.out.lt; have n5b : W.heap.size ≠ w5.heap.size := (by omega); have o5b : W.heap.size ≠ w5.heap.size + 1 := (by omega); have l5d := B5_d.out.lt; have n5d : W.heap.size + 1 ≠ w5.heap.size := (by omega); have o5d : W.heap.size + 1 ≠ w5.heap.size + 1 := (by omega); have l5x := B5_x.out.lt; have n5x : w3.heap.size ≠ w5.heap.size := (by omega); have o5x : w3.heap.size ≠ w5.heap.size + 1 := (by omega); have l5p := B5_p.out.lt; have n5p : w4.heap.size ≠ w5.heap.size := (by omega); have o5p : w4.heap.size ≠ w5.heap.size + 1 := (by omega); clear hb5)
    | (go_at_call 26; ((with_reducible refine (sm.out _ _ _ _ _ ?h1 ?h2).mono ?_)); (case h1 => exact ((R5_p.out.below (below1 w5 (.cells #[(.slice b5 mn cp5), .int .i64 A] 24)) (Nat.le_refl _)).below (below1 (w5.alloc (.cells #[(.slice b5 mn cp5), .int .i64 A] 24)) (.cells #[.int .i64 X.k0, .int .i64 X.k1, .int .u64 X.s0, .int .u64 X.s1] 30)) (Nat.le_refl _))); (case h2 => exact ((R5_q.out.below (below1 w5 (.cells #[(.slice b5 mn cp5), .int .i64 A] 24)) (Nat.le_refl _)).below (below1 (w5.alloc (.cells #[(.slice b5 mn cp5), .int .i64 A] 24)) (.cells #[.int .i64 X.k0, .int .i64 X.k1, .int .u64 X.s0, .int .u64 X.s1] 30)) (Nat.le_refl _))); rintro e w6 ⟨rfl, hb6⟩; have hWE6 := Go.Lib.hid ((hW5.out.alloc hW5.out.size (.cells #[(.slice b5 mn cp5), .int .i64 A] 24)).alloc (hW5.out.alloc hW5.out.size (.cells #[(.slice b5 mn cp5), .int .i64 A] 24)).size (.cells #[.int .i64 X.k0, .int .i64 X.k1, .int .u64 X.s0, .int .u64 X.s1] 30)); have hW6 := Go.Lib.hid (hWE6.out.trans (hb6.mono hWE6.out.size)); have R6_b := Go.Lib.hid (((R5_b.out.below (below1 w5 (.cells #[(.slice b5 mn cp5), .int .i64 A] 24)) (Nat.le_refl _)).below (below1 (w5.alloc (.cells #[(.slice b5 mn cp5), .int .i64 A] 24)) (.cells #[.int .i64 X.k0, .int .i64 X.k1, .int .u64 X.s0, .int .u64 X.s1] 30)) (Nat.le_refl _)).below hb6 (Nat.le_refl _)); have R6_p := Go.Lib.hid (((R5_p.out.below (below1 w5 (.cells #[(.slice b5 mn cp5), .int .i64 A] 24)) (Nat.le_refl _)).below (below1 (w5.alloc (.cells #[(.slice b5 mn cp5), .int .i64 A] 24)) (.cells #[.int .i64 X.k0, .int .i64 X.k1, .int .u64 X.s0, .int .u64 X.s1] 30)) (Nat.le_refl _)).below hb6 (Nat.le_refl _)); have R6_q := Go.Lib.hid (((R5_q.out.below (below1 w5 (.cells #[(.slice b5 mn cp5), .int .i64 A] 24)) (Nat.le_refl _)).below (below1 (w5.alloc (.cells #[(.slice b5 mn cp5), .int .i64 A] 24)) (.cells #[.int .i64 X.k0, .int .i64 X.k1, .int .u64 X.s0, .int .u64 X.s1] 30)) (Nat.le_refl _)).below hb6 (Nat.le_refl _)); have BE6_b := Go.Lib.hid ((B5_b.out.alloc (.cells #[(.slice b5 mn cp5), .int .i64 A] 24)).alloc (.cells #[.int .i64 X.k0, .int .i64 X.k1, .int .u64 X.s0, .int .u64 X.s1] 30)); have B6_b := Go.Lib.hid (BE6_b.out.below hb6 BE6_b.out.lt); obtain ⟨k6b0, k6b1, k6b2, k6b3⟩ := B6_b.out.cells; have BE6_d := Go.Lib.hid ((B5_d.out.alloc (.cells #[(.slice b5 mn cp5), .int .i64 A] 24)).alloc (.cells #[.int .i64 X.k0, .int .i64 X.k1, .int .u64 X.s0, .int .u64 X.s1] 30)); have B6_d := Go.Lib.hid (BE6_d.out.below hb6 BE6_d.out.lt); obtain ⟨k6d0, k6d1, k6d2, k6d3, k6d4, k6d5, k6d6, k6d7⟩ := B6_d.out.cells; have BE6_x := Go.Lib.hid ((B5_x.out.alloc (.cells #[(.slice b5 mn cp5), .int .i64 A] 24)).alloc (.cells #[.int .i64 X.k0, .int .i64 X.k1, .int .u64 X.s0, .int .u64 X.s1] 30)); have B6_x := Go.Lib.hid (BE6_x.out.below hb6 BE6_x.out.lt); obtain ⟨k6x0, k6x1, k6x2, k6x3, k6x4, k6x5, k6x6, k6x7⟩ := B6_x.out.cells; have BE6_p := Go.Lib.hid ((B5_p.out.alloc (.cells #[(.slice b5 mn cp5), .int .i64 A] 24)).alloc (.cells #[.int .i64 X.k0, .int .i64 X.k1, .int .u64 X.s0, .int .u64 X.s1] 30)); have B6_p := Go.Lib.hid (BE6_p.out.below hb6 BE6_p.out.lt); obtain ⟨k6p0, k6p1, k6p2, k6p3⟩ := B6_p.out.cells; have BE6_q := Go.Lib.hid ((box1 w5 (.slice b5 mn cp5) A).alloc (.cells #[.int .i64 X.k0, .int .i64 X.k1, .int .u64 X.s0, .int .u64 X.s1] 30)); have B6_q := Go.Lib.hid (BE6_q.out.below hb6 BE6_q.out.lt); obtain ⟨k6q0, k6q1, k6q2, k6q3⟩ := B6_q.out.cells; have BE6_y := Go.Lib.hid (duat2 w5 (.cells #[(.slice b5 mn cp5), .int .i64 A] 24) X.k0 X.k1 X.s0 X.s1); have B6_y := Go.Lib.hid (BE6_y.out.below hb6 BE6_y.out.lt); obtain ⟨k6y0, k6y1, k6y2, k6y3, k6y4, k6y5, k6y6, k6y7⟩ := B6_y.out.cells; clear hb6)
    | (go_at_call 17; refine (alive8_ok _).mono ?_; rintro e w7 ⟨rfl, hb7⟩; have hWE7 := Go.Lib.hid hW6.out; have hW7 := Go.Lib.hid (hWE7.out.trans (hb7.mono hWE7.out.size)); clear hb7))
  go_ret
  exact ⟨rfl, hW7.out⟩

theorem dualOnce_walk (ax0_0 : Option Addr) (lenx0_0 capx0_0 : Nat) (zx0_0 : List Int) (x0_1 : Int) (x1 : Int) (x2_0 : Int) (x2_1 : Int) (x2_2 : Int) (x2_3 : Int) (W : World) (wx0_0 : IsRow .u8 W ax0_0 lenx0_0 capx0_0 zx0_0) (wx0_1 : (Lit.int .i64 x0_1).wf = true) (wx1 : (Lit.int .i64 x1).wf = true) (wx2_0 : (Lit.int .i64 x2_0).wf = true) (wx2_1 : (Lit.int .i64 x2_1).wf = true) (wx2_2 : (Lit.int .u64 x2_2).wf = true) (wx2_3 : (Lit.int .u64 x2_3).wf = true) :
    Calls Try.prog 7 #[.agg #[.slice ax0_0 lenx0_0 capx0_0, .int .i64 x0_1], .int .i64 x1, .agg #[.int .i64 x2_0, .int .i64 x2_1, .int .u64 x2_2, .int .u64 x2_3]] W fun e w' => e = .returned (.bool true) ∧ Below W.heap.size W w' := by
  have hr := Row.of_isRow wx0_0
  have hkk : ∃ r, chk (zx0_0.take lenx0_0) x0_1 r := by
    by_cases hv : Valid (zx0_0.take lenx0_0) x0_1
    · exact ⟨0, .inl ⟨hv, rfl⟩⟩
    · exact ⟨8, .inr ⟨hv, rfl⟩⟩
  obtain ⟨r, hk⟩ := hkk
  have hss : ∃ s, chkD x2_0 x2_1 x2_2 x2_3 s := by
    by_cases h : DuOk x2_0 x2_1 x2_2 x2_3
    · exact ⟨0, .inl ⟨h, rfl⟩⟩
    · exact ⟨8, .inr ⟨h, rfl⟩⟩
  obtain ⟨s, hs⟩ := hss
  by_cases h : r = 8 ∨ (r = 0 ∧ (1500 < x0_1 ∨ x1 < 0 ∨ x0_1 < x1 ∨ s = 8))
  · exact dualOnce_out W _ _ _ _ _ _ _ _ _ _ hr wx0_1 r s hk hs wx2_0 wx2_1 wx2_2 wx2_3 h
  · rcases hk with ⟨⟨B, hB1, hB2, hB3⟩, rfl⟩ | ⟨_, rfl⟩
    · rcases hs with ⟨hd0, rfl⟩ | ⟨_, rfl⟩
      · obtain ⟨D, hD, rfl, rfl, rfl, rfl⟩ := du_of hd0 wx2_2 wx2_3
        obtain ⟨n, rfl⟩ : ∃ n : Nat, x1 = n := ⟨x1.toNat, by omega⟩
        rw [hB3] at hr
        rw [← hB1] at h ⊢
        obtain ⟨p, q, er, hv⟩ : ∃ p q er, readD B n D = (p, q, er) := ⟨_, _, _, rfl⟩
        by_cases he : er = 0
        · subst he
          exact dualOnce_yes W _ _ _ B n p q D hr (by omega) (by omega) hD hv
        · obtain ⟨rfl, rfl, h3⟩ := dual_no hv he hD.1 hD.2.1
          exact dualOnce_no W _ _ _ B n er D hr (by omega) (by omega) hD hv h3
      · omega
    · omega
end Go.Proofs.Ytenkhnlhoeahkaa
