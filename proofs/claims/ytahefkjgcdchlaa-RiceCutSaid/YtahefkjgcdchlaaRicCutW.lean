/- RiceCut: a code that is cut off is too short, and what is behind it does not matter. -/
import Derived.Test.YtahefkjgcdchlaaRicL
namespace Go.Proofs.Ytahefkjgcdchlaa
open Go.RowKit Cad

set_option maxRecDepth 100000 in
theorem riceCut_out (W : World) (v : Nat) (n left : Int) (a : Option Addr) (len cap : Nat) (l : List Int) (N : Int) (hr : Row .u8 W a len cap l) (hN : (Lit.int .i64 N).wf = true) (wn : (Lit.int .i64 n).wf = true) (r : Int) (hk : chk l N r)
    (h : n < 0 ∨ 24 < n ∨ r = 8 ∨ (r = 0 ∧ 500 < N)) :
    Calls Try.prog 8 #[.int .u32 v, .int .i64 n, .int .i64 left, .agg #[.slice a len cap, .int .i64 N]] W fun e w' => e = .returned (.bool true) ∧ Below W.heap.size W w' := by
  have bn := bounds_i64 wn
  have hWE0 := Go.Lib.hid (below1 W (.cells #[.slice a len cap, .int .i64 N] 28))
  have BE0_d := Go.Lib.hid (box1 W (.slice a len cap) N)
  have RE0_d := Go.Lib.hid (hr.below hWE0.out (Nat.le_refl _))
  have hck : Hid (∀ w, Row .u8 w a len cap l → Calls Try.prog 21 #[.agg #[.slice a len cap, .int .i64 N]] w fun e W' => e = .returned (.int .i64 r) ∧ Below w.heap.size w W') := Go.Lib.hid fun w h => RCheck_any w a len cap N l h hN r hk
  have key : n < 0 ∨ (¬ n < 0 ∧ 24 < n) ∨ (¬ n < 0 ∧ ¬ 24 < n ∧ r = 8) ∨ (¬ n < 0 ∧ ¬ 24 < n ∧ r = 0 ∧ 500 < N) := by omega
  clear h wn hr hN hk
  rcases key with h | ⟨h1, h2⟩ | ⟨h1, h2, rfl⟩ | ⟨h1, h2, rfl, h4⟩
  · go_enter Try.func8, Try.ntmps8
    go_wp2_with (go_at_call 14; refine (alive7_ok _).mono ?_; rintro e w1 ⟨rfl, hb1⟩)
    go_ret
    exact ⟨rfl, hWE0.out.trans (hb1.mono hWE0.out.size)⟩
  · go_enter Try.func8, Try.ntmps8
    go_wp2_with (go_at_call 14; refine (alive7_ok _).mono ?_; rintro e w1 ⟨rfl, hb1⟩)
    go_ret
    exact ⟨rfl, hWE0.out.trans (hb1.mono hWE0.out.size)⟩
  · have d1 : decide (n < 0) = false := decide_eq_false h1
    have d2 : decide ((24 : Int) < n) = false := decide_eq_false h2
    go_enter Try.func8, Try.ntmps8
    go_wp2_with (first
      | (go_at_call 21; ((with_reducible refine (hck.out _ ?h1).mono ?_)); (case h1 => exact RE0_d.out); rintro e w1 ⟨rfl, hb1⟩; have hWE1 := Go.Lib.hid hWE0.out; have hW1 := Go.Lib.hid (hWE1.out.trans (hb1.mono hWE1.out.size)); have R1_d := Go.Lib.hid (RE0_d.out.below hb1 (Nat.le_refl _)); have BE1_d := Go.Lib.hid BE0_d.out; have B1_d := Go.Lib.hid (BE1_d.out.below hb1 BE1_d.out.lt); obtain ⟨k1d0, k1d1, k1d2, k1d3⟩ := B1_d.out.cells; clear hb1)
      | (go_at_call 14; refine (alive7_ok _).mono ?_; rintro e w2 ⟨rfl, hb2⟩; have hWE2 := Go.Lib.hid hW1.out; have hW2 := Go.Lib.hid (hWE2.out.trans (hb2.mono hWE2.out.size)); clear hb2))
    go_ret
    exact ⟨rfl, hW2.out⟩
  · have d1 : decide (n < 0) = false := decide_eq_false h1
    have d2 : decide ((24 : Int) < n) = false := decide_eq_false h2
    go_enter Try.func8, Try.ntmps8
    go_wp2_with (first
      | (go_at_call 21; ((with_reducible refine (hck.out _ ?h1).mono ?_)); (case h1 => exact RE0_d.out); rintro e w1 ⟨rfl, hb1⟩; have hWE1 := Go.Lib.hid hWE0.out; have hW1 := Go.Lib.hid (hWE1.out.trans (hb1.mono hWE1.out.size)); have R1_d := Go.Lib.hid (RE0_d.out.below hb1 (Nat.le_refl _)); have BE1_d := Go.Lib.hid BE0_d.out; have B1_d := Go.Lib.hid (BE1_d.out.below hb1 BE1_d.out.lt); obtain ⟨k1d0, k1d1, k1d2, k1d3⟩ := B1_d.out.cells; clear hb1)
      | (go_at_call 14; refine (alive7_ok _).mono ?_; rintro e w2 ⟨rfl, hb2⟩; have hWE2 := Go.Lib.hid hW1.out; have hW2 := Go.Lib.hid (hWE2.out.trans (hb2.mono hWE2.out.size)); clear hb2))
    go_ret
    exact ⟨rfl, hW2.out⟩

set_option maxRecDepth 100000 in
set_option maxHeartbeats 4000000 in
theorem riceCut_in (W : World) (v n : Nat) (left : Int) (a : Option Addr) (len cap : Nat) (D : List Bool) (hr : Row .u8 W a len cap (pack D)) (hD : D.length ≤ 500) (hv : v < 4294967296) (hn : n ≤ 24) (wl : (Lit.int .i64 left).wf = true) :
    Calls Try.prog 8 #[.int .u32 v, .int .i64 n, .int .i64 left, .agg #[.slice a len cap, .int .i64 D.length]] W fun e w' => e = .returned (.bool true) ∧ Below W.heap.size W w' := by
  have bl := bounds_i64 wl
  have hWE0 := Go.Lib.hid (below1 W (.cells #[.slice a len cap, .int .i64 D.length] 28))
  have BE0_d := Go.Lib.hid (box1 W (.slice a len cap) D.length)
  have RE0_d := Go.Lib.hid (hr.below hWE0.out (Nat.le_refl _))
  obtain ⟨N, hN⟩ : ∃ N, N = D.length := ⟨_, rfl⟩
  obtain ⟨A, hA⟩ : ∃ A, A = riceLen v n := ⟨_, rfl⟩
  obtain ⟨X, hX⟩ : ∃ X, X = riceB v n := ⟨_, rfl⟩
  have lX : X.length = A := by rw [hX, hA, riceB_len]
  obtain ⟨mn, hmn⟩ : ∃ q, q = (A + 7) / 8 := ⟨_, rfl⟩
  obtain ⟨Y, hY⟩ : ∃ Y, Y = X ++ D := ⟨_, rfl⟩
  obtain ⟨my, hmy⟩ : ∃ q, q = (Y.length + 7) / 8 := ⟨_, rfl⟩
  obtain ⟨M, hM⟩ : ∃ q, q = A + N := ⟨_, rfl⟩
  have lY : Y.length = M := by rw [hY, List.length_append, lX, hM, hN]
  have hA48 := riceLen_le v hn
  have hA1 := riceLen_pos v n
  rw [← hA] at hA48 hA1
  have hck : Hid (∀ w, Row .u8 w a len cap (pack D) → Calls Try.prog 21 #[.agg #[.slice a len cap, .int .i64 N]] w fun e W' => e = .returned (.int .i64 0) ∧ Below w.heap.size w W') := Go.Lib.hid fun w h => by
    rw [hN]
    exact RCheck_any w a len cap D.length (pack D) h (bounds_of_len (by omega)) 0 (.inl ⟨⟨D, rfl, by omega, rfl⟩, rfl⟩)
  have un := Go.Lib.hid fun w => PWrite_alone w v n hv hn A mn v n A rfl rfl rfl hA.symm hmn.symm (pack X) (by rw [hX])
  have jn : Hid (∀ w b c, Row .u8 w b mn c (pack X) → Row .u8 w a len cap (pack D) → Calls Try.prog 23 #[.agg #[.slice b mn c, .int .i64 A], .agg #[.slice a len cap, .int .i64 N]] w fun e W' => ∃ b c, e = .returned (.tuple #[.agg #[.slice b my c, .int .i64 M], .int .i64 0]) ∧ Row .u8 W' b my c (pack Y) ∧ Below w.heap.size w W') := Go.Lib.hid fun w b c h h' => by
    have := BJoin_ok w b mn c X h a len cap D h' (by omega)
    rw [← hY, ← hmy, lX, ← hN, ← hM] at this
    exact this
  have rd : Hid (∀ w b c, Row .u8 w b my c (pack Y) → Calls Try.prog 11 #[.agg #[.slice b my c, .int .i64 M], .int .i64 0, .int .i64 n] w fun e W' => e = .returned (.tuple #[.int .u32 v, .int .i64 A, .int .i64 0]) ∧ Below w.heap.size w W') := Go.Lib.hid fun w b c h => by
    have e := read_rice [] D hv (k := n)
    rw [List.nil_append, ← hX, ← hY, List.length_nil, Nat.zero_add, ← hA] at e
    have := PRead_in w b my c Y 0 n h (by omega) (Nat.zero_le _) hn _ _ _ e
    rw [lY] at this
    exact this
  have hn' : (n : Int) ≤ 24 := by omega
  have hN' : (N : Int) ≤ 500 := by omega
  have d1 : decide ((n : Int) < 0) = false := decide_eq_false (by omega)
  have d2 : decide ((24 : Int) < n) = false := decide_eq_false (by omega)
  have d3 : decide ((500 : Int) < N) = false := decide_eq_false (by omega)
  rw [← hN] at hWE0 BE0_d RE0_d ⊢
  by_cases hin : 0 ≤ left ∧ left < A
  · obtain ⟨k, rfl⟩ : ∃ k : Nat, left = k := ⟨left.toNat, by omega⟩
    obtain ⟨P, hP⟩ : ∃ P, P = midB X 0 k := ⟨_, rfl⟩
    obtain ⟨mp, hmp⟩ : ∃ q, q = (P.length + 7) / 8 := ⟨_, rfl⟩
    have lP : P.length = k := by rw [hP, midB_len _ (Nat.zero_le _) (by omega)]; omega
    have kn : Hid (∀ w a c, Row .u8 w a mn c (pack X) → Calls Try.prog 22 #[.agg #[.slice a mn c, .int .i64 A], .int .i64 0, .int .i64 k] w fun e W' => ∃ b c, e = .returned (.tuple #[.agg #[.slice b mp c, .int .i64 k], .int .i64 0]) ∧ Row .u8 W' b mp c (pack P) ∧ Below w.heap.size w W') := Go.Lib.hid fun w a c h => by
      have := BCut_ok w a mn c X 0 k h (by omega) (Nat.zero_le _) (by omega)
      rw [← hP, ← hmp, lX] at this
      exact this
    have rp : Hid (∀ w b c, Row .u8 w b mp c (pack P) → Calls Try.prog 11 #[.agg #[.slice b mp c, .int .i64 k], .int .i64 0, .int .i64 n] w fun e W' => e = .returned (.tuple #[.int .u32 0, .int .i64 0, .int .i64 24]) ∧ Below w.heap.size w W') := Go.Lib.hid fun w b c h => by
      have e := rice_cut hv hn (j := k) (by omega)
      have e2 : P = (riceB v n).take k := by rw [hP, hX]; unfold midB; rw [List.drop_zero, Nat.sub_zero]
      rw [← e2] at e
      have := PRead_in w b mp c P 0 n h (by omega) (Nat.zero_le _) hn _ _ _ e
      rw [lP] at this
      exact this
    have hk : (k : Int) < A := hin.2
    have d4 : decide ((k : Int) < 0) = false := decide_eq_false (by omega)
    have d5 : decide ((A : Int) ≤ k) = false := decide_eq_false (by omega)
    clear hin hA hX lX hmn hY hmy hM lY hN hP hmp lP hr hD hn hA48 hA1 wl bl
    go_enter Try.func8, Try.ntmps8
    go_wp2_with (first
      | (go_at_call 21; ((with_reducible refine (hck.out _ ?h1).mono ?_)); (case h1 => exact RE0_d.out); rintro e w1 ⟨rfl, hb1⟩; have hWE1 := Go.Lib.hid hWE0.out; have hW1 := Go.Lib.hid (hWE1.out.trans (hb1.mono hWE1.out.size)); have R1_d := Go.Lib.hid (RE0_d.out.below hb1 (Nat.le_refl _)); have BE1_d := Go.Lib.hid BE0_d.out; have B1_d := Go.Lib.hid (BE1_d.out.below hb1 BE1_d.out.lt); obtain ⟨k1d0, k1d1, k1d2, k1d3⟩ := B1_d.out.cells; clear hb1)
      | (go_at_call 10; ((with_reducible refine (un.out _).mono ?_)); rintro e w2 ⟨b2, cp2, rfl, hr2, hb2⟩; have hWE2 := Go.Lib.hid hW1.out; have hW2 := Go.Lib.hid (hWE2.out.trans (hb2.mono hWE2.out.size)); have R2_d := Go.Lib.hid (R1_d.out.below hb2 (Nat.le_refl _)); have R2_x := Go.Lib.hid hr2; clear hr2; have BE2_d := Go.Lib.hid B1_d.out; have B2_d := Go.Lib.hid (BE2_d.out.below hb2 BE2_d.out.lt); obtain ⟨k2d0, k2d1, k2d2, k2d3⟩ := B2_d.out.cells; have l2d := B2_d.out.lt; have n2d : W.heap.size ≠ w2.heap.size := (by omega); clear hb2)
      | (go_at_call 23; ((with_reducible refine (jn.out _ _ _ ?h1 ?h2).mono ?_)); (case h1 => exact (R2_x.out.below (below1 w2 (.cells #[(.slice b2 mn cp2), .int .i64 A] 28)) (Nat.le_refl _))); (case h2 => exact (R2_d.out.below (below1 w2 (.cells #[(.slice b2 mn cp2), .int .i64 A] 28)) (Nat.le_refl _))); rintro e w3 ⟨b3, cp3, rfl, hr3, hb3⟩; have hWE3 := Go.Lib.hid (hW2.out.alloc hW2.out.size (.cells #[(.slice b2 mn cp2), .int .i64 A] 28)); have hW3 := Go.Lib.hid (hWE3.out.trans (hb3.mono hWE3.out.size)); have R3_d := Go.Lib.hid ((R2_d.out.below (below1 w2 (.cells #[(.slice b2 mn cp2), .int .i64 A] 28)) (Nat.le_refl _)).below hb3 (Nat.le_refl _)); have R3_x := Go.Lib.hid ((R2_x.out.below (below1 w2 (.cells #[(.slice b2 mn cp2), .int .i64 A] 28)) (Nat.le_refl _)).below hb3 (Nat.le_refl _)); have R3_y := Go.Lib.hid hr3; clear hr3; have BE3_d := Go.Lib.hid (B2_d.out.alloc (.cells #[(.slice b2 mn cp2), .int .i64 A] 28)); have B3_d := Go.Lib.hid (BE3_d.out.below hb3 BE3_d.out.lt); obtain ⟨k3d0, k3d1, k3d2, k3d3⟩ := B3_d.out.cells; have BE3_x := Go.Lib.hid (box1 w2 (.slice b2 mn cp2) A); have B3_x := Go.Lib.hid (BE3_x.out.below hb3 BE3_x.out.lt); obtain ⟨k3x0, k3x1, k3x2, k3x3⟩ := B3_x.out.cells; have l3d := B3_d.out.lt; have n3d : W.heap.size ≠ w3.heap.size := (by omega); have l3x := B3_x.out.lt; have n3x : w2.heap.size ≠ w3.heap.size := (by omega); clear hb3)
      | (go_at_call 11; ((with_reducible refine (rd.out _ _ _ ?h1).mono ?_)); (case h1 => exact (R3_y.out.below (below1 w3 (.cells #[(.slice b3 my cp3), .int .i64 M] 28)) (Nat.le_refl _))); rintro e w4 ⟨rfl, hb4⟩; have hWE4 := Go.Lib.hid (hW3.out.alloc hW3.out.size (.cells #[(.slice b3 my cp3), .int .i64 M] 28)); have hW4 := Go.Lib.hid (hWE4.out.trans (hb4.mono hWE4.out.size)); have R4_d := Go.Lib.hid ((R3_d.out.below (below1 w3 (.cells #[(.slice b3 my cp3), .int .i64 M] 28)) (Nat.le_refl _)).below hb4 (Nat.le_refl _)); have R4_x := Go.Lib.hid ((R3_x.out.below (below1 w3 (.cells #[(.slice b3 my cp3), .int .i64 M] 28)) (Nat.le_refl _)).below hb4 (Nat.le_refl _)); have R4_y := Go.Lib.hid ((R3_y.out.below (below1 w3 (.cells #[(.slice b3 my cp3), .int .i64 M] 28)) (Nat.le_refl _)).below hb4 (Nat.le_refl _)); have BE4_d := Go.Lib.hid (B3_d.out.alloc (.cells #[(.slice b3 my cp3), .int .i64 M] 28)); have B4_d := Go.Lib.hid (BE4_d.out.below hb4 BE4_d.out.lt); obtain ⟨k4d0, k4d1, k4d2, k4d3⟩ := B4_d.out.cells; have BE4_x := Go.Lib.hid (B3_x.out.alloc (.cells #[(.slice b3 my cp3), .int .i64 M] 28)); have B4_x := Go.Lib.hid (BE4_x.out.below hb4 BE4_x.out.lt); obtain ⟨k4x0, k4x1, k4x2, k4x3⟩ := B4_x.out.cells; have BE4_y := Go.Lib.hid (box1 w3 (.slice b3 my cp3) M); have B4_y := Go.Lib.hid (BE4_y.out.below hb4 BE4_y.out.lt); obtain ⟨k4y0, k4y1, k4y2, k4y3⟩ := B4_y.out.cells; clear hb4)
      | (go_at_call 22; ((with_reducible refine (kn.out _ _ _ ?h1).mono ?_)); (case h1 => exact R4_x.out); rintro e w5 ⟨b5, cp5, rfl, hr5, hb5⟩; have hWE5 := Go.Lib.hid hW4.out; have hW5 := Go.Lib.hid (hWE5.out.trans (hb5.mono hWE5.out.size)); have R5_d := Go.Lib.hid (R4_d.out.below hb5 (Nat.le_refl _)); have R5_x := Go.Lib.hid (R4_x.out.below hb5 (Nat.le_refl _)); have R5_y := Go.Lib.hid (R4_y.out.below hb5 (Nat.le_refl _)); have R5_p := Go.Lib.hid hr5; clear hr5; have BE5_d := Go.Lib.hid B4_d.out; have B5_d := Go.Lib.hid (BE5_d.out.below hb5 BE5_d.out.lt); obtain ⟨k5d0, k5d1, k5d2, k5d3⟩ := B5_d.out.cells; have BE5_x := Go.Lib.hid B4_x.out; have B5_x := Go.Lib.hid (BE5_x.out.below hb5 BE5_x.out.lt); obtain ⟨k5x0, k5x1, k5x2, k5x3⟩ := B5_x.out.cells; have BE5_y := Go.Lib.hid B4_y.out; have B5_y := Go.Lib.hid (BE5_y.out.below hb5 BE5_y.out.lt); obtain ⟨k5y0, k5y1, k5y2, k5y3⟩ := B5_y.out.cells; have l5d := B5_d.out.lt; have n5d : W.heap.size ≠ w5.heap.size := (by omega); have l5x := B5_x.out.lt; have n5x : w2.heap.size ≠ w5.heap.size := (by omega); have l5y := B5_y.out.lt; have n5y : w3.heap.size ≠ w5.heap.size := (by omega); clear hb5)
      | (go_at_call 11; ((with_reducible refine (rp.out _ _ _ ?h1).mono ?_)); (case h1 => exact (R5_p.out.below (below1 w5 (.cells #[(.slice b5 mp cp5), .int .i64 k] 28)) (Nat.le_refl _))); rintro e w6 ⟨rfl, hb6⟩; have hWE6 := Go.Lib.hid (hW5.out.alloc hW5.out.size (.cells #[(.slice b5 mp cp5), .int .i64 k] 28)); have hW6 := Go.Lib.hid (hWE6.out.trans (hb6.mono hWE6.out.size)); have R6_d := Go.Lib.hid ((R5_d.out.below (below1 w5 (.cells #[(.slice b5 mp cp5), .int .i64 k] 28)) (Nat.le_refl _)).below hb6 (Nat.le_refl _)); have R6_x := Go.Lib.hid ((R5_x.out.below (below1 w5 (.cells #[(.slice b5 mp cp5), .int .i64 k] 28)) (Nat.le_refl _)).below hb6 (Nat.le_refl _)); have R6_y := Go.Lib.hid ((R5_y.out.below (below1 w5 (.cells #[(.slice b5 mp cp5), .int .i64 k] 28)) (Nat.le_refl _)).below hb6 (Nat.le_refl _)); have R6_p := Go.Lib.hid ((R5_p.out.below (below1 w5 (.cells #[(.slice b5 mp cp5), .int .i64 k] 28)) (Nat.le_refl _)).below hb6 (Nat.le_refl _)); have BE6_d := Go.Lib.hid (B5_d.out.alloc (.cells #[(.slice b5 mp cp5), .int .i64 k] 28)); have B6_d := Go.Lib.hid (BE6_d.out.below hb6 BE6_d.out.lt); obtain ⟨k6d0, k6d1, k6d2, k6d3⟩ := B6_d.out.cells; have BE6_x := Go.Lib.hid (B5_x.out.alloc (.cells #[(.slice b5 mp cp5), .int .i64 k] 28)); have B6_x := Go.Lib.hid (BE6_x.out.below hb6 BE6_x.out.lt); obtain ⟨k6x0, k6x1, k6x2, k6x3⟩ := B6_x.out.cells; have BE6_y := Go.Lib.hid (B5_y.out.alloc (.cells #[(.slice b5 mp cp5), .int .i64 k] 28)); have B6_y := Go.Lib.hid (BE6_y.out.below hb6 BE6_y.out.lt); obtain ⟨k6y0, k6y1, k6y2, k6y3⟩ := B6_y.out.cells; have BE6_p := Go.Lib.hid (box1 w5 (.slice b5 mp cp5) k); have B6_p := Go.Lib.hid (BE6_p.out.below hb6 BE6_p.out.lt); obtain ⟨k6p0, k6p1, k6p2, k6p3⟩ := B6_p.out.cells; clear hb6)
      | (go_at_call 14; refine (alive7_ok _).mono ?_; rintro e w7 ⟨rfl, hb7⟩; have hWE7 := Go.Lib.hid hW6.out; have hW7 := Go.Lib.hid (hWE7.out.trans (hb7.mono hWE7.out.size)); clear hb7))
    go_ret
    exact ⟨rfl, hW7.out⟩
  · have key : left < 0 ∨ (¬ left < 0 ∧ (A : Int) ≤ left) := by omega
    clear hin hA hX lX hmn hY hmy hM lY hN hr hD hn hA48 hA1 wl
    rcases key with h | ⟨h, h'⟩
    all_goals
      go_enter Try.func8, Try.ntmps8
      go_wp2_with (first
        | (go_at_call 21; ((with_reducible refine (hck.out _ ?h1).mono ?_)); (case h1 => exact RE0_d.out); rintro e w1 ⟨rfl, hb1⟩; have hWE1 := Go.Lib.hid hWE0.out; have hW1 := Go.Lib.hid (hWE1.out.trans (hb1.mono hWE1.out.size)); have R1_d := Go.Lib.hid (RE0_d.out.below hb1 (Nat.le_refl _)); have BE1_d := Go.Lib.hid BE0_d.out; have B1_d := Go.Lib.hid (BE1_d.out.below hb1 BE1_d.out.lt); obtain ⟨k1d0, k1d1, k1d2, k1d3⟩ := B1_d.out.cells; clear hb1)
        | (go_at_call 10; ((with_reducible refine (un.out _).mono ?_)); rintro e w2 ⟨b2, cp2, rfl, hr2, hb2⟩; have hWE2 := Go.Lib.hid hW1.out; have hW2 := Go.Lib.hid (hWE2.out.trans (hb2.mono hWE2.out.size)); have R2_d := Go.Lib.hid (R1_d.out.below hb2 (Nat.le_refl _)); have R2_x := Go.Lib.hid hr2; clear hr2; have BE2_d := Go.Lib.hid B1_d.out; have B2_d := Go.Lib.hid (BE2_d.out.below hb2 BE2_d.out.lt); obtain ⟨k2d0, k2d1, k2d2, k2d3⟩ := B2_d.out.cells; have l2d := B2_d.out.lt; have n2d : W.heap.size ≠ w2.heap.size := (by omega); clear hb2)
        | (go_at_call 23; ((with_reducible refine (jn.out _ _ _ ?h1 ?h2).mono ?_)); (case h1 => exact (R2_x.out.below (below1 w2 (.cells #[(.slice b2 mn cp2), .int .i64 A] 28)) (Nat.le_refl _))); (case h2 => exact (R2_d.out.below (below1 w2 (.cells #[(.slice b2 mn cp2), .int .i64 A] 28)) (Nat.le_refl _))); rintro e w3 ⟨b3, cp3, rfl, hr3, hb3⟩; have hWE3 := Go.Lib.hid (hW2.out.alloc hW2.out.size (.cells #[(.slice b2 mn cp2), .int .i64 A] 28)); have hW3 := Go.Lib.hid (hWE3.out.trans (hb3.mono hWE3.out.size)); have R3_d := Go.Lib.hid ((R2_d.out.below (below1 w2 (.cells #[(.slice b2 mn cp2), .int .i64 A] 28)) (Nat.le_refl _)).below hb3 (Nat.le_refl _)); have R3_x := Go.Lib.hid ((R2_x.out.below (below1 w2 (.cells #[(.slice b2 mn cp2), .int .i64 A] 28)) (Nat.le_refl _)).below hb3 (Nat.le_refl _)); have R3_y := Go.Lib.hid hr3; clear hr3; have BE3_d := Go.Lib.hid (B2_d.out.alloc (.cells #[(.slice b2 mn cp2), .int .i64 A] 28)); have B3_d := Go.Lib.hid (BE3_d.out.below hb3 BE3_d.out.lt); obtain ⟨k3d0, k3d1, k3d2, k3d3⟩ := B3_d.out.cells; have BE3_x := Go.Lib.hid (box1 w2 (.slice b2 mn cp2) A); have B3_x := Go.Lib.hid (BE3_x.out.below hb3 BE3_x.out.lt); obtain ⟨k3x0, k3x1, k3x2, k3x3⟩ := B3_x.out.cells; have l3d := B3_d.out.lt; have n3d : W.heap.size ≠ w3.heap.size := (by omega); have l3x := B3_x.out.lt; have n3x : w2.heap.size ≠ w3.heap.size := (by omega); clear hb3)
        | (go_at_call 11; ((with_reducible refine (rd.out _ _ _ ?h1).mono ?_)); (case h1 => exact (R3_y.out.below (below1 w3 (.cells #[(.slice b3 my cp3), .int .i64 M] 28)) (Nat.le_refl _))); rintro e w4 ⟨rfl, hb4⟩; have hWE4 := Go.Lib.hid (hW3.out.alloc hW3.out.size (.cells #[(.slice b3 my cp3), .int .i64 M] 28)); have hW4 := Go.Lib.hid (hWE4.out.trans (hb4.mono hWE4.out.size)); have R4_d := Go.Lib.hid ((R3_d.out.below (below1 w3 (.cells #[(.slice b3 my cp3), .int .i64 M] 28)) (Nat.le_refl _)).below hb4 (Nat.le_refl _)); have R4_x := Go.Lib.hid ((R3_x.out.below (below1 w3 (.cells #[(.slice b3 my cp3), .int .i64 M] 28)) (Nat.le_refl _)).below hb4 (Nat.le_refl _)); have R4_y := Go.Lib.hid ((R3_y.out.below (below1 w3 (.cells #[(.slice b3 my cp3), .int .i64 M] 28)) (Nat.le_refl _)).below hb4 (Nat.le_refl _)); have BE4_d := Go.Lib.hid (B3_d.out.alloc (.cells #[(.slice b3 my cp3), .int .i64 M] 28)); have B4_d := Go.Lib.hid (BE4_d.out.below hb4 BE4_d.out.lt); obtain ⟨k4d0, k4d1, k4d2, k4d3⟩ := B4_d.out.cells; have BE4_x := Go.Lib.hid (B3_x.out.alloc (.cells #[(.slice b3 my cp3), .int .i64 M] 28)); have B4_x := Go.Lib.hid (BE4_x.out.below hb4 BE4_x.out.lt); obtain ⟨k4x0, k4x1, k4x2, k4x3⟩ := B4_x.out.cells; have BE4_y := Go.Lib.hid (box1 w3 (.slice b3 my cp3) M); have B4_y := Go.Lib.hid (BE4_y.out.below hb4 BE4_y.out.lt); obtain ⟨k4y0, k4y1, k4y2, k4y3⟩ := B4_y.out.cells; clear hb4)
        | (go_at_call 14; refine (alive7_ok _).mono ?_; rintro e w5 ⟨rfl, hb5⟩; have hWE5 := Go.Lib.hid hW4.out; have hW5 := Go.Lib.hid (hWE5.out.trans (hb5.mono hWE5.out.size)); clear hb5))
      go_ret
      exact ⟨rfl, hW5.out⟩

theorem riceCut_walk (x0 : Int) (x1 : Int) (x2 : Int) (ax3_0 : Option Addr) (lenx3_0 capx3_0 : Nat) (zx3_0 : List Int) (x3_1 : Int) (W : World) (wx0 : (Lit.int .u32 x0).wf = true) (wx1 : (Lit.int .i64 x1).wf = true) (wx2 : (Lit.int .i64 x2).wf = true) (wx3_0 : IsRow .u8 W ax3_0 lenx3_0 capx3_0 zx3_0) (wx3_1 : (Lit.int .i64 x3_1).wf = true) :
    Calls Try.prog 8 #[.int .u32 x0, .int .i64 x1, .int .i64 x2, .agg #[.slice ax3_0 lenx3_0 capx3_0, .int .i64 x3_1]] W fun e w' => e = .returned (.bool true) ∧ Below W.heap.size W w' := by
  have hr := Row.of_isRow wx3_0
  have hkk : ∃ r, chk (zx3_0.take lenx3_0) x3_1 r := by
    by_cases hv : Valid (zx3_0.take lenx3_0) x3_1
    · exact ⟨0, .inl ⟨hv, rfl⟩⟩
    · exact ⟨8, .inr ⟨hv, rfl⟩⟩
  obtain ⟨r, hk⟩ := hkk
  obtain ⟨v, rfl, hv⟩ := nat_u32 wx0
  by_cases h : x1 < 0 ∨ 24 < x1 ∨ r = 8 ∨ (r = 0 ∧ 500 < x3_1)
  · exact riceCut_out W v _ _ _ _ _ _ _ hr wx3_1 wx1 r hk h
  · rcases hk with ⟨⟨B, hB1, hB2, hB3⟩, rfl⟩ | ⟨_, rfl⟩
    · obtain ⟨n, rfl⟩ : ∃ n : Nat, x1 = n := ⟨x1.toNat, by omega⟩
      rw [hB3] at hr
      rw [← hB1] at h ⊢
      exact riceCut_in W v n _ _ _ _ B hr (by omega) hv (by omega) wx2
    · omega
end Go.Proofs.Ytahefkjgcdchlaa
