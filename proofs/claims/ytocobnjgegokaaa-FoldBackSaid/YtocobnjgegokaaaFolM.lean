/- FoldLists: lists are the reference's. -/
import Derived.Test.YtocobnjgegokaaaFolL
namespace Go.Proofs.Ytocobnjgegokaaa
open Go.RowKit Cad

theorem FSame_yes (w : World) (a : Option Addr) (n c : Nat) (a' : Option Addr) (n' c' : Nat) (l : List Int) (h : Row .u32 w a n c l) (h' : Row .u32 w a' n' c' l) :
    Calls Try.prog 19 #[.slice a n c, .slice a' n' c'] w fun e W' => e = .returned (.bool true) ∧ Below w.heap.size w W' :=
  (FSame_ok w a n c l h a' n' c' l h').mono fun e W' ⟨h1, h2⟩ => ⟨by rw [h1]; simp, h2⟩
theorem FSameS_yes (w : World) (a : Option Addr) (n c : Nat) (a' : Option Addr) (n' c' : Nat) (l : List Int) (h : Row .i32 w a n c l) (h' : Row .i32 w a' n' c' l) :
    Calls Try.prog 11 #[.slice a n c, .slice a' n' c'] w fun e W' => e = .returned (.bool true) ∧ Below w.heap.size w W' :=
  (FSameS_ok w a n c l h a' n' c' l h').mono fun e W' ⟨h1, h2⟩ => ⟨by rw [h1]; simp, h2⟩

set_option maxHeartbeats 1000000 in
theorem foldLists_in (W : World) (a0 : Option Addr) (n0 c0 : Nat) (l : List Int) (hr : Row .i32 W a0 n0 c0 l) (a1 : Option Addr) (n1 c1 : Nat) (m : List Int) (hs : Row .u32 W a1 n1 c1 m)
    (x y : List Int) (e f : Int)
    (f1 : Hid (∀ w a c, Row .i32 w a n0 c l → Calls Try.prog 9 #[.slice a n0 c] w fun r W' => ∃ a' n' c', r = .returned (.tuple #[.slice a' n' c', .int .i64 e]) ∧ Row .u32 W' a' n' c' x ∧ Below w.heap.size w W'))
    (f2 : Hid (∀ w, Row .i32 w a0 n0 c0 l → Calls Try.prog 17 #[.slice a0 n0 c0] w fun r W' => ∃ a' n' c', r = .returned (.tuple #[.slice a' n' c', .int .i64 e]) ∧ Row .u32 W' a' n' c' x ∧ Below w.heap.size w W'))
    (f3 : Hid (∀ w a c, Row .u32 w a n1 c m → Calls Try.prog 10 #[.slice a n1 c] w fun r W' => ∃ a' n' c', r = .returned (.tuple #[.slice a' n' c', .int .i64 f]) ∧ Row .i32 W' a' n' c' y ∧ Below w.heap.size w W'))
    (f4 : Hid (∀ w, Row .u32 w a1 n1 c1 m → Calls Try.prog 18 #[.slice a1 n1 c1] w fun r W' => ∃ a' n' c', r = .returned (.tuple #[.slice a' n' c', .int .i64 f]) ∧ Row .i32 W' a' n' c' y ∧ Below w.heap.size w W'))
    (g0 : ((500 : Int) < n0 ∧ ¬ ((n0 : Int) ≤ 4000) ∧ ¬ (4100 : Int) < n0) ∨ (¬ (500 : Int) < n0 ∧ ¬ (4100 : Int) < n0))
    (g1 : ((500 : Int) < n1 ∧ ¬ ((n1 : Int) ≤ 4000) ∧ ¬ (4100 : Int) < n1) ∨ (¬ (500 : Int) < n1 ∧ ¬ (4100 : Int) < n1)) :
    Calls Try.prog 5 #[.slice a0 n0 c0, .slice a1 n1 c1] W fun e w' => e = .returned (.bool true) ∧ Below W.heap.size W w' := by
  have s1 : Hid (∀ (w : World) a n c a' n' c' (l : List Int), Row .u32 w a n c l → Row .u32 w a' n' c' l → Calls Try.prog 19 #[.slice a n c, .slice a' n' c'] w fun e W' => e = .returned (.bool true) ∧ Below w.heap.size w W') := Go.Lib.hid FSame_yes
  have s2 : Hid (∀ (w : World) a n c a' n' c' (l : List Int), Row .i32 w a n c l → Row .i32 w a' n' c' l → Calls Try.prog 11 #[.slice a n c, .slice a' n' c'] w fun e W' => e = .returned (.bool true) ∧ Below w.heap.size w W') := Go.Lib.hid FSameS_yes
  have hWE0 := Go.Lib.hid (Below.refl W.heap.size W)
  have RE0_a := Go.Lib.hid hr
  have RE0_b := Go.Lib.hid hs
  have wfd := Go.Lib.hid hr.wf
  have wfe := Go.Lib.hid hs.wf
  clear hr hs
  rcases g0 with ⟨g0, g0', g0''⟩ | ⟨g0, g0'⟩ <;> rcases g1 with ⟨g1, g1', g1''⟩ | ⟨g1, g1'⟩
  all_goals
    go_enter Try.func5, Try.ntmps5
    go_wp2_with (first
      | (at_builtin; refine law_appendRow elI32 _ rfl _ _ rfl W.heap.size _ 0 [] rfl (own_empty W 21 .i32) a0 n0 c0 l rfl (RE0_a.out.below (below1 W (.cells #[] 21)) (Nat.le_refl _)) (by omega) (by simp) ?_; intro v1 w1 hown1 hbx1; simp only [Nat.zero_add, List.nil_append] at hown1; obtain ⟨o1, p1, rfl⟩ := own_form hown1; have hb1 := (below1 W (.cells #[] 21)).trans hbx1; clear hbx1; have hW1 := Go.Lib.hid (hWE0.out.trans (hb1.mono hWE0.out.size)); have R1_a := Go.Lib.hid (RE0_a.out.below hb1 (Nat.le_refl _)); have R1_b := Go.Lib.hid (RE0_b.out.below hb1 (Nat.le_refl _)); have R1_d := Go.Lib.hid (Row.of_own hown1 wfd.out); have O1_d := Go.Lib.hid (own_base hown1 hWE0.out.size); clear hown1 hb1)
      | (at_builtin; refine law_appendRow elU32 _ rfl _ _ rfl w1.heap.size _ 0 [] rfl (own_empty w1 29 .u32) a1 n1 c1 m rfl (R1_b.out.below (below1 w1 (.cells #[] 29)) (Nat.le_refl _)) (by omega) (by simp) ?_; intro v2 w2 hown2 hbx2; simp only [Nat.zero_add, List.nil_append] at hown2; obtain ⟨o2, p2, rfl⟩ := own_form hown2; have hb2 := (below1 w1 (.cells #[] 29)).trans hbx2; clear hbx2; have hW2 := Go.Lib.hid (hW1.out.trans (hb2.mono hW1.out.size)); have R2_a := Go.Lib.hid (R1_a.out.below hb2 (Nat.le_refl _)); have R2_b := Go.Lib.hid (R1_b.out.below hb2 (Nat.le_refl _)); have R2_d := Go.Lib.hid (R1_d.out.below hb2 (Nat.le_refl _)); have R2_e := Go.Lib.hid (Row.of_own hown2 wfe.out); have O2_e := Go.Lib.hid (own_base hown2 hW1.out.size); clear hown2 hb2)
      | (go_at_call 9; ((with_reducible refine (f1.out _ _ _ ?h1).mono ?_)); (case h1 => exact R2_d.out); rintro e w3 ⟨ax, nx, cx, rfl, hr3, hb3⟩; have hWE3 := Go.Lib.hid hW2.out; have hW3 := Go.Lib.hid (hWE3.out.trans (hb3.mono hWE3.out.size)); have R3_a := Go.Lib.hid (R2_a.out.below hb3 (Nat.le_refl _)); have R3_b := Go.Lib.hid (R2_b.out.below hb3 (Nat.le_refl _)); have R3_d := Go.Lib.hid (R2_d.out.below hb3 (Nat.le_refl _)); have R3_e := Go.Lib.hid (R2_e.out.below hb3 (Nat.le_refl _)); have R3_x := Go.Lib.hid hr3; clear hr3; clear hb3)
      | (go_at_call 17; ((with_reducible refine (f2.out _ ?h1).mono ?_)); (case h1 => exact R3_a.out); rintro e w4 ⟨ay, ny, cy, rfl, hr4, hb4⟩; have hWE4 := Go.Lib.hid hW3.out; have hW4 := Go.Lib.hid (hWE4.out.trans (hb4.mono hWE4.out.size)); have R4_a := Go.Lib.hid (R3_a.out.below hb4 (Nat.le_refl _)); have R4_b := Go.Lib.hid (R3_b.out.below hb4 (Nat.le_refl _)); have R4_d := Go.Lib.hid (R3_d.out.below hb4 (Nat.le_refl _)); have R4_e := Go.Lib.hid (R3_e.out.below hb4 (Nat.le_refl _)); have R4_x := Go.Lib.hid (R3_x.out.below hb4 (Nat.le_refl _)); have R4_y := Go.Lib.hid hr4; clear hr4; clear hb4)
      | (go_at_call 10; ((with_reducible refine (f3.out _ _ _ ?h1).mono ?_)); (case h1 => exact R4_e.out); rintro e w5 ⟨ap, np, cp, rfl, hr5, hb5⟩; have hWE5 := Go.Lib.hid hW4.out; have hW5 := Go.Lib.hid (hWE5.out.trans (hb5.mono hWE5.out.size)); have R5_a := Go.Lib.hid (R4_a.out.below hb5 (Nat.le_refl _)); have R5_b := Go.Lib.hid (R4_b.out.below hb5 (Nat.le_refl _)); have R5_d := Go.Lib.hid (R4_d.out.below hb5 (Nat.le_refl _)); have R5_e := Go.Lib.hid (R4_e.out.below hb5 (Nat.le_refl _)); have R5_x := Go.Lib.hid (R4_x.out.below hb5 (Nat.le_refl _)); have R5_y := Go.Lib.hid (R4_y.out.below hb5 (Nat.le_refl _)); have R5_p := Go.Lib.hid hr5; clear hr5; clear hb5)
      | (go_at_call 18; ((with_reducible refine (f4.out _ ?h1).mono ?_)); (case h1 => exact R5_b.out); rintro e w6 ⟨aq, nq, cq, rfl, hr6, hb6⟩; have hWE6 := Go.Lib.hid hW5.out; have hW6 := Go.Lib.hid (hWE6.out.trans (hb6.mono hWE6.out.size)); have R6_a := Go.Lib.hid (R5_a.out.below hb6 (Nat.le_refl _)); have R6_b := Go.Lib.hid (R5_b.out.below hb6 (Nat.le_refl _)); have R6_d := Go.Lib.hid (R5_d.out.below hb6 (Nat.le_refl _)); have R6_e := Go.Lib.hid (R5_e.out.below hb6 (Nat.le_refl _)); have R6_x := Go.Lib.hid (R5_x.out.below hb6 (Nat.le_refl _)); have R6_y := Go.Lib.hid (R5_y.out.below hb6 (Nat.le_refl _)); have R6_p := Go.Lib.hid (R5_p.out.below hb6 (Nat.le_refl _)); have R6_q := Go.Lib.hid hr6; clear hr6; clear hb6)
      | (go_at_call 19; ((with_reducible refine (s1.out _ _ _ _ _ _ _ x ?h1 ?h2).mono ?_)); (case h1 => exact R6_x.out); (case h2 => exact R6_y.out); rintro e w7 ⟨rfl, hb7⟩; have hWE7 := Go.Lib.hid hW6.out; have hW7 := Go.Lib.hid (hWE7.out.trans (hb7.mono hWE7.out.size)); have R7_a := Go.Lib.hid (R6_a.out.below hb7 (Nat.le_refl _)); have R7_b := Go.Lib.hid (R6_b.out.below hb7 (Nat.le_refl _)); have R7_d := Go.Lib.hid (R6_d.out.below hb7 (Nat.le_refl _)); have R7_e := Go.Lib.hid (R6_e.out.below hb7 (Nat.le_refl _)); have R7_x := Go.Lib.hid (R6_x.out.below hb7 (Nat.le_refl _)); have R7_y := Go.Lib.hid (R6_y.out.below hb7 (Nat.le_refl _)); have R7_p := Go.Lib.hid (R6_p.out.below hb7 (Nat.le_refl _)); have R7_q := Go.Lib.hid (R6_q.out.below hb7 (Nat.le_refl _)); clear hb7)
      | (go_at_call 11; ((with_reducible refine (s2.out _ _ _ _ _ _ _ y ?h1 ?h2).mono ?_)); (case h1 => exact R7_p.out); (case h2 => exact R7_q.out); rintro e w8 ⟨rfl, hb8⟩; have hWE8 := Go.Lib.hid hW7.out; have hW8 := Go.Lib.hid (hWE8.out.trans (hb8.mono hWE8.out.size)); have R8_a := Go.Lib.hid (R7_a.out.below hb8 (Nat.le_refl _)); have R8_b := Go.Lib.hid (R7_b.out.below hb8 (Nat.le_refl _)); have R8_d := Go.Lib.hid (R7_d.out.below hb8 (Nat.le_refl _)); have R8_e := Go.Lib.hid (R7_e.out.below hb8 (Nat.le_refl _)); have R8_x := Go.Lib.hid (R7_x.out.below hb8 (Nat.le_refl _)); have R8_y := Go.Lib.hid (R7_y.out.below hb8 (Nat.le_refl _)); have R8_p := Go.Lib.hid (R7_p.out.below hb8 (Nat.le_refl _)); have R8_q := Go.Lib.hid (R7_q.out.below hb8 (Nat.le_refl _)); clear hb8)
      | (go_at_call 11; ((with_reducible refine (s2.out _ _ _ _ _ _ _ l ?h1 ?h2).mono ?_)); (case h1 => exact R8_d.out); (case h2 => exact R8_a.out); rintro e w9 ⟨rfl, hb9⟩; have hWE9 := Go.Lib.hid hW8.out; have hW9 := Go.Lib.hid (hWE9.out.trans (hb9.mono hWE9.out.size)); have R9_a := Go.Lib.hid (R8_a.out.below hb9 (Nat.le_refl _)); have R9_b := Go.Lib.hid (R8_b.out.below hb9 (Nat.le_refl _)); have R9_d := Go.Lib.hid (R8_d.out.below hb9 (Nat.le_refl _)); have R9_e := Go.Lib.hid (R8_e.out.below hb9 (Nat.le_refl _)); have R9_x := Go.Lib.hid (R8_x.out.below hb9 (Nat.le_refl _)); have R9_y := Go.Lib.hid (R8_y.out.below hb9 (Nat.le_refl _)); have R9_p := Go.Lib.hid (R8_p.out.below hb9 (Nat.le_refl _)); have R9_q := Go.Lib.hid (R8_q.out.below hb9 (Nat.le_refl _)); clear hb9)
      | (go_at_call 19; ((with_reducible refine (s1.out _ _ _ _ _ _ _ m ?h1 ?h2).mono ?_)); (case h1 => exact R9_e.out); (case h2 => exact R9_b.out); rintro e w10 ⟨rfl, hb10⟩; have hWE10 := Go.Lib.hid hW9.out; have hW10 := Go.Lib.hid (hWE10.out.trans (hb10.mono hWE10.out.size)); have R10_a := Go.Lib.hid (R9_a.out.below hb10 (Nat.le_refl _)); have R10_b := Go.Lib.hid (R9_b.out.below hb10 (Nat.le_refl _)); have R10_d := Go.Lib.hid (R9_d.out.below hb10 (Nat.le_refl _)); have R10_e := Go.Lib.hid (R9_e.out.below hb10 (Nat.le_refl _)); have R10_x := Go.Lib.hid (R9_x.out.below hb10 (Nat.le_refl _)); have R10_y := Go.Lib.hid (R9_y.out.below hb10 (Nat.le_refl _)); have R10_p := Go.Lib.hid (R9_p.out.below hb10 (Nat.le_refl _)); have R10_q := Go.Lib.hid (R9_q.out.below hb10 (Nat.le_refl _)); clear hb10))
    go_ret
    exact ⟨rfl, hW10.out⟩

theorem foldLists_out (W : World) (a0 : Option Addr) (n0 c0 : Nat) (a1 : Option Addr) (n1 c1 : Nat) (m0 : n0 ≤ 9223372036854775807) (m1 : n1 ≤ 9223372036854775807)
    (h : ¬ (((500 : Int) < n0 ∧ ¬ ((n0 : Int) ≤ 4000) ∧ ¬ (4100 : Int) < n0) ∨ (¬ (500 : Int) < n0 ∧ ¬ (4100 : Int) < n0)) ∨ ¬ (((500 : Int) < n1 ∧ ¬ ((n1 : Int) ≤ 4000) ∧ ¬ (4100 : Int) < n1) ∨ (¬ (500 : Int) < n1 ∧ ¬ (4100 : Int) < n1))) :
    Calls Try.prog 5 #[.slice a0 n0 c0, .slice a1 n1 c1] W fun e w' => e = .returned (.bool true) ∧ Below W.heap.size W w' := by
  have key : ((500 : Int) < n0 ∧ (n0 : Int) ≤ 4000) ∨ ((500 : Int) < n0 ∧ ¬ ((n0 : Int) ≤ 4000) ∧ (4100 : Int) < n0)
      ∨ ((500 : Int) < n0 ∧ ¬ ((n0 : Int) ≤ 4000) ∧ ¬ (4100 : Int) < n0 ∧ (500 : Int) < n1 ∧ (n1 : Int) ≤ 4000) ∨ ((500 : Int) < n0 ∧ ¬ ((n0 : Int) ≤ 4000) ∧ ¬ (4100 : Int) < n0 ∧ (500 : Int) < n1 ∧ ¬ ((n1 : Int) ≤ 4000) ∧ (4100 : Int) < n1)
      ∨ (¬ (500 : Int) < n0 ∧ ¬ (4100 : Int) < n0 ∧ (500 : Int) < n1 ∧ (n1 : Int) ≤ 4000) ∨ (¬ (500 : Int) < n0 ∧ ¬ (4100 : Int) < n0 ∧ (500 : Int) < n1 ∧ ¬ ((n1 : Int) ≤ 4000) ∧ (4100 : Int) < n1) := by omega
  clear h
  rcases key with ⟨h1, h2⟩ | ⟨h1, h2, h3⟩ | ⟨h1, h2, h3, h4, h5⟩ | ⟨h1, h2, h3, h4, h5, h6⟩ | ⟨h1, h2, h3, h4⟩ | ⟨h1, h2, h3, h4, h5⟩
  all_goals
    go_enter Try.func5, Try.ntmps5
    go_wp2
    go_ret
    exact ⟨rfl, Below.refl _ _⟩

theorem foldLists_walk (a0 : Option Addr) (len0 cap0 : Nat) (z0 : List Int) (a1 : Option Addr) (len1 cap1 : Nat) (z1 : List Int) (W : World) (w0 : IsRow .i32 W a0 len0 cap0 z0) (w1 : IsRow .u32 W a1 len1 cap1 z1) :
    Calls Try.prog 5 #[.slice a0 len0 cap0, .slice a1 len1 cap1] W fun e w' => e = .returned (.bool true) ∧ Below W.heap.size W w' := by
  have hr := Row.of_isRow w0
  have hs := Row.of_isRow w1
  have m0 := Nat.le_trans hr.hcap hr.hmax
  have m1 := Nat.le_trans hs.hcap hs.hmax
  unfold maxLen at m0 m1
  by_cases h : ¬ (((500 : Int) < len0 ∧ ¬ ((len0 : Int) ≤ 4000) ∧ ¬ (4100 : Int) < len0) ∨ (¬ (500 : Int) < len0 ∧ ¬ (4100 : Int) < len0)) ∨ ¬ (((500 : Int) < len1 ∧ ¬ ((len1 : Int) ≤ 4000) ∧ ¬ (4100 : Int) < len1) ∨ (¬ (500 : Int) < len1 ∧ ¬ (4100 : Int) < len1))
  · exact foldLists_out W _ _ _ _ _ _ (by omega) (by omega) h
  · exact foldLists_in W _ _ _ _ hr _ _ _ _ hs _ _ _ _ (Go.Lib.hid fun w a c h => FAll_any w a _ c _ h) (Go.Lib.hid fun w h => FRAll_any w _ _ _ _ h) (Go.Lib.hid fun w a c h => FUndo_any w a _ c _ h) (Go.Lib.hid fun w h => FRUndo_any w _ _ _ _ h) (by omega) (by omega)
end Go.Proofs.Ytocobnjgegokaaa
