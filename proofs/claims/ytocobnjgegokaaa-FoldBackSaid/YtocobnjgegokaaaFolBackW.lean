/- FoldBack: it is a bijection, of numbers and of lists. -/
import Derived.Test.YtocobnjgegokaaaFolM
namespace Go.Proofs.Ytocobnjgegokaaa
open Go.RowKit Cad

theorem foldBack_out (W : World) (a0 : Option Addr) (n0 c0 : Nat) (a1 : Option Addr) (n1 c1 : Nat) (m0 : n0 ≤ 9223372036854775807) (m1 : n1 ≤ 9223372036854775807) (h : 500 < n0 ∨ 500 < n1) :
    Calls Try.prog 6 #[.slice a0 n0 c0, .slice a1 n1 c1] W fun e w' => e = .returned (.bool true) ∧ Below W.heap.size W w' := by
  have key : (500 : Int) < n0 ∨ (¬ (500 : Int) < n0 ∧ (500 : Int) < n1) := by omega
  clear h
  rcases key with h | ⟨h, h'⟩
  all_goals
    go_enter Try.func6, Try.ntmps6
    go_wp2_with (go_at_call 12; refine (alive5_ok _).mono ?_; rintro e w1 ⟨rfl, hb1⟩)
    go_ret
    exact ⟨rfl, hb1⟩

set_option maxHeartbeats 1000000 in
theorem foldBack_in (W : World) (a0 : Option Addr) (n0 c0 : Nat) (l : List Int) (hr : Row .i32 W a0 n0 c0 l) (a1 : Option Addr) (n1 c1 : Nat) (m : List Int) (hs : Row .u32 W a1 n1 c1 m) (h0 : n0 ≤ 500) (h1 : n1 ≤ 500)
    (X Y : List Int)
    (f1 : Hid (∀ w, Row .i32 w a0 n0 c0 l → Calls Try.prog 9 #[.slice a0 n0 c0] w fun r W' => ∃ a' n' c', r = .returned (.tuple #[.slice a' n' c', .int .i64 0]) ∧ Row .u32 W' a' n' c' X ∧ Below w.heap.size w W'))
    (f2 : Hid (∀ w a n c, Row .u32 w a n c X → Calls Try.prog 10 #[.slice a n c] w fun r W' => ∃ a' n' c', r = .returned (.tuple #[.slice a' n' c', .int .i64 0]) ∧ Row .i32 W' a' n' c' l ∧ Below w.heap.size w W'))
    (f3 : Hid (∀ w, Row .u32 w a1 n1 c1 m → Calls Try.prog 10 #[.slice a1 n1 c1] w fun r W' => ∃ a' n' c', r = .returned (.tuple #[.slice a' n' c', .int .i64 0]) ∧ Row .i32 W' a' n' c' Y ∧ Below w.heap.size w W'))
    (f4 : Hid (∀ w a n c, Row .i32 w a n c Y → Calls Try.prog 9 #[.slice a n c] w fun r W' => ∃ a' n' c', r = .returned (.tuple #[.slice a' n' c', .int .i64 0]) ∧ Row .u32 W' a' n' c' m ∧ Below w.heap.size w W')) :
    Calls Try.prog 6 #[.slice a0 n0 c0, .slice a1 n1 c1] W fun e w' => e = .returned (.bool true) ∧ Below W.heap.size W w' := by
  have s1 : Hid (∀ (w : World) a n c a' n' c' (l : List Int), Row .u32 w a n c l → Row .u32 w a' n' c' l → Calls Try.prog 19 #[.slice a n c, .slice a' n' c'] w fun e W' => e = .returned (.bool true) ∧ Below w.heap.size w W') := Go.Lib.hid FSame_yes
  have s2 : Hid (∀ (w : World) a n c a' n' c' (l : List Int), Row .i32 w a n c l → Row .i32 w a' n' c' l → Calls Try.prog 11 #[.slice a n c, .slice a' n' c'] w fun e W' => e = .returned (.bool true) ∧ Below w.heap.size w W') := Go.Lib.hid FSameS_yes
  have hal := Go.Lib.hid alive5_ok
  have hlt1 : ¬ (500 : Int) < n0 := by omega
  have hlt2 : ¬ (500 : Int) < n1 := by omega
  have hln := Go.Lib.hid hr.hlen
  have hlm := Go.Lib.hid hs.hlen
  have hr' := Go.Lib.hid hr
  have hs' := Go.Lib.hid hs
  clear hr hs
  go_enter Try.func6, Try.ntmps6
  go_wp2
  go_loopw [5] (fun i wr => ∃ k : Nat, k ≤ n0 ∧ i = .int .i64 k ∧ Below W.heap.size W wr) (fun i _ => n0 - (intOf i).toNat)
  case atStart => exact ⟨0, by omega, rfl, Below.refl _ _⟩
  case round =>
    obtain ⟨k, hk, rfl, hb⟩ := hrel
    by_cases hlt : k < n0
    · obtain ⟨b, off, rfl, hbl, hc⟩ := (hr'.out.below hb (Nat.le_refl _)).cells (by omega)
      have hcell := hc k hlt
      have hx := i32_bd (hr'.out.wf _ (getD_mem (show k < l.length by rw [hln.out]; exact hlt)))
      obtain ⟨x, hxx⟩ : ∃ x, x = l.getD k 0 := ⟨_, rfl⟩
      rw [← hxx] at hx hcell
      have k0 := Go.Lib.hid fun w => FFold_ok x w hx
      have k1 := Go.Lib.hid fun w => FBack_ok (zig x) w (zig_bd hx)
      rw [zag_zig] at k1
      obtain ⟨z, hzz⟩ : ∃ z, z = zig x := ⟨_, rfl⟩
      rw [← hzz] at k0 k1
      clear hzz hxx hc hx
      go_wp2
      go_quiet (first | (go_at_call 13; refine (k0.out _).mono ?_; rintro e w1 ⟨rfl, rfl⟩; exact ⟨rfl, _, rfl⟩) | (go_at_call 15; refine (k1.out _).mono ?_; rintro e w1 ⟨rfl, rfl⟩; exact ⟨rfl, _, rfl⟩))
      go_wp2
      go_roundw
      case rel => exact ⟨k + 1, by omega, by go_num, Below.drewN hb _⟩
      case measure => (simp [intOf] <;> omega)
    · have hbA := Go.Lib.hid hb
      clear hb
      go_wp2
      go_loopw [6] (fun i wr => ∃ k : Nat, k ≤ n1 ∧ i = .int .i64 k ∧ Below W.heap.size W wr) (fun i _ => n1 - (intOf i).toNat)
      case atStart => exact ⟨0, by omega, rfl, hbA.out⟩
      case round =>
        obtain ⟨j, hj, rfl, hb⟩ := hrel
        by_cases hlt : j < n1
        · obtain ⟨b, off, rfl, hbl, hc⟩ := (hs'.out.below hb (Nat.le_refl _)).cells (by omega)
          have hcell := hc j hlt
          have hx := u32_bd (hs'.out.wf _ (getD_mem (show j < m.length by rw [hlm.out]; exact hlt)))
          obtain ⟨x, hxx⟩ : ∃ x, x = m.getD j 0 := ⟨_, rfl⟩
          rw [← hxx] at hx hcell
          have k0 := Go.Lib.hid fun w => FBack_ok x w hx
          have k1 := Go.Lib.hid fun w => FFold_ok (zag x) w (zag_bd hx)
          rw [zig_zag hx.1] at k1
          obtain ⟨z, hzz⟩ : ∃ z, z = zag x := ⟨_, rfl⟩
          rw [← hzz] at k0 k1
          clear hzz hxx hc hx
          go_wp2
          go_quiet (first | (go_at_call 15; refine (k0.out _).mono ?_; rintro e w1 ⟨rfl, rfl⟩; exact ⟨rfl, _, rfl⟩) | (go_at_call 13; refine (k1.out _).mono ?_; rintro e w1 ⟨rfl, rfl⟩; exact ⟨rfl, _, rfl⟩))
          go_wp2
          go_roundw
          case rel => exact ⟨j + 1, by omega, by go_num, Below.drewN hb _⟩
          case measure => (simp [intOf] <;> omega)
        · have hWE0 := Go.Lib.hid hb
          have RE0_a := Go.Lib.hid (hr'.out.below hb (Nat.le_refl _))
          have RE0_b := Go.Lib.hid (hs'.out.below hb (Nat.le_refl _))
          clear hb
          go_wp2_with (first
            | (go_at_call 9; ((with_reducible refine (f1.out _ ?h1).mono ?_)); (case h1 => exact RE0_a.out); rintro e w1 ⟨ax, nx, cx, rfl, hr1, hb1⟩; have hWE1 := Go.Lib.hid hWE0.out; have hW1 := Go.Lib.hid (hWE1.out.trans (hb1.mono hWE1.out.size)); have R1_a := Go.Lib.hid (RE0_a.out.below hb1 (Nat.le_refl _)); have R1_b := Go.Lib.hid (RE0_b.out.below hb1 (Nat.le_refl _)); have R1_x := Go.Lib.hid hr1; clear hr1; clear hb1)
            | (go_at_call 10; ((with_reducible refine (f2.out _ _ _ _ ?h1).mono ?_)); (case h1 => exact R1_x.out); rintro e w2 ⟨ay, ny, cy, rfl, hr2, hb2⟩; have hWE2 := Go.Lib.hid hW1.out; have hW2 := Go.Lib.hid (hWE2.out.trans (hb2.mono hWE2.out.size)); have R2_a := Go.Lib.hid (R1_a.out.below hb2 (Nat.le_refl _)); have R2_b := Go.Lib.hid (R1_b.out.below hb2 (Nat.le_refl _)); have R2_x := Go.Lib.hid (R1_x.out.below hb2 (Nat.le_refl _)); have R2_y := Go.Lib.hid hr2; clear hr2; clear hb2)
            | (go_at_call 10; ((with_reducible refine (f3.out _ ?h1).mono ?_)); (case h1 => exact R2_b.out); rintro e w3 ⟨ap, np, cp, rfl, hr3, hb3⟩; have hWE3 := Go.Lib.hid hW2.out; have hW3 := Go.Lib.hid (hWE3.out.trans (hb3.mono hWE3.out.size)); have R3_a := Go.Lib.hid (R2_a.out.below hb3 (Nat.le_refl _)); have R3_b := Go.Lib.hid (R2_b.out.below hb3 (Nat.le_refl _)); have R3_x := Go.Lib.hid (R2_x.out.below hb3 (Nat.le_refl _)); have R3_y := Go.Lib.hid (R2_y.out.below hb3 (Nat.le_refl _)); have R3_p := Go.Lib.hid hr3; clear hr3; clear hb3)
            | (go_at_call 9; ((with_reducible refine (f4.out _ _ _ _ ?h1).mono ?_)); (case h1 => exact R3_p.out); rintro e w4 ⟨aq, nq, cq, rfl, hr4, hb4⟩; have hWE4 := Go.Lib.hid hW3.out; have hW4 := Go.Lib.hid (hWE4.out.trans (hb4.mono hWE4.out.size)); have R4_a := Go.Lib.hid (R3_a.out.below hb4 (Nat.le_refl _)); have R4_b := Go.Lib.hid (R3_b.out.below hb4 (Nat.le_refl _)); have R4_x := Go.Lib.hid (R3_x.out.below hb4 (Nat.le_refl _)); have R4_y := Go.Lib.hid (R3_y.out.below hb4 (Nat.le_refl _)); have R4_p := Go.Lib.hid (R3_p.out.below hb4 (Nat.le_refl _)); have R4_q := Go.Lib.hid hr4; clear hr4; clear hb4)
            | (go_at_call 11; ((with_reducible refine (s2.out _ _ _ _ _ _ _ l ?h1 ?h2).mono ?_)); (case h1 => exact R4_y.out); (case h2 => exact R4_a.out); rintro e w5 ⟨rfl, hb5⟩; have hWE5 := Go.Lib.hid hW4.out; have hW5 := Go.Lib.hid (hWE5.out.trans (hb5.mono hWE5.out.size)); have R5_a := Go.Lib.hid (R4_a.out.below hb5 (Nat.le_refl _)); have R5_b := Go.Lib.hid (R4_b.out.below hb5 (Nat.le_refl _)); have R5_x := Go.Lib.hid (R4_x.out.below hb5 (Nat.le_refl _)); have R5_y := Go.Lib.hid (R4_y.out.below hb5 (Nat.le_refl _)); have R5_p := Go.Lib.hid (R4_p.out.below hb5 (Nat.le_refl _)); have R5_q := Go.Lib.hid (R4_q.out.below hb5 (Nat.le_refl _)); clear hb5)
            | (go_at_call 19; ((with_reducible refine (s1.out _ _ _ _ _ _ _ m ?h1 ?h2).mono ?_)); (case h1 => exact R5_q.out); (case h2 => exact R5_b.out); rintro e w6 ⟨rfl, hb6⟩; have hWE6 := Go.Lib.hid hW5.out; have hW6 := Go.Lib.hid (hWE6.out.trans (hb6.mono hWE6.out.size)); have R6_a := Go.Lib.hid (R5_a.out.below hb6 (Nat.le_refl _)); have R6_b := Go.Lib.hid (R5_b.out.below hb6 (Nat.le_refl _)); have R6_x := Go.Lib.hid (R5_x.out.below hb6 (Nat.le_refl _)); have R6_y := Go.Lib.hid (R5_y.out.below hb6 (Nat.le_refl _)); have R6_p := Go.Lib.hid (R5_p.out.below hb6 (Nat.le_refl _)); have R6_q := Go.Lib.hid (R5_q.out.below hb6 (Nat.le_refl _)); clear hb6)
            | (go_at_call 12; refine (hal.out _).mono ?_; rintro e w7 ⟨rfl, hb7⟩; have hWE7 := Go.Lib.hid hW6.out; have hW7 := Go.Lib.hid (hWE7.out.trans (hb7.mono hWE7.out.size)); clear hb7))
          go_ret
          exact ⟨rfl, hW7.out⟩

theorem foldBack_walk (a0 : Option Addr) (len0 cap0 : Nat) (z0 : List Int) (a1 : Option Addr) (len1 cap1 : Nat) (z1 : List Int) (W : World) (w0 : IsRow .i32 W a0 len0 cap0 z0) (w1 : IsRow .u32 W a1 len1 cap1 z1) :
    Calls Try.prog 6 #[.slice a0 len0 cap0, .slice a1 len1 cap1] W fun e w' => e = .returned (.bool true) ∧ Below W.heap.size W w' := by
  have hr := Row.of_isRow w0
  have hs := Row.of_isRow w1
  have m0 := Nat.le_trans hr.hcap hr.hmax
  have m1 := Nat.le_trans hs.hcap hs.hmax
  unfold maxLen at m0 m1
  by_cases h : 500 < len0 ∨ 500 < len1
  · exact foldBack_out W _ _ _ _ _ _ (by omega) (by omega) h
  · have e1 : allS (z0.take len0) = ((z0.take len0).map zig, 0) := by unfold allS; rw [if_pos (by rw [hr.hlen]; omega)]
    have e2 : undoS ((z0.take len0).map zig) = (z0.take len0, 0) := by unfold undoS; rw [if_pos (by rw [List.length_map, hr.hlen]; omega), zag_zigs]
    have e3 : undoS (z1.take len1) = ((z1.take len1).map zag, 0) := by unfold undoS; rw [if_pos (by rw [hs.hlen]; omega)]
    have e4 : allS ((z1.take len1).map zag) = (z1.take len1, 0) := by unfold allS; rw [if_pos (by rw [List.length_map, hs.hlen]; omega), zig_zags hs.wf]
    exact foldBack_in W _ _ _ _ hr _ _ _ _ hs (by omega) (by omega) _ _ (Go.Lib.hid fun w h => by have := FAll_any w _ _ _ _ h; rwa [e1] at this) (Go.Lib.hid fun w a n c h => by have := FUndo_any w _ _ _ _ h; rwa [e2] at this)
      (Go.Lib.hid fun w h => by have := FUndo_any w _ _ _ _ h; rwa [e3] at this) (Go.Lib.hid fun w a n c h => by have := FAll_any w _ _ _ _ h; rwa [e4] at this)
end Go.Proofs.Ytocobnjgegokaaa
