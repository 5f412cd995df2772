/- BlockApart: two blocks are the same exactly if the bytes are. -/
import Derived.Test.YthiaeldhelhjlaaZ6

namespace Go.Proofs.Ythiaeldhelhjlaa
open Go.RowKit Cad

set_option maxRecDepth 100000 in
theorem blockApart_out (W : World) (aa : Option Addr) (la ca : Nat) (N : Int) (ab : Option Addr) (lb cb : Nat) (M : Int) (l m : List Int) (hr : Row .u8 W aa la ca l) (hq : Row .u8 W ab lb cb m) (hN : (Lit.int .i64 N).wf = true) (hM : (Lit.int .i64 M).wf = true) (h : ¬ Valid l N ∨ (Valid l N ∧ ¬ Valid m M) ∨ (Valid l N ∧ Valid m M ∧ (1500 < N ∨ 1500 < M))) :
    Calls Try.prog 9 #[.agg #[.slice aa la ca, .int .i64 N], .agg #[.slice ab lb cb, .int .i64 M]] W fun e w' => e = .returned (.bool true) ∧ Below W.heap.size W w' := by
  have hWE0 := Go.Lib.hid ((below1 W (.cells #[.slice aa la ca, .int .i64 N] 29)).alloc (by simp) (.cells #[.slice ab lb cb, .int .i64 M] 29))
  have BE0_a := Go.Lib.hid ((box1 W (.slice aa la ca) N).alloc (.cells #[.slice ab lb cb, .int .i64 M] 29))
  have BE0_b := Go.Lib.hid (bx2 W (.cells #[.slice aa la ca, .int .i64 N] 29) (.slice ab lb cb) M)
  have RE0_a := Go.Lib.hid (hr.below hWE0.out (Nat.le_refl _))
  have RE0_b := Go.Lib.hid (hq.below hWE0.out (Nat.le_refl _))
  rcases h with h | ⟨h, h2⟩ | ⟨h, h2, h3⟩
  · have c1 : Hid (∀ w, Row .u8 w aa la ca l → Calls Try.prog 22 #[.agg #[.slice aa la ca, .int .i64 N]] w fun e W' => e = .returned (.int .i64 8) ∧ Below w.heap.size w W') := Go.Lib.hid fun w hw => RCheck_any w aa la ca N l hw hN 8 (.inr ⟨h, rfl⟩)
    clear hr hq hN hM h
    go_enter Try.func9, Try.ntmps9
    go_wp2_with (first
      | (go_at_call 22; ((with_reducible refine (c1.out _ ?h1).mono ?_)); (case h1 => exact RE0_a.out); rintro e w1 ⟨rfl, hb1⟩; have hWE1 := Go.Lib.hid hWE0.out; have hW1 := Go.Lib.hid (hWE1.out.trans (hb1.mono hWE1.out.size)); have R1_a := Go.Lib.hid (RE0_a.out.below hb1 (Nat.le_refl _)); have R1_b := Go.Lib.hid (RE0_b.out.below hb1 (Nat.le_refl _)); have BE1_a := Go.Lib.hid BE0_a.out; have B1_a := Go.Lib.hid (BE1_a.out.below hb1 BE1_a.out.lt); obtain ⟨k1a0, k1a1, k1a2, k1a3⟩ := B1_a.out.cells; have BE1_b := Go.Lib.hid BE0_b.out; have B1_b := Go.Lib.hid (BE1_b.out.below hb1 BE1_b.out.lt); obtain ⟨k1b0, k1b1, k1b2, k1b3⟩ := B1_b.out.cells; clear hb1)
      | (go_at_call 14; refine (alive11_ok _).mono ?_; rintro e w2 ⟨rfl, hb2⟩; have hWE2 := Go.Lib.hid hW1.out; have hW2 := Go.Lib.hid (hWE2.out.trans (hb2.mono hWE2.out.size)); clear hb2))
    go_ret
    exact ⟨rfl, hW2.out⟩
  · have c1 : Hid (∀ w, Row .u8 w aa la ca l → Calls Try.prog 22 #[.agg #[.slice aa la ca, .int .i64 N]] w fun e W' => e = .returned (.int .i64 0) ∧ Below w.heap.size w W') := Go.Lib.hid fun w hw => RCheck_any w aa la ca N l hw hN 0 (.inl ⟨h, rfl⟩)
    have c2 : Hid (∀ w, Row .u8 w ab lb cb m → Calls Try.prog 22 #[.agg #[.slice ab lb cb, .int .i64 M]] w fun e W' => e = .returned (.int .i64 8) ∧ Below w.heap.size w W') := Go.Lib.hid fun w hw => RCheck_any w ab lb cb M m hw hM 8 (.inr ⟨h2, rfl⟩)
    clear hr hq hN hM h h2
    go_enter Try.func9, Try.ntmps9
    go_wp2_with (first
      | (go_at_call 22; ((with_reducible refine (c1.out _ ?h1).mono ?_)); (case h1 => exact RE0_a.out); rintro e w1 ⟨rfl, hb1⟩; have hWE1 := Go.Lib.hid hWE0.out; have hW1 := Go.Lib.hid (hWE1.out.trans (hb1.mono hWE1.out.size)); have R1_a := Go.Lib.hid (RE0_a.out.below hb1 (Nat.le_refl _)); have R1_b := Go.Lib.hid (RE0_b.out.below hb1 (Nat.le_refl _)); have BE1_a := Go.Lib.hid BE0_a.out; have B1_a := Go.Lib.hid (BE1_a.out.below hb1 BE1_a.out.lt); obtain ⟨k1a0, k1a1, k1a2, k1a3⟩ := B1_a.out.cells; have BE1_b := Go.Lib.hid BE0_b.out; have B1_b := Go.Lib.hid (BE1_b.out.below hb1 BE1_b.out.lt); obtain ⟨k1b0, k1b1, k1b2, k1b3⟩ := B1_b.out.cells; clear hb1)
      | (go_at_call 22; ((with_reducible refine (c2.out _ ?h1).mono ?_)); (case h1 => exact R1_b.out); rintro e w2 ⟨rfl, hb2⟩; have hWE2 := Go.Lib.hid hW1.out; have hW2 := Go.Lib.hid (hWE2.out.trans (hb2.mono hWE2.out.size)); have R2_a := Go.Lib.hid (R1_a.out.below hb2 (Nat.le_refl _)); have R2_b := Go.Lib.hid (R1_b.out.below hb2 (Nat.le_refl _)); have BE2_a := Go.Lib.hid B1_a.out; have B2_a := Go.Lib.hid (BE2_a.out.below hb2 BE2_a.out.lt); obtain ⟨k2a0, k2a1, k2a2, k2a3⟩ := B2_a.out.cells; have BE2_b := Go.Lib.hid B1_b.out; have B2_b := Go.Lib.hid (BE2_b.out.below hb2 BE2_b.out.lt); obtain ⟨k2b0, k2b1, k2b2, k2b3⟩ := B2_b.out.cells; clear hb2)
      | (go_at_call 14; refine (alive11_ok _).mono ?_; rintro e w3 ⟨rfl, hb3⟩; have hWE3 := Go.Lib.hid hW2.out; have hW3 := Go.Lib.hid (hWE3.out.trans (hb3.mono hWE3.out.size)); clear hb3))
    go_ret
    exact ⟨rfl, hW3.out⟩
  · have c1 : Hid (∀ w, Row .u8 w aa la ca l → Calls Try.prog 22 #[.agg #[.slice aa la ca, .int .i64 N]] w fun e W' => e = .returned (.int .i64 0) ∧ Below w.heap.size w W') := Go.Lib.hid fun w hw => RCheck_any w aa la ca N l hw hN 0 (.inl ⟨h, rfl⟩)
    have c2 : Hid (∀ w, Row .u8 w ab lb cb m → Calls Try.prog 22 #[.agg #[.slice ab lb cb, .int .i64 M]] w fun e W' => e = .returned (.int .i64 0) ∧ Below w.heap.size w W') := Go.Lib.hid fun w hw => RCheck_any w ab lb cb M m hw hM 0 (.inl ⟨h2, rfl⟩)
    have key : 1500 < N ∨ (¬ 1500 < N ∧ 1500 < M) := by omega
    clear hr hq hN hM h h2 h3
    rcases key with h | ⟨h, h'⟩
    all_goals
      go_enter Try.func9, Try.ntmps9
      go_wp2_with (first
        | (go_at_call 22; ((with_reducible refine (c1.out _ ?h1).mono ?_)); (case h1 => exact RE0_a.out); rintro e w1 ⟨rfl, hb1⟩; have hWE1 := Go.Lib.hid hWE0.out; have hW1 := Go.Lib.hid (hWE1.out.trans (hb1.mono hWE1.out.size)); have R1_a := Go.Lib.hid (RE0_a.out.below hb1 (Nat.le_refl _)); have R1_b := Go.Lib.hid (RE0_b.out.below hb1 (Nat.le_refl _)); have BE1_a := Go.Lib.hid BE0_a.out; have B1_a := Go.Lib.hid (BE1_a.out.below hb1 BE1_a.out.lt); obtain ⟨k1a0, k1a1, k1a2, k1a3⟩ := B1_a.out.cells; have BE1_b := Go.Lib.hid BE0_b.out; have B1_b := Go.Lib.hid (BE1_b.out.below hb1 BE1_b.out.lt); obtain ⟨k1b0, k1b1, k1b2, k1b3⟩ := B1_b.out.cells; clear hb1)
        | (go_at_call 22; ((with_reducible refine (c2.out _ ?h1).mono ?_)); (case h1 => exact R1_b.out); rintro e w2 ⟨rfl, hb2⟩; have hWE2 := Go.Lib.hid hW1.out; have hW2 := Go.Lib.hid (hWE2.out.trans (hb2.mono hWE2.out.size)); have R2_a := Go.Lib.hid (R1_a.out.below hb2 (Nat.le_refl _)); have R2_b := Go.Lib.hid (R1_b.out.below hb2 (Nat.le_refl _)); have BE2_a := Go.Lib.hid B1_a.out; have B2_a := Go.Lib.hid (BE2_a.out.below hb2 BE2_a.out.lt); obtain ⟨k2a0, k2a1, k2a2, k2a3⟩ := B2_a.out.cells; have BE2_b := Go.Lib.hid B1_b.out; have B2_b := Go.Lib.hid (BE2_b.out.below hb2 BE2_b.out.lt); obtain ⟨k2b0, k2b1, k2b2, k2b3⟩ := B2_b.out.cells; clear hb2)
        | (go_at_call 14; refine (alive11_ok _).mono ?_; rintro e w3 ⟨rfl, hb3⟩; have hWE3 := Go.Lib.hid hW2.out; have hW3 := Go.Lib.hid (hWE3.out.trans (hb3.mono hWE3.out.size)); clear hb3))
      go_ret
      exact ⟨rfl, hW3.out⟩

set_option maxRecDepth 100000 in
set_option maxHeartbeats 4000000 in
theorem blockApart_in (W : World) (aa : Option Addr) (la ca : Nat) (N : Int) (ab : Option Addr) (lb cb : Nat) (M : Int) (l m : List Int) (hr : Row .u8 W aa la ca l) (hq : Row .u8 W ab lb cb m) (hN : (Lit.int .i64 N).wf = true) (hM : (Lit.int .i64 M).wf = true) (h : Valid l N) (h2 : Valid m M) (h3 : ¬ 1500 < N) (h4 : ¬ 1500 < M) :
    Calls Try.prog 9 #[.agg #[.slice aa la ca, .int .i64 N], .agg #[.slice ab lb cb, .int .i64 M]] W fun e w' => e = .returned (.bool true) ∧ Below W.heap.size W w' := by
  have hWE0 := Go.Lib.hid ((below1 W (.cells #[.slice aa la ca, .int .i64 N] 29)).alloc (by simp) (.cells #[.slice ab lb cb, .int .i64 M] 29))
  have BE0_a := Go.Lib.hid ((box1 W (.slice aa la ca) N).alloc (.cells #[.slice ab lb cb, .int .i64 M] 29))
  have BE0_b := Go.Lib.hid (bx2 W (.cells #[.slice aa la ca, .int .i64 N] 29) (.slice ab lb cb) M)
  have RE0_a := Go.Lib.hid (hr.below hWE0.out (Nat.le_refl _))
  have RE0_b := Go.Lib.hid (hq.below hWE0.out (Nat.le_refl _))
  have c1 : Hid (∀ w, Row .u8 w aa la ca l → Calls Try.prog 22 #[.agg #[.slice aa la ca, .int .i64 N]] w fun e W' => e = .returned (.int .i64 0) ∧ Below w.heap.size w W') := Go.Lib.hid fun w hw => RCheck_any w aa la ca N l hw hN 0 (.inl ⟨h, rfl⟩)
  have c2 : Hid (∀ w, Row .u8 w ab lb cb m → Calls Try.prog 22 #[.agg #[.slice ab lb cb, .int .i64 M]] w fun e W' => e = .returned (.int .i64 0) ∧ Below w.heap.size w W') := Go.Lib.hid fun w hw => RCheck_any w ab lb cb M m hw hM 0 (.inl ⟨h2, rfl⟩)
  have p1 : Hid (∀ w, Row .u8 w aa la ca l → ResP 11 #[.agg #[.slice aa la ca, .int .i64 N]] w (la + 4) (sealB l) 0) := Go.Lib.hid fun w hw => KPack_ok w aa la ca N l hw hN h
  have p2 : Hid (∀ w, Row .u8 w ab lb cb m → ResP 11 #[.agg #[.slice ab lb cb, .int .i64 M]] w (lb + 4) (sealB m) 0) := Go.Lib.hid fun w hw => KPack_ok w ab lb cb M m hw hM h2
  unfold ResP at p1 p2
  obtain ⟨dd, hdd⟩ : ∃ dd, dd = (l == m) := ⟨_, rfl⟩
  have e1 := str_beq (u8_bd (leB_nums hr.wf)) (u8_bd (leB_nums hq.wf))
  have e2 := str_beq (u8_bd hr.wf) (u8_bd hq.wf)
  have e3 : (sealB l == sealB m) = (l == m) := by
    by_cases e : l = m
    · subst e; rw [beq_self_eq_true, beq_self_eq_true]
    · rw [beq_eq_false_iff_ne.2 e, beq_eq_false_iff_ne.2 (fun h => e (sealB_inj h))]
  rw [e3, ← hdd] at e1
  rw [← hdd] at e2
  obtain ⟨X, hX⟩ : ∃ X, X = sealB l := ⟨_, rfl⟩
  obtain ⟨Y, hY⟩ : ∃ Y, Y = sealB m := ⟨_, rfl⟩
  rw [← hX] at p1 e1
  rw [← hY] at p2 e1
  clear hr hq hN hM h h2 e3 hdd hX hY
  go_enter Try.func9, Try.ntmps9
  go_wp2_with (first
    | (go_at_call 22; ((with_reducible refine (c1.out _ ?h1).mono ?_)); (case h1 => exact RE0_a.out); rintro e w1 ⟨rfl, hb1⟩; have hWE1 := Go.Lib.hid hWE0.out; have hW1 := Go.Lib.hid (hWE1.out.trans (hb1.mono hWE1.out.size)); have R1_a := Go.Lib.hid (RE0_a.out.below hb1 (Nat.le_refl _)); have R1_b := Go.Lib.hid (RE0_b.out.below hb1 (Nat.le_refl _)); have BE1_a := Go.Lib.hid BE0_a.out; have B1_a := Go.Lib.hid (BE1_a.out.below hb1 BE1_a.out.lt); obtain ⟨k1a0, k1a1, k1a2, k1a3⟩ := B1_a.out.cells; have BE1_b := Go.Lib.hid BE0_b.out; have B1_b := Go.Lib.hid (BE1_b.out.below hb1 BE1_b.out.lt); obtain ⟨k1b0, k1b1, k1b2, k1b3⟩ := B1_b.out.cells; clear hb1)
    | (go_at_call 22; ((with_reducible refine (c2.out _ ?h1).mono ?_)); (case h1 => exact R1_b.out); rintro e w2 ⟨rfl, hb2⟩; have hWE2 := Go.Lib.hid hW1.out; have hW2 := Go.Lib.hid (hWE2.out.trans (hb2.mono hWE2.out.size)); have R2_a := Go.Lib.hid (R1_a.out.below hb2 (Nat.le_refl _)); have R2_b := Go.Lib.hid (R1_b.out.below hb2 (Nat.le_refl _)); have BE2_a := Go.Lib.hid B1_a.out; have B2_a := Go.Lib.hid (BE2_a.out.below hb2 BE2_a.out.lt); obtain ⟨k2a0, k2a1, k2a2, k2a3⟩ := B2_a.out.cells; have BE2_b := Go.Lib.hid B1_b.out; have B2_b := Go.Lib.hid (BE2_b.out.below hb2 BE2_b.out.lt); obtain ⟨k2b0, k2b1, k2b2, k2b3⟩ := B2_b.out.cells; clear hb2)
    | (go_at_call 11; ((with_reducible refine (p1.out _ ?h1).mono ?_)); (case h1 => exact R2_a.out); rintro e w3 ⟨b3, cp3, rfl, hr3, hb3⟩; have hWE3 := Go.Lib.hid hW2.out; have hW3 := Go.Lib.hid (hWE3.out.trans (hb3.mono hWE3.out.size)); have R3_a := Go.Lib.hid (R2_a.out.below hb3 (Nat.le_refl _)); have R3_b := Go.Lib.hid (R2_b.out.below hb3 (Nat.le_refl _)); have R3_p := Go.Lib.hid hr3; clear hr3; have BE3_a := Go.Lib.hid B2_a.out; have B3_a := Go.Lib.hid (BE3_a.out.below hb3 BE3_a.out.lt); obtain ⟨k3a0, k3a1, k3a2, k3a3⟩ := B3_a.out.cells; have BE3_b := Go.Lib.hid B2_b.out; have B3_b := Go.Lib.hid (BE3_b.out.below hb3 BE3_b.out.lt); obtain ⟨k3b0, k3b1, k3b2, k3b3⟩ := B3_b.out.cells; clear hb3)
    | (go_at_call 11; ((with_reducible refine (p2.out _ ?h1).mono ?_)); (case h1 => exact R3_b.out); rintro e w4 ⟨b4, cp4, rfl, hr4, hb4⟩; have hWE4 := Go.Lib.hid hW3.out; have hW4 := Go.Lib.hid (hWE4.out.trans (hb4.mono hWE4.out.size)); have R4_a := Go.Lib.hid (R3_a.out.below hb4 (Nat.le_refl _)); have R4_b := Go.Lib.hid (R3_b.out.below hb4 (Nat.le_refl _)); have R4_p := Go.Lib.hid (R3_p.out.below hb4 (Nat.le_refl _)); have R4_q := Go.Lib.hid hr4; clear hr4; have BE4_a := Go.Lib.hid B3_a.out; have B4_a := Go.Lib.hid (BE4_a.out.below hb4 BE4_a.out.lt); obtain ⟨k4a0, k4a1, k4a2, k4a3⟩ := B4_a.out.cells; have BE4_b := Go.Lib.hid B3_b.out; have B4_b := Go.Lib.hid (BE4_b.out.below hb4 BE4_b.out.lt); obtain ⟨k4b0, k4b1, k4b2, k4b3⟩ := B4_b.out.cells; have st1 := R4_p.out.str Try.underlying25 Try.underlying5 Try.underlying9; have st2 := R4_q.out.str Try.underlying25 Try.underlying5 Try.underlying9; have st3 := R4_a.out.str Try.underlying25 Try.underlying5 Try.underlying9; have st4 := R4_b.out.str Try.underlying25 Try.underlying5 Try.underlying9; clear hb4)
    | (go_at_call 14; refine (alive11_ok _).mono ?_; rintro e w5 ⟨rfl, hb5⟩; have hWE5 := Go.Lib.hid hW4.out; have hW5 := Go.Lib.hid (hWE5.out.trans (hb5.mono hWE5.out.size)); clear hb5))
  go_ret
  exact ⟨by simp, hW5.out⟩

theorem blockApart_walk (ax0_0 : Option Addr) (lenx0_0 capx0_0 : Nat) (zx0_0 : List Int) (x0_1 : Int) (ax1_0 : Option Addr) (lenx1_0 capx1_0 : Nat) (zx1_0 : List Int) (x1_1 : Int) (W : World) (wx0_0 : IsRow .u8 W ax0_0 lenx0_0 capx0_0 zx0_0) (wx0_1 : (Lit.int .i64 x0_1).wf = true) (wx1_0 : IsRow .u8 W ax1_0 lenx1_0 capx1_0 zx1_0) (wx1_1 : (Lit.int .i64 x1_1).wf = true) :
    Calls Try.prog 9 #[.agg #[.slice ax0_0 lenx0_0 capx0_0, .int .i64 x0_1], .agg #[.slice ax1_0 lenx1_0 capx1_0, .int .i64 x1_1]] W fun e w' => e = .returned (.bool true) ∧ Below W.heap.size W w' := by
  have hr := Row.of_isRow wx0_0
  have hq := Row.of_isRow wx1_0
  by_cases h1 : Valid (zx0_0.take lenx0_0) x0_1
  · by_cases h2 : Valid (zx1_0.take lenx1_0) x1_1
    · by_cases h3 : 1500 < x0_1 ∨ 1500 < x1_1
      · exact blockApart_out W _ _ _ _ _ _ _ _ _ _ hr hq wx0_1 wx1_1 (.inr (.inr ⟨h1, h2, h3⟩))
      · exact blockApart_in W _ _ _ _ _ _ _ _ _ _ hr hq wx0_1 wx1_1 h1 h2 (by omega) (by omega)
    · exact blockApart_out W _ _ _ _ _ _ _ _ _ _ hr hq wx0_1 wx1_1 (.inr (.inl ⟨h1, h2⟩))
  · exact blockApart_out W _ _ _ _ _ _ _ _ _ _ hr hq wx0_1 wx1_1 (.inl h1)
end Go.Proofs.Ythiaeldhelhjlaa
