/- BlockPacks: Size and Pack are the reference's. -/
import Derived.Test.YthiaeldhelhjlaaZ6

namespace Go.Proofs.Ythiaeldhelhjlaa
open Go.RowKit Cad

theorem blockPacks_great (W : World) (a : Option Addr) (len cap : Nat) (n N : Int) (hl : len ≤ 9223372036854775807) (hg : great len = true) :
    Calls Try.prog 4 #[.int .i64 n, .agg #[.slice a len cap, .int .i64 N]] W fun e w' => e = .returned (.bool true) ∧ Below W.heap.size W w' := by
  have b0 := Go.Lib.hid (below1 W (.cells #[.slice a len cap, .int .i64 N] 29))
  have hG := Go.Lib.hid fun w => RGreat_ok w a len cap N hl
  rw [hg] at hG
  clear hg
  go_enter Try.func4, Try.ntmps4
  go_wp2_with (go_at_call 15; with_reducible refine (hG.out _).mono ?_; rintro e w1 ⟨rfl, hb1⟩; have B1 := Go.Lib.hid (b0.out.trans (hb1.mono b0.out.size)); clear hb1)
  go_ret
  exact ⟨rfl, B1.out⟩

set_option maxRecDepth 100000 in
set_option maxHeartbeats 4000000 in
theorem blockPacks_in (W : World) (a : Option Addr) (len cap : Nat) (n N : Int) (l : List Int) (hr : Row .u8 W a len cap l) (hN : (Lit.int .i64 N).wf = true) (hl : len ≤ 41350) (hg : great len = false) :
    Calls Try.prog 4 #[.int .i64 n, .agg #[.slice a len cap, .int .i64 N]] W fun e w' => e = .returned (.bool true) ∧ Below W.heap.size W w' := by
  have hg : Hid (∀ w, Calls Try.prog 15 #[.agg #[.slice a len cap, .int .i64 N]] w fun e W' => e = .returned (.bool false) ∧ Below w.heap.size w W') := Go.Lib.hid fun w => by
    have := RGreat_ok w a len cap N (by omega)
    rwa [hg] at this
  have tw : Hid (∀ w, Row .u8 w a len cap l → Calls Try.prog 16 #[.agg #[.slice a len cap, .int .i64 N]] w fun e W' => ∃ b c, e = .returned (.agg #[.slice b len c, .int .i64 N]) ∧ Row .u8 W' b len c l ∧ Below w.heap.size w W') := Go.Lib.hid fun w h => by
    refine (RTwin_ok w a len cap N l h (by omega)).mono ?_
    rintro e W' ⟨v', rfl, ho, hb⟩
    obtain ⟨b, c, rfl⟩ := own_form ho
    exact ⟨b, c, rfl, Row.of_own ho hr.wf, hb⟩
  obtain ⟨m, e, z1, z2⟩ := ksize_both n
  have z1 := Go.Lib.hid z1
  have z2 := Go.Lib.hid z2
  obtain ⟨k, zz, f, hwz, p1, p2⟩ := kpack_both len N l hN hr.wf
  unfold ResP at p1 p2
  have p1 := Go.Lib.hid p1
  have p2 := Go.Lib.hid p2
  have s1 : Hid (∀ w b c, Row .u8 w b len c l → Row .u8 w a len cap l → Calls Try.prog 19 #[.agg #[.slice b len c, .int .i64 N], .agg #[.slice a len cap, .int .i64 N]] w fun e W' => e = .returned (.bool true) ∧ Below w.heap.size w W') := Go.Lib.hid fun w b c h h' => by
    have := RSame_ok w b len c N l h a len cap N l h'
    simpa using this
  have hWE0 := Go.Lib.hid (below1 W (.cells #[.slice a len cap, .int .i64 N] 29))
  have BE0_b := Go.Lib.hid (box1 W (.slice a len cap) N)
  have RE0_b := Go.Lib.hid (hr.below hWE0.out (Nat.le_refl _))
  clear hr hwz hN
  go_enter Try.func4, Try.ntmps4
  go_wp2_with (first
    | (go_at_call 15; ((with_reducible refine (hg.out _).mono ?_)); rintro e w1 ⟨rfl, hb1⟩; have hWE1 := Go.Lib.hid hWE0.out; have hW1 := Go.Lib.hid (hWE1.out.trans (hb1.mono hWE1.out.size)); have R1_b := Go.Lib.hid (RE0_b.out.below hb1 (Nat.le_refl _)); have BE1_b := Go.Lib.hid BE0_b.out; have B1_b := Go.Lib.hid (BE1_b.out.below hb1 BE1_b.out.lt); obtain ⟨k1b0, k1b1, k1b2, k1b3⟩ := B1_b.out.cells; clear hb1)
    | (go_at_call 16; ((with_reducible refine (tw.out _ ?h1).mono ?_)); (case h1 => exact R1_b.out); rintro e w2 ⟨b2, cp2, rfl, hr2, hb2⟩; have hWE2 := Go.Lib.hid hW1.out; have hW2 := Go.Lib.hid (hWE2.out.trans (hb2.mono hWE2.out.size)); have R2_b := Go.Lib.hid (R1_b.out.below hb2 (Nat.le_refl _)); have R2_o := Go.Lib.hid hr2; clear hr2; have BE2_b := Go.Lib.hid B1_b.out; have B2_b := Go.Lib.hid (BE2_b.out.below hb2 BE2_b.out.lt); obtain ⟨k2b0, k2b1, k2b2, k2b3⟩ := B2_b.out.cells; have l2b := B2_b.out.lt; have n2b : W.heap.size ≠ w2.heap.size := (by omega); clear hb2)
    | (go_at_call 10; ((with_reducible refine (z1.out _).mono ?_)); rintro e w3 ⟨rfl, hb3⟩; have hWE3 := Go.Lib.hid (hW2.out.alloc hW2.out.size (.cells #[(.slice b2 len cp2), .int .i64 N] 29)); have hW3 := Go.Lib.hid (hWE3.out.trans (hb3.mono hWE3.out.size)); have R3_b := Go.Lib.hid ((R2_b.out.below (below1 w2 (.cells #[(.slice b2 len cp2), .int .i64 N] 29)) (Nat.le_refl _)).below hb3 (Nat.le_refl _)); have R3_o := Go.Lib.hid ((R2_o.out.below (below1 w2 (.cells #[(.slice b2 len cp2), .int .i64 N] 29)) (Nat.le_refl _)).below hb3 (Nat.le_refl _)); have BE3_b := Go.Lib.hid (B2_b.out.alloc (.cells #[(.slice b2 len cp2), .int .i64 N] 29)); have B3_b := Go.Lib.hid (BE3_b.out.below hb3 BE3_b.out.lt); obtain ⟨k3b0, k3b1, k3b2, k3b3⟩ := B3_b.out.cells; have BE3_o := Go.Lib.hid (box1 w2 (.slice b2 len cp2) N); have B3_o := Go.Lib.hid (BE3_o.out.below hb3 BE3_o.out.lt); obtain ⟨k3o0, k3o1, k3o2, k3o3⟩ := B3_o.out.cells; clear hb3)
    | (go_at_call 17; ((with_reducible refine (z2.out _).mono ?_)); rintro e wz ⟨rfl, rfl⟩)
    | (go_at_call 11; ((with_reducible refine (p1.out _ _ _ ?h1).mono ?_)); (case h1 => exact R3_o.out); rintro e w4 ⟨b4, cp4, rfl, hr4, hb4⟩; have hWE4 := Go.Lib.hid hW3.out; have hW4 := Go.Lib.hid (hWE4.out.trans (hb4.mono hWE4.out.size)); have R4_b := Go.Lib.hid (R3_b.out.below hb4 (Nat.le_refl _)); have R4_o := Go.Lib.hid (R3_o.out.below hb4 (Nat.le_refl _)); have R4_p := Go.Lib.hid hr4; clear hr4; have BE4_b := Go.Lib.hid B3_b.out; have B4_b := Go.Lib.hid (BE4_b.out.below hb4 BE4_b.out.lt); obtain ⟨k4b0, k4b1, k4b2, k4b3⟩ := B4_b.out.cells; have BE4_o := Go.Lib.hid B3_o.out; have B4_o := Go.Lib.hid (BE4_o.out.below hb4 BE4_o.out.lt); obtain ⟨k4o0, k4o1, k4o2, k4o3⟩ := B4_o.out.cells; clear hb4)
    | (go_at_call 18; ((with_reducible refine (p2.out _ _ _ ?h1).mono ?_)); (case h1 => exact R4_b.out); rintro e w5 ⟨b5, cp5, rfl, hr5, hb5⟩; have hWE5 := Go.Lib.hid hW4.out; have hW5 := Go.Lib.hid (hWE5.out.trans (hb5.mono hWE5.out.size)); have R5_b := Go.Lib.hid (R4_b.out.below hb5 (Nat.le_refl _)); have R5_o := Go.Lib.hid (R4_o.out.below hb5 (Nat.le_refl _)); have R5_p := Go.Lib.hid (R4_p.out.below hb5 (Nat.le_refl _)); have R5_q := Go.Lib.hid hr5; clear hr5; have BE5_b := Go.Lib.hid B4_b.out; have B5_b := Go.Lib.hid (BE5_b.out.below hb5 BE5_b.out.lt); obtain ⟨k5b0, k5b1, k5b2, k5b3⟩ := B5_b.out.cells; have BE5_o := Go.Lib.hid B4_o.out; have B5_o := Go.Lib.hid (BE5_o.out.below hb5 BE5_o.out.lt); obtain ⟨k5o0, k5o1, k5o2, k5o3⟩ := B5_o.out.cells; have st1 := R5_p.out.str Try.underlying25 Try.underlying5 Try.underlying9; have st2 := R5_q.out.str Try.underlying25 Try.underlying5 Try.underlying9; clear hb5)
    | (go_at_call 19; ((with_reducible refine (s1.out _ _ _ ?h1 ?h2).mono ?_)); (case h1 => exact R5_o.out); (case h2 => exact R5_b.out); rintro e w6 ⟨rfl, hb6⟩; have hWE6 := Go.Lib.hid hW5.out; have hW6 := Go.Lib.hid (hWE6.out.trans (hb6.mono hWE6.out.size)); have R6_b := Go.Lib.hid (R5_b.out.below hb6 (Nat.le_refl _)); have R6_o := Go.Lib.hid (R5_o.out.below hb6 (Nat.le_refl _)); have R6_p := Go.Lib.hid (R5_p.out.below hb6 (Nat.le_refl _)); have R6_q := Go.Lib.hid (R5_q.out.below hb6 (Nat.le_refl _)); have BE6_b := Go.Lib.hid B5_b.out; have B6_b := Go.Lib.hid (BE6_b.out.below hb6 BE6_b.out.lt); obtain ⟨k6b0, k6b1, k6b2, k6b3⟩ := B6_b.out.cells; have BE6_o := Go.Lib.hid B5_o.out; have B6_o := Go.Lib.hid (BE6_o.out.below hb6 BE6_o.out.lt); obtain ⟨k6o0, k6o1, k6o2, k6o3⟩ := B6_o.out.cells; clear hb6))
  go_ret
  exact ⟨by simp, hW6.out⟩

theorem blockPacks_walk (x0 : Int) (ax1_0 : Option Addr) (lenx1_0 capx1_0 : Nat) (zx1_0 : List Int) (x1_1 : Int) (W : World) (wx0 : (Lit.int .i64 x0).wf = true) (wx1_0 : IsRow .u8 W ax1_0 lenx1_0 capx1_0 zx1_0) (wx1_1 : (Lit.int .i64 x1_1).wf = true) :
    Calls Try.prog 4 #[.int .i64 x0, .agg #[.slice ax1_0 lenx1_0 capx1_0, .int .i64 x1_1]] W fun e w' => e = .returned (.bool true) ∧ Below W.heap.size W w' := by
  have hr := Row.of_isRow wx1_0
  have hm := Nat.le_trans hr.hcap hr.hmax
  unfold maxLen at hm
  cases hg : great lenx1_0 with
  | true => exact blockPacks_great W _ _ _ _ _ (by omega) hg
  | false =>
    have h1 : ¬ (190 < lenx1_0 ∧ lenx1_0 < 41230 ∨ 41350 < lenx1_0) := fun h => by rw [great_yes h] at hg; cases hg
    exact blockPacks_in W _ _ _ _ _ _ hr wx1_1 (by omega) hg
end Go.Proofs.Ythiaeldhelhjlaa
