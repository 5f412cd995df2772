/- BlockUnpacks: Unpack is the reference's. -/
import Derived.Test.YthiaeldhelhjlaaZ6

namespace Go.Proofs.Ythiaeldhelhjlaa
open Go.RowKit Cad

theorem blockUnpacks_great (W : World) (a : Option Addr) (n ca : Nat) (hl : n ≤ 9223372036854775807) (hg : kgreat n = true) :
    Calls Try.prog 5 #[.slice a n ca] W fun e w' => e = .returned (.bool true) ∧ Below W.heap.size W w' := by
  have hG := Go.Lib.hid fun w => KrGreat_ok w a n ca hl
  rw [hg] at hG
  clear hg
  go_enter Try.func5, Try.ntmps5
  go_wp2_with (go_at_call 20; with_reducible refine (hG.out _).mono ?_; rintro e w1 ⟨rfl, rfl⟩)
  go_ret
  exact ⟨rfl, Below.refl _ _⟩

set_option maxRecDepth 100000 in
set_option maxHeartbeats 4000000 in
theorem blockUnpacks_in (W : World) (a : Option Addr) (n ca : Nat) (l : List Int) (hr : Row .u8 W a n ca l) (hl : n ≤ 41300) (hg : kgreat n = false) :
    Calls Try.prog 5 #[.slice a n ca] W fun e w' => e = .returned (.bool true) ∧ Below W.heap.size W w' := by
  have hg : Hid (∀ w, Calls Try.prog 20 #[.slice a n ca] w fun e W' => e = .returned (.bool false) ∧ w = W') := Go.Lib.hid fun w => by
    have := KrGreat_ok w a n ca (by omega)
    rwa [hg] at this
  have wfo := Go.Lib.hid hr.wf
  obtain ⟨m, z, t, e, u1, u2⟩ := kunpack_both n l hr.hlen (by omega)
  unfold ResU at u1 u2
  have u1 := Go.Lib.hid u1
  have u2 := Go.Lib.hid u2
  have s1 : Hid (∀ w b c b' c', Row .u8 w b m c z → Row .u8 w b' m c' z → Calls Try.prog 19 #[.agg #[.slice b m c, .int .i64 t], .agg #[.slice b' m c', .int .i64 t]] w fun e W' => e = .returned (.bool true) ∧ Below w.heap.size w W') := Go.Lib.hid fun w b c b' c' h h' => by
    have := RSame_ok w b m c t z h b' m c' t z h'
    simpa using this
  have hWE0 := Go.Lib.hid (Below.refl W.heap.size W)
  have RE0_p := Go.Lib.hid hr
  clear hr
  go_enter Try.func5, Try.ntmps5
  go_wp2_with (first
    | (go_at_call 20; ((with_reducible refine (hg.out _).mono ?_)); rintro e wz ⟨rfl, rfl⟩)
    | (at_builtin; refine law_appendRow elU8 _ rfl _ _ rfl W.heap.size _ 0 [] rfl (own_empty W 5 .u8) a n ca l rfl (RE0_p.out.below (below1 W (.cells #[] 5)) (Nat.le_refl _)) (by omega) (by simp) ?_; intro v1 w1 hown1 hbx1; simp only [Nat.zero_add, List.nil_append] at hown1; obtain ⟨o1, p1, rfl⟩ := own_form hown1; have hb1 := (below1 W (.cells #[] 5)).trans hbx1; clear hbx1; have hWE1 := Go.Lib.hid hWE0.out; have hW1 := Go.Lib.hid (hWE1.out.trans (hb1.mono hWE1.out.size)); have R1_p := Go.Lib.hid (RE0_p.out.below hb1 (Nat.le_refl _)); have R1_o := Go.Lib.hid (Row.of_own hown1 wfo.out); have O1_o := Go.Lib.hid hown1; clear hown1 hb1)
    | (go_at_call 12; ((with_reducible refine (u1.out _ _ _ ?h1).mono ?_)); (case h1 => exact R1_o.out); rintro e w2 ⟨b2, cp2, rfl, hr2, hb2⟩; have hWE2 := Go.Lib.hid hW1.out; have hW2 := Go.Lib.hid (hWE2.out.trans (hb2.mono hWE2.out.size)); have R2_p := Go.Lib.hid (R1_p.out.below hb2 (Nat.le_refl _)); have R2_o := Go.Lib.hid (R1_o.out.below hb2 (Nat.le_refl _)); have R2_x := Go.Lib.hid hr2; clear hr2; clear hb2)
    | (go_at_call 21; ((with_reducible refine (u2.out _ _ _ ?h1).mono ?_)); (case h1 => exact (R2_p.out.below (below1 w2 (.cells #[(.slice b2 m cp2), .int .i64 t] 29)) (Nat.le_refl _))); rintro e w3 ⟨b3, cp3, rfl, hr3, hb3⟩; have hWE3 := Go.Lib.hid (hW2.out.alloc hW2.out.size (.cells #[(.slice b2 m cp2), .int .i64 t] 29)); have hW3 := Go.Lib.hid (hWE3.out.trans (hb3.mono hWE3.out.size)); have R3_p := Go.Lib.hid ((R2_p.out.below (below1 w2 (.cells #[(.slice b2 m cp2), .int .i64 t] 29)) (Nat.le_refl _)).below hb3 (Nat.le_refl _)); have R3_o := Go.Lib.hid ((R2_o.out.below (below1 w2 (.cells #[(.slice b2 m cp2), .int .i64 t] 29)) (Nat.le_refl _)).below hb3 (Nat.le_refl _)); have R3_x := Go.Lib.hid ((R2_x.out.below (below1 w2 (.cells #[(.slice b2 m cp2), .int .i64 t] 29)) (Nat.le_refl _)).below hb3 (Nat.le_refl _)); have R3_y := Go.Lib.hid hr3; clear hr3; have BE3_x := Go.Lib.hid (box1 w2 (.slice b2 m cp2) t); have B3_x := Go.Lib.hid (BE3_x.out.below hb3 BE3_x.out.lt); obtain ⟨k3x0, k3x1, k3x2, k3x3⟩ := B3_x.out.cells; have l3x := B3_x.out.lt; have n3x : w2.heap.size ≠ w3.heap.size := (by omega); clear hb3)
    | (go_at_call 19; ((with_reducible refine (s1.out _ _ _ _ _ ?h1 ?h2).mono ?_)); (case h1 => exact (R3_x.out.below (below1 w3 (.cells #[(.slice b3 m cp3), .int .i64 t] 29)) (Nat.le_refl _))); (case h2 => exact (R3_y.out.below (below1 w3 (.cells #[(.slice b3 m cp3), .int .i64 t] 29)) (Nat.le_refl _))); rintro e w4 ⟨rfl, hb4⟩; have hWE4 := Go.Lib.hid (hW3.out.alloc hW3.out.size (.cells #[(.slice b3 m cp3), .int .i64 t] 29)); have hW4 := Go.Lib.hid (hWE4.out.trans (hb4.mono hWE4.out.size)); have R4_p := Go.Lib.hid ((R3_p.out.below (below1 w3 (.cells #[(.slice b3 m cp3), .int .i64 t] 29)) (Nat.le_refl _)).below hb4 (Nat.le_refl _)); have R4_o := Go.Lib.hid ((R3_o.out.below (below1 w3 (.cells #[(.slice b3 m cp3), .int .i64 t] 29)) (Nat.le_refl _)).below hb4 (Nat.le_refl _)); have R4_x := Go.Lib.hid ((R3_x.out.below (below1 w3 (.cells #[(.slice b3 m cp3), .int .i64 t] 29)) (Nat.le_refl _)).below hb4 (Nat.le_refl _)); have R4_y := Go.Lib.hid ((R3_y.out.below (below1 w3 (.cells #[(.slice b3 m cp3), .int .i64 t] 29)) (Nat.le_refl _)).below hb4 (Nat.le_refl _)); have BE4_x := Go.Lib.hid (B3_x.out.alloc (.cells #[(.slice b3 m cp3), .int .i64 t] 29)); have B4_x := Go.Lib.hid (BE4_x.out.below hb4 BE4_x.out.lt); obtain ⟨k4x0, k4x1, k4x2, k4x3⟩ := B4_x.out.cells; have BE4_y := Go.Lib.hid (box1 w3 (.slice b3 m cp3) t); have B4_y := Go.Lib.hid (BE4_y.out.below hb4 BE4_y.out.lt); obtain ⟨k4y0, k4y1, k4y2, k4y3⟩ := B4_y.out.cells; have st1 := R4_o.out.str Try.underlying25 Try.underlying5 Try.underlying9; have st2 := R4_p.out.str Try.underlying25 Try.underlying5 Try.underlying9; clear hb4))
  go_ret
  exact ⟨by simp, hW4.out⟩

theorem blockUnpacks_walk (ax0 : Option Addr) (lenx0 capx0 : Nat) (zx0 : List Int) (W : World) (wx0 : IsRow .u8 W ax0 lenx0 capx0 zx0) :
    Calls Try.prog 5 #[.slice ax0 lenx0 capx0] W fun e w' => e = .returned (.bool true) ∧ Below W.heap.size W w' := by
  have hr := Row.of_isRow wx0
  have hm := Nat.le_trans hr.hcap hr.hmax
  unfold maxLen at hm
  cases hg : kgreat lenx0 with
  | true => exact blockUnpacks_great W _ _ _ (by omega) hg
  | false =>
    have h1 : ¬ (300 < lenx0 ∧ lenx0 ≤ 41254 ∨ 41300 < lenx0) := of_decide_eq_false hg
    exact blockUnpacks_in W _ _ _ _ hr (by omega) hg
end Go.Proofs.Ythiaeldhelhjlaa
