/- CoderWrites: Encode and After are the reference's. -/
import Derived.Test.YtifbigmgiakakaaZ9

namespace Go.Proofs.Ytifbigmgiakakaa
open Go.RowKit Cad

set_option maxRecDepth 100000 in
theorem coderWrites_great (W : World) (al : Option Addr) (ll cl : Nat) (hl : ll ≤ 9223372036854775807) (hg : decide ((150 < ll ∧ ll ≤ 4000) ∨ 4010 < ll) = true) :
    Calls Try.prog 4 #[.slice al ll cl] W fun e w' => e = .returned (.bool true) ∧ Below W.heap.size W w' := by
  have hG := Go.Lib.hid fun w => CGreat_ok w al ll cl hl _ hg
  clear hg
  go_enter Try.func4, Try.ntmps4
  go_wp2_with (go_at_call 17; refine (hG.out _).mono ?_; rintro e w1 ⟨rfl, rfl⟩)
  go_ret
  exact ⟨rfl, Below.refl _ _⟩

set_option maxRecDepth 100000 in
set_option maxHeartbeats 8000000 in
theorem coderWrites_in (W : World) (al : Option Addr) (ll cl : Nat) (l : List Int) (m : List Nat) (hr : Row .u32 W al ll cl l) (hl : ll ≤ 4010) (hg : decide ((150 < ll ∧ ll ≤ 4000) ∨ 4010 < ll) = false) (hlm : l = m.map Int.ofNat) (hm : m.length = ll) (hm32 : ∀ x ∈ m, x < 4294967296) :
    Calls Try.prog 4 #[.slice al ll cl] W fun e w' => e = .returned (.bool true) ∧ Below W.heap.size W w' := by
  have hg := Go.Lib.hid fun w => CGreat_ok w al ll cl (by omega) _ hg
  obtain ⟨n, lj, t, we, e1, e2⟩ := cencode_both ll m hm (by omega) hm32
  obtain ⟨a, b, c, d, wa, a1, a2⟩ := cafter_both ll m hm (by omega) hm32
  unfold Res at e1 e2
  unfold ResA at a1 a2
  rw [← hlm] at e1 e2 a1 a2
  have e1 := Go.Lib.hid e1
  have e2 := Go.Lib.hid e2
  have a1 := Go.Lib.hid a1
  have a2 := Go.Lib.hid a2
  have wfo := Go.Lib.hid hr.wf
  have s1 : Hid (∀ w b c b' c', Row .u8 w b n c lj → Row .u8 w b' n c' lj → Calls Try.prog 20 #[.agg #[.slice b n c, .int .i64 t], .agg #[.slice b' n c', .int .i64 t]] w fun e W' => e = .returned (.bool true) ∧ Below w.heap.size w W') := Go.Lib.hid fun w b c b' c' h h' => by
    have := RSame_ok w b n c t lj h b' n c' t lj h'
    simpa using this
  have s2 : Hid (∀ w b c, Row .u32 w b ll c l → Row .u32 w al ll cl l → Calls Try.prog 21 #[.slice b ll c, .slice al ll cl] w fun e W' => e = .returned (.bool true) ∧ Below w.heap.size w W') := Go.Lib.hid fun w b c h h' => by
    have := CSame_ok w b ll c l h al ll cl l h'
    simpa using this
  have q1 := sameD_self a b c d
  have hWE0 := Go.Lib.hid (Below.refl W.heap.size W)
  have RE0_l := Go.Lib.hid hr
  clear hr hlm hm hm32
  go_enter Try.func4, Try.ntmps4
  go_wp2_with (first
    | (go_at_call 17; ((with_reducible refine (hg.out _).mono ?_)); rintro e wz ⟨rfl, rfl⟩)
    | (at_builtin; refine law_appendRow elU32 _ rfl _ _ rfl W.heap.size _ 0 [] rfl (own_empty W 57 .u32) al ll cl l rfl (RE0_l.out.below (below1 W (.cells #[] 57)) (Nat.le_refl _)) (by omega) (by simp) ?_; intro v1 w1 hown1 hbx1; simp only [Nat.zero_add, List.nil_append] at hown1; obtain ⟨o1, p1, rfl⟩ := own_form hown1; have hb1 := (below1 W (.cells #[] 57)).trans hbx1; clear hbx1; have hWE1 := Go.Lib.hid hWE0.out; have hW1 := Go.Lib.hid (hWE1.out.trans (hb1.mono hWE1.out.size)); have R1_l := Go.Lib.hid (RE0_l.out.below hb1 (Nat.le_refl _)); have R1_o := Go.Lib.hid (Row.of_own hown1 wfo.out); have O1_o := Go.Lib.hid hown1; clear hown1 hb1)
    | (go_at_call 11; ((with_reducible refine (e1.out _ _ _ ?h1).mono ?_)); (case h1 => exact R1_o.out); rintro e w2 ⟨b2, cp2, rfl, hr2, hb2⟩; have hWE2 := Go.Lib.hid hW1.out; have hW2 := Go.Lib.hid (hWE2.out.trans (hb2.mono hWE2.out.size)); have R2_l := Go.Lib.hid (R1_l.out.below hb2 (Nat.le_refl _)); have R2_o := Go.Lib.hid (R1_o.out.below hb2 (Nat.le_refl _)); have R2_p := Go.Lib.hid hr2; clear hr2; clear hb2)
    | (go_at_call 18; ((with_reducible refine (e2.out _ _ _ ?h1).mono ?_)); (case h1 => exact (R2_l.out.below (below1 w2 (.cells #[(.slice b2 n cp2), .int .i64 t] 24)) (Nat.le_refl _))); rintro e w3 ⟨b3, cp3, rfl, hr3, hb3⟩; have hWE3 := Go.Lib.hid (hW2.out.alloc hW2.out.size (.cells #[(.slice b2 n cp2), .int .i64 t] 24)); have hW3 := Go.Lib.hid (hWE3.out.trans (hb3.mono hWE3.out.size)); have R3_l := Go.Lib.hid ((R2_l.out.below (below1 w2 (.cells #[(.slice b2 n cp2), .int .i64 t] 24)) (Nat.le_refl _)).below hb3 (Nat.le_refl _)); have R3_o := Go.Lib.hid ((R2_o.out.below (below1 w2 (.cells #[(.slice b2 n cp2), .int .i64 t] 24)) (Nat.le_refl _)).below hb3 (Nat.le_refl _)); have R3_p := Go.Lib.hid ((R2_p.out.below (below1 w2 (.cells #[(.slice b2 n cp2), .int .i64 t] 24)) (Nat.le_refl _)).below hb3 (Nat.le_refl _)); have R3_q := Go.Lib.hid hr3; clear hr3; have BE3_p := Go.Lib.hid (box1 w2 (.slice b2 n cp2) t); have B3_p := Go.Lib.hid (BE3_p.out.below hb3 BE3_p.out.lt); obtain ⟨k3p0, k3p1, k3p2, k3p3⟩ := B3_p.out.cells; have l3p := B3_p.out.lt; have n3p : w2.heap.size ≠ w3.heap.size := (by omega); clear hb3)
    | (go_at_call 12; ((with_reducible refine (a1.out _ _ _ ?h1).mono ?_)); (case h1 => exact (R3_o.out.below (below1 w3 (.cells #[(.slice b3 n cp3), .int .i64 t] 24)) (Nat.le_refl _))); rintro e w4 ⟨rfl, hb4⟩; have hWE4 := Go.Lib.hid (hW3.out.alloc hW3.out.size (.cells #[(.slice b3 n cp3), .int .i64 t] 24)); have hW4 := Go.Lib.hid (hWE4.out.trans (hb4.mono hWE4.out.size)); have R4_l := Go.Lib.hid ((R3_l.out.below (below1 w3 (.cells #[(.slice b3 n cp3), .int .i64 t] 24)) (Nat.le_refl _)).below hb4 (Nat.le_refl _)); have R4_o := Go.Lib.hid ((R3_o.out.below (below1 w3 (.cells #[(.slice b3 n cp3), .int .i64 t] 24)) (Nat.le_refl _)).below hb4 (Nat.le_refl _)); have R4_p := Go.Lib.hid ((R3_p.out.below (below1 w3 (.cells #[(.slice b3 n cp3), .int .i64 t] 24)) (Nat.le_refl _)).below hb4 (Nat.le_refl _)); have R4_q := Go.Lib.hid ((R3_q.out.below (below1 w3 (.cells #[(.slice b3 n cp3), .int .i64 t] 24)) (Nat.le_refl _)).below hb4 (Nat.le_refl _)); have BE4_p := Go.Lib.hid (B3_p.out.alloc (.cells #[(.slice b3 n cp3), .int .i64 t] 24)); have B4_p := Go.Lib.hid (BE4_p.out.below hb4 BE4_p.out.lt); obtain ⟨k4p0, k4p1, k4p2, k4p3⟩ := B4_p.out.cells; have BE4_q := Go.Lib.hid (box1 w3 (.slice b3 n cp3) t); have B4_q := Go.Lib.hid (BE4_q.out.below hb4 BE4_q.out.lt); obtain ⟨k4q0, k4q1, k4q2, k4q3⟩ := B4_q.out.cells; have l4p := B4_p.out.lt; have n4p : w2.heap.size ≠ w4.heap.size := (by omega); have l4q := B4_q.out.lt; have n4q : w3.heap.size ≠ w4.heap.size := (by omega); clear hb4)
    | (go_at_call 19; ((with_reducible refine (a2.out _ _ _ ?h1).mono ?_)); (case h1 => exact (R4_l.out.below (below1 w4 (.cells #[.int .i64 a, .int .i64 b, .int .u64 c, .int .u64 d] 31)) (Nat.le_refl _))); rintro e w5 ⟨rfl, hb5⟩; have hWE5 := Go.Lib.hid (hW4.out.alloc hW4.out.size (.cells #[.int .i64 a, .int .i64 b, .int .u64 c, .int .u64 d] 31)); have hW5 := Go.Lib.hid (hWE5.out.trans (hb5.mono hWE5.out.size)); have R5_l := Go.Lib.hid ((R4_l.out.below (below1 w4 (.cells #[.int .i64 a, .int .i64 b, .int .u64 c, .int .u64 d] 31)) (Nat.le_refl _)).below hb5 (Nat.le_refl _)); have R5_o := Go.Lib.hid ((R4_o.out.below (below1 w4 (.cells #[.int .i64 a, .int .i64 b, .int .u64 c, .int .u64 d] 31)) (Nat.le_refl _)).below hb5 (Nat.le_refl _)); have R5_p := Go.Lib.hid ((R4_p.out.below (below1 w4 (.cells #[.int .i64 a, .int .i64 b, .int .u64 c, .int .u64 d] 31)) (Nat.le_refl _)).below hb5 (Nat.le_refl _)); have R5_q := Go.Lib.hid ((R4_q.out.below (below1 w4 (.cells #[.int .i64 a, .int .i64 b, .int .u64 c, .int .u64 d] 31)) (Nat.le_refl _)).below hb5 (Nat.le_refl _)); have BE5_p := Go.Lib.hid (B4_p.out.alloc (.cells #[.int .i64 a, .int .i64 b, .int .u64 c, .int .u64 d] 31)); have B5_p := Go.Lib.hid (BE5_p.out.below hb5 BE5_p.out.lt); obtain ⟨k5p0, k5p1, k5p2, k5p3⟩ := B5_p.out.cells; have BE5_q := Go.Lib.hid (B4_q.out.alloc (.cells #[.int .i64 a, .int .i64 b, .int .u64 c, .int .u64 d] 31)); have B5_q := Go.Lib.hid (BE5_q.out.below hb5 BE5_q.out.lt); obtain ⟨k5q0, k5q1, k5q2, k5q3⟩ := B5_q.out.cells; have BE5_x := Go.Lib.hid (duat1 w4 a b c d); have B5_x := Go.Lib.hid (BE5_x.out.below hb5 BE5_x.out.lt); obtain ⟨k5x0, k5x1, k5x2, k5x3, k5x4, k5x5, k5x6, k5x7⟩ := B5_x.out.cells; have l5p := B5_p.out.lt; have n5p : w2.heap.size ≠ w5.heap.size := (by omega); have l5q := B5_q.out.lt; have n5q : w3.heap.size ≠ w5.heap.size := (by omega); have l5x := B5_x.out.lt; have n5x : w4.heap.size ≠ w5.heap.size := (by omega); clear hb5)
    | (go_at_call 20; ((with_reducible refine (s1.out _ _ _ _ _ ?h1 ?h2).mono ?_)); (case h1 => exact (R5_p.out.below (below1 w5 (.cells #[.int .i64 a, .int .i64 b, .int .u64 c, .int .u64 d] 31)) (Nat.le_refl _))); (case h2 => exact (R5_q.out.below (below1 w5 (.cells #[.int .i64 a, .int .i64 b, .int .u64 c, .int .u64 d] 31)) (Nat.le_refl _))); rintro e w6 ⟨rfl, hb6⟩; have hWE6 := Go.Lib.hid (hW5.out.alloc hW5.out.size (.cells #[.int .i64 a, .int .i64 b, .int .u64 c, .int .u64 d] 31)); have hW6 := Go.Lib.hid (hWE6.out.trans (hb6.mono hWE6.out.size)); have R6_l := Go.Lib.hid ((R5_l.out.below (below1 w5 (.cells #[.int .i64 a, .int .i64 b, .int .u64 c, .int .u64 d] 31)) (Nat.le_refl _)).below hb6 (Nat.le_refl _)); have R6_o := Go.Lib.hid ((R5_o.out.below (below1 w5 (.cells #[.int .i64 a, .int .i64 b, .int .u64 c, .int .u64 d] 31)) (Nat.le_refl _)).below hb6 (Nat.le_refl _)); have R6_p := Go.Lib.hid ((R5_p.out.below (below1 w5 (.cells #[.int .i64 a, .int .i64 b, .int .u64 c, .int .u64 d] 31)) (Nat.le_refl _)).below hb6 (Nat.le_refl _)); have R6_q := Go.Lib.hid ((R5_q.out.below (below1 w5 (.cells #[.int .i64 a, .int .i64 b, .int .u64 c, .int .u64 d] 31)) (Nat.le_refl _)).below hb6 (Nat.le_refl _)); have BE6_p := Go.Lib.hid (B5_p.out.alloc (.cells #[.int .i64 a, .int .i64 b, .int .u64 c, .int .u64 d] 31)); have B6_p := Go.Lib.hid (BE6_p.out.below hb6 BE6_p.out.lt); obtain ⟨k6p0, k6p1, k6p2, k6p3⟩ := B6_p.out.cells; have BE6_q := Go.Lib.hid (B5_q.out.alloc (.cells #[.int .i64 a, .int .i64 b, .int .u64 c, .int .u64 d] 31)); have B6_q := Go.Lib.hid (BE6_q.out.below hb6 BE6_q.out.lt); obtain ⟨k6q0, k6q1, k6q2, k6q3⟩ := B6_q.out.cells; have BE6_x := Go.Lib.hid (B5_x.out.alloc (.cells #[.int .i64 a, .int .i64 b, .int .u64 c, .int .u64 d] 31)); have B6_x := Go.Lib.hid (BE6_x.out.below hb6 BE6_x.out.lt); obtain ⟨k6x0, k6x1, k6x2, k6x3, k6x4, k6x5, k6x6, k6x7⟩ := B6_x.out.cells; have BE6_y := Go.Lib.hid (duat1 w5 a b c d); have B6_y := Go.Lib.hid (BE6_y.out.below hb6 BE6_y.out.lt); obtain ⟨k6y0, k6y1, k6y2, k6y3, k6y4, k6y5, k6y6, k6y7⟩ := B6_y.out.cells; clear hb6)
    | (go_at_call 21; ((with_reducible refine (s2.out _ _ _ ?h1 ?h2).mono ?_)); (case h1 => exact R6_o.out); (case h2 => exact R6_l.out); rintro e w7 ⟨rfl, hb7⟩; have hWE7 := Go.Lib.hid hW6.out; have hW7 := Go.Lib.hid (hWE7.out.trans (hb7.mono hWE7.out.size)); have R7_l := Go.Lib.hid (R6_l.out.below hb7 (Nat.le_refl _)); have R7_o := Go.Lib.hid (R6_o.out.below hb7 (Nat.le_refl _)); have R7_p := Go.Lib.hid (R6_p.out.below hb7 (Nat.le_refl _)); have R7_q := Go.Lib.hid (R6_q.out.below hb7 (Nat.le_refl _)); have BE7_p := Go.Lib.hid B6_p.out; have B7_p := Go.Lib.hid (BE7_p.out.below hb7 BE7_p.out.lt); obtain ⟨k7p0, k7p1, k7p2, k7p3⟩ := B7_p.out.cells; have BE7_q := Go.Lib.hid B6_q.out; have B7_q := Go.Lib.hid (BE7_q.out.below hb7 BE7_q.out.lt); obtain ⟨k7q0, k7q1, k7q2, k7q3⟩ := B7_q.out.cells; have BE7_x := Go.Lib.hid B6_x.out; have B7_x := Go.Lib.hid (BE7_x.out.below hb7 BE7_x.out.lt); obtain ⟨k7x0, k7x1, k7x2, k7x3, k7x4, k7x5, k7x6, k7x7⟩ := B7_x.out.cells; have BE7_y := Go.Lib.hid B6_y.out; have B7_y := Go.Lib.hid (BE7_y.out.below hb7 BE7_y.out.lt); obtain ⟨k7y0, k7y1, k7y2, k7y3, k7y4, k7y5, k7y6, k7y7⟩ := B7_y.out.cells; clear hb7))
  go_ret
  exact ⟨rfl, hW7.out⟩

theorem coderWrites_walk (ax0 : Option Addr) (lenx0 capx0 : Nat) (zx0 : List Int) (W : World) (wx0 : IsRow .u32 W ax0 lenx0 capx0 zx0) :
    Calls Try.prog 4 #[.slice ax0 lenx0 capx0] W fun e w' => e = .returned (.bool true) ∧ Below W.heap.size W w' := by
  have hr := Row.of_isRow wx0
  have hm := Nat.le_trans hr.hcap hr.hmax
  unfold maxLen at hm
  cases hg : decide ((150 < lenx0 ∧ lenx0 ≤ 4000) ∨ 4010 < lenx0) with
  | true => exact coderWrites_great W _ _ _ (by omega) hg
  | false =>
    have h1 := of_decide_eq_false hg
    obtain ⟨m, h2, h3⟩ := nats_of hr.wf
    exact coderWrites_in W _ _ _ _ m hr (by omega) hg h2 (by rw [← hr.hlen, h2, List.length_map]) h3
end Go.Proofs.Ytifbigmgiakakaa
