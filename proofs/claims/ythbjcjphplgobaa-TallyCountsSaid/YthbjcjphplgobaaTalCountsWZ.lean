/- TallyCounts: Each, Length and Bytes are the reference's. -/
import Derived.Test.YthbjcjphplgobaaZ13

namespace Go.Proofs.Ythbjcjphplgobaa
open Go.RowKit Cad

set_option maxRecDepth 100000 in
theorem tallyCounts_great (W : World) (al : Option Addr) (ll cl : Nat) (hl : ll ≤ 9223372036854775807) (hg : decide ((150 < ll ∧ ll ≤ 4000) ∨ 4010 < ll) = true) :
    Calls Try.prog 4 #[.slice al ll cl] W fun e w' => e = .returned (.bool true) ∧ Below W.heap.size W w' := by
  have hG := Go.Lib.hid fun w => CGreat_ok w al ll cl hl _ hg
  clear hg
  go_enter Try.func4, Try.ntmps4
  go_wp2_with (go_at_call 17; refine (hG.out _).mono ?_; rintro e w1 ⟨rfl, rfl⟩)
  go_ret
  exact ⟨rfl, Below.refl _ _⟩

set_option maxRecDepth 100000 in
set_option maxHeartbeats 8000000 in
theorem tallyCounts_in (W : World) (al : Option Addr) (ll cl : Nat) (l : List Int) (m : List Nat) (hr : Row .u32 W al ll cl l) (hl : ll ≤ 4010) (hg : decide ((150 < ll ∧ ll ≤ 4000) ∨ 4010 < ll) = false) (hlm : l = m.map Int.ofNat) (hm : m.length = ll) (hm32 : ∀ x ∈ m, x < 4294967296) :
    Calls Try.prog 4 #[.slice al ll cl] W fun e w' => e = .returned (.bool true) ∧ Below W.heap.size W w' := by
  have hg := Go.Lib.hid fun w => CGreat_ok w al ll cl (by omega) _ hg
  obtain ⟨k, z, e, e1, e2⟩ := teach_both ll m hm hm32 (by omega)
  obtain ⟨n, f, l1, l2⟩ := tlength_both ll m hm hm32 (by omega)
  obtain ⟨x, j, y1, y2⟩ := tbytes_both ll m hm hm32 (by omega)
  unfold ResI at e1 e2
  rw [← hlm] at e1 e2 l1 l2 y1 y2
  have e1 := Go.Lib.hid e1
  have e2 := Go.Lib.hid e2
  have l1 := Go.Lib.hid l1
  have l2 := Go.Lib.hid l2
  have y1 := Go.Lib.hid y1
  have y2 := Go.Lib.hid y2
  have wfo := Go.Lib.hid hr.wf
  have s1 : Hid (∀ w b c b' c', Row .i64 w b k c z → Row .i64 w b' k c' z → Calls Try.prog 15 #[.slice b k c, .slice b' k c'] w fun e W' => e = .returned (.bool true) ∧ Below w.heap.size w W') := Go.Lib.hid fun w b c b' c' h h' => by
    have := KtSame_ok w b k c z h b' k c' z h'
    simpa using this
  have s2 : Hid (∀ w b c, Row .u32 w b ll c l → Row .u32 w al ll cl l → Calls Try.prog 21 #[.slice b ll c, .slice al ll cl] w fun e W' => e = .returned (.bool true) ∧ Below w.heap.size w W') := Go.Lib.hid fun w b c h h' => by
    have := CSame_ok w b ll c l h al ll cl l h'
    simpa using this
  have hWE0 := Go.Lib.hid (Below.refl W.heap.size W)
  have RE0_l := Go.Lib.hid hr
  clear hr hlm hm hm32
  go_enter Try.func4, Try.ntmps4
  go_wp2_with (first
    | (go_at_call 17; ((with_reducible refine (hg.out _).mono ?_)); rintro e wz ⟨rfl, rfl⟩)
    | (at_builtin; refine law_appendRow elU32 _ rfl _ _ rfl W.heap.size _ 0 [] rfl (own_empty W 30 .u32) al ll cl l rfl (RE0_l.out.below (below1 W (.cells #[] 30)) (Nat.le_refl _)) (by omega) (by simp) ?_; intro v1 w1 hown1 hbx1; simp only [Nat.zero_add, List.nil_append] at hown1; obtain ⟨o1, p1, rfl⟩ := own_form hown1; have hb1 := (below1 W (.cells #[] 30)).trans hbx1; clear hbx1; have hWE1 := Go.Lib.hid hWE0.out; have hW1 := Go.Lib.hid (hWE1.out.trans (hb1.mono hWE1.out.size)); have R1_l := Go.Lib.hid (RE0_l.out.below hb1 (Nat.le_refl _)); have R1_o := Go.Lib.hid (Row.of_own hown1 wfo.out); have O1_o := Go.Lib.hid hown1; clear hown1 hb1)
    | (go_at_call 10; ((with_reducible refine (e1.out _ _ _ ?h1).mono ?_)); (case h1 => exact R1_o.out); rintro e w2 ⟨b2, cp2, rfl, hr2, hb2⟩; have hWE2 := Go.Lib.hid hW1.out; have hW2 := Go.Lib.hid (hWE2.out.trans (hb2.mono hWE2.out.size)); have R2_l := Go.Lib.hid (R1_l.out.below hb2 (Nat.le_refl _)); have R2_o := Go.Lib.hid (R1_o.out.below hb2 (Nat.le_refl _)); have R2_p := Go.Lib.hid hr2; clear hr2; clear hb2)
    | (go_at_call 18; ((with_reducible refine (e2.out _ _ _ ?h1).mono ?_)); (case h1 => exact R2_l.out); rintro e w3 ⟨b3, cp3, rfl, hr3, hb3⟩; have hWE3 := Go.Lib.hid hW2.out; have hW3 := Go.Lib.hid (hWE3.out.trans (hb3.mono hWE3.out.size)); have R3_l := Go.Lib.hid (R2_l.out.below hb3 (Nat.le_refl _)); have R3_o := Go.Lib.hid (R2_o.out.below hb3 (Nat.le_refl _)); have R3_p := Go.Lib.hid (R2_p.out.below hb3 (Nat.le_refl _)); have R3_q := Go.Lib.hid hr3; clear hr3; clear hb3)
    | (go_at_call 11; ((with_reducible refine (l1.out _ _ _ ?h1).mono ?_)); (case h1 => exact R3_o.out); rintro e w4 ⟨rfl, hb4⟩; have hWE4 := Go.Lib.hid hW3.out; have hW4 := Go.Lib.hid (hWE4.out.trans (hb4.mono hWE4.out.size)); have R4_l := Go.Lib.hid (R3_l.out.below hb4 (Nat.le_refl _)); have R4_o := Go.Lib.hid (R3_o.out.below hb4 (Nat.le_refl _)); have R4_p := Go.Lib.hid (R3_p.out.below hb4 (Nat.le_refl _)); have R4_q := Go.Lib.hid (R3_q.out.below hb4 (Nat.le_refl _)); clear hb4)
    | (go_at_call 19; ((with_reducible refine (l2.out _ _ _ ?h1).mono ?_)); (case h1 => exact R4_l.out); rintro e w5 ⟨rfl, hb5⟩; have hWE5 := Go.Lib.hid hW4.out; have hW5 := Go.Lib.hid (hWE5.out.trans (hb5.mono hWE5.out.size)); have R5_l := Go.Lib.hid (R4_l.out.below hb5 (Nat.le_refl _)); have R5_o := Go.Lib.hid (R4_o.out.below hb5 (Nat.le_refl _)); have R5_p := Go.Lib.hid (R4_p.out.below hb5 (Nat.le_refl _)); have R5_q := Go.Lib.hid (R4_q.out.below hb5 (Nat.le_refl _)); clear hb5)
    | (go_at_call 12; ((with_reducible refine (y1.out _ _ _ ?h1).mono ?_)); (case h1 => exact R5_o.out); rintro e w6 ⟨rfl, hb6⟩; have hWE6 := Go.Lib.hid hW5.out; have hW6 := Go.Lib.hid (hWE6.out.trans (hb6.mono hWE6.out.size)); have R6_l := Go.Lib.hid (R5_l.out.below hb6 (Nat.le_refl _)); have R6_o := Go.Lib.hid (R5_o.out.below hb6 (Nat.le_refl _)); have R6_p := Go.Lib.hid (R5_p.out.below hb6 (Nat.le_refl _)); have R6_q := Go.Lib.hid (R5_q.out.below hb6 (Nat.le_refl _)); clear hb6)
    | (go_at_call 20; ((with_reducible refine (y2.out _ _ _ ?h1).mono ?_)); (case h1 => exact R6_l.out); rintro e w7 ⟨rfl, hb7⟩; have hWE7 := Go.Lib.hid hW6.out; have hW7 := Go.Lib.hid (hWE7.out.trans (hb7.mono hWE7.out.size)); have R7_l := Go.Lib.hid (R6_l.out.below hb7 (Nat.le_refl _)); have R7_o := Go.Lib.hid (R6_o.out.below hb7 (Nat.le_refl _)); have R7_p := Go.Lib.hid (R6_p.out.below hb7 (Nat.le_refl _)); have R7_q := Go.Lib.hid (R6_q.out.below hb7 (Nat.le_refl _)); clear hb7)
    | (go_at_call 15; ((with_reducible refine (s1.out _ _ _ _ _ ?h1 ?h2).mono ?_)); (case h1 => exact R7_p.out); (case h2 => exact R7_q.out); rintro e w8 ⟨rfl, hb8⟩; have hWE8 := Go.Lib.hid hW7.out; have hW8 := Go.Lib.hid (hWE8.out.trans (hb8.mono hWE8.out.size)); have R8_l := Go.Lib.hid (R7_l.out.below hb8 (Nat.le_refl _)); have R8_o := Go.Lib.hid (R7_o.out.below hb8 (Nat.le_refl _)); have R8_p := Go.Lib.hid (R7_p.out.below hb8 (Nat.le_refl _)); have R8_q := Go.Lib.hid (R7_q.out.below hb8 (Nat.le_refl _)); clear hb8)
    | (go_at_call 21; ((with_reducible refine (s2.out _ _ _ ?h1 ?h2).mono ?_)); (case h1 => exact R8_o.out); (case h2 => exact R8_l.out); rintro e w9 ⟨rfl, hb9⟩; have hWE9 := Go.Lib.hid hW8.out; have hW9 := Go.Lib.hid (hWE9.out.trans (hb9.mono hWE9.out.size)); have R9_l := Go.Lib.hid (R8_l.out.below hb9 (Nat.le_refl _)); have R9_o := Go.Lib.hid (R8_o.out.below hb9 (Nat.le_refl _)); have R9_p := Go.Lib.hid (R8_p.out.below hb9 (Nat.le_refl _)); have R9_q := Go.Lib.hid (R8_q.out.below hb9 (Nat.le_refl _)); clear hb9))
  go_ret
  exact ⟨rfl, hW9.out⟩

theorem tallyCounts_walk (ax0 : Option Addr) (lenx0 capx0 : Nat) (zx0 : List Int) (W : World) (wx0 : IsRow .u32 W ax0 lenx0 capx0 zx0) :
    Calls Try.prog 4 #[.slice ax0 lenx0 capx0] W fun e w' => e = .returned (.bool true) ∧ Below W.heap.size W w' := by
  have hr := Row.of_isRow wx0
  have hm := Nat.le_trans hr.hcap hr.hmax
  unfold maxLen at hm
  cases hg : decide ((150 < lenx0 ∧ lenx0 ≤ 4000) ∨ 4010 < lenx0) with
  | true => exact tallyCounts_great W _ _ _ (by omega) hg
  | false =>
    have h1 := of_decide_eq_false hg
    obtain ⟨m, h2, h3⟩ := nats_of hr.wf
    exact tallyCounts_in W _ _ _ _ m hr (by omega) hg h2 (by rw [← hr.hlen, h2, List.length_map]) h3
end Go.Proofs.Ythbjcjphplgobaa
