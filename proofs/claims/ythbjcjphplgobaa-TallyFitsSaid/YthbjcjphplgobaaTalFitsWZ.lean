/- TallyFits: Most and Fits are the reference's. -/
import Derived.Test.YthbjcjphplgobaaZ13

namespace Go.Proofs.Ythbjcjphplgobaa
open Go.RowKit Cad

set_option maxRecDepth 100000 in
theorem tallyFits_great (W : World) (al : Option Addr) (ll cl : Nat) (b n : Int) (hl : ll ≤ 9223372036854775807) (hg : decide ((150 < ll ∧ ll ≤ 4000) ∨ 4010 < ll) = true) :
    Calls Try.prog 5 #[.slice al ll cl, .int .i64 b, .int .i64 n] W fun e w' => e = .returned (.bool true) ∧ Below W.heap.size W w' := by
  have hG := Go.Lib.hid fun w => CGreat_ok w al ll cl hl _ hg
  clear hg
  go_enter Try.func5, Try.ntmps5
  go_wp2_with (go_at_call 17; refine (hG.out _).mono ?_; rintro e w1 ⟨rfl, rfl⟩)
  go_ret
  exact ⟨rfl, Below.refl _ _⟩

set_option maxRecDepth 100000 in
set_option maxHeartbeats 4000000 in
theorem tallyFits_in (W : World) (al : Option Addr) (ll cl : Nat) (b n : Int) (l : List Int) (m : List Nat) (hr : Row .u32 W al ll cl l) (hl : ll ≤ 4010) (hg : decide ((150 < ll ∧ ll ≤ 4000) ∨ 4010 < ll) = false) (hlm : l = m.map Int.ofNat) (hm : m.length = ll) (hm32 : ∀ x ∈ m, x < 4294967296) :
    Calls Try.prog 5 #[.slice al ll cl, .int .i64 b, .int .i64 n] W fun e w' => e = .returned (.bool true) ∧ Below W.heap.size W w' := by
  have hg := Go.Lib.hid fun w => CGreat_ok w al ll cl (by omega) _ hg
  obtain ⟨x, e, m1, m2⟩ := tmost_both n
  obtain ⟨y, f, f1, f2⟩ := tfits_both ll m hm hm32 (by omega) b
  rw [← hlm] at f1 f2
  have m1 := Go.Lib.hid m1
  have m2 := Go.Lib.hid m2
  have f1 := Go.Lib.hid f1
  have f2 := Go.Lib.hid f2
  have hWE0 := Go.Lib.hid (Below.refl W.heap.size W)
  have RE0_l := Go.Lib.hid hr
  clear hr hlm hm hm32
  go_enter Try.func5, Try.ntmps5
  go_wp2_with (first
    | (go_at_call 17; ((with_reducible refine (hg.out _).mono ?_)); rintro e wz ⟨rfl, rfl⟩)
    | (go_at_call 14; ((with_reducible refine (m1.out _).mono ?_)); rintro e w1 ⟨rfl, hb1⟩; have hWE1 := Go.Lib.hid hWE0.out; have hW1 := Go.Lib.hid (hWE1.out.trans (hb1.mono hWE1.out.size)); have R1_l := Go.Lib.hid (RE0_l.out.below hb1 (Nat.le_refl _)); clear hb1)
    | (go_at_call 22; ((with_reducible refine (m2.out _).mono ?_)); rintro e w2 ⟨rfl, hb2⟩; have hWE2 := Go.Lib.hid hW1.out; have hW2 := Go.Lib.hid (hWE2.out.trans (hb2.mono hWE2.out.size)); have R2_l := Go.Lib.hid (R1_l.out.below hb2 (Nat.le_refl _)); clear hb2)
    | (go_at_call 13; ((with_reducible refine (f1.out _ _ _ ?h1).mono ?_)); (case h1 => exact R2_l.out); rintro e w3 ⟨rfl, hb3⟩; have hWE3 := Go.Lib.hid hW2.out; have hW3 := Go.Lib.hid (hWE3.out.trans (hb3.mono hWE3.out.size)); have R3_l := Go.Lib.hid (R2_l.out.below hb3 (Nat.le_refl _)); clear hb3)
    | (go_at_call 23; ((with_reducible refine (f2.out _ _ _ ?h1).mono ?_)); (case h1 => exact R3_l.out); rintro e w4 ⟨rfl, hb4⟩; have hWE4 := Go.Lib.hid hW3.out; have hW4 := Go.Lib.hid (hWE4.out.trans (hb4.mono hWE4.out.size)); have R4_l := Go.Lib.hid (R3_l.out.below hb4 (Nat.le_refl _)); clear hb4))
  go_ret
  exact ⟨by simp, hW4.out⟩

theorem tallyFits_walk (ax0 : Option Addr) (lenx0 capx0 : Nat) (zx0 : List Int) (x1 : Int) (x2 : Int) (W : World) (wx0 : IsRow .u32 W ax0 lenx0 capx0 zx0) (_wx1 : (Lit.int .i64 x1).wf = true) (_wx2 : (Lit.int .i64 x2).wf = true) :
    Calls Try.prog 5 #[.slice ax0 lenx0 capx0, .int .i64 x1, .int .i64 x2] W fun e w' => e = .returned (.bool true) ∧ Below W.heap.size W w' := by
  have hr := Row.of_isRow wx0
  have hm := Nat.le_trans hr.hcap hr.hmax
  unfold maxLen at hm
  cases hg : decide ((150 < lenx0 ∧ lenx0 ≤ 4000) ∨ 4010 < lenx0) with
  | true => exact tallyFits_great W _ _ _ _ _ (by omega) hg
  | false =>
    have h1 := of_decide_eq_false hg
    obtain ⟨m, h2, h3⟩ := nats_of hr.wf
    exact tallyFits_in W _ _ _ _ _ _ m hr (by omega) hg h2 (by rw [← hr.hlen, h2, List.length_map]) h3
end Go.Proofs.Ythbjcjphplgobaa
