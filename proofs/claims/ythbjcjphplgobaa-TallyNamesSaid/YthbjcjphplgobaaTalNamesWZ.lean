/- TallyNames: the chapter's examples, limits and errors. -/
import Derived.Test.YthbjcjphplgobaaZ13

namespace Go.Proofs.Ythbjcjphplgobaa
open Go.RowKit Cad

theorem zeros_wfU (n : Nat) : ∀ x ∈ List.replicate n (0 : Int), (Lit.int .u32 x).wf = true := fun x hx => by rw [(List.mem_replicate.1 hx).2]; decide
theorem lens_zero : lens dStart [0] = [11] := by decide +kernel
theorem fits_zero : fits [11] 4 = 0 := by decide +kernel
theorem lens_great : lens dStart [4294967295, 4294967295] = [81, 81] := by decide +kernel

set_option maxRecDepth 100000 in
set_option maxHeartbeats 4000000 in
theorem tallyNames_in (W : World) (n1 : Nat) (hn1 : (4001 : Int) = n1) :
    Calls Try.prog 3 #[] W fun e w' => e = .returned (.bool true) ∧ Below W.heap.size W w' := by
  have gn1 : n1 ≤ 17592186044416 := by omega
  have hg : 4000 < n1 := by omega
  have hx : n1 ≤ 9223372036854775807 := by omega
  have h0 : ∀ x ∈ ([] : List Nat), x < 4294967296 := fun x hx => by cases hx
  have e1 : Hid (∀ w a c, Row .u32 w a n1 c (List.replicate n1 0) → Calls Try.prog 10 #[.slice a n1 c] w fun r W' => ∃ a c, r = .returned (.tuple #[.slice a 0 c, .int .i64 4]) ∧ Below w.heap.size w W') := Go.Lib.hid fun w a c _ => (TEach_many w a n1 c hg hx).mono fun _ _ ⟨a, c, e, _, hb⟩ => ⟨a, c, e, hb⟩
  have e2 : Hid (∀ w a c, Row .u32 w a n1 c (List.replicate n1 0) → Calls Try.prog 11 #[.slice a n1 c] w fun r W' => r = .returned (.tuple #[.int .i64 0, .int .i64 4]) ∧ Below w.heap.size w W') := Go.Lib.hid fun w a c _ => TLength_many w a n1 c hg hx
  have e3 : Hid (∀ w a c, Row .u32 w a n1 c (List.replicate n1 0) → Calls Try.prog 12 #[.slice a n1 c] w fun r W' => r = .returned (.tuple #[.int .i64 0, .int .i64 4]) ∧ Below w.heap.size w W') := Go.Lib.hid fun w a c _ => TBytes_many w a n1 c hg hx
  have e4 : Hid (∀ w a c, Row .u32 w a n1 c (List.replicate n1 0) → Calls Try.prog 13 #[.slice a n1 c, .int .i64 3] w fun r W' => r = .returned (.tuple #[.int .i64 0, .int .i64 4]) ∧ Below w.heap.size w W') := Go.Lib.hid fun w a c _ => TFits_many w a n1 c 3 hg hx
  have e5 : Hid (∀ w, Calls Try.prog 13 #[.slice none 0 0, .int .i64 3] w fun r W' => r = .returned (.tuple #[.int .i64 0, .int .i64 2]) ∧ Below w.heap.size w W') := Go.Lib.hid fun w => TFits_arg w none 0 0 3 [] (Row.nil_row _ _) rfl (by simp) (by decide) (by decide)
  have e6 : Hid (∀ (w : World) (x : Nat), x = w.heap.size → Calls Try.prog 13 #[.slice (some ⟨x, 0, none⟩) 1 1, .int .i64 4] (w.alloc (.cells #[.int .u32 0] 30)) fun r W' => r = .returned (.tuple #[.int .i64 0, .int .i64 0]) ∧ Below w.heap.size w W') := Go.Lib.hid fun w x hx => by
    subst hx
    have := TFits_ok (w.alloc (.cells #[.int .u32 0] 30)) (some ⟨w.heap.size, 0, none⟩) 1 1 4 [0] (lit_rowK .u32 30 w [0] 1 (0, 0) rfl (by decide) (by decide)) (by decide) rfl (by decide) (by decide)
    rw [lens_zero, fits_zero] at this
    exact this.mono fun _ _ ⟨e, hb⟩ => ⟨e, (below1 w _).trans (hb.mono (by simp))⟩
  have m1 : Hid (∀ w, Calls Try.prog 14 #[.int .i64 (-1)] w fun r W' => r = .returned (.tuple #[.int .i64 0, .int .i64 2]) ∧ Below w.heap.size w W') := Go.Lib.hid fun w => TMost_no w (-1) (.inl (by decide))
  have m2 : Hid (∀ w, Calls Try.prog 14 #[.int .i64 4001] w fun r W' => r = .returned (.tuple #[.int .i64 0, .int .i64 2]) ∧ Below w.heap.size w W') := Go.Lib.hid fun w => TMost_no w 4001 (.inr (by decide))
  have m3 : Hid (∀ w, Calls Try.prog 14 #[.int .i64 4000] w fun r W' => r = .returned (.tuple #[.int .i64 324000, .int .i64 0]) ∧ Below w.heap.size w W') := Go.Lib.hid fun w => (TMost_ok w 4000 (by decide)).mono fun _ _ ⟨e, h⟩ => ⟨e, h⟩
  have m4 : Hid (∀ w, Calls Try.prog 14 #[.int .i64 0] w fun r W' => r = .returned (.tuple #[.int .i64 0, .int .i64 0]) ∧ Below w.heap.size w W') := Go.Lib.hid fun w => (TMost_ok w 0 (by decide)).mono fun _ _ ⟨e, h⟩ => ⟨e, h⟩
  have e7 : Hid (∀ w, Calls Try.prog 12 #[.slice none 0 0] w fun r W' => r = .returned (.tuple #[.int .i64 4, .int .i64 0]) ∧ Below w.heap.size w W') := Go.Lib.hid fun w => (TBytes_ok w none 0 0 [] (Row.nil_row _ _) (by decide) rfl h0).mono fun _ _ ⟨e, h⟩ => ⟨e, h⟩
  have e8 : Hid (∀ (w : World) (x : Nat), x = w.heap.size → Calls Try.prog 10 #[.slice (some ⟨x, 0, none⟩) 2 2] (w.alloc (.cells #[.int .u32 4294967295, .int .u32 4294967295] 30)) fun r W' => ∃ a c, r = .returned (.tuple #[.slice a 2 c, .int .i64 0]) ∧ Row .i64 W' a 2 c [81, 81] ∧ Below w.heap.size w W') := Go.Lib.hid fun w x hx => by
    subst hx
    have := TEach_ok (w.alloc (.cells #[.int .u32 4294967295, .int .u32 4294967295] 30)) (some ⟨w.heap.size, 0, none⟩) 2 2 [4294967295, 4294967295] (lit_rowK .u32 30 w [4294967295, 4294967295] 2 (0, 0) rfl (by decide) (by decide)) (by decide) rfl (by decide)
    rw [lens_great] at this
    exact this.mono fun _ _ ⟨a, c, e, hr, hb⟩ => ⟨a, c, e, hr, (below1 w _).trans (hb.mono (by simp))⟩
  have s9 : Hid (∀ (w : World) (x : Nat) a c, x = w.heap.size → Row .i64 w a 2 c [81, 81] → Calls Try.prog 15 #[.slice a 2 c, .slice (some ⟨x, 0, none⟩) 2 2] (w.alloc (.cells #[.int .i64 81, .int .i64 81] 3)) fun e W' => e = .returned (.bool true) ∧ Below w.heap.size w W') := Go.Lib.hid fun w x a c hx hr => by
    subst hx
    have := KtSame_ok _ a 2 c [81, 81] (hr.below (below1 w _) (Nat.le_refl _)) _ 2 2 [81, 81] (lit_rowK .i64 3 w [81, 81] 2 (0, 0) rfl (by decide) (by decide))
    refine this.mono ?_
    rintro e w' ⟨h1, h2⟩
    exact ⟨by rw [h1]; rfl, (below1 w _).trans (h2.mono (by simp))⟩
  have hWE0 := Go.Lib.hid (Below.refl W.heap.size W)
  replace hn1 := Go.Lib.hid hn1
  clear h0 hx hg
  go_enter Try.func3, Try.ntmps3
  go_wp2_with (first
    | (at_make; refine law_make elU32 W rfl _ _ rfl .i64 .i64 4001 4001 n1 rfl rfl hn1.out hn1.out gn1 ?_; intro w1 hown1 hb1 hs1; have hWE1 := Go.Lib.hid hWE0.out; have hW1 := Go.Lib.hid (hWE1.out.trans (hb1.mono hWE1.out.size)); have R1_m := Go.Lib.hid (Row.of_own hown1 (zeros_wfU n1)); clear hown1 hb1 hs1)
    | (go_at_call 10; ((with_reducible refine (e1.out _ _ _ ?h1).mono ?_)); (case h1 => exact R1_m.out); rintro e w2 ⟨b2, cp2, rfl, hb2⟩; have hWE2 := Go.Lib.hid hW1.out; have hW2 := Go.Lib.hid (hWE2.out.trans (hb2.mono hWE2.out.size)); have R2_m := Go.Lib.hid (R1_m.out.below hb2 (Nat.le_refl _)); clear hb2)
    | (go_at_call 11; ((with_reducible refine (e2.out _ _ _ ?h1).mono ?_)); (case h1 => exact R2_m.out); rintro e w3 ⟨rfl, hb3⟩; have hWE3 := Go.Lib.hid hW2.out; have hW3 := Go.Lib.hid (hWE3.out.trans (hb3.mono hWE3.out.size)); have R3_m := Go.Lib.hid (R2_m.out.below hb3 (Nat.le_refl _)); clear hb3)
    | (go_at_call 12; ((with_reducible refine (e3.out _ _ _ ?h1).mono ?_)); (case h1 => exact R3_m.out); rintro e w4 ⟨rfl, hb4⟩; have hWE4 := Go.Lib.hid hW3.out; have hW4 := Go.Lib.hid (hWE4.out.trans (hb4.mono hWE4.out.size)); have R4_m := Go.Lib.hid (R3_m.out.below hb4 (Nat.le_refl _)); clear hb4)
    | (go_at_call 13; ((with_reducible refine (e4.out _ _ _ ?h1).mono ?_)); (case h1 => exact R4_m.out); rintro e w5 ⟨rfl, hb5⟩; have hWE5 := Go.Lib.hid hW4.out; have hW5 := Go.Lib.hid (hWE5.out.trans (hb5.mono hWE5.out.size)); have R5_m := Go.Lib.hid (R4_m.out.below hb5 (Nat.le_refl _)); clear hb5)
    | (go_at_call 13; ((with_reducible refine (e5.out _).mono ?_)); rintro e w6 ⟨rfl, hb6⟩; have hWE6 := Go.Lib.hid hW5.out; have hW6 := Go.Lib.hid (hWE6.out.trans (hb6.mono hWE6.out.size)); clear hb6)
    | (go_at_call 13; ((with_reducible refine (e6.out _ _ ?hx).mono ?_)); (case hx => simp); rintro e w7 ⟨rfl, hb7⟩; have hWE7 := Go.Lib.hid hW6.out; have hW7 := Go.Lib.hid (hWE7.out.trans (hb7.mono hWE7.out.size)); clear hb7)
    | (go_at_call 14; ((with_reducible refine (m1.out _).mono ?_)); rintro e w8 ⟨rfl, hb8⟩; have hWE8 := Go.Lib.hid hW7.out; have hW8 := Go.Lib.hid (hWE8.out.trans (hb8.mono hWE8.out.size)); clear hb8)
    | (go_at_call 14; ((with_reducible refine (m2.out _).mono ?_)); rintro e w9 ⟨rfl, hb9⟩; have hWE9 := Go.Lib.hid hW8.out; have hW9 := Go.Lib.hid (hWE9.out.trans (hb9.mono hWE9.out.size)); clear hb9)
    | (go_at_call 14; ((with_reducible refine (m3.out _).mono ?_)); rintro e w10 ⟨rfl, hb10⟩; have hWE10 := Go.Lib.hid hW9.out; have hW10 := Go.Lib.hid (hWE10.out.trans (hb10.mono hWE10.out.size)); clear hb10)
    | (go_at_call 14; ((with_reducible refine (m4.out _).mono ?_)); rintro e w11 ⟨rfl, hb11⟩; have hWE11 := Go.Lib.hid hW10.out; have hW11 := Go.Lib.hid (hWE11.out.trans (hb11.mono hWE11.out.size)); clear hb11)
    | (go_at_call 12; ((with_reducible refine (e7.out _).mono ?_)); rintro e w12 ⟨rfl, hb12⟩; have hWE12 := Go.Lib.hid hW11.out; have hW12 := Go.Lib.hid (hWE12.out.trans (hb12.mono hWE12.out.size)); clear hb12)
    | (go_at_call 10; ((with_reducible refine (e8.out _ _ ?hx).mono ?_)); (case hx => simp); rintro e w13 ⟨b13, cp13, rfl, hr13, hb13⟩; have hWE13 := Go.Lib.hid hW12.out; have hW13 := Go.Lib.hid (hWE13.out.trans (hb13.mono hWE13.out.size)); have R13_g := Go.Lib.hid hr13; clear hr13; clear hb13)
    | (go_at_call 15; ((with_reducible refine (s9.out _ _ _ _ ?hx ?h1).mono ?_)); (case hx => simp); (case h1 => exact R13_g.out); rintro e w14 ⟨rfl, hb14⟩; have hWE14 := Go.Lib.hid hW13.out; have hW14 := Go.Lib.hid (hWE14.out.trans (hb14.mono hWE14.out.size)); have R14_g := Go.Lib.hid (R13_g.out.below hb14 (Nat.le_refl _)); clear hb14)
    | (go_at_call 16; refine (alive12_ok _).mono ?_; rintro e w15 ⟨rfl, hb15⟩; have hWE15 := Go.Lib.hid hW14.out; have hW15 := Go.Lib.hid (hWE15.out.trans (hb15.mono hWE15.out.size)); clear hb15))
  go_ret
  exact ⟨rfl, hW15.out⟩

theorem tallyNames_walk (W : World) :
    Calls Try.prog 3 #[] W fun e w' => e = .returned (.bool true) ∧ Below W.heap.size W w' :=
  tallyNames_in W 4001 rfl
end Go.Proofs.Ythbjcjphplgobaa
