/- Crc64Sums: states and sums are the reference's. -/
import Derived.Test.YtgffegcflibclaaCsfLawA
namespace Go.Proofs.Ytgffegcflibclaa
open Go.RowKit Cad

theorem csfSums_in (W : World) (st : Nat) (a : Option Addr) (len cap : Nat) (l : List Int) (hr : Row .u8 W a len cap l) (hg0 : csfGreat len = false) (hlen : len ≤ 100100) (x e y f : Int)
    (n1 : Hid (∀ w a c, Row .u8 w a len c l → Calls Try.prog 11 #[.int .u64 st, .slice a len c] w fun r W' => r = .returned (.tuple #[.int .u64 x, .int .i64 e]) ∧ Below w.heap.size w W'))
    (n2 : Hid (∀ w, Row .u8 w a len cap l → Calls Try.prog 14 #[.int .u64 st, .slice a len cap] w fun r W' => r = .returned (.tuple #[.int .u64 x, .int .i64 e]) ∧ Below w.heap.size w W'))
    (s1 : Hid (∀ w a c, Row .u8 w a len c l → Calls Try.prog 10 #[.slice a len c] w fun r W' => r = .returned (.tuple #[.int .u64 y, .int .i64 f]) ∧ Below w.heap.size w W'))
    (s2 : Hid (∀ w, Row .u8 w a len cap l → Calls Try.prog 15 #[.slice a len cap] w fun r W' => r = .returned (.tuple #[.int .u64 y, .int .i64 f]) ∧ Below w.heap.size w W')) :
    Calls Try.prog 4 #[.int .u64 st, .slice a len cap] W fun e w' => e = .returned (.bool true) ∧ Below W.heap.size W w' := by
  have hmx := Nat.le_trans hr.hcap hr.hmax
  unfold maxLen at hmx
  have hg := Go.Lib.hid fun w => SRGreat_ok w a len cap (by omega)
  rw [hg0] at hg
  have hWE0 := Go.Lib.hid (Below.refl W.heap.size W)
  have RE0_b := Go.Lib.hid hr
  have u8o := Go.Lib.hid hr.wf
  clear hr hg0
  go_enter Try.func4, Try.ntmps4
  go_wp2_with (first
    | (go_at_call 13; ((with_reducible refine (hg.out _).mono ?_)); rintro e wz ⟨rfl, rfl⟩)
    | (at_builtin; refine law_appendRow elU8 _ rfl _ _ rfl W.heap.size _ 0 [] rfl (own_empty W 5 .u8) a len cap l rfl (RE0_b.out.below (below1 W (.cells #[] 5)) (Nat.le_refl _)) (by omega) (by simp) ?_; intro v1 w1 hown1 hbx1; simp only [Nat.zero_add, List.nil_append] at hown1; obtain ⟨o1, p1, rfl⟩ := own_form hown1; have hb1 := (below1 W (.cells #[] 5)).trans hbx1; clear hbx1; have hW1 := Go.Lib.hid (hWE0.out.trans (hb1.mono hWE0.out.size)); have R1_b := Go.Lib.hid (RE0_b.out.below hb1 (Nat.le_refl _)); have R1_o := Go.Lib.hid (Row.of_own hown1 u8o.out); have O1_o := Go.Lib.hid hown1; clear hown1 hb1)
    | (go_at_call 11; ((with_reducible refine (n1.out _ _ _ ?h1).mono ?_)); (case h1 => exact R1_o.out); rintro e w2 ⟨rfl, hb2⟩; have hWE2 := Go.Lib.hid hW1.out; have hW2 := Go.Lib.hid (hWE2.out.trans (hb2.mono hWE2.out.size)); have R2_b := Go.Lib.hid (R1_b.out.below hb2 (Nat.le_refl _)); have R2_o := Go.Lib.hid (R1_o.out.below hb2 (Nat.le_refl _)); clear hb2)
    | (go_at_call 14; ((with_reducible refine (n2.out _ ?h1).mono ?_)); (case h1 => exact R2_b.out); rintro e w3 ⟨rfl, hb3⟩; have hWE3 := Go.Lib.hid hW2.out; have hW3 := Go.Lib.hid (hWE3.out.trans (hb3.mono hWE3.out.size)); have R3_b := Go.Lib.hid (R2_b.out.below hb3 (Nat.le_refl _)); have R3_o := Go.Lib.hid (R2_o.out.below hb3 (Nat.le_refl _)); clear hb3)
    | (go_at_call 10; ((with_reducible refine (s1.out _ _ _ ?h1).mono ?_)); (case h1 => exact R3_o.out); rintro e w4 ⟨rfl, hb4⟩; have hWE4 := Go.Lib.hid hW3.out; have hW4 := Go.Lib.hid (hWE4.out.trans (hb4.mono hWE4.out.size)); have R4_b := Go.Lib.hid (R3_b.out.below hb4 (Nat.le_refl _)); have R4_o := Go.Lib.hid (R3_o.out.below hb4 (Nat.le_refl _)); clear hb4)
    | (go_at_call 15; ((with_reducible refine (s2.out _ ?h1).mono ?_)); (case h1 => exact R4_b.out); rintro e w5 ⟨rfl, hb5⟩; have hWE5 := Go.Lib.hid hW4.out; have hW5 := Go.Lib.hid (hWE5.out.trans (hb5.mono hWE5.out.size)); have R5_b := Go.Lib.hid (R4_b.out.below hb5 (Nat.le_refl _)); have R5_o := Go.Lib.hid (R4_o.out.below hb5 (Nat.le_refl _)); have q1 := R5_o.out.str (P := Try.prog) Try.underlying28 Try.underlying5 Try.underlying9; have q2 := R5_b.out.str (P := Try.prog) Try.underlying28 Try.underlying5 Try.underlying9; clear hb5))
  go_ret
  exact ⟨rfl, hW5.out⟩

theorem crc64Sums_walk (x0 : Int) (ax1 : Option Addr) (lenx1 capx1 : Nat) (zx1 : List Int) (W : World) (wx0 : (Lit.int .u64 x0).wf = true) (wx1 : IsRow .u8 W ax1 lenx1 capx1 zx1) :
    Calls Try.prog 4 #[.int .u64 x0, .slice ax1 lenx1 capx1] W fun e w' => e = .returned (.bool true) ∧ Below W.heap.size W w' := by
  have hr := Row.of_isRow wx1
  have b0 := bounds_u64 wx0
  obtain ⟨st, rfl⟩ : ∃ n : Nat, x0 = n := ⟨x0.toNat, by omega⟩
  have hmx := Nat.le_trans hr.hcap hr.hmax
  unfold maxLen at hmx
  cases hg : csfGreat lenx1
  case true =>
    have hg' := Go.Lib.hid fun w => SRGreat_ok w ax1 lenx1 capx1 (by omega)
    rw [hg] at hg'
    clear hr hg wx0 wx1
    go_enter Try.func4, Try.ntmps4
    go_wp2_with (go_at_call 13; refine (hg'.out _).mono ?_; rintro e w1 ⟨rfl, rfl⟩)
    go_ret
    exact ⟨rfl, Below.refl _ _⟩
  case false =>
    have hn := of_decide_eq_false hg
    by_cases h : (100000 : Int) < lenx1
    · exact csfSums_in W st _ _ _ _ hr hg (by omega) 0 4 0 4 (Go.Lib.hid fun w a c h' => SNext_many w st a lenx1 c h (by omega))
        (Go.Lib.hid fun w h' => (SRNext_many w st ax1 lenx1 capx1 h (by omega)).mono fun _ _ ⟨e1, e2⟩ => ⟨e1, e2 ▸ Below.refl _ _⟩)
        (Go.Lib.hid fun w a c h' => SSum_many w a lenx1 c h (by omega))
        (Go.Lib.hid fun w h' => (SRSum_many w ax1 lenx1 capx1 h (by omega)).mono fun _ _ ⟨e1, e2⟩ => ⟨e1, e2 ▸ Below.refl _ _⟩)
    · exact csfSums_in W st _ _ _ _ hr hg (by omega) _ _ _ _ (Go.Lib.hid fun w a c h' => SNext_ok w st a lenx1 c _ h' (by omega) (by omega))
        (Go.Lib.hid fun w h' => (SRNext_ok w st ax1 lenx1 capx1 _ h' (by omega) (by omega)).mono fun _ _ ⟨e1, e2⟩ => ⟨e1, e2 ▸ Below.refl _ _⟩)
        (Go.Lib.hid fun w a c h' => SSum_ok w a lenx1 c _ h' (by omega))
        (Go.Lib.hid fun w h' => (SRSum_ok w ax1 lenx1 capx1 _ h' (by omega)).mono fun _ _ ⟨e1, e2⟩ => ⟨e1, e2 ▸ Below.refl _ _⟩)
end Go.Proofs.Ytgffegcflibclaa
