/- Crc32Parts: parts are the whole. -/
import Derived.Test.YtlneafhihbnphaaCrcLawA
namespace Go.Proofs.Ytlneafhihbnphaa
open Go.RowKit Cad

theorem crcParts_out (W : World) (st : Int) (a1 : Option Addr) (la ca : Nat) (a2 : Option Addr) (lb cb : Nat) (ha : la ≤ 9223372036854775807) (hb : lb ≤ 9223372036854775807) (h : 1000 < la ∨ 1000 < lb) :
    Calls Try.prog 6 #[.int .u32 st, .slice a1 la ca, .slice a2 lb cb] W fun e w' => e = .returned (.bool true) ∧ Below W.heap.size W w' := by
  have key : (1000 : Int) < la ∨ (¬ (1000 : Int) < la ∧ (1000 : Int) < lb) := by omega
  clear h
  rcases key with h | ⟨h, h'⟩
  all_goals
    go_enter Try.func6, Try.ntmps6
    go_wp2_with (go_at_call 12; refine (alive3_ok _).mono ?_; rintro e w1 ⟨rfl, hb1⟩)
    go_ret
    exact ⟨rfl, hb1⟩

set_option maxHeartbeats 1000000 in
theorem crcParts_in (W : World) (st : Nat) (a1 : Option Addr) (la ca : Nat) (l1 : List Int) (a2 : Option Addr) (lb cb : Nat) (l2 : List Int) (hr1 : Row .u8 W a1 la ca l1) (hr2 : Row .u8 W a2 lb cb l2) (hst : st < 4294967296) (ha : la ≤ 1000) (hb : lb ≤ 1000) :
    Calls Try.prog 6 #[.int .u32 st, .slice a1 la ca, .slice a2 lb cb] W fun e w' => e = .returned (.bool true) ∧ Below W.heap.size W w' := by
  obtain ⟨x, hx⟩ : ∃ x, x = crcB st l1 := ⟨_, rfl⟩
  obtain ⟨y, hy⟩ : ∃ y, y = crcB x l2 := ⟨_, rfl⟩
  obtain ⟨p, hp⟩ : ∃ p, p = crcB 4294967295 l1 := ⟨_, rfl⟩
  obtain ⟨q, hq⟩ : ∃ q, q = crcB p l2 := ⟨_, rfl⟩
  obtain ⟨t, ht⟩ : ∃ t, t = 4294967295 - q := ⟨_, rfl⟩
  have hxl : x < 4294967296 := by rw [hx]; exact crcB_lt _ hst
  have hyl : y < 4294967296 := by rw [hy]; exact crcB_lt _ hxl
  have hpl : p < 4294967296 := by rw [hp]; exact crcB_lt _ (by decide)
  have hql : q < 4294967296 := by rw [hq]; exact crcB_lt _ hpl
  have n1 : Hid (∀ w, Row .u8 w a1 la ca l1 → Calls Try.prog 11 #[.int .u32 st, .slice a1 la ca] w fun r W' => r = .returned (.tuple #[.int .u32 x, .int .i64 0]) ∧ Below w.heap.size w W') := Go.Lib.hid fun w h => by
    rw [hx]; exact CNext_ok w st a1 la ca l1 h hst (by omega)
  have n2 : Hid (∀ w, Row .u8 w a2 lb cb l2 → Calls Try.prog 11 #[.int .u32 x, .slice a2 lb cb] w fun r W' => r = .returned (.tuple #[.int .u32 y, .int .i64 0]) ∧ Below w.heap.size w W') := Go.Lib.hid fun w h => by
    rw [hy]; exact CNext_ok w x a2 lb cb l2 h hxl (by omega)
  have n3 : Hid (∀ w a c, Row .u8 w a (la + lb) c (l1 ++ l2) → Calls Try.prog 11 #[.int .u32 st, .slice a (la + lb) c] w fun r W' => r = .returned (.tuple #[.int .u32 y, .int .i64 0]) ∧ Below w.heap.size w W') := Go.Lib.hid fun w a c h => by
    have := CNext_ok w st a (la + lb) c (l1 ++ l2) h hst (by omega)
    rwa [crcB_app, ← hx, ← hy] at this
  have n4 : Hid (∀ w, Row .u8 w a1 la ca l1 → Calls Try.prog 11 #[.int .u32 4294967295, .slice a1 la ca] w fun r W' => r = .returned (.tuple #[.int .u32 p, .int .i64 0]) ∧ Below w.heap.size w W') := Go.Lib.hid fun w h => by
    rw [hp]; exact CNext_ok w 4294967295 a1 la ca l1 h (by decide) (by omega)
  have n5 : Hid (∀ w, Row .u8 w a2 lb cb l2 → Calls Try.prog 11 #[.int .u32 p, .slice a2 lb cb] w fun r W' => r = .returned (.tuple #[.int .u32 q, .int .i64 0]) ∧ Below w.heap.size w W') := Go.Lib.hid fun w h => by
    rw [hq]; exact CNext_ok w p a2 lb cb l2 h hpl (by omega)
  have s1 : Hid (∀ w a c, Row .u8 w a (la + lb) c (l1 ++ l2) → Calls Try.prog 10 #[.slice a (la + lb) c] w fun r W' => r = .returned (.tuple #[.int .u32 t, .int .i64 0]) ∧ Below w.heap.size w W') := Go.Lib.hid fun w a c h => by
    have := CSum_ok w a (la + lb) c (l1 ++ l2) h (by omega)
    unfold crcSum at this
    rwa [crcB_app, ← hp, ← hq, ← ht] at this
  have hsub : (4294967295 : Int) - (q : Int) = (t : Int) := by omega
  have htl : t ≤ 4294967295 := by omega
  have hWE0 := Go.Lib.hid (Below.refl W.heap.size W)
  have RE0_a := Go.Lib.hid hr1
  have RE0_b := Go.Lib.hid hr2
  have u8d := Go.Lib.hid hr1.wf
  have u8o : Hid (∀ z ∈ l1 ++ l2, (Lit.int .u8 z).wf = true) := Go.Lib.hid fun z hz => (List.mem_append.1 hz).elim (hr1.wf z) (hr2.wf z)
  clear hr1 hr2 hx hy hp hq ht
  go_enter Try.func6, Try.ntmps6
  go_wp2_with (first
    | (at_builtin; refine law_appendRow elU8 _ rfl _ _ rfl W.heap.size _ 0 [] rfl (own_empty W 5 .u8) a1 la ca l1 rfl (RE0_a.out.below (below1 W (.cells #[] 5)) (Nat.le_refl _)) (by omega) (by simp) ?_; intro v1 w1 hown1 hbx1; simp only [Nat.zero_add, List.nil_append] at hown1; obtain ⟨o1, p1, rfl⟩ := own_form hown1; have hb1 := (below1 W (.cells #[] 5)).trans hbx1; clear hbx1; have hW1 := Go.Lib.hid (hWE0.out.trans (hb1.mono hWE0.out.size)); have R1_a := Go.Lib.hid (RE0_a.out.below hb1 (Nat.le_refl _)); have R1_b := Go.Lib.hid (RE0_b.out.below hb1 (Nat.le_refl _)); have R1_d := Go.Lib.hid (Row.of_own hown1 u8d.out); have O1_d := Go.Lib.hid hown1; clear hown1 hb1)
    | (at_builtin; refine law_appendRow elU8 _ rfl _ _ rfl W.heap.size _ la l1 rfl O1_d.out a2 lb cb l2 rfl R1_b.out (by omega) hW1.out.size ?_; intro v2 w2 hown2 hb2; obtain ⟨o2, p2, rfl⟩ := own_form hown2; have hW2 := Go.Lib.hid (hW1.out.trans (hb2.mono (Nat.le_refl _))); have R2_a := Go.Lib.hid ((Row.below RE0_a.out hW2.out (Nat.le_refl _))); have R2_b := Go.Lib.hid ((Row.below RE0_b.out hW2.out (Nat.le_refl _))); have R2_o := Go.Lib.hid (Row.of_own hown2 u8o.out); have O2_o := Go.Lib.hid hown2; clear hown2 hb2)
    | (go_at_call 11; ((with_reducible refine (n1.out _ ?h1).mono ?_)); (case h1 => exact R2_a.out); rintro e w3 ⟨rfl, hb3⟩; have hWE3 := Go.Lib.hid hW2.out; have hW3 := Go.Lib.hid (hWE3.out.trans (hb3.mono hWE3.out.size)); have R3_a := Go.Lib.hid (R2_a.out.below hb3 (Nat.le_refl _)); have R3_b := Go.Lib.hid (R2_b.out.below hb3 (Nat.le_refl _)); have R3_o := Go.Lib.hid (R2_o.out.below hb3 (Nat.le_refl _)); clear hb3)
    | (go_at_call 11; ((with_reducible refine (n2.out _ ?h1).mono ?_)); (case h1 => exact R3_b.out); rintro e w4 ⟨rfl, hb4⟩; have hWE4 := Go.Lib.hid hW3.out; have hW4 := Go.Lib.hid (hWE4.out.trans (hb4.mono hWE4.out.size)); have R4_a := Go.Lib.hid (R3_a.out.below hb4 (Nat.le_refl _)); have R4_b := Go.Lib.hid (R3_b.out.below hb4 (Nat.le_refl _)); have R4_o := Go.Lib.hid (R3_o.out.below hb4 (Nat.le_refl _)); clear hb4)
    | (go_at_call 11; ((with_reducible refine (n3.out _ _ _ ?h1).mono ?_)); (case h1 => exact R4_o.out); rintro e w5 ⟨rfl, hb5⟩; have hWE5 := Go.Lib.hid hW4.out; have hW5 := Go.Lib.hid (hWE5.out.trans (hb5.mono hWE5.out.size)); have R5_a := Go.Lib.hid (R4_a.out.below hb5 (Nat.le_refl _)); have R5_b := Go.Lib.hid (R4_b.out.below hb5 (Nat.le_refl _)); have R5_o := Go.Lib.hid (R4_o.out.below hb5 (Nat.le_refl _)); clear hb5)
    | (go_at_call 11; ((with_reducible refine (n4.out _ ?h1).mono ?_)); (case h1 => exact R5_a.out); rintro e w6 ⟨rfl, hb6⟩; have hWE6 := Go.Lib.hid hW5.out; have hW6 := Go.Lib.hid (hWE6.out.trans (hb6.mono hWE6.out.size)); have R6_a := Go.Lib.hid (R5_a.out.below hb6 (Nat.le_refl _)); have R6_b := Go.Lib.hid (R5_b.out.below hb6 (Nat.le_refl _)); have R6_o := Go.Lib.hid (R5_o.out.below hb6 (Nat.le_refl _)); clear hb6)
    | (go_at_call 11; ((with_reducible refine (n5.out _ ?h1).mono ?_)); (case h1 => exact R6_b.out); rintro e w7 ⟨rfl, hb7⟩; have hWE7 := Go.Lib.hid hW6.out; have hW7 := Go.Lib.hid (hWE7.out.trans (hb7.mono hWE7.out.size)); have R7_a := Go.Lib.hid (R6_a.out.below hb7 (Nat.le_refl _)); have R7_b := Go.Lib.hid (R6_b.out.below hb7 (Nat.le_refl _)); have R7_o := Go.Lib.hid (R6_o.out.below hb7 (Nat.le_refl _)); clear hb7)
    | (go_at_call 10; ((with_reducible refine (s1.out _ _ _ ?h1).mono ?_)); (case h1 => exact R7_o.out); rintro e w8 ⟨rfl, hb8⟩; have hWE8 := Go.Lib.hid hW7.out; have hW8 := Go.Lib.hid (hWE8.out.trans (hb8.mono hWE8.out.size)); have R8_a := Go.Lib.hid (R7_a.out.below hb8 (Nat.le_refl _)); have R8_b := Go.Lib.hid (R7_b.out.below hb8 (Nat.le_refl _)); have R8_o := Go.Lib.hid (R7_o.out.below hb8 (Nat.le_refl _)); clear hb8)
    | (go_at_call 12; refine (alive3_ok _).mono ?_; rintro e w9 ⟨rfl, hb9⟩; have hWE9 := Go.Lib.hid hW8.out; have hW9 := Go.Lib.hid (hWE9.out.trans (hb9.mono hWE9.out.size)); clear hb9))
  go_ret
  exact ⟨rfl, hW9.out⟩

theorem crc32Parts_walk (x0 : Int) (ax1 : Option Addr) (lenx1 capx1 : Nat) (zx1 : List Int) (ax2 : Option Addr) (lenx2 capx2 : Nat) (zx2 : List Int) (W : World) (wx0 : (Lit.int .u32 x0).wf = true) (wx1 : IsRow .u8 W ax1 lenx1 capx1 zx1) (wx2 : IsRow .u8 W ax2 lenx2 capx2 zx2) :
    Calls Try.prog 6 #[.int .u32 x0, .slice ax1 lenx1 capx1, .slice ax2 lenx2 capx2] W fun e w' => e = .returned (.bool true) ∧ Below W.heap.size W w' := by
  have hr1 := Row.of_isRow wx1
  have hr2 := Row.of_isRow wx2
  have b0 := bounds_u32 wx0
  obtain ⟨st, rfl⟩ : ∃ n : Nat, x0 = n := ⟨x0.toNat, by omega⟩
  have m1 := Nat.le_trans hr1.hcap hr1.hmax
  have m2 := Nat.le_trans hr2.hcap hr2.hmax
  unfold maxLen at m1 m2
  by_cases h : 1000 < lenx1 ∨ 1000 < lenx2
  · exact crcParts_out W st _ _ _ _ _ _ (by omega) (by omega) h
  · exact crcParts_in W st _ _ _ _ _ _ _ _ hr1 hr2 (by omega) (by omega) (by omega)
end Go.Proofs.Ytlneafhihbnphaa
