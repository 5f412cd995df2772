/- Crc64Parts: parts are the whole; bytes 0 in front do not change a sum. -/
import Derived.Test.YtgffegcflibclaaCsfLawA
namespace Go.Proofs.Ytgffegcflibclaa
open Go.RowKit Cad

theorem csf_byte0 : csfByte 0 0 = 0 := by decide
theorem csfB_zeros : ∀ m : Nat, csfB 0 (List.replicate m 0) = 0
  | 0 => rfl
  | m + 1 => by
    rw [List.replicate_succ]
    show csfB (csfByte 0 (0 : Int).toNat) (List.replicate m 0) = 0
    rw [show (0 : Int).toNat = 0 from rfl, csf_byte0]
    exact csfB_zeros m

theorem csfParts_out (W : World) (st : Int) (a1 : Option Addr) (la ca : Nat) (a2 : Option Addr) (lb cb : Nat) (z : Int) (ha : la ≤ 9223372036854775807) (hb : lb ≤ 9223372036854775807) (h : 1000 < la ∨ 1000 < lb ∨ z < 0 ∨ 100 < z) :
    Calls Try.prog 6 #[.int .u64 st, .slice a1 la ca, .slice a2 lb cb, .int .i64 z] W fun e w' => e = .returned (.bool true) ∧ Below W.heap.size W w' := by
  have key : (1000 : Int) < la ∨ (¬ (1000 : Int) < la ∧ (1000 : Int) < lb) ∨ (¬ (1000 : Int) < la ∧ ¬ (1000 : Int) < lb ∧ z < 0) ∨ (¬ (1000 : Int) < la ∧ ¬ (1000 : Int) < lb ∧ ¬ z < 0 ∧ 100 < z) := by omega
  clear h
  rcases key with h | ⟨h, h'⟩ | ⟨h, h', h''⟩ | ⟨h, h', h'', h3⟩
  all_goals
    go_enter Try.func6, Try.ntmps6
    go_wp2_with (go_at_call 12; refine (alive4_ok _).mono ?_; rintro e w1 ⟨rfl, hb1⟩)
    go_ret
    exact ⟨rfl, hb1⟩

set_option maxHeartbeats 1000000 in
theorem csfParts_in (W : World) (st : Nat) (a1 : Option Addr) (la ca : Nat) (l1 : List Int) (a2 : Option Addr) (lb cb : Nat) (l2 : List Int) (z : Nat) (hr1 : Row .u8 W a1 la ca l1) (hr2 : Row .u8 W a2 lb cb l2) (hst : st < 18446744073709551616) (ha : la ≤ 1000) (hb : lb ≤ 1000) (hz : z ≤ 100) :
    Calls Try.prog 6 #[.int .u64 st, .slice a1 la ca, .slice a2 lb cb, .int .i64 z] W fun e w' => e = .returned (.bool true) ∧ Below W.heap.size W w' := by
  obtain ⟨x, hx⟩ : ∃ x, x = csfB st l1 := ⟨_, rfl⟩
  obtain ⟨y, hy⟩ : ∃ y, y = csfB x l2 := ⟨_, rfl⟩
  obtain ⟨p, hp⟩ : ∃ p, p = csfB 0 l1 := ⟨_, rfl⟩
  have hxl : x < 18446744073709551616 := by rw [hx]; exact csfB_lt _ hst
  have hyl : y < 18446744073709551616 := by rw [hy]; exact csfB_lt _ hxl
  have hpl : p < 18446744073709551616 := by rw [hp]; exact csfB_lt _ (by decide)
  have n1 : Hid (∀ w, Row .u8 w a1 la ca l1 → Calls Try.prog 11 #[.int .u64 st, .slice a1 la ca] w fun r W' => r = .returned (.tuple #[.int .u64 x, .int .i64 0]) ∧ Below w.heap.size w W') := Go.Lib.hid fun w h => by
    rw [hx]; exact SNext_ok w st a1 la ca l1 h hst (by omega)
  have n2 : Hid (∀ w, Row .u8 w a2 lb cb l2 → Calls Try.prog 11 #[.int .u64 x, .slice a2 lb cb] w fun r W' => r = .returned (.tuple #[.int .u64 y, .int .i64 0]) ∧ Below w.heap.size w W') := Go.Lib.hid fun w h => by
    rw [hy]; exact SNext_ok w x a2 lb cb l2 h hxl (by omega)
  have n3 : Hid (∀ w a c, Row .u8 w a (la + lb) c (l1 ++ l2) → Calls Try.prog 11 #[.int .u64 st, .slice a (la + lb) c] w fun r W' => r = .returned (.tuple #[.int .u64 y, .int .i64 0]) ∧ Below w.heap.size w W') := Go.Lib.hid fun w a c h => by
    have := SNext_ok w st a (la + lb) c (l1 ++ l2) h hst (by omega)
    rwa [csfB_app, ← hx, ← hy] at this
  have s1 : Hid (∀ w, Row .u8 w a1 la ca l1 → Calls Try.prog 10 #[.slice a1 la ca] w fun r W' => r = .returned (.tuple #[.int .u64 p, .int .i64 0]) ∧ Below w.heap.size w W') := Go.Lib.hid fun w h => by
    rw [hp]; exact SSum_ok w a1 la ca l1 h (by omega)
  have s2 : Hid (∀ w a c, Row .u8 w a (z + la) c (List.replicate z 0 ++ l1) → Calls Try.prog 10 #[.slice a (z + la) c] w fun r W' => r = .returned (.tuple #[.int .u64 p, .int .i64 0]) ∧ Below w.heap.size w W') := Go.Lib.hid fun w a c h => by
    have := SSum_ok w a (z + la) c _ h (by omega)
    rwa [csfB_app, csfB_zeros, ← hp] at this
  have hWE0 := Go.Lib.hid (Below.refl W.heap.size W)
  have RE0_a := Go.Lib.hid hr1
  have RE0_b := Go.Lib.hid hr2
  have u8d := Go.Lib.hid hr1.wf
  have u8o : Hid (∀ z ∈ l1 ++ l2, (Lit.int .u8 z).wf = true) := Go.Lib.hid fun z hz => (List.mem_append.1 hz).elim (hr1.wf z) (hr2.wf z)
  have u8q : Hid (∀ x ∈ List.replicate z 0 ++ l1, (Lit.int .u8 x).wf = true) := Go.Lib.hid fun x hx => (List.mem_append.1 hx).elim (fun h => by rw [List.eq_of_mem_replicate h]; decide) (hr1.wf x)
  clear hr1 hr2 hx hy hp
  go_enter Try.func6, Try.ntmps6
  go_wp2_with (first
    | (go_at_call 11; ((with_reducible refine (n1.out _ ?h1).mono ?_)); (case h1 => exact RE0_a.out); rintro e w1 ⟨rfl, hb1⟩; have hWE1 := Go.Lib.hid hWE0.out; have hW1 := Go.Lib.hid (hWE1.out.trans (hb1.mono hWE1.out.size)); have R1_a := Go.Lib.hid (RE0_a.out.below hb1 (Nat.le_refl _)); have R1_b := Go.Lib.hid (RE0_b.out.below hb1 (Nat.le_refl _)); clear hb1)
    | (go_at_call 11; ((with_reducible refine (n2.out _ ?h1).mono ?_)); (case h1 => exact R1_b.out); rintro e w2 ⟨rfl, hb2⟩; have hWE2 := Go.Lib.hid hW1.out; have hW2 := Go.Lib.hid (hWE2.out.trans (hb2.mono hWE2.out.size)); have R2_a := Go.Lib.hid (R1_a.out.below hb2 (Nat.le_refl _)); have R2_b := Go.Lib.hid (R1_b.out.below hb2 (Nat.le_refl _)); clear hb2)
    | (at_builtin; refine law_appendRow elU8 _ rfl _ _ rfl w2.heap.size _ 0 [] rfl (own_empty w2 5 .u8) a1 la ca l1 rfl (R2_a.out.below (below1 w2 (.cells #[] 5)) (Nat.le_refl _)) (by omega) (by simp) ?_; intro v3 w3 hown3 hbx3; simp only [Nat.zero_add, List.nil_append] at hown3; obtain ⟨o3, p3, rfl⟩ := own_form hown3; have hb3 := (below1 w2 (.cells #[] 5)).trans hbx3; clear hbx3; have hW3 := Go.Lib.hid (hW2.out.trans (hb3.mono hW2.out.size)); have R3_a := Go.Lib.hid (R2_a.out.below hb3 (Nat.le_refl _)); have R3_b := Go.Lib.hid (R2_b.out.below hb3 (Nat.le_refl _)); have R3_d := Go.Lib.hid (Row.of_own hown3 u8d.out); have O3_d := Go.Lib.hid (own_base hown3 hW2.out.size); clear hown3 hb3)
    | (at_builtin; refine law_appendRow elU8 _ rfl _ _ rfl W.heap.size _ la l1 rfl O3_d.out a2 lb cb l2 rfl R3_b.out (by omega) hW3.out.size ?_; intro v4 w4 hown4 hb4; obtain ⟨o4, p4, rfl⟩ := own_form hown4; have hW4 := Go.Lib.hid (hW3.out.trans (hb4.mono (Nat.le_refl _))); have R4_a := Go.Lib.hid ((Row.below RE0_a.out hW4.out (Nat.le_refl _))); have R4_b := Go.Lib.hid ((Row.below RE0_b.out hW4.out (Nat.le_refl _))); have R4_o := Go.Lib.hid (Row.of_own hown4 u8o.out); have O4_o := Go.Lib.hid hown4; clear hown4 hb4)
    | (go_at_call 11; ((with_reducible refine (n3.out _ _ _ ?h1).mono ?_)); (case h1 => exact R4_o.out); rintro e w5 ⟨rfl, hb5⟩; have hWE5 := Go.Lib.hid hW4.out; have hW5 := Go.Lib.hid (hWE5.out.trans (hb5.mono hWE5.out.size)); have R5_a := Go.Lib.hid (R4_a.out.below hb5 (Nat.le_refl _)); have R5_b := Go.Lib.hid (R4_b.out.below hb5 (Nat.le_refl _)); have R5_o := Go.Lib.hid (R4_o.out.below hb5 (Nat.le_refl _)); clear hb5)
    | (go_at_call 10; ((with_reducible refine (s1.out _ ?h1).mono ?_)); (case h1 => exact R5_a.out); rintro e w6 ⟨rfl, hb6⟩; have hWE6 := Go.Lib.hid hW5.out; have hW6 := Go.Lib.hid (hWE6.out.trans (hb6.mono hWE6.out.size)); have R6_a := Go.Lib.hid (R5_a.out.below hb6 (Nat.le_refl _)); have R6_b := Go.Lib.hid (R5_b.out.below hb6 (Nat.le_refl _)); clear hb6)
    | (at_make; refine law_make elU8 w6 rfl _ _ rfl .i64 .i64 (z : Int) (z : Int) z rfl rfl rfl rfl (by omega) ?_; intro w7 hown7 hb7 hs7; have hW7 := Go.Lib.hid (hW6.out.trans (hb7.mono hW6.out.size)); have R7_a := Go.Lib.hid (R6_a.out.below hb7 (Nat.le_refl _)); have R7_b := Go.Lib.hid (R6_b.out.below hb7 (Nat.le_refl _)); have O7_m := Go.Lib.hid (own_base hown7 hW6.out.size); clear hown7 hb7 hs7)
    | (at_builtin; refine law_appendRow elU8 _ rfl _ _ rfl W.heap.size _ z (List.replicate z 0) rfl O7_m.out a1 la ca l1 rfl R7_a.out (by omega) hW7.out.size ?_; intro v8 w8 hown8 hb8; obtain ⟨o8, p8, rfl⟩ := own_form hown8; have hW8 := Go.Lib.hid (hW7.out.trans (hb8.mono (Nat.le_refl _))); have R8_a := Go.Lib.hid ((Row.below RE0_a.out hW8.out (Nat.le_refl _))); have R8_b := Go.Lib.hid ((Row.below RE0_b.out hW8.out (Nat.le_refl _))); have R8_q := Go.Lib.hid (Row.of_own hown8 u8q.out); have O8_q := Go.Lib.hid hown8; clear hown8 hb8)
    | (go_at_call 10; ((with_reducible refine (s2.out _ _ _ ?h1).mono ?_)); (case h1 => exact R8_q.out); rintro e w9 ⟨rfl, hb9⟩; have hWE9 := Go.Lib.hid hW8.out; have hW9 := Go.Lib.hid (hWE9.out.trans (hb9.mono hWE9.out.size)); have R9_a := Go.Lib.hid (R8_a.out.below hb9 (Nat.le_refl _)); have R9_b := Go.Lib.hid (R8_b.out.below hb9 (Nat.le_refl _)); have R9_q := Go.Lib.hid (R8_q.out.below hb9 (Nat.le_refl _)); clear hb9)
    | (go_at_call 12; refine (alive4_ok _).mono ?_; rintro e w10 ⟨rfl, hb10⟩; have hWE10 := Go.Lib.hid hW9.out; have hW10 := Go.Lib.hid (hWE10.out.trans (hb10.mono hWE10.out.size)); clear hb10))
  go_ret
  exact ⟨rfl, hW10.out⟩

theorem crc64Parts_walk (x0 : Int) (ax1 : Option Addr) (lenx1 capx1 : Nat) (zx1 : List Int) (ax2 : Option Addr) (lenx2 capx2 : Nat) (zx2 : List Int) (x3 : Int) (W : World) (wx0 : (Lit.int .u64 x0).wf = true) (wx1 : IsRow .u8 W ax1 lenx1 capx1 zx1) (wx2 : IsRow .u8 W ax2 lenx2 capx2 zx2) (wx3 : (Lit.int .i64 x3).wf = true) :
    Calls Try.prog 6 #[.int .u64 x0, .slice ax1 lenx1 capx1, .slice ax2 lenx2 capx2, .int .i64 x3] W fun e w' => e = .returned (.bool true) ∧ Below W.heap.size W w' := by
  have hr1 := Row.of_isRow wx1
  have hr2 := Row.of_isRow wx2
  have b0 := bounds_u64 wx0
  obtain ⟨st, rfl⟩ : ∃ n : Nat, x0 = n := ⟨x0.toNat, by omega⟩
  have m1 := Nat.le_trans hr1.hcap hr1.hmax
  have m2 := Nat.le_trans hr2.hcap hr2.hmax
  unfold maxLen at m1 m2
  by_cases h : 1000 < lenx1 ∨ 1000 < lenx2 ∨ x3 < 0 ∨ 100 < x3
  · exact csfParts_out W st _ _ _ _ _ _ _ (by omega) (by omega) h
  · obtain ⟨z, rfl⟩ : ∃ n : Nat, x3 = n := ⟨x3.toNat, by omega⟩
    exact csfParts_in W st _ _ _ _ _ _ _ _ z hr1 hr2 (by omega) (by omega) (by omega) (by omega)
end Go.Proofs.Ytgffegcflibclaa
