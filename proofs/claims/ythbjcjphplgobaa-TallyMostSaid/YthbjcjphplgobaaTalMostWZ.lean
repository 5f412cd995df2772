/- TallyMost: as many numbers as Fits says fit, and one more does not. -/
import Derived.Test.YthbjcjphplgobaaZ13

namespace Go.Proofs.Ythbjcjphplgobaa
open Go.RowKit Cad

set_option maxRecDepth 100000 in
theorem tallyMost_out (W : World) (al : Option Addr) (ll cl : Nat) (b : Int) (_hll : ll ≤ 9223372036854775807) (h : (150 : Int) < ll ∨ (¬ (150 : Int) < ll ∧ b < 4) ∨ (¬ (150 : Int) < ll ∧ ¬ b < 4 ∧ 3000 < b)) :
    Calls Try.prog 8 #[.slice al ll cl, .int .i64 b] W fun e w' => e = .returned (.bool true) ∧ Below W.heap.size W w' := by
  have hWE0 := Go.Lib.hid (Below.refl W.heap.size W)
  rcases h with h1 | ⟨h1, h2⟩ | ⟨h1, h2, h3⟩
  · go_enter Try.func8, Try.ntmps8
    go_wp2_with (first
      | (go_at_call 16; refine (alive12_ok _).mono ?_; rintro e w1 ⟨rfl, hb1⟩; have hWE1 := Go.Lib.hid hWE0.out; have hW1 := Go.Lib.hid (hWE1.out.trans (hb1.mono hWE1.out.size)); clear hb1))
    go_ret
    exact ⟨rfl, hW1.out⟩
  · go_enter Try.func8, Try.ntmps8
    go_wp2_with (first
      | (go_at_call 16; refine (alive12_ok _).mono ?_; rintro e w1 ⟨rfl, hb1⟩; have hWE1 := Go.Lib.hid hWE0.out; have hW1 := Go.Lib.hid (hWE1.out.trans (hb1.mono hWE1.out.size)); clear hb1))
    go_ret
    exact ⟨rfl, hW1.out⟩
  · go_enter Try.func8, Try.ntmps8
    go_wp2_with (first
      | (go_at_call 16; refine (alive12_ok _).mono ?_; rintro e w1 ⟨rfl, hb1⟩; have hWE1 := Go.Lib.hid hWE0.out; have hW1 := Go.Lib.hid (hWE1.out.trans (hb1.mono hWE1.out.size)); clear hb1))
    go_ret
    exact ⟨rfl, hW1.out⟩

set_option maxRecDepth 100000 in
set_option maxHeartbeats 4000000 in
theorem tallyMost_in (W : World) (al : Option Addr) (ll cl : Nat) (b : Int) (l : List Int) (m : List Nat) (hr : Row .u32 W al ll cl l) (hl : ll ≤ 150) (hlm : l = m.map Int.ofNat) (hm : m.length = ll) (hm32 : ∀ x ∈ m, x < 4294967296) (hb4 : 4 ≤ b) (hb3 : b ≤ 3000) :
    Calls Try.prog 8 #[.slice al ll cl, .int .i64 b] W fun e w' => e = .returned (.bool true) ∧ Below W.heap.size W w' := by
  have hcap := hr.hcap
  obtain ⟨h1, h2, h3⟩ := fits_is (L := lens dStart m) hb4
  have hmo := fits_mono (L := lens dStart m) hb4 (show b ≤ b + 1 by omega)
  have h4 := (fits_is (L := lens dStart m) (show 4 ≤ b + 1 by omega)).1
  rw [lens_len, hm] at h1 h3 h4
  obtain ⟨n, hn⟩ : ∃ n, n = fits (lens dStart m) b := ⟨_, rfl⟩
  obtain ⟨k, hk⟩ : ∃ n, n = fits (lens dStart m) (b + 1) := ⟨_, rfl⟩
  rw [← hn] at h1 h2 h3 hmo
  rw [← hk] at hmo h4
  have f1 : Hid (∀ w, Row .u32 w al ll cl l → Calls Try.prog 13 #[.slice al ll cl, .int .i64 b] w fun r W' => r = .returned (.tuple #[.int .i64 n, .int .i64 0]) ∧ Below w.heap.size w W') := Go.Lib.hid fun w h => by
    rw [hlm] at h; rw [hn]; exact TFits_ok w al ll cl b m h (by omega) hm hm32 hb4
  have f2 : Hid (∀ w, Row .u32 w al ll cl l → Calls Try.prog 13 #[.slice al ll cl, .int .i64 (b + 1)] w fun r W' => r = .returned (.tuple #[.int .i64 k, .int .i64 0]) ∧ Below w.heap.size w W') := Go.Lib.hid fun w h => by
    rw [hlm] at h; rw [hk]; exact TFits_ok w al ll cl (b + 1) m h (by omega) hm hm32 (by omega)
  have t32 : ∀ k, ∀ x ∈ m.take k, x < 4294967296 := fun k x hx => hm32 x (List.mem_of_mem_take hx)
  have by_ : ∀ j, j ≤ ll → ∀ w, Row .u32 w al ll cl l → Calls Try.prog 12 #[.slice al j cl] w fun r W' => r = .returned (.tuple #[.int .i64 (longB ((lens dStart m).take j).sum : Nat), .int .i64 0]) ∧ Below w.heap.size w W' := fun j hj w h => by
    have h' := h.take j hj
    rw [hlm, map_take] at h'
    have := TBytes_ok w al j cl (m.take j) h' (by omega) (by rw [List.length_take]; omega) (t32 j)
    rw [← lens_take m dStart j (by omega)] at this
    exact this
  obtain ⟨x, hx⟩ : ∃ x, x = longB ((lens dStart m).take n).sum := ⟨_, rfl⟩
  rw [← hx] at h2
  have g1 : Hid (∀ w, Row .u32 w al ll cl l → Calls Try.prog 12 #[.slice al n cl] w fun r W' => r = .returned (.tuple #[.int .i64 x, .int .i64 0]) ∧ Below w.heap.size w W') := Go.Lib.hid fun w h => by rw [hx]; exact by_ n h1 w h
  have hWE0 := Go.Lib.hid (Below.refl W.heap.size W)
  have RE0_l := Go.Lib.hid hr
  have d1 : ¬ (150 : Int) < ll := by omega
  have d2 : ¬ b < 4 := by omega
  have d3 : ¬ 3000 < b := by omega
  have d4 : ¬ (n : Int) < 0 := by omega
  have d5 : ¬ (ll : Int) < n := by omega
  have d6 : ¬ (k : Int) < n := by omega
  have d7 : ¬ b < (x : Int) := by omega
  have hnc : n ≤ cl := by omega
  by_cases hnl : n = ll
  · have hkn : k = n := by omega
    have q1 : ((n : Int) == (ll : Int)) = true := by rw [hnl]; simp
    have q2 : ((k : Int) == (n : Int)) = true := by rw [hkn]; simp
    clear hr hlm hm hm32 h1 h2 h3 h4 hmo hn hk hx t32 by_ hnl hkn
    go_enter Try.func8, Try.ntmps8
    go_wp2_with (first
      | (go_at_call 13; ((with_reducible refine (f1.out _ ?h1).mono ?_)); (case h1 => exact RE0_l.out); rintro e w1 ⟨rfl, hb1⟩; have hWE1 := Go.Lib.hid hWE0.out; have hW1 := Go.Lib.hid (hWE1.out.trans (hb1.mono hWE1.out.size)); have R1_l := Go.Lib.hid (RE0_l.out.below hb1 (Nat.le_refl _)); clear hb1)
      | (go_at_call 13; ((with_reducible refine (f2.out _ ?h1).mono ?_)); (case h1 => exact R1_l.out); rintro e w2 ⟨rfl, hb2⟩; have hWE2 := Go.Lib.hid hW1.out; have hW2 := Go.Lib.hid (hWE2.out.trans (hb2.mono hWE2.out.size)); have R2_l := Go.Lib.hid (R1_l.out.below hb2 (Nat.le_refl _)); clear hb2)
      | (go_at_call 12; ((with_reducible refine (g1.out _ ?h1).mono ?_)); (case h1 => exact R2_l.out); rintro e w3 ⟨rfl, hb3⟩; have hWE3 := Go.Lib.hid hW2.out; have hW3 := Go.Lib.hid (hWE3.out.trans (hb3.mono hWE3.out.size)); have R3_l := Go.Lib.hid (R2_l.out.below hb3 (Nat.le_refl _)); clear hb3)
      | (go_at_call 16; refine (alive12_ok _).mono ?_; rintro e w4 ⟨rfl, hb4⟩; have hWE4 := Go.Lib.hid hW3.out; have hW4 := Go.Lib.hid (hWE4.out.trans (hb4.mono hWE4.out.size)); clear hb4))
    go_ret
    exact ⟨by simp , hW4.out⟩
  · obtain ⟨y, hy⟩ : ∃ y, y = longB ((lens dStart m).take (n + 1)).sum := ⟨_, rfl⟩
    have h5 := h3 (by omega)
    rw [← hy] at h5
    obtain ⟨n1, hn1⟩ : ∃ n1, n1 = n + 1 := ⟨_, rfl⟩
    have g2 : Hid (∀ w, Row .u32 w al ll cl l → Calls Try.prog 12 #[.slice al n1 cl] w fun r W' => r = .returned (.tuple #[.int .i64 y, .int .i64 0]) ∧ Below w.heap.size w W') := Go.Lib.hid fun w h => by rw [hy, hn1]; exact by_ (n + 1) (by omega) w h
    have q1 : ((n : Int) == (ll : Int)) = false := by rw [beq_eq_false_iff_ne]; omega
    have i1 : (n : Int) + 1 = (n1 : Int) := by omega
    have hnc1 : n1 ≤ cl := by omega
    have q2 : decide (b < (y : Int)) = true := decide_eq_true h5
    clear hr hlm hm hm32 h1 h2 h3 h4 hmo hn hk hx t32 by_ hnl hy hn1 h5
    go_enter Try.func8, Try.ntmps8
    go_wp2_with (first
      | (go_at_call 13; ((with_reducible refine (f1.out _ ?h1).mono ?_)); (case h1 => exact RE0_l.out); rintro e w1 ⟨rfl, hb1⟩; have hWE1 := Go.Lib.hid hWE0.out; have hW1 := Go.Lib.hid (hWE1.out.trans (hb1.mono hWE1.out.size)); have R1_l := Go.Lib.hid (RE0_l.out.below hb1 (Nat.le_refl _)); clear hb1)
      | (go_at_call 13; ((with_reducible refine (f2.out _ ?h1).mono ?_)); (case h1 => exact R1_l.out); rintro e w2 ⟨rfl, hb2⟩; have hWE2 := Go.Lib.hid hW1.out; have hW2 := Go.Lib.hid (hWE2.out.trans (hb2.mono hWE2.out.size)); have R2_l := Go.Lib.hid (R1_l.out.below hb2 (Nat.le_refl _)); clear hb2)
      | (go_at_call 12; ((with_reducible refine (g1.out _ ?h1).mono ?_)); (case h1 => exact R2_l.out); rintro e w3 ⟨rfl, hb3⟩; have hWE3 := Go.Lib.hid hW2.out; have hW3 := Go.Lib.hid (hWE3.out.trans (hb3.mono hWE3.out.size)); have R3_l := Go.Lib.hid (R2_l.out.below hb3 (Nat.le_refl _)); clear hb3)
      | (go_at_call 12; ((with_reducible refine (g2.out _ ?h1).mono ?_)); (case h1 => exact R3_l.out); rintro e w4 ⟨rfl, hb4⟩; have hWE4 := Go.Lib.hid hW3.out; have hW4 := Go.Lib.hid (hWE4.out.trans (hb4.mono hWE4.out.size)); have R4_l := Go.Lib.hid (R3_l.out.below hb4 (Nat.le_refl _)); clear hb4)
      | (go_at_call 16; refine (alive12_ok _).mono ?_; rintro e w5 ⟨rfl, hb5⟩; have hWE5 := Go.Lib.hid hW4.out; have hW5 := Go.Lib.hid (hWE5.out.trans (hb5.mono hWE5.out.size)); clear hb5))
    go_ret
    exact ⟨by simp , hW5.out⟩

theorem tallyMost_walk (ax0 : Option Addr) (lenx0 capx0 : Nat) (zx0 : List Int) (x1 : Int) (W : World) (wx0 : IsRow .u32 W ax0 lenx0 capx0 zx0) (_wx1 : (Lit.int .i64 x1).wf = true) :
    Calls Try.prog 8 #[.slice ax0 lenx0 capx0, .int .i64 x1] W fun e w' => e = .returned (.bool true) ∧ Below W.heap.size W w' := by
  have hr := Row.of_isRow wx0
  have hm := Nat.le_trans hr.hcap hr.hmax
  unfold maxLen at hm
  by_cases h1 : (150 : Int) < lenx0
  · exact tallyMost_out W _ _ _ _ (by omega) (.inl h1)
  by_cases h2 : x1 < 4
  · exact tallyMost_out W _ _ _ _ (by omega) (.inr (.inl ⟨h1, h2⟩))
  by_cases h3 : 3000 < x1
  · exact tallyMost_out W _ _ _ _ (by omega) (.inr (.inr ⟨h1, h2, h3⟩))
  obtain ⟨m, h4, h5⟩ := nats_of hr.wf
  exact tallyMost_in W _ _ _ _ _ m hr (by omega) h4 (by rw [← hr.hlen, h4, List.length_map]) h5 (by omega) (by omega)
end Go.Proofs.Ythbjcjphplgobaa
