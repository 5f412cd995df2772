/- Contracts of the functions of le, and of its reference. -/
import Derived.Test.YtgfokdnflbmafaaRows
import Derived.WalkKit
import Derived.ProofKit
import Derived.OpenShut
import Derived.Below
import Derived.IntWalk
import Derived.LoopTactic
import Derived.Lib.Hide
import Derived.Outline
import Derived.Test.YtgfokdnflbmafaaPlain
namespace Go.Proofs.Ytgfokdnflbmafaa
open Go.RowKit Cad

theorem isWidth_yes (w : Int) (W : World) (h : 1 ≤ w) (h' : w ≤ 8) :
    Calls Try.prog 23 #[.int .i64 w] W fun e W' => e = .returned (.bool true) ∧ W = W' := by
  go_enter Try.func23, Try.ntmps23
  go_wp2
  go_ret
  exact ⟨rfl, rfl⟩

theorem isWidth_no (w : Int) (W : World) (h : ¬ (1 ≤ w ∧ w ≤ 8)) :
    Calls Try.prog 23 #[.int .i64 w] W fun e W' => e = .returned (.bool false) ∧ W = W' := by
  by_cases h1 : 1 ≤ w
  · have h2 : ¬ w ≤ 8 := by omega
    go_enter Try.func23, Try.ntmps23
    go_wp2
    go_ret
    exact ⟨by simp, rfl⟩
  · go_enter Try.func23, Try.ntmps23
    go_wp2
    go_ret
    exact ⟨by simp, rfl⟩

theorem greatest_any (w : Int) (W : World) (h : 1 ≤ w) (h' : w ≤ 8) :
    Calls Try.prog 27 #[.int .i64 w] W fun e W' => e = .returned (.int .u64 (top w.toNat)) ∧ W = W' := by
  have hg := Go.Lib.hid (greatest_eq w h h')
  go_enter Try.func27, Try.ntmps27
  go_wp2
  go_ret
  exact ⟨by rw [← hg.out]; rfl, rfl⟩

theorem fits_any (n w : Int) (W : World) (h : 1 ≤ w) (h' : w ≤ 8) :
    Calls Try.prog 24 #[.int .u64 n, .int .i64 w] W fun e W' => e = .returned (.bool (decide (n ≤ top w.toNat))) ∧ W = W' := by
  go_enter Try.func24, Try.ntmps24
  go_wp2_with (go_at_call 27; refine (greatest_any w _ h h').mono ?_; rintro e w1 ⟨rfl, rfl⟩)
  go_ret
  exact ⟨rfl, rfl⟩

theorem top_any (w : Int) (W : World) (h : 1 ≤ w) (h' : w ≤ 8) :
    Calls Try.prog 22 #[.int .i64 w] W fun e W' => e = .returned (.int .u64 (top w.toNat)) ∧ W = W' := by
  go_enter Try.func22, Try.ntmps22
  go_wp2
  go_loop [3, 4] (fun n i => ∃ k : Nat, (k : Int) ≤ w ∧ i = .int .i64 k ∧ n = .int .u64 (top k)) (fun _ i => (w - intOf i).toNat)
  case atStart => exact ⟨0, by omega, rfl, rfl⟩
  case round =>
    obtain ⟨k, hk, rfl, rfl⟩ := hrel
    by_cases hlt : (k : Int) < w
    · have hb := top_bd k (by omega)
      have hs : top (k + 1) = 256 * top k + 255 := rfl
      have HS := Go.Lib.hid hs
      clear hs
      go_wp2
      go_round
      case rel => exact ⟨k + 1, by omega, by go_num, by rw [HS.out]⟩
      case measure => simp [intOf]; omega
    · go_wp2
      go_ret
      exact ⟨by rw [show w.toNat = k from by omega]; rfl, rfl⟩

theorem extend_any (n w : Int) (W : World) (h : 1 ≤ w) (h' : w ≤ 8) (h0 : 0 ≤ n) (hn : n ≤ top w.toNat) :
    Calls Try.prog 26 #[.int .u64 n, .int .i64 w] W fun e W' => e = .returned (.int .i64 (sgn n w)) ∧ W = W' := by
  have H := Go.Lib.hid (extend_eq n w h h' h0 hn)
  clear h0 hn
  go_enter Try.func26, Try.ntmps26
  go_wp2
  go_ret
  exact ⟨by rw [← H.out]; rfl, rfl⟩

theorem Width_yes (w : Int) (W : World) (h : 1 ≤ w) (h' : w ≤ 8) :
    Calls Try.prog 21 #[.int .i64 w] W fun e W' => e = .returned (.bool true) ∧ W = W' := by
  go_enter Try.func21, Try.ntmps21
  go_wp2
  go_ret
  exact ⟨rfl, rfl⟩

theorem Width_no (w : Int) (W : World) (h : ¬ (1 ≤ w ∧ w ≤ 8)) :
    Calls Try.prog 21 #[.int .i64 w] W fun e W' => e = .returned (.bool false) ∧ W = W' := by
  by_cases h1 : 1 ≤ w
  · have h2 : ¬ w ≤ 8 := by omega
    go_enter Try.func21, Try.ntmps21
    go_wp2
    go_ret
    exact ⟨by simp, rfl⟩
  · go_enter Try.func21, Try.ntmps21
    go_wp2
    go_ret
    exact ⟨by simp, rfl⟩

theorem Signed_no (n w : Int) (W : World) (h : ¬ (1 ≤ w ∧ w ≤ 8)) :
    Calls Try.prog 12 #[.int .u64 n, .int .i64 w] W fun e W' => e = .returned (.tuple #[.int .i64 0, .int .i64 2]) ∧ W = W' := by
  go_enter Try.func12, Try.ntmps12
  go_wp2_with (go_at_call 23; refine (isWidth_no w _ h).mono ?_; rintro e w1 ⟨rfl, rfl⟩)
  go_ret2
  exact ⟨rfl, rfl⟩

theorem fits_yes (n w : Int) (W : World) (h : 1 ≤ w) (h' : w ≤ 8) (hn : n ≤ top w.toNat) :
    Calls Try.prog 24 #[.int .u64 n, .int .i64 w] W fun e W' => e = .returned (.bool true) ∧ W = W' :=
  (fits_any n w W h h').mono fun e W' ⟨he, hw⟩ => ⟨by rw [he, decide_eq_true hn], hw⟩
theorem fits_no (n w : Int) (W : World) (h : 1 ≤ w) (h' : w ≤ 8) (hn : top w.toNat < n) :
    Calls Try.prog 24 #[.int .u64 n, .int .i64 w] W fun e W' => e = .returned (.bool false) ∧ W = W' :=
  (fits_any n w W h h').mono fun e W' ⟨he, hw⟩ => ⟨by rw [he, decide_eq_false (by omega)], hw⟩

theorem Signed_range (n w : Int) (W : World) (h : 1 ≤ w) (h' : w ≤ 8) (hn : top w.toNat < n) :
    Calls Try.prog 12 #[.int .u64 n, .int .i64 w] W fun e W' => e = .returned (.tuple #[.int .i64 0, .int .i64 16]) ∧ W = W' := by
  go_enter Try.func12, Try.ntmps12
  go_wp2_with (first | (go_at_call 23; refine (isWidth_yes w _ h h').mono ?_; rintro e w1 ⟨rfl, rfl⟩) | (go_at_call 24; refine (fits_no n w _ h h' hn).mono ?_; rintro e w1 ⟨rfl, rfl⟩))
  go_ret2
  exact ⟨rfl, rfl⟩

theorem Signed_ok (n w : Int) (W : World) (h : 1 ≤ w) (h' : w ≤ 8) (h0 : 0 ≤ n) (hn : n ≤ top w.toNat) :
    Calls Try.prog 12 #[.int .u64 n, .int .i64 w] W fun e W' => e = .returned (.tuple #[.int .i64 (sgn n w), .int .i64 0]) ∧ W = W' := by
  go_enter Try.func12, Try.ntmps12
  go_wp2_with (first | (go_at_call 23; refine (isWidth_yes w _ h h').mono ?_; rintro e w1 ⟨rfl, rfl⟩) | (go_at_call 24; refine (fits_yes n w _ h h' hn).mono ?_; rintro e w1 ⟨rfl, rfl⟩) | (go_at_call 26; refine (extend_any n w _ h h' h0 hn).mono ?_; rintro e w1 ⟨rfl, rfl⟩))
  go_ret2
  exact ⟨rfl, rfl⟩

/-- a signed number that fits w bytes -/
abbrev Fits (x w : Int) : Prop := -(top w.toNat / 2) - 1 ≤ x ∧ x ≤ top w.toNat / 2

theorem Unsigned_no (x w : Int) (W : World) (h : ¬ (1 ≤ w ∧ w ≤ 8)) :
    Calls Try.prog 13 #[.int .i64 x, .int .i64 w] W fun e W' => e = .returned (.tuple #[.int .u64 0, .int .i64 2]) ∧ W = W' := by
  go_enter Try.func13, Try.ntmps13
  go_wp2_with (go_at_call 23; refine (isWidth_no w _ h).mono ?_; rintro e w1 ⟨rfl, rfl⟩)
  go_ret2
  exact ⟨rfl, rfl⟩

theorem Unsigned_ok (x w : Int) (W : World) (h : 1 ≤ w) (h' : w ≤ 8) (hx : Fits x w) :
    Calls Try.prog 13 #[.int .i64 x, .int .i64 w] W fun e W' => e = .returned (.tuple #[.int .u64 (uns x w), .int .i64 0]) ∧ W = W' := by
  have hm : Go.RowKit.Hid (bits .and .u64 (IntKind.u64.wrap x) (top w.toNat) = uns x w) := mask_eq x w h h'
  have hu := uns_bd x w h h'
  have hs := Go.Lib.hid ((sgn_uns x w h h').2 hx)
  go_enter Try.func13, Try.ntmps13
  go_wp2_with (first | (go_at_call 23; refine (isWidth_yes w _ h h').mono ?_; rintro e w1 ⟨rfl, rfl⟩) | (go_at_call 27; refine (greatest_any w _ h h').mono ?_; rintro e w1 ⟨rfl, rfl⟩) | (go_at_call 26; rw [hm.out]; refine (extend_any (uns x w) w _ h h' hu.1 hu.2).mono ?_; rintro e w1 ⟨rfl, rfl⟩; rw [hs.out]))
  go_ret2
  exact ⟨rfl, rfl⟩

theorem Unsigned_range (x w : Int) (W : World) (h : 1 ≤ w) (h' : w ≤ 8) (hx : ¬ Fits x w) :
    Calls Try.prog 13 #[.int .i64 x, .int .i64 w] W fun e W' => e = .returned (.tuple #[.int .u64 0, .int .i64 16]) ∧ W = W' := by
  have hm : Go.RowKit.Hid (bits .and .u64 (IntKind.u64.wrap x) (top w.toNat) = uns x w) := mask_eq x w h h'
  have hu := uns_bd x w h h'
  have hs : (sgn (uns x w) w == x) = false := by rw [beq_eq_false_iff_ne]; exact fun e => hx ((sgn_uns x w h h').1 e)
  go_enter Try.func13, Try.ntmps13
  go_wp2_with (first | (go_at_call 23; refine (isWidth_yes w _ h h').mono ?_; rintro e w1 ⟨rfl, rfl⟩) | (go_at_call 27; refine (greatest_any w _ h h').mono ?_; rintro e w1 ⟨rfl, rfl⟩) | (go_at_call 26; rw [hm.out]; refine (extend_any (uns x w) w _ h h' hu.1 hu.2).mono ?_; rintro e w1 ⟨rfl, rfl⟩))
  go_ret2
  exact ⟨rfl, rfl⟩

/-! ### the reference -/
theorem Minus_any (n w : Int) (W : World) (h : 1 ≤ w) (h' : w ≤ 8) :
    Calls Try.prog 30 #[.int .u64 n, .int .i64 w] W fun e W' => e = .returned (.bool (decide (top w.toNat / 2 < n))) ∧ W = W' := by
  have ht := top_big w h h'
  go_enter Try.func30, Try.ntmps30
  go_wp2_with (go_at_call 22; refine (top_any w _ h h').mono ?_; rintro e w1 ⟨rfl, rfl⟩)
  go_ret
  exact ⟨rfl, rfl⟩

theorem RSigned_no (n w : Int) (W : World) (h : ¬ (1 ≤ w ∧ w ≤ 8)) :
    Calls Try.prog 19 #[.int .u64 n, .int .i64 w] W fun e W' => e = .returned (.tuple #[.int .i64 0, .int .i64 2]) ∧ W = W' := by
  go_enter Try.func19, Try.ntmps19
  go_wp2_with (go_at_call 21; refine (Width_no w _ h).mono ?_; rintro e w1 ⟨rfl, rfl⟩)
  go_ret2
  exact ⟨rfl, rfl⟩
theorem RSigned_range (n w : Int) (W : World) (h : 1 ≤ w) (h' : w ≤ 8) (hn : top w.toNat < n) :
    Calls Try.prog 19 #[.int .u64 n, .int .i64 w] W fun e W' => e = .returned (.tuple #[.int .i64 0, .int .i64 16]) ∧ W = W' := by
  go_enter Try.func19, Try.ntmps19
  go_wp2_with (first | (go_at_call 21; refine (Width_yes w _ h h').mono ?_; rintro e w1 ⟨rfl, rfl⟩) | (go_at_call 22; refine (top_any w _ h h').mono ?_; rintro e w1 ⟨rfl, rfl⟩))
  go_ret2
  exact ⟨rfl, rfl⟩
theorem rsgn_lo (n w : Int) (hn : n ≤ top w.toNat / 2) : sgn n w = n := by unfold sgn; rw [if_pos hn]
theorem rsgn_hi (n w : Int) (h : 1 ≤ w) (h' : w ≤ 8) (h1 : n ≤ top w.toNat) (hn : top w.toNat / 2 < n) : sgn n w = -(top w.toNat - n) - 1 ∧ 0 ≤ top w.toNat - n ∧ top w.toNat - n ≤ 9223372036854775807 := by
  have := top_big w h h'
  unfold sgn; rw [if_neg (by omega)]; omega
theorem RSigned_ok (n w : Int) (W : World) (h : 1 ≤ w) (h' : w ≤ 8) (h0 : 0 ≤ n) (hn : n ≤ top w.toNat) :
    Calls Try.prog 19 #[.int .u64 n, .int .i64 w] W fun e W' => e = .returned (.tuple #[.int .i64 (sgn n w), .int .i64 0]) ∧ W = W' := by
  have ht := top_big w h h'
  by_cases c : n ≤ top w.toNat / 2
  · have e0 := Go.Lib.hid (rsgn_lo n w c)
    have hd : decide (top w.toNat / 2 < n) = false := decide_eq_false (by omega)
    go_enter Try.func19, Try.ntmps19
    go_wp2_with (first | (go_at_call 21; refine (Width_yes w _ h h').mono ?_; rintro e w1 ⟨rfl, rfl⟩) | (go_at_call 22; refine (top_any w _ h h').mono ?_; rintro e w1 ⟨rfl, rfl⟩) | (go_at_call 30; refine (Minus_any n w _ h h').mono ?_; rintro e w1 ⟨rfl, rfl⟩))
    go_ret2
    exact ⟨by rw [e0.out]; rfl, rfl⟩
  · have e0 := rsgn_hi n w h h' hn (by omega)
    have e1 := Go.Lib.hid e0.1
    have e2 := e0.2
    clear e0
    have hd : decide (top w.toNat / 2 < n) = true := decide_eq_true (by omega)
    go_enter Try.func19, Try.ntmps19
    go_wp2_with (first | (go_at_call 21; refine (Width_yes w _ h h').mono ?_; rintro e w1 ⟨rfl, rfl⟩) | (go_at_call 22; refine (top_any w _ h h').mono ?_; rintro e w1 ⟨rfl, rfl⟩) | (go_at_call 30; refine (Minus_any n w _ h h').mono ?_; rintro e w1 ⟨rfl, rfl⟩))
    go_ret2
    exact ⟨by rw [e1.out]; rfl, rfl⟩

theorem RUnsigned_no (x w : Int) (W : World) (h : ¬ (1 ≤ w ∧ w ≤ 8)) :
    Calls Try.prog 20 #[.int .i64 x, .int .i64 w] W fun e W' => e = .returned (.tuple #[.int .u64 0, .int .i64 2]) ∧ W = W' := by
  go_enter Try.func20, Try.ntmps20
  go_wp2_with (go_at_call 21; refine (Width_no w _ h).mono ?_; rintro e w1 ⟨rfl, rfl⟩)
  go_ret2
  exact ⟨rfl, rfl⟩
theorem uns_pos (x w : Int) (h0 : 0 ≤ x) (hx : x ≤ top w.toNat / 2) : uns x w = x := by
  unfold uns; exact Int.emod_eq_of_lt h0 (by omega)
theorem uns_neg (x w : Int) (h : 1 ≤ w) (h' : w ≤ 8) (h0 : x < 0) (hx : -(top w.toNat / 2) - 1 ≤ x) : uns x w = top w.toNat + (x + 1) := by
  have := top_big w h h'
  unfold uns; rw [← Int.add_emod_right, Int.emod_eq_of_lt (by omega) (by omega)]; omega
theorem RUnsigned_ok (x w : Int) (W : World) (h : 1 ≤ w) (h' : w ≤ 8) (hl : -9223372036854775808 ≤ x) (hx : Fits x w) :
    Calls Try.prog 20 #[.int .i64 x, .int .i64 w] W fun e W' => e = .returned (.tuple #[.int .u64 (uns x w), .int .i64 0]) ∧ W = W' := by
  have ht := top_big w h h'
  obtain ⟨x1, x2⟩ := hx
  by_cases c : 0 ≤ x
  · have e0 := Go.Lib.hid (uns_pos x w c x2)
    go_enter Try.func20, Try.ntmps20
    go_wp2_with (first | (go_at_call 21; refine (Width_yes w _ h h').mono ?_; rintro e w1 ⟨rfl, rfl⟩) | (go_at_call 22; refine (top_any w _ h h').mono ?_; rintro e w1 ⟨rfl, rfl⟩))
    go_ret2
    exact ⟨by rw [e0.out]; rfl, rfl⟩
  · have e0 := Go.Lib.hid (uns_neg x w h h' (by omega) x1)
    go_enter Try.func20, Try.ntmps20
    go_wp2_with (first | (go_at_call 21; refine (Width_yes w _ h h').mono ?_; rintro e w1 ⟨rfl, rfl⟩) | (go_at_call 22; refine (top_any w _ h h').mono ?_; rintro e w1 ⟨rfl, rfl⟩))
    go_ret2
    exact ⟨by rw [e0.out]; rfl, rfl⟩
theorem RUnsigned_range (x w : Int) (W : World) (h : 1 ≤ w) (h' : w ≤ 8) (hl : -9223372036854775808 ≤ x ∧ x ≤ 9223372036854775807) (hx : ¬ Fits x w) :
    Calls Try.prog 20 #[.int .i64 x, .int .i64 w] W fun e W' => e = .returned (.tuple #[.int .u64 0, .int .i64 16]) ∧ W = W' := by
  have ht := top_big w h h'
  by_cases c : 0 ≤ x
  · have c2 : top w.toNat / 2 < x := by unfold Fits at hx; omega
    clear hx
    go_enter Try.func20, Try.ntmps20
    go_wp2_with (first | (go_at_call 21; refine (Width_yes w _ h h').mono ?_; rintro e w1 ⟨rfl, rfl⟩) | (go_at_call 22; refine (top_any w _ h h').mono ?_; rintro e w1 ⟨rfl, rfl⟩))
    go_ret2
    exact ⟨rfl, rfl⟩
  · have c2 : top w.toNat / 2 < -(x + 1) := by unfold Fits at hx; omega
    clear hx
    go_enter Try.func20, Try.ntmps20
    go_wp2_with (first | (go_at_call 21; refine (Width_yes w _ h h').mono ?_; rintro e w1 ⟨rfl, rfl⟩) | (go_at_call 22; refine (top_any w _ h h').mono ?_; rintro e w1 ⟨rfl, rfl⟩))
    go_ret2
    exact ⟨rfl, rfl⟩
end Go.Proofs.Ytgfokdnflbmafaa
