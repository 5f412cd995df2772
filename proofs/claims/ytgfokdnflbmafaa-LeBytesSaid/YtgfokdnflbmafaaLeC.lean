/- Contracts of the functions of le's reference that make bytes; the functions At. -/
import Derived.Test.YtgfokdnflbmafaaLeB
namespace Go.Proofs.Ytgfokdnflbmafaa
open Go.RowKit Cad

theorem Written_ok (n : Int) (w : Nat) (W : World) (h' : w ≤ 8) (h0 : 0 ≤ n) (hn : n ≤ 18446744073709551615) :
    Calls Try.prog 28 #[.int .u64 n, .int .i64 w] W fun e W' => ∃ v, e = .returned v ∧
      W'.ownsRow W.heap.size 5 1 v w (nums .u8 (leB n w)) ∧ Below W.heap.size W W' := by
  go_enter Try.func28, Try.ntmps28
  go_wp2
  go_loopw [0, 5, 6] (fun m v i wr => ∃ k : Nat, k ≤ w ∧ i = .int .i64 k ∧ m = .int .u64 (n / 256 ^ k) ∧ wr.ownsRow W.heap.size 5 1 v k (nums .u8 (leB n k)) ∧ Below W.heap.size W wr) (fun _ _ i _ => w - (intOf i).toNat)
  case atStart => exact ⟨0, by omega, rfl, by simp, World.ownsRow_nil _ _ _ _, Below.refl _ _⟩
  case round =>
    obtain ⟨k, hk, rfl, rfl, hown, hb⟩ := hrel
    by_cases hlt : k < w
    · have hm : 0 ≤ n / 256 ^ k ∧ n / 256 ^ k ≤ 18446744073709551615 := by
        have hp : (0 : Int) < 256 ^ k := Int.pow_pos (by decide)
        exact ⟨Int.ediv_nonneg h0 (by omega), Int.le_trans (Int.ediv_le_self _ h0) hn⟩
      have hq : n / 256 ^ k / 256 = n / 256 ^ (k + 1) := by rw [Int.pow_succ, ← Int.ediv_ediv_of_nonneg (Int.le_of_lt (Int.pow_pos (by decide)))]
      obtain ⟨m, hmm⟩ : ∃ m, m = n / 256 ^ k := ⟨_, rfl⟩
      rw [← hmm] at hm hq ⊢
      have HM := Go.Lib.hid hmm
      have HQ := Go.Lib.hid hq
      clear hmm hq
      have hs := hb.size
      go_wp2_with (at_builtin; refine law_append1 elU8 _ rfl _ _ rfl W.heap.size _ k (leB n k) rfl hown (m % 256) rfl (by omega) (by omega) ?_)
      intro v' w1 hown' hb'
      have hown1 := hown'
      rw [HM.out, ← leB_snoc] at hown1
      have hb1 := hb.trans hb'
      clear hown' hb' hb hown
      go_wp2
      go_roundw
      case rel => exact ⟨k + 1, by omega, by go_num, by rw [← HQ.out], hown1, hb1⟩
      case measure => (simp [intOf] <;> omega)
    · go_wp2
      go_ret
      exact ⟨_, rfl, by rw [show k = w from by omega] at hown; exact hown, hb⟩

theorem RBytes_no (n w : Int) (W : World) (h : ¬ (1 ≤ w ∧ w ≤ 8)) :
    Calls Try.prog 16 #[.int .u64 n, .int .i64 w] W fun e W' => e = .returned (.tuple #[.slice none 0 0, .int .i64 2]) ∧ W = W' := by
  go_enter Try.func16, Try.ntmps16
  go_wp2_with (go_at_call 21; refine (Width_no _ _ h).mono ?_; rintro e w1 ⟨rfl, rfl⟩)
  go_ret2
  exact ⟨rfl, rfl⟩
theorem RBytes_range (n w : Int) (W : World) (h : 1 ≤ w) (h' : w ≤ 8) (hn : top w.toNat < n) :
    Calls Try.prog 16 #[.int .u64 n, .int .i64 w] W fun e W' => e = .returned (.tuple #[.slice none 0 0, .int .i64 16]) ∧ W = W' := by
  go_enter Try.func16, Try.ntmps16
  go_wp2_with (first | (go_at_call 21; refine (Width_yes _ _ (by omega) (by omega)).mono ?_; rintro e w1 ⟨rfl, rfl⟩) | (go_at_call 22; refine (top_any w _ h h').mono ?_; rintro e w1 ⟨rfl, rfl⟩))
  go_ret2
  exact ⟨rfl, rfl⟩
theorem RBytes_ok (n : Int) (w : Nat) (W : World) (h : 1 ≤ w) (h' : w ≤ 8) (h0 : 0 ≤ n) (hn : n ≤ top w) :
    Calls Try.prog 16 #[.int .u64 n, .int .i64 w] W fun e W' => ∃ v, e = .returned (.tuple #[v, .int .i64 0]) ∧
      W'.ownsRow W.heap.size 5 1 v w (nums .u8 (leB n w)) ∧ Below W.heap.size W W' := by
  have hn' : n ≤ top (w : Int).toNat := by simpa using hn
  have ht := (top_big w (by omega) (by omega)).2
  go_enter Try.func16, Try.ntmps16
  go_wp2_with (first | (go_at_call 21; refine (Width_yes _ _ (by omega) (by omega)).mono ?_; rintro e w1 ⟨rfl, rfl⟩) | (go_at_call 22; refine (top_any w _ (by omega) (by omega)).mono ?_; rintro e w1 ⟨rfl, rfl⟩) | (go_at_call 28; refine (Written_ok n w _ h' h0 (by omega)).mono ?_; rintro e w1 ⟨v, rfl, hown, hb⟩))
  go_ret2
  exact ⟨_, rfl, hown, hb⟩

theorem At_no (W : World) (a : Option Addr) (len cap : Nat) (at_ w : Int) (h : ¬ (1 ≤ w ∧ w ≤ 8)) :
    Calls Try.prog 11 #[.slice a len cap, .int .i64 at_, .int .i64 w] W fun e W' => e = .returned (.tuple #[.int .u64 0, .int .i64 2]) ∧ W = W' := by
  go_enter Try.func11, Try.ntmps11
  go_wp2_with (go_at_call 23; refine (isWidth_no _ _ h).mono ?_; rintro e w1 ⟨rfl, rfl⟩)
  go_ret2
  exact ⟨rfl, rfl⟩
theorem At_neg (W : World) (a : Option Addr) (len cap : Nat) (at_ w : Int) (h : 1 ≤ w ∧ w ≤ 8) (h0 : at_ < 0) :
    Calls Try.prog 11 #[.slice a len cap, .int .i64 at_, .int .i64 w] W fun e W' => e = .returned (.tuple #[.int .u64 0, .int .i64 2]) ∧ W = W' := by
  go_enter Try.func11, Try.ntmps11
  go_wp2_with (go_at_call 23; refine (isWidth_yes _ _ (by omega) (by omega)).mono ?_; rintro e w1 ⟨rfl, rfl⟩)
  go_ret2
  exact ⟨rfl, rfl⟩
theorem At_short (W : World) (a : Option Addr) (len cap : Nat) (at_ w : Int) (h : 1 ≤ w ∧ w ≤ 8) (h0 : 0 ≤ at_) (hl : len ≤ 9223372036854775807) (hs : (len : Int) < at_ + w) :
    Calls Try.prog 11 #[.slice a len cap, .int .i64 at_, .int .i64 w] W fun e W' => e = .returned (.tuple #[.int .u64 0, .int .i64 24]) ∧ W = W' := by
  go_enter Try.func11, Try.ntmps11
  go_wp2_with (go_at_call 23; refine (isWidth_yes _ _ (by omega) (by omega)).mono ?_; rintro e w1 ⟨rfl, rfl⟩)
  go_ret2
  exact ⟨rfl, rfl⟩
theorem At_ok (W : World) (a : Option Addr) (len cap : Nat) (l : List Int) (at_ w : Nat) (hr : Row .u8 W a len cap l) (h : 1 ≤ w ∧ w ≤ 8) (hl : len ≤ 9223372036854775807) (hs : at_ + w ≤ len) :
    Calls Try.prog 11 #[.slice a len cap, .int .i64 at_, .int .i64 w] W fun e W' => e = .returned (.tuple #[.int .u64 (ofB ((l.drop at_).take w)), .int .i64 0]) ∧ W = W' := by
  obtain ⟨b, off, rfl, _, _⟩ := hr.cells (by omega)
  have hr' := hr.sub at_ w hs
  have hcap := hr.hcap
  have hmax := hr.hmax
  unfold maxLen at hmax
  have hne : (cap = at_) = False := by simp; omega
  go_enter Try.func11, Try.ntmps11
  go_wp2_with (first | (go_at_call 23; refine (isWidth_yes _ _ (by omega) (by omega)).mono ?_; rintro e w1 ⟨rfl, rfl⟩) | (go_at_call 25; refine (join_any _ _ _ _ _ hr' (by omega) (by omega)).mono ?_; rintro e w1 ⟨rfl, rfl⟩))
  go_ret2
  exact ⟨rfl, rfl⟩

theorem RAt_no (W : World) (a : Option Addr) (len cap : Nat) (at_ w : Int) (h : ¬ (1 ≤ w ∧ w ≤ 8)) :
    Calls Try.prog 18 #[.slice a len cap, .int .i64 at_, .int .i64 w] W fun e W' => e = .returned (.tuple #[.int .u64 0, .int .i64 2]) ∧ W = W' := by
  go_enter Try.func18, Try.ntmps18
  go_wp2_with (go_at_call 21; refine (Width_no _ _ h).mono ?_; rintro e w1 ⟨rfl, rfl⟩)
  go_ret2
  exact ⟨rfl, rfl⟩
theorem RAt_neg (W : World) (a : Option Addr) (len cap : Nat) (at_ w : Int) (h : 1 ≤ w ∧ w ≤ 8) (h0 : at_ < 0) :
    Calls Try.prog 18 #[.slice a len cap, .int .i64 at_, .int .i64 w] W fun e W' => e = .returned (.tuple #[.int .u64 0, .int .i64 2]) ∧ W = W' := by
  go_enter Try.func18, Try.ntmps18
  go_wp2_with (go_at_call 21; refine (Width_yes _ _ (by omega) (by omega)).mono ?_; rintro e w1 ⟨rfl, rfl⟩)
  go_ret2
  exact ⟨rfl, rfl⟩
theorem RAt_short (W : World) (a : Option Addr) (len cap : Nat) (at_ w : Int) (h : 1 ≤ w ∧ w ≤ 8) (h0 : 0 ≤ at_) (hl : len ≤ 9223372036854775807) (hs : (len : Int) < at_ + w) :
    Calls Try.prog 18 #[.slice a len cap, .int .i64 at_, .int .i64 w] W fun e W' => e = .returned (.tuple #[.int .u64 0, .int .i64 24]) ∧ W = W' := by
  by_cases hc : (len : Int) < at_
  · go_enter Try.func18, Try.ntmps18
    go_wp2_with (go_at_call 21; refine (Width_yes _ _ (by omega) (by omega)).mono ?_; rintro e w1 ⟨rfl, rfl⟩)
    go_ret2
    exact ⟨rfl, rfl⟩
  · go_enter Try.func18, Try.ntmps18
    go_wp2_with (go_at_call 21; refine (Width_yes _ _ (by omega) (by omega)).mono ?_; rintro e w1 ⟨rfl, rfl⟩)
    go_ret2
    exact ⟨rfl, rfl⟩
theorem RAt_ok (W : World) (a : Option Addr) (len cap : Nat) (l : List Int) (at_ w : Nat) (hr : Row .u8 W a len cap l) (h : 1 ≤ w ∧ w ≤ 8) (hl : len ≤ 9223372036854775807) (hs : at_ + w ≤ len) :
    Calls Try.prog 18 #[.slice a len cap, .int .i64 at_, .int .i64 w] W fun e W' => e = .returned (.tuple #[.int .u64 (ofB ((l.drop at_).take w)), .int .i64 0]) ∧ W = W' := by
  obtain ⟨b, off, rfl, _, _⟩ := hr.cells (by omega)
  have hr' := hr.sub at_ w hs
  have hcap := hr.hcap
  have hmax := hr.hmax
  unfold maxLen at hmax
  have hne : (cap = at_) = False := by simp; omega
  go_enter Try.func18, Try.ntmps18
  go_wp2_with (first | (go_at_call 21; refine (Width_yes _ _ (by omega) (by omega)).mono ?_; rintro e w1 ⟨rfl, rfl⟩) | (go_at_call 29; refine (Of_any _ _ _ _ _ hr' (by omega) (by omega)).mono ?_; rintro e w1 ⟨rfl, rfl⟩))
  go_ret2
  exact ⟨rfl, rfl⟩
end Go.Proofs.Ytgfokdnflbmafaa
