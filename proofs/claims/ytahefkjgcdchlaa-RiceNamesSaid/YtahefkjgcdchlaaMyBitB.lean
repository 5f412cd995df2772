/- Contracts of the package bits: Check. -/
import Derived.Test.YtahefkjgcdchlaaMyBitA
import Derived.Test.YtahefkjgcdchlaaRegT
namespace Go.Proofs.Ytahefkjgcdchlaa
open Go.RowKit Cad

theorem BCheck_neg (W : World) (a : Option Addr) (len cap : Nat) (N : Int) (h0 : N < 0) (_bN : -9223372036854775808 ≤ N) :
    Calls Try.prog 28 #[.agg #[.slice a len cap, .int .i64 N]] W fun e W' => e = .returned (.int .i64 8) ∧ Below W.heap.size W W' := by
  have hbel := ((Below.refl W.heap.size W).alloc (Nat.le_refl _) (.cells #[.slice a len cap, .int .i64 N] 28))
  go_enter Try.func28, Try.ntmps28
  go_wp2
  go_quiet (fail)
  all_goals go_wp2
  all_goals go_ret
  all_goals exact ⟨rfl, Below.drewN hbel _⟩

theorem BCheck_great (W : World) (a : Option Addr) (len cap : Nat) (N : Int) (h0 : ¬ N < 0) (h1 : N > 330000) (_bN : N ≤ 9223372036854775807) :
    Calls Try.prog 28 #[.agg #[.slice a len cap, .int .i64 N]] W fun e W' => e = .returned (.int .i64 8) ∧ Below W.heap.size W W' := by
  have hbel := ((Below.refl W.heap.size W).alloc (Nat.le_refl _) (.cells #[.slice a len cap, .int .i64 N] 28))
  have c0 : decide (N < 0) = false := decide_eq_false h0
  have c1 : (330000 : Int) < N := h1
  clear h0
  go_enter Try.func28, Try.ntmps28
  go_wp2
  go_quiet (fail)
  all_goals go_wp2
  all_goals go_ret
  all_goals exact ⟨rfl, Below.drewN hbel _⟩

theorem BCheck_len (W : World) (a : Option Addr) (len cap n : Nat) (h1 : (n : Int) ≤ 330000) (h2 : len ≠ (n + 7) / 8) (_hl : len ≤ 9223372036854775807) :
    Calls Try.prog 28 #[.agg #[.slice a len cap, .int .i64 n]] W fun e W' => e = .returned (.int .i64 8) ∧ Below W.heap.size W W' := by
  have hbel := ((Below.refl W.heap.size W).alloc (Nat.le_refl _) (.cells #[.slice a len cap, .int .i64 n] 28))
  have h3 : ¬ ((len : Int) = (((n + 7) / 8 : Nat) : Int)) := by omega
  have hsz := Go.Lib.hid (fun w => Bsize_ok w n (by omega))
  obtain ⟨m, hm⟩ : ∃ m, m = (n + 7) / 8 := ⟨_, rfl⟩
  rw [← hm] at h3 hsz
  clear h2 hm
  have c0 : decide ((n : Int) < 0) = false := decide_eq_false (by omega)
  have c1 : decide ((330000 : Int) < n) = false := decide_eq_false (by omega)
  go_enter Try.func28, Try.ntmps28
  go_wp2
  go_quiet ((go_at_call 42; refine (hsz.out _).mono ?_; rintro e w1 ⟨rfl, rfl⟩; exact ⟨rfl, _, rfl⟩))
  all_goals go_wp2
  all_goals go_ret
  all_goals exact ⟨rfl, Below.drewN hbel _⟩

theorem BCheck_in (W : World) (a : Option Addr) (len cap n : Nat) (s : Int) (_hs0 : 0 ≤ s ∧ s ≤ 255) (h1 : (n : Int) ≤ 330000) (h2 : len = (n + 7) / 8) (_hl : len ≤ 9223372036854775807)
    (hsp : Hid (∀ w, Below W.heap.size W w → Calls Try.prog 43 #[.agg #[.slice a len cap, .int .i64 n]] w fun e W' => e = .returned (.int .u8 s) ∧ Below w.heap.size w W')) :
    Calls Try.prog 28 #[.agg #[.slice a len cap, .int .i64 n]] W fun e W' => e = .returned (.int .i64 (if s = 0 then 0 else 8)) ∧ Below W.heap.size W W' := by
  have hbel := ((Below.refl W.heap.size W).alloc (Nat.le_refl _) (.cells #[.slice a len cap, .int .i64 n] 28)).drew
  have hbel' := Go.Lib.hid hbel
  have hsz := Go.Lib.hid (fun w => Bsize_ok w n (by omega))
  rw [← h2] at hsz
  clear h2 hbel
  have c0 : decide ((n : Int) < 0) = false := decide_eq_false (by omega)
  have c1 : decide ((330000 : Int) < n) = false := decide_eq_false (by omega)
  by_cases h4 : s = 0
  all_goals
    go_enter Try.func28, Try.ntmps28
    go_wp2
    refine wp_region_quiet_tail 18 (by kernel_rfl) (by kernel_rfl) ?_
    simp only [List.take_succ_cons, List.take_zero, List.drop_succ_cons, List.drop_zero]
    repeat (first
      | go_big_quiet_skip
      | (go_big_quiet_want; go_big_quiet_op; first | go_big_quiet_on | (apply Exists.intro; refine ⟨?_, ?_⟩; (focus (go_at_call 42; refine (hsz.out _).mono ?_; rintro e w1 ⟨rfl, rfl⟩; exact ⟨rfl, rfl⟩)); go_big_quiet_on)))
    refine wpQuiet_nil ?_
    go_wp2_with (go_at_call 43; refine (hsp.out _ hbel'.out).mono ?_; rintro e w1 ⟨rfl, hb1⟩)
    go_ret
    exact ⟨ret_int (by simp ), hbel'.out.trans (hb1.mono (by simp))⟩

theorem BCheck_any (W : World) (a : Option Addr) (len cap : Nat) (N : Int) (l : List Int) (hr : Row .u8 W a len cap l) (hN : (Lit.int .i64 N).wf = true) (r : Int) (hr0 : chk l N r) :
    Calls Try.prog 28 #[.agg #[.slice a len cap, .int .i64 N]] W fun e W' => e = .returned (.int .i64 r) ∧ Below W.heap.size W W' := by
  have hmax := hr.hmax
  have hcap := hr.hcap
  have hlen := hr.hlen
  have bN := bounds_i64 hN
  unfold maxLen at hmax
  by_cases h0 : N < 0
  · obtain rfl := hr0.no fun h => by have := h.n; omega
    exact BCheck_neg W a len cap N h0 bN.1
  by_cases h1 : N > 330000
  · obtain rfl := hr0.no fun h => by have := h.n; omega
    exact BCheck_great W a len cap N h0 h1 bN.2
  obtain ⟨n, rfl⟩ : ∃ n : Nat, N = n := ⟨N.toNat, by omega⟩
  by_cases h2 : len = (n + 7) / 8
  · have key : Valid l n ↔ spareV l n = 0 := by
      rw [spare_iff (u8_bd hr.wf) (by omega) (by omega)]
      unfold spareV
      split <;> simp_all
    have hr1 : r = if spareV l n = 0 then 0 else 8 := by
      by_cases hv : spareV l n = 0
      · rw [if_pos hv]; exact hr0.yes (key.2 hv)
      · rw [if_neg hv]; exact hr0.no fun h => hv (key.1 h)
    have hb := getD_bd (u8_bd hr.wf) (l.length - 1)
    have hsb : 0 ≤ spareV l n ∧ spareV l n ≤ 255 := by
      unfold spareV
      split
      · exact ⟨by decide, by decide⟩
      · exact ⟨Int.ediv_nonneg hb.1 (Int.pow_nonneg (by decide)), Int.le_trans (Int.ediv_le_self _ hb.1) hb.2⟩
    rw [hr1]
    exact BCheck_in W a len cap n _ hsb (by omega) h2 (by omega) (Go.Lib.hid fun w hw => Bspare_ok w a len cap n l (hr.below hw (Nat.le_refl _)) (by omega) h2)
  · obtain rfl := hr0.no fun h => by have := h.n; omega
    exact BCheck_len W a len cap n (by omega) h2 (by omega)
end Go.Proofs.Ytahefkjgcdchlaa
