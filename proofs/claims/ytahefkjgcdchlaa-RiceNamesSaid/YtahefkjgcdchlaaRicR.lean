/- Contracts of the reference of rice: its numbers, Length, Add. -/
import Derived.Test.YtahefkjgcdchlaaUnaS
import Derived.Test.YtahefkjgcdchlaaBitNum
import Derived.Test.YtahefkjgcdchlaaRicP
namespace Go.Proofs.Ytahefkjgcdchlaa
open Go.RowKit Cad

theorem RrParameter_ok (W : World) (k : Nat) (h : k ≤ 24) :
    Calls Try.prog 36 #[.int .i64 k] W fun e W' => e = .returned (.bool true) ∧ W = W' := by
  have h1 : (k : Int) ≤ 24 := by omega
  have h2 : (0 : Int) ≤ k := by omega
  go_enter Try.func36, Try.ntmps36
  go_wp2
  go_ret
  exact ⟨rfl, rfl⟩
theorem RrParameter_no (W : World) (k : Int) (hk : (Lit.int .i64 k).wf = true) (h : k < 0 ∨ 24 < k) :
    Calls Try.prog 36 #[.int .i64 k] W fun e W' => e = .returned (.bool false) ∧ W = W' := by
  have bn := bounds_i64 hk
  have key : k < 0 ∨ (0 ≤ k ∧ ¬ k ≤ 24) := by omega
  rcases key with h | ⟨h, h'⟩
  all_goals
    go_enter Try.func36, Try.ntmps36
    go_wp2
    go_ret
    exact ⟨rfl, rfl⟩

theorem RrPower_ok (W : World) (k : Nat) (hk : k ≤ 24) :
    Calls Try.prog 49 #[.int .i64 k] W fun e W' => e = .returned (.int .u64 (2 ^ k : Nat)) ∧ W = W' := by
  go_enter Try.func49, Try.ntmps49
  go_wp2
  go_loopw [3, 4] (fun n i wr => ∃ j : Nat, j ≤ k ∧ i = .int .i64 j ∧ n = .int .u64 (2 ^ j : Nat) ∧ wr = W) (fun _ i _ => k - (intOf i).toNat)
  case atStart => exact ⟨0, by omega, rfl, rfl, rfl⟩
  case round =>
    obtain ⟨j, hj, rfl, rfl, rfl⟩ := hrel
    obtain ⟨x, hx⟩ : ∃ x, x = 2 ^ j := ⟨_, rfl⟩
    by_cases hlt : j < k
    · have hb := (pow24 (show j ≤ 24 by omega)).2
      have hs : 2 ^ (j + 1) = x * 2 := by rw [hx, Nat.pow_succ]
      rw [← hx] at hb ⊢
      clear hx
      go_wp2
      go_roundw
      case rel => exact ⟨j + 1, by omega, by go_num, by rw [hs]; go_num, trivial⟩
      case measure => (simp [intOf] <;> omega)
    · obtain rfl : j = k := by omega
      have hx' := Go.Lib.hid hx
      rw [← hx]
      clear hx
      go_wp2
      go_ret
      exact ⟨by rw [← hx'.out]; rfl, rfl⟩

theorem RrPart_ok (W : World) (v k : Nat) (hv : v < 4294967296) (hk : k ≤ 24) :
    Calls Try.prog 46 #[.int .u32 v, .int .i64 k] W fun e W' => e = .returned (.int .i64 (partN v k : Nat)) ∧ W = W' := by
  have hpw := Go.Lib.hid fun w => RrPower_ok w k hk
  have hb := pow24 hk
  have hpx : partN v k = min 48 (v / 2 ^ k) := rfl
  obtain ⟨p, hp⟩ : ∃ p, p = 2 ^ k := ⟨_, rfl⟩
  rw [← hp] at hpw hb hpx
  obtain ⟨x, hx⟩ : ∃ x, x = v / p := ⟨_, rfl⟩
  have hxb : x < 4294967296 := by rw [hx]; exact Nat.lt_of_le_of_lt (Nat.div_le_self _ _) hv
  have e1 : (v : Int) / (p : Int) = (x : Int) := by rw [hx]; simp
  have e2 : (v : Int).tdiv (p : Int) = (x : Int) := by rw [hx]; simp
  rw [← hx] at hpx
  obtain ⟨m, hm⟩ : ∃ m, m = min 48 x := ⟨_, rfl⟩
  rw [hpx, ← hm]
  have m1 : (if (x : Int) < (48 : Int) then (x : Int) else (48 : Int)) = (m : Int) := by split <;> omega
  have m2 : (if x < 48 then (x : Int) else (48 : Int)) = (m : Int) := by split <;> omega
  have hmb : m ≤ 48 := by omega
  have hp0 : ¬ (p : Int) = 0 := by omega
  have hp1 : ((p : Int) == 0) = false := by simpa using hp0
  clear hpx hm hx hp
  go_enter Try.func46, Try.ntmps46
  go_wp2_with (go_at_call 49; refine (hpw.out _).mono ?_; rintro e w1 ⟨rfl, rfl⟩)
  go_ret
  exact ⟨by go_num, rfl⟩

theorem RrLong_ok (W : World) (v k : Nat) (hv : v < 4294967296) (hk : k ≤ 24) :
    Calls Try.prog 37 #[.int .u32 v, .int .i64 k] W fun e W' => e = .returned (.int .i64 (riceLen v k : Nat)) ∧ W = W' := by
  have hpa := Go.Lib.hid fun w => RrPart_ok w v k hv hk
  by_cases h : partN v k = 48
  · rw [riceLen_full h]
    rw [h] at hpa
    clear h
    go_enter Try.func37, Try.ntmps37
    go_wp2_with (go_at_call 46; refine (hpa.out _).mono ?_; rintro e w1 ⟨rfl, rfl⟩)
    go_ret
    exact ⟨rfl, rfl⟩
  · have h1 := partN_le v k
    rw [riceLen_less (by omega)]
    obtain ⟨q, hq⟩ : ∃ q, q = partN v k := ⟨_, rfl⟩
    rw [← hq] at h h1 hpa ⊢
    have h2 : ¬ (q : Int) = 48 := by omega
    clear hq h
    go_enter Try.func37, Try.ntmps37
    go_wp2_with (go_at_call 46; refine (hpa.out _).mono ?_; rintro e w1 ⟨rfl, rfl⟩)
    go_ret
    exact ⟨by go_num, rfl⟩
theorem RrLength_ok (W : World) (v k : Nat) (hv : v < 4294967296) (hk : k ≤ 24) :
    Calls Try.prog 17 #[.int .u32 v, .int .i64 k] W fun e W' => e = .returned (.tuple #[.int .i64 (riceLen v k : Nat), .int .i64 0]) ∧ W = W' := by
  have hpa := Go.Lib.hid fun w => RrParameter_ok w k hk
  have hlo := Go.Lib.hid fun w => RrLong_ok w v k hv hk
  go_enter Try.func17, Try.ntmps17
  go_wp2_with (first
    | (go_at_call 36; refine (hpa.out _).mono ?_; rintro e w1 ⟨rfl, rfl⟩)
    | (go_at_call 37; refine (hlo.out _).mono ?_; rintro e w1 ⟨rfl, rfl⟩))
  go_ret2
  exact ⟨rfl, rfl⟩
theorem RrLength_arg (W : World) (v : Nat) (k : Int) (hk : (Lit.int .i64 k).wf = true) (h : k < 0 ∨ 24 < k) :
    Calls Try.prog 17 #[.int .u32 v, .int .i64 k] W fun e W' => e = .returned (.tuple #[.int .i64 0, .int .i64 2]) ∧ W = W' := by
  have hpa := Go.Lib.hid fun w => RrParameter_no w k hk h
  clear hk h
  go_enter Try.func17, Try.ntmps17
  go_wp2_with (go_at_call 36; refine (hpa.out _).mono ?_; rintro e w1 ⟨rfl, rfl⟩)
  go_ret2
  exact ⟨rfl, rfl⟩
end Go.Proofs.Ytahefkjgcdchlaa
