/- Contracts of the package rice: its small functions. -/
import Derived.Test.YtahefkjgcdchlaaMyBitM
import Derived.Test.YtahefkjgcdchlaaUnaB
import Derived.Test.YtahefkjgcdchlaaRicP
namespace Go.Proofs.Ytahefkjgcdchlaa
open Go.RowKit Cad

theorem PisParameter_ok (W : World) (k : Nat) (h : k ≤ 24) :
    Calls Try.prog 24 #[.int .i64 k] W fun e W' => e = .returned (.bool true) ∧ W = W' := by
  have h1 : (k : Int) ≤ 24 := by omega
  have h2 : (0 : Int) ≤ k := by omega
  go_enter Try.func24, Try.ntmps24
  go_wp2
  go_ret
  exact ⟨rfl, rfl⟩
theorem PisParameter_no (W : World) (k : Int) (hk : (Lit.int .i64 k).wf = true) (h : k < 0 ∨ 24 < k) :
    Calls Try.prog 24 #[.int .i64 k] W fun e W' => e = .returned (.bool false) ∧ W = W' := by
  have bn := bounds_i64 hk
  have key : k < 0 ∨ (0 ≤ k ∧ ¬ k ≤ 24) := by omega
  rcases key with h | ⟨h, h'⟩
  all_goals
    go_enter Try.func24, Try.ntmps24
    go_wp2
    go_ret
    exact ⟨rfl, rfl⟩

theorem PlowBits_ok (W : World) (q k : Nat) (hq : q ≤ 48) (_h : k ≤ 24) :
    Calls Try.prog 27 #[.int .i64 q, .int .i64 k] W fun e W' => e = .returned (.int .i64 (lowN q k : Nat)) ∧ W = W' := by
  unfold lowN
  by_cases e : q < 48
  · rw [if_pos e]
    have h1 : (q : Int) < 48 := by omega
    go_enter Try.func27, Try.ntmps27
    go_wp2
    go_ret
    exact ⟨rfl, rfl⟩
  · rw [if_neg e]
    obtain rfl : q = 48 := by omega
    go_enter Try.func27, Try.ntmps27
    go_wp2
    go_ret
    exact ⟨rfl, rfl⟩

theorem PrunOf_ok (W : World) (v k : Nat) (hv : v < 4294967296) (h : k ≤ 24) :
    Calls Try.prog 25 #[.int .u32 v, .int .i64 k] W fun e W' => e = .returned (.int .i64 (partN v k : Nat)) ∧ W = W' := by
  have hp := pow24 h
  obtain ⟨x, hx⟩ : ∃ x, x = v / 2 ^ k := ⟨_, rfl⟩
  have hxb : x < 4294967296 := by rw [hx]; exact Nat.lt_of_le_of_lt (Nat.div_le_self _ _) hv
  have e1 : (v : Int) / 2 ^ k = (x : Int) := by rw [hx]; simp
  have hpx : partN v k = min 48 x := by unfold partN; rw [hx]
  have h1 : (k : Int) ≤ 24 := by omega
  have h2 : (0 : Int) ≤ k := by omega
  obtain ⟨m, hm⟩ : ∃ m, m = min 48 x := ⟨_, rfl⟩
  rw [hpx, ← hm]
  have m1 : (if (48 : Int) < (x : Int) then (48 : Int) else (x : Int)) = (m : Int) := by split <;> omega
  have m2 : (if 48 < x then (48 : Int) else (x : Int)) = (m : Int) := by split <;> omega
  have hmb : m ≤ 48 := by omega
  clear hpx hm hx hp
  go_enter Try.func25, Try.ntmps25
  go_wp2
  go_ret
  exact ⟨by go_num, rfl⟩
end Go.Proofs.Ytahefkjgcdchlaa
