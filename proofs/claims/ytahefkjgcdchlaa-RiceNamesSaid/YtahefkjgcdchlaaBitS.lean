/- Contracts of the reference's functions on bits: those that compare and read numbers. -/
import Derived.Test.YtahefkjgcdchlaaBitR
namespace Go.Proofs.Ytahefkjgcdchlaa
open Go.RowKit Cad

def great (len : Nat) : Bool := decide (190 < len ∧ len < 41230 ∨ 41350 < len)
theorem great_yes {len : Nat} (h : 190 < len ∧ len < 41230 ∨ 41350 < len) : great len = true := decide_eq_true h
theorem great_no {len : Nat} (h : ¬ (190 < len ∧ len < 41230 ∨ 41350 < len)) : great len = false := decide_eq_false h
theorem RGreat_ok (W : World) (a : Option Addr) (len cap : Nat) (N : Int) (hl : len ≤ 9223372036854775807) :
    Calls Try.prog 15 #[.agg #[.slice a len cap, .int .i64 N]] W fun e W' => e = .returned (.bool (great len)) ∧ Below W.heap.size W W' := by
  have hbel := (Below.refl W.heap.size W).alloc (Nat.le_refl _) (.cells #[.slice a len cap, .int .i64 N] 28)
  by_cases h1 : (190 : Int) < len
  · by_cases h2 : (len : Int) < 41230
    · rw [great_yes (by omega)]
      go_enter Try.func15, Try.ntmps15
      go_wp2
      go_ret
      exact ⟨rfl, hbel⟩
    · by_cases h3 : (41350 : Int) < len
      · rw [great_yes (by omega)]
        go_enter Try.func15, Try.ntmps15
        go_wp2
        go_ret
        exact ⟨rfl, hbel⟩
      · rw [great_no (by omega)]
        go_enter Try.func15, Try.ntmps15
        go_wp2
        go_ret
        exact ⟨rfl, hbel⟩
  · have h3 : ¬ (41350 : Int) < len := by omega
    rw [great_no (by omega)]
    go_enter Try.func15, Try.ntmps15
    go_wp2
    go_ret
    exact ⟨rfl, hbel⟩

theorem RSame_ok (W : World) (a : Option Addr) (len cap : Nat) (N : Int) (l : List Int) (hr : Row .u8 W a len cap l) (a' : Option Addr) (len' cap' : Nat) (N' : Int) (l' : List Int) (hr' : Row .u8 W a' len' cap' l') :
    Calls Try.prog 20 #[.agg #[.slice a len cap, .int .i64 N], .agg #[.slice a' len' cap', .int .i64 N']] W fun e W' => e = .returned (.bool (decide (N = N' ∧ l = l'))) ∧ Below W.heap.size W W' := by
  have hbel := ((Below.refl W.heap.size W).alloc (Nat.le_refl _) (.cells #[.slice a len cap, .int .i64 N] 28)).alloc (by simp) (.cells #[.slice a' len' cap', .int .i64 N'] 28)
  by_cases h1 : N = N'
  · subst h1
    have s1 := (hr.below hbel (Nat.le_refl _)).str Try.underlying26 Try.underlying5 Try.underlying9
    have s2 := (hr'.below hbel (Nat.le_refl _)).str Try.underlying26 Try.underlying5 Try.underlying9
    have hs := str_beq (u8_bd hr.wf) (u8_bd hr'.wf)
    clear hr hr'
    go_enter Try.func20, Try.ntmps20
    go_wp2
    go_ret
    exact ⟨ret_bool (by by_cases e : l = l' <;> simp [e]), hbel⟩
  · go_enter Try.func20, Try.ntmps20
    go_wp2
    go_ret
    exact ⟨ret_bool (by simp [h1]), hbel⟩

end Go.Proofs.Ytahefkjgcdchlaa
