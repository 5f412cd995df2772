/- Contracts of the reference of unary: Write and Read. -/
import Derived.Test.YtahefkjgcdchlaaUnaR
namespace Go.Proofs.Ytahefkjgcdchlaa
open Go.RowKit Cad

/-- what Got says: the number and the index behind it, or -1 and 0 -/
def gotV (B : List Bool) (i : Nat) : Int × Nat :=
  let n := lead (B.drop i) 48
  if n = 48 then (48, i + 48) else if i + n < B.length then ((n : Int), i + n + 1) else (-1, 0)
theorem gotV_read {B : List Bool} {i : Nat} {g : Int} {m : Nat} (h : gotV B i = (g, m)) : (g < 0 ∧ m = 0 ∧ readV B i = (0, 0, 24)) ∨ ∃ p : Nat, g = p ∧ readV B i = (p, m, 0) := by
  unfold gotV at h
  unfold readV
  simp only at h ⊢
  split at h
  · rename_i e
    cases h
    right; exact ⟨48, rfl, by rw [if_pos e]⟩
  · rename_i e
    rw [if_neg e]
    split at h
    · rename_i e2
      cases h
      right; exact ⟨_, rfl, by rw [if_pos e2]⟩
    · rename_i e2
      cases h
      left; exact ⟨by decide, rfl, by rw [if_neg e2]⟩

theorem RuGot_ok (W : World) (a : Option Addr) (len cap : Nat) (B : List Bool) (i : Nat) (hr : Row .u8 W a len cap (pack B)) (hB : B.length ≤ 330000) (hi : i < B.length) (g : Int) (m : Nat) (hv : gotV B i = (g, m)) :
    Calls Try.prog 50 #[.agg #[.slice a len cap, .int .i64 B.length], .int .i64 i] W fun e W' => e = .returned (.tuple #[.int .i64 g, .int .i64 m]) ∧ Below W.heap.size W W' := by
  have hl := hr.hlen
  rw [pack_len] at hl
  have hbE' := Go.Lib.hid (below1 W (.cells #[.slice a len cap, .int .i64 B.length] 28))
  have hx0' := Go.Lib.hid (show BoxAt (W.alloc (.cells #[.slice a len cap, .int .i64 B.length] 28)) W.heap.size (.slice a len cap) B.length from heap_alloc_new _ _)
  have hrE := Go.Lib.hid (hr.below hbE'.out (Nat.le_refl _))
  have hv' := Go.Lib.hid hv
  have hsz := Go.Lib.hid (World.size_alloc W (.cells #[.slice a len cap, .int .i64 B.length] 28))
  obtain ⟨W0, hW0⟩ : ∃ W0, W0 = W.alloc (.cells #[.slice a len cap, .int .i64 B.length] 28) := ⟨_, rfl⟩
  rw [← hW0] at hbE' hx0' hrE hsz
  clear hr hv
  go_enter Try.func50, Try.ntmps50
  go_wp2
  rw [← hW0]
  clear hW0
  go_loopw [6] (fun n wr => ∃ k : Nat, k ≤ 48 ∧ i + k ≤ B.length ∧ n = .int .i64 k ∧ (∀ j, j < k → (B.drop i).getD j false = true) ∧ Below W0.heap.size W0 wr) (fun n _ => 48 - (intOf n).toNat)
  case atStart => exact ⟨0, by omega, by omega, rfl, fun j h => by omega, Below.refl _ _⟩
  case round =>
    obtain ⟨k, hk, hik, rfl, hones, hb⟩ := hrel
    have hones' := Go.Lib.hid hones
    obtain ⟨x0, x1, x2, x3⟩ := (hx0'.out.below hb (by have := hsz.out; omega)).cells
    have hrr := hrE.out.below hb (Nat.le_refl _)
    have hb' := Go.Lib.hid hb
    have hlen : (B.drop i).length = B.length - i := by simp
    have hdg := drop_getD B i k
    clear hones
    by_cases hin : i + k < B.length
    · have hin' : (i : Int) + (k : Int) < (B.length : Int) := by omega
      by_cases hlt : k < 48
      · have hlt' : (k : Int) < 48 := by omega
        have hc := RAt_ok wr a len cap B.length (pack B) hrr (i + k) (by omega)
        rw [bit_pack] at hc
        have e1 : ((i + k : Nat) : Int) = (i : Int) + (k : Int) := by omega
        rw [e1] at hc
        cases hbit : B.getD (i + k) false with
        | true =>
          rw [hbit] at hc hdg
          have hc' := Go.Lib.hid hc
          clear hc hb hrr e1 hin
          go_wp2_with (go_at_call 40; with_reducible refine hc'.out.mono ?_; rintro e w1 ⟨rfl, hb1⟩; have hb1' := Go.Lib.hid (hb'.out.trans (hb1.mono hb'.out.size)); clear hb1)
          go_roundw
          case rel => exact ⟨k + 1, by omega, by omega, by go_num, fun j hj => by
            by_cases e : j = k
            · subst e; exact hdg
            · exact hones'.out j (by omega), hb1'.out⟩
          case measure => (simp [intOf] <;> omega)
        | false =>
          rw [hbit] at hc hdg
          have hc' := Go.Lib.hid hc
          have hlv := lead_eq (B.drop i) 48 k hk hones'.out (fun _ => hdg) (by omega)
          have hz := hv'.out
          unfold gotV at hz
          simp only [hlv] at hz
          rw [if_neg (by omega), if_pos hin] at hz
          cases hz
          clear hc hb hrr e1 hlv
          have h48 : ¬ (k : Int) = 48 := by omega
          go_wp2_with (go_at_call 40; with_reducible refine hc'.out.mono ?_; rintro e w1 ⟨rfl, hb1⟩; have hb1' := Go.Lib.hid (hb'.out.trans (hb1.mono hb'.out.size)); obtain ⟨z0, z1, z2, z3⟩ := (hx0'.out.below hb1'.out (by have := hsz.out; omega)).cells; clear hb1)
          go_ret2
          exact ⟨by go_num, hbE'.out.trans (hb1'.out.mono (by have := hsz.out; omega))⟩
      · obtain rfl : k = 48 := by omega
        have hlv := lead_eq (B.drop i) 48 48 hk hones'.out (fun h => absurd h (by omega)) (by omega)
        have hz := hv'.out
        unfold gotV at hz
        simp only [hlv, if_true] at hz
        cases hz
        clear hb hrr hlv
        go_wp2
        go_ret2
        exact ⟨by go_num, hbE'.out.trans (hb'.out.mono (by have := hsz.out; omega))⟩
    · have hin' : (B.length : Int) ≤ (i : Int) + (k : Int) := by omega
      by_cases h48 : k = 48
      · subst h48
        have hlv := lead_eq (B.drop i) 48 48 hk hones'.out (fun h => absurd h (by omega)) (by omega)
        have hz := hv'.out
        unfold gotV at hz
        simp only [hlv, if_true] at hz
        cases hz
        clear hb hrr hlv
        go_wp2
        go_ret2
        exact ⟨by go_num, hbE'.out.trans (hb'.out.mono (by have := hsz.out; omega))⟩
      · have hlv := lead_eq (B.drop i) 48 k hk hones'.out (fun _ => by rw [hdg]; exact getD_ge _ _ (by omega)) (by omega)
        have hz := hv'.out
        unfold gotV at hz
        simp only [hlv] at hz
        rw [if_neg h48, if_neg hin] at hz
        cases hz
        have h48' : ¬ (k : Int) = 48 := by omega
        clear hb hrr hlv
        go_wp2
        go_ret2
        exact ⟨by go_num, hbE'.out.trans (hb'.out.mono (by have := hsz.out; omega))⟩

end Go.Proofs.Ytahefkjgcdchlaa
