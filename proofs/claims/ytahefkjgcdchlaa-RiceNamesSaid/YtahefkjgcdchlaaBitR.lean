/- Contracts of the reference's functions on bits: those that read. -/
import Derived.Test.YtahefkjgcdchlaaBitP
namespace Go.Proofs.Ytahefkjgcdchlaa
open Go.RowKit Cad

def Valid (l : List Int) (N : Int) : Prop := ∃ B : List Bool, (B.length : Int) = N ∧ B.length ≤ 330000 ∧ l = pack B
def bI (b : Bool) : Int := b.toNat
theorem div2 (c : Int) (k : Nat) : (c / 2 ^ k) / 2 = c / 2 ^ (k + 1) := by
  rw [Int.ediv_ediv_of_nonneg (Int.pow_nonneg (by decide)), Int.pow_succ]
theorem bit_eq (l : List Int) (i : Nat) (h : 0 ≤ l.getD (i / 8) 0) : (l.getD (i / 8) 0 / 2 ^ (i % 8)) % 2 = bI (bit l i) := by
  unfold bit bI
  obtain ⟨n, hn⟩ : ∃ n : Nat, l.getD (i / 8) 0 = n := ⟨(l.getD (i / 8) 0).toNat, by omega⟩
  rw [hn, Int.toNat_natCast]
  have e : ((n : Int) / 2 ^ (i % 8)) = ((n / 2 ^ (i % 8) : Nat) : Int) := by simp
  rw [e]
  generalize n / 2 ^ (i % 8) = m
  have : m % 2 = 0 ∨ m % 2 = 1 := by omega
  rw [show ((m : Int)) % 2 = ((m % 2 : Nat) : Int) by omega]
  rcases this with h | h <;> rw [h] <;> rfl

theorem RAt_ok (W : World) (a : Option Addr) (len cap : Nat) (N : Int) (l : List Int) (hr : Row .u8 W a len cap l) (i : Nat) (hi : i / 8 < len) :
    Calls Try.prog 40 #[.agg #[.slice a len cap, .int .i64 N], .int .i64 i] W fun e W' => e = .returned (.int .i64 (bI (bit l i))) ∧ Below W.heap.size W W' := by
  have hmax := hr.hmax
  have hcap := hr.hcap
  unfold maxLen at hmax
  obtain ⟨b, off, rfl, hlt, hc⟩ := hr.cells (by omega)
  have hcell := hc (i / 8) hi
  have hb := getD_bd (u8_bd hr.wf) (i / 8)
  have H := Go.Lib.hid (bit_eq l i hb.1)
  obtain ⟨c, hcc⟩ : ∃ c, c = l.getD (i / 8) 0 := ⟨_, rfl⟩
  rw [← hcc] at hcell hb H
  clear hcc hc hr
  go_enter Try.func40, Try.ntmps40
  go_wp2
  go_loop [5, 6] (fun c' i' => ∃ k : Nat, k ≤ i % 8 ∧ i' = .int .i64 k ∧ c' = .int .i64 (c / 2 ^ k)) (fun _ i' => i % 8 - (intOf i').toNat)
  case atStart => exact ⟨0, Nat.zero_le _, rfl, by simp⟩
  case round =>
    obtain ⟨k, hk, rfl, rfl⟩ := hrel
    have hd : 0 ≤ c / 2 ^ k ∧ c / 2 ^ k ≤ 255 := ⟨Int.ediv_nonneg hb.1 (Int.pow_nonneg (by decide)), Int.le_trans (Int.ediv_le_self _ hb.1) hb.2⟩
    by_cases hlt : k < i % 8
    · have H2 := Go.Lib.hid (div2 c k)
      obtain ⟨d, hdd⟩ : ∃ d, d = c / 2 ^ k := ⟨_, rfl⟩
      rw [← hdd] at hd H2 ⊢
      clear hdd
      go_wp2
      go_round
      case rel => exact ⟨k + 1, by omega, by go_num, by rw [← H2.out]⟩
      case measure => (simp [intOf] <;> omega)
    · obtain rfl : k = i % 8 := by omega
      obtain ⟨d, hdd⟩ : ∃ d, d = c / 2 ^ (i % 8) := ⟨_, rfl⟩
      rw [← hdd] at hd H ⊢
      clear hdd
      go_wp2
      go_ret
      exact ⟨by rw [← H.out]; go_num, (Below.refl _ _).alloc (Nat.le_refl _) _⟩

theorem Valid_of {l : List Int} {N : Int} (hl : ∀ x ∈ l, 0 ≤ x ∧ x ≤ 255) (h0 : 0 ≤ N) (h1 : N ≤ 330000) (h2 : (l.length : Int) = (N + 7) / 8) (h3 : ∀ i : Nat, N ≤ i → i < 8 * l.length → bit l i = false) : Valid l N := by
  obtain ⟨n, rfl⟩ : ∃ n : Nat, N = n := ⟨N.toNat, by omega⟩
  exact ⟨unpack l n, by rw [unpack_len], by rw [unpack_len]; omega, (pack_unpack hl (by omega) fun i hi hj => h3 i (by omega) hj).symm⟩
theorem Valid.n {l : List Int} {N : Int} (h : Valid l N) : 0 ≤ N ∧ N ≤ 330000 ∧ (l.length : Int) = (N + 7) / 8 := by
  obtain ⟨B, rfl, h1, rfl⟩ := h
  rw [pack_len]; omega
theorem Valid.pad {l : List Int} {N : Int} (h : Valid l N) (i : Nat) (hi : N ≤ i) : bit l i = false := by
  obtain ⟨B, rfl, h1, rfl⟩ := h
  exact pack_pad (by omega)

/-- what Check says -/
def chk (l : List Int) (N r : Int) : Prop := (Valid l N ∧ r = 0) ∨ (¬ Valid l N ∧ r = 8)
theorem chk.no {l : List Int} {N r : Int} (h : chk l N r) (hv : ¬ Valid l N) : r = 8 := by
  rcases h with h | h
  · exact absurd h.1 hv
  · exact h.2
theorem chk.yes {l : List Int} {N r : Int} (h : chk l N r) (hv : Valid l N) : r = 0 := by
  rcases h with h | h
  · exact h.2
  · exact absurd hv h.1

theorem RCheck_any (W : World) (a : Option Addr) (len cap : Nat) (N : Int) (l : List Int) (hr : Row .u8 W a len cap l) (hN : (Lit.int .i64 N).wf = true) (r : Int) (hr0 : chk l N r) :
    Calls Try.prog 21 #[.agg #[.slice a len cap, .int .i64 N]] W fun e W' => e = .returned (.int .i64 r) ∧ Below W.heap.size W W' := by
  have hmax := hr.hmax
  have hcap := hr.hcap
  have hlen := hr.hlen
  have bN := bounds_i64 hN
  unfold maxLen at hmax
  have hbel := (Below.refl W.heap.size W).alloc (Nat.le_refl _) (.cells #[.slice a len cap, .int .i64 N] 28)
  by_cases h0 : N < 0
  · obtain rfl := hr0.no fun h => by have := h.n; omega
    go_enter Try.func21, Try.ntmps21
    go_wp2
    go_ret
    exact ⟨rfl, hbel⟩
  by_cases h1 : N > 330000
  · obtain rfl := hr0.no fun h => by have := h.n; omega
    go_enter Try.func21, Try.ntmps21
    go_wp2
    go_ret
    exact ⟨rfl, hbel⟩
  by_cases h2 : (len : Int) = (N + 7) / 8
  · obtain ⟨n, rfl⟩ : ∃ n : Nat, N = n := ⟨N.toNat, by omega⟩
    clear hN
    go_enter Try.func21, Try.ntmps21
    go_wp2
    have hA : (∀ o, (W.alloc (.cells #[.slice a len cap, .int .i64 n] 28)).cell? ⟨W.heap.size, o, none⟩ = #[Value.slice a len cap, .int .i64 n][o]?) ∧ W.heap.size < (W.alloc (.cells #[.slice a len cap, .int .i64 n] 28)).heap.size := by
      exact ⟨fun o => box_cell _ _ _ o, by simp⟩
    go_loopw [3] (fun i wr => ∃ k : Nat, n ≤ k ∧ k ≤ 8 * len ∧ i = .int .i64 k ∧ (∀ j : Nat, n ≤ j → j < k → bit l j = false) ∧ Below W.heap.size W wr ∧ (∀ o, wr.cell? ⟨W.heap.size, o, none⟩ = #[Value.slice a len cap, .int .i64 n][o]?) ∧ W.heap.size < wr.heap.size) (fun i _ => 8 * len - (intOf i).toNat)
    case atStart => exact ⟨n, Nat.le_refl _, by omega, rfl, fun j h h' => by omega, hbel, hA⟩
    case round =>
      obtain ⟨k, hk, hk8, rfl, hz, hb, hcell, hsz⟩ := hrel
      have c0 := hcell 0
      have c1 := hcell 1
      simp only [List.getElem?_toArray, List.getElem?_cons_zero, List.getElem?_cons_succ] at c0 c1
      have hr' := hr.below hb (Nat.le_refl _)
      by_cases hlt : k < 8 * len
      · by_cases hbit : bit l k = true
        · obtain rfl := hr0.no fun h => by have := h.pad k (by omega); rw [this] at hbit; cases hbit
          clear hz hcell
          go_wp2_with (go_at_call 40; refine (RAt_ok _ a len cap n l hr' k (by omega)).mono ?_; rintro e w1 ⟨rfl, hb1⟩; rw [hbit])
          go_ret
          exact ⟨rfl, hb.trans (hb1.mono hb.size)⟩
        · have hbit : bit l k = false := by simpa using hbit
          have hz' := Go.Lib.hid hz
          have hcell' := Go.Lib.hid hcell
          clear hz hcell
          go_wp2_with (go_at_call 40; refine (RAt_ok _ a len cap n l hr' k (by omega)).mono ?_; rintro e w1 ⟨rfl, hb1⟩; rw [hbit])
          go_roundw
          case rel => exact ⟨k + 1, by omega, by omega, by go_num, fun j h h' => by
              by_cases e : j = k
              · subst e; exact hbit
              · exact hz'.out j h (by omega), hb.trans (hb1.mono hb.size), fun o => by rw [hb1.cell (p := ⟨W.heap.size, o, none⟩) (by simpa using hsz)]; exact hcell'.out o, Nat.lt_of_lt_of_le hsz hb1.size⟩
          case measure => (simp [intOf] <;> omega)
      · obtain rfl := hr0.yes (Valid_of (u8_bd hr.wf) (by omega) (by omega) (by omega) fun i hi hj => hz i (by omega) (by omega))
        clear hz hcell
        go_wp2
        go_ret
        exact ⟨rfl, hb⟩
  · obtain rfl := hr0.no fun h => by have := h.n; omega
    go_enter Try.func21, Try.ntmps21
    go_wp2
    go_ret
    exact ⟨rfl, hbel⟩
end Go.Proofs.Ytahefkjgcdchlaa
