/- Texts of the proof, one behind the other: Le, LeM, LeB, LeC, BitR, BitS, BitW, BitV, BitT. -/
import Derived.Test.YthiaeldhelhjlaaZ1
import Derived.Test.YthiaeldhelhjlaaRows
import Derived.WalkKit
import Derived.ProofKit
import Derived.OpenShut
import Derived.Below
import Derived.IntWalk
import Derived.LoopTactic
import Derived.Lib.Hide
import Derived.Outline
import Derived.Laws.OwnMore
import Derived.OwnWalk
import Derived.Deep.AppendLies
import Derived.Handy
import Derived.Deep.RegionHeld3
import Derived.WalkSpells
import Derived.StillTactics
/- Contracts of the functions of le, and of its reference. -/
namespace Go.Proofs.Ythiaeldhelhjlaa
open Go.RowKit CadL

theorem isWidth_yes (w : Int) (W : World) (h : 1 ≤ w) (h' : w ≤ 8) :
    Calls Try.prog 43 #[.int .i64 w] W fun e W' => e = .returned (.bool true) ∧ W = W' := by
  go_enter Try.func43, Try.ntmps43
  go_wp2
  go_ret
  exact ⟨rfl, rfl⟩

theorem isWidth_no (w : Int) (W : World) (h : ¬ (1 ≤ w ∧ w ≤ 8)) :
    Calls Try.prog 43 #[.int .i64 w] W fun e W' => e = .returned (.bool false) ∧ W = W' := by
  by_cases h1 : 1 ≤ w
  · have h2 : ¬ w ≤ 8 := by omega
    go_enter Try.func43, Try.ntmps43
    go_wp2
    go_ret
    exact ⟨by simp, rfl⟩
  · go_enter Try.func43, Try.ntmps43
    go_wp2
    go_ret
    exact ⟨by simp, rfl⟩

theorem greatest_any (w : Int) (W : World) (h : 1 ≤ w) (h' : w ≤ 8) :
    Calls Try.prog 46 #[.int .i64 w] W fun e W' => e = .returned (.int .u64 (top w.toNat)) ∧ W = W' := by
  have hg := Go.Lib.hid (greatest_eq w h h')
  go_enter Try.func46, Try.ntmps46
  go_wp2
  go_ret
  exact ⟨by rw [← hg.out]; rfl, rfl⟩

theorem fits_any (n w : Int) (W : World) (h : 1 ≤ w) (h' : w ≤ 8) :
    Calls Try.prog 44 #[.int .u64 n, .int .i64 w] W fun e W' => e = .returned (.bool (decide (n ≤ top w.toNat))) ∧ W = W' := by
  go_enter Try.func44, Try.ntmps44
  go_wp2_with (go_at_call 46; refine (greatest_any w _ h h').mono ?_; rintro e w1 ⟨rfl, rfl⟩)
  go_ret
  exact ⟨rfl, rfl⟩

theorem fits_yes (n w : Int) (W : World) (h : 1 ≤ w) (h' : w ≤ 8) (hn : n ≤ top w.toNat) :
    Calls Try.prog 44 #[.int .u64 n, .int .i64 w] W fun e W' => e = .returned (.bool true) ∧ W = W' :=
  (fits_any n w W h h').mono fun e W' ⟨he, hw⟩ => ⟨by rw [he, decide_eq_true hn], hw⟩
theorem fits_no (n w : Int) (W : World) (h : 1 ≤ w) (h' : w ≤ 8) (hn : top w.toNat < n) :
    Calls Try.prog 44 #[.int .u64 n, .int .i64 w] W fun e W' => e = .returned (.bool false) ∧ W = W' :=
  (fits_any n w W h h').mono fun e W' ⟨he, hw⟩ => ⟨by rw [he, decide_eq_false (by omega)], hw⟩

/-- a signed number that fits w bytes -/
abbrev Fits (x w : Int) : Prop := -(top w.toNat / 2) - 1 ≤ x ∧ x ≤ top w.toNat / 2

/-! ### the reference -/
theorem rsgn_lo (n w : Int) (hn : n ≤ top w.toNat / 2) : sgn n w = n := by unfold sgn; rw [if_pos hn]
theorem rsgn_hi (n w : Int) (h : 1 ≤ w) (h' : w ≤ 8) (h1 : n ≤ top w.toNat) (hn : top w.toNat / 2 < n) : sgn n w = -(top w.toNat - n) - 1 ∧ 0 ≤ top w.toNat - n ∧ top w.toNat - n ≤ 9223372036854775807 := by
  have := top_big w h h'
  unfold sgn; rw [if_neg (by omega)]; omega
theorem uns_pos (x w : Int) (h0 : 0 ≤ x) (hx : x ≤ top w.toNat / 2) : uns x w = x := by
  unfold uns; exact Int.emod_eq_of_lt h0 (by omega)
theorem uns_neg (x w : Int) (h : 1 ≤ w) (h' : w ≤ 8) (h0 : x < 0) (hx : -(top w.toNat / 2) - 1 ≤ x) : uns x w = top w.toNat + (x + 1) := by
  have := top_big w h h'
  unfold uns; rw [← Int.add_emod_right, Int.emod_eq_of_lt (by omega) (by omega)]; omega
end Go.Proofs.Ythiaeldhelhjlaa

/- Contracts of the functions of le and of its reference that read or make bytes. -/
namespace Go.Proofs.Ythiaeldhelhjlaa
open Go.RowKit CadL

end Go.Proofs.Ythiaeldhelhjlaa

/- Contracts of the functions of le and of its reference that make bytes. -/
namespace Go.Proofs.Ythiaeldhelhjlaa
open Go.RowKit CadL

theorem set_app (A Z : List Value) (z u : Value) : (A ++ z :: Z).set A.length u = (A ++ [u]) ++ Z := by simp
theorem rep_get (m : Nat) (h : 0 < m) (z : Value) : List.replicate m z = z :: List.replicate (m - 1) z := by
  obtain ⟨j, rfl⟩ : ∃ j, m = j + 1 := ⟨m - 1, by omega⟩
  rfl

/-- the row of le.Bytes behind k rounds -/
def partB (n : Int) (w k : Nat) : List Value := nums .u8 (leB n k) ++ List.replicate (w - k) (.int .u8 0)
theorem partB_step (n : Int) (w k : Nat) (h : k < w) : (partB n w k).set k (.int .u8 (n / 256 ^ k % 256)) = partB n w (k + 1) := by
  have e : (nums .u8 (leB n k)).length = k := by simp [nums, length_leB]
  unfold partB
  rw [rep_get _ (by omega)]
  have := set_app (nums .u8 (leB n k)) (List.replicate (w - k - 1) (.int .u8 0)) (.int .u8 0) (.int .u8 (n / 256 ^ k % 256))
  rw [e] at this
  rw [this, leB_snoc]
  simp [nums, show w - (k + 1) = w - k - 1 from by omega]

theorem Bytes_no (n w : Int) (W : World) (h : ¬ (1 ≤ w ∧ w ≤ 8)) :
    Calls Try.prog 36 #[.int .u64 n, .int .i64 w] W fun e W' => e = .returned (.tuple #[.slice none 0 0, .int .i64 2]) ∧ W = W' := by
  go_enter Try.func36, Try.ntmps36
  go_wp2_with (go_at_call 43; refine (isWidth_no w _ h).mono ?_; rintro e w1 ⟨rfl, rfl⟩)
  go_ret2
  exact ⟨rfl, rfl⟩
theorem Bytes_range (n w : Int) (W : World) (h : 1 ≤ w) (h' : w ≤ 8) (hn : top w.toNat < n) :
    Calls Try.prog 36 #[.int .u64 n, .int .i64 w] W fun e W' => e = .returned (.tuple #[.slice none 0 0, .int .i64 16]) ∧ W = W' := by
  go_enter Try.func36, Try.ntmps36
  go_wp2_with (first | (go_at_call 43; refine (isWidth_yes w _ h h').mono ?_; rintro e w1 ⟨rfl, rfl⟩) | (go_at_call 44; refine (fits_no n w _ h h' hn).mono ?_; rintro e w1 ⟨rfl, rfl⟩))
  go_ret2
  exact ⟨rfl, rfl⟩
theorem Bytes_ok (n : Int) (w : Nat) (W : World) (h : 1 ≤ w) (h' : w ≤ 8) (h0 : 0 ≤ n) (hn : n ≤ top w) :
    Calls Try.prog 36 #[.int .u64 n, .int .i64 w] W fun e W' => e = .returned (.tuple #[.slice (some ⟨W.heap.size, 0, none⟩) w w, .int .i64 0]) ∧
      W'.ownsRow W.heap.size 5 1 (.slice (some ⟨W.heap.size, 0, none⟩) w w) w (nums .u8 (leB n w)) ∧ Below W.heap.size W W' := by
  have hn' : n ≤ top (w : Int).toNat := by simpa using hn
  go_enter Try.func36, Try.ntmps36
  go_wp2_with (first | (go_at_call 43; refine (isWidth_yes w _ (by omega) (by omega)).mono ?_; rintro e w1 ⟨rfl, rfl⟩) | (go_at_call 44; refine (fits_yes n w _ (by omega) (by omega) hn').mono ?_; rintro e w1 ⟨rfl, rfl⟩) | (at_make; refine law_make elU8 _ rfl _ _ rfl _ _ _ _ w rfl rfl rfl rfl (by omega) ?_))
  intro w1 hown hb1 _
  have hz : List.replicate w 0 = leB 0 w := by
    apply List.ext_getElem <;> simp [leB]
  replace hown : w1.ownsRow W.heap.size 5 1 (.slice (some ⟨W.heap.size, 0, none⟩) w w) w (partB n w 0) := by simpa [partB, leB, nums] using hown
  clear hz
  go_wp2
  go_loopw [19] (fun i wr => ∃ k : Nat, k ≤ w ∧ i = .int .i64 k ∧ wr.ownsRow W.heap.size 5 1 (.slice (some ⟨W.heap.size, 0, none⟩) w w) w (partB n w k) ∧ Below W.heap.size W wr) (fun i _ => w - (intOf i).toNat)
  case atStart => exact ⟨0, by omega, rfl, hown, hb1⟩
  case round =>
    obtain ⟨k, hk, rfl, hownk, hbk⟩ := hrel
    by_cases hlt : k < w
    · have hc1 := hownk.cellAt k (by omega)
      have hl : k < (partB n w k).length := by simp [partB, nums, length_leB]; omega
      rw [List.getElem?_eq_getElem hl] at hc1
      obtain ⟨v0, hv0⟩ : ∃ v0, v0 = (partB n w k)[k] := ⟨_, rfl⟩
      rw [← hv0] at hc1
      have hf1 := hownk.frozenAt k
      have hst := Go.Lib.hid (hownk.stored k (.int .u8 (n / 2 ^ (8 * k) % 256))).1
      have hb2 := Go.Lib.hid (hbk.setCell (p := ⟨W.heap.size, k, none⟩) (Nat.le_refl _) (.int .u8 (n / 2 ^ (8 * k) % 256)))
      clear hv0 hl hownk hbk hown hb1
      go_wp2
      go_roundw
      case rel => exact ⟨k + 1, by omega, by go_num, by have := hst.out; rw [show (n / 2 ^ (8 * k) % 256 : Int) = n / 256 ^ k % 256 from by rw [shift_pow], partB_step n w k hlt] at this; rw [show (n / 2 ^ (8 * k) % 256 : Int) = n / 256 ^ k % 256 from by rw [shift_pow]]; exact this, hb2.out⟩
      case measure => (simp [intOf] <;> omega)
    · clear hown hb1
      go_wp2
      go_ret2
      exact ⟨rfl, by rw [show k = w from by omega] at hownk; simpa [partB] using hownk, hbk⟩
end Go.Proofs.Ythiaeldhelhjlaa

/- Contracts of the functions of le's reference that make bytes; the functions At. -/
namespace Go.Proofs.Ythiaeldhelhjlaa
open Go.RowKit CadL

theorem Written_ok (n : Int) (w : Nat) (W : World) (h' : w ≤ 8) (h0 : 0 ≤ n) (hn : n ≤ 18446744073709551615) :
    Calls Try.prog 38 #[.int .u64 n, .int .i64 w] W fun e W' => ∃ v, e = .returned v ∧
      W'.ownsRow W.heap.size 5 1 v w (nums .u8 (leB n w)) ∧ Below W.heap.size W W' := by
  go_enter Try.func38, Try.ntmps38
  go_wp2
  go_loopw [0, 5, 6] (fun m v i wr => ∃ k : Nat, k ≤ w ∧ i = .int .i64 k ∧ m = .int .u64 (n / 256 ^ k) ∧ wr.ownsRow W.heap.size 5 1 v k (nums .u8 (leB n k)) ∧ Below W.heap.size W wr) (fun _ _ i _ => w - (intOf i).toNat)
  case atStart => exact ⟨0, by omega, rfl, by simp, World.ownsRow_nil _ _ _ _, Below.refl _ _⟩
  case round =>
    obtain ⟨k, hk, rfl, rfl, hown, hb⟩ := hrel
    by_cases hlt : k < w
    · have hm : 0 ≤ n / 256 ^ k ∧ n / 256 ^ k ≤ 18446744073709551615 := by
        have hp : (0 : Int) < 256 ^ k := Int.pow_pos (by decide)
        exact ⟨Int.ediv_nonneg h0 (by omega), Int.le_trans (Int.ediv_le_self _ h0) hn⟩
      have hq : n / 256 ^ k / 256 = n / 256 ^ (k + 1) := by rw [Int.pow_succ, ← Int.ediv_ediv_of_nonneg (Int.le_of_lt (Int.pow_pos (by decide)))]
      obtain ⟨m, hmm⟩ : ∃ m, m = n / 256 ^ k := ⟨_, rfl⟩
      rw [← hmm] at hm hq ⊢
      have HM := Go.Lib.hid hmm
      have HQ := Go.Lib.hid hq
      clear hmm hq
      have hs := hb.size
      go_wp2_with (at_builtin; refine law_append1 elU8 _ rfl _ _ rfl W.heap.size _ k (leB n k) rfl hown (m % 256) rfl (by omega) (by omega) ?_)
      intro v' w1 hown' hb'
      have hown1 := hown'
      rw [HM.out, ← leB_snoc] at hown1
      have hb1 := hb.trans hb'
      clear hown' hb' hb hown
      go_wp2
      go_roundw
      case rel => exact ⟨k + 1, by omega, by go_num, by rw [← HQ.out], hown1, hb1⟩
      case measure => (simp [intOf] <;> omega)
    · go_wp2
      go_ret
      exact ⟨_, rfl, by rw [show k = w from by omega] at hown; exact hown, hb⟩

end Go.Proofs.Ythiaeldhelhjlaa

/- Contracts of the reference's functions on bits: those that read. -/
namespace Go.Proofs.Ythiaeldhelhjlaa
open Go.RowKit Cad

def Valid (l : List Int) (N : Int) : Prop := ∃ B : List Bool, (B.length : Int) = N ∧ B.length ≤ 330000 ∧ l = pack B
def bI (b : Bool) : Int := b.toNat
theorem div2 (c : Int) (k : Nat) : (c / 2 ^ k) / 2 = c / 2 ^ (k + 1) := by
  rw [Int.ediv_ediv_of_nonneg (Int.pow_nonneg (by decide)), Int.pow_succ]
theorem bit_eq (l : List Int) (i : Nat) (h : 0 ≤ l.getD (i / 8) 0) : (l.getD (i / 8) 0 / 2 ^ (i % 8)) % 2 = bI (bit l i) := by
  unfold bit bI
  obtain ⟨n, hn⟩ : ∃ n : Nat, l.getD (i / 8) 0 = n := ⟨(l.getD (i / 8) 0).toNat, by omega⟩
  rw [hn, Int.toNat_natCast]
  have e : ((n : Int) / 2 ^ (i % 8)) = ((n / 2 ^ (i % 8) : Nat) : Int) := by simp
  rw [e]
  generalize n / 2 ^ (i % 8) = m
  have : m % 2 = 0 ∨ m % 2 = 1 := by omega
  rw [show ((m : Int)) % 2 = ((m % 2 : Nat) : Int) by omega]
  rcases this with h | h <;> rw [h] <;> rfl

theorem RAt_ok (W : World) (a : Option Addr) (len cap : Nat) (N : Int) (l : List Int) (hr : Row .u8 W a len cap l) (i : Nat) (hi : i / 8 < len) :
    Calls Try.prog 33 #[.agg #[.slice a len cap, .int .i64 N], .int .i64 i] W fun e W' => e = .returned (.int .i64 (bI (bit l i))) ∧ Below W.heap.size W W' := by
  have hmax := hr.hmax
  have hcap := hr.hcap
  unfold maxLen at hmax
  obtain ⟨b, off, rfl, hlt, hc⟩ := hr.cells (by omega)
  have hcell := hc (i / 8) hi
  have hb := getD_bd (u8_bd hr.wf) (i / 8)
  have H := Go.Lib.hid (bit_eq l i hb.1)
  obtain ⟨c, hcc⟩ : ∃ c, c = l.getD (i / 8) 0 := ⟨_, rfl⟩
  rw [← hcc] at hcell hb H
  clear hcc hc hr
  go_enter Try.func33, Try.ntmps33
  go_wp2
  go_loop [5, 6] (fun c' i' => ∃ k : Nat, k ≤ i % 8 ∧ i' = .int .i64 k ∧ c' = .int .i64 (c / 2 ^ k)) (fun _ i' => i % 8 - (intOf i').toNat)
  case atStart => exact ⟨0, Nat.zero_le _, rfl, by simp⟩
  case round =>
    obtain ⟨k, hk, rfl, rfl⟩ := hrel
    have hd : 0 ≤ c / 2 ^ k ∧ c / 2 ^ k ≤ 255 := ⟨Int.ediv_nonneg hb.1 (Int.pow_nonneg (by decide)), Int.le_trans (Int.ediv_le_self _ hb.1) hb.2⟩
    by_cases hlt : k < i % 8
    · have H2 := Go.Lib.hid (div2 c k)
      obtain ⟨d, hdd⟩ : ∃ d, d = c / 2 ^ k := ⟨_, rfl⟩
      rw [← hdd] at hd H2 ⊢
      clear hdd
      go_wp2
      go_round
      case rel => exact ⟨k + 1, by omega, by go_num, by rw [← H2.out]⟩
      case measure => (simp [intOf] <;> omega)
    · obtain rfl : k = i % 8 := by omega
      obtain ⟨d, hdd⟩ : ∃ d, d = c / 2 ^ (i % 8) := ⟨_, rfl⟩
      rw [← hdd] at hd H ⊢
      clear hdd
      go_wp2
      go_ret
      exact ⟨by rw [← H.out]; go_num, (Below.refl _ _).alloc (Nat.le_refl _) _⟩

theorem Valid_of {l : List Int} {N : Int} (hl : ∀ x ∈ l, 0 ≤ x ∧ x ≤ 255) (h0 : 0 ≤ N) (h1 : N ≤ 330000) (h2 : (l.length : Int) = (N + 7) / 8) (h3 : ∀ i : Nat, N ≤ i → i < 8 * l.length → bit l i = false) : Valid l N := by
  obtain ⟨n, rfl⟩ : ∃ n : Nat, N = n := ⟨N.toNat, by omega⟩
  exact ⟨unpack l n, by rw [unpack_len], by rw [unpack_len]; omega, (pack_unpack hl (by omega) fun i hi hj => h3 i (by omega) hj).symm⟩
theorem Valid.n {l : List Int} {N : Int} (h : Valid l N) : 0 ≤ N ∧ N ≤ 330000 ∧ (l.length : Int) = (N + 7) / 8 := by
  obtain ⟨B, rfl, h1, rfl⟩ := h
  rw [pack_len]; omega
theorem Valid.pad {l : List Int} {N : Int} (h : Valid l N) (i : Nat) (hi : N ≤ i) : bit l i = false := by
  obtain ⟨B, rfl, h1, rfl⟩ := h
  exact pack_pad (by omega)

/-- what Check says -/
def chk (l : List Int) (N r : Int) : Prop := (Valid l N ∧ r = 0) ∨ (¬ Valid l N ∧ r = 8)
theorem chk.no {l : List Int} {N r : Int} (h : chk l N r) (hv : ¬ Valid l N) : r = 8 := by
  rcases h with h | h
  · exact absurd h.1 hv
  · exact h.2
theorem chk.yes {l : List Int} {N r : Int} (h : chk l N r) (hv : Valid l N) : r = 0 := by
  rcases h with h | h
  · exact h.2
  · exact absurd hv h.1

theorem RCheck_any (W : World) (a : Option Addr) (len cap : Nat) (N : Int) (l : List Int) (hr : Row .u8 W a len cap l) (hN : (Lit.int .i64 N).wf = true) (r : Int) (hr0 : chk l N r) :
    Calls Try.prog 22 #[.agg #[.slice a len cap, .int .i64 N]] W fun e W' => e = .returned (.int .i64 r) ∧ Below W.heap.size W W' := by
  have hmax := hr.hmax
  have hcap := hr.hcap
  have hlen := hr.hlen
  have bN := bounds_i64 hN
  unfold maxLen at hmax
  have hbel := (Below.refl W.heap.size W).alloc (Nat.le_refl _) (.cells #[.slice a len cap, .int .i64 N] 29)
  by_cases h0 : N < 0
  · obtain rfl := hr0.no fun h => by have := h.n; omega
    go_enter Try.func22, Try.ntmps22
    go_wp2
    go_ret
    exact ⟨rfl, hbel⟩
  by_cases h1 : N > 330000
  · obtain rfl := hr0.no fun h => by have := h.n; omega
    go_enter Try.func22, Try.ntmps22
    go_wp2
    go_ret
    exact ⟨rfl, hbel⟩
  by_cases h2 : (len : Int) = (N + 7) / 8
  · obtain ⟨n, rfl⟩ : ∃ n : Nat, N = n := ⟨N.toNat, by omega⟩
    clear hN
    go_enter Try.func22, Try.ntmps22
    go_wp2
    have hA : (∀ o, (W.alloc (.cells #[.slice a len cap, .int .i64 n] 29)).cell? ⟨W.heap.size, o, none⟩ = #[Value.slice a len cap, .int .i64 n][o]?) ∧ W.heap.size < (W.alloc (.cells #[.slice a len cap, .int .i64 n] 29)).heap.size := by
      exact ⟨fun o => box_cell _ _ _ o, by simp⟩
    go_loopw [3] (fun i wr => ∃ k : Nat, n ≤ k ∧ k ≤ 8 * len ∧ i = .int .i64 k ∧ (∀ j : Nat, n ≤ j → j < k → bit l j = false) ∧ Below W.heap.size W wr ∧ (∀ o, wr.cell? ⟨W.heap.size, o, none⟩ = #[Value.slice a len cap, .int .i64 n][o]?) ∧ W.heap.size < wr.heap.size) (fun i _ => 8 * len - (intOf i).toNat)
    case atStart => exact ⟨n, Nat.le_refl _, by omega, rfl, fun j h h' => by omega, hbel, hA⟩
    case round =>
      obtain ⟨k, hk, hk8, rfl, hz, hb, hcell, hsz⟩ := hrel
      have c0 := hcell 0
      have c1 := hcell 1
      simp only [List.getElem?_toArray, List.getElem?_cons_zero, List.getElem?_cons_succ] at c0 c1
      have hr' := hr.below hb (Nat.le_refl _)
      by_cases hlt : k < 8 * len
      · by_cases hbit : bit l k = true
        · obtain rfl := hr0.no fun h => by have := h.pad k (by omega); rw [this] at hbit; cases hbit
          clear hz hcell
          go_wp2_with (go_at_call 33; refine (RAt_ok _ a len cap n l hr' k (by omega)).mono ?_; rintro e w1 ⟨rfl, hb1⟩; rw [hbit])
          go_ret
          exact ⟨rfl, hb.trans (hb1.mono hb.size)⟩
        · have hbit : bit l k = false := by simpa using hbit
          have hz' := Go.Lib.hid hz
          have hcell' := Go.Lib.hid hcell
          clear hz hcell
          go_wp2_with (go_at_call 33; refine (RAt_ok _ a len cap n l hr' k (by omega)).mono ?_; rintro e w1 ⟨rfl, hb1⟩; rw [hbit])
          go_roundw
          case rel => exact ⟨k + 1, by omega, by omega, by go_num, fun j h h' => by
              by_cases e : j = k
              · subst e; exact hbit
              · exact hz'.out j h (by omega), hb.trans (hb1.mono hb.size), fun o => by rw [hb1.cell (p := ⟨W.heap.size, o, none⟩) (by simpa using hsz)]; exact hcell'.out o, Nat.lt_of_lt_of_le hsz hb1.size⟩
          case measure => (simp [intOf] <;> omega)
      · obtain rfl := hr0.yes (Valid_of (u8_bd hr.wf) (by omega) (by omega) (by omega) fun i hi hj => hz i (by omega) (by omega))
        clear hz hcell
        go_wp2
        go_ret
        exact ⟨rfl, hb⟩
  · obtain rfl := hr0.no fun h => by have := h.n; omega
    go_enter Try.func22, Try.ntmps22
    go_wp2
    go_ret
    exact ⟨rfl, hbel⟩
end Go.Proofs.Ythiaeldhelhjlaa

/- Contracts of the reference's functions on bits: those that compare and read numbers. -/
namespace Go.Proofs.Ythiaeldhelhjlaa
open Go.RowKit Cad

def great (len : Nat) : Bool := decide (190 < len ∧ len < 41230 ∨ 41350 < len)
theorem great_yes {len : Nat} (h : 190 < len ∧ len < 41230 ∨ 41350 < len) : great len = true := decide_eq_true h
theorem great_no {len : Nat} (h : ¬ (190 < len ∧ len < 41230 ∨ 41350 < len)) : great len = false := decide_eq_false h
theorem RGreat_ok (W : World) (a : Option Addr) (len cap : Nat) (N : Int) (hl : len ≤ 9223372036854775807) :
    Calls Try.prog 15 #[.agg #[.slice a len cap, .int .i64 N]] W fun e W' => e = .returned (.bool (great len)) ∧ Below W.heap.size W W' := by
  have hbel := (Below.refl W.heap.size W).alloc (Nat.le_refl _) (.cells #[.slice a len cap, .int .i64 N] 29)
  by_cases h1 : (190 : Int) < len
  · by_cases h2 : (len : Int) < 41230
    · rw [great_yes (by omega)]
      go_enter Try.func15, Try.ntmps15
      go_wp2
      go_ret
      exact ⟨rfl, hbel⟩
    · by_cases h3 : (41350 : Int) < len
      · rw [great_yes (by omega)]
        go_enter Try.func15, Try.ntmps15
        go_wp2
        go_ret
        exact ⟨rfl, hbel⟩
      · rw [great_no (by omega)]
        go_enter Try.func15, Try.ntmps15
        go_wp2
        go_ret
        exact ⟨rfl, hbel⟩
  · have h3 : ¬ (41350 : Int) < len := by omega
    rw [great_no (by omega)]
    go_enter Try.func15, Try.ntmps15
    go_wp2
    go_ret
    exact ⟨rfl, hbel⟩

theorem RSame_ok (W : World) (a : Option Addr) (len cap : Nat) (N : Int) (l : List Int) (hr : Row .u8 W a len cap l) (a' : Option Addr) (len' cap' : Nat) (N' : Int) (l' : List Int) (hr' : Row .u8 W a' len' cap' l') :
    Calls Try.prog 19 #[.agg #[.slice a len cap, .int .i64 N], .agg #[.slice a' len' cap', .int .i64 N']] W fun e W' => e = .returned (.bool (decide (N = N' ∧ l = l'))) ∧ Below W.heap.size W W' := by
  have hbel := ((Below.refl W.heap.size W).alloc (Nat.le_refl _) (.cells #[.slice a len cap, .int .i64 N] 29)).alloc (by simp) (.cells #[.slice a' len' cap', .int .i64 N'] 29)
  by_cases h1 : N = N'
  · subst h1
    have s1 := (hr.below hbel (Nat.le_refl _)).str Try.underlying25 Try.underlying5 Try.underlying9
    have s2 := (hr'.below hbel (Nat.le_refl _)).str Try.underlying25 Try.underlying5 Try.underlying9
    have hs := str_beq (u8_bd hr.wf) (u8_bd hr'.wf)
    clear hr hr'
    go_enter Try.func19, Try.ntmps19
    go_wp2
    go_ret
    exact ⟨ret_bool (by by_cases e : l = l' <;> simp [e]), hbel⟩
  · go_enter Try.func19, Try.ntmps19
    go_wp2
    go_ret
    exact ⟨ret_bool (by simp [h1]), hbel⟩

end Go.Proofs.Ythiaeldhelhjlaa

/- Contracts of the reference's functions on bits: those that make bits. -/
namespace Go.Proofs.Ythiaeldhelhjlaa
open Go.RowKit Cad

/-- nothing below base is touched, and no block that isn't bytes -/
structure Kept (base : Nat) (W W' : World) : Prop where
  bel : Below base W W'
  oth : ∀ k, k < W.heap.size → (∀ cur fr, W.heap[k]? ≠ some (.cells cur 5 fr)) → W'.heap[k]? = W.heap[k]?
theorem Kept.refl (base : Nat) (W : World) : Kept base W W := ⟨Below.refl _ _, fun _ _ _ => rfl⟩
theorem Kept.trans {base : Nat} {a b c : World} (h : Kept base a b) (k : Kept base b c) : Kept base a c :=
  ⟨h.bel.trans k.bel, fun i hi hn => by
    have e := h.oth i hi hn
    rw [k.oth i (Nat.lt_of_lt_of_le hi h.bel.size) (fun cur fr => by rw [e]; exact hn cur fr), e]⟩

section
variable {P : Program} {T E : TypeId} {k : IntKind} (he : Elem P T E k) (w : World) {ops : Array Oper} {rest : List Oper} {o : Oper} {a : Act} {Q : Exit → Act → World → Prop} (hg : o.guard = none)
include he hg
/-- append(s, c): one number; and what stays -/
theorem law_append1K (s x : Operand) (hop : o.op = Op.call { callee := Callee.builtin Builtin.append, args := #[s, x], argTypes := #[T, T] }) (base : Nat) (v : Value) (n : Nat) (l : List Int) (hs : a.eval s = v)
    (hown : w.ownsRow base E 1 v n (nums k l)) (c : Int) (hx : a.eval x = .slice (some ⟨w.heap.size, 0, none⟩) 1 1) (hn : n < 17592186044416) (hbase : base ≤ w.heap.size)
    (hK : ∀ v' w', w'.ownsRow base E 1 v' (n + 1) (nums k (l ++ [c])) → (w.alloc (.cells #[.int k c] E)).grownBy w' v.ownBlock → wpList P ops Q rest (a.put o.dst v') w') :
    wpList P ops Q (o :: rest) a (w.alloc (.cells #[.int k c] E)) := by
  obtain ⟨b, hb, hi⟩ := he.info
  obtain ⟨i0, hi, hz0, hz1, hz2⟩ := info_parts hi
  refine wpList_append_own _ hg s x T hop base E i0 (.int k 0) 1 b he.sl hi hz0 hz1 hz2 rfl (by decide) v n (nums k l) hs (hown.alloc _) ⟨w.heap.size, 0, none⟩ 1 1 (nums k [c]) hx (by simp [nums]) ?_ (ints_oneCell k [c]) (by unfold maxLen; omega) ?_ (by simp; omega) fun v' w' h1 h2 _ => hK v' w' ?_ h2
  · intro j u hj
    have hlt : j < 1 := by
      apply Classical.byContradiction; intro h; rw [List.getElem?_eq_none (by simp [nums]; omega)] at hj; simp at hj
    rw [one_new w E k c j hlt]
    obtain rfl : j = 0 := by omega
    simpa [nums] using hj
  · calc (n + 1) * b ≤ (n + 1) * 8 := Nat.mul_le_mul_left _ hb
      _ ≤ 140737488355328 := by omega
  · simpa [nums] using h1
end

end Go.Proofs.Ythiaeldhelhjlaa

/- Contracts of the reference's functions on bits: numbers read; bits added, whatever their number. -/
namespace Go.Proofs.Ythiaeldhelhjlaa
open Go.RowKit Cad

/-- the number of m bits from i on -/
def getN (B : List Bool) (i m : Nat) : Nat := natB ((B.drop i).take m)
theorem getN_zero (B : List Bool) (i : Nat) : getN B i 0 = 0 := by simp [getN, natB]
theorem getN_succ (B : List Bool) (i m : Nat) (h : i < B.length) : getN B i (m + 1) = (B.getD i false).toNat + 2 * getN B (i + 1) m := by
  unfold getN
  rw [List.drop_eq_getElem_cons h, List.take_succ_cons, natB]
  simp [List.getD, h]
theorem getN_lt (B : List Bool) (i m : Nat) : getN B i m < 2 ^ m := by
  have h := natB_lt ((B.drop i).take m)
  have : ((B.drop i).take m).length ≤ m := by rw [List.length_take]; omega
  exact Nat.lt_of_lt_of_le h (Nat.pow_le_pow_right (by decide) this)

end Go.Proofs.Ythiaeldhelhjlaa

/- Contracts of the reference's functions on bits: copies. -/
namespace Go.Proofs.Ythiaeldhelhjlaa
open Go.RowKit Cad

theorem twin_after {W w1 : World} {a : Option Addr} {len cap : Nat} {N : Int} {v' : Value} {xs : List Value} {base : Nat}
    (hgrow : ((((W.alloc (.cells #[.slice a len cap, .int .i64 N] 29)).alloc (.cells #[.slice none 0 0, .int .i64 0] 29)).alloc (.cells #[] 5)).drew).grownBy w1 (Value.slice (some ⟨W.heap.size + 1 + 1, 0, none⟩) 0 0).ownBlock)
    (hown1 : w1.ownsRow base 5 1 v' (0 + len) xs) :
    ∃ av cv, v' = .slice av (0 + len) cv ∧ Hid (w1.heap[W.heap.size + 1]? = some (.cells #[.slice none 0 0, .int .i64 0] 29)) ∧
      w1.cell? ⟨W.heap.size + 1, 0, none⟩ = some (.slice none 0 0) ∧ w1.cell? ⟨W.heap.size + 1, 1, none⟩ = some (.int .i64 0) ∧ w1.frozen? ⟨W.heap.size + 1, 0, none⟩ = false ∧ w1.frozen? ⟨W.heap.size + 1, 1, none⟩ = false := by
  have hy : w1.heap[W.heap.size + 1]? = some (.cells #[.slice none 0 0, .int .i64 0] 29) := by
    have h := hgrow.block (W.heap.size + 1) (by simp) (by simp [Value.ownBlock])
    rw [h]
    show ((((W.alloc (.cells #[.slice a len cap, .int .i64 N] 29)).alloc (.cells #[.slice none 0 0, .int .i64 0] 29)).alloc (.cells #[] 5))).heap[W.heap.size + 1]? = _
    rw [Below.heap_alloc _ _ _ (by simp), heap_alloc2_new]
  have e : ∃ av cv, v' = .slice av (0 + len) cv := by
    rcases hown1.2 with ⟨rfl, h0⟩ | ⟨g, cap', cur', rfl, _⟩
    · exact ⟨none, 0, by rw [h0]⟩
    · exact ⟨_, _, rfl⟩
  obtain ⟨av, cv, e⟩ := e
  refine ⟨av, cv, e, Go.Lib.hid hy, ?_, ?_, ?_, ?_⟩
  · unfold World.cell?; rw [hy]; rfl
  · unfold World.cell?; rw [hy]; rfl
  · unfold World.frozen?; rw [hy]; simp
  · unfold World.frozen?; rw [hy]; simp

theorem RTwin_ok (W : World) (a : Option Addr) (len cap : Nat) (N : Int) (l : List Int) (hr : Row .u8 W a len cap l) (hlen : len ≤ 1000000000) :
    Calls Try.prog 16 #[.agg #[.slice a len cap, .int .i64 N]] W fun e W' => ∃ v', e = .returned (.agg #[v', .int .i64 N]) ∧
      W'.ownsRow W.heap.size 5 1 v' len (nums .u8 l) ∧ Below W.heap.size W W' := by
  go_enter Try.func16, Try.ntmps16
  go_wp2_with fail
  have e1 := box_cell W #[.slice a len cap, .int .i64 N] 29
  have hownE : ((((W.alloc (.cells #[.slice a len cap, .int .i64 N] 29)).alloc (.cells #[.slice none 0 0, .int .i64 0] 29)).alloc (.cells #[] 5)).drew).ownsRow (W.heap.size + 1 + 1) 5 1 (.slice (some ⟨W.heap.size + 1 + 1, 0, none⟩) 0 0) 0 (nums .u8 []) := by
    have := (own_empty ((W.alloc (.cells #[.slice a len cap, .int .i64 N] 29)).alloc (.cells #[.slice none 0 0, .int .i64 0] 29)) 5 .u8).drew
    simpa using this
  have hrE : Row .u8 ((((W.alloc (.cells #[.slice a len cap, .int .i64 N] 29)).alloc (.cells #[.slice none 0 0, .int .i64 0] 29)).alloc (.cells #[] 5)).drew) a len cap l :=
    hr.below (((((Below.refl _ _).alloc (Nat.le_refl _) _).alloc (by simp) _).alloc (by simp; omega) _).drew) (Nat.le_refl _)
  go_region_held3 (fun w' => w'.cell? ⟨W.heap.size, 0, none⟩ = some (.slice a len cap) ∧ w'.cell? ⟨W.heap.size, 1, none⟩ = some (.int .i64 N))
    (first
      | go_keep
      | (go_split_ands
         refine ⟨?_, ?_⟩
         · (rw [hgrow.cell_far ⟨W.heap.size, 0, none⟩ (by simp; omega) (by simp [Value.ownBlock]; omega)]; assumption)
         · (rw [hgrow.cell_far ⟨W.heap.size, 1, none⟩ (by simp; omega) (by simp [Value.ownBlock]; omega)]; assumption)))
    ((go_loud (refine step_appendRow elU8 _ (by rfl) _ _ (by rfl) (W.heap.size + 1 + 1) _ 0 [] (by rfl) hownE a len cap l (by rfl) hrE (by omega) (by simp) ?_; intro v' w1 hown1 hgrow; obtain ⟨av, cv, rfl, hy', cy0, cy1, fy0, fy1⟩ := twin_after hgrow hown1)))
  go_wp2
  have hb5 := heap_setCell_same _ _ 1 _ _ (.int .i64 N) (heap_setCell_same _ _ 0 _ _ (.slice av len cv) hy'.out)
  have hgB : ∀ g, (Value.slice av (0 + len) cv).ownBlock = some g → W.heap.size + 1 + 1 ≤ g := fun g e => (hown1.lt g e).1
  refine bodyPost_ret (results_cell_row (by rfl) _ _ (W.heap.size + 1) _ _ _ _ rfl hb5 Try.underlying29 rfl (by kernel_rfl)) rfl ?_
  rw [Nat.zero_add] at hown1 hgB
  refine ⟨.slice av len cv, by simp, ?_, ?_⟩
  · have h : w1.ownsRow W.heap.size 5 1 (.slice av len cv) len (nums .u8 l) := by
      refine ⟨hown1.1, ?_⟩
      rcases hown1.2 with h0 | ⟨g, cap', cur', e, h1, h2⟩
      · exact .inl h0
      · exact .inr ⟨g, cap', cur', e, by omega, h2⟩
    refine own_congr h fun g e => ?_
    have := hgB g e
    rw [Below.heap_setCell _ _ _ _ (by simp; omega), Below.heap_setCell _ _ _ _ (by simp; omega)]
  · have hb1 : Below W.heap.size W w1 := ((((((Below.refl _ _).alloc (Nat.le_refl _) _).alloc (by simp) _).alloc (by simp; omega) _).drew).grown hgrow (by simp; omega) (fun k hk => by simp [Value.ownBlock] at hk; omega))
    exact (hb1.setCell (by simp) _).setCell (by simp) _
end Go.Proofs.Ythiaeldhelhjlaa
