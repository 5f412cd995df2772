/- Contracts of the package bits: numbers. -/
import Derived.Test.YtahefkjgcdchlaaMyBitK
import Derived.Test.YtahefkjgcdchlaaByteN
namespace Go.Proofs.Ytahefkjgcdchlaa
open Go.RowKit Cad

theorem BisNumberSize_ok (W : World) (n : Nat) (h : n ≤ 64) :
    Calls Try.prog 32 #[.int .i64 n] W fun e W' => e = .returned (.bool true) ∧ W = W' := by
  go_enter Try.func32, Try.ntmps32
  go_wp2
  go_ret
  exact ⟨ret_bool (by simp; omega), rfl⟩

set_option maxHeartbeats 400000 in
theorem Bnumber_ok (W : World) (a : Option Addr) (len cap : Nat) (B : List Bool) (hr : Row .u8 W a len cap (pack B)) (hB : B.length ≤ 64) :
    Calls Try.prog 45 #[.agg #[.slice a len cap, .int .i64 B.length]] W fun e W' => e = .returned (.int .u64 (natB B : Nat)) ∧ Below W.heap.size W W' := by
  have hbE := (Below.refl W.heap.size W).alloc (Nat.le_refl _) (.cells #[.slice a len cap, .int .i64 B.length] 28)
  have hrE := Go.Lib.hid (hr.below hbE (Nat.le_refl _))
  have hl := hr.hlen
  rw [pack_len] at hl
  have hl8 : len ≤ 8 := by omega
  have hl' := Go.Lib.hid hl
  have hbE' := Go.Lib.hid hbE
  clear hr hl hbE
  go_enter Try.func45, Try.ntmps45
  go_wp2
  go_loop [3, 9] (fun v i => ∃ k : Nat, k ≤ len ∧ i = .int .i64 k ∧ v = .int .u64 (natB (B.take (8 * k)) : Nat)) (fun _ i => len - (intOf i).toNat)
  case atStart => exact ⟨0, Nat.zero_le _, rfl, by simp [natB]⟩
  case round =>
    obtain ⟨k, hk, rfl, rfl⟩ := hrel
    by_cases hlt : k < len
    · obtain ⟨b', off, rfl, hlt', hc⟩ := hrE.out.cells (by omega)
      have hcell := hc k hlt
      rw [pack_getD_any] at hcell
      have hst := Go.Lib.hid (nat_step B k)
      have hlo : natB (B.take (8 * k)) < 18446744073709551616 := Nat.lt_of_lt_of_le (natB_lt _) (by
        have : (B.take (8 * k)).length ≤ 64 := by simp; omega
        exact Nat.pow_le_pow_right (n := 2) (by decide) this)
      have hc8 := byteN_lt B k
      obtain ⟨c, hcc⟩ : ∃ c, c = byteN B k := ⟨_, rfl⟩
      obtain ⟨y, hy⟩ : ∃ y, y = natB (B.take (8 * k)) := ⟨_, rfl⟩
      rw [← hcc] at hcell hst hc8
      rw [← hy] at hst hlo ⊢
      have hx64 : c * 2 ^ (8 * k) < 18446744073709551616 := by
        have : 2 ^ (8 * k) ≤ 2 ^ 56 := Nat.pow_le_pow_right (n := 2) (by decide) (by omega)
        calc c * 2 ^ (8 * k) ≤ 255 * 2 ^ 56 := Nat.mul_le_mul (by omega) this
          _ < 18446744073709551616 := by decide
      obtain ⟨x, hx⟩ : ∃ x, x = c * 2 ^ (8 * k) := ⟨_, rfl⟩
      rw [← hx] at hst hx64
      have hmul : (c : Int) * 2 ^ (8 * k) = (x : Int) := by rw [hx]; simp
      have htn : (8 * (k : Int)).toNat = 8 * k := by omega
      have o1 := Go.u64_or_nat y x hlo hx64
      clear hcc hy hx hc
      go_wp2
      exact ⟨⟨k + 1, by omega, by go_num, by rw [hst.out]⟩, by simp [intOf]; omega⟩
    · obtain rfl : k = len := by omega
      rw [List.take_of_length_le (by have := hl'.out; omega)]
      go_wp2
      go_ret
      exact ⟨rfl, hbE'.out⟩

set_option maxHeartbeats 400000 in
theorem BofNumber_ok (W : World) (v n : Nat) (hn : n ≤ 64) (hv : v < 2 ^ n) :
    Calls Try.prog 34 #[.int .u64 v, .int .i64 n] W fun e W' => ∃ b c, e = .returned (.agg #[.slice b ((n + 7) / 8) c, .int .i64 n]) ∧
      Row .u8 W' b ((n + 7) / 8) c (pack (numB v n)) ∧ Below W.heap.size W W' := by
  obtain ⟨m, hm⟩ : ∃ m, m = (n + 7) / 8 := ⟨_, rfl⟩
  rw [← hm]
  have hm' := Go.Lib.hid hm
  have hv64 : v < 18446744073709551616 := Nat.lt_of_lt_of_le hv (Nat.pow_le_pow_right (n := 2) (by decide) hn)
  have hv' := Go.Lib.hid hv
  have hmb : m ≤ 8 := by omega
  have hsz : Hid (∀ w, Calls Try.prog 42 #[.int .i64 (n : Int)] w fun e W' => e = .returned (.int .i64 (m : Int)) ∧ w = W') := Go.Lib.hid (fun w => by
    have := Bsize_ok w n (by omega)
    rwa [← hm] at this)
  obtain ⟨W0, hW0⟩ : ∃ W0, W0 = W.alloc (.cells #[.slice none 0 0, .int .i64 0] 28) := ⟨_, rfl⟩
  have hbE : Below W.heap.size W W0 := by rw [hW0]; exact (Below.refl W.heap.size W).alloc (Nat.le_refl _) _
  have hs0 : W0.heap.size = W.heap.size + 1 := by rw [hW0]; simp
  have hy0 : BoxAt W0 W.heap.size (.slice none 0 0) 0 := by
    rw [hW0]; unfold BoxAt; rw [heap_alloc_new]
  have hy0' := Go.Lib.hid hy0
  have hbE' := Go.Lib.hid hbE
  clear hy0 hbE hm hv
  go_enter Try.func34, Try.ntmps34
  go_wp2_with (first
    | (go_at_call 42; rw [← hW0]; refine (hsz.out _).mono ?_; rintro e w1 ⟨rfl, rfl⟩; clear hW0)
    | (refine law_make elU8 _ rfl _ _ rfl .i64 .i64 _ _ m rfl rfl (by omega) (by omega) (by omega) ?_; intro w1 hown1 hb1 hs1; simp only [hs0] at hown1 hb1 hs1; have hown1' := Go.Lib.hid hown1; have hb1' := Go.Lib.hid hb1; clear hown1 hb1))
  go_loopw [12] (fun i wr => ∃ (k : Nat) (l : List Int), k ≤ m ∧ i = .int .i64 k ∧ IsB l m ((numB v n).take (8 * k)) ∧
    wr.ownsRow (W.heap.size + 1) 5 1 (.slice (some ⟨W.heap.size + 1, 0, none⟩) m m) m (nums .u8 l) ∧ Below (W.heap.size + 1) W0 wr) (fun i _ => m - (intOf i).toNat)
  case atStart => exact ⟨0, _, Nat.zero_le _, rfl, by simpa using isB_zero m, hown1'.out, hb1'.out⟩
  case round =>
    obtain ⟨k, l, hk, rfl, hB1, hown, hbk⟩ := hrel
    by_cases hlt : k < m
    · have hst := Go.Lib.hid (num_step hB1 hv'.out hlt)
      have htn : (8 * (k : Int)).toNat = 8 * k := by omega
      have hf1 := hown.frozenAt k
      have hc2 := hown.cellAt k (by omega)
      have lk : l.length = m := hB1.1
      rw [show (nums .u8 l)[k]? = some (.int .u8 (l.getD k 0)) by simp [nums, List.getD, show k < l.length by omega]] at hc2
      have hst2 : Hid (∀ u : Int, u = ((v / 2 ^ (8 * k) % 256 : Nat) : Int) → (wr.setCell ⟨W.heap.size + 1, k, none⟩ (.int .u8 u)).ownsRow (W.heap.size + 1) 5 1 (.slice (some ⟨W.heap.size + 1, 0, none⟩) m m) m (nums .u8 (l.set k ((v / 2 ^ (8 * k) % 256 : Nat) : Int)))) := Go.Lib.hid fun u hu => by
        subst hu
        have := (hown.stored k (.int .u8 ((v / 2 ^ (8 * k) % 256 : Nat) : Int))).1
        rwa [nums_set] at this
      have hbk' := Go.Lib.hid hbk
      clear hown hbk lk hB1
      go_wp2
      refine ⟨⟨k + 1, _, by omega, by go_num, hst.out, hst2.out _ (by simp), hbk'.out.setCell (Nat.le_refl _) _⟩, by simp [intOf]; omega⟩
    · obtain rfl : k = m := by omega
      have hy := hy0'.out.below hbk (by omega)
      obtain ⟨y0, y1, y2, y3⟩ := hy.cells
      have ap := hy.apart hown
      have htk := isB_take (D := numB v n) hB1 (fun i => by
        rw [List.take_of_length_le (by rw [numB_len]; have := hm'.out; omega)]) (by rw [numB_len]; have := hm'.out; omega)
      rw [numB_len, ← hm'.out, List.take_of_length_le (Nat.le_of_eq hB1.1)] at htk
      rw [htk] at hown
      have hy' := Go.Lib.hid hy
      have ap' := Go.Lib.hid ap
      have hown' := Go.Lib.hid hown
      have hbk' := Go.Lib.hid hbk
      clear hB1 hown hbk hy ap htk
      go_wp2
      refine bodyPost_ret (results_cell_row (by rfl) _ _ W.heap.size _ _ _ _ rfl (hy'.out.set _ _) Try.underlying28 rfl (by kernel_rfl)) rfl ?_
      refine ⟨some ⟨W.heap.size + 1, 0, none⟩, k, rfl, Row.of_own (own_set (own_set hown'.out ap'.out _ _) ap'.out _ _) (u8_wf (pack_wf _)), ?_⟩
      exact ((hbE'.out.trans (hbk'.out.mono (by omega))).setCell (Nat.le_refl _) _).setCell (Nat.le_refl _) _
end Go.Proofs.Ytahefkjgcdchlaa
