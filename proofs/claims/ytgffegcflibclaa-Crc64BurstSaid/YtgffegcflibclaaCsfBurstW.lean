/- Crc64Burst: a burst of at most 64 bits changes the sum. -/
import Derived.Test.YtgffegcflibclaaCsfLawA
import Derived.Test.YtgffegcflibclaaCsfQ
import Derived.Test.YtgffegcflibclaaRegT
namespace Go.Proofs.Ytgffegcflibclaa
open Go.RowKit Cad

theorem csfBurst2_out (W : World) (a : Option Addr) (n ca : Nat) (at_ ch : Int) (hn : n ≤ 9223372036854775807) (hat : -9223372036854775808 ≤ at_ ∧ at_ ≤ 9223372036854775807) (h : 500 < n ∨ (n ≤ 500 ∧ (at_ < 0 ∨ 8 * (n : Int) ≤ at_))) :
    Calls Try.prog 7 #[.slice a n ca, .int .i64 at_, .int .u64 ch] W fun e w' => e = .returned (.bool true) ∧ Below W.heap.size W w' := by
  have key : (500 : Int) < n ∨ (¬ (500 : Int) < n ∧ at_ < 0) ∨ (¬ (500 : Int) < n ∧ ¬ at_ < 0 ∧ 8 * (n : Int) ≤ at_) := by omega
  clear h
  rcases key with h | ⟨h, h'⟩ | ⟨h, h', h2⟩
  all_goals
    go_enter Try.func7, Try.ntmps7
    go_wp2_with (go_at_call 12; refine (alive4_ok _).mono ?_; rintro e w1 ⟨rfl, hb1⟩)
    go_ret
    exact ⟨rfl, hb1⟩

set_option maxHeartbeats 2000000 in
theorem csfBurst2_in (W : World) (a : Option Addr) (n ca : Nat) (l : List Int) (i0 ch : Nat) (hr : Row .u8 W a n ca l) (hn : n ≤ 500) (hi : i0 < 8 * n) (hch : ch < 18446744073709551616) :
    Calls Try.prog 7 #[.slice a n ca, .int .i64 i0, .int .u64 ch] W fun e w' => e = .returned (.bool true) ∧ Below W.heap.size W w' := by
  have hiI : (i0 : Int) < 8 * (n : Int) := by omega
  have hl := Go.Lib.hid hr.hlen
  have hwf := Go.Lib.hid (u8_bd hr.wf)
  have hWE0 := Go.Lib.hid (Below.refl W.heap.size W)
  have RE0_b := Go.Lib.hid hr
  have u8o := Go.Lib.hid hr.wf
  have hr' := Go.Lib.hid hr
  clear hr
  go_enter Try.func7, Try.ntmps7
  go_wp2_with (first
    | (at_builtin; refine law_appendRow elU8 _ rfl _ _ rfl W.heap.size _ 0 [] rfl (own_empty W 5 .u8) a n ca l rfl (RE0_b.out.below (below1 W (.cells #[] 5)) (Nat.le_refl _)) (by omega) (by simp) ?_; intro v1 w1 hown1 hbx1; simp only [Nat.zero_add, List.nil_append] at hown1; obtain ⟨o1, p1, rfl⟩ := own_form hown1; have hb1 := (below1 W (.cells #[] 5)).trans hbx1; clear hbx1; have hW1 := Go.Lib.hid (hWE0.out.trans (hb1.mono hWE0.out.size)); have R1_b := Go.Lib.hid (RE0_b.out.below hb1 (Nat.le_refl _)); have R1_o := Go.Lib.hid (Row.of_own hown1 u8o.out); have O1_o := Go.Lib.hid hown1; clear hown1 hb1))
  obtain ⟨g, hgo, hg1, hg2⟩ : ∃ g, o1 = some ⟨g, 0, none⟩ ∧ W.heap.size ≤ g ∧ g < w1.heap.size := by
    obtain ⟨g, c, e, h1, h2⟩ := own_pos O1_o.out (by omega)
    cases e
    exact ⟨g, rfl, h1, h2⟩
  subst hgo
  go_loopw [8, 9] (fun dv i wr => ∃ (k : Nat) (lo : List Int), k ≤ 64 ∧ i0 + k ≤ 8 * n ∧ i = .int .i64 k ∧ dv = .bool (decide (ch % 2 ^ k ≠ 0)) ∧ FlipM l lo i0 ch k ∧
    wr.ownsRow W.heap.size 5 1 (.slice (some ⟨g, 0, none⟩) n p1) n (nums .u8 lo) ∧ Below W.heap.size W wr) (fun _ i _ => 64 - (intOf i).toNat)
  case atStart => exact ⟨0, l, by omega, by omega, rfl, by simp [Nat.mod_one], FlipM.zero hwf.out i0 ch, O1_o.out, hW1.out⟩
  case round =>
    obtain ⟨k, lo, hk, hik, rfl, rfl, hF, hown, hb⟩ := hrel
    by_cases hlt : (k : Int) < 64 ∧ (i0 : Int) + (k : Int) < 8 * (n : Int)
    · obtain ⟨h1, h2⟩ := hlt
      have hls := Go.Lib.hid (low_succS ch k)
      have oa := Go.u64_and_nat (ch / 2 ^ k) 1 (Nat.lt_of_le_of_lt (Nat.div_le_self _ _) hch) (by decide)
      rw [Nat.and_one_is_mod] at oa
      have hown' := Go.Lib.hid hown
      have hb' := Go.Lib.hid hb
      have hF' := Go.Lib.hid hF
      cases hc : ch.testBit k
      case false =>
        have hm : ch / 2 ^ k % 2 = 0 := by
          rw [Nat.testBit_eq_decide_div_mod_eq] at hc
          have := of_decide_eq_false hc
          omega
        rw [hm] at oa
        have oa' : Go.bits .and .u64 ((ch : Int) / 2 ^ k) 1 = 0 := by simpa using oa
        have hnx := Go.Lib.hid (hF'.out.off hc)
        have hls2 : Hid (decide (ch % 2 ^ (k + 1) ≠ 0) = decide (ch % 2 ^ k ≠ 0)) := Go.Lib.hid (by rw [hls.out, hc]; simp)
        obtain ⟨dd, hdd⟩ : ∃ dd, dd = decide (ch % 2 ^ k ≠ 0) := ⟨_, rfl⟩
        rw [← hdd] at hls2 ⊢
        clear hdd oa hm hc hown hb hF
        go_wp2
        exact ⟨⟨k + 1, lo, by omega, by omega, by go_num, by rw [hls2.out], hnx.out, hown'.out, hb'.out⟩, by simp [intOf]; omega⟩
      case true =>
        have hm : ch / 2 ^ k % 2 = 1 := by
          rw [Nat.testBit_eq_decide_div_mod_eq] at hc
          exact of_decide_eq_true hc
        rw [hm] at oa
        have oa' : Go.bits .and .u64 ((ch : Int) / 2 ^ k) 1 = 1 := by simpa using oa
        have hls2 : Hid (decide (ch % 2 ^ (k + 1) ≠ 0) = true) := Go.Lib.hid (by rw [hls.out, hc]; simp)
        have hlo : lo.length = n := by rw [hF.len, hl.out]
        obtain ⟨d, hd⟩ : ∃ d : Nat, lo.getD ((i0 + k) / 8) 0 = d := ⟨(lo.getD ((i0 + k) / 8) 0).toNat, by have := getD_bd hF.wf ((i0 + k) / 8); omega⟩
        have hd8 : d < 256 := by have := getD_bd hF.wf ((i0 + k) / 8); omega
        have hnx := Go.Lib.hid (hF.on hc (by rw [hl.out]; omega) hd hd8)
        have hc1 := hown.cellAt ((i0 + k) / 8) (by omega)
        have hf1 := hown.frozenAt ((i0 + k) / 8)
        rw [show (nums .u8 lo)[(i0 + k) / 8]? = some (.int .u8 (d : Int)) by rw [← hd]; simp [nums, List.getD, show (i0 + k) / 8 < lo.length by omega]] at hc1
        obtain ⟨s, hs⟩ : ∃ s, s = (i0 + k) % 8 := ⟨_, rfl⟩
        obtain ⟨p, hp⟩ : ∃ p, p = (i0 + k) / 8 := ⟨_, rfl⟩
        have hs8 : s < 8 := by omega
        have hpn : p < n := by omega
        have es : ((i0 : Int) + (k : Int)) % 8 = (s : Int) := by omega
        have ep : ((i0 : Int) + (k : Int)) / 8 = (p : Int) := by omega
        rw [← hp] at hc1 hf1 hnx
        rw [← hs] at hnx
        obtain ⟨x, hx⟩ : ∃ x, x = 2 ^ (7 - s) := ⟨_, rfl⟩
        have hx8 : x ≤ 128 := by
          rw [hx]; rcases (show s = 0 ∨ s = 1 ∨ s = 2 ∨ s = 3 ∨ s = 4 ∨ s = 5 ∨ s = 6 ∨ s = 7 by omega) with h | h | h | h | h | h | h | h <;> rw [h] <;> decide
        rw [← hx] at hnx
        have hpw : (128 : Int) / 2 ^ s = (x : Int) := by
          rw [hx]; rcases (show s = 0 ∨ s = 1 ∨ s = 2 ∨ s = 3 ∨ s = 4 ∨ s = 5 ∨ s = 6 ∨ s = 7 by omega) with h | h | h | h | h | h | h | h <;> rw [h] <;> decide
        have ox := Go.u8_xor_nat d x hd8 (by omega)
        have hst := Go.Lib.hid ((hown.stored p (.int .u8 ((d ^^^ x : Nat) : Int))).1)
        obtain ⟨dd, hdd⟩ : ∃ dd, dd = decide (ch % 2 ^ k ≠ 0) := ⟨_, rfl⟩
        rw [← hdd]
        clear hdd oa hm hc hown hb hF hd hs hp hx hlo
        go_wp2
        refine wp_region_quiet_tail 14 (by kernel_rfl) (by kernel_rfl) ?_
        simp only [List.take_succ_cons, List.take_zero, List.drop_succ_cons, List.drop_zero]
        repeat (first
          | go_big_quiet_skip
          | (go_big_quiet_want; go_big_quiet_op; go_big_quiet_on))
        refine wpQuiet_nil ?_
        go_wp2
        have h3 := hst.out
        rw [nums_set] at h3
        exact ⟨⟨k + 1, _, by omega, by omega, by go_num, by rw [hls2.out], hnx.out, h3, (hb'.out.setCell (p := ⟨g, p, none⟩) hg1 _).drew⟩, by simp [intOf]; omega⟩
    · have hsum := flip_csf hF hk (by rw [hl.out]; exact hik)
      obtain ⟨y1, hy1⟩ : ∃ y, y = csfB 0 l := ⟨_, rfl⟩
      obtain ⟨y2, hy2⟩ : ∃ y, y = csfB 0 lo := ⟨_, rfl⟩
      obtain ⟨dd, hdd⟩ : ∃ dd, dd = decide (ch % 2 ^ k ≠ 0) := ⟨_, rfl⟩
      rw [← hy1, ← hy2] at hsum
      have hne : ((y1 : Int) != (y2 : Int)) = dd := by
        rw [hdd]
        by_cases e : ch % 2 ^ k = 0
        · have := hsum.2 e
          rw [this]; simp [e]
        · have h3 : ¬ y1 = y2 := fun h => e (hsum.1 h)
          have h4 : ¬ ((y1 : Int) = (y2 : Int)) := by omega
          simp [e, h4]
      have b1 : y1 ≤ 18446744073709551615 := by have := csfB_lt l (s := 0) (by decide); omega
      have b2 : y2 ≤ 18446744073709551615 := by have := csfB_lt lo (s := 0) (by decide); omega
      have s1 : Hid (∀ w, Row .u8 w a n ca l → Calls Try.prog 10 #[.slice a n ca] w fun r W' => r = .returned (.tuple #[.int .u64 y1, .int .i64 0]) ∧ Below w.heap.size w W') := Go.Lib.hid fun w h => by
        rw [hy1]; exact SSum_ok w a n ca l h (by omega)
      have s2 : Hid (∀ w, Row .u8 w (some ⟨g, 0, none⟩) n p1 lo → Calls Try.prog 10 #[.slice (some ⟨g, 0, none⟩) n p1] w fun r W' => r = .returned (.tuple #[.int .u64 y2, .int .i64 0]) ∧ Below w.heap.size w W') := Go.Lib.hid fun w h => by
        rw [hy2]; exact SSum_ok w _ n p1 lo h (by omega)
      have hWE0 := Go.Lib.hid hb
      have RE0_b := Go.Lib.hid (hr'.out.below hb (Nat.le_refl _))
      have RE0_o := Go.Lib.hid (Row.of_own hown (u8_wf hF.wf))
      have key : ¬ (k : Int) < 64 ∨ ((k : Int) < 64 ∧ ¬ (i0 : Int) + (k : Int) < 8 * (n : Int)) := by omega
      rw [← hdd]
      clear hsum hy1 hy2 hdd hown hb hF hlt
      rcases key with h | ⟨h, h2⟩
      all_goals
        go_wp2_with (first
          | (go_at_call 10; ((with_reducible refine (s1.out _ ?h1).mono ?_)); (case h1 => exact RE0_b.out); rintro e w1 ⟨rfl, hb1⟩; have hWE1 := Go.Lib.hid hWE0.out; have hW1 := Go.Lib.hid (hWE1.out.trans (hb1.mono hWE1.out.size)); have R1_b := Go.Lib.hid (RE0_b.out.below hb1 (Nat.le_refl _)); have R1_o := Go.Lib.hid (RE0_o.out.below hb1 (Nat.le_refl _)); clear hb1)
          | (go_at_call 10; ((with_reducible refine (s2.out _ ?h1).mono ?_)); (case h1 => exact R1_o.out); rintro e w2 ⟨rfl, hb2⟩; have hWE2 := Go.Lib.hid hW1.out; have hW2 := Go.Lib.hid (hWE2.out.trans (hb2.mono hWE2.out.size)); have R2_b := Go.Lib.hid (R1_b.out.below hb2 (Nat.le_refl _)); have R2_o := Go.Lib.hid (R1_o.out.below hb2 (Nat.le_refl _)); clear hb2)
          | (go_at_call 12; refine (alive4_ok _).mono ?_; rintro e w3 ⟨rfl, hb3⟩; have hWE3 := Go.Lib.hid hW2.out; have hW3 := Go.Lib.hid (hWE3.out.trans (hb3.mono hWE3.out.size)); clear hb3))
        go_ret
        exact ⟨rfl, hW3.out⟩

theorem crc64Burst_walk (ax0 : Option Addr) (lenx0 capx0 : Nat) (zx0 : List Int) (x1 : Int) (x2 : Int) (W : World) (wx0 : IsRow .u8 W ax0 lenx0 capx0 zx0) (wx1 : (Lit.int .i64 x1).wf = true) (wx2 : (Lit.int .u64 x2).wf = true) :
    Calls Try.prog 7 #[.slice ax0 lenx0 capx0, .int .i64 x1, .int .u64 x2] W fun e w' => e = .returned (.bool true) ∧ Below W.heap.size W w' := by
  have hr := Row.of_isRow wx0
  have b1 := bounds_i64 wx1
  have b2 := bounds_u64 wx2
  have m1 := Nat.le_trans hr.hcap hr.hmax
  unfold maxLen at m1
  by_cases h : 500 < lenx0 ∨ (lenx0 ≤ 500 ∧ (x1 < 0 ∨ 8 * (lenx0 : Int) ≤ x1))
  · exact csfBurst2_out W _ _ _ _ _ (by omega) b1 h
  · obtain ⟨i0, rfl⟩ : ∃ n : Nat, x1 = n := ⟨x1.toNat, by omega⟩
    obtain ⟨ch, rfl⟩ : ∃ n : Nat, x2 = n := ⟨x2.toNat, by omega⟩
    exact csfBurst2_in W _ _ _ _ i0 ch hr (by omega) (by omega) (by omega)
end Go.Proofs.Ytgffegcflibclaa
