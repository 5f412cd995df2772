/- The walk of LeBytes, the third way; the law. -/
import Derived.Test.YtgfokdnflbmafaaLeBytesW
namespace Go.Proofs.Ytgfokdnflbmafaa
open Go.RowKit Cad

attribute [local irreducible] wpStill

theorem pow_mono (m w : Nat) (h : m ≤ w) : (256 : Int) ^ m ≤ 256 ^ w := by
  have := Nat.pow_le_pow_right (show 0 < 256 by decide) h
  have e : ∀ k : Nat, ((256 ^ k : Nat) : Int) = 256 ^ k := fun k => by simp
  rw [← e, ← e]; omega
theorem leB_pre (n : Int) (m w : Nat) (h : m ≤ w) : (leB n w).take m = leB n m := by
  rw [show w = m + (w - m) from by omega]; simp [leB, List.range_add]
theorem leB_getD (n : Int) (w i : Nat) (h : i < w) : (leB n w).getD i 0 = n / 256 ^ i % 256 := by simp [leB, List.getD, h]
theorem leB_far (n : Int) (m w i : Nat) (h : i < w) (hm : m ≤ i) (h0 : 0 ≤ n) (h1 : n < 256 ^ m) : (leB n w).getD i 0 = 0 := by
  rw [leB_getD n w i h, Int.ediv_eq_zero_of_lt h0 (by have := pow_mono m i hm; omega)]; rfl

set_option maxRecDepth 100000 in
set_option maxHeartbeats 1000000 in
theorem leBytes_c (W : World) (a : Option Addr) (m cap : Nat) (l : List Int) (w : Nat) (hr : Row .u8 W a m cap l) (hm : 1 ≤ m ∧ m ≤ 8) (hw : 1 ≤ w ∧ w ≤ 8) (HWK : Go.RowKit.Hid (m ≤ w)) :
    Calls Try.prog 7 #[.slice a m cap, .int .i64 w] W fun e w' => e = .returned (.bool true) ∧ Below W.heap.size W w' := by
  have hl := hr.hlen
  have hwf := u8_bd hr.wf
  have hnb := ofB_bd l hwf
  have HB : bytesS (ofB l) m = (l, 0) := by
    unfold bytesS
    rw [if_pos (by omega), if_pos (by have := top_pow m; simp only [Int.toNat_natCast]; rw [hl] at hnb; omega)]
    simp only [Int.toNat_natCast]
    rw [← hl, leB_ofB l hwf]
  have HV : Go.RowKit.Hid (valueS l = (ofB l, 0)) := by show _ = _; unfold valueS; rw [if_pos (by omega)]
  obtain ⟨n, hn⟩ : ∃ n, n = ofB l := ⟨_, rfl⟩
  rw [← hn] at HB HV hnb
  have HN := Go.Lib.hid hn
  have HBx := Go.Lib.hid HB
  obtain ⟨b, off, rfl, hbl, hc⟩ := hr.cells (by omega)
  have HC := Go.Lib.hid hc
  have HL := Go.Lib.hid hl
  have HW := Go.Lib.hid hwf
  clear hn hc hl hwf HB
  go_enter Try.func7, Try.ntmps7
  go_wp2_with (first | (go_at_call 21; refine (Width_yes _ _ (by omega) (by omega)).mono ?_; rintro e w1 ⟨rfl, rfl⟩) | (go_at_call 14; ((with_reducible refine (Value_any _ _ _ _ l hr).mono ?_); rintro e w3 ⟨rfl, rfl⟩); rw [HV.out]) | (go_at_call 10; refine (bytes_at n m l m _ ⟨hnb.1, HL.out⟩ HBx.out).mono ?_; rintro e w1 ⟨ac, cc, rfl, hrc, hb1⟩; have hr1 := hr.below hb1 (Nat.le_refl _)))
  go_loop [9, 10, 11] (fun s y i => ∃ k : Nat, k ≤ m ∧ i = .int .i64 k ∧ s = .int .u64 (ofB (l.take k)) ∧ y = .int .u64 (256 ^ k % 18446744073709551616)) (fun _ _ i => m - (intOf i).toNat)
  case atStart => exact ⟨0, by omega, rfl, rfl, rfl⟩
  case round =>
    obtain ⟨k, hk, rfl, rfl, rfl⟩ := hrel
    by_cases hlt : k < m
    · have hcell := (hb1.cell (p := ⟨b, off + k, none⟩) hbl).trans (HC.out k hlt)
      have H1 := Go.Lib.hid (sum_step l k (by rw [HL.out]; exact hlt) (by rw [HL.out]; exact hm.2) HW.out)
      have H2 := Go.Lib.hid (pow_mod_step k)
      have hcb := getD_bd HW.out k
      obtain ⟨c, hcc⟩ : ∃ c, c = l.getD k 0 := ⟨_, rfl⟩
      rw [← hcc] at hcell H1 hcb
      obtain ⟨p, hp⟩ : ∃ p, p = (256 : Int) ^ k % 18446744073709551616 := ⟨_, rfl⟩
      rw [← hp] at H1 H2 ⊢
      obtain ⟨s, hs⟩ : ∃ s, s = ofB (l.take k) := ⟨_, rfl⟩
      rw [← hs] at H1 ⊢
      clear hcc hp hs
      go_wp2
      go_round
      case rel => exact ⟨k + 1, by omega, by go_num, by rw [← H1.out], by rw [← H2.out]⟩
      case measure => (simp [intOf] <;> omega)
    · have hkm : k = m := by omega
      subst hkm
      have e1 : ofB (l.take k) = n := by rw [HN.out, ← HL.out, List.take_length]
      rw [e1]
      clear e1
      have hs1 := hr1.str (P := Try.prog) (S := 9) uT uU8 uS
      have hs2 := hrc.str (P := Try.prog) (S := 9) uT uU8 uS
      clear hrc
      have hwk : k ≤ w := HWK.out
      have hn2 : n < 256 ^ k := by have := hnb.2; rw [HL.out] at this; exact this
      have hnw : n ≤ top w := by have := pow_mono k w hwk; have := top_pow w; omega
      have HB2 := Go.Lib.hid (show bytesS n w = (leB n w, 0) from by unfold bytesS; rw [if_pos (by omega), if_pos (by simpa using hnw)]; simp only [Int.toNat_natCast])
      have HP := Go.Lib.hid (show (leB n w).take k = l from by rw [leB_pre n k w hwk, HN.out]; have := leB_ofB l HW.out; rw [HL.out] at this; exact this)
      have HF := Go.Lib.hid (show ∀ i, i < w → k ≤ i → (leB n w).getD i 0 = 0 from fun i h1 h2 => leB_far n k w i h1 h2 hnb.1 hn2)
      clear hn2 hnw
      go_wp2_with (go_at_call 10; refine (bytes_at n w (leB n w) w _ ⟨hnb.1, length_leB n w⟩ HB2.out).mono ?_; rintro e w2 ⟨ad, cd, rfl, hrd, hb2⟩)
      have hdr : Below w2.heap.size w2 w2.drew := (Below.refl _ _).drew
      have hrdd := hrd.below hdr (Nat.le_refl _)
      have hrt := hrdd.take k hwk
      rw [HP.out] at hrt
      have hcap := hrdd.hcap
      have hmax := hrdd.hmax
      unfold maxLen at hmax
      have hkc : k ≤ cd := by omega
      obtain ⟨bd, od, hea, hlt, hcd⟩ := hrdd.cells (by omega)
      subst hea
      have HCD := Go.Lib.hid hcd
      have hsb := ((hr1.below hb2 (Nat.le_refl _)).below hdr (Nat.le_refl _)).str (P := Try.prog) (S := 9) uT uU8 uS
      have hsd := hrt.str (P := Try.prog) (S := 9) uT uU8 uS
      have hbw := (hb1.trans (hb2.mono hb1.size)).trans (hdr.mono (by have := hb1.size; have := hb2.size; omega))
      clear hcd hrd hrdd hrt hr1 hr hs1 hs2 hb1 hb2 hdr
      go_wp2
      refine wp_region_still_lit (by kernel_rfl) (by kernel_rfl) ?_
      change wpStill _ _ w2.drew _ _ _
      repeat (first | still_step | (refine still_skip (by rfl) ?_; go_simp))
      refine wpStill_nil ?_
      go_wp2
      obtain ⟨wd, hwd⟩ : ∃ wd, wd = w2.drew := ⟨_, rfl⟩
      go_loop [16] (fun i => ∃ j : Nat, k ≤ j ∧ j ≤ w ∧ i = .int .i64 (j : Int)) (fun i => w - (intOf i).toNat)
      case atStart => exact ⟨k, by omega, hwk, rfl⟩
      case round =>
        obtain ⟨j, hj1, hj2, rfl⟩ := hrel
        by_cases hlt3 : j < w
        · have hcell := HCD.out j hlt3
          rw [HF.out j hlt3 hj1] at hcell
          clear hwd
          go_wp2
          go_round
          case rel => exact ⟨j + 1, by omega, by omega, by go_num⟩
          case measure => (simp [intOf] <;> omega)
        · clear hwd
          go_wp2_with (go_at_call 15; refine (alive_any _).mono ?_; rintro e w7 ⟨rfl, hb7⟩)
          go_ret
          exact ⟨rfl, hbw.trans (hb7.mono hbw.size)⟩

theorem leBytes_walk (a0 : Option Addr) (len0 cap0 : Nat) (z0 : List Int) (a1 : Int) (W : World) (w0 : IsRow .u8 W a0 len0 cap0 z0) (_w1 : (Lit.int .i64 a1).wf = true) :
    Calls Try.prog 7 #[.slice a0 len0 cap0, .int .i64 a1] W fun e w' => e = .returned (.bool true) ∧ Below W.heap.size W w' := by
  have hr := Row.of_isRow w0
  clear w0 _w1
  by_cases hm : 1 ≤ len0 ∧ len0 ≤ 8
  · by_cases h : 1 ≤ a1 ∧ a1 ≤ 8
    · obtain ⟨w, rfl⟩ := Int.eq_ofNat_of_zero_le (show 0 ≤ a1 by omega)
      by_cases hwk : w < len0
      · by_cases hn : ofB (z0.take len0) ≤ top w
        · exact leBytes_a W a0 len0 cap0 _ w hr hm (by omega) hwk hn
        · exact leBytes_b W a0 len0 cap0 _ w hr hm (by omega) hwk hn
      · exact leBytes_c W a0 len0 cap0 _ w hr hm (by omega) (Nat.not_lt.1 hwk)
    · clear hr
      go_enter Try.func7, Try.ntmps7
      go_wp2_with (first | (go_at_call 21; (first | ((with_reducible refine (Width_no a1 _ h).mono ?_); rintro e w1 ⟨rfl, rfl⟩) | ((with_reducible refine (Width_yes _ _ (by omega) (by omega)).mono ?_); rintro e w1 ⟨rfl, rfl⟩))) | (go_at_call 15; refine (alive_any _).mono ?_; rintro e w7 ⟨rfl, hb7⟩))
      go_ret
      exact ⟨rfl, hb7⟩
  · clear hr
    have h : ¬ (1 ≤ (len0 : Int) ∧ (len0 : Int) ≤ 8) := by omega
    clear hm
    go_enter Try.func7, Try.ntmps7
    go_wp2_with (first | (go_at_call 21; refine (Width_no _ _ h).mono ?_; rintro e w1 ⟨rfl, rfl⟩) | (go_at_call 15; refine (alive_any _).mono ?_; rintro e w7 ⟨rfl, hb7⟩))
    go_ret
    exact ⟨rfl, hb7⟩
end Go.Proofs.Ytgfokdnflbmafaa
