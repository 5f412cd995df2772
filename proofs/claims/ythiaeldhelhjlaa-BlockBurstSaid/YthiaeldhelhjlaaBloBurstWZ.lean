/- BlockBurst: a changed block is refused. -/
import Derived.Test.YthiaeldhelhjlaaZ6

namespace Go.Proofs.Ythiaeldhelhjlaa
open Go.RowKit Cad

set_option maxRecDepth 100000 in
theorem blockBurst_out (W : World) (a : Option Addr) (la ca : Nat) (N at_ ch : Int) (l : List Int) (hr : Row .u8 W a la ca l) (hN : (Lit.int .i64 N).wf = true) (hat : -9223372036854775808 ≤ at_ ∧ at_ ≤ 9223372036854775807) (h : ¬ Valid l N ∨ (Valid l N ∧ 1500 < N)) :
    Calls Try.prog 6 #[.agg #[.slice a la ca, .int .i64 N], .int .i64 at_, .int .u32 ch] W fun e w' => e = .returned (.bool true) ∧ Below W.heap.size W w' := by
  have hWE0 := Go.Lib.hid (below1 W (.cells #[.slice a la ca, .int .i64 N] 29))
  have BE0_b := Go.Lib.hid (box1 W (.slice a la ca) N)
  have RE0_b := Go.Lib.hid (hr.below hWE0.out (Nat.le_refl _))
  rcases h with h | ⟨h, h2⟩
  · have c1 : Hid (∀ w, Row .u8 w a la ca l → Calls Try.prog 22 #[.agg #[.slice a la ca, .int .i64 N]] w fun e W' => e = .returned (.int .i64 8) ∧ Below w.heap.size w W') := Go.Lib.hid fun w hw => RCheck_any w a la ca N l hw hN 8 (.inr ⟨h, rfl⟩)
    clear hr hN h
    go_enter Try.func6, Try.ntmps6
    go_wp2_with (first
      | (go_at_call 22; ((with_reducible refine (c1.out _ ?h1).mono ?_)); (case h1 => exact RE0_b.out); rintro e w1 ⟨rfl, hb1⟩; have hWE1 := Go.Lib.hid hWE0.out; have hW1 := Go.Lib.hid (hWE1.out.trans (hb1.mono hWE1.out.size)); have R1_b := Go.Lib.hid (RE0_b.out.below hb1 (Nat.le_refl _)); have BE1_b := Go.Lib.hid BE0_b.out; have B1_b := Go.Lib.hid (BE1_b.out.below hb1 BE1_b.out.lt); obtain ⟨k1b0, k1b1, k1b2, k1b3⟩ := B1_b.out.cells; clear hb1)
      | (go_at_call 14; refine (alive11_ok _).mono ?_; rintro e w2 ⟨rfl, hb2⟩; have hWE2 := Go.Lib.hid hW1.out; have hW2 := Go.Lib.hid (hWE2.out.trans (hb2.mono hWE2.out.size)); clear hb2))
    go_ret
    exact ⟨rfl, hW2.out⟩
  · have c1 : Hid (∀ w, Row .u8 w a la ca l → Calls Try.prog 22 #[.agg #[.slice a la ca, .int .i64 N]] w fun e W' => e = .returned (.int .i64 0) ∧ Below w.heap.size w W') := Go.Lib.hid fun w hw => RCheck_any w a la ca N l hw hN 0 (.inl ⟨h, rfl⟩)
    clear hr hN h
    go_enter Try.func6, Try.ntmps6
    go_wp2_with (first
      | (go_at_call 22; ((with_reducible refine (c1.out _ ?h1).mono ?_)); (case h1 => exact RE0_b.out); rintro e w1 ⟨rfl, hb1⟩; have hWE1 := Go.Lib.hid hWE0.out; have hW1 := Go.Lib.hid (hWE1.out.trans (hb1.mono hWE1.out.size)); have R1_b := Go.Lib.hid (RE0_b.out.below hb1 (Nat.le_refl _)); have BE1_b := Go.Lib.hid BE0_b.out; have B1_b := Go.Lib.hid (BE1_b.out.below hb1 BE1_b.out.lt); obtain ⟨k1b0, k1b1, k1b2, k1b3⟩ := B1_b.out.cells; clear hb1)
      | (go_at_call 14; refine (alive11_ok _).mono ?_; rintro e w2 ⟨rfl, hb2⟩; have hWE2 := Go.Lib.hid hW1.out; have hW2 := Go.Lib.hid (hWE2.out.trans (hb2.mono hWE2.out.size)); clear hb2))
    go_ret
    exact ⟨rfl, hW2.out⟩

set_option maxRecDepth 100000 in
theorem blockBurst_off (W : World) (a : Option Addr) (la ca : Nat) (N at_ ch : Int) (l : List Int) (hr : Row .u8 W a la ca l) (hN : (Lit.int .i64 N).wf = true) (hat : -9223372036854775808 ≤ at_ ∧ at_ ≤ 9223372036854775807) (h : Valid l N) (h3 : ¬ 1500 < N) (h4 : at_ < 0 ∨ 8 * ((la : Int) + 4) ≤ at_) :
    Calls Try.prog 6 #[.agg #[.slice a la ca, .int .i64 N], .int .i64 at_, .int .u32 ch] W fun e w' => e = .returned (.bool true) ∧ Below W.heap.size W w' := by
  have hla : la ≤ 190 := by have := h.n; have := hr.hlen; omega
  have hWE0 := Go.Lib.hid (below1 W (.cells #[.slice a la ca, .int .i64 N] 29))
  have BE0_b := Go.Lib.hid (box1 W (.slice a la ca) N)
  have RE0_b := Go.Lib.hid (hr.below hWE0.out (Nat.le_refl _))
  have c1 : Hid (∀ w, Row .u8 w a la ca l → Calls Try.prog 22 #[.agg #[.slice a la ca, .int .i64 N]] w fun e W' => e = .returned (.int .i64 0) ∧ Below w.heap.size w W') := Go.Lib.hid fun w hw => RCheck_any w a la ca N l hw hN 0 (.inl ⟨h, rfl⟩)
  have hll := hr.hlen
  obtain ⟨K, hK⟩ : ∃ K, K = la + 4 := ⟨_, rfl⟩
  obtain ⟨X, hX⟩ : ∃ X, X = sealB l := ⟨_, rfl⟩
  have p1 : Hid (∀ w, Row .u8 w a la ca l → ResP 11 #[.agg #[.slice a la ca, .int .i64 N]] w K X 0) := Go.Lib.hid fun w hw => by
    rw [hK, hX]; exact KPack_ok w a la ca N l hw hN h
  unfold ResP at p1
  have key : at_ < 0 ∨ (¬ at_ < 0 ∧ 8 * (K : Int) ≤ at_) := by omega
  have hK2 : K ≤ 194 := by omega
  clear hr hN h h4 hK hX
  rcases key with h | ⟨h, h'⟩
  all_goals
    go_enter Try.func6, Try.ntmps6
    go_wp2_with (first
      | (go_at_call 22; ((with_reducible refine (c1.out _ ?h1).mono ?_)); (case h1 => exact RE0_b.out); rintro e w1 ⟨rfl, hb1⟩; have hWE1 := Go.Lib.hid hWE0.out; have hW1 := Go.Lib.hid (hWE1.out.trans (hb1.mono hWE1.out.size)); have R1_b := Go.Lib.hid (RE0_b.out.below hb1 (Nat.le_refl _)); have BE1_b := Go.Lib.hid BE0_b.out; have B1_b := Go.Lib.hid (BE1_b.out.below hb1 BE1_b.out.lt); obtain ⟨k1b0, k1b1, k1b2, k1b3⟩ := B1_b.out.cells; clear hb1)
      | (go_at_call 11; ((with_reducible refine (p1.out _ ?h1).mono ?_)); (case h1 => exact R1_b.out); rintro e w2 ⟨b2, cp2, rfl, hr2, hb2⟩; have hWE2 := Go.Lib.hid hW1.out; have hW2 := Go.Lib.hid (hWE2.out.trans (hb2.mono hWE2.out.size)); have R2_b := Go.Lib.hid (R1_b.out.below hb2 (Nat.le_refl _)); have R2_p := Go.Lib.hid hr2; clear hr2; have BE2_b := Go.Lib.hid B1_b.out; have B2_b := Go.Lib.hid (BE2_b.out.below hb2 BE2_b.out.lt); obtain ⟨k2b0, k2b1, k2b2, k2b3⟩ := B2_b.out.cells; clear hb2)
      | (go_at_call 14; refine (alive11_ok _).mono ?_; rintro e w3 ⟨rfl, hb3⟩; have hWE3 := Go.Lib.hid hW2.out; have hW3 := Go.Lib.hid (hWE3.out.trans (hb3.mono hWE3.out.size)); clear hb3))
    go_ret
    exact ⟨rfl, hW3.out⟩

set_option maxRecDepth 100000 in
set_option maxHeartbeats 4000000 in
theorem blockBurst_in (W : World) (a : Option Addr) (la ca : Nat) (N : Int) (i0 ch : Nat) (l : List Int) (hr : Row .u8 W a la ca l) (hN : (Lit.int .i64 N).wf = true) (h : Valid l N) (h3 : ¬ 1500 < N) (hi : i0 < 8 * (la + 4)) (hch : ch < 4294967296) :
    Calls Try.prog 6 #[.agg #[.slice a la ca, .int .i64 N], .int .i64 i0, .int .u32 ch] W fun e w' => e = .returned (.bool true) ∧ Below W.heap.size W w' := by
  have hla : la ≤ 190 := by have := h.n; have := hr.hlen; omega
  have hWE0 := Go.Lib.hid (below1 W (.cells #[.slice a la ca, .int .i64 N] 29))
  have BE0_b := Go.Lib.hid (box1 W (.slice a la ca) N)
  have RE0_b := Go.Lib.hid (hr.below hWE0.out (Nat.le_refl _))
  have c1 : Hid (∀ w, Row .u8 w a la ca l → Calls Try.prog 22 #[.agg #[.slice a la ca, .int .i64 N]] w fun e W' => e = .returned (.int .i64 0) ∧ Below w.heap.size w W') := Go.Lib.hid fun w hw => RCheck_any w a la ca N l hw hN 0 (.inl ⟨h, rfl⟩)
  have hll := hr.hlen
  obtain ⟨K, hK⟩ : ∃ K, K = la + 4 := ⟨_, rfl⟩
  obtain ⟨X, hX⟩ : ∃ X, X = sealB l := ⟨_, rfl⟩
  have p1 : Hid (∀ w, Row .u8 w a la ca l → ResP 11 #[.agg #[.slice a la ca, .int .i64 N]] w K X 0) := Go.Lib.hid fun w hw => by
    rw [hK, hX]; exact KPack_ok w a la ca N l hw hN h
  unfold ResP at p1
  have hiI : ¬ 8 * (K : Int) ≤ i0 := by omega
  have hK2 : K ≤ 194 := by omega
  have hK4 : 4 ≤ K := by omega
  have hl : Hid (X.length = K) := Go.Lib.hid (by rw [hX, sealB_len, hll, hK])
  have hwf : Hid (∀ x ∈ X, 0 ≤ x ∧ x ≤ 255) := Go.Lib.hid (by rw [hX]; exact sealB_wf (u8_bd hr.wf))
  have wfx : Hid (∀ x ∈ X, (Lit.int .u8 x).wf = true) := Go.Lib.hid (u8_wf hwf.out)
  have hrt : Hid (rightB X) := Go.Lib.hid (by rw [hX]; exact right_seal l)
  obtain ⟨n8, hn8⟩ : ∃ n, n = 8 * la := ⟨_, rfl⟩
  have hKla := Go.Lib.hid (show K - 4 = la by omega)
  have hn8' := Go.Lib.hid hn8
  clear hr hN h hi hK hX hll hn8
  go_enter Try.func6, Try.ntmps6
  go_wp2_with (first
    | (go_at_call 22; ((with_reducible refine (c1.out _ ?h1).mono ?_)); (case h1 => exact RE0_b.out); rintro e w1 ⟨rfl, hb1⟩; have hWE1 := Go.Lib.hid hWE0.out; have hW1 := Go.Lib.hid (hWE1.out.trans (hb1.mono hWE1.out.size)); have R1_b := Go.Lib.hid (RE0_b.out.below hb1 (Nat.le_refl _)); have BE1_b := Go.Lib.hid BE0_b.out; have B1_b := Go.Lib.hid (BE1_b.out.below hb1 BE1_b.out.lt); obtain ⟨k1b0, k1b1, k1b2, k1b3⟩ := B1_b.out.cells; clear hb1)
    | (go_at_call 11; ((with_reducible refine (p1.out _ ?h1).mono ?_)); (case h1 => exact R1_b.out); rintro e w2 ⟨b2, cp2, rfl, hr2, hb2⟩; have hWE2 := Go.Lib.hid hW1.out; have hW2 := Go.Lib.hid (hWE2.out.trans (hb2.mono hWE2.out.size)); have R2_b := Go.Lib.hid (R1_b.out.below hb2 (Nat.le_refl _)); have R2_p := Go.Lib.hid hr2; clear hr2; have BE2_b := Go.Lib.hid B1_b.out; have B2_b := Go.Lib.hid (BE2_b.out.below hb2 BE2_b.out.lt); obtain ⟨k2b0, k2b1, k2b2, k2b3⟩ := B2_b.out.cells; clear hb2)
    | (at_builtin; refine law_appendRow elU8 _ rfl _ _ rfl w2.heap.size _ 0 [] rfl (own_empty w2 5 .u8) b2 K cp2 X rfl (R2_p.out.below (below1 w2 (.cells #[] 5)) (Nat.le_refl _)) (by omega) (by simp) ?_; intro v3 w3 hown3 hbx3; simp only [Nat.zero_add, List.nil_append] at hown3; obtain ⟨o3, p3, rfl⟩ := own_form hown3; have hb3 := (below1 w2 (.cells #[] 5)).trans hbx3; clear hbx3; have hWE3 := Go.Lib.hid hW2.out; have hW3 := Go.Lib.hid (hWE3.out.trans (hb3.mono hWE3.out.size)); have R3_b := Go.Lib.hid (R2_b.out.below hb3 (Nat.le_refl _)); have R3_p := Go.Lib.hid (R2_p.out.below hb3 (Nat.le_refl _)); have BE3_b := Go.Lib.hid B2_b.out; have B3_b := Go.Lib.hid (BE3_b.out.below hb3 BE3_b.out.lt); obtain ⟨k3b0, k3b1, k3b2, k3b3⟩ := B3_b.out.cells; have R3_o := Go.Lib.hid (Row.of_own hown3 wfx.out); have O3_o := Go.Lib.hid hown3; clear hown3 hb3))
  obtain ⟨g, hgo, hg1, hg2⟩ : ∃ g, o3 = some ⟨g, 0, none⟩ ∧ W.heap.size ≤ g ∧ g < w3.heap.size := by
    obtain ⟨g, c, e, h1, h2⟩ := own_pos O3_o.out (by omega)
    cases e
    exact ⟨g, rfl, Nat.le_trans hW2.out.size h1, h2⟩
  subst hgo
  have O4 := Go.Lib.hid (own_base O3_o.out hW2.out.size)
  clear O3_o
  go_loopw [9, 11] (fun dv i wr => ∃ (k : Nat) (lo : List Int), k ≤ 32 ∧ i0 + k ≤ 8 * K ∧ i = .int .i64 k ∧ dv = .bool (decide (ch % 2 ^ k ≠ 0)) ∧ Flip X lo i0 ch k ∧
    wr.ownsRow W.heap.size 5 1 (.slice (some ⟨g, 0, none⟩) K p3) K (nums .u8 lo) ∧ Below W.heap.size W wr) (fun _ i _ => 32 - (intOf i).toNat)
  case atStart => exact ⟨0, X, by omega, by omega, rfl, by simp [Nat.mod_one], Flip.zero hwf.out i0 ch, O4.out, hW3.out⟩
  case round =>
    obtain ⟨k, lo, hk, hik, rfl, rfl, hF, hown, hb⟩ := hrel
    by_cases hlt : (k : Int) < 32 ∧ (i0 : Int) + (k : Int) < 8 * (K : Int)
    · obtain ⟨h1, h2⟩ := hlt
      have hls := Go.Lib.hid (low_succ ch k)
      have oa := Go.u32_and_nat (ch / 2 ^ k) 1 (Nat.lt_of_le_of_lt (Nat.div_le_self _ _) hch) (by decide)
      rw [Nat.and_one_is_mod] at oa
      have hown' := Go.Lib.hid hown
      have hb' := Go.Lib.hid hb
      have hF' := Go.Lib.hid hF
      cases hc : ch.testBit k
      case false =>
        have hm : ch / 2 ^ k % 2 = 0 := by
          rw [Nat.testBit_eq_decide_div_mod_eq] at hc
          have := of_decide_eq_false hc
          omega
        rw [hm] at oa
        have oa' : Go.bits .and .u32 ((ch : Int) / 2 ^ k) 1 = 0 := by simpa using oa
        have hnx := Go.Lib.hid (hF'.out.off hc)
        have hls2 : Hid (decide (ch % 2 ^ (k + 1) ≠ 0) = decide (ch % 2 ^ k ≠ 0)) := Go.Lib.hid (by rw [hls.out, hc]; simp)
        obtain ⟨dd, hdd⟩ : ∃ dd, dd = decide (ch % 2 ^ k ≠ 0) := ⟨_, rfl⟩
        rw [← hdd] at hls2 ⊢
        clear hdd oa hm hc hown hb hF
        go_wp2
        exact ⟨⟨k + 1, lo, by omega, by omega, by go_num, by rw [hls2.out], hnx.out, hown'.out, hb'.out⟩, by simp [intOf]; omega⟩
      case true =>
        have hm : ch / 2 ^ k % 2 = 1 := by
          rw [Nat.testBit_eq_decide_div_mod_eq] at hc
          exact of_decide_eq_true hc
        rw [hm] at oa
        have oa' : Go.bits .and .u32 ((ch : Int) / 2 ^ k) 1 = 1 := by simpa using oa
        have hls2 : Hid (decide (ch % 2 ^ (k + 1) ≠ 0) = true) := Go.Lib.hid (by rw [hls.out, hc]; simp)
        have hlo : lo.length = K := by rw [hF.len, hl.out]
        obtain ⟨d, hd⟩ : ∃ d : Nat, lo.getD ((i0 + k) / 8) 0 = d := ⟨(lo.getD ((i0 + k) / 8) 0).toNat, by have := getD_bd hF.wf ((i0 + k) / 8); omega⟩
        have hd8 : d < 256 := by have := getD_bd hF.wf ((i0 + k) / 8); omega
        have hnx := Go.Lib.hid (hF'.out.on hc (by rw [hl.out]; omega) hd hd8)
        have hc1 := hown.cellAt ((i0 + k) / 8) (by omega)
        have hf1 := hown.frozenAt ((i0 + k) / 8)
        rw [show (nums .u8 lo)[(i0 + k) / 8]? = some (.int .u8 (d : Int)) by rw [← hd]; simp [nums, List.getD, show (i0 + k) / 8 < lo.length by omega]] at hc1
        obtain ⟨s, hs⟩ : ∃ s, s = (i0 + k) % 8 := ⟨_, rfl⟩
        obtain ⟨p, hp⟩ : ∃ p, p = (i0 + k) / 8 := ⟨_, rfl⟩
        have hs8 : s < 8 := by omega
        have hpn : p < K := by omega
        have es : ((i0 : Int) + (k : Int)) % 8 = (s : Int) := by omega
        have ep : ((i0 : Int) + (k : Int)) / 8 = (p : Int) := by omega
        rw [← hp] at hc1 hf1 hnx
        rw [← hs] at hnx
        obtain ⟨x, hx⟩ : ∃ x, x = 2 ^ s := ⟨_, rfl⟩
        have hx8 : x ≤ 128 := by
          rw [hx]; rcases (show s = 0 ∨ s = 1 ∨ s = 2 ∨ s = 3 ∨ s = 4 ∨ s = 5 ∨ s = 6 ∨ s = 7 by omega) with h | h | h | h | h | h | h | h <;> rw [h] <;> decide
        rw [← hx] at hnx
        have hpw : (1 : Int) * 2 ^ s = (x : Int) := by rw [hx]; simp
        have hpw' : (2 : Int) ^ s = (x : Int) := by rw [hx]; simp
        have ox := Go.u8_xor_nat d x hd8 (by omega)
        have hst := Go.Lib.hid ((hown.stored p (.int .u8 ((d ^^^ x : Nat) : Int))).1)
        obtain ⟨dd, hdd⟩ : ∃ dd, dd = decide (ch % 2 ^ k ≠ 0) := ⟨_, rfl⟩
        rw [← hdd]
        clear hdd oa hm hc hown hb hF hd hs hp hx hlo
        go_wp2
        refine wp_region_quiet_tail 14 (by kernel_rfl) (by kernel_rfl) ?_
        simp only [List.take_succ_cons, List.take_zero, List.drop_succ_cons, List.drop_zero]
        repeat (first
          | go_big_quiet_skip
          | (go_big_quiet_want; go_big_quiet_op; go_big_quiet_on))
        refine wpQuiet_nil ?_
        go_wp2
        have h3 := hst.out
        rw [nums_set] at h3
        exact ⟨⟨k + 1, _, by omega, by omega, by go_num, by rw [hls2.out], hnx.out, h3, (hb'.out.setCell (p := ⟨g, p, none⟩) hg1 _).drew⟩, by simp [intOf]; omega⟩
    · have hfr := flip_right hF hwf.out hk (by rw [hl.out]; exact hik) hrt.out
      have hWE0 := Go.Lib.hid hb
      have RE0_o := Go.Lib.hid (Row.of_own hown (u8_wf hF.wf))
      have key : ¬ (k : Int) < 32 ∨ ((k : Int) < 32 ∧ ¬ (i0 : Int) + (k : Int) < 8 * (K : Int)) := by omega
      have hlo : lo.length = K := by rw [hF.len, hl.out]
      by_cases e : ch % 2 ^ k = 0
      · have hdd : decide (ch % 2 ^ k ≠ 0) = false := by simp [e]
        have u2 : Hid (∀ w, Row .u8 w (some ⟨g, 0, none⟩) K p3 lo → Calls Try.prog 12 #[.slice (some ⟨g, 0, none⟩) K p3] w fun r W' => ∃ b' c', r = .returned (.tuple #[.agg #[.slice b' la c', .int .i64 n8], .int .i64 0]) ∧ Row .u8 W' b' la c' (lo.take la) ∧ Below w.heap.size w W') := Go.Lib.hid fun w hw => by
          have := KUnpack_ok w _ K p3 lo hw (by omega) (hfr.2 e)
          unfold ResU at this
          rw [hKla.out, ← hn8'.out] at this
          exact this
        rw [hdd]
        clear hfr e hdd hown hb hF hlt hlo
        rcases key with h | ⟨h, h2⟩
        all_goals
          go_wp2_with (first
            | (go_at_call 12; ((with_reducible refine (u2.out _ ?h1).mono ?_)); (case h1 => exact RE0_o.out); rintro e w1 ⟨b1, cp1, rfl, hr1, hb1⟩; have hWE1 := Go.Lib.hid hWE0.out; have hW1 := Go.Lib.hid (hWE1.out.trans (hb1.mono hWE1.out.size)); have R1_o := Go.Lib.hid (RE0_o.out.below hb1 (Nat.le_refl _)); have R1_x := Go.Lib.hid hr1; clear hr1; clear hb1)
            | (go_at_call 14; refine (alive11_ok _).mono ?_; rintro e w2 ⟨rfl, hb2⟩; have hWE2 := Go.Lib.hid (hW1.out.alloc hW1.out.size (.cells #[(.slice b1 la cp1), .int .i64 n8] 29)); have hW2 := Go.Lib.hid (hWE2.out.trans (hb2.mono hWE2.out.size)); clear hb2))
          go_ret
          exact ⟨rfl, hW2.out⟩
      · have hdd : decide (ch % 2 ^ k ≠ 0) = true := by simp [e]
        have u2 : Hid (∀ w, Row .u8 w (some ⟨g, 0, none⟩) K p3 lo → Calls Try.prog 12 #[.slice (some ⟨g, 0, none⟩) K p3] w fun r W' => ∃ b' c', r = .returned (.tuple #[.agg #[.slice b' 0 c', .int .i64 0], .int .i64 22]) ∧ Row .u8 W' b' 0 c' [] ∧ Below w.heap.size w W') := Go.Lib.hid fun w hw => KUnpack_no w _ K p3 lo hw hK4 (by omega) (fun h => e (hfr.1 h))
        rw [hdd]
        clear hfr e hdd hown hb hF hlt hlo
        rcases key with h | ⟨h, h2⟩
        all_goals
          go_wp2_with (first
            | (go_at_call 12; ((with_reducible refine (u2.out _ ?h1).mono ?_)); (case h1 => exact RE0_o.out); rintro e w1 ⟨b1, cp1, rfl, hr1, hb1⟩; have hWE1 := Go.Lib.hid hWE0.out; have hW1 := Go.Lib.hid (hWE1.out.trans (hb1.mono hWE1.out.size)); have R1_o := Go.Lib.hid (RE0_o.out.below hb1 (Nat.le_refl _)); have R1_x := Go.Lib.hid hr1; clear hr1; clear hb1)
            | (go_at_call 14; refine (alive11_ok _).mono ?_; rintro e w2 ⟨rfl, hb2⟩; have hWE2 := Go.Lib.hid (hW1.out.alloc hW1.out.size (.cells #[(.slice b1 0 cp1), .int .i64 0] 29)); have hW2 := Go.Lib.hid (hWE2.out.trans (hb2.mono hWE2.out.size)); clear hb2))
          go_ret
          exact ⟨rfl, hW2.out⟩

theorem blockBurst_walk (ax0_0 : Option Addr) (lenx0_0 capx0_0 : Nat) (zx0_0 : List Int) (x0_1 : Int) (x1 : Int) (x2 : Int) (W : World) (wx0_0 : IsRow .u8 W ax0_0 lenx0_0 capx0_0 zx0_0) (wx0_1 : (Lit.int .i64 x0_1).wf = true) (wx1 : (Lit.int .i64 x1).wf = true) (wx2 : (Lit.int .u32 x2).wf = true) :
    Calls Try.prog 6 #[.agg #[.slice ax0_0 lenx0_0 capx0_0, .int .i64 x0_1], .int .i64 x1, .int .u32 x2] W fun e w' => e = .returned (.bool true) ∧ Below W.heap.size W w' := by
  have hr := Row.of_isRow wx0_0
  have b1 := bounds_i64 wx1
  have b2 := bounds_u32 wx2
  by_cases h1 : Valid (zx0_0.take lenx0_0) x0_1
  · by_cases h3 : 1500 < x0_1
    · exact blockBurst_out W _ _ _ _ _ _ _ hr wx0_1 b1 (.inr ⟨h1, h3⟩)
    · by_cases h4 : x1 < 0 ∨ 8 * ((lenx0_0 : Int) + 4) ≤ x1
      · exact blockBurst_off W _ _ _ _ _ _ _ hr wx0_1 b1 h1 h3 h4
      · obtain ⟨i0, rfl⟩ : ∃ n : Nat, x1 = n := ⟨x1.toNat, by omega⟩
        obtain ⟨ch, rfl⟩ : ∃ n : Nat, x2 = n := ⟨x2.toNat, by omega⟩
        exact blockBurst_in W _ _ _ _ i0 ch _ hr wx0_1 h1 h3 (by omega) (by omega)
  · exact blockBurst_out W _ _ _ _ _ _ _ hr wx0_1 b1 (.inl h1)
end Go.Proofs.Ythiaeldhelhjlaa
