/- BlockSums: the last four bytes are the sum of the others, and a block's own sum is always the same. -/
import Derived.Test.YthiaeldhelhjlaaZ6
import Derived.Deep.DeepCutAuto

namespace Go.Proofs.Ythiaeldhelhjlaa
open Go.RowKit Cad

set_option maxRecDepth 100000 in
theorem blockSums_out (W : World) (a : Option Addr) (la ca : Nat) (N : Int) (l : List Int) (hr : Row .u8 W a la ca l) (hN : (Lit.int .i64 N).wf = true) (h : ¬ Valid l N ∨ (Valid l N ∧ 1500 < N)) :
    Calls Try.prog 8 #[.agg #[.slice a la ca, .int .i64 N]] W fun e w' => e = .returned (.bool true) ∧ Below W.heap.size W w' := by
  have hWE0 := Go.Lib.hid (below1 W (.cells #[.slice a la ca, .int .i64 N] 29))
  have BE0_b := Go.Lib.hid (box1 W (.slice a la ca) N)
  have RE0_b := Go.Lib.hid (hr.below hWE0.out (Nat.le_refl _))
  rcases h with h | ⟨h, h2⟩
  · have c1 : Hid (∀ w, Row .u8 w a la ca l → Calls Try.prog 22 #[.agg #[.slice a la ca, .int .i64 N]] w fun e W' => e = .returned (.int .i64 8) ∧ Below w.heap.size w W') := Go.Lib.hid fun w hw => RCheck_any w a la ca N l hw hN 8 (.inr ⟨h, rfl⟩)
    clear hr hN h
    go_enter Try.func8, Try.ntmps8
    go_wp2_with (first
      | (go_at_call 22; ((with_reducible refine (c1.out _ ?h1).mono ?_)); (case h1 => exact RE0_b.out); rintro e w1 ⟨rfl, hb1⟩; have hWE1 := Go.Lib.hid hWE0.out; have hW1 := Go.Lib.hid (hWE1.out.trans (hb1.mono hWE1.out.size)); have R1_b := Go.Lib.hid (RE0_b.out.below hb1 (Nat.le_refl _)); have BE1_b := Go.Lib.hid BE0_b.out; have B1_b := Go.Lib.hid (BE1_b.out.below hb1 BE1_b.out.lt); obtain ⟨k1b0, k1b1, k1b2, k1b3⟩ := B1_b.out.cells; clear hb1)
      | (go_at_call 14; refine (alive11_ok _).mono ?_; rintro e w2 ⟨rfl, hb2⟩; have hWE2 := Go.Lib.hid hW1.out; have hW2 := Go.Lib.hid (hWE2.out.trans (hb2.mono hWE2.out.size)); clear hb2))
    go_ret
    exact ⟨rfl, hW2.out⟩
  · have c1 : Hid (∀ w, Row .u8 w a la ca l → Calls Try.prog 22 #[.agg #[.slice a la ca, .int .i64 N]] w fun e W' => e = .returned (.int .i64 0) ∧ Below w.heap.size w W') := Go.Lib.hid fun w hw => RCheck_any w a la ca N l hw hN 0 (.inl ⟨h, rfl⟩)
    clear hr hN h
    go_enter Try.func8, Try.ntmps8
    go_wp2_with (first
      | (go_at_call 22; ((with_reducible refine (c1.out _ ?h1).mono ?_)); (case h1 => exact RE0_b.out); rintro e w1 ⟨rfl, hb1⟩; have hWE1 := Go.Lib.hid hWE0.out; have hW1 := Go.Lib.hid (hWE1.out.trans (hb1.mono hWE1.out.size)); have R1_b := Go.Lib.hid (RE0_b.out.below hb1 (Nat.le_refl _)); have BE1_b := Go.Lib.hid BE0_b.out; have B1_b := Go.Lib.hid (BE1_b.out.below hb1 BE1_b.out.lt); obtain ⟨k1b0, k1b1, k1b2, k1b3⟩ := B1_b.out.cells; clear hb1)
      | (go_at_call 14; refine (alive11_ok _).mono ?_; rintro e w2 ⟨rfl, hb2⟩; have hWE2 := Go.Lib.hid hW1.out; have hW2 := Go.Lib.hid (hWE2.out.trans (hb2.mono hWE2.out.size)); clear hb2))
    go_ret
    exact ⟨rfl, hW2.out⟩

theorem leB_get (s : Nat) (n i : Nat) (h : i < n) : (CadL.leB (s : Int) n).getD i 0 = ((s / 256 ^ i % 256 : Nat) : Int) := by
  simp [CadL.leB, List.getD, h]
theorem seal_get (l : List Int) (i : Nat) (h : i < 4) : (sealB l).getD (l.length + i) 0 = ((crcSum l / 256 ^ i % 256 : Nat) : Int) := by
  have := leB_get (crcSum l) 4 i h
  rw [← this]
  unfold sealB
  simp only [List.getD]
  rw [List.getElem?_append_right (by omega), Nat.add_sub_cancel_left]

set_option maxRecDepth 100000 in
set_option maxHeartbeats 4000000 in
theorem blockSums_in (W : World) (a : Option Addr) (la ca : Nat) (N : Int) (l : List Int) (hr : Row .u8 W a la ca l) (hN : (Lit.int .i64 N).wf = true) (h : Valid l N) (h3 : ¬ 1500 < N) :
    Calls Try.prog 8 #[.agg #[.slice a la ca, .int .i64 N]] W fun e w' => e = .returned (.bool true) ∧ Below W.heap.size W w' := by
  have hla : la ≤ 190 := by have := h.n; have := hr.hlen; omega
  have hWE0 := Go.Lib.hid (below1 W (.cells #[.slice a la ca, .int .i64 N] 29))
  have BE0_b := Go.Lib.hid (box1 W (.slice a la ca) N)
  have RE0_b := Go.Lib.hid (hr.below hWE0.out (Nat.le_refl _))
  have c1 : Hid (∀ w, Row .u8 w a la ca l → Calls Try.prog 22 #[.agg #[.slice a la ca, .int .i64 N]] w fun e W' => e = .returned (.int .i64 0) ∧ Below w.heap.size w W') := Go.Lib.hid fun w hw => RCheck_any w a la ca N l hw hN 0 (.inl ⟨h, rfl⟩)
  obtain ⟨K, hK⟩ : ∃ K, K = la + 4 := ⟨_, rfl⟩
  obtain ⟨X, hX⟩ : ∃ X, X = sealB l := ⟨_, rfl⟩
  obtain ⟨sv, hsv⟩ : ∃ x, x = crcSum l := ⟨_, rfl⟩
  have hsl := crcSum_lt l
  have p1 : Hid (∀ w, Row .u8 w a la ca l → ResP 11 #[.agg #[.slice a la ca, .int .i64 N]] w K X 0) := Go.Lib.hid fun w hw => by
    rw [hK, hX]; exact KPack_ok w a la ca N l hw hN h
  unfold ResP at p1
  have hXt : X.take la = l := by rw [hX, ← hr.hlen]; exact sealB_take l
  have s1 : Hid (∀ w b c, Row .u8 w b K c X → Calls Try.prog 24 #[.slice b la c] w fun r W' => r = .returned (.tuple #[.int .u32 sv, .int .i64 0]) ∧ Below w.heap.size w W') := Go.Lib.hid fun w b c hw => by
    have := hw.take la (by omega)
    rw [hXt] at this
    rw [hsv]; exact CSum_ok w b la c l this (by omega)
  have s2 : Hid (∀ w b c, Row .u8 w b K c X → Calls Try.prog 24 #[.slice b K c] w fun r W' => r = .returned (.tuple #[.int .u32 558161692, .int .i64 0]) ∧ Below w.heap.size w W') := Go.Lib.hid fun w b c hw => by
    have h4 : crcSum X = 558161692 := by rw [hX]; exact seal_sum l
    have := CSum_ok w b K c X hw (by omega)
    rw [h4] at this
    exact this
  have st : Hid (∀ w b c, Row .u8 w b K c X → (convert 25 9 (.slice b la c)).run Try.prog w = .ok (.string (strOfNums l)) w) := Go.Lib.hid fun w b c hw => by
    have := hw.take la (by omega)
    rw [hXt] at this
    exact this.str Try.underlying25 Try.underlying5 Try.underlying9
  obtain ⟨d0, hd0⟩ : ∃ d, d = sv / 256 ^ 0 % 256 := ⟨_, rfl⟩
  obtain ⟨d1, hd1⟩ : ∃ d, d = sv / 256 ^ 1 % 256 := ⟨_, rfl⟩
  obtain ⟨d2, hd2⟩ : ∃ d, d = sv / 256 ^ 2 % 256 := ⟨_, rfl⟩
  obtain ⟨d3, hd3⟩ : ∃ d, d = sv / 256 ^ 3 % 256 := ⟨_, rfl⟩
  have g0 := seal_get l 0 (by decide)
  have g1 := seal_get l 1 (by decide)
  have g2 := seal_get l 2 (by decide)
  have g3 := seal_get l 3 (by decide)
  rw [← hX, ← hsv, hr.hlen, ← hd0] at g0
  rw [← hX, ← hsv, hr.hlen, ← hd1] at g1
  rw [← hX, ← hsv, hr.hlen, ← hd2] at g2
  rw [← hX, ← hsv, hr.hlen, ← hd3] at g3
  rw [← hsv] at hsl
  have b0 : (d0 : Int) ≤ 255 := by omega
  have b1 : (d1 : Int) ≤ 255 := by omega
  have b2 : (d2 : Int) ≤ 255 := by omega
  have b3 : (d3 : Int) ≤ 255 := by omega
  have hsum : (d0 : Int) + 256 * (d1 : Int) + 65536 * (d2 : Int) + 16777216 * (d3 : Int) = (sv : Int) := by
    simp only [Nat.reducePow, Nat.div_one] at hd0 hd1 hd2 hd3
    omega
  have cell : Hid (∀ w (bb off c : Nat), Row .u8 w (some ⟨bb, off, none⟩) K c X → ∀ (i d : Nat), i < K → X.getD i 0 = (d : Int) → w.cell? ⟨bb, off + i, none⟩ = some (.int .u8 (d : Int))) := Go.Lib.hid fun w bb off c hw i d hi hd => by
    obtain ⟨b', o', e, -, hc⟩ := hw.cells (by omega)
    cases e
    rw [hc i hi, hd]
  obtain ⟨n1, hn1⟩ : ∃ n, n = la + 1 := ⟨_, rfl⟩
  obtain ⟨n2, hn2⟩ : ∃ n, n = la + 2 := ⟨_, rfl⟩
  obtain ⟨n3, hn3⟩ : ∃ n, n = la + 3 := ⟨_, rfl⟩
  have i1 : (la : Int) + 1 = (n1 : Int) := by omega
  have i2 : (la : Int) + 2 = (n2 : Int) := by omega
  have i3 : (la : Int) + 3 = (n3 : Int) := by omega
  have iK : (la : Int) + 4 = (K : Int) := by omega
  have iL : (K : Int) - 4 = (la : Int) := by omega
  have k0 : la < K := by omega
  have k1 : n1 < K := by omega
  have k2 : n2 < K := by omega
  have k3 : n3 < K := by omega
  have hK2 : K ≤ 194 := by omega
  rw [Nat.add_zero] at g0
  rw [← hn1] at g1
  rw [← hn2] at g2
  rw [← hn3] at g3
  have g0 := Go.Lib.hid g0
  have g1 := Go.Lib.hid g1
  have g2 := Go.Lib.hid g2
  have g3 := Go.Lib.hid g3
  clear hr hN h hK hX hsv hXt hd0 hd1 hd2 hd3 hn1 hn2 hn3
  go_enter Try.func8, Try.ntmps8
  go_upto_region 9 with (first
    | (go_at_call 22; ((with_reducible refine (c1.out _ ?h1).mono ?_)); (case h1 => exact RE0_b.out); rintro e w1 ⟨rfl, hb1⟩; have hWE1 := Go.Lib.hid hWE0.out; have hW1 := Go.Lib.hid (hWE1.out.trans (hb1.mono hWE1.out.size)); have R1_b := Go.Lib.hid (RE0_b.out.below hb1 (Nat.le_refl _)); have BE1_b := Go.Lib.hid BE0_b.out; have B1_b := Go.Lib.hid (BE1_b.out.below hb1 BE1_b.out.lt); obtain ⟨k1b0, k1b1, k1b2, k1b3⟩ := B1_b.out.cells; clear hb1)
    | (go_at_call 11; ((with_reducible refine (p1.out _ ?h1).mono ?_)); (case h1 => exact R1_b.out); rintro e w2 ⟨b2, cp2, rfl, hr2, hb2⟩; have hWE2 := Go.Lib.hid hW1.out; have hW2 := Go.Lib.hid (hWE2.out.trans (hb2.mono hWE2.out.size)); have R2_b := Go.Lib.hid (R1_b.out.below hb2 (Nat.le_refl _)); have R2_p := Go.Lib.hid hr2; clear hr2; have BE2_b := Go.Lib.hid B1_b.out; have B2_b := Go.Lib.hid (BE2_b.out.below hb2 BE2_b.out.lt); obtain ⟨k2b0, k2b1, k2b2, k2b3⟩ := B2_b.out.cells; obtain ⟨bb, off, rfl, hlt, hcc⟩ := R2_p.out.cells (by omega); have hcp : K ≤ cp2 := R2_p.out.hcap; have hcp2 : la < cp2 := (by omega); clear hlt hcc; clear hb2)
    | (go_at_call 24; ((with_reducible refine (s1.out _ _ _ ?h1).mono ?_)); (case h1 => exact R2_p.out); rintro e w3 ⟨rfl, hb3⟩; have hWE3 := Go.Lib.hid hW2.out; have hW3 := Go.Lib.hid (hWE3.out.trans (hb3.mono hWE3.out.size)); have R3_b := Go.Lib.hid (R2_b.out.below hb3 (Nat.le_refl _)); have R3_p := Go.Lib.hid (R2_p.out.below hb3 (Nat.le_refl _)); have BE3_b := Go.Lib.hid B2_b.out; have B3_b := Go.Lib.hid (BE3_b.out.below hb3 BE3_b.out.lt); obtain ⟨k3b0, k3b1, k3b2, k3b3⟩ := B3_b.out.cells; clear hb3)
    | (go_at_call 24; ((with_reducible refine (s2.out _ _ _ ?h1).mono ?_)); (case h1 => exact R3_p.out); rintro e w4 ⟨rfl, hb4⟩; have hWE4 := Go.Lib.hid hW3.out; have hW4 := Go.Lib.hid (hWE4.out.trans (hb4.mono hWE4.out.size)); have R4_b := Go.Lib.hid (R3_b.out.below hb4 (Nat.le_refl _)); have R4_p := Go.Lib.hid (R3_p.out.below hb4 (Nat.le_refl _)); have BE4_b := Go.Lib.hid B3_b.out; have B4_b := Go.Lib.hid (BE4_b.out.below hb4 BE4_b.out.lt); obtain ⟨k4b0, k4b1, k4b2, k4b3⟩ := B4_b.out.cells; clear hb4))
  refine wp_region_ord (fun _ => True) [(0, 0), (1, 0), (2, 0), (3, 0), (4, 0), (5, 0), (6, 0), (7, 0), (8, 0), (9, 0), (10, 1), (11, 0), (12, 1), (13, 1), (14, 0), (15, 0), (16, 0), (17, 0), (18, 0), (19, 0), (20, 0), (21, 1), (22, 0), (23, 0), (24, 0), (25, 0), (26, 0), (27, 1), (28, 0), (29, 0), (30, 0), (31, 0), (32, 0), (33, 0), (34, 0), (35, 1), (36, 0), (37, 0), (38, 0), (39, 0), (40, 0), (41, 0), (42, 0), (43, 1), (44, 0), (45, 0), (46, 0), (47, 0), (48, 0), (49, 0), (50, 0), (51, 0), (52, 0), (53, 0), (54, 3), (55, 0), (56, 0)] (by kernel_rfl) (by kernel_rfl) ?hC0 ?_
  case hC0 => trivial
  simp only [pick, nth]
  refine wpW_name ?_
  intro q0 hq0
  have hd : Below w4.heap.size w4 q0 := by rw [hq0]; exact (Below.refl _ _).drew
  have Bq := Go.Lib.hid (hW4.out.trans (hd.mono hW4.out.size))
  have Rp := R4_p.out.below hd (Nat.le_refl _)
  have Rb := R4_b.out.below hd (Nat.le_refl _)
  obtain ⟨f0, f1, f2, f3⟩ := (B4_b.out.below hd B4_b.out.lt).cells
  have u0 := cell.out _ _ _ _ Rp _ _ k0 g0.out
  have u1 := cell.out _ _ _ _ Rp _ _ k1 g1.out
  have u2 := cell.out _ _ _ _ Rp _ _ k2 g2.out
  have u3 := cell.out _ _ _ _ Rp _ _ k3 g3.out
  have t1 := st.out _ _ _ Rp
  have t2 := Rb.str Try.underlying25 Try.underlying5 Try.underlying9
  clear hq0 hd Rp Rb
  (repeat (first | (apply wpW_light; (case h => (intro wa; (first | (go_big_quiet_skip; exact wpQuiet_nil rfl) | (go_big_quiet_want; go_big_quiet_op; go_big_quiet_on; exact wpQuiet_nil rfl))))) | (apply wpW_here; (case h => (first | (go_big_quiet_skip; exact wpQuiet_nil rfl) | (go_big_quiet_want; go_big_quiet_op; go_big_quiet_on; exact wpQuiet_nil rfl)))) | (apply wpW_held; (case hC => assumption); (case h => (intro wa hCa; simp only [] at hCa; (first | (go_big_quiet_skip; exact wpQuiet_nil rfl) | (go_big_quiet_want; go_big_quiet_op; go_big_quiet_on; exact wpQuiet_nil rfl)))))))
  refine wpW_actg (fun QQ hQQ => ?_) (by rfl)
  go_wp2_with (go_at_call 14; refine (alive11_ok _).mono ?_; rintro e w5 ⟨rfl, hb5⟩; have hW5 := Go.Lib.hid (Bq.out.trans (hb5.mono Bq.out.size)); clear hb5)
  (refine hQQ _ _ ?hCn ?_; (case hCn => trivial); clear hQQ QQ)
  (repeat (first | (apply wpW_light; (case h => (intro wa; (first | (go_big_quiet_skip; exact wpQuiet_nil rfl) | (go_big_quiet_want; go_big_quiet_op; go_big_quiet_on; exact wpQuiet_nil rfl))))) | (apply wpW_here; (case h => (first | (go_big_quiet_skip; exact wpQuiet_nil rfl) | (go_big_quiet_want; go_big_quiet_op; go_big_quiet_on; exact wpQuiet_nil rfl)))) | (apply wpW_held; (case hC => assumption); (case h => (intro wa hCa; simp only [] at hCa; (first | (go_big_quiet_skip; exact wpQuiet_nil rfl) | (go_big_quiet_want; go_big_quiet_op; go_big_quiet_on; exact wpQuiet_nil rfl)))))))
  refine wpW_nil ?_
  go_wp2
  go_ret
  exact ⟨rfl, hW5.out⟩

theorem blockSums_walk (ax0_0 : Option Addr) (lenx0_0 capx0_0 : Nat) (zx0_0 : List Int) (x0_1 : Int) (W : World) (wx0_0 : IsRow .u8 W ax0_0 lenx0_0 capx0_0 zx0_0) (wx0_1 : (Lit.int .i64 x0_1).wf = true) :
    Calls Try.prog 8 #[.agg #[.slice ax0_0 lenx0_0 capx0_0, .int .i64 x0_1]] W fun e w' => e = .returned (.bool true) ∧ Below W.heap.size W w' := by
  have hr := Row.of_isRow wx0_0
  by_cases h1 : Valid (zx0_0.take lenx0_0) x0_1
  · by_cases h3 : 1500 < x0_1
    · exact blockSums_out W _ _ _ _ _ hr wx0_1 (.inr ⟨h1, h3⟩)
    · exact blockSums_in W _ _ _ _ _ hr wx0_1 h1 h3
  · exact blockSums_out W _ _ _ _ _ hr wx0_1 (.inl h1)
end Go.Proofs.Ythiaeldhelhjlaa
