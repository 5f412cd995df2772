/- TallyParts: the length of a list is that of its first numbers, and of the others from the state behind them on. -/
import Derived.Test.YthbjcjphplgobaaZ13
import Derived.Deep.DeepCutAuto

namespace Go.Proofs.Ythbjcjphplgobaa
open Go.RowKit Cad

set_option maxRecDepth 100000 in
theorem tallyParts_out (W : World) (al : Option Addr) (ll cl : Nat) (n : Int) (_hll : ll ≤ 9223372036854775807) (h : (150 : Int) < ll ∨ (¬ (150 : Int) < ll ∧ n < 0) ∨ (¬ (150 : Int) < ll ∧ ¬ n < 0 ∧ (ll : Int) < n)) :
    Calls Try.prog 7 #[.slice al ll cl, .int .i64 n] W fun e w' => e = .returned (.bool true) ∧ Below W.heap.size W w' := by
  have hWE0 := Go.Lib.hid (Below.refl W.heap.size W)
  rcases h with h1 | ⟨h1, h2⟩ | ⟨h1, h2, h3⟩
  · go_enter Try.func7, Try.ntmps7
    go_wp2_with (first
      | (go_at_call 16; refine (alive12_ok _).mono ?_; rintro e w1 ⟨rfl, hb1⟩; have hWE1 := Go.Lib.hid hWE0.out; have hW1 := Go.Lib.hid (hWE1.out.trans (hb1.mono hWE1.out.size)); clear hb1))
    go_ret
    exact ⟨rfl, hW1.out⟩
  · go_enter Try.func7, Try.ntmps7
    go_wp2_with (first
      | (go_at_call 16; refine (alive12_ok _).mono ?_; rintro e w1 ⟨rfl, hb1⟩; have hWE1 := Go.Lib.hid hWE0.out; have hW1 := Go.Lib.hid (hWE1.out.trans (hb1.mono hWE1.out.size)); clear hb1))
    go_ret
    exact ⟨rfl, hW1.out⟩
  · go_enter Try.func7, Try.ntmps7
    go_wp2_with (first
      | (go_at_call 16; refine (alive12_ok _).mono ?_; rintro e w1 ⟨rfl, hb1⟩; have hWE1 := Go.Lib.hid hWE0.out; have hW1 := Go.Lib.hid (hWE1.out.trans (hb1.mono hWE1.out.size)); clear hb1))
    go_ret
    exact ⟨rfl, hW1.out⟩

set_option maxRecDepth 100000 in
set_option maxHeartbeats 8000000 in
theorem tallyParts_in (W : World) (al : Option Addr) (ll cl : Nat) (l : List Int) (m : List Nat) (t : Nat) (hr : Row .u32 W al ll cl l) (hl : ll ≤ 150) (hlm : l = m.map Int.ofNat) (hm : m.length = ll) (hm32 : ∀ x ∈ m, x < 4294967296) (ht : t ≤ ll) :
    Calls Try.prog 7 #[.slice al ll cl, .int .i64 t] W fun e w' => e = .returned (.bool true) ∧ Below W.heap.size W w' := by
  have hcap := hr.hcap
  have t32 : ∀ k, ∀ x ∈ m.take k, x < 4294967296 := fun k x hx => hm32 x (List.mem_of_mem_take hx)
  have hLl : (lens dStart m).length = ll := by rw [lens_len, hm]
  have lt_ : (m.take t).length = t := by rw [List.length_take]; omega
  have hlt2 := lens_take m dStart t (by omega)
  obtain ⟨Z, hZ⟩ : ∃ Z, Z = lens dStart m := ⟨_, rfl⟩
  rw [← hZ] at hLl hlt2
  have hZt : Z.take ll = Z := List.take_of_length_le (by omega)
  obtain ⟨N, hN⟩ : ∃ N, N = Z.sum := ⟨_, rfl⟩
  obtain ⟨Nt, hNt⟩ : ∃ N, N = (Z.take t).sum := ⟨_, rfl⟩
  obtain ⟨Et, hEt⟩ : ∃ E, E = after dStart (m.take t) := ⟨_, rfl⟩
  have hEtok : Et.ok := by rw [hEt]; exact after_ok _ dStart_ok (t32 t)
  have le : Hid (∀ w, Row .u32 w al ll cl l → Calls Try.prog 11 #[.slice al ll cl] w fun r W' => r = .returned (.tuple #[.int .i64 N, .int .i64 0]) ∧ Below w.heap.size w W') := Go.Lib.hid fun w h => by
    rw [hlm] at h
    have := TLength_ok w al ll cl m h (by omega) hm hm32
    rw [← hZ, ← hN] at this
    exact this
  have lt : Hid (∀ w, Row .u32 w al ll cl l → Calls Try.prog 11 #[.slice al t cl] w fun r W' => r = .returned (.tuple #[.int .i64 Nt, .int .i64 0]) ∧ Below w.heap.size w W') := Go.Lib.hid fun w h => by
    have h' := h.take t ht
    rw [hlm, map_take] at h'
    have := TLength_ok w al t cl (m.take t) h' (by omega) lt_ (t32 t)
    rw [← hlt2, ← hNt] at this
    exact this
  have ea : Hid (∀ w, Row .u32 w al ll cl l → ResI 10 #[.slice al ll cl] w ll (Z.map Int.ofNat) 0) := Go.Lib.hid fun w h => by
    rw [hlm] at h
    have := TEach_ok w al ll cl m h (by omega) hm hm32
    rw [← hZ] at this
    exact this
  have et : Hid (∀ w, Row .u32 w al ll cl l → ResI 10 #[.slice al t cl] w t ((Z.take t).map Int.ofNat) 0) := Go.Lib.hid fun w h => by
    have h' := h.take t ht
    rw [hlm, map_take] at h'
    have := TEach_ok w al t cl (m.take t) h' (by omega) lt_ (t32 t)
    rw [← hlt2] at this
    exact this
  have af : Hid (∀ w, Row .u32 w al ll cl l → ResA 26 #[.slice al t cl] w Et.k0 Et.k1 Et.s0 Et.s1 0) := Go.Lib.hid fun w h => by
    have h' := h.take t ht
    rw [hlm, map_take] at h'
    rw [hEt]
    exact PAfter_m w al t cl (m.take t) h' (by omega) lt_ (t32 t)
  have sm : Hid (∀ w b c b' c', Row .i64 w b ll c (Z.map Int.ofNat) → Row .i64 w b' t c' ((Z.take t).map Int.ofNat) → Calls Try.prog 15 #[.slice b t c, .slice b' t c'] w fun e W' => e = .returned (.bool true) ∧ Below w.heap.size w W') := Go.Lib.hid fun w b c b' c' h h' => by
    have h1 := h.take t ht
    rw [map_take] at h1
    have := KtSame_ok w b t c _ h1 b' t c' _ h'
    simpa using this
  have ck := Go.Lib.hid fun w => RdCheck_any w Et.k0 Et.k1 Et.s0 Et.s1 (du_wf hEtok).1 (du_wf hEtok).2.1 (du_wf hEtok).2.2.1 (du_wf hEtok).2.2.2 0 (.inl ⟨du_ok hEtok, rfl⟩)
  have lng := Go.Lib.hid fun w (E : Du) (v : Nat) (hE : E.ok) (hv : v < 4294967296) => DLength_ok w E v hE hv
  have lrn := Go.Lib.hid fun w (E : Du) (v : Nat) (hE : E.ok) (hv : v < 4294967296) => DLearn_ok w E v hE hv
  unfold ResI at ea et
  unfold ResA at af
  have hWE0 := Go.Lib.hid (Below.refl W.heap.size W)
  have RE0_l := Go.Lib.hid hr
  have d1 : ¬ (150 : Int) < ll := by omega
  have d2 : ¬ (t : Int) < 0 := by omega
  have d3 : ¬ (ll : Int) < t := by omega
  have hllI : (ll : Int) ≤ 150 := by omega
  have htc : t ≤ cl := by omega
  have hsl : Hid (∀ k, (Z.take k).sum ≤ 81 * m.length) := Go.Lib.hid fun k => by rw [hZ]; exact sum_lens m hm32 k
  have hml : Hid (∀ k, k < ll → l.getD k 0 = ((m.getD k 0 : Nat) : Int)) := Go.Lib.hid fun k hk => by rw [hlm]; exact natsD m (by omega)
  have h32 : Hid (∀ k, k < ll → m.getD k 0 < 4294967296) := Go.Lib.hid fun k hk => hm32 _ (by rw [show m.getD k 0 = m[k] by simp [List.getD, show k < m.length by omega]]; exact List.getElem_mem _)
  have hev : Hid (∀ k, (after dStart (m.take k)).ok) := Go.Lib.hid fun k => after_ok _ dStart_ok (t32 k)
  have hzg : Hid (∀ k, k < ll → Z.getD k 0 = dualLen (after dStart (m.take k)) (m.getD k 0)) := Go.Lib.hid fun k hk => by rw [hZ]; exact lens_get m dStart (by omega)
  have hm' := Go.Lib.hid hm
  have hLl' := Go.Lib.hid hLl
  have hN' := Go.Lib.hid hN
  have hNt' := Go.Lib.hid hNt
  have hEt' := Go.Lib.hid hEt
  have hZt' := Go.Lib.hid hZt
  clear hr hlm hm hm32 hZ hN hNt hEt hLl hlt2 lt_ t32 hEtok hZt
  go_enter Try.func7, Try.ntmps7
  go_upto_region 11 with (first
    | (go_at_call 11; ((with_reducible refine (le.out _ ?h1).mono ?_)); (case h1 => exact RE0_l.out); rintro e w1 ⟨rfl, hb1⟩; have hWE1 := Go.Lib.hid hWE0.out; have hW1 := Go.Lib.hid (hWE1.out.trans (hb1.mono hWE1.out.size)); have R1_l := Go.Lib.hid (RE0_l.out.below hb1 (Nat.le_refl _)); clear hb1)
    | (go_at_call 11; ((with_reducible refine (lt.out _ ?h1).mono ?_)); (case h1 => exact R1_l.out); rintro e w2 ⟨rfl, hb2⟩; have hWE2 := Go.Lib.hid hW1.out; have hW2 := Go.Lib.hid (hWE2.out.trans (hb2.mono hWE2.out.size)); have R2_l := Go.Lib.hid (R1_l.out.below hb2 (Nat.le_refl _)); clear hb2)
    | (go_at_call 10; ((with_reducible refine (ea.out _ ?h1).mono ?_)); (case h1 => exact R2_l.out); rintro e w3 ⟨b3, cp3, rfl, hr3, hb3⟩; have hWE3 := Go.Lib.hid hW2.out; have hW3 := Go.Lib.hid (hWE3.out.trans (hb3.mono hWE3.out.size)); have R3_l := Go.Lib.hid (R2_l.out.below hb3 (Nat.le_refl _)); have R3_e := Go.Lib.hid hr3; clear hr3; clear hb3)
    | (go_at_call 10; ((with_reducible refine (et.out _ ?h1).mono ?_)); (case h1 => exact R3_l.out); rintro e w4 ⟨b4, cp4, rfl, hr4, hb4⟩; have hWE4 := Go.Lib.hid hW3.out; have hW4 := Go.Lib.hid (hWE4.out.trans (hb4.mono hWE4.out.size)); have R4_l := Go.Lib.hid (R3_l.out.below hb4 (Nat.le_refl _)); have R4_e := Go.Lib.hid (R3_e.out.below hb4 (Nat.le_refl _)); have R4_f := Go.Lib.hid hr4; clear hr4; clear hb4)
    | (go_at_call 26; ((with_reducible refine (af.out _ ?h1).mono ?_)); (case h1 => exact R4_l.out); rintro e w5 ⟨rfl, hb5⟩; have hWE5 := Go.Lib.hid hW4.out; have hW5 := Go.Lib.hid (hWE5.out.trans (hb5.mono hWE5.out.size)); have R5_l := Go.Lib.hid (R4_l.out.below hb5 (Nat.le_refl _)); have R5_e := Go.Lib.hid (R4_e.out.below hb5 (Nat.le_refl _)); have R5_f := Go.Lib.hid (R4_f.out.below hb5 (Nat.le_refl _)); have hcp5 : ll ≤ cp3 := R3_e.out.hcap; clear hb5)
    | (go_at_call 15; ((with_reducible refine (sm.out _ _ _ _ _ ?h1 ?h2).mono ?_)); (case h1 => exact (R5_e.out.below (below1 w5 (.cells #[.int .i64 Et.k0, .int .i64 Et.k1, .int .u64 Et.s0, .int .u64 Et.s1] 52)) (Nat.le_refl _))); (case h2 => exact (R5_f.out.below (below1 w5 (.cells #[.int .i64 Et.k0, .int .i64 Et.k1, .int .u64 Et.s0, .int .u64 Et.s1] 52)) (Nat.le_refl _))); rintro e w6 ⟨rfl, hb6⟩; have hWE6 := Go.Lib.hid (hW5.out.alloc hW5.out.size (.cells #[.int .i64 Et.k0, .int .i64 Et.k1, .int .u64 Et.s0, .int .u64 Et.s1] 52)); have hW6 := Go.Lib.hid (hWE6.out.trans (hb6.mono hWE6.out.size)); have R6_l := Go.Lib.hid ((R5_l.out.below (below1 w5 (.cells #[.int .i64 Et.k0, .int .i64 Et.k1, .int .u64 Et.s0, .int .u64 Et.s1] 52)) (Nat.le_refl _)).below hb6 (Nat.le_refl _)); have R6_e := Go.Lib.hid ((R5_e.out.below (below1 w5 (.cells #[.int .i64 Et.k0, .int .i64 Et.k1, .int .u64 Et.s0, .int .u64 Et.s1] 52)) (Nat.le_refl _)).below hb6 (Nat.le_refl _)); have R6_f := Go.Lib.hid ((R5_f.out.below (below1 w5 (.cells #[.int .i64 Et.k0, .int .i64 Et.k1, .int .u64 Et.s0, .int .u64 Et.s1] 52)) (Nat.le_refl _)).below hb6 (Nat.le_refl _)); have BE6_d := Go.Lib.hid (duat1 w5 Et.k0 Et.k1 Et.s0 Et.s1); have B6_d := Go.Lib.hid (BE6_d.out.below hb6 BE6_d.out.lt); obtain ⟨k6d0, k6d1, k6d2, k6d3, k6d4, k6d5, k6d6, k6d7⟩ := B6_d.out.cells; have Q6 := Go.Lib.hid ((below1 w5 (.cells #[.int .i64 Et.k0, .int .i64 Et.k1, .int .u64 Et.s0, .int .u64 Et.s1] 52)).trans (hb6.mono (by simp))); clear hb6)
    | (go_at_call 27; ((with_reducible refine (ck.out _).mono ?_)); rintro e w7 ⟨rfl, hb7⟩; have hWE7 := Go.Lib.hid hW6.out; have hW7 := Go.Lib.hid (hWE7.out.trans (hb7.mono hWE7.out.size)); have R7_l := Go.Lib.hid (R6_l.out.below hb7 (Nat.le_refl _)); have R7_e := Go.Lib.hid (R6_e.out.below hb7 (Nat.le_refl _)); have R7_f := Go.Lib.hid (R6_f.out.below hb7 (Nat.le_refl _)); have BE7_d := Go.Lib.hid B6_d.out; have B7_d := Go.Lib.hid (BE7_d.out.below hb7 BE7_d.out.lt); obtain ⟨k7d0, k7d1, k7d2, k7d3, k7d4, k7d5, k7d6, k7d7⟩ := B7_d.out.cells; have Q7 := Go.Lib.hid (Q6.out.trans (hb7.mono Q6.out.size)); clear hb7))
  obtain ⟨xd, hxd⟩ : ∃ x, x = w5.heap.size := ⟨_, rfl⟩
  have D7 := Go.Lib.hid (show DuAt w7 xd (Et.k0 : Nat) (Et.k1 : Nat) (Et.s0 : Nat) (Et.s1 : Nat) by rw [hxd]; exact B7_d.out)
  have sxd : w5.heap.size ≤ xd := by rw [hxd]; exact Nat.le_refl _
  try rw [← hxd]
  clear hxd k6d0 k6d1 k6d2 k6d3 k6d4 k6d5 k6d6 k6d7 k7d0 k7d1 k7d2 k7d3 k7d4 k7d5 k7d6 k7d7 hWE0 hWE1 hWE2 hWE3 hWE4 hWE5 hWE6 hWE7 hW1 hW2 hW3 hW4 hW6 hW7 RE0_l R1_l R2_l R3_l R4_l R6_l R7_l R3_e R4_e R6_e R7_e R4_f R5_f R6_f R7_f BE6_d BE7_d B6_d B7_d Q6 le lt ea et af sm ck
  go_loopg [7, 15] (ll - t) (fun g n i wr => ∃ k : Nat, t ≤ k ∧ k ≤ ll ∧ g = ll - k ∧ i = .int .i64 k ∧ n = .int .i64 ((Z.take k).sum : Nat) ∧ Below w5.heap.size w5 wr ∧ DuAt wr xd ((after dStart (m.take k)).k0 : Nat) ((after dStart (m.take k)).k1 : Nat) ((after dStart (m.take k)).s0 : Nat) ((after dStart (m.take k)).s1 : Nat))
  case atStart =>
    refine ⟨t, Nat.le_refl _, ht, rfl, rfl, by rw [← hNt'.out], Q7.out, ?_⟩
    rw [← hEt'.out]; exact D7.out
  case round =>
  obtain ⟨k, htk, hk, hg, rfl, rfl, hB, hd⟩ := hrel
  have hgo := Go.Lib.hid hg
  obtain ⟨w8, hw8⟩ : ∃ w, w = wr := ⟨_, rfl⟩
  subst hw8
  clear hg D7
  by_cases hlt : k < ll
  · have hlt' : (k : Int) < ll := by omega
    have hkm : k < m.length := by rw [hm'.out]; exact hlt
    have hats := after_take_succ m dStart hkm
    have hmk := hml.out k hlt
    have hn32 := h32.out k hlt
    have hEok := hev.out k
    have hzk := hzg.out k hlt
    have hsn := sum_snoc Z (show k < Z.length by rw [hLl'.out]; exact hlt)
    have hs1 := hsl.out (k + 1)
    rw [hm'.out] at hs1
    obtain ⟨E, hE⟩ : ∃ E, E = after dStart (m.take k) := ⟨_, rfl⟩
    obtain ⟨num, hnum⟩ : ∃ v, v = m.getD k 0 := ⟨_, rfl⟩
    rw [← hE] at hd hats hEok hzk
    rw [← hnum] at hats hmk hn32 hzk
    obtain ⟨E2, hE2⟩ : ∃ E', E' = learnD E num := ⟨_, rfl⟩
    rw [← hE2] at hats
    obtain ⟨dl, hdl⟩ : ∃ x, x = dualLen E num := ⟨_, rfl⟩
    rw [← hdl] at hzk
    rw [hzk] at hsn
    have lng' : Hid (∀ w, Calls Try.prog 28 #[.agg #[.int .i64 E.k0, .int .i64 E.k1, .int .u64 E.s0, .int .u64 E.s1], .int .u32 num] w fun e W' => e = .returned (.tuple #[.int .i64 dl, .int .i64 0]) ∧ Below w.heap.size w W') := Go.Lib.hid fun w => by rw [hdl]; exact lng.out w E num hEok hn32
    have lrn' : Hid (∀ w, Calls Try.prog 29 #[.agg #[.int .i64 E.k0, .int .i64 E.k1, .int .u64 E.s0, .int .u64 E.s1], .int .u32 num] w fun e W' => e = .returned (.tuple #[.agg #[.int .i64 E2.k0, .int .i64 E2.k1, .int .u64 E2.s0, .int .u64 E2.s1], .int .i64 0]) ∧ Below w.heap.size w W') := Go.Lib.hid fun w => by rw [hE2]; exact lrn.out w E num hEok hn32
    have hats2 := Go.Lib.hid hats
    obtain ⟨bl, ol, rfl, hblt, hc⟩ := R5_l.out.cells (by omega)
    have hcell := hc k hlt
    rw [hmk] at hcell
    obtain ⟨eb, eo, rfl, heb, hec⟩ := R5_e.out.cells (by omega)
    have hecell := hec k hlt
    rw [show (Z.map Int.ofNat).getD k 0 = (dl : Int) by rw [natsD Z (by rw [hLl'.out]; exact hlt), hzk]] at hecell
    have hcell' := Go.Lib.hid hcell
    have hecell' := Go.Lib.hid hecell
    obtain ⟨s, hs⟩ : ∃ s, s = (Z.take k).sum := ⟨_, rfl⟩
    obtain ⟨tt, htt⟩ : ∃ t, t = (Z.take (k + 1)).sum := ⟨_, rfl⟩
    rw [← hs, ← htt] at hsn
    rw [← htt] at hs1
    rw [← hs]
    have htt' := Go.Lib.hid htt
    have hadd : (s : Int) + (dl : Int) = (tt : Int) := by omega
    have htI : (tt : Int) ≤ 12150 := by omega
    have hn32I : (num : Int) ≤ 4294967295 := by omega
    have hd8 := Go.Lib.hid hd
    have hB8 := Go.Lib.hid hB
    have ltd := hd.lt
    clear hats hmk hE hEok hnum hE2 hdl hc hec hkm hzk hsn hs1 hs htt hcell hecell hd hB hn32
    go_upto_region 13 with (fail)
    refine wp_region_ord (fun w' => Below w8.heap.size w8 w') [(1, 0), (2, 0), (3, 0), (0, 2), (4, 2), (5, 4), (6, 0), (7, 0), (8, 0), (9, 0), (10, 0)] (by kernel_rfl) (by kernel_rfl) ?hC0 ?_
    case hC0 => exact (Below.refl _ _).drew
    simp only [pick, nth]
    refine wpW_name ?_
    intro q0 hq0
    have hB0 : Below w8.heap.size w8 q0 := by rw [hq0]; exact (Below.refl _ _).drew
    clear hq0
    (repeat (first | (apply wpW_light; (case h => (intro wa; (first | (go_big_quiet_skip; exact wpQuiet_nil rfl) | (go_big_quiet_want; go_big_quiet_op; go_big_quiet_on; exact wpQuiet_nil rfl))))) | (apply wpW_here; (case h => (first | (go_big_quiet_skip; exact wpQuiet_nil rfl) | (go_big_quiet_want; go_big_quiet_op; go_big_quiet_on; exact wpQuiet_nil rfl)))) | (apply wpW_held; (case hC => assumption); (case h => (intro wa hCa; (obtain ⟨v0, v1, v2, v3, v4, v5, v6, v7⟩ := (hd8.out.below hCa ltd).cells; have hca := (Below.cell (hB8.out.trans (hCa.mono hB8.out.size)) (p := ⟨bl, ol + k, none⟩) hblt).trans hcell'.out; clear hCa); (first | (go_big_quiet_skip; exact wpQuiet_nil rfl) | (go_big_quiet_want; go_big_quiet_op; go_big_quiet_on; exact wpQuiet_nil rfl)))))))
    refine wpW_last (fun QQ hQQ => ?_) (by rfl)
    go_wp2_with (go_at_call 28; with_reducible refine (lng'.out _).mono ?_; rintro e q1 ⟨rfl, hs⟩; have hB1 := hB0.trans (hs.mono hB0.size))
    (refine hQQ.out _ _ ?_; clear hQQ QQ)
    clear hs
    (repeat (first | (apply wpW_light; (case h => (intro wa; (first | (go_big_quiet_skip; exact wpQuiet_nil rfl) | (go_big_quiet_want; go_big_quiet_op; go_big_quiet_on; exact wpQuiet_nil rfl))))) | (apply wpW_here; (case h => (first | (go_big_quiet_skip; exact wpQuiet_nil rfl) | (go_big_quiet_want; go_big_quiet_op; go_big_quiet_on; exact wpQuiet_nil rfl)))) | (apply wpW_held; (case hC => assumption); (case h => (intro wa hCa; simp only [] at hCa; (first | (go_big_quiet_skip; exact wpQuiet_nil rfl) | (go_big_quiet_want; go_big_quiet_op; go_big_quiet_on; exact wpQuiet_nil rfl)))))))
    refine wpW_nil ?_
    have hd9 := Go.Lib.hid (hd8.out.below hB1 ltd)
    have hB9 := Go.Lib.hid (hB8.out.trans (hB1.mono hB8.out.size))
    obtain ⟨w9, hw9⟩ : ∃ w, w = q1 := ⟨_, rfl⟩
    subst hw9
    have ltd9 := hd9.out.lt
    clear hB1 hB0 hd8 hB8
    go_upto_region 14 with (fail)
    go_cut [18, 19] (fun s18 s19 wx => ∃ x18 : Nat, s18 = .pointer (some ⟨x18, 0, none⟩) ∧ s19 = .int .i64 0 ∧ w9.heap.size ≤ x18 ∧ Below w9.heap.size w9 wx ∧ DuAt wx x18 (E2.k0 : Int) (E2.k1 : Int) (E2.s0 : Int) (E2.s1 : Int))
    case first =>
      refine wp_region_ord2 (fun w' => Below w9.heap.size w9 w') 5 9 [(1, 0), (2, 0), (3, 0), (0, 2), (4, 2), (5, 4), (6, 0), (7, 0), (8, 0), (9, 4), (10, 4), (11, 0)] [(1, 0), (2, 0), (3, 0), (0, 2), (4, 2), (9, 3), (5, 4), (6, 0), (7, 0), (8, 0), (10, 4), (11, 0)] (by kernel_rfl) (by decide) (by kernel_rfl) (by kernel_rfl) ?hC0 ?_ ?_
      case hC0 => exact (Below.refl _ _).drew
      · simp only [pick, nth]
        refine wpW_name ?_
        intro q0 hq0
        have hB0 : Below w9.heap.size w9 q0 := by rw [hq0]; exact (Below.refl _ _).drew
        clear hq0
        (repeat (first | (apply wpW_light; (case h => (intro wa; (first | (go_big_quiet_skip; exact wpQuiet_nil rfl) | (go_big_quiet_want; go_big_quiet_op; go_big_quiet_on; exact wpQuiet_nil rfl))))) | (apply wpW_here; (case h => (first | (go_big_quiet_skip; exact wpQuiet_nil rfl) | (go_big_quiet_want; go_big_quiet_op; go_big_quiet_on; exact wpQuiet_nil rfl)))) | (apply wpW_held; (case hC => assumption); (case h => (intro wa hCa; (obtain ⟨v0, v1, v2, v3, v4, v5, v6, v7⟩ := (hd9.out.below hCa ltd9).cells; have hca := (Below.cell (hB9.out.trans (hCa.mono hB9.out.size)) (p := ⟨bl, ol + k, none⟩) hblt).trans hcell'.out; clear hCa); (first | (go_big_quiet_skip; exact wpQuiet_nil rfl) | (go_big_quiet_want; go_big_quiet_op; go_big_quiet_on; exact wpQuiet_nil rfl)))))))
        refine wpW_last (fun QQ hQQ => ?_) (by rfl)
        go_wp2_with (go_at_call 29; with_reducible refine (lrn'.out _).mono ?_; rintro e q1 ⟨rfl, hs⟩; have hB1 := hB0.trans (hs.mono hB0.size))
        (refine hQQ.out _ _ ?_; clear hQQ QQ)
        clear hs
        (repeat (first | (apply wpW_light; (case h => (intro wa; (first | (go_big_quiet_skip; exact wpQuiet_nil rfl) | (go_big_quiet_want; go_big_quiet_op; go_big_quiet_on; exact wpQuiet_nil rfl))))) | (apply wpW_here; (case h => (first | (go_big_quiet_skip; exact wpQuiet_nil rfl) | (go_big_quiet_want; go_big_quiet_op; go_big_quiet_on; exact wpQuiet_nil rfl)))) | (apply wpW_held; (case hC => assumption); (case h => (intro wa hCa; simp only [] at hCa; (first | (go_big_quiet_skip; exact wpQuiet_nil rfl) | (go_big_quiet_want; go_big_quiet_op; go_big_quiet_on; exact wpQuiet_nil rfl)))))))
        refine wpW_last (fun QQ hQQ => ?_) (by rfl)
        go_wp2
        (refine hQQ.out _ _ ?_; clear hQQ QQ)
        refine wpW_name ?_
        intro q2 hq
        have hB2 : Below w9.heap.size w9 q2 := by rw [hq]; exact hB1.alloc hB1.size _
        have gx : w9.heap.size ≤ q1.heap.size := hB1.size
        have n2x : DuAt q2 q1.heap.size 0 0 0 0 := by rw [hq]; exact duat1 q1 _ _ _ _
        clear hq
        obtain ⟨c0, c1, c2, c3, c4, c5, c6, c7⟩ := n2x.cells
        refine wpW_last (fun QQ hQQ => ?_) (by rfl)
        go_wp2
        (refine hQQ.out _ _ ?_; clear hQQ QQ)
        refine wpW_name ?_
        intro q3 hq
        have hB3 : Below w9.heap.size w9 q3 := by rw [hq]; exact (((hB2.setCell gx _).setCell gx _).setCell gx _).setCell gx _
        have n3x : DuAt q3 q1.heap.size (E2.k0 : Int) (E2.k1 : Int) (E2.s0 : Int) (E2.s1 : Int) := by rw [hq]; exact n2x.set _ _ _ _
        clear hq c0 c1 c2 c3 c4 c5 c6 c7
        (repeat (first | (apply wpW_light; (case h => (intro wa; (first | (go_big_quiet_skip; exact wpQuiet_nil rfl) | (go_big_quiet_want; go_big_quiet_op; go_big_quiet_on; exact wpQuiet_nil rfl))))) | (apply wpW_here; (case h => (first | (go_big_quiet_skip; exact wpQuiet_nil rfl) | (go_big_quiet_want; go_big_quiet_op; go_big_quiet_on; exact wpQuiet_nil rfl)))) | (apply wpW_held; (case hC => assumption); (case h => (intro wa hCa; simp only [] at hCa; (first | (go_big_quiet_skip; exact wpQuiet_nil rfl) | (go_big_quiet_want; go_big_quiet_op; go_big_quiet_on; exact wpQuiet_nil rfl)))))))
        refine wpW_nil ?_
        go_wp2_with (fail)
        go_meet
        exact ⟨_, rfl, rfl, gx, hB3, n3x⟩
      · simp only [pick, nth]
        refine wpW_name ?_
        intro q0 hq0
        have hB0 : Below w9.heap.size w9 q0 := by rw [hq0]; exact (Below.refl _ _).drew
        clear hq0
        (repeat (first | (apply wpW_light; (case h => (intro wa; (first | (go_big_quiet_skip; exact wpQuiet_nil rfl) | (go_big_quiet_want; go_big_quiet_op; go_big_quiet_on; exact wpQuiet_nil rfl))))) | (apply wpW_here; (case h => (first | (go_big_quiet_skip; exact wpQuiet_nil rfl) | (go_big_quiet_want; go_big_quiet_op; go_big_quiet_on; exact wpQuiet_nil rfl)))) | (apply wpW_held; (case hC => assumption); (case h => (intro wa hCa; (obtain ⟨v0, v1, v2, v3, v4, v5, v6, v7⟩ := (hd9.out.below hCa ltd9).cells; have hca := (Below.cell (hB9.out.trans (hCa.mono hB9.out.size)) (p := ⟨bl, ol + k, none⟩) hblt).trans hcell'.out; clear hCa); (first | (go_big_quiet_skip; exact wpQuiet_nil rfl) | (go_big_quiet_want; go_big_quiet_op; go_big_quiet_on; exact wpQuiet_nil rfl)))))))
        refine wpW_act (fun QQ hQQ => ?_) (by rfl)
        go_wp2
        (refine hQQ _ _ ?hCn ?_; (case hCn => exact hB0.alloc hB0.size _); clear hQQ QQ)
        refine wpW_name ?_
        intro q1 hq
        have hB1 : Below w9.heap.size w9 q1 := by rw [hq]; exact hB0.alloc hB0.size _
        have gx : w9.heap.size ≤ q0.heap.size := hB0.size
        have n1x : DuAt q1 q0.heap.size 0 0 0 0 := by rw [hq]; exact duat1 q0 _ _ _ _
        clear hq
        refine wpW_last (fun QQ hQQ => ?_) (by rfl)
        go_wp2_with (go_at_call 29; with_reducible refine (lrn'.out _).mono ?_; rintro e q2 ⟨rfl, hs⟩; have hB2 := hB1.trans (hs.mono hB1.size))
        (refine hQQ.out _ _ ?_; clear hQQ QQ)
        have n2x := n1x.below hs n1x.lt
        clear hs
        (repeat (first | (apply wpW_light; (case h => (intro wa; (first | (go_big_quiet_skip; exact wpQuiet_nil rfl) | (go_big_quiet_want; go_big_quiet_op; go_big_quiet_on; exact wpQuiet_nil rfl))))) | (apply wpW_here; (case h => (first | (go_big_quiet_skip; exact wpQuiet_nil rfl) | (go_big_quiet_want; go_big_quiet_op; go_big_quiet_on; exact wpQuiet_nil rfl)))) | (apply wpW_held; (case hC => assumption); (case h => (intro wa hCa; simp only [] at hCa; (first | (go_big_quiet_skip; exact wpQuiet_nil rfl) | (go_big_quiet_want; go_big_quiet_op; go_big_quiet_on; exact wpQuiet_nil rfl)))))))
        obtain ⟨c0, c1, c2, c3, c4, c5, c6, c7⟩ := n2x.cells
        refine wpW_last (fun QQ hQQ => ?_) (by rfl)
        go_wp2
        (refine hQQ.out _ _ ?_; clear hQQ QQ)
        refine wpW_name ?_
        intro q3 hq
        have hB3 : Below w9.heap.size w9 q3 := by rw [hq]; exact (((hB2.setCell gx _).setCell gx _).setCell gx _).setCell gx _
        have n3x : DuAt q3 q0.heap.size (E2.k0 : Int) (E2.k1 : Int) (E2.s0 : Int) (E2.s1 : Int) := by rw [hq]; exact n2x.set _ _ _ _
        clear hq c0 c1 c2 c3 c4 c5 c6 c7
        (repeat (first | (apply wpW_light; (case h => (intro wa; (first | (go_big_quiet_skip; exact wpQuiet_nil rfl) | (go_big_quiet_want; go_big_quiet_op; go_big_quiet_on; exact wpQuiet_nil rfl))))) | (apply wpW_here; (case h => (first | (go_big_quiet_skip; exact wpQuiet_nil rfl) | (go_big_quiet_want; go_big_quiet_op; go_big_quiet_on; exact wpQuiet_nil rfl)))) | (apply wpW_held; (case hC => assumption); (case h => (intro wa hCa; simp only [] at hCa; (first | (go_big_quiet_skip; exact wpQuiet_nil rfl) | (go_big_quiet_want; go_big_quiet_op; go_big_quiet_on; exact wpQuiet_nil rfl)))))))
        refine wpW_nil ?_
        go_wp2_with (fail)
        go_meet
        exact ⟨_, rfl, rfl, gx, hB3, n3x⟩
    case rest =>
    obtain ⟨x18, rfl, rfl, gx, hB, hx18⟩ := hcut
    obtain ⟨wa, hwa⟩ : ∃ w, w = wc := ⟨_, rfl⟩
    subst hwa
    have hda := hd9.out.below hB ltd9
    have hBa := Go.Lib.hid (hB9.out.trans (hB.mono hB9.out.size))
    have hne : xd ≠ x18 := by omega
    have hda' := Go.Lib.hid hda
    have hecell := (Below.cell hBa.out (p := ⟨eb, eo + k, none⟩) heb).trans hecell'.out
    obtain ⟨f0, f1, f2, f3, f4, f5, f6, f7⟩ := hda.cells
    obtain ⟨g0, g1, g2, g3, g4, g5, g6, g7⟩ := hx18.cells
    clear hda hB hx18 hd9 hB9
    go_wp2
    go_roundg (ll - (k + 1))
    case measure => (have hgk := hgo.out; omega)
    case rel =>
      refine ⟨k + 1, by omega, by omega, rfl, by go_num, by rw [← htt'.out], outp hBa.out sxd, ?_⟩
      rw [hats2.out]
      exact hda'.out.set E2.k0 E2.k1 E2.s0 E2.s1
  · obtain rfl : k = ll := by omega
    have hlt' : ¬ (k : Int) < k := by omega
    rw [hZt'.out, ← hN'.out]
    have hBw := Go.Lib.hid (hW5.out.trans (hB.mono hW5.out.size))
    clear hB hd
    go_wp2_with (go_at_call 16; refine (alive12_ok _).mono ?_; rintro e wz ⟨rfl, hb⟩; have hWZ := Go.Lib.hid (hBw.out.trans (hb.mono hBw.out.size)); clear hb)
    go_ret
    exact ⟨by simp, hWZ.out⟩

theorem tallyParts_walk (ax0 : Option Addr) (lenx0 capx0 : Nat) (zx0 : List Int) (x1 : Int) (W : World) (wx0 : IsRow .u32 W ax0 lenx0 capx0 zx0) (wx1 : (Lit.int .i64 x1).wf = true) :
    Calls Try.prog 7 #[.slice ax0 lenx0 capx0, .int .i64 x1] W fun e w' => e = .returned (.bool true) ∧ Below W.heap.size W w' := by
  have hr := Row.of_isRow wx0
  have hm := Nat.le_trans hr.hcap hr.hmax
  unfold maxLen at hm
  by_cases h1 : (150 : Int) < lenx0
  · exact tallyParts_out W _ _ _ _ (by omega) (.inl h1)
  by_cases h2 : x1 < 0
  · exact tallyParts_out W _ _ _ _ (by omega) (.inr (.inl ⟨h1, h2⟩))
  by_cases h3 : (lenx0 : Int) < x1
  · exact tallyParts_out W _ _ _ _ (by omega) (.inr (.inr ⟨h1, h2, h3⟩))
  obtain ⟨m, h4, h5⟩ := nats_of hr.wf
  obtain ⟨t, rfl⟩ : ∃ t : Nat, x1 = t := ⟨x1.toNat, by omega⟩
  exact tallyParts_in W _ _ _ _ m t hr (by omega) h4 (by rw [← hr.hlen, h4, List.length_map]) h5 (by omega)
end Go.Proofs.Ythbjcjphplgobaa
