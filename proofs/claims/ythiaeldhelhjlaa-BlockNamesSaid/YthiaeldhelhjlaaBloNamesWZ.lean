/- BlockNames: the chapter's examples, limits and errors. -/
import Derived.Test.YthiaeldhelhjlaaZ6

namespace Go.Proofs.Ythiaeldhelhjlaa
open Go.RowKit Cad

theorem zeros_wf (n : Nat) : ∀ x ∈ List.replicate n (0 : Int), (Lit.int .u8 x).wf = true := fun x hx => by rw [(List.mem_replicate.1 hx).2]; decide
theorem zeros_valid {n N : Nat} (h : N = 8 * n) (hN : N ≤ 330000) : Valid (List.replicate n (0 : Int)) (N : Int) := by
  refine ⟨unpack (List.replicate n 0) N, by rw [unpack_len], by rw [unpack_len]; exact hN, (pack_unpack (fun x hx => ?_) (by rw [List.length_replicate]; omega) fun i h1 h2 => by rw [List.length_replicate] at h2; omega).symm⟩
  rw [(List.mem_replicate.1 hx).2]; decide
theorem one_not : ¬ rightB [0, 0, 0, 1] := by decide +kernel
theorem four_right : rightB (List.replicate 4 0) := by decide +kernel
theorem valid_three : Valid [0] 3 := ⟨numB 0 3, by decide, by decide, by decide +kernel⟩

set_option maxRecDepth 100000 in
set_option maxHeartbeats 8000000 in
theorem blockNames_in (W : World) (n3 na nb n4 nc N : Nat) (hn3 : (3 : Int) = n3) (hna : (41255 : Int) = na) (hnb : (41254 : Int) = nb) (hn4 : (4 : Int) = n4) (hnc : (41250 : Int) = nc) (hN : N = 330000) (hz : ¬ rightB (List.replicate nb 0)) :
    Calls Try.prog 3 #[] W fun e w' => e = .returned (.bool true) ∧ Below W.heap.size W w' := by
  have gn3 : n3 ≤ 17592186044416 := by omega
  have gna : na ≤ 17592186044416 := by omega
  have gnb : nb ≤ 17592186044416 := by omega
  have gn4 : n4 ≤ 17592186044416 := by omega
  have gnc : nc ≤ 17592186044416 := by omega
  have z1 : Hid (∀ w, Calls Try.prog 10 #[.int .i64 (-1)] w fun r W' => r = .returned (.tuple #[.int .i64 0, .int .i64 2]) ∧ Below w.heap.size w W') := Go.Lib.hid fun w => KSize_no w (-1) (.inl (by decide))
  have z2 : Hid (∀ w, Calls Try.prog 10 #[.int .i64 330001] w fun r W' => r = .returned (.tuple #[.int .i64 0, .int .i64 2]) ∧ Below w.heap.size w W') := Go.Lib.hid fun w => KSize_no w 330001 (.inr (by decide))
  have z3 : Hid (∀ w, Calls Try.prog 10 #[.int .i64 330000] w fun r W' => r = .returned (.tuple #[.int .i64 41254, .int .i64 0]) ∧ Below w.heap.size w W') := Go.Lib.hid fun w => (KSize_ok w 330000 (by decide)).mono fun _ _ ⟨e, h⟩ => ⟨e, h⟩
  have z4 : Hid (∀ w, Calls Try.prog 10 #[.int .i64 0] w fun r W' => r = .returned (.tuple #[.int .i64 4, .int .i64 0]) ∧ Below w.heap.size w W') := Go.Lib.hid fun w => (KSize_ok w 0 (by decide)).mono fun _ _ ⟨e, h⟩ => ⟨e, h⟩
  have z5 : Hid (∀ w, Calls Try.prog 10 #[.int .i64 1] w fun r W' => r = .returned (.tuple #[.int .i64 5, .int .i64 0]) ∧ Below w.heap.size w W') := Go.Lib.hid fun w => (KSize_ok w 1 (by decide)).mono fun _ _ ⟨e, h⟩ => ⟨e, h⟩
  have p6 : Hid (∀ w, Calls Try.prog 11 #[.agg #[.slice none 0 0, .int .i64 1]] w fun r W' => ∃ a c, r = .returned (.tuple #[.slice a 0 c, .int .i64 8]) ∧ Below w.heap.size w W') := Go.Lib.hid fun w => by
    have hv1 : ¬ Valid [] 1 := fun h => by have := h.n; simp at this
    exact (KPack_bad w none 0 0 1 [] (Row.nil_row _ _) (by decide) hv1).mono fun _ _ ⟨a, c, e, _, hb⟩ => ⟨a, c, e, hb⟩
  have u7 : Hid (∀ w b c, Row .u8 w b n3 c (List.replicate n3 0) → Calls Try.prog 12 #[.slice b n3 c] w fun r W' => ∃ b' c', r = .returned (.tuple #[.agg #[.slice b' 0 c', .int .i64 0], .int .i64 24]) ∧ Below w.heap.size w W') := Go.Lib.hid fun w b c h => by
    have := KUnpack_short w b n3 c _ h (by omega)
    exact this.mono fun _ _ ⟨b', c', e, _, hb⟩ => ⟨b', c', e, hb⟩
  have u8 : Hid (∀ w b c, Row .u8 w b na c (List.replicate na 0) → Calls Try.prog 12 #[.slice b na c] w fun r W' => ∃ b' c', r = .returned (.tuple #[.agg #[.slice b' 0 c', .int .i64 0], .int .i64 4]) ∧ Below w.heap.size w W') := Go.Lib.hid fun w b c h => by
    have := KUnpack_many w b na c _ h (by omega) (by omega)
    exact this.mono fun _ _ ⟨b', c', e, _, hb⟩ => ⟨b', c', e, hb⟩
  have u9 : Hid (∀ w b c, Row .u8 w b nb c (List.replicate nb 0) → Calls Try.prog 12 #[.slice b nb c] w fun r W' => ∃ b' c', r = .returned (.tuple #[.agg #[.slice b' 0 c', .int .i64 0], .int .i64 22]) ∧ Below w.heap.size w W') := Go.Lib.hid fun w b c h => by
    have := KUnpack_no w b nb c _ h (by omega) (by omega) hz
    exact this.mono fun _ _ ⟨b', c', e, _, hb⟩ => ⟨b', c', e, hb⟩
  have u10 : Hid (∀ w b c, Row .u8 w b n4 c (List.replicate n4 0) → Calls Try.prog 12 #[.slice b n4 c] w fun r W' => ∃ b' c', r = .returned (.tuple #[.agg #[.slice b' 0 c', .int .i64 0], .int .i64 0]) ∧ Below w.heap.size w W') := Go.Lib.hid fun w b c h => by
    obtain rfl : n4 = 4 := by omega
    exact (KUnpack_ok w b 4 c _ h (by decide) four_right).mono fun _ _ ⟨b', c', e, _, hb⟩ => ⟨b', c', e, hb⟩
  have u11 : Hid (∀ (w : World) (x : Nat), x = w.heap.size → Calls Try.prog 12 #[.slice (some ⟨x, 0, none⟩) 4 4] (w.alloc (.cells #[.int .u8 0, .int .u8 0, .int .u8 0, .int .u8 1] 5)) fun r W' => ∃ b' c', r = .returned (.tuple #[.agg #[.slice b' 0 c', .int .i64 0], .int .i64 22]) ∧ Below w.heap.size w W') := Go.Lib.hid fun w x hx => by
    subst hx
    have := KUnpack_no _ (some ⟨w.heap.size, 0, none⟩) 4 4 [0, 0, 0, 1] (lit_row w [0, 0, 0, 1] 4 (0, 0) rfl (by decide) (by decide)) (by decide) (by decide) one_not
    exact this.mono fun _ _ ⟨b', c', e, _, hb⟩ => ⟨b', c', e, (below1 w _).trans (hb.mono (by simp))⟩
  obtain ⟨zs, hzs⟩ : ∃ z, z = List.replicate nc (0 : Int) := ⟨_, rfl⟩
  have o12 : Hid (∀ w b c, Row .u8 w b nc c (List.replicate nc 0) → Calls Try.prog 13 #[.slice b nc c] w fun r W' => ∃ b' c', r = .returned (.tuple #[.agg #[.slice b' nc c', .int .i64 330000], .int .i64 0]) ∧ Row .u8 W' b' nc c' zs ∧ Below w.heap.size w W') := Go.Lib.hid fun w b c h => by
    refine (BOf_ok w b nc c _ h (by omega)).mono ?_
    rintro e W' ⟨v', rfl, ho, hb⟩
    obtain ⟨b', c', rfl⟩ := own_form ho
    rw [← hzs] at ho
    exact ⟨b', c', by rw [show 8 * (nc : Int) = 330000 by omega], Row.of_own ho (by rw [hzs]; exact zeros_wf nc), hb⟩
  obtain ⟨K, hK⟩ : ∃ K, K = nc + 4 := ⟨_, rfl⟩
  obtain ⟨X, hX⟩ : ∃ X, X = sealB zs := ⟨_, rfl⟩
  have p13 : Hid (∀ w b c, Row .u8 w b nc c zs → Calls Try.prog 11 #[.agg #[.slice b nc c, .int .i64 330000]] w fun r W' => ∃ a c, r = .returned (.tuple #[.slice a K c, .int .i64 0]) ∧ Row .u8 W' a K c X ∧ Below w.heap.size w W') := Go.Lib.hid fun w b c h => by
    have hv : Valid zs (N : Int) := by rw [hzs]; exact zeros_valid (by omega) (by omega)
    have := KPack_ok w b nc c N zs h (bounds_of_len (by omega)) hv
    unfold ResP at this
    rw [← hK, ← hX, hN] at this
    exact this
  have u14 : Hid (∀ w b c, Row .u8 w b K c X → Calls Try.prog 12 #[.slice b K c] w fun r W' => ∃ b' c', r = .returned (.tuple #[.agg #[.slice b' nc c', .int .i64 330000], .int .i64 0]) ∧ Below w.heap.size w W') := Go.Lib.hid fun w b c h => by
    have hrt : rightB X := by rw [hX]; exact right_seal zs
    have := KUnpack_ok w b K c X h (by omega) hrt
    unfold ResU at this
    rw [show K - 4 = nc by omega, show 8 * nc = N by omega, hN] at this
    exact this.mono fun _ _ ⟨b', c', e, _, hb⟩ => ⟨b', c', e, hb⟩
  have p15 : Hid (∀ (w : World) (x : Nat), x = w.heap.size → Calls Try.prog 11 #[.agg #[.slice (some ⟨x, 0, none⟩) 1 1, .int .i64 3]] (w.alloc (.cells #[.int .u8 0] 5)) fun r W' => ∃ a c, r = .returned (.tuple #[.slice a 5 c, .int .i64 0]) ∧ Row .u8 W' a 5 c [0, 141, 239, 2, 210] ∧ Below w.heap.size w W') := Go.Lib.hid fun w x hx => by
    subst hx
    have := KPack_ok (w.alloc (.cells #[.int .u8 0] 5)) (some ⟨w.heap.size, 0, none⟩) 1 1 3 [0] (lit_row w [0] 1 (0, 0) rfl (by decide) (by decide)) (by decide) valid_three
    rw [seal_one] at this
    refine this.mono ?_
    rintro e w' ⟨a, c, rfl, h1, h2⟩
    exact ⟨a, c, rfl, h1, (below1 w _).trans (h2.mono (by simp))⟩
  have s1 := str_one
  have hKI : ((K : Int) == 41254) = true := by rw [beq_iff_eq]; omega
  have hWE0 := Go.Lib.hid (Below.refl W.heap.size W)
  clear hz hzs hK hX hN
  replace hn3 := Go.Lib.hid hn3
  replace hna := Go.Lib.hid hna
  replace hnb := Go.Lib.hid hnb
  replace hn4 := Go.Lib.hid hn4
  replace hnc := Go.Lib.hid hnc
  go_enter Try.func3, Try.ntmps3
  go_wp2_with (first
    | (go_at_call 10; ((with_reducible refine (z1.out _).mono ?_)); rintro e w1 ⟨rfl, hb1⟩; have hWE1 := Go.Lib.hid hWE0.out; have hW1 := Go.Lib.hid (hWE1.out.trans (hb1.mono hWE1.out.size)); clear hb1)
    | (go_at_call 10; ((with_reducible refine (z2.out _).mono ?_)); rintro e w2 ⟨rfl, hb2⟩; have hWE2 := Go.Lib.hid hW1.out; have hW2 := Go.Lib.hid (hWE2.out.trans (hb2.mono hWE2.out.size)); clear hb2)
    | (go_at_call 10; ((with_reducible refine (z3.out _).mono ?_)); rintro e w3 ⟨rfl, hb3⟩; have hWE3 := Go.Lib.hid hW2.out; have hW3 := Go.Lib.hid (hWE3.out.trans (hb3.mono hWE3.out.size)); clear hb3)
    | (go_at_call 10; ((with_reducible refine (z4.out _).mono ?_)); rintro e w4 ⟨rfl, hb4⟩; have hWE4 := Go.Lib.hid hW3.out; have hW4 := Go.Lib.hid (hWE4.out.trans (hb4.mono hWE4.out.size)); clear hb4)
    | (go_at_call 10; ((with_reducible refine (z5.out _).mono ?_)); rintro e w5 ⟨rfl, hb5⟩; have hWE5 := Go.Lib.hid hW4.out; have hW5 := Go.Lib.hid (hWE5.out.trans (hb5.mono hWE5.out.size)); clear hb5)
    | (go_at_call 11; ((with_reducible refine (p6.out _).mono ?_)); rintro e w6 ⟨b6, cp6, rfl, hb6⟩; have hWE6 := Go.Lib.hid hW5.out; have hW6 := Go.Lib.hid (hWE6.out.trans (hb6.mono hWE6.out.size)); clear hb6)
    | (at_make; refine law_make elU8 w6 rfl _ _ rfl .i64 .i64 3 3 n3 rfl rfl hn3.out hn3.out gn3 ?_; intro w7 hown7 hb7 hs7; have hWE7 := Go.Lib.hid hW6.out; have hW7 := Go.Lib.hid (hWE7.out.trans (hb7.mono hWE7.out.size)); have R7_m := Go.Lib.hid (Row.of_own hown7 (zeros_wf n3)); clear hown7 hb7 hs7)
    | (go_at_call 12; ((with_reducible refine (u7.out _ _ _ ?h1).mono ?_)); (case h1 => exact R7_m.out); rintro e w8 ⟨b8, cp8, rfl, hb8⟩; have hWE8 := Go.Lib.hid hW7.out; have hW8 := Go.Lib.hid (hWE8.out.trans (hb8.mono hWE8.out.size)); have R8_m := Go.Lib.hid (R7_m.out.below hb8 (Nat.le_refl _)); clear hb8)
    | (at_make; refine law_make elU8 (w8.alloc (.cells #[(.slice b8 0 cp8), .int .i64 0] 29)) rfl _ _ rfl .i64 .i64 41255 41255 na rfl rfl hna.out hna.out gna ?_; intro w9 hown9 hb9 hs9; simp only [World.size_alloc] at hown9; have hWE9 := Go.Lib.hid (hW8.out.alloc hW8.out.size (.cells #[(.slice b8 0 cp8), .int .i64 0] 29)); have hW9 := Go.Lib.hid (hWE9.out.trans (hb9.mono hWE9.out.size)); have BE9_a := Go.Lib.hid (box1 w8 (.slice b8 0 cp8) 0); have B9_a := Go.Lib.hid (BE9_a.out.below hb9 BE9_a.out.lt); obtain ⟨k9a0, k9a1, k9a2, k9a3⟩ := B9_a.out.cells; have R9_m := Go.Lib.hid (Row.of_own hown9 (zeros_wf na)); clear hown9 hb9 hs9)
    | (go_at_call 12; ((with_reducible refine (u8.out _ _ _ ?h1).mono ?_)); (case h1 => exact R9_m.out); rintro e w10 ⟨b10, cp10, rfl, hb10⟩; have hWE10 := Go.Lib.hid hW9.out; have hW10 := Go.Lib.hid (hWE10.out.trans (hb10.mono hWE10.out.size)); have R10_m := Go.Lib.hid (R9_m.out.below hb10 (Nat.le_refl _)); have BE10_a := Go.Lib.hid B9_a.out; have B10_a := Go.Lib.hid (BE10_a.out.below hb10 BE10_a.out.lt); obtain ⟨k10a0, k10a1, k10a2, k10a3⟩ := B10_a.out.cells; have l10a := B10_a.out.lt; have n10a : w8.heap.size ≠ w10.heap.size := (by omega); clear hb10)
    | (at_make; refine law_make elU8 (w10.alloc (.cells #[(.slice b10 0 cp10), .int .i64 0] 29)) rfl _ _ rfl .i64 .i64 41254 41254 nb rfl rfl hnb.out hnb.out gnb ?_; intro w11 hown11 hb11 hs11; simp only [World.size_alloc] at hown11; have hWE11 := Go.Lib.hid (hW10.out.alloc hW10.out.size (.cells #[(.slice b10 0 cp10), .int .i64 0] 29)); have hW11 := Go.Lib.hid (hWE11.out.trans (hb11.mono hWE11.out.size)); have BE11_b := Go.Lib.hid (box1 w10 (.slice b10 0 cp10) 0); have B11_b := Go.Lib.hid (BE11_b.out.below hb11 BE11_b.out.lt); obtain ⟨k11b0, k11b1, k11b2, k11b3⟩ := B11_b.out.cells; have R11_m := Go.Lib.hid (Row.of_own hown11 (zeros_wf nb)); clear hown11 hb11 hs11)
    | (go_at_call 12; ((with_reducible refine (u9.out _ _ _ ?h1).mono ?_)); (case h1 => exact R11_m.out); rintro e w12 ⟨b12, cp12, rfl, hb12⟩; have hWE12 := Go.Lib.hid hW11.out; have hW12 := Go.Lib.hid (hWE12.out.trans (hb12.mono hWE12.out.size)); have R12_m := Go.Lib.hid (R11_m.out.below hb12 (Nat.le_refl _)); have BE12_b := Go.Lib.hid B11_b.out; have B12_b := Go.Lib.hid (BE12_b.out.below hb12 BE12_b.out.lt); obtain ⟨k12b0, k12b1, k12b2, k12b3⟩ := B12_b.out.cells; have l12b := B12_b.out.lt; have n12b : w10.heap.size ≠ w12.heap.size := (by omega); clear hb12)
    | (at_make; refine law_make elU8 (w12.alloc (.cells #[(.slice b12 0 cp12), .int .i64 0] 29)) rfl _ _ rfl .i64 .i64 4 4 n4 rfl rfl hn4.out hn4.out gn4 ?_; intro w13 hown13 hb13 hs13; simp only [World.size_alloc] at hown13; have hWE13 := Go.Lib.hid (hW12.out.alloc hW12.out.size (.cells #[(.slice b12 0 cp12), .int .i64 0] 29)); have hW13 := Go.Lib.hid (hWE13.out.trans (hb13.mono hWE13.out.size)); have BE13_c := Go.Lib.hid (box1 w12 (.slice b12 0 cp12) 0); have B13_c := Go.Lib.hid (BE13_c.out.below hb13 BE13_c.out.lt); obtain ⟨k13c0, k13c1, k13c2, k13c3⟩ := B13_c.out.cells; have R13_m := Go.Lib.hid (Row.of_own hown13 (zeros_wf n4)); clear hown13 hb13 hs13)
    | (go_at_call 12; ((with_reducible refine (u10.out _ _ _ ?h1).mono ?_)); (case h1 => exact R13_m.out); rintro e w14 ⟨b14, cp14, rfl, hb14⟩; have hWE14 := Go.Lib.hid hW13.out; have hW14 := Go.Lib.hid (hWE14.out.trans (hb14.mono hWE14.out.size)); have R14_m := Go.Lib.hid (R13_m.out.below hb14 (Nat.le_refl _)); have BE14_c := Go.Lib.hid B13_c.out; have B14_c := Go.Lib.hid (BE14_c.out.below hb14 BE14_c.out.lt); obtain ⟨k14c0, k14c1, k14c2, k14c3⟩ := B14_c.out.cells; have l14c := B14_c.out.lt; have n14c : w12.heap.size ≠ w14.heap.size := (by omega); clear hb14)
    | (go_at_call 12; ((with_reducible refine (u11.out _ _ ?hx).mono ?_)); (case hx => simp); rintro e w15 ⟨b15, cp15, rfl, hb15⟩; have hWE15 := Go.Lib.hid (hW14.out.alloc hW14.out.size (.cells #[(.slice b14 0 cp14), .int .i64 0] 29)); have hW15 := Go.Lib.hid (hWE15.out.trans (hb15.mono hWE15.out.size)); have BE15_e := Go.Lib.hid (box1 w14 (.slice b14 0 cp14) 0); have B15_e := Go.Lib.hid (BE15_e.out.below hb15 BE15_e.out.lt); obtain ⟨k15e0, k15e1, k15e2, k15e3⟩ := B15_e.out.cells; have l15e := B15_e.out.lt; have n15e : w14.heap.size ≠ w15.heap.size := (by omega); clear hb15)
    | (at_make; refine law_make elU8 (w15.alloc (.cells #[(.slice b15 0 cp15), .int .i64 0] 29)) rfl _ _ rfl .i64 .i64 41250 41250 nc rfl rfl hnc.out hnc.out gnc ?_; intro w16 hown16 hb16 hs16; simp only [World.size_alloc] at hown16; have hWE16 := Go.Lib.hid (hW15.out.alloc hW15.out.size (.cells #[(.slice b15 0 cp15), .int .i64 0] 29)); have hW16 := Go.Lib.hid (hWE16.out.trans (hb16.mono hWE16.out.size)); have BE16_e := Go.Lib.hid (B15_e.out.alloc (.cells #[(.slice b15 0 cp15), .int .i64 0] 29)); have B16_e := Go.Lib.hid (BE16_e.out.below hb16 BE16_e.out.lt); obtain ⟨k16e0, k16e1, k16e2, k16e3⟩ := B16_e.out.cells; have BE16_k := Go.Lib.hid (box1 w15 (.slice b15 0 cp15) 0); have B16_k := Go.Lib.hid (BE16_k.out.below hb16 BE16_k.out.lt); obtain ⟨k16k0, k16k1, k16k2, k16k3⟩ := B16_k.out.cells; have R16_m := Go.Lib.hid (Row.of_own hown16 (zeros_wf nc)); clear hown16 hb16 hs16)
    | (go_at_call 13; ((with_reducible refine (o12.out _ _ _ ?h1).mono ?_)); (case h1 => exact R16_m.out); rintro e w17 ⟨b17, cp17, rfl, hr17, hb17⟩; have hWE17 := Go.Lib.hid hW16.out; have hW17 := Go.Lib.hid (hWE17.out.trans (hb17.mono hWE17.out.size)); have R17_m := Go.Lib.hid (R16_m.out.below hb17 (Nat.le_refl _)); have R17_f := Go.Lib.hid hr17; clear hr17; have BE17_e := Go.Lib.hid B16_e.out; have B17_e := Go.Lib.hid (BE17_e.out.below hb17 BE17_e.out.lt); obtain ⟨k17e0, k17e1, k17e2, k17e3⟩ := B17_e.out.cells; have BE17_k := Go.Lib.hid B16_k.out; have B17_k := Go.Lib.hid (BE17_k.out.below hb17 BE17_k.out.lt); obtain ⟨k17k0, k17k1, k17k2, k17k3⟩ := B17_k.out.cells; have l17e := B17_e.out.lt; have n17e : w14.heap.size ≠ w17.heap.size := (by omega); have l17k := B17_k.out.lt; have n17k : w15.heap.size ≠ w17.heap.size := (by omega); clear hb17)
    | (go_at_call 11; ((with_reducible refine (p13.out _ _ _ ?h1).mono ?_)); (case h1 => exact (R17_f.out.below (below1 w17 (.cells #[(.slice b17 nc cp17), .int .i64 330000] 29)) (Nat.le_refl _))); rintro e w18 ⟨b18, cp18, rfl, hr18, hb18⟩; have hWE18 := Go.Lib.hid (hW17.out.alloc hW17.out.size (.cells #[(.slice b17 nc cp17), .int .i64 330000] 29)); have hW18 := Go.Lib.hid (hWE18.out.trans (hb18.mono hWE18.out.size)); have R18_f := Go.Lib.hid ((R17_f.out.below (below1 w17 (.cells #[(.slice b17 nc cp17), .int .i64 330000] 29)) (Nat.le_refl _)).below hb18 (Nat.le_refl _)); have R18_p := Go.Lib.hid hr18; clear hr18; have BE18_e := Go.Lib.hid (B17_e.out.alloc (.cells #[(.slice b17 nc cp17), .int .i64 330000] 29)); have B18_e := Go.Lib.hid (BE18_e.out.below hb18 BE18_e.out.lt); obtain ⟨k18e0, k18e1, k18e2, k18e3⟩ := B18_e.out.cells; have BE18_f := Go.Lib.hid (box1 w17 (.slice b17 nc cp17) 330000); have B18_f := Go.Lib.hid (BE18_f.out.below hb18 BE18_f.out.lt); obtain ⟨k18f0, k18f1, k18f2, k18f3⟩ := B18_f.out.cells; clear hb18)
    | (go_at_call 12; ((with_reducible refine (u14.out _ _ _ ?h1).mono ?_)); (case h1 => exact R18_p.out); rintro e w19 ⟨b19, cp19, rfl, hb19⟩; have hWE19 := Go.Lib.hid hW18.out; have hW19 := Go.Lib.hid (hWE19.out.trans (hb19.mono hWE19.out.size)); have R19_f := Go.Lib.hid (R18_f.out.below hb19 (Nat.le_refl _)); have R19_p := Go.Lib.hid (R18_p.out.below hb19 (Nat.le_refl _)); have BE19_e := Go.Lib.hid B18_e.out; have B19_e := Go.Lib.hid (BE19_e.out.below hb19 BE19_e.out.lt); obtain ⟨k19e0, k19e1, k19e2, k19e3⟩ := B19_e.out.cells; have BE19_f := Go.Lib.hid B18_f.out; have B19_f := Go.Lib.hid (BE19_f.out.below hb19 BE19_f.out.lt); obtain ⟨k19f0, k19f1, k19f2, k19f3⟩ := B19_f.out.cells; have l19e := B19_e.out.lt; have n19e : w14.heap.size ≠ w19.heap.size := (by omega); have l19f := B19_f.out.lt; have n19f : w17.heap.size ≠ w19.heap.size := (by omega); clear hb19)
    | (go_at_call 11; ((with_reducible refine (p15.out _ _ ?hx).mono ?_)); (case hx => simp); rintro e w20 ⟨b20, cp20, rfl, hr20, hb20⟩; have hWE20 := Go.Lib.hid (hW19.out.alloc hW19.out.size (.cells #[(.slice b19 nc cp19), .int .i64 330000] 29)); have hW20 := Go.Lib.hid (hWE20.out.trans (hb20.mono hWE20.out.size)); have R20_g := Go.Lib.hid hr20; clear hr20; have BE20_e := Go.Lib.hid (B19_e.out.alloc (.cells #[(.slice b19 nc cp19), .int .i64 330000] 29)); have B20_e := Go.Lib.hid (BE20_e.out.below hb20 BE20_e.out.lt); obtain ⟨k20e0, k20e1, k20e2, k20e3⟩ := B20_e.out.cells; have BE20_q := Go.Lib.hid (box1 w19 (.slice b19 nc cp19) 330000); have B20_q := Go.Lib.hid (BE20_q.out.below hb20 BE20_q.out.lt); obtain ⟨k20q0, k20q1, k20q2, k20q3⟩ := B20_q.out.cells; have st1 := R20_g.out.str Try.underlying25 Try.underlying5 Try.underlying9; clear hb20)
    | (go_at_call 14; refine (alive11_ok _).mono ?_; rintro e w21 ⟨rfl, hb21⟩; have hWE21 := Go.Lib.hid hW20.out; have hW21 := Go.Lib.hid (hWE21.out.trans (hb21.mono hWE21.out.size)); clear hb21))
  go_ret
  exact ⟨by simp , hW21.out⟩

theorem blockNames_walk (W : World) :
    Calls Try.prog 3 #[] W fun e w' => e = .returned (.bool true) ∧ Below W.heap.size W w' :=
  blockNames_in W 3 41255 (41250 + 4) 4 41250 330000 rfl rfl rfl rfl rfl rfl zeros_not
end Go.Proofs.Ythiaeldhelhjlaa
