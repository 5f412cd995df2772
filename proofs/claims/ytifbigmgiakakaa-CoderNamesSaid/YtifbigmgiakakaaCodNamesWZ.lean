/- CoderNames: the chapter's examples, limits and errors. -/
import Derived.Test.YtifbigmgiakakaaZ9

namespace Go.Proofs.Ytifbigmgiakakaa
open Go.RowKit Cad

def cnG : List Bool := [] ++ numB 562949953421311 49
def cnY : List Bool := cnG ++ numB 5 32
theorem cnG_len : cnG.length = 49 := by decide +kernel
theorem cnY_len : cnY.length = 81 := by decide +kernel
theorem cnY_dec : decD cnY 1 0 dStart = ([], 0, 12) := by decide +kernel

set_option maxRecDepth 100000 in
set_option maxHeartbeats 8000000 in
theorem coderNames_in (W : World) (n4 : Nat) (hn4 : (4001 : Int) = n4) :
    Calls Try.prog 3 #[] W fun e w' => e = .returned (.bool true) ∧ Below W.heap.size W w' := by
  have hnil : pack [] = [] := rfl
  have hnb : n4 ≤ 17592186044416 := by omega
  have hv0 : Valid [] 0 := ⟨[], rfl, by decide, by rw [hnil]⟩
  have hv1 : ¬ Valid [] 1 := fun h => by have := h.n; simp at this
  have e1 : Hid (∀ w al cl, Calls Try.prog 11 #[.slice al n4 cl] w fun e W' => e = .returned (.tuple #[.agg #[.slice none 0 0, .int .i64 0], .int .i64 4]) ∧ Below w.heap.size w W') := Go.Lib.hid fun w al cl => PEncode_many w al n4 cl (by omega) (by omega)
  have a1 : Hid (∀ w al cl, Calls Try.prog 12 #[.slice al n4 cl] w fun e W' => e = .returned (.tuple #[.agg #[.int .i64 0, .int .i64 0, .int .u64 0, .int .u64 0], .int .i64 4]) ∧ Below w.heap.size w W') := Go.Lib.hid fun w al cl => PAfter_many w al n4 cl (by omega) (by omega)
  have d3 := Go.Lib.hid fun w => PDecode_bad w none 0 0 1 (-1) [] (Row.nil_row _ _) (by decide) hv1
  have d4 := Go.Lib.hid fun w => PDecode_arg w none 0 0 0 (-1) [] (Row.nil_row _ _) (by decide) hv0 (by decide)
  have d5 := Go.Lib.hid fun w => PDecode_many w none 0 0 0 n4 [] (Row.nil_row _ _) (by decide) hv0 (by omega)
  have d6 : Hid (∀ w, Calls Try.prog 13 #[.agg #[.slice none 0 0, .int .i64 0], .int .i64 1] w fun r W' => ∃ a c, r = .returned (.tuple #[.slice a 0 c, .int .i64 0, .int .i64 24]) ∧ Below w.heap.size w W') := Go.Lib.hid fun w => by
    refine (PDecode_m w none 0 0 [] 1 (by rw [hnil]; exact Row.nil_row _ _) (by decide) (by decide) [] 0 24 (by rfl)).mono ?_
    rintro r W' ⟨a, k, c, rfl, h2, h3⟩
    obtain rfl : k = 0 := h2.hlen.symm
    exact ⟨a, c, rfl, h3⟩
  have d7 : Hid (∀ w, Calls Try.prog 13 #[.agg #[.slice none 0 0, .int .i64 0], .int .i64 0] w fun r W' => ∃ a c, r = .returned (.tuple #[.slice a 0 c, .int .i64 0, .int .i64 0]) ∧ Below w.heap.size w W') := Go.Lib.hid fun w => by
    refine (PDecode_m w none 0 0 [] 0 (by rw [hnil]; exact Row.nil_row _ _) (by decide) (by decide) [] 0 0 (by rfl)).mono ?_
    rintro r W' ⟨a, k, c, rfl, h2, h3⟩
    obtain rfl : k = 0 := h2.hlen.symm
    exact ⟨a, c, rfl, h3⟩
  have e8 : Hid (∀ w, Calls Try.prog 11 #[.slice none 0 0] w fun e W' => ∃ b c, e = .returned (.tuple #[.agg #[.slice b 0 c, .int .i64 0], .int .i64 0]) ∧ Row .u8 W' b 0 c [] ∧ Below w.heap.size w W') := Go.Lib.hid fun w => PEncode_ok w none 0 0 [] (Row.nil_row _ _) (by decide) rfl (by decide)
  have a9 : Hid (∀ w, Calls Try.prog 12 #[.slice none 0 0] w fun e W' => e = .returned (.tuple #[.agg #[.int .i64 10, .int .i64 10, .int .u64 16384, .int .u64 16384], .int .i64 0]) ∧ Below w.heap.size w W') := Go.Lib.hid fun w => PAfter_m w none 0 0 [] (Row.nil_row _ _) (by decide) rfl (by decide)
  have p10 : Hid (∀ w, Calls Try.prog 14 #[.agg #[.slice none 0 0, .int .i64 0], .int .u64 562949953421311, .int .i64 49] w fun e W' => ∃ b c, e = .returned (.tuple #[.agg #[.slice b 7 c, .int .i64 49], .int .i64 0]) ∧ Row .u8 W' b 7 c (pack cnG) ∧ Below w.heap.size w W') := Go.Lib.hid fun w =>
    BPut_ok w none 0 0 [] 562949953421311 49 (by rw [hnil]; exact Row.nil_row _ _) (by decide) (by decide) (by decide)
  have p11 : Hid (∀ w b c, Row .u8 w b 7 c (pack cnG) → Calls Try.prog 14 #[.agg #[.slice b 7 c, .int .i64 49], .int .u64 5, .int .i64 32] w fun e W' => ∃ b c, e = .returned (.tuple #[.agg #[.slice b 11 c, .int .i64 81], .int .i64 0]) ∧ Row .u8 W' b 11 c (pack cnY) ∧ Below w.heap.size w W') := Go.Lib.hid fun w b c h => by
    have := BPut_ok w b 7 c cnG 5 32 h (by rw [cnG_len]; decide) (by decide) (by decide)
    rw [cnG_len] at this
    exact this
  have d12 : Hid (∀ w b c, Row .u8 w b 11 c (pack cnY) → Calls Try.prog 13 #[.agg #[.slice b 11 c, .int .i64 81], .int .i64 1] w fun r W' => ∃ a c, r = .returned (.tuple #[.slice a 0 c, .int .i64 0, .int .i64 12]) ∧ Below w.heap.size w W') := Go.Lib.hid fun w b c h => by
    have := PDecode_m w b 11 c cnY 1 h (by rw [cnY_len]; decide) (by decide) _ _ _ cnY_dec
    rw [cnY_len] at this
    refine this.mono ?_
    rintro r W' ⟨a, k, c, rfl, h2, h3⟩
    obtain rfl : k = 0 := h2.hlen.symm
    exact ⟨a, c, rfl, h3⟩
  have st := Go.Lib.hid Dstart_ok
  have q1 := sameD_self 10 10 16384 16384
  have hWE0 := Go.Lib.hid (Below.refl W.heap.size W)
  clear hnil hv0 hv1
  go_enter Try.func3, Try.ntmps3
  go_wp2_with (first
    | (at_make; refine law_make elU32 W rfl _ _ rfl .i64 .i64 4001 4001 n4 rfl rfl hn4 hn4 hnb ?_; intro w1 hown1 hb1 hs1; have hWE1 := Go.Lib.hid hWE0.out; have hW1 := Go.Lib.hid (hWE1.out.trans (hb1.mono hWE1.out.size)); clear hown1 hb1 hs1)
    | (go_at_call 11; ((with_reducible refine (e1.out _ _ _).mono ?_)); rintro e w2 ⟨rfl, hb2⟩; have hWE2 := Go.Lib.hid hW1.out; have hW2 := Go.Lib.hid (hWE2.out.trans (hb2.mono hWE2.out.size)); clear hb2)
    | (at_make; refine law_make elU32 (w2.alloc (.cells #[(.slice none 0 0), .int .i64 0] 24)) rfl _ _ rfl .i64 .i64 4001 4001 n4 rfl rfl hn4 hn4 hnb ?_; intro w3 hown3 hb3 hs3; have hWE3 := Go.Lib.hid (hW2.out.alloc hW2.out.size (.cells #[(.slice none 0 0), .int .i64 0] 24)); have hW3 := Go.Lib.hid (hWE3.out.trans (hb3.mono hWE3.out.size)); have BE3_a := Go.Lib.hid (box1 w2 (.slice none 0 0) 0); have B3_a := Go.Lib.hid (BE3_a.out.below hb3 BE3_a.out.lt); obtain ⟨k3a0, k3a1, k3a2, k3a3⟩ := B3_a.out.cells; clear hown3 hb3 hs3)
    | (go_at_call 12; ((with_reducible refine (a1.out _ _ _).mono ?_)); rintro e w4 ⟨rfl, hb4⟩; have hWE4 := Go.Lib.hid hW3.out; have hW4 := Go.Lib.hid (hWE4.out.trans (hb4.mono hWE4.out.size)); have BE4_a := Go.Lib.hid B3_a.out; have B4_a := Go.Lib.hid (BE4_a.out.below hb4 BE4_a.out.lt); obtain ⟨k4a0, k4a1, k4a2, k4a3⟩ := B4_a.out.cells; have l4a := B4_a.out.lt; have n4a : w2.heap.size ≠ w4.heap.size := (by omega); clear hb4)
    | (go_at_call 13; ((with_reducible refine (d3.out _).mono ?_)); rintro e w5 ⟨rfl, hb5⟩; have hWE5 := Go.Lib.hid (hW4.out.alloc hW4.out.size (.cells #[.int .i64 0, .int .i64 0, .int .u64 0, .int .u64 0] 31)); have hW5 := Go.Lib.hid (hWE5.out.trans (hb5.mono hWE5.out.size)); have BE5_a := Go.Lib.hid (B4_a.out.alloc (.cells #[.int .i64 0, .int .i64 0, .int .u64 0, .int .u64 0] 31)); have B5_a := Go.Lib.hid (BE5_a.out.below hb5 BE5_a.out.lt); obtain ⟨k5a0, k5a1, k5a2, k5a3⟩ := B5_a.out.cells; have BE5_b := Go.Lib.hid (duat1 w4 0 0 0 0); have B5_b := Go.Lib.hid (BE5_b.out.below hb5 BE5_b.out.lt); obtain ⟨k5b0, k5b1, k5b2, k5b3, k5b4, k5b5, k5b6, k5b7⟩ := B5_b.out.cells; clear hb5)
    | (go_at_call 13; ((with_reducible refine (d4.out _).mono ?_)); rintro e w6 ⟨rfl, hb6⟩; have hWE6 := Go.Lib.hid hW5.out; have hW6 := Go.Lib.hid (hWE6.out.trans (hb6.mono hWE6.out.size)); have BE6_a := Go.Lib.hid B5_a.out; have B6_a := Go.Lib.hid (BE6_a.out.below hb6 BE6_a.out.lt); obtain ⟨k6a0, k6a1, k6a2, k6a3⟩ := B6_a.out.cells; have BE6_b := Go.Lib.hid B5_b.out; have B6_b := Go.Lib.hid (BE6_b.out.below hb6 BE6_b.out.lt); obtain ⟨k6b0, k6b1, k6b2, k6b3, k6b4, k6b5, k6b6, k6b7⟩ := B6_b.out.cells; clear hb6)
    | (go_at_call 13; ((with_reducible refine (d5.out _).mono ?_)); rintro e w7 ⟨rfl, hb7⟩; have hWE7 := Go.Lib.hid hW6.out; have hW7 := Go.Lib.hid (hWE7.out.trans (hb7.mono hWE7.out.size)); have BE7_a := Go.Lib.hid B6_a.out; have B7_a := Go.Lib.hid (BE7_a.out.below hb7 BE7_a.out.lt); obtain ⟨k7a0, k7a1, k7a2, k7a3⟩ := B7_a.out.cells; have BE7_b := Go.Lib.hid B6_b.out; have B7_b := Go.Lib.hid (BE7_b.out.below hb7 BE7_b.out.lt); obtain ⟨k7b0, k7b1, k7b2, k7b3, k7b4, k7b5, k7b6, k7b7⟩ := B7_b.out.cells; clear hb7)
    | (go_at_call 13; ((with_reducible refine (d6.out _).mono ?_)); rintro e w8 ⟨b8, cp8, rfl, hb8⟩; have hWE8 := Go.Lib.hid hW7.out; have hW8 := Go.Lib.hid (hWE8.out.trans (hb8.mono hWE8.out.size)); have BE8_a := Go.Lib.hid B7_a.out; have B8_a := Go.Lib.hid (BE8_a.out.below hb8 BE8_a.out.lt); obtain ⟨k8a0, k8a1, k8a2, k8a3⟩ := B8_a.out.cells; have BE8_b := Go.Lib.hid B7_b.out; have B8_b := Go.Lib.hid (BE8_b.out.below hb8 BE8_b.out.lt); obtain ⟨k8b0, k8b1, k8b2, k8b3, k8b4, k8b5, k8b6, k8b7⟩ := B8_b.out.cells; clear hb8)
    | (go_at_call 13; ((with_reducible refine (d7.out _).mono ?_)); rintro e w9 ⟨b9, cp9, rfl, hb9⟩; have hWE9 := Go.Lib.hid hW8.out; have hW9 := Go.Lib.hid (hWE9.out.trans (hb9.mono hWE9.out.size)); have BE9_a := Go.Lib.hid B8_a.out; have B9_a := Go.Lib.hid (BE9_a.out.below hb9 BE9_a.out.lt); obtain ⟨k9a0, k9a1, k9a2, k9a3⟩ := B9_a.out.cells; have BE9_b := Go.Lib.hid B8_b.out; have B9_b := Go.Lib.hid (BE9_b.out.below hb9 BE9_b.out.lt); obtain ⟨k9b0, k9b1, k9b2, k9b3, k9b4, k9b5, k9b6, k9b7⟩ := B9_b.out.cells; clear hb9)
    | (go_at_call 11; ((with_reducible refine (e8.out _).mono ?_)); rintro e w10 ⟨b10, cp10, rfl, hr10, hb10⟩; have hWE10 := Go.Lib.hid hW9.out; have hW10 := Go.Lib.hid (hWE10.out.trans (hb10.mono hWE10.out.size)); have BE10_a := Go.Lib.hid B9_a.out; have B10_a := Go.Lib.hid (BE10_a.out.below hb10 BE10_a.out.lt); obtain ⟨k10a0, k10a1, k10a2, k10a3⟩ := B10_a.out.cells; have BE10_b := Go.Lib.hid B9_b.out; have B10_b := Go.Lib.hid (BE10_b.out.below hb10 BE10_b.out.lt); obtain ⟨k10b0, k10b1, k10b2, k10b3, k10b4, k10b5, k10b6, k10b7⟩ := B10_b.out.cells; have l10a := B10_a.out.lt; have n10a : w2.heap.size ≠ w10.heap.size := (by omega); have l10b := B10_b.out.lt; have n10b : w4.heap.size ≠ w10.heap.size := (by omega); clear hb10)
    | (go_at_call 12; ((with_reducible refine (a9.out _).mono ?_)); rintro e w11 ⟨rfl, hb11⟩; have hWE11 := Go.Lib.hid (hW10.out.alloc hW10.out.size (.cells #[(.slice b10 0 cp10), .int .i64 0] 24)); have hW11 := Go.Lib.hid (hWE11.out.trans (hb11.mono hWE11.out.size)); have BE11_a := Go.Lib.hid (B10_a.out.alloc (.cells #[(.slice b10 0 cp10), .int .i64 0] 24)); have B11_a := Go.Lib.hid (BE11_a.out.below hb11 BE11_a.out.lt); obtain ⟨k11a0, k11a1, k11a2, k11a3⟩ := B11_a.out.cells; have BE11_b := Go.Lib.hid (B10_b.out.alloc (.cells #[(.slice b10 0 cp10), .int .i64 0] 24)); have B11_b := Go.Lib.hid (BE11_b.out.below hb11 BE11_b.out.lt); obtain ⟨k11b0, k11b1, k11b2, k11b3, k11b4, k11b5, k11b6, k11b7⟩ := B11_b.out.cells; have BE11_e := Go.Lib.hid (box1 w10 (.slice b10 0 cp10) 0); have B11_e := Go.Lib.hid (BE11_e.out.below hb11 BE11_e.out.lt); obtain ⟨k11e0, k11e1, k11e2, k11e3⟩ := B11_e.out.cells; have l11a := B11_a.out.lt; have n11a : w2.heap.size ≠ w11.heap.size := (by omega); have l11b := B11_b.out.lt; have n11b : w4.heap.size ≠ w11.heap.size := (by omega); have l11e := B11_e.out.lt; have n11e : w10.heap.size ≠ w11.heap.size := (by omega); clear hb11)
    | (go_at_call 14; ((with_reducible refine (p10.out _).mono ?_)); rintro e w12 ⟨b12, cp12, rfl, hr12, hb12⟩; have hWE12 := Go.Lib.hid (hW11.out.alloc hW11.out.size (.cells #[.int .i64 10, .int .i64 10, .int .u64 16384, .int .u64 16384] 31)); have hW12 := Go.Lib.hid (hWE12.out.trans (hb12.mono hWE12.out.size)); have R12_r := Go.Lib.hid hr12; clear hr12; have BE12_a := Go.Lib.hid (B11_a.out.alloc (.cells #[.int .i64 10, .int .i64 10, .int .u64 16384, .int .u64 16384] 31)); have B12_a := Go.Lib.hid (BE12_a.out.below hb12 BE12_a.out.lt); obtain ⟨k12a0, k12a1, k12a2, k12a3⟩ := B12_a.out.cells; have BE12_b := Go.Lib.hid (B11_b.out.alloc (.cells #[.int .i64 10, .int .i64 10, .int .u64 16384, .int .u64 16384] 31)); have B12_b := Go.Lib.hid (BE12_b.out.below hb12 BE12_b.out.lt); obtain ⟨k12b0, k12b1, k12b2, k12b3, k12b4, k12b5, k12b6, k12b7⟩ := B12_b.out.cells; have BE12_e := Go.Lib.hid (B11_e.out.alloc (.cells #[.int .i64 10, .int .i64 10, .int .u64 16384, .int .u64 16384] 31)); have B12_e := Go.Lib.hid (BE12_e.out.below hb12 BE12_e.out.lt); obtain ⟨k12e0, k12e1, k12e2, k12e3⟩ := B12_e.out.cells; have BE12_f := Go.Lib.hid (duat1 w11 10 10 16384 16384); have B12_f := Go.Lib.hid (BE12_f.out.below hb12 BE12_f.out.lt); obtain ⟨k12f0, k12f1, k12f2, k12f3, k12f4, k12f5, k12f6, k12f7⟩ := B12_f.out.cells; have l12a := B12_a.out.lt; have n12a : w2.heap.size ≠ w12.heap.size := (by omega); have l12b := B12_b.out.lt; have n12b : w4.heap.size ≠ w12.heap.size := (by omega); have l12e := B12_e.out.lt; have n12e : w10.heap.size ≠ w12.heap.size := (by omega); have l12f := B12_f.out.lt; have n12f : w11.heap.size ≠ w12.heap.size := (by omega); clear hb12)
    | (go_at_call 14; ((with_reducible refine (p11.out _ _ _ ?h1).mono ?_)); (case h1 => exact (R12_r.out.below (below1 w12 (.cells #[(.slice b12 7 cp12), .int .i64 49] 24)) (Nat.le_refl _))); rintro e w13 ⟨b13, cp13, rfl, hr13, hb13⟩; have hWE13 := Go.Lib.hid (hW12.out.alloc hW12.out.size (.cells #[(.slice b12 7 cp12), .int .i64 49] 24)); have hW13 := Go.Lib.hid (hWE13.out.trans (hb13.mono hWE13.out.size)); have R13_r := Go.Lib.hid ((R12_r.out.below (below1 w12 (.cells #[(.slice b12 7 cp12), .int .i64 49] 24)) (Nat.le_refl _)).below hb13 (Nat.le_refl _)); have R13_y := Go.Lib.hid hr13; clear hr13; have BE13_a := Go.Lib.hid (B12_a.out.alloc (.cells #[(.slice b12 7 cp12), .int .i64 49] 24)); have B13_a := Go.Lib.hid (BE13_a.out.below hb13 BE13_a.out.lt); obtain ⟨k13a0, k13a1, k13a2, k13a3⟩ := B13_a.out.cells; have BE13_b := Go.Lib.hid (B12_b.out.alloc (.cells #[(.slice b12 7 cp12), .int .i64 49] 24)); have B13_b := Go.Lib.hid (BE13_b.out.below hb13 BE13_b.out.lt); obtain ⟨k13b0, k13b1, k13b2, k13b3, k13b4, k13b5, k13b6, k13b7⟩ := B13_b.out.cells; have BE13_e := Go.Lib.hid (B12_e.out.alloc (.cells #[(.slice b12 7 cp12), .int .i64 49] 24)); have B13_e := Go.Lib.hid (BE13_e.out.below hb13 BE13_e.out.lt); obtain ⟨k13e0, k13e1, k13e2, k13e3⟩ := B13_e.out.cells; have BE13_f := Go.Lib.hid (B12_f.out.alloc (.cells #[(.slice b12 7 cp12), .int .i64 49] 24)); have B13_f := Go.Lib.hid (BE13_f.out.below hb13 BE13_f.out.lt); obtain ⟨k13f0, k13f1, k13f2, k13f3, k13f4, k13f5, k13f6, k13f7⟩ := B13_f.out.cells; have BE13_r := Go.Lib.hid (box1 w12 (.slice b12 7 cp12) 49); have B13_r := Go.Lib.hid (BE13_r.out.below hb13 BE13_r.out.lt); obtain ⟨k13r0, k13r1, k13r2, k13r3⟩ := B13_r.out.cells; clear hb13))
  obtain ⟨wg, hwg⟩ : ∃ w, w = (w13.setCell ⟨w12.heap.size, 0, none⟩ (.slice b13 11 cp13)).setCell ⟨w12.heap.size, 1, none⟩ (.int .i64 81) := ⟨_, rfl⟩
  have lg : W.heap.size ≤ w12.heap.size := hW12.out.size
  have hW60 := Go.Lib.hid ((hW13.out.setCell (p := ⟨w12.heap.size, 0, none⟩) lg (.slice b13 11 cp13)).setCell (p := ⟨w12.heap.size, 1, none⟩) lg (.int .i64 81))
  have B60_r := Go.Lib.hid (B13_r.out.set (.slice b13 11 cp13) 81)
  have ne_e : w10.heap.size ≠ w12.heap.size := (by have := BE12_e.out.lt; have := B12_e.out.lt; omega)
  have B60_e := Go.Lib.hid ((B13_e.out.other (p := ⟨w12.heap.size, 0, none⟩) ne_e (.slice b13 11 cp13)).other (p := ⟨w12.heap.size, 1, none⟩) ne_e (.int .i64 81))
  have ne_f : w11.heap.size ≠ w12.heap.size := (by have := BE12_f.out.lt; have := B12_f.out.lt; omega)
  have B60_f := Go.Lib.hid ((B13_f.out.other (p := ⟨w12.heap.size, 0, none⟩) ne_f (.slice b13 11 cp13)).other (p := ⟨w12.heap.size, 1, none⟩) ne_f (.int .i64 81))
  have R60_y := Go.Lib.hid ((R13_y.out.box B13_r.out 0 (.slice b13 11 cp13)).box (B13_r.out.set0 _) 1 (.int .i64 81))
  rw [← hwg] at hW60 B60_r B60_e B60_f R60_y ⊢
  obtain ⟨xg, hxg⟩ : ∃ x, x = w12.heap.size := ⟨_, rfl⟩
  rw [← hxg] at B60_r
  try rw [← hxg]
  obtain ⟨x_e, hx_e⟩ : ∃ x, x = w10.heap.size := ⟨_, rfl⟩
  rw [← hx_e] at B60_e
  try rw [← hx_e]
  obtain ⟨x_f, hx_f⟩ : ∃ x, x = w11.heap.size := ⟨_, rfl⟩
  rw [← hx_f] at B60_f
  try rw [← hx_f]
  clear hwg lg hxg ne_e ne_f hx_e hx_f k13a0 k13a1 k13a2 k13a3 k13b0 k13b1 k13b2 k13b3 k13b4 k13b5 k13b6 k13b7 k13e0 k13e1 k13e2 k13e3 k13f0 k13f1 k13f2 k13f3 k13f4 k13f5 k13f6 k13f7 k13r0 k13r1 k13r2 k13r3
  obtain ⟨g0, g1, g2, g3⟩ := B60_r.out.cells
  go_wp2_with (first
    | (go_at_call 13; ((with_reducible refine (d12.out _ _ _ ?h1).mono ?_)); (case h1 => exact R60_y.out); rintro e w61 ⟨b61, cp61, rfl, hb61⟩; have hWE61 := Go.Lib.hid hW60.out; have hW61 := Go.Lib.hid (hWE61.out.trans (hb61.mono hWE61.out.size)); have R61_y := Go.Lib.hid (R60_y.out.below hb61 (Nat.le_refl _)); have BE61_r := Go.Lib.hid B60_r.out; have B61_r := Go.Lib.hid (BE61_r.out.below hb61 BE61_r.out.lt); obtain ⟨k61r0, k61r1, k61r2, k61r3⟩ := B61_r.out.cells; have BE61_e := Go.Lib.hid B60_e.out; have B61_e := Go.Lib.hid (BE61_e.out.below hb61 BE61_e.out.lt); obtain ⟨k61e0, k61e1, k61e2, k61e3⟩ := B61_e.out.cells; have BE61_f := Go.Lib.hid B60_f.out; have B61_f := Go.Lib.hid (BE61_f.out.below hb61 BE61_f.out.lt); obtain ⟨k61f0, k61f1, k61f2, k61f3, k61f4, k61f5, k61f6, k61f7⟩ := B61_f.out.cells; clear hb61))
  simp only [List.append_eq, List.cons_append, List.nil_append]
  refine wp_region_ord (fun w' => DuAt w' x_f 10 10 16384 16384) [(0, 0), (1, 0), (2, 0), (3, 0), (4, 0), (5, 0), (6, 0), (7, 0), (8, 0), (9, 0), (10, 0), (11, 0), (12, 0), (13, 0), (14, 0), (15, 0), (16, 0), (17, 0), (18, 0), (19, 0), (20, 0), (21, 0), (22, 0), (23, 0), (24, 0), (25, 0), (26, 0), (27, 0), (28, 0), (29, 0), (30, 0), (31, 0), (32, 0), (33, 0), (34, 0), (35, 0), (36, 0), (37, 0), (38, 0), (39, 0), (40, 0), (41, 0), (42, 0), (43, 1), (44, 0), (45, 0), (46, 0), (47, 0), (48, 0), (49, 0), (50, 0), (51, 2), (52, 3), (53, 0), (54, 0), (55, 0), (56, 0), (57, 0), (58, 0), (59, 0), (60, 0), (61, 0), (62, 0), (63, 0), (64, 0), (65, 0), (66, 0), (67, 0), (68, 3), (69, 0), (70, 0)] (by kernel_rfl) (by kernel_rfl) ?hC0 ?_
  case hC0 => exact B61_f.out.drew
  simp only [pick, nth]
  refine wpW_name ?_
  intro q0 hq0
  have F0 := Go.Lib.hid (show DuAt q0 x_f 10 10 16384 16384 by rw [hq0]; exact B61_f.out.drew)
  have E0 := Go.Lib.hid (show BoxAt q0 x_e (.slice b10 0 cp10) 0 by rw [hq0]; exact B61_e.out.drew)
  have V0 := Go.Lib.hid (show Below W.heap.size W q0 by rw [hq0]; exact hW61.out.drew)
  clear hq0
  obtain ⟨i0, i1, i2, i3⟩ := E0.out.cells
  (repeat (first | (apply wpW_light; (case h => (intro wa; (first | (go_big_quiet_skip; exact wpQuiet_nil rfl) | (go_big_quiet_want; go_big_quiet_op; go_big_quiet_on; exact wpQuiet_nil rfl))))) | (apply wpW_here; (case h => (first | (go_big_quiet_skip; exact wpQuiet_nil rfl) | (go_big_quiet_want; go_big_quiet_op; go_big_quiet_on; exact wpQuiet_nil rfl)))) | (apply wpW_held; (case hC => assumption); (case h => (intro wa hCa; obtain ⟨u0, u1, u2, u3, u4, u5, u6, u7⟩ := hCa.cells; (first | (go_big_quiet_skip; exact wpQuiet_nil rfl) | (go_big_quiet_want; go_big_quiet_op; go_big_quiet_on; exact wpQuiet_nil rfl)))))))
  clear i0 i1 i2 i3
  refine wpW_actg (fun QQ hQQ => ?_) (by rfl)
  go_wp2_with (go_at_call 15; with_reducible refine (st.out _).mono ?_; rintro e q1 ⟨rfl, hb⟩; have F1 := Go.Lib.hid (F0.out.below hb F0.out.lt); have V1 := Go.Lib.hid (V0.out.trans (hb.mono V0.out.size)); clear hb)
  (refine hQQ _ _ ?hCn ?_; (case hCn => exact F1.out); clear hQQ QQ)
  (repeat (first | (apply wpW_light; (case h => (intro wa; (first | (go_big_quiet_skip; exact wpQuiet_nil rfl) | (go_big_quiet_want; go_big_quiet_op; go_big_quiet_on; exact wpQuiet_nil rfl))))) | (apply wpW_here; (case h => (first | (go_big_quiet_skip; exact wpQuiet_nil rfl) | (go_big_quiet_want; go_big_quiet_op; go_big_quiet_on; exact wpQuiet_nil rfl)))) | (apply wpW_held; (case hC => assumption); (case h => (intro wa hCa; simp only [] at hCa; (first | (go_big_quiet_skip; exact wpQuiet_nil rfl) | (go_big_quiet_want; go_big_quiet_op; go_big_quiet_on; exact wpQuiet_nil rfl)))))))
  refine wpW_actg (fun QQ hQQ => ?_) (by rfl)
  go_wp2_with (go_at_call 16; with_reducible refine (alive9_ok _).mono ?_; rintro e q2 ⟨rfl, hb⟩; have F2 := Go.Lib.hid (F1.out.below hb F1.out.lt); have V2 := Go.Lib.hid (V1.out.trans (hb.mono V1.out.size)); clear hb)
  (refine hQQ _ _ ?hCn ?_; (case hCn => exact F2.out); clear hQQ QQ)
  (repeat (first | (apply wpW_light; (case h => (intro wa; (first | (go_big_quiet_skip; exact wpQuiet_nil rfl) | (go_big_quiet_want; go_big_quiet_op; go_big_quiet_on; exact wpQuiet_nil rfl))))) | (apply wpW_here; (case h => (first | (go_big_quiet_skip; exact wpQuiet_nil rfl) | (go_big_quiet_want; go_big_quiet_op; go_big_quiet_on; exact wpQuiet_nil rfl)))) | (apply wpW_held; (case hC => assumption); (case h => (intro wa hCa; simp only [] at hCa; (first | (go_big_quiet_skip; exact wpQuiet_nil rfl) | (go_big_quiet_want; go_big_quiet_op; go_big_quiet_on; exact wpQuiet_nil rfl)))))))
  refine wpW_nil ?_
  go_wp2
  go_ret
  exact ⟨rfl, V2.out⟩

theorem coderNames_walk (W : World) :
    Calls Try.prog 3 #[] W fun e w' => e = .returned (.bool true) ∧ Below W.heap.size W w' :=
  coderNames_in W 4001 rfl
end Go.Proofs.Ytifbigmgiakakaa
