/- CoderBack: decoded is what was coded, also with other bits behind; at most 81 bits each. -/
import Derived.Test.YtifbigmgiakakaaZ9

namespace Go.Proofs.Ytifbigmgiakakaa
open Go.RowKit Cad

set_option maxRecDepth 100000 in
set_option maxHeartbeats 2000000 in
theorem coderBack_out (W : World) (al : Option Addr) (ll cl : Nat) (l : List Int) (aa : Option Addr) (len cap : Nat) (z : List Int) (N : Int) (hl : Row .u32 W al ll cl l) (hll : ll ≤ 9223372036854775807) (hr : Row .u8 W aa len cap z) (hN : (Lit.int .i64 N).wf = true) (r : Int) (hk : chk z N r)
    (h : 150 < ll ∨ r = 8 ∨ (r = 0 ∧ 500 < N)) :
    Calls Try.prog 6 #[.slice al ll cl, .agg #[.slice aa len cap, .int .i64 N]] W fun e w' => e = .returned (.bool true) ∧ Below W.heap.size W w' := by
  have hWE0 := Go.Lib.hid (below1 W (.cells #[.slice aa len cap, .int .i64 N] 24))
  have BE0_g := Go.Lib.hid (box1 W (.slice aa len cap) N)
  have RE0_g := Go.Lib.hid (hr.below hWE0.out (Nat.le_refl _))
  have RE0_l := Go.Lib.hid (hl.below hWE0.out (Nat.le_refl _))
  obtain ⟨z0, z1, z2, z3⟩ := BE0_g.out.cells
  have hck : Hid (∀ w, Row .u8 w aa len cap z → Calls Try.prog 25 #[.agg #[.slice aa len cap, .int .i64 N]] w fun e W' => e = .returned (.int .i64 r) ∧ Below w.heap.size w W') := Go.Lib.hid fun w h => RCheck_any w aa len cap N z h hN r hk
  have key : (150 : Int) < ll ∨ (¬ (150 : Int) < ll ∧ r = 8) ∨ (¬ (150 : Int) < ll ∧ r = 0 ∧ 500 < N) := by omega
  clear h hr hN hk hl
  rcases key with h1 | ⟨h1, rfl⟩ | ⟨h1, rfl, h2⟩
  · go_enter Try.func6, Try.ntmps6
    go_wp2_with (first
      | (go_at_call 16; refine (alive9_ok _).mono ?_; rintro e w1 ⟨rfl, hb1⟩; have hWE1 := Go.Lib.hid hWE0.out; have hW1 := Go.Lib.hid (hWE1.out.trans (hb1.mono hWE1.out.size)); clear hb1))
    go_ret
    exact ⟨rfl, hW1.out⟩
  · have d1 : decide ((150 : Int) < ll) = false := decide_eq_false h1
    go_enter Try.func6, Try.ntmps6
    go_wp2_with (first
      | (go_at_call 25; ((with_reducible refine (hck.out _ ?h1).mono ?_)); (case h1 => exact RE0_g.out); rintro e w1 ⟨rfl, hb1⟩; have hWE1 := Go.Lib.hid hWE0.out; have hW1 := Go.Lib.hid (hWE1.out.trans (hb1.mono hWE1.out.size)); have R1_l := Go.Lib.hid (RE0_l.out.below hb1 (Nat.le_refl _)); have R1_g := Go.Lib.hid (RE0_g.out.below hb1 (Nat.le_refl _)); have BE1_g := Go.Lib.hid BE0_g.out; have B1_g := Go.Lib.hid (BE1_g.out.below hb1 BE1_g.out.lt); obtain ⟨k1g0, k1g1, k1g2, k1g3⟩ := B1_g.out.cells; clear hb1)
      | (go_at_call 16; refine (alive9_ok _).mono ?_; rintro e w2 ⟨rfl, hb2⟩; have hWE2 := Go.Lib.hid hW1.out; have hW2 := Go.Lib.hid (hWE2.out.trans (hb2.mono hWE2.out.size)); clear hb2))
    go_ret
    exact ⟨rfl, hW2.out⟩
  · have d1 : decide ((150 : Int) < ll) = false := decide_eq_false h1
    go_enter Try.func6, Try.ntmps6
    go_wp2_with (first
      | (go_at_call 25; ((with_reducible refine (hck.out _ ?h1).mono ?_)); (case h1 => exact RE0_g.out); rintro e w1 ⟨rfl, hb1⟩; have hWE1 := Go.Lib.hid hWE0.out; have hW1 := Go.Lib.hid (hWE1.out.trans (hb1.mono hWE1.out.size)); have R1_l := Go.Lib.hid (RE0_l.out.below hb1 (Nat.le_refl _)); have R1_g := Go.Lib.hid (RE0_g.out.below hb1 (Nat.le_refl _)); have BE1_g := Go.Lib.hid BE0_g.out; have B1_g := Go.Lib.hid (BE1_g.out.below hb1 BE1_g.out.lt); obtain ⟨k1g0, k1g1, k1g2, k1g3⟩ := B1_g.out.cells; clear hb1)
      | (go_at_call 16; refine (alive9_ok _).mono ?_; rintro e w2 ⟨rfl, hb2⟩; have hWE2 := Go.Lib.hid hW1.out; have hW2 := Go.Lib.hid (hWE2.out.trans (hb2.mono hWE2.out.size)); clear hb2))
    go_ret
    exact ⟨rfl, hW2.out⟩

set_option maxRecDepth 100000 in
set_option maxHeartbeats 8000000 in
theorem coderBack_in (W : World) (al : Option Addr) (ll cl : Nat) (l : List Int) (m : List Nat) (aa : Option Addr) (len cap : Nat) (G : List Bool) (hl : Row .u32 W al ll cl l) (h150 : ll ≤ 150) (hlm : l = m.map Int.ofNat) (hm : m.length = ll) (hm32 : ∀ x ∈ m, x < 4294967296) (hr : Row .u8 W aa len cap (pack G)) (hG : G.length ≤ 500) :
    Calls Try.prog 6 #[.slice al ll cl, .agg #[.slice aa len cap, .int .i64 G.length]] W fun e w' => e = .returned (.bool true) ∧ Below W.heap.size W w' := by
  have hWE0 := Go.Lib.hid (below1 W (.cells #[.slice aa len cap, .int .i64 G.length] 24))
  have BE0_g := Go.Lib.hid (box1 W (.slice aa len cap) G.length)
  have RE0_g := Go.Lib.hid (hr.below hWE0.out (Nat.le_refl _))
  have RE0_l := Go.Lib.hid (hl.below hWE0.out (Nat.le_refl _))
  obtain ⟨z0, z1, z2, z3⟩ := BE0_g.out.cells
  obtain ⟨N, hN⟩ : ∃ N, N = G.length := ⟨_, rfl⟩
  obtain ⟨Z, hZ⟩ : ∃ Z, Z = codesD dStart m := ⟨_, rfl⟩
  obtain ⟨A, hA⟩ : ∃ A, A = Z.length := ⟨_, rfl⟩
  obtain ⟨mn, hmn⟩ : ∃ q, q = (A + 7) / 8 := ⟨_, rfl⟩
  obtain ⟨Y, hY⟩ : ∃ Y, Y = Z ++ G := ⟨_, rfl⟩
  obtain ⟨my, hmy⟩ : ∃ q, q = (Y.length + 7) / 8 := ⟨_, rfl⟩
  obtain ⟨M, hM⟩ : ∃ q, q = A + N := ⟨_, rfl⟩
  have lY : Y.length = M := by rw [hY, List.length_append, ← hA, hM, hN]
  have hA81 : A ≤ 81 * ll := by
    have := codesD_len_le m dStart_ok hm32
    rw [← hZ, ← hA, hm] at this
    exact this
  have hck : Hid (∀ w, Row .u8 w aa len cap (pack G) → Calls Try.prog 25 #[.agg #[.slice aa len cap, .int .i64 N]] w fun e W' => e = .returned (.int .i64 0) ∧ Below w.heap.size w W') := Go.Lib.hid fun w h => by
    rw [hN]
    exact RCheck_any w aa len cap G.length (pack G) h (bounds_of_len (by omega)) 0 (.inl ⟨⟨G, rfl, by omega, rfl⟩, rfl⟩)
  have en : Hid (∀ w, Row .u32 w al ll cl l → Res 11 #[.slice al ll cl] w mn (pack Z) A 0) := Go.Lib.hid fun w h => by
    rw [hlm] at h
    have := PEncode_ok w al ll cl m h (by omega) hm hm32
    rw [← hZ, ← hA, ← hmn] at this
    exact this
  have jn : Hid (∀ w b c, Row .u8 w b mn c (pack Z) → Row .u8 w aa len cap (pack G) → Calls Try.prog 26 #[.agg #[.slice b mn c, .int .i64 A], .agg #[.slice aa len cap, .int .i64 N]] w fun e W' => ∃ b c, e = .returned (.tuple #[.agg #[.slice b my c, .int .i64 M], .int .i64 0]) ∧ Row .u8 W' b my c (pack Y) ∧ Below w.heap.size w W') := Go.Lib.hid fun w b c h h' => by
    have := BJoin_ok w b mn c Z h aa len cap G h' (by omega)
    rw [← hY, ← hmy, ← hA, ← hN, ← hM] at this
    exact this
  have rd : Hid (∀ w b c, Row .u8 w b my c (pack Y) → ResL 13 #[.agg #[.slice b my c, .int .i64 M], .int .i64 ll] w l A 0) := Go.Lib.hid fun w b c h => by
    have e := dec_codes m [] G dStart hm32
    rw [List.nil_append, ← hZ, ← hY, List.length_nil, Nat.zero_add, hm, ← hA] at e
    have := PDecode_m w b my c Y ll h (by omega) (by omega) _ _ _ e
    rw [lY, ← hlm] at this
    exact this
  have sm : Hid (∀ w b k c, Row .u32 w al ll cl l → Row .u32 w b k c l → Calls Try.prog 21 #[.slice al ll cl, .slice b k c] w fun e W' => e = .returned (.bool true) ∧ Below w.heap.size w W') := Go.Lib.hid fun w b k c h h' => by
    have := CSame_ok w al ll cl l h b k c l h'
    simpa using this
  unfold Res at en
  unfold ResL at rd
  have d1 : decide ((150 : Int) < ll) = false := decide_eq_false (by omega)
  have d3 : decide ((500 : Int) < N) = false := decide_eq_false (by omega)
  have d4 : decide ((A : Int) ≤ 81 * (ll : Int)) = true := decide_eq_true (by omega)
  have hN' : (N : Int) ≤ 500 := by omega
  have hl' : (ll : Int) ≤ 150 := by omega
  have hA' : (A : Int) ≤ 81 * (ll : Int) := by omega
  rw [← hN] at hWE0 BE0_g RE0_g RE0_l z0 z1 z2 z3 ⊢
  clear hr hl hlm hm hm32 hG hZ hA hmn hY hmy hM lY hN hA81
  go_enter Try.func6, Try.ntmps6
  go_wp2_with (first
    | (go_at_call 25; ((with_reducible refine (hck.out _ ?h1).mono ?_)); (case h1 => exact RE0_g.out); rintro e w1 ⟨rfl, hb1⟩; have hWE1 := Go.Lib.hid hWE0.out; have hW1 := Go.Lib.hid (hWE1.out.trans (hb1.mono hWE1.out.size)); have R1_l := Go.Lib.hid (RE0_l.out.below hb1 (Nat.le_refl _)); have R1_g := Go.Lib.hid (RE0_g.out.below hb1 (Nat.le_refl _)); have BE1_g := Go.Lib.hid BE0_g.out; have B1_g := Go.Lib.hid (BE1_g.out.below hb1 BE1_g.out.lt); obtain ⟨k1g0, k1g1, k1g2, k1g3⟩ := B1_g.out.cells; clear hb1)
    | (go_at_call 11; ((with_reducible refine (en.out _ ?h1).mono ?_)); (case h1 => exact R1_l.out); rintro e w2 ⟨b2, cp2, rfl, hr2, hb2⟩; have hWE2 := Go.Lib.hid hW1.out; have hW2 := Go.Lib.hid (hWE2.out.trans (hb2.mono hWE2.out.size)); have R2_l := Go.Lib.hid (R1_l.out.below hb2 (Nat.le_refl _)); have R2_g := Go.Lib.hid (R1_g.out.below hb2 (Nat.le_refl _)); have R2_x := Go.Lib.hid hr2; clear hr2; have BE2_g := Go.Lib.hid B1_g.out; have B2_g := Go.Lib.hid (BE2_g.out.below hb2 BE2_g.out.lt); obtain ⟨k2g0, k2g1, k2g2, k2g3⟩ := B2_g.out.cells; have l2g := B2_g.out.lt; have n2g : W.heap.size ≠ w2.heap.size := (by omega); clear hb2)
    | (go_at_call 26; ((with_reducible refine (jn.out _ _ _ ?h1 ?h2).mono ?_)); (case h1 => exact (R2_x.out.below (below1 w2 (.cells #[(.slice b2 mn cp2), .int .i64 A] 24)) (Nat.le_refl _))); (case h2 => exact (R2_g.out.below (below1 w2 (.cells #[(.slice b2 mn cp2), .int .i64 A] 24)) (Nat.le_refl _))); rintro e w3 ⟨b3, cp3, rfl, hr3, hb3⟩; have hWE3 := Go.Lib.hid (hW2.out.alloc hW2.out.size (.cells #[(.slice b2 mn cp2), .int .i64 A] 24)); have hW3 := Go.Lib.hid (hWE3.out.trans (hb3.mono hWE3.out.size)); have R3_l := Go.Lib.hid ((R2_l.out.below (below1 w2 (.cells #[(.slice b2 mn cp2), .int .i64 A] 24)) (Nat.le_refl _)).below hb3 (Nat.le_refl _)); have R3_g := Go.Lib.hid ((R2_g.out.below (below1 w2 (.cells #[(.slice b2 mn cp2), .int .i64 A] 24)) (Nat.le_refl _)).below hb3 (Nat.le_refl _)); have R3_x := Go.Lib.hid ((R2_x.out.below (below1 w2 (.cells #[(.slice b2 mn cp2), .int .i64 A] 24)) (Nat.le_refl _)).below hb3 (Nat.le_refl _)); have R3_y := Go.Lib.hid hr3; clear hr3; have BE3_g := Go.Lib.hid (B2_g.out.alloc (.cells #[(.slice b2 mn cp2), .int .i64 A] 24)); have B3_g := Go.Lib.hid (BE3_g.out.below hb3 BE3_g.out.lt); obtain ⟨k3g0, k3g1, k3g2, k3g3⟩ := B3_g.out.cells; have BE3_x := Go.Lib.hid (box1 w2 (.slice b2 mn cp2) A); have B3_x := Go.Lib.hid (BE3_x.out.below hb3 BE3_x.out.lt); obtain ⟨k3x0, k3x1, k3x2, k3x3⟩ := B3_x.out.cells; have l3g := B3_g.out.lt; have n3g : W.heap.size ≠ w3.heap.size := (by omega); have l3x := B3_x.out.lt; have n3x : w2.heap.size ≠ w3.heap.size := (by omega); clear hb3)
    | (go_at_call 13; ((with_reducible refine (rd.out _ _ _ ?h1).mono ?_)); (case h1 => exact (R3_y.out.below (below1 w3 (.cells #[(.slice b3 my cp3), .int .i64 M] 24)) (Nat.le_refl _))); rintro e w4 ⟨b4, n4, cp4, rfl, hr4, hb4⟩; have hWE4 := Go.Lib.hid (hW3.out.alloc hW3.out.size (.cells #[(.slice b3 my cp3), .int .i64 M] 24)); have hW4 := Go.Lib.hid (hWE4.out.trans (hb4.mono hWE4.out.size)); have R4_l := Go.Lib.hid ((R3_l.out.below (below1 w3 (.cells #[(.slice b3 my cp3), .int .i64 M] 24)) (Nat.le_refl _)).below hb4 (Nat.le_refl _)); have R4_g := Go.Lib.hid ((R3_g.out.below (below1 w3 (.cells #[(.slice b3 my cp3), .int .i64 M] 24)) (Nat.le_refl _)).below hb4 (Nat.le_refl _)); have R4_x := Go.Lib.hid ((R3_x.out.below (below1 w3 (.cells #[(.slice b3 my cp3), .int .i64 M] 24)) (Nat.le_refl _)).below hb4 (Nat.le_refl _)); have R4_y := Go.Lib.hid ((R3_y.out.below (below1 w3 (.cells #[(.slice b3 my cp3), .int .i64 M] 24)) (Nat.le_refl _)).below hb4 (Nat.le_refl _)); have R4_m := Go.Lib.hid hr4; clear hr4; have BE4_g := Go.Lib.hid (B3_g.out.alloc (.cells #[(.slice b3 my cp3), .int .i64 M] 24)); have B4_g := Go.Lib.hid (BE4_g.out.below hb4 BE4_g.out.lt); obtain ⟨k4g0, k4g1, k4g2, k4g3⟩ := B4_g.out.cells; have BE4_x := Go.Lib.hid (B3_x.out.alloc (.cells #[(.slice b3 my cp3), .int .i64 M] 24)); have B4_x := Go.Lib.hid (BE4_x.out.below hb4 BE4_x.out.lt); obtain ⟨k4x0, k4x1, k4x2, k4x3⟩ := B4_x.out.cells; have BE4_y := Go.Lib.hid (box1 w3 (.slice b3 my cp3) M); have B4_y := Go.Lib.hid (BE4_y.out.below hb4 BE4_y.out.lt); obtain ⟨k4y0, k4y1, k4y2, k4y3⟩ := B4_y.out.cells; clear hb4)
    | (go_at_call 21; ((with_reducible refine (sm.out _ _ _ _ ?h1 ?h2).mono ?_)); (case h1 => exact R4_l.out); (case h2 => exact R4_m.out); rintro e w5 ⟨rfl, hb5⟩; have hWE5 := Go.Lib.hid hW4.out; have hW5 := Go.Lib.hid (hWE5.out.trans (hb5.mono hWE5.out.size)); have R5_l := Go.Lib.hid (R4_l.out.below hb5 (Nat.le_refl _)); have R5_g := Go.Lib.hid (R4_g.out.below hb5 (Nat.le_refl _)); have R5_x := Go.Lib.hid (R4_x.out.below hb5 (Nat.le_refl _)); have R5_y := Go.Lib.hid (R4_y.out.below hb5 (Nat.le_refl _)); have R5_m := Go.Lib.hid (R4_m.out.below hb5 (Nat.le_refl _)); have BE5_g := Go.Lib.hid B4_g.out; have B5_g := Go.Lib.hid (BE5_g.out.below hb5 BE5_g.out.lt); obtain ⟨k5g0, k5g1, k5g2, k5g3⟩ := B5_g.out.cells; have BE5_x := Go.Lib.hid B4_x.out; have B5_x := Go.Lib.hid (BE5_x.out.below hb5 BE5_x.out.lt); obtain ⟨k5x0, k5x1, k5x2, k5x3⟩ := B5_x.out.cells; have BE5_y := Go.Lib.hid B4_y.out; have B5_y := Go.Lib.hid (BE5_y.out.below hb5 BE5_y.out.lt); obtain ⟨k5y0, k5y1, k5y2, k5y3⟩ := B5_y.out.cells; clear hb5)
    | (go_at_call 16; refine (alive9_ok _).mono ?_; rintro e w6 ⟨rfl, hb6⟩; have hWE6 := Go.Lib.hid hW5.out; have hW6 := Go.Lib.hid (hWE6.out.trans (hb6.mono hWE6.out.size)); clear hb6))
  go_ret
  exact ⟨rfl, hW6.out⟩

theorem coderBack_walk (ax0 : Option Addr) (lenx0 capx0 : Nat) (zx0 : List Int) (ax1_0 : Option Addr) (lenx1_0 capx1_0 : Nat) (zx1_0 : List Int) (x1_1 : Int) (W : World) (wx0 : IsRow .u32 W ax0 lenx0 capx0 zx0) (wx1_0 : IsRow .u8 W ax1_0 lenx1_0 capx1_0 zx1_0) (wx1_1 : (Lit.int .i64 x1_1).wf = true) :
    Calls Try.prog 6 #[.slice ax0 lenx0 capx0, .agg #[.slice ax1_0 lenx1_0 capx1_0, .int .i64 x1_1]] W fun e w' => e = .returned (.bool true) ∧ Below W.heap.size W w' := by
  have hl := Row.of_isRow wx0
  have hr := Row.of_isRow wx1_0
  have hm := Nat.le_trans hl.hcap hl.hmax
  unfold maxLen at hm
  have hkk : ∃ r, chk (zx1_0.take lenx1_0) x1_1 r := by
    by_cases hv : Valid (zx1_0.take lenx1_0) x1_1
    · exact ⟨0, .inl ⟨hv, rfl⟩⟩
    · exact ⟨8, .inr ⟨hv, rfl⟩⟩
  obtain ⟨r, hk⟩ := hkk
  by_cases h : 150 < lenx0 ∨ r = 8 ∨ (r = 0 ∧ 500 < x1_1)
  · exact coderBack_out W _ _ _ _ _ _ _ _ _ hl (by omega) hr wx1_1 r hk h
  · rcases hk with ⟨⟨B, hB1, hB2, hB3⟩, rfl⟩ | ⟨_, rfl⟩
    · obtain ⟨m, h2, h3⟩ := nats_of hl.wf
      rw [hB3] at hr
      rw [← hB1] at h ⊢
      exact coderBack_in W _ _ _ _ m _ _ _ B hl (by omega) h2 (by rw [← hl.hlen, h2, List.length_map]) h3 hr (by omega)
    · omega
end Go.Proofs.Ytifbigmgiakakaa
