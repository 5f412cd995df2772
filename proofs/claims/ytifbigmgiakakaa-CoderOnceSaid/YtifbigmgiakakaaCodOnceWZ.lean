/- CoderOnce: what is decoded has just the bits that were read as its code. -/
import Derived.Test.YtifbigmgiakakaaZ9

namespace Go.Proofs.Ytifbigmgiakakaa
open Go.RowKit Cad

set_option maxRecDepth 100000 in
set_option maxHeartbeats 2000000 in
theorem coderOnce_out (W : World) (aa : Option Addr) (len cap : Nat) (l : List Int) (N n : Int) (hr : Row .u8 W aa len cap l) (hN : (Lit.int .i64 N).wf = true) (r : Int) (hk : chk l N r)
    (h : r = 8 ∨ (r = 0 ∧ (1500 < N ∨ n < 0 ∨ 150 < n))) :
    Calls Try.prog 8 #[.agg #[.slice aa len cap, .int .i64 N], .int .i64 n] W fun e w' => e = .returned (.bool true) ∧ Below W.heap.size W w' := by
  have hWE0 := Go.Lib.hid (below1 W (.cells #[.slice aa len cap, .int .i64 N] 24))
  have BE0_b := Go.Lib.hid (box1 W (.slice aa len cap) N)
  have RE0_b := Go.Lib.hid (hr.below hWE0.out (Nat.le_refl _))
  obtain ⟨z0, z1, z2, z3⟩ := BE0_b.out.cells
  have hck : Hid (∀ w, Row .u8 w aa len cap l → Calls Try.prog 25 #[.agg #[.slice aa len cap, .int .i64 N]] w fun e W' => e = .returned (.int .i64 r) ∧ Below w.heap.size w W') := Go.Lib.hid fun w h => RCheck_any w aa len cap N l h hN r hk
  have key : (r = 8) ∨ (r = 0 ∧ 1500 < N) ∨ (r = 0 ∧ ¬ 1500 < N ∧ n < 0) ∨ (r = 0 ∧ ¬ 1500 < N ∧ ¬ n < 0 ∧ 150 < n) := by omega
  clear h hr hN hk
  rcases key with rfl | ⟨rfl, h⟩ | ⟨rfl, h1, h2⟩ | ⟨rfl, h1, h2, h3⟩
  · go_enter Try.func8, Try.ntmps8
    go_wp2_with (first
      | (go_at_call 25; ((with_reducible refine (hck.out _ ?h1).mono ?_)); (case h1 => exact RE0_b.out); rintro e w1 ⟨rfl, hb1⟩; have hWE1 := Go.Lib.hid hWE0.out; have hW1 := Go.Lib.hid (hWE1.out.trans (hb1.mono hWE1.out.size)); have R1_b := Go.Lib.hid (RE0_b.out.below hb1 (Nat.le_refl _)); have BE1_b := Go.Lib.hid BE0_b.out; have B1_b := Go.Lib.hid (BE1_b.out.below hb1 BE1_b.out.lt); obtain ⟨k1b0, k1b1, k1b2, k1b3⟩ := B1_b.out.cells; clear hb1)
      | (go_at_call 16; refine (alive9_ok _).mono ?_; rintro e w2 ⟨rfl, hb2⟩; have hWE2 := Go.Lib.hid hW1.out; have hW2 := Go.Lib.hid (hWE2.out.trans (hb2.mono hWE2.out.size)); clear hb2))
    go_ret
    exact ⟨rfl, hW2.out⟩
  · go_enter Try.func8, Try.ntmps8
    go_wp2_with (first
      | (go_at_call 25; ((with_reducible refine (hck.out _ ?h1).mono ?_)); (case h1 => exact RE0_b.out); rintro e w1 ⟨rfl, hb1⟩; have hWE1 := Go.Lib.hid hWE0.out; have hW1 := Go.Lib.hid (hWE1.out.trans (hb1.mono hWE1.out.size)); have R1_b := Go.Lib.hid (RE0_b.out.below hb1 (Nat.le_refl _)); have BE1_b := Go.Lib.hid BE0_b.out; have B1_b := Go.Lib.hid (BE1_b.out.below hb1 BE1_b.out.lt); obtain ⟨k1b0, k1b1, k1b2, k1b3⟩ := B1_b.out.cells; clear hb1)
      | (go_at_call 16; refine (alive9_ok _).mono ?_; rintro e w2 ⟨rfl, hb2⟩; have hWE2 := Go.Lib.hid hW1.out; have hW2 := Go.Lib.hid (hWE2.out.trans (hb2.mono hWE2.out.size)); clear hb2))
    go_ret
    exact ⟨rfl, hW2.out⟩
  · have d1 : decide ((1500 : Int) < N) = false := decide_eq_false h1
    go_enter Try.func8, Try.ntmps8
    go_wp2_with (first
      | (go_at_call 25; ((with_reducible refine (hck.out _ ?h1).mono ?_)); (case h1 => exact RE0_b.out); rintro e w1 ⟨rfl, hb1⟩; have hWE1 := Go.Lib.hid hWE0.out; have hW1 := Go.Lib.hid (hWE1.out.trans (hb1.mono hWE1.out.size)); have R1_b := Go.Lib.hid (RE0_b.out.below hb1 (Nat.le_refl _)); have BE1_b := Go.Lib.hid BE0_b.out; have B1_b := Go.Lib.hid (BE1_b.out.below hb1 BE1_b.out.lt); obtain ⟨k1b0, k1b1, k1b2, k1b3⟩ := B1_b.out.cells; clear hb1)
      | (go_at_call 16; refine (alive9_ok _).mono ?_; rintro e w2 ⟨rfl, hb2⟩; have hWE2 := Go.Lib.hid hW1.out; have hW2 := Go.Lib.hid (hWE2.out.trans (hb2.mono hWE2.out.size)); clear hb2))
    go_ret
    exact ⟨rfl, hW2.out⟩
  · have d1 : decide ((1500 : Int) < N) = false := decide_eq_false h1
    have d2 : decide (n < 0) = false := decide_eq_false h2
    go_enter Try.func8, Try.ntmps8
    go_wp2_with (first
      | (go_at_call 25; ((with_reducible refine (hck.out _ ?h1).mono ?_)); (case h1 => exact RE0_b.out); rintro e w1 ⟨rfl, hb1⟩; have hWE1 := Go.Lib.hid hWE0.out; have hW1 := Go.Lib.hid (hWE1.out.trans (hb1.mono hWE1.out.size)); have R1_b := Go.Lib.hid (RE0_b.out.below hb1 (Nat.le_refl _)); have BE1_b := Go.Lib.hid BE0_b.out; have B1_b := Go.Lib.hid (BE1_b.out.below hb1 BE1_b.out.lt); obtain ⟨k1b0, k1b1, k1b2, k1b3⟩ := B1_b.out.cells; clear hb1)
      | (go_at_call 16; refine (alive9_ok _).mono ?_; rintro e w2 ⟨rfl, hb2⟩; have hWE2 := Go.Lib.hid hW1.out; have hW2 := Go.Lib.hid (hWE2.out.trans (hb2.mono hWE2.out.size)); clear hb2))
    go_ret
    exact ⟨rfl, hW2.out⟩

set_option maxRecDepth 100000 in
set_option maxHeartbeats 4000000 in
theorem coderOnce_no (W : World) (aa : Option Addr) (len cap : Nat) (B : List Bool) (n er : Nat) (hr : Row .u8 W aa len cap (pack B)) (hB : B.length ≤ 1500) (hn : n ≤ 150) (hv : decD B n 0 dStart = ([], 0, er)) (he : er = 24 ∨ er = 12) :
    Calls Try.prog 8 #[.agg #[.slice aa len cap, .int .i64 B.length], .int .i64 n] W fun e w' => e = .returned (.bool true) ∧ Below W.heap.size W w' := by
  have hWE0 := Go.Lib.hid (below1 W (.cells #[.slice aa len cap, .int .i64 B.length] 24))
  have BE0_b := Go.Lib.hid (box1 W (.slice aa len cap) B.length)
  have RE0_b := Go.Lib.hid (hr.below hWE0.out (Nat.le_refl _))
  obtain ⟨z0, z1, z2, z3⟩ := BE0_b.out.cells
  obtain ⟨N, hN⟩ : ∃ N, N = B.length := ⟨_, rfl⟩
  have hck : Hid (∀ w, Row .u8 w aa len cap (pack B) → Calls Try.prog 25 #[.agg #[.slice aa len cap, .int .i64 N]] w fun e W' => e = .returned (.int .i64 0) ∧ Below w.heap.size w W') := Go.Lib.hid fun w h => by
    rw [hN]
    exact RCheck_any w aa len cap B.length (pack B) h (bounds_of_len (by omega)) 0 (.inl ⟨⟨B, rfl, by omega, rfl⟩, rfl⟩)
  have d1 : decide ((1500 : Int) < N) = false := decide_eq_false (by omega)
  have d2 : decide ((n : Int) < 0) = false := decide_eq_false (by omega)
  have d3 : decide ((150 : Int) < n) = false := decide_eq_false (by omega)
  have hN' : (N : Int) ≤ 1500 := by omega
  have hn' : (n : Int) ≤ 150 := by omega
  rw [← hN] at hWE0 BE0_b RE0_b z0 z1 z2 z3 ⊢
  obtain ⟨er', her⟩ : ∃ er' : Int, er' = er := ⟨_, rfl⟩
  have rd : Hid (∀ w, Row .u8 w aa len cap (pack B) → Calls Try.prog 13 #[.agg #[.slice aa len cap, .int .i64 N], .int .i64 n] w fun r W' => ∃ a c, r = .returned (.tuple #[.slice a 0 c, .int .i64 0, .int .i64 er']) ∧ Below w.heap.size w W') := Go.Lib.hid fun w h => by
    rw [hN, her]
    refine (PDecode_m w aa len cap B n h (by omega) (by omega) _ _ _ hv).mono ?_
    rintro r W' ⟨a, k, c, rfl, h2, h3⟩
    obtain rfl : k = 0 := h2.hlen.symm
    exact ⟨a, c, rfl, h3⟩
  have he' : er' = 24 ∨ er' = 12 := by omega
  clear hv hN hr hB hn her he
  rcases he' with rfl | rfl
  · go_enter Try.func8, Try.ntmps8
    go_wp2_with (first
      | (go_at_call 25; ((with_reducible refine (hck.out _ ?h1).mono ?_)); (case h1 => exact RE0_b.out); rintro e w1 ⟨rfl, hb1⟩; have hWE1 := Go.Lib.hid hWE0.out; have hW1 := Go.Lib.hid (hWE1.out.trans (hb1.mono hWE1.out.size)); have R1_b := Go.Lib.hid (RE0_b.out.below hb1 (Nat.le_refl _)); have BE1_b := Go.Lib.hid BE0_b.out; have B1_b := Go.Lib.hid (BE1_b.out.below hb1 BE1_b.out.lt); obtain ⟨k1b0, k1b1, k1b2, k1b3⟩ := B1_b.out.cells; clear hb1)
      | (go_at_call 13; ((with_reducible refine (rd.out _ ?h1).mono ?_)); (case h1 => exact R1_b.out); rintro e w2 ⟨b2, cp2, rfl, hb2⟩; have hWE2 := Go.Lib.hid hW1.out; have hW2 := Go.Lib.hid (hWE2.out.trans (hb2.mono hWE2.out.size)); have R2_b := Go.Lib.hid (R1_b.out.below hb2 (Nat.le_refl _)); have BE2_b := Go.Lib.hid B1_b.out; have B2_b := Go.Lib.hid (BE2_b.out.below hb2 BE2_b.out.lt); obtain ⟨k2b0, k2b1, k2b2, k2b3⟩ := B2_b.out.cells; clear hb2)
      | (go_at_call 16; refine (alive9_ok _).mono ?_; rintro e w3 ⟨rfl, hb3⟩; have hWE3 := Go.Lib.hid hW2.out; have hW3 := Go.Lib.hid (hWE3.out.trans (hb3.mono hWE3.out.size)); clear hb3))
    go_ret
    exact ⟨rfl, hW3.out⟩
  · go_enter Try.func8, Try.ntmps8
    go_wp2_with (first
      | (go_at_call 25; ((with_reducible refine (hck.out _ ?h1).mono ?_)); (case h1 => exact RE0_b.out); rintro e w1 ⟨rfl, hb1⟩; have hWE1 := Go.Lib.hid hWE0.out; have hW1 := Go.Lib.hid (hWE1.out.trans (hb1.mono hWE1.out.size)); have R1_b := Go.Lib.hid (RE0_b.out.below hb1 (Nat.le_refl _)); have BE1_b := Go.Lib.hid BE0_b.out; have B1_b := Go.Lib.hid (BE1_b.out.below hb1 BE1_b.out.lt); obtain ⟨k1b0, k1b1, k1b2, k1b3⟩ := B1_b.out.cells; clear hb1)
      | (go_at_call 13; ((with_reducible refine (rd.out _ ?h1).mono ?_)); (case h1 => exact R1_b.out); rintro e w2 ⟨b2, cp2, rfl, hb2⟩; have hWE2 := Go.Lib.hid hW1.out; have hW2 := Go.Lib.hid (hWE2.out.trans (hb2.mono hWE2.out.size)); have R2_b := Go.Lib.hid (R1_b.out.below hb2 (Nat.le_refl _)); have BE2_b := Go.Lib.hid B1_b.out; have B2_b := Go.Lib.hid (BE2_b.out.below hb2 BE2_b.out.lt); obtain ⟨k2b0, k2b1, k2b2, k2b3⟩ := B2_b.out.cells; clear hb2)
      | (go_at_call 16; refine (alive9_ok _).mono ?_; rintro e w3 ⟨rfl, hb3⟩; have hWE3 := Go.Lib.hid hW2.out; have hW3 := Go.Lib.hid (hWE3.out.trans (hb3.mono hWE3.out.size)); clear hb3))
    go_ret
    exact ⟨rfl, hW3.out⟩

set_option maxRecDepth 100000 in
set_option maxHeartbeats 4000000 in
theorem coderOnce_yes (W : World) (aa : Option Addr) (len cap : Nat) (B : List Bool) (n : Nat) (lz : List Nat) (q : Nat) (hr : Row .u8 W aa len cap (pack B)) (hB : B.length ≤ 1500) (hn : n ≤ 150) (hv : decD B n 0 dStart = (lz, q, 0)) :
    Calls Try.prog 8 #[.agg #[.slice aa len cap, .int .i64 B.length], .int .i64 n] W fun e w' => e = .returned (.bool true) ∧ Below W.heap.size W w' := by
  have hWE0 := Go.Lib.hid (below1 W (.cells #[.slice aa len cap, .int .i64 B.length] 24))
  have BE0_b := Go.Lib.hid (box1 W (.slice aa len cap) B.length)
  have RE0_b := Go.Lib.hid (hr.below hWE0.out (Nat.le_refl _))
  obtain ⟨z0, z1, z2, z3⟩ := BE0_b.out.cells
  obtain ⟨N, hN⟩ : ∃ N, N = B.length := ⟨_, rfl⟩
  have hck : Hid (∀ w, Row .u8 w aa len cap (pack B) → Calls Try.prog 25 #[.agg #[.slice aa len cap, .int .i64 N]] w fun e W' => e = .returned (.int .i64 0) ∧ Below w.heap.size w W') := Go.Lib.hid fun w h => by
    rw [hN]
    exact RCheck_any w aa len cap B.length (pack B) h (bounds_of_len (by omega)) 0 (.inl ⟨⟨B, rfl, by omega, rfl⟩, rfl⟩)
  have d1 : decide ((1500 : Int) < N) = false := decide_eq_false (by omega)
  have d2 : decide ((n : Int) < 0) = false := decide_eq_false (by omega)
  have d3 : decide ((150 : Int) < n) = false := decide_eq_false (by omega)
  have hN' : (N : Int) ≤ 1500 := by omega
  have hn' : (n : Int) ≤ 150 := by omega
  obtain ⟨hln, h32, hq, hqN, hmid⟩ := dec_is n hv (Nat.zero_le _) dStart_ok
  rw [Nat.zero_add] at hq
  obtain ⟨A, hA⟩ : ∃ A, A = q := ⟨_, rfl⟩
  obtain ⟨mn, hmn⟩ : ∃ q, q = (A + 7) / 8 := ⟨_, rfl⟩
  obtain ⟨Y, hY⟩ : ∃ Y, Y = codesD dStart lz := ⟨_, rfl⟩
  rw [← hY] at hmid hq
  have rd : Hid (∀ w, Row .u8 w aa len cap (pack B) → Calls Try.prog 13 #[.agg #[.slice aa len cap, .int .i64 N], .int .i64 n] w fun r W' => ∃ a c, r = .returned (.tuple #[.slice a n c, .int .i64 A, .int .i64 0]) ∧ Row .u32 W' a n c (lz.map Int.ofNat) ∧ Below w.heap.size w W') := Go.Lib.hid fun w h => by
    rw [hN, hA]
    refine (PDecode_m w aa len cap B n h (by omega) (by omega) _ _ _ hv).mono ?_
    rintro r W' ⟨a, k, c, rfl, h2, h3⟩
    obtain rfl : k = n := by rw [← h2.hlen, List.length_map, hln]
    exact ⟨a, c, rfl, h2, h3⟩
  have kn : Hid (∀ w, Row .u8 w aa len cap (pack B) → Calls Try.prog 29 #[.agg #[.slice aa len cap, .int .i64 N], .int .i64 0, .int .i64 A] w fun e W' => ∃ b c, e = .returned (.tuple #[.agg #[.slice b mn c, .int .i64 A], .int .i64 0]) ∧ Row .u8 W' b mn c (pack Y) ∧ Below w.heap.size w W') := Go.Lib.hid fun w h => by
    have := BCut_ok w aa len cap B 0 q h (by omega) (Nat.zero_le _) hqN
    rw [hmid, ← hq, ← hA, ← hmn, Nat.sub_zero, ← hN] at this
    exact this
  have en : Hid (∀ w b c, Row .u32 w b n c (lz.map Int.ofNat) → Res 11 #[.slice b n c] w mn (pack Y) A 0) := Go.Lib.hid fun w b c h => by
    have := PEncode_ok w b n c lz h (by omega) hln h32
    rw [← hY, ← hq, ← hA, ← hmn] at this
    exact this
  unfold Res at en
  have sm : Hid (∀ w a c a' c', Row .u8 w a mn c (pack Y) → Row .u8 w a' mn c' (pack Y) → Calls Try.prog 20 #[.agg #[.slice a mn c, .int .i64 A], .agg #[.slice a' mn c', .int .i64 A]] w fun e W' => e = .returned (.bool true) ∧ Below w.heap.size w W') := Go.Lib.hid fun w a c a' c' h h' => by
    have := RSame_ok w a mn c A (pack Y) h a' mn c' A (pack Y) h'
    simpa using this
  have d6 : decide ((A : Int) < 0) = false := decide_eq_false (by omega)
  have d7 : decide ((N : Int) < A) = false := decide_eq_false (by omega)
  have hq2 : (A : Int) ≤ N := by omega
  rw [← hN] at hWE0 BE0_b RE0_b z0 z1 z2 z3 ⊢
  clear hv hN hr hB hq hqN hmid hA hmn hY hln h32
  go_enter Try.func8, Try.ntmps8
  go_wp2_with (first
    | (go_at_call 25; ((with_reducible refine (hck.out _ ?h1).mono ?_)); (case h1 => exact RE0_b.out); rintro e w1 ⟨rfl, hb1⟩; have hWE1 := Go.Lib.hid hWE0.out; have hW1 := Go.Lib.hid (hWE1.out.trans (hb1.mono hWE1.out.size)); have R1_b := Go.Lib.hid (RE0_b.out.below hb1 (Nat.le_refl _)); have BE1_b := Go.Lib.hid BE0_b.out; have B1_b := Go.Lib.hid (BE1_b.out.below hb1 BE1_b.out.lt); obtain ⟨k1b0, k1b1, k1b2, k1b3⟩ := B1_b.out.cells; clear hb1)
    | (go_at_call 13; ((with_reducible refine (rd.out _ ?h1).mono ?_)); (case h1 => exact R1_b.out); rintro e w2 ⟨b2, cp2, rfl, hr2, hb2⟩; have hWE2 := Go.Lib.hid hW1.out; have hW2 := Go.Lib.hid (hWE2.out.trans (hb2.mono hWE2.out.size)); have R2_b := Go.Lib.hid (R1_b.out.below hb2 (Nat.le_refl _)); have R2_l := Go.Lib.hid hr2; clear hr2; have BE2_b := Go.Lib.hid B1_b.out; have B2_b := Go.Lib.hid (BE2_b.out.below hb2 BE2_b.out.lt); obtain ⟨k2b0, k2b1, k2b2, k2b3⟩ := B2_b.out.cells; clear hb2)
    | (go_at_call 29; ((with_reducible refine (kn.out _ ?h1).mono ?_)); (case h1 => exact R2_b.out); rintro e w3 ⟨b3, cp3, rfl, hr3, hb3⟩; have hWE3 := Go.Lib.hid hW2.out; have hW3 := Go.Lib.hid (hWE3.out.trans (hb3.mono hWE3.out.size)); have R3_b := Go.Lib.hid (R2_b.out.below hb3 (Nat.le_refl _)); have R3_l := Go.Lib.hid (R2_l.out.below hb3 (Nat.le_refl _)); have R3_p := Go.Lib.hid hr3; clear hr3; have BE3_b := Go.Lib.hid B2_b.out; have B3_b := Go.Lib.hid (BE3_b.out.below hb3 BE3_b.out.lt); obtain ⟨k3b0, k3b1, k3b2, k3b3⟩ := B3_b.out.cells; have l3b := B3_b.out.lt; have n3b : W.heap.size ≠ w3.heap.size := (by omega); clear hb3)
    | (go_at_call 11; ((with_reducible refine (en.out _ _ _ ?h1).mono ?_)); (case h1 => exact (R3_l.out.below (below1 w3 (.cells #[(.slice b3 mn cp3), .int .i64 A] 24)) (Nat.le_refl _))); rintro e w4 ⟨b4, cp4, rfl, hr4, hb4⟩; have hWE4 := Go.Lib.hid (hW3.out.alloc hW3.out.size (.cells #[(.slice b3 mn cp3), .int .i64 A] 24)); have hW4 := Go.Lib.hid (hWE4.out.trans (hb4.mono hWE4.out.size)); have R4_b := Go.Lib.hid ((R3_b.out.below (below1 w3 (.cells #[(.slice b3 mn cp3), .int .i64 A] 24)) (Nat.le_refl _)).below hb4 (Nat.le_refl _)); have R4_l := Go.Lib.hid ((R3_l.out.below (below1 w3 (.cells #[(.slice b3 mn cp3), .int .i64 A] 24)) (Nat.le_refl _)).below hb4 (Nat.le_refl _)); have R4_p := Go.Lib.hid ((R3_p.out.below (below1 w3 (.cells #[(.slice b3 mn cp3), .int .i64 A] 24)) (Nat.le_refl _)).below hb4 (Nat.le_refl _)); have R4_q := Go.Lib.hid hr4; clear hr4; have BE4_b := Go.Lib.hid (B3_b.out.alloc (.cells #[(.slice b3 mn cp3), .int .i64 A] 24)); have B4_b := Go.Lib.hid (BE4_b.out.below hb4 BE4_b.out.lt); obtain ⟨k4b0, k4b1, k4b2, k4b3⟩ := B4_b.out.cells; have BE4_p := Go.Lib.hid (box1 w3 (.slice b3 mn cp3) A); have B4_p := Go.Lib.hid (BE4_p.out.below hb4 BE4_p.out.lt); obtain ⟨k4p0, k4p1, k4p2, k4p3⟩ := B4_p.out.cells; have l4b := B4_b.out.lt; have n4b : W.heap.size ≠ w4.heap.size := (by omega); have l4p := B4_p.out.lt; have n4p : w3.heap.size ≠ w4.heap.size := (by omega); clear hb4)
    | (go_at_call 20; ((with_reducible refine (sm.out _ _ _ _ _ ?h1 ?h2).mono ?_)); (case h1 => exact (R4_p.out.below (below1 w4 (.cells #[(.slice b4 mn cp4), .int .i64 A] 24)) (Nat.le_refl _))); (case h2 => exact (R4_q.out.below (below1 w4 (.cells #[(.slice b4 mn cp4), .int .i64 A] 24)) (Nat.le_refl _))); rintro e w5 ⟨rfl, hb5⟩; have hWE5 := Go.Lib.hid (hW4.out.alloc hW4.out.size (.cells #[(.slice b4 mn cp4), .int .i64 A] 24)); have hW5 := Go.Lib.hid (hWE5.out.trans (hb5.mono hWE5.out.size)); have R5_b := Go.Lib.hid ((R4_b.out.below (below1 w4 (.cells #[(.slice b4 mn cp4), .int .i64 A] 24)) (Nat.le_refl _)).below hb5 (Nat.le_refl _)); have R5_l := Go.Lib.hid ((R4_l.out.below (below1 w4 (.cells #[(.slice b4 mn cp4), .int .i64 A] 24)) (Nat.le_refl _)).below hb5 (Nat.le_refl _)); have R5_p := Go.Lib.hid ((R4_p.out.below (below1 w4 (.cells #[(.slice b4 mn cp4), .int .i64 A] 24)) (Nat.le_refl _)).below hb5 (Nat.le_refl _)); have R5_q := Go.Lib.hid ((R4_q.out.below (below1 w4 (.cells #[(.slice b4 mn cp4), .int .i64 A] 24)) (Nat.le_refl _)).below hb5 (Nat.le_refl _)); have BE5_b := Go.Lib.hid (B4_b.out.alloc (.cells #[(.slice b4 mn cp4), .int .i64 A] 24)); have B5_b := Go.Lib.hid (BE5_b.out.below hb5 BE5_b.out.lt); obtain ⟨k5b0, k5b1, k5b2, k5b3⟩ := B5_b.out.cells; have BE5_p := Go.Lib.hid (B4_p.out.alloc (.cells #[(.slice b4 mn cp4), .int .i64 A] 24)); have B5_p := Go.Lib.hid (BE5_p.out.below hb5 BE5_p.out.lt); obtain ⟨k5p0, k5p1, k5p2, k5p3⟩ := B5_p.out.cells; have BE5_q := Go.Lib.hid (box1 w4 (.slice b4 mn cp4) A); have B5_q := Go.Lib.hid (BE5_q.out.below hb5 BE5_q.out.lt); obtain ⟨k5q0, k5q1, k5q2, k5q3⟩ := B5_q.out.cells; clear hb5)
    | (go_at_call 16; refine (alive9_ok _).mono ?_; rintro e w6 ⟨rfl, hb6⟩; have hWE6 := Go.Lib.hid hW5.out; have hW6 := Go.Lib.hid (hWE6.out.trans (hb6.mono hWE6.out.size)); clear hb6))
  go_ret
  exact ⟨rfl, hW6.out⟩

theorem coderOnce_walk (ax0_0 : Option Addr) (lenx0_0 capx0_0 : Nat) (zx0_0 : List Int) (x0_1 : Int) (x1 : Int) (W : World) (wx0_0 : IsRow .u8 W ax0_0 lenx0_0 capx0_0 zx0_0) (wx0_1 : (Lit.int .i64 x0_1).wf = true) (wx1 : (Lit.int .i64 x1).wf = true) :
    Calls Try.prog 8 #[.agg #[.slice ax0_0 lenx0_0 capx0_0, .int .i64 x0_1], .int .i64 x1] W fun e w' => e = .returned (.bool true) ∧ Below W.heap.size W w' := by
  have hr := Row.of_isRow wx0_0
  have hkk : ∃ r, chk (zx0_0.take lenx0_0) x0_1 r := by
    by_cases hv : Valid (zx0_0.take lenx0_0) x0_1
    · exact ⟨0, .inl ⟨hv, rfl⟩⟩
    · exact ⟨8, .inr ⟨hv, rfl⟩⟩
  obtain ⟨r, hk⟩ := hkk
  by_cases h : r = 8 ∨ (r = 0 ∧ (1500 < x0_1 ∨ x1 < 0 ∨ 150 < x1))
  · exact coderOnce_out W _ _ _ _ _ _ hr wx0_1 r hk h
  · rcases hk with ⟨⟨B, hB1, hB2, hB3⟩, rfl⟩ | ⟨_, rfl⟩
    · obtain ⟨n, rfl⟩ : ∃ n : Nat, x1 = n := ⟨x1.toNat, by omega⟩
      rw [hB3] at hr
      rw [← hB1] at h ⊢
      obtain ⟨l, q, er, hv⟩ : ∃ p q er, decD B n 0 dStart = (p, q, er) := ⟨_, _, _, rfl⟩
      by_cases he : er = 0
      · subst he
        exact coderOnce_yes W _ _ _ B n l q hr (by omega) (by omega) hv
      · obtain ⟨rfl, rfl, h3⟩ := dec_no n hv he (Nat.zero_le _) dStart_ok
        exact coderOnce_no W _ _ _ B n er hr (by omega) (by omega) hv h3
    · omega
end Go.Proofs.Ytifbigmgiakakaa
