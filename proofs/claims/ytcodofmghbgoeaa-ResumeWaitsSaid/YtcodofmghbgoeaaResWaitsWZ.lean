/- ResumeWaits: the bits that were fed are the codes of the numbers, and Rest. -/
import Derived.Test.YtcodofmghbgoeaaZ11

namespace Go.Proofs.Ytcodofmghbgoeaa
open Go.RowKit Cad

set_option maxRecDepth 100000 in
theorem resumeWaits_out (W : World) (ab : Option Addr) (nb cb : Nat) (n : Int) (_hnb : nb ≤ 9223372036854775807) (h : (190 : Int) < nb ∨ (¬ (190 : Int) < nb ∧ n < 0) ∨ (¬ (190 : Int) < nb ∧ ¬ n < 0 ∧ 4000 < n)) :
    Calls Try.prog 8 #[.slice ab nb cb, .int .i64 n] W fun e w' => e = .returned (.bool true) ∧ Below W.heap.size W w' := by
  have hWE0 := Go.Lib.hid (Below.refl W.heap.size W)
  rcases h with h1 | ⟨h1, h2⟩ | ⟨h1, h2, h3⟩
  · go_enter Try.func8, Try.ntmps8
    go_wp2_with (first
      | (go_at_call 14; refine (alive10_ok _).mono ?_; rintro e w1 ⟨rfl, hb1⟩; have hWE1 := Go.Lib.hid hWE0.out; have hW1 := Go.Lib.hid (hWE1.out.trans (hb1.mono hWE1.out.size)); clear hb1))
    go_ret
    exact ⟨rfl, hW1.out⟩
  · have d1 : decide ((190 : Int) < nb) = false := decide_eq_false h1
    go_enter Try.func8, Try.ntmps8
    go_wp2_with (first
      | (go_at_call 14; refine (alive10_ok _).mono ?_; rintro e w1 ⟨rfl, hb1⟩; have hWE1 := Go.Lib.hid hWE0.out; have hW1 := Go.Lib.hid (hWE1.out.trans (hb1.mono hWE1.out.size)); clear hb1))
    go_ret
    exact ⟨rfl, hW1.out⟩
  · have d1 : decide ((190 : Int) < nb) = false := decide_eq_false h1
    have d2 : decide (n < 0) = false := decide_eq_false h2
    go_enter Try.func8, Try.ntmps8
    go_wp2_with (first
      | (go_at_call 14; refine (alive10_ok _).mono ?_; rintro e w1 ⟨rfl, hb1⟩; have hWE1 := Go.Lib.hid hWE0.out; have hW1 := Go.Lib.hid (hWE1.out.trans (hb1.mono hWE1.out.size)); clear hb1))
    go_ret
    exact ⟨rfl, hW1.out⟩

set_option maxRecDepth 100000 in
set_option maxHeartbeats 4000000 in
theorem resumeWaits_in (W : World) (ab : Option Addr) (nb cb : Nat) (lb : List Int) (bl : List Nat) (n : Nat) (hb : Row .u8 W ab nb cb lb) (h190 : nb ≤ 190) (hlb : lb = bl.map Int.ofNat) (hbl : bl.length = nb) (h256 : ∀ x ∈ bl, x < 256) (hn : n ≤ 4000) :
    Calls Try.prog 8 #[.slice ab nb cb, .int .i64 n] W fun e w' => e = .returned (.bool true) ∧ Below W.heap.size W w' := by
  have hnil : pack [] = [] := by rfl
  have hok := ok_start n hn
  have st : Hid (∀ w, Calls Try.prog 9 #[.int .i64 n] w fun e W' => e = .returned (.tuple #[.agg #[.int .i64 n, .int .i64 10, .int .i64 10, .int .u64 16384, .int .u64 16384, .slice none 0 0, .int .i64 0], .int .i64 0]) ∧ Below w.heap.size w W') := Go.Lib.hid fun w => PsStart_ok w n hn
  obtain ⟨F, hF⟩ : ∃ F, F = fed n (bytesB bl) dStart := ⟨_, rfl⟩
  have f0 : ∀ w, Row .u8 w ab nb cb lb → ResF 10 #[.agg #[.int .i64 n, .int .i64 10, .int .i64 10, .int .u64 16384, .int .u64 16384, .slice none 0 0, .int .i64 0], .slice ab nb cb] w F := fun w h => by
    have := PsFeed_ok w none 0 0 n dStart [] ab nb cb bl (by rw [hnil]; exact Row.nil_row _ _) hok (by rw [← hlb]; exact h) hbl h256 (by omega)
    rw [List.nil_append, ← hF] at this
    exact this
  have d1 : decide ((190 : Int) < nb) = false := decide_eq_false (by omega)
  have d2 : decide ((n : Int) < 0) = false := decide_eq_false (by omega)
  have d3 : decide ((4000 : Int) < n) = false := decide_eq_false (by omega)
  have hnb : (nb : Int) ≤ 190 := by omega
  have hWE0 := Go.Lib.hid (Below.refl W.heap.size W)
  have RE0_b := Go.Lib.hid hb
  by_cases he : F.e = 0
  · obtain ⟨l, r, k, h1, h2, h3, h4, -, -⟩ := fed_is n (bytesB bl) dStart dStart_ok (by rw [← hF]; exact he)
    rw [← hF] at h1
    obtain ⟨E, hE⟩ : ∃ E, E = after dStart l := ⟨_, rfl⟩
    rw [← hE] at h1
    obtain ⟨RN, hRN⟩ : ∃ x, x = r.length := ⟨_, rfl⟩
    obtain ⟨RL, hRL⟩ : ∃ x, x = (RN + 7) / 8 := ⟨_, rfl⟩
    obtain ⟨X, hX⟩ : ∃ x, x = codesD dStart l := ⟨_, rfl⟩
    obtain ⟨A, hA⟩ : ∃ x, x = X.length := ⟨_, rfl⟩
    obtain ⟨mc, hmc⟩ : ∃ x, x = (A + 7) / 8 := ⟨_, rfl⟩
    obtain ⟨m, hm⟩ : ∃ x, x = l.length := ⟨_, rfl⟩
    obtain ⟨M, hM⟩ : ∃ x : Nat, x = 8 * nb := ⟨_, rfl⟩
    rw [← hX] at h4
    have hsum : A + RN = M := by rw [hA, hRN, ← List.length_append, ← h4, bytesB_len, hbl, hM]
    have fd : Hid (∀ w, Row .u8 w ab nb cb lb → Calls Try.prog 10 #[.agg #[.int .i64 n, .int .i64 10, .int .i64 10, .int .u64 16384, .int .u64 16384, .slice none 0 0, .int .i64 0], .slice ab nb cb] w fun e W' => ∃ bb cc a c, e = .returned (.tuple #[.agg #[.int .i64 k, .int .i64 E.k0, .int .i64 E.k1, .int .u64 E.s0, .int .u64 E.s1, .slice bb RL cc, .int .i64 RN], .slice a m c, .int .i64 0]) ∧ Row .u8 W' bb RL cc (pack r) ∧ Row .u32 W' a m c (l.map Int.ofNat) ∧ Below w.heap.size w W') := Go.Lib.hid fun w h => by
      have := f0 w h
      unfold ResF at this
      rw [h1] at this
      simp only [← hRN] at this
      simp only [← hRL] at this
      refine this.mono ?_
      rintro e W' ⟨bb, cc, a, q, c, rfl, g1, g2, g3⟩
      obtain rfl : q = m := by rw [← g2.hlen, List.length_map, hm]
      exact ⟨bb, cc, a, c, rfl, g1, g2, g3⟩
    have en : Hid (∀ w b c, Row .u32 w b m c (l.map Int.ofNat) → Res 22 #[.slice b m c] w mc (pack X) A 0) := Go.Lib.hid fun w b c h => by
      have := PEncode_ok w b m c l h (by omega) hm.symm h3
      rw [← hX, ← hA, ← hmc] at this
      exact this
    unfold Res at en
    have jn : Hid (∀ w b c b' c', Row .u8 w b mc c (pack X) → Row .u8 w b' RL c' (pack r) → Calls Try.prog 24 #[.agg #[.slice b mc c, .int .i64 A], .agg #[.slice b' RL c', .int .i64 RN]] w fun e W' => ∃ b c, e = .returned (.tuple #[.agg #[.slice b nb c, .int .i64 M], .int .i64 0]) ∧ Row .u8 W' b nb c lb ∧ Below w.heap.size w W') := Go.Lib.hid fun w b c b' c' g g' => by
      have := BJoin_ok w b mc c X g b' RL c' r g' (by rw [← hA, ← hRN]; omega)
      rw [← h4, pack_bytes h256, ← hlb, bytesB_len, hbl, show (8 * nb + 7) / 8 = nb by omega, ← hA, ← hRN, hsum] at this
      exact this
    have of_ : Hid (∀ w, Row .u8 w ab nb cb lb → Calls Try.prog 25 #[.slice ab nb cb] w fun e W' => ∃ b c, e = .returned (.tuple #[.agg #[.slice b nb c, .int .i64 M], .int .i64 0]) ∧ Row .u8 W' b nb c lb ∧ Below w.heap.size w W') := Go.Lib.hid fun w h => by
      refine (BOf_ok w ab nb cb lb h (by omega)).mono ?_
      rintro e w' ⟨v', rfl, g1, g2⟩
      obtain ⟨a1, p1, rfl⟩ := own_form g1
      exact ⟨a1, p1, by rw [hM]; simp, Row.of_own g1 h.wf, g2⟩
    have sm : Hid (∀ w b c b' c', Row .u8 w b nb c lb → Row .u8 w b' nb c' lb → Calls Try.prog 26 #[.agg #[.slice b nb c, .int .i64 M], .agg #[.slice b' nb c', .int .i64 M]] w fun e W' => e = .returned (.bool true) ∧ Below w.heap.size w W') := Go.Lib.hid fun w b c b' c' g g' => by
      have := RSame_ok w b nb c M lb g b' nb c' M lb g'
      simpa using this
    clear f0 hF h1 h2 h3 h4 hE hRL hRN hX hA hmc hm hM hsum hlb hbl h256 hok hnil he hb hn
    go_enter Try.func8, Try.ntmps8
    go_wp2_with (first
      | (go_at_call 9; ((with_reducible refine (st.out _).mono ?_)); rintro e w1 ⟨rfl, hb1⟩; have hWE1 := Go.Lib.hid hWE0.out; have hW1 := Go.Lib.hid (hWE1.out.trans (hb1.mono hWE1.out.size)); have R1_b := Go.Lib.hid (RE0_b.out.below hb1 (Nat.le_refl _)); clear hb1)
      | (go_at_call 10; ((with_reducible refine (fd.out _ ?h1).mono ?_)); (case h1 => exact (R1_b.out.below (below1 w1 (.cells #[.int .i64 n, .int .i64 10, .int .i64 10, .int .u64 16384, .int .u64 16384, (.slice none 0 0), .int .i64 0] 29)) (Nat.le_refl _))); rintro e w2 ⟨b2, cp2, a2, ca2, rfl, hr2, hm2, hb2⟩; have hWE2 := Go.Lib.hid (hW1.out.alloc hW1.out.size (.cells #[.int .i64 n, .int .i64 10, .int .i64 10, .int .u64 16384, .int .u64 16384, (.slice none 0 0), .int .i64 0] 29)); have hW2 := Go.Lib.hid (hWE2.out.trans (hb2.mono hWE2.out.size)); have R2_b := Go.Lib.hid ((R1_b.out.below (below1 w1 (.cells #[.int .i64 n, .int .i64 10, .int .i64 10, .int .u64 16384, .int .u64 16384, (.slice none 0 0), .int .i64 0] 29)) (Nat.le_refl _)).below hb2 (Nat.le_refl _)); have R2_r := Go.Lib.hid hr2; clear hr2; have BE2_s := Go.Lib.hid (resat1 w1 n 10 10 16384 16384 (.slice none 0 0) 0); have B2_s := Go.Lib.hid (BE2_s.out.below hb2 BE2_s.out.lt); obtain ⟨k2s0, k2s1, k2s2, k2s3, k2s4, k2s5, k2s6, k2s7, k2s8, k2s9, k2s10, k2s11, k2s12, k2s13⟩ := B2_s.out.cells; have l2s := B2_s.out.lt; have n2s : w1.heap.size ≠ w2.heap.size := (by omega); have R2_l := Go.Lib.hid hm2; clear hm2; clear hb2)
      | (go_at_call 22; ((with_reducible refine (en.out _ _ _ ?h1).mono ?_)); (case h1 => exact (R2_l.out.below (below1 w2 (.cells #[.int .i64 k, .int .i64 E.k0, .int .i64 E.k1, .int .u64 E.s0, .int .u64 E.s1, (.slice b2 RL cp2), .int .i64 RN] 29)) (Nat.le_refl _))); rintro e w3 ⟨b3, cp3, rfl, hr3, hb3⟩; have hWE3 := Go.Lib.hid (hW2.out.alloc hW2.out.size (.cells #[.int .i64 k, .int .i64 E.k0, .int .i64 E.k1, .int .u64 E.s0, .int .u64 E.s1, (.slice b2 RL cp2), .int .i64 RN] 29)); have hW3 := Go.Lib.hid (hWE3.out.trans (hb3.mono hWE3.out.size)); have R3_b := Go.Lib.hid ((R2_b.out.below (below1 w2 (.cells #[.int .i64 k, .int .i64 E.k0, .int .i64 E.k1, .int .u64 E.s0, .int .u64 E.s1, (.slice b2 RL cp2), .int .i64 RN] 29)) (Nat.le_refl _)).below hb3 (Nat.le_refl _)); have R3_r := Go.Lib.hid ((R2_r.out.below (below1 w2 (.cells #[.int .i64 k, .int .i64 E.k0, .int .i64 E.k1, .int .u64 E.s0, .int .u64 E.s1, (.slice b2 RL cp2), .int .i64 RN] 29)) (Nat.le_refl _)).below hb3 (Nat.le_refl _)); have R3_l := Go.Lib.hid ((R2_l.out.below (below1 w2 (.cells #[.int .i64 k, .int .i64 E.k0, .int .i64 E.k1, .int .u64 E.s0, .int .u64 E.s1, (.slice b2 RL cp2), .int .i64 RN] 29)) (Nat.le_refl _)).below hb3 (Nat.le_refl _)); have R3_c := Go.Lib.hid hr3; clear hr3; have BE3_s := Go.Lib.hid (B2_s.out.alloc (.cells #[.int .i64 k, .int .i64 E.k0, .int .i64 E.k1, .int .u64 E.s0, .int .u64 E.s1, (.slice b2 RL cp2), .int .i64 RN] 29)); have B3_s := Go.Lib.hid (BE3_s.out.below hb3 BE3_s.out.lt); obtain ⟨k3s0, k3s1, k3s2, k3s3, k3s4, k3s5, k3s6, k3s7, k3s8, k3s9, k3s10, k3s11, k3s12, k3s13⟩ := B3_s.out.cells; have BE3_x := Go.Lib.hid (resat1 w2 k E.k0 E.k1 E.s0 E.s1 (.slice b2 RL cp2) RN); have B3_x := Go.Lib.hid (BE3_x.out.below hb3 BE3_x.out.lt); obtain ⟨k3x0, k3x1, k3x2, k3x3, k3x4, k3x5, k3x6, k3x7, k3x8, k3x9, k3x10, k3x11, k3x12, k3x13⟩ := B3_x.out.cells; have l3s := B3_s.out.lt; have n3s : w1.heap.size ≠ w3.heap.size := (by omega); have l3x := B3_x.out.lt; have n3x : w2.heap.size ≠ w3.heap.size := (by omega); clear hb3)
      | (go_at_call 24; ((with_reducible refine (jn.out _ _ _ _ _ ?h1 ?h2).mono ?_)); (case h1 => exact (R3_c.out.below (below1 w3 (.cells #[(.slice b3 mc cp3), .int .i64 A] 27)) (Nat.le_refl _))); (case h2 => exact (R3_r.out.below (below1 w3 (.cells #[(.slice b3 mc cp3), .int .i64 A] 27)) (Nat.le_refl _))); rintro e w4 ⟨b4, cp4, rfl, hr4, hb4⟩; have hWE4 := Go.Lib.hid (hW3.out.alloc hW3.out.size (.cells #[(.slice b3 mc cp3), .int .i64 A] 27)); have hW4 := Go.Lib.hid (hWE4.out.trans (hb4.mono hWE4.out.size)); have R4_b := Go.Lib.hid ((R3_b.out.below (below1 w3 (.cells #[(.slice b3 mc cp3), .int .i64 A] 27)) (Nat.le_refl _)).below hb4 (Nat.le_refl _)); have R4_r := Go.Lib.hid ((R3_r.out.below (below1 w3 (.cells #[(.slice b3 mc cp3), .int .i64 A] 27)) (Nat.le_refl _)).below hb4 (Nat.le_refl _)); have R4_l := Go.Lib.hid ((R3_l.out.below (below1 w3 (.cells #[(.slice b3 mc cp3), .int .i64 A] 27)) (Nat.le_refl _)).below hb4 (Nat.le_refl _)); have R4_c := Go.Lib.hid ((R3_c.out.below (below1 w3 (.cells #[(.slice b3 mc cp3), .int .i64 A] 27)) (Nat.le_refl _)).below hb4 (Nat.le_refl _)); have R4_j := Go.Lib.hid hr4; clear hr4; have BE4_s := Go.Lib.hid (B3_s.out.alloc (.cells #[(.slice b3 mc cp3), .int .i64 A] 27)); have B4_s := Go.Lib.hid (BE4_s.out.below hb4 BE4_s.out.lt); obtain ⟨k4s0, k4s1, k4s2, k4s3, k4s4, k4s5, k4s6, k4s7, k4s8, k4s9, k4s10, k4s11, k4s12, k4s13⟩ := B4_s.out.cells; have BE4_x := Go.Lib.hid (B3_x.out.alloc (.cells #[(.slice b3 mc cp3), .int .i64 A] 27)); have B4_x := Go.Lib.hid (BE4_x.out.below hb4 BE4_x.out.lt); obtain ⟨k4x0, k4x1, k4x2, k4x3, k4x4, k4x5, k4x6, k4x7, k4x8, k4x9, k4x10, k4x11, k4x12, k4x13⟩ := B4_x.out.cells; have BE4_c := Go.Lib.hid (box1 w3 (.slice b3 mc cp3) A); have B4_c := Go.Lib.hid (BE4_c.out.below hb4 BE4_c.out.lt); obtain ⟨k4c0, k4c1, k4c2, k4c3⟩ := B4_c.out.cells; have l4s := B4_s.out.lt; have n4s : w1.heap.size ≠ w4.heap.size := (by omega); have l4x := B4_x.out.lt; have n4x : w2.heap.size ≠ w4.heap.size := (by omega); have l4c := B4_c.out.lt; have n4c : w3.heap.size ≠ w4.heap.size := (by omega); clear hb4)
      | (go_at_call 25; ((with_reducible refine (of_.out _ ?h1).mono ?_)); (case h1 => exact (R4_b.out.below (below1 w4 (.cells #[(.slice b4 nb cp4), .int .i64 M] 27)) (Nat.le_refl _))); rintro e w5 ⟨b5, cp5, rfl, hr5, hb5⟩; have hWE5 := Go.Lib.hid (hW4.out.alloc hW4.out.size (.cells #[(.slice b4 nb cp4), .int .i64 M] 27)); have hW5 := Go.Lib.hid (hWE5.out.trans (hb5.mono hWE5.out.size)); have R5_b := Go.Lib.hid ((R4_b.out.below (below1 w4 (.cells #[(.slice b4 nb cp4), .int .i64 M] 27)) (Nat.le_refl _)).below hb5 (Nat.le_refl _)); have R5_r := Go.Lib.hid ((R4_r.out.below (below1 w4 (.cells #[(.slice b4 nb cp4), .int .i64 M] 27)) (Nat.le_refl _)).below hb5 (Nat.le_refl _)); have R5_l := Go.Lib.hid ((R4_l.out.below (below1 w4 (.cells #[(.slice b4 nb cp4), .int .i64 M] 27)) (Nat.le_refl _)).below hb5 (Nat.le_refl _)); have R5_c := Go.Lib.hid ((R4_c.out.below (below1 w4 (.cells #[(.slice b4 nb cp4), .int .i64 M] 27)) (Nat.le_refl _)).below hb5 (Nat.le_refl _)); have R5_j := Go.Lib.hid ((R4_j.out.below (below1 w4 (.cells #[(.slice b4 nb cp4), .int .i64 M] 27)) (Nat.le_refl _)).below hb5 (Nat.le_refl _)); have R5_o := Go.Lib.hid hr5; clear hr5; have BE5_s := Go.Lib.hid (B4_s.out.alloc (.cells #[(.slice b4 nb cp4), .int .i64 M] 27)); have B5_s := Go.Lib.hid (BE5_s.out.below hb5 BE5_s.out.lt); obtain ⟨k5s0, k5s1, k5s2, k5s3, k5s4, k5s5, k5s6, k5s7, k5s8, k5s9, k5s10, k5s11, k5s12, k5s13⟩ := B5_s.out.cells; have BE5_x := Go.Lib.hid (B4_x.out.alloc (.cells #[(.slice b4 nb cp4), .int .i64 M] 27)); have B5_x := Go.Lib.hid (BE5_x.out.below hb5 BE5_x.out.lt); obtain ⟨k5x0, k5x1, k5x2, k5x3, k5x4, k5x5, k5x6, k5x7, k5x8, k5x9, k5x10, k5x11, k5x12, k5x13⟩ := B5_x.out.cells; have BE5_c := Go.Lib.hid (B4_c.out.alloc (.cells #[(.slice b4 nb cp4), .int .i64 M] 27)); have B5_c := Go.Lib.hid (BE5_c.out.below hb5 BE5_c.out.lt); obtain ⟨k5c0, k5c1, k5c2, k5c3⟩ := B5_c.out.cells; have BE5_j := Go.Lib.hid (box1 w4 (.slice b4 nb cp4) M); have B5_j := Go.Lib.hid (BE5_j.out.below hb5 BE5_j.out.lt); obtain ⟨k5j0, k5j1, k5j2, k5j3⟩ := B5_j.out.cells; have l5s := B5_s.out.lt; have n5s : w1.heap.size ≠ w5.heap.size := (by omega); have l5x := B5_x.out.lt; have n5x : w2.heap.size ≠ w5.heap.size := (by omega); have l5c := B5_c.out.lt; have n5c : w3.heap.size ≠ w5.heap.size := (by omega); have l5j := B5_j.out.lt; have n5j : w4.heap.size ≠ w5.heap.size := (by omega); clear hb5)
      | (go_at_call 26; ((with_reducible refine (sm.out _ _ _ _ _ ?h1 ?h2).mono ?_)); (case h1 => exact (R5_j.out.below (below1 w5 (.cells #[(.slice b5 nb cp5), .int .i64 M] 27)) (Nat.le_refl _))); (case h2 => exact (R5_o.out.below (below1 w5 (.cells #[(.slice b5 nb cp5), .int .i64 M] 27)) (Nat.le_refl _))); rintro e w6 ⟨rfl, hb6⟩; have hWE6 := Go.Lib.hid (hW5.out.alloc hW5.out.size (.cells #[(.slice b5 nb cp5), .int .i64 M] 27)); have hW6 := Go.Lib.hid (hWE6.out.trans (hb6.mono hWE6.out.size)); have R6_b := Go.Lib.hid ((R5_b.out.below (below1 w5 (.cells #[(.slice b5 nb cp5), .int .i64 M] 27)) (Nat.le_refl _)).below hb6 (Nat.le_refl _)); have R6_r := Go.Lib.hid ((R5_r.out.below (below1 w5 (.cells #[(.slice b5 nb cp5), .int .i64 M] 27)) (Nat.le_refl _)).below hb6 (Nat.le_refl _)); have R6_l := Go.Lib.hid ((R5_l.out.below (below1 w5 (.cells #[(.slice b5 nb cp5), .int .i64 M] 27)) (Nat.le_refl _)).below hb6 (Nat.le_refl _)); have R6_c := Go.Lib.hid ((R5_c.out.below (below1 w5 (.cells #[(.slice b5 nb cp5), .int .i64 M] 27)) (Nat.le_refl _)).below hb6 (Nat.le_refl _)); have R6_j := Go.Lib.hid ((R5_j.out.below (below1 w5 (.cells #[(.slice b5 nb cp5), .int .i64 M] 27)) (Nat.le_refl _)).below hb6 (Nat.le_refl _)); have R6_o := Go.Lib.hid ((R5_o.out.below (below1 w5 (.cells #[(.slice b5 nb cp5), .int .i64 M] 27)) (Nat.le_refl _)).below hb6 (Nat.le_refl _)); have BE6_s := Go.Lib.hid (B5_s.out.alloc (.cells #[(.slice b5 nb cp5), .int .i64 M] 27)); have B6_s := Go.Lib.hid (BE6_s.out.below hb6 BE6_s.out.lt); obtain ⟨k6s0, k6s1, k6s2, k6s3, k6s4, k6s5, k6s6, k6s7, k6s8, k6s9, k6s10, k6s11, k6s12, k6s13⟩ := B6_s.out.cells; have BE6_x := Go.Lib.hid (B5_x.out.alloc (.cells #[(.slice b5 nb cp5), .int .i64 M] 27)); have B6_x := Go.Lib.hid (BE6_x.out.below hb6 BE6_x.out.lt); obtain ⟨k6x0, k6x1, k6x2, k6x3, k6x4, k6x5, k6x6, k6x7, k6x8, k6x9, k6x10, k6x11, k6x12, k6x13⟩ := B6_x.out.cells; have BE6_c := Go.Lib.hid (B5_c.out.alloc (.cells #[(.slice b5 nb cp5), .int .i64 M] 27)); have B6_c := Go.Lib.hid (BE6_c.out.below hb6 BE6_c.out.lt); obtain ⟨k6c0, k6c1, k6c2, k6c3⟩ := B6_c.out.cells; have BE6_j := Go.Lib.hid (B5_j.out.alloc (.cells #[(.slice b5 nb cp5), .int .i64 M] 27)); have B6_j := Go.Lib.hid (BE6_j.out.below hb6 BE6_j.out.lt); obtain ⟨k6j0, k6j1, k6j2, k6j3⟩ := B6_j.out.cells; have BE6_o := Go.Lib.hid (box1 w5 (.slice b5 nb cp5) M); have B6_o := Go.Lib.hid (BE6_o.out.below hb6 BE6_o.out.lt); obtain ⟨k6o0, k6o1, k6o2, k6o3⟩ := B6_o.out.cells; clear hb6)
      | (go_at_call 14; refine (alive10_ok _).mono ?_; rintro e w7 ⟨rfl, hb7⟩; have hWE7 := Go.Lib.hid hW6.out; have hW7 := Go.Lib.hid (hWE7.out.trans (hb7.mono hWE7.out.size)); clear hb7))
    go_ret
    exact ⟨rfl, hW7.out⟩
  · have hF2 : F = fedE 12 ∨ F = fedE 38 := by rw [hF]; exact fed_no n _ dStart dStart_ok (by rw [← hF]; exact he)
    obtain ⟨er, her, hFe⟩ : ∃ er : Nat, (er = 12 ∨ er = 38) ∧ F = fedE er := by
      rcases hF2 with h | h
      · exact ⟨12, .inl rfl, h⟩
      · exact ⟨38, .inr rfl, h⟩
    obtain ⟨e', hee⟩ : ∃ e' : Int, e' = er := ⟨_, rfl⟩
    have fd : Hid (∀ w, Row .u8 w ab nb cb lb → Calls Try.prog 10 #[.agg #[.int .i64 n, .int .i64 10, .int .i64 10, .int .u64 16384, .int .u64 16384, .slice none 0 0, .int .i64 0], .slice ab nb cb] w fun e W' => ∃ bb cc a q c, e = .returned (.tuple #[.agg #[.int .i64 0, .int .i64 0, .int .i64 0, .int .u64 0, .int .u64 0, .slice bb 0 cc, .int .i64 0], .slice a q c, .int .i64 e']) ∧ Below w.heap.size w W') := Go.Lib.hid fun w h => by
      have := f0 w h
      unfold ResF at this
      rw [hFe] at this
      refine this.mono ?_
      rintro e W' ⟨bb, cc, a, q, c, rfl, g1, g2, g3⟩
      exact ⟨bb, cc, a, q, c, by rw [hee]; simp [fedE], g3⟩
    have key : e' = 12 ∨ e' = 38 := by omega
    clear f0 hF hF2 her hFe hee hlb hbl h256 hok hnil he hb hn
    rcases key with rfl | rfl
    · go_enter Try.func8, Try.ntmps8
      go_wp2_with (first
        | (go_at_call 9; ((with_reducible refine (st.out _).mono ?_)); rintro e w1 ⟨rfl, hb1⟩; have hWE1 := Go.Lib.hid hWE0.out; have hW1 := Go.Lib.hid (hWE1.out.trans (hb1.mono hWE1.out.size)); have R1_b := Go.Lib.hid (RE0_b.out.below hb1 (Nat.le_refl _)); clear hb1)
        | (go_at_call 10; ((with_reducible refine (fd.out _ ?h1).mono ?_)); (case h1 => exact (R1_b.out.below (below1 w1 (.cells #[.int .i64 n, .int .i64 10, .int .i64 10, .int .u64 16384, .int .u64 16384, (.slice none 0 0), .int .i64 0] 29)) (Nat.le_refl _))); rintro e w2 ⟨b2, cp2, a2, n2, ca2, rfl, hb2⟩; have hWE2 := Go.Lib.hid (hW1.out.alloc hW1.out.size (.cells #[.int .i64 n, .int .i64 10, .int .i64 10, .int .u64 16384, .int .u64 16384, (.slice none 0 0), .int .i64 0] 29)); have hW2 := Go.Lib.hid (hWE2.out.trans (hb2.mono hWE2.out.size)); have R2_b := Go.Lib.hid ((R1_b.out.below (below1 w1 (.cells #[.int .i64 n, .int .i64 10, .int .i64 10, .int .u64 16384, .int .u64 16384, (.slice none 0 0), .int .i64 0] 29)) (Nat.le_refl _)).below hb2 (Nat.le_refl _)); have BE2_s := Go.Lib.hid (resat1 w1 n 10 10 16384 16384 (.slice none 0 0) 0); have B2_s := Go.Lib.hid (BE2_s.out.below hb2 BE2_s.out.lt); obtain ⟨k2s0, k2s1, k2s2, k2s3, k2s4, k2s5, k2s6, k2s7, k2s8, k2s9, k2s10, k2s11, k2s12, k2s13⟩ := B2_s.out.cells; have l2s := B2_s.out.lt; have n2s : w1.heap.size ≠ w2.heap.size := (by omega); clear hb2)
        | (go_at_call 14; refine (alive10_ok _).mono ?_; rintro e w3 ⟨rfl, hb3⟩; have hWE3 := Go.Lib.hid (hW2.out.alloc hW2.out.size (.cells #[.int .i64 0, .int .i64 0, .int .i64 0, .int .u64 0, .int .u64 0, (.slice b2 0 cp2), .int .i64 0] 29)); have hW3 := Go.Lib.hid (hWE3.out.trans (hb3.mono hWE3.out.size)); clear hb3))
      go_ret
      exact ⟨rfl, hW3.out⟩
    · go_enter Try.func8, Try.ntmps8
      go_wp2_with (first
        | (go_at_call 9; ((with_reducible refine (st.out _).mono ?_)); rintro e w1 ⟨rfl, hb1⟩; have hWE1 := Go.Lib.hid hWE0.out; have hW1 := Go.Lib.hid (hWE1.out.trans (hb1.mono hWE1.out.size)); have R1_b := Go.Lib.hid (RE0_b.out.below hb1 (Nat.le_refl _)); clear hb1)
        | (go_at_call 10; ((with_reducible refine (fd.out _ ?h1).mono ?_)); (case h1 => exact (R1_b.out.below (below1 w1 (.cells #[.int .i64 n, .int .i64 10, .int .i64 10, .int .u64 16384, .int .u64 16384, (.slice none 0 0), .int .i64 0] 29)) (Nat.le_refl _))); rintro e w2 ⟨b2, cp2, a2, n2, ca2, rfl, hb2⟩; have hWE2 := Go.Lib.hid (hW1.out.alloc hW1.out.size (.cells #[.int .i64 n, .int .i64 10, .int .i64 10, .int .u64 16384, .int .u64 16384, (.slice none 0 0), .int .i64 0] 29)); have hW2 := Go.Lib.hid (hWE2.out.trans (hb2.mono hWE2.out.size)); have R2_b := Go.Lib.hid ((R1_b.out.below (below1 w1 (.cells #[.int .i64 n, .int .i64 10, .int .i64 10, .int .u64 16384, .int .u64 16384, (.slice none 0 0), .int .i64 0] 29)) (Nat.le_refl _)).below hb2 (Nat.le_refl _)); have BE2_s := Go.Lib.hid (resat1 w1 n 10 10 16384 16384 (.slice none 0 0) 0); have B2_s := Go.Lib.hid (BE2_s.out.below hb2 BE2_s.out.lt); obtain ⟨k2s0, k2s1, k2s2, k2s3, k2s4, k2s5, k2s6, k2s7, k2s8, k2s9, k2s10, k2s11, k2s12, k2s13⟩ := B2_s.out.cells; have l2s := B2_s.out.lt; have n2s : w1.heap.size ≠ w2.heap.size := (by omega); clear hb2)
        | (go_at_call 14; refine (alive10_ok _).mono ?_; rintro e w3 ⟨rfl, hb3⟩; have hWE3 := Go.Lib.hid (hW2.out.alloc hW2.out.size (.cells #[.int .i64 0, .int .i64 0, .int .i64 0, .int .u64 0, .int .u64 0, (.slice b2 0 cp2), .int .i64 0] 29)); have hW3 := Go.Lib.hid (hWE3.out.trans (hb3.mono hWE3.out.size)); clear hb3))
      go_ret
      exact ⟨rfl, hW3.out⟩

theorem resumeWaits_walk (ax0 : Option Addr) (lenx0 capx0 : Nat) (zx0 : List Int) (x1 : Int) (W : World) (wx0 : IsRow .u8 W ax0 lenx0 capx0 zx0) (wx1 : (Lit.int .i64 x1).wf = true) :
    Calls Try.prog 8 #[.slice ax0 lenx0 capx0, .int .i64 x1] W fun e w' => e = .returned (.bool true) ∧ Below W.heap.size W w' := by
  have hb := Row.of_isRow wx0
  have hm := Nat.le_trans hb.hcap hb.hmax
  unfold maxLen at hm
  by_cases h : (190 : Int) < lenx0 ∨ (¬ (190 : Int) < lenx0 ∧ x1 < 0) ∨ (¬ (190 : Int) < lenx0 ∧ ¬ x1 < 0 ∧ 4000 < x1)
  · exact resumeWaits_out W _ _ _ _ (by omega) h
  · obtain ⟨n, rfl⟩ : ∃ n : Nat, x1 = n := ⟨x1.toNat, by omega⟩
    obtain ⟨m, h2, h3⟩ := bytes_of hb.wf
    exact resumeWaits_in W _ _ _ _ m n hb (by omega) h2 (by rw [← hb.hlen, h2, List.length_map]) h3 (by omega)
end Go.Proofs.Ytcodofmghbgoeaa
