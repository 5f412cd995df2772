/- RiceOrder: a greater number has no shorter code, and no code begins another one. -/
import Derived.Test.YtahefkjgcdchlaaRicL
namespace Go.Proofs.Ytahefkjgcdchlaa
open Go.RowKit Cad

theorem riceOrder_out (W : World) (v w : Nat) (k : Int) (wk : (Lit.int .i64 k).wf = true) (h : k < 0 ∨ 24 < k ∨ w ≤ v) :
    Calls Try.prog 7 #[.int .u32 v, .int .u32 w, .int .i64 k] W fun e w' => e = .returned (.bool true) ∧ Below W.heap.size W w' := by
  have bk := bounds_i64 wk
  have key : k < 0 ∨ (¬ k < 0 ∧ 24 < k) ∨ (¬ k < 0 ∧ ¬ 24 < k ∧ (w : Int) ≤ v) := by omega
  clear h wk
  rcases key with h | ⟨h1, h2⟩ | ⟨h1, h2, h3⟩
  all_goals
    go_enter Try.func7, Try.ntmps7
    go_wp2_with (go_at_call 14; refine (alive7_ok _).mono ?_; rintro e w1 ⟨rfl, hb1⟩)
    go_ret
    exact ⟨rfl, hb1⟩

set_option maxRecDepth 100000 in
set_option maxHeartbeats 4000000 in
theorem riceOrder_in (W : World) (v w k : Nat) (hv : v < 4294967296) (hw : w < 4294967296) (hk : k ≤ 24) (hvw : v < w) :
    Calls Try.prog 7 #[.int .u32 v, .int .u32 w, .int .i64 k] W fun e w' => e = .returned (.bool true) ∧ Below W.heap.size W w' := by
  obtain ⟨A, hA⟩ : ∃ A, A = riceLen v k := ⟨_, rfl⟩
  obtain ⟨B, hB⟩ : ∃ B, B = riceLen w k := ⟨_, rfl⟩
  obtain ⟨X, hX⟩ : ∃ X, X = riceB v k := ⟨_, rfl⟩
  obtain ⟨Y, hY⟩ : ∃ Y, Y = riceB w k := ⟨_, rfl⟩
  have lX : X.length = A := by rw [hX, hA, riceB_len]
  have lY : Y.length = B := by rw [hY, hB, riceB_len]
  have hAB : A ≤ B := by rw [hA, hB]; exact riceLen_mono (Nat.le_of_lt hvw) hk
  obtain ⟨mn, hmn⟩ : ∃ q, q = (A + 7) / 8 := ⟨_, rfl⟩
  obtain ⟨mm, hmm⟩ : ∃ q, q = (B + 7) / 8 := ⟨_, rfl⟩
  obtain ⟨Q, hQ⟩ : ∃ Q, Q = midB Y 0 A := ⟨_, rfl⟩
  obtain ⟨mq, hmq⟩ : ∃ q, q = (Q.length + 7) / 8 := ⟨_, rfl⟩
  have hA48 : A ≤ 80 := by rw [hA]; exact riceLen_le v hk
  have hB48 : B ≤ 80 := by rw [hB]; exact riceLen_le w hk
  have hPQ : Q ≠ X := by
    intro e
    have h1 : Y = X ++ Y.drop A := by
      rw [← e, hQ]; unfold midB
      rw [List.drop_zero, Nat.sub_zero, List.take_append_drop]
    rw [hX, hY] at h1
    exact rice_apart hv hw hk (by omega) _ h1
  have lPQ : Q.length = X.length := by rw [hQ, midB_len _ (Nat.zero_le _) (by omega)]; omega
  have hsm := riceLen_small (v := v) hk
  rw [← hA] at hsm
  have ln : Hid (∀ s, Calls Try.prog 9 #[.int .u32 v, .int .i64 k] s fun r W' => r = .returned (.tuple #[.int .i64 A, .int .i64 0]) ∧ s = W') := Go.Lib.hid fun s => by rw [hA]; exact PLength_ok s v k hv hk
  have lm : Hid (∀ s, Calls Try.prog 9 #[.int .u32 w, .int .i64 k] s fun r W' => r = .returned (.tuple #[.int .i64 B, .int .i64 0]) ∧ s = W') := Go.Lib.hid fun s => by rw [hB]; exact PLength_ok s w k hw hk
  have un := Go.Lib.hid fun s => PWrite_alone s v k hv hk A mn v k A rfl rfl rfl hA.symm hmn.symm (pack X) (by rw [hX])
  have um := Go.Lib.hid fun s => PWrite_alone s w k hw hk B mm w k B rfl rfl rfl hB.symm hmm.symm (pack Y) (by rw [hY])
  have km : Hid (∀ s a c, Row .u8 s a mm c (pack Y) → Calls Try.prog 22 #[.agg #[.slice a mm c, .int .i64 B], .int .i64 0, .int .i64 A] s fun e W' => ∃ b c, e = .returned (.tuple #[.agg #[.slice b mq c, .int .i64 A], .int .i64 0]) ∧ Row .u8 W' b mq c (pack Q) ∧ Below s.heap.size s W') := Go.Lib.hid fun s a c h => by
    have := BCut_ok s a mm c Y 0 A h (by omega) (Nat.zero_le _) (by omega)
    rw [← hQ, ← hmq, lY] at this
    exact this
  have sm : Hid (∀ s a c a' c', Row .u8 s a mq c (pack Q) → Row .u8 s a' mn c' (pack X) → Calls Try.prog 20 #[.agg #[.slice a mq c, .int .i64 A], .agg #[.slice a' mn c', .int .i64 A]] s fun e W' => e = .returned (.bool false) ∧ Below s.heap.size s W') := Go.Lib.hid fun s a c a' c' h h' => by
    have := RSame_ok s a mq c A (pack Q) h a' mn c' A (pack X) h'
    rwa [decide_eq_false (fun hh => hPQ (pack_inj lPQ hh.2))] at this
  have hk' : (k : Int) ≤ 24 := by omega
  have d1 : decide ((k : Int) < 0) = false := decide_eq_false (by omega)
  have d2 : decide ((24 : Int) < k) = false := decide_eq_false (by omega)
  have d3 : decide ((w : Int) ≤ v) = false := decide_eq_false (by omega)
  have d3' : decide (w ≤ v) = false := decide_eq_false (by omega)
  have d4 : decide ((B : Int) < A) = false := decide_eq_false (by omega)
  have d4' : decide (B < A) = false := decide_eq_false (by omega)
  have hpb := pow24 hk
  obtain ⟨p, hp⟩ : ∃ p, p = 2 ^ k := ⟨_, rfl⟩
  rw [← hp] at hpb hsm
  have e1 : (1 : Int) * 2 ^ k = (p : Int) := by rw [hp]; simp
  have e2 : (2 : Int) ^ k = (p : Int) := by rw [hp]; simp
  have hWE0 := Go.Lib.hid (Below.refl W.heap.size W)
  have key : ((v : Int) < p ∧ v < p ∧ ((A : Int) == (k : Int) + 1) = true ∧ (A == k + 1) = true) ∨ (decide ((v : Int) < p) = false ∧ decide (v < p) = false ∧ ((A : Int) == (k : Int) + 1) = false ∧ (A == k + 1) = false) := by
    by_cases h : v < p
    · have h2 := hsm.2 h
      exact .inl ⟨by omega, h, by rw [beq_iff_eq]; omega, by rw [beq_iff_eq]; exact h2⟩
    · have h2 : ¬ A = k + 1 := fun h' => h (hsm.1 h')
      refine .inr ⟨decide_eq_false (by omega), decide_eq_false h, ?_, ?_⟩
      · rw [beq_eq_false_iff_ne]; omega
      · rw [beq_eq_false_iff_ne]; exact h2
  clear hA hB hX hY lX lY hmn hmm hQ hmq hPQ lPQ hA48 hB48 hp hsm hAB hvw
  rcases key with ⟨h1, h1', h2, h2'⟩ | ⟨h1, h1', h2, h2'⟩
  · go_enter Try.func7, Try.ntmps7
    go_wp2_with (first
      | (go_at_call 9; ((with_reducible refine (ln.out _).mono ?_)); rintro e wz ⟨rfl, rfl⟩)
      | (go_at_call 9; ((with_reducible refine (lm.out _).mono ?_)); rintro e wz ⟨rfl, rfl⟩)
      | (go_at_call 10; ((with_reducible refine (un.out _).mono ?_)); rintro e w1 ⟨b1, cp1, rfl, hr1, hb1⟩; have hWE1 := Go.Lib.hid hWE0.out; have hW1 := Go.Lib.hid (hWE1.out.trans (hb1.mono hWE1.out.size)); have R1_x := Go.Lib.hid hr1; clear hr1; clear hb1)
      | (go_at_call 10; ((with_reducible refine (um.out _).mono ?_)); rintro e w2 ⟨b2, cp2, rfl, hr2, hb2⟩; have hWE2 := Go.Lib.hid (hW1.out.alloc hW1.out.size (.cells #[(.slice b1 mn cp1), .int .i64 A] 28)); have hW2 := Go.Lib.hid (hWE2.out.trans (hb2.mono hWE2.out.size)); have R2_x := Go.Lib.hid ((R1_x.out.below (below1 w1 (.cells #[(.slice b1 mn cp1), .int .i64 A] 28)) (Nat.le_refl _)).below hb2 (Nat.le_refl _)); have R2_y := Go.Lib.hid hr2; clear hr2; have BE2_x := Go.Lib.hid (box1 w1 (.slice b1 mn cp1) A); have B2_x := Go.Lib.hid (BE2_x.out.below hb2 BE2_x.out.lt); obtain ⟨k2x0, k2x1, k2x2, k2x3⟩ := B2_x.out.cells; have l2x := B2_x.out.lt; have n2x : w1.heap.size ≠ w2.heap.size := (by omega); clear hb2)
      | (go_at_call 22; ((with_reducible refine (km.out _ _ _ ?h1).mono ?_)); (case h1 => exact (R2_y.out.below (below1 w2 (.cells #[(.slice b2 mm cp2), .int .i64 B] 28)) (Nat.le_refl _))); rintro e w3 ⟨b3, cp3, rfl, hr3, hb3⟩; have hWE3 := Go.Lib.hid (hW2.out.alloc hW2.out.size (.cells #[(.slice b2 mm cp2), .int .i64 B] 28)); have hW3 := Go.Lib.hid (hWE3.out.trans (hb3.mono hWE3.out.size)); have R3_x := Go.Lib.hid ((R2_x.out.below (below1 w2 (.cells #[(.slice b2 mm cp2), .int .i64 B] 28)) (Nat.le_refl _)).below hb3 (Nat.le_refl _)); have R3_y := Go.Lib.hid ((R2_y.out.below (below1 w2 (.cells #[(.slice b2 mm cp2), .int .i64 B] 28)) (Nat.le_refl _)).below hb3 (Nat.le_refl _)); have R3_q := Go.Lib.hid hr3; clear hr3; have BE3_x := Go.Lib.hid (B2_x.out.alloc (.cells #[(.slice b2 mm cp2), .int .i64 B] 28)); have B3_x := Go.Lib.hid (BE3_x.out.below hb3 BE3_x.out.lt); obtain ⟨k3x0, k3x1, k3x2, k3x3⟩ := B3_x.out.cells; have BE3_y := Go.Lib.hid (box1 w2 (.slice b2 mm cp2) B); have B3_y := Go.Lib.hid (BE3_y.out.below hb3 BE3_y.out.lt); obtain ⟨k3y0, k3y1, k3y2, k3y3⟩ := B3_y.out.cells; have l3x := B3_x.out.lt; have n3x : w1.heap.size ≠ w3.heap.size := (by omega); have l3y := B3_y.out.lt; have n3y : w2.heap.size ≠ w3.heap.size := (by omega); clear hb3)
      | (go_at_call 20; ((with_reducible refine (sm.out _ _ _ _ _ ?h1 ?h2).mono ?_)); (case h1 => exact (R3_q.out.below (below1 w3 (.cells #[(.slice b3 mq cp3), .int .i64 A] 28)) (Nat.le_refl _))); (case h2 => exact (R3_x.out.below (below1 w3 (.cells #[(.slice b3 mq cp3), .int .i64 A] 28)) (Nat.le_refl _))); rintro e w4 ⟨rfl, hb4⟩; have hWE4 := Go.Lib.hid (hW3.out.alloc hW3.out.size (.cells #[(.slice b3 mq cp3), .int .i64 A] 28)); have hW4 := Go.Lib.hid (hWE4.out.trans (hb4.mono hWE4.out.size)); have R4_x := Go.Lib.hid ((R3_x.out.below (below1 w3 (.cells #[(.slice b3 mq cp3), .int .i64 A] 28)) (Nat.le_refl _)).below hb4 (Nat.le_refl _)); have R4_y := Go.Lib.hid ((R3_y.out.below (below1 w3 (.cells #[(.slice b3 mq cp3), .int .i64 A] 28)) (Nat.le_refl _)).below hb4 (Nat.le_refl _)); have R4_q := Go.Lib.hid ((R3_q.out.below (below1 w3 (.cells #[(.slice b3 mq cp3), .int .i64 A] 28)) (Nat.le_refl _)).below hb4 (Nat.le_refl _)); have BE4_x := Go.Lib.hid (B3_x.out.alloc (.cells #[(.slice b3 mq cp3), .int .i64 A] 28)); have B4_x := Go.Lib.hid (BE4_x.out.below hb4 BE4_x.out.lt); obtain ⟨k4x0, k4x1, k4x2, k4x3⟩ := B4_x.out.cells; have BE4_y := Go.Lib.hid (B3_y.out.alloc (.cells #[(.slice b3 mq cp3), .int .i64 A] 28)); have B4_y := Go.Lib.hid (BE4_y.out.below hb4 BE4_y.out.lt); obtain ⟨k4y0, k4y1, k4y2, k4y3⟩ := B4_y.out.cells; have BE4_q := Go.Lib.hid (box1 w3 (.slice b3 mq cp3) A); have B4_q := Go.Lib.hid (BE4_q.out.below hb4 BE4_q.out.lt); obtain ⟨k4q0, k4q1, k4q2, k4q3⟩ := B4_q.out.cells; clear hb4)
      | (go_at_call 14; refine (alive7_ok _).mono ?_; rintro e w5 ⟨rfl, hb5⟩; have hWE5 := Go.Lib.hid hW4.out; have hW5 := Go.Lib.hid (hWE5.out.trans (hb5.mono hWE5.out.size)); clear hb5))
    go_ret
    exact ⟨rfl, hW5.out⟩
  · go_enter Try.func7, Try.ntmps7
    go_wp2_with (first
      | (go_at_call 9; ((with_reducible refine (ln.out _).mono ?_)); rintro e wz ⟨rfl, rfl⟩)
      | (go_at_call 9; ((with_reducible refine (lm.out _).mono ?_)); rintro e wz ⟨rfl, rfl⟩)
      | (go_at_call 10; ((with_reducible refine (un.out _).mono ?_)); rintro e w1 ⟨b1, cp1, rfl, hr1, hb1⟩; have hWE1 := Go.Lib.hid hWE0.out; have hW1 := Go.Lib.hid (hWE1.out.trans (hb1.mono hWE1.out.size)); have R1_x := Go.Lib.hid hr1; clear hr1; clear hb1)
      | (go_at_call 10; ((with_reducible refine (um.out _).mono ?_)); rintro e w2 ⟨b2, cp2, rfl, hr2, hb2⟩; have hWE2 := Go.Lib.hid (hW1.out.alloc hW1.out.size (.cells #[(.slice b1 mn cp1), .int .i64 A] 28)); have hW2 := Go.Lib.hid (hWE2.out.trans (hb2.mono hWE2.out.size)); have R2_x := Go.Lib.hid ((R1_x.out.below (below1 w1 (.cells #[(.slice b1 mn cp1), .int .i64 A] 28)) (Nat.le_refl _)).below hb2 (Nat.le_refl _)); have R2_y := Go.Lib.hid hr2; clear hr2; have BE2_x := Go.Lib.hid (box1 w1 (.slice b1 mn cp1) A); have B2_x := Go.Lib.hid (BE2_x.out.below hb2 BE2_x.out.lt); obtain ⟨k2x0, k2x1, k2x2, k2x3⟩ := B2_x.out.cells; have l2x := B2_x.out.lt; have n2x : w1.heap.size ≠ w2.heap.size := (by omega); clear hb2)
      | (go_at_call 22; ((with_reducible refine (km.out _ _ _ ?h1).mono ?_)); (case h1 => exact (R2_y.out.below (below1 w2 (.cells #[(.slice b2 mm cp2), .int .i64 B] 28)) (Nat.le_refl _))); rintro e w3 ⟨b3, cp3, rfl, hr3, hb3⟩; have hWE3 := Go.Lib.hid (hW2.out.alloc hW2.out.size (.cells #[(.slice b2 mm cp2), .int .i64 B] 28)); have hW3 := Go.Lib.hid (hWE3.out.trans (hb3.mono hWE3.out.size)); have R3_x := Go.Lib.hid ((R2_x.out.below (below1 w2 (.cells #[(.slice b2 mm cp2), .int .i64 B] 28)) (Nat.le_refl _)).below hb3 (Nat.le_refl _)); have R3_y := Go.Lib.hid ((R2_y.out.below (below1 w2 (.cells #[(.slice b2 mm cp2), .int .i64 B] 28)) (Nat.le_refl _)).below hb3 (Nat.le_refl _)); have R3_q := Go.Lib.hid hr3; clear hr3; have BE3_x := Go.Lib.hid (B2_x.out.alloc (.cells #[(.slice b2 mm cp2), .int .i64 B] 28)); have B3_x := Go.Lib.hid (BE3_x.out.below hb3 BE3_x.out.lt); obtain ⟨k3x0, k3x1, k3x2, k3x3⟩ := B3_x.out.cells; have BE3_y := Go.Lib.hid (box1 w2 (.slice b2 mm cp2) B); have B3_y := Go.Lib.hid (BE3_y.out.below hb3 BE3_y.out.lt); obtain ⟨k3y0, k3y1, k3y2, k3y3⟩ := B3_y.out.cells; have l3x := B3_x.out.lt; have n3x : w1.heap.size ≠ w3.heap.size := (by omega); have l3y := B3_y.out.lt; have n3y : w2.heap.size ≠ w3.heap.size := (by omega); clear hb3)
      | (go_at_call 20; ((with_reducible refine (sm.out _ _ _ _ _ ?h1 ?h2).mono ?_)); (case h1 => exact (R3_q.out.below (below1 w3 (.cells #[(.slice b3 mq cp3), .int .i64 A] 28)) (Nat.le_refl _))); (case h2 => exact (R3_x.out.below (below1 w3 (.cells #[(.slice b3 mq cp3), .int .i64 A] 28)) (Nat.le_refl _))); rintro e w4 ⟨rfl, hb4⟩; have hWE4 := Go.Lib.hid (hW3.out.alloc hW3.out.size (.cells #[(.slice b3 mq cp3), .int .i64 A] 28)); have hW4 := Go.Lib.hid (hWE4.out.trans (hb4.mono hWE4.out.size)); have R4_x := Go.Lib.hid ((R3_x.out.below (below1 w3 (.cells #[(.slice b3 mq cp3), .int .i64 A] 28)) (Nat.le_refl _)).below hb4 (Nat.le_refl _)); have R4_y := Go.Lib.hid ((R3_y.out.below (below1 w3 (.cells #[(.slice b3 mq cp3), .int .i64 A] 28)) (Nat.le_refl _)).below hb4 (Nat.le_refl _)); have R4_q := Go.Lib.hid ((R3_q.out.below (below1 w3 (.cells #[(.slice b3 mq cp3), .int .i64 A] 28)) (Nat.le_refl _)).below hb4 (Nat.le_refl _)); have BE4_x := Go.Lib.hid (B3_x.out.alloc (.cells #[(.slice b3 mq cp3), .int .i64 A] 28)); have B4_x := Go.Lib.hid (BE4_x.out.below hb4 BE4_x.out.lt); obtain ⟨k4x0, k4x1, k4x2, k4x3⟩ := B4_x.out.cells; have BE4_y := Go.Lib.hid (B3_y.out.alloc (.cells #[(.slice b3 mq cp3), .int .i64 A] 28)); have B4_y := Go.Lib.hid (BE4_y.out.below hb4 BE4_y.out.lt); obtain ⟨k4y0, k4y1, k4y2, k4y3⟩ := B4_y.out.cells; have BE4_q := Go.Lib.hid (box1 w3 (.slice b3 mq cp3) A); have B4_q := Go.Lib.hid (BE4_q.out.below hb4 BE4_q.out.lt); obtain ⟨k4q0, k4q1, k4q2, k4q3⟩ := B4_q.out.cells; clear hb4)
      | (go_at_call 14; refine (alive7_ok _).mono ?_; rintro e w5 ⟨rfl, hb5⟩; have hWE5 := Go.Lib.hid hW4.out; have hW5 := Go.Lib.hid (hWE5.out.trans (hb5.mono hWE5.out.size)); clear hb5))
    go_ret
    exact ⟨rfl, hW5.out⟩

theorem riceOrder_walk (x0 x1 x2 : Int) (wx0 : (Lit.int .u32 x0).wf = true) (wx1 : (Lit.int .u32 x1).wf = true) (wx2 : (Lit.int .i64 x2).wf = true) (W : World) :
    Calls Try.prog 7 #[.int .u32 x0, .int .u32 x1, .int .i64 x2] W fun e w' => e = .returned (.bool true) ∧ Below W.heap.size W w' := by
  obtain ⟨v, rfl, hv⟩ := nat_u32 wx0
  obtain ⟨w, rfl, hw⟩ := nat_u32 wx1
  by_cases h : x2 < 0 ∨ 24 < x2 ∨ w ≤ v
  · exact riceOrder_out W v w x2 wx2 h
  · obtain ⟨k, rfl⟩ : ∃ n : Nat, x2 = n := ⟨x2.toNat, by omega⟩
    exact riceOrder_in W v w k hv hw (by omega) (by omega)
end Go.Proofs.Ytahefkjgcdchlaa
