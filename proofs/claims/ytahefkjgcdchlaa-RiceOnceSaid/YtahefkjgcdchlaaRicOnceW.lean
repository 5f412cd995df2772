/- RiceOnce: there is one code for each number: what is read has just this code. -/
import Derived.Test.YtahefkjgcdchlaaRicL
namespace Go.Proofs.Ytahefkjgcdchlaa
open Go.RowKit Cad

set_option maxRecDepth 100000 in
theorem riceOnce_out (W : World) (a : Option Addr) (len cap : Nat) (l : List Int) (N at_ k : Int) (hr : Row .u8 W a len cap l) (hN : (Lit.int .i64 N).wf = true) (r : Int) (hk : chk l N r)
    (h : r = 8 ∨ (r = 0 ∧ (1500 < N ∨ at_ < 0 ∨ N < at_ ∨ k < 0 ∨ 24 < k))) :
    Calls Try.prog 6 #[.agg #[.slice a len cap, .int .i64 N], .int .i64 at_, .int .i64 k] W fun e w' => e = .returned (.bool true) ∧ Below W.heap.size W w' := by
  have hWE0 := Go.Lib.hid (below1 W (.cells #[.slice a len cap, .int .i64 N] 28))
  have BE0_b := Go.Lib.hid (box1 W (.slice a len cap) N)
  have RE0_b := Go.Lib.hid (hr.below hWE0.out (Nat.le_refl _))
  have hck : Hid (∀ w, Row .u8 w a len cap l → Calls Try.prog 21 #[.agg #[.slice a len cap, .int .i64 N]] w fun e W' => e = .returned (.int .i64 r) ∧ Below w.heap.size w W') := Go.Lib.hid fun w h => RCheck_any w a len cap N l h hN r hk
  have key : (r = 8) ∨ (r = 0 ∧ 1500 < N) ∨ (r = 0 ∧ ¬ 1500 < N ∧ at_ < 0) ∨ (r = 0 ∧ ¬ 1500 < N ∧ ¬ at_ < 0 ∧ N < at_) ∨ (r = 0 ∧ ¬ 1500 < N ∧ ¬ at_ < 0 ∧ ¬ N < at_ ∧ k < 0) ∨ (r = 0 ∧ ¬ 1500 < N ∧ ¬ at_ < 0 ∧ ¬ N < at_ ∧ ¬ k < 0 ∧ 24 < k) := by omega
  clear h hr hN hk
  rcases key with rfl | ⟨rfl, h⟩ | ⟨rfl, h1, h2⟩ | ⟨rfl, h1, h2, h3⟩ | ⟨rfl, h1, h2, h3, h4⟩ | ⟨rfl, h1, h2, h3, h4, h5⟩
  · go_enter Try.func6, Try.ntmps6
    go_wp2_with (first
      | (go_at_call 21; ((with_reducible refine (hck.out _ ?h1).mono ?_)); (case h1 => exact RE0_b.out); rintro e w1 ⟨rfl, hb1⟩; have hWE1 := Go.Lib.hid hWE0.out; have hW1 := Go.Lib.hid (hWE1.out.trans (hb1.mono hWE1.out.size)); have R1_b := Go.Lib.hid (RE0_b.out.below hb1 (Nat.le_refl _)); have BE1_b := Go.Lib.hid BE0_b.out; have B1_b := Go.Lib.hid (BE1_b.out.below hb1 BE1_b.out.lt); obtain ⟨k1b0, k1b1, k1b2, k1b3⟩ := B1_b.out.cells; clear hb1)
      | (go_at_call 14; refine (alive7_ok _).mono ?_; rintro e w2 ⟨rfl, hb2⟩; have hWE2 := Go.Lib.hid hW1.out; have hW2 := Go.Lib.hid (hWE2.out.trans (hb2.mono hWE2.out.size)); clear hb2))
    go_ret
    exact ⟨rfl, hW2.out⟩
  · go_enter Try.func6, Try.ntmps6
    go_wp2_with (first
      | (go_at_call 21; ((with_reducible refine (hck.out _ ?h1).mono ?_)); (case h1 => exact RE0_b.out); rintro e w1 ⟨rfl, hb1⟩; have hWE1 := Go.Lib.hid hWE0.out; have hW1 := Go.Lib.hid (hWE1.out.trans (hb1.mono hWE1.out.size)); have R1_b := Go.Lib.hid (RE0_b.out.below hb1 (Nat.le_refl _)); have BE1_b := Go.Lib.hid BE0_b.out; have B1_b := Go.Lib.hid (BE1_b.out.below hb1 BE1_b.out.lt); obtain ⟨k1b0, k1b1, k1b2, k1b3⟩ := B1_b.out.cells; clear hb1)
      | (go_at_call 14; refine (alive7_ok _).mono ?_; rintro e w2 ⟨rfl, hb2⟩; have hWE2 := Go.Lib.hid hW1.out; have hW2 := Go.Lib.hid (hWE2.out.trans (hb2.mono hWE2.out.size)); clear hb2))
    go_ret
    exact ⟨rfl, hW2.out⟩
  · have d1 : decide ((1500 : Int) < N) = false := decide_eq_false h1
    go_enter Try.func6, Try.ntmps6
    go_wp2_with (first
      | (go_at_call 21; ((with_reducible refine (hck.out _ ?h1).mono ?_)); (case h1 => exact RE0_b.out); rintro e w1 ⟨rfl, hb1⟩; have hWE1 := Go.Lib.hid hWE0.out; have hW1 := Go.Lib.hid (hWE1.out.trans (hb1.mono hWE1.out.size)); have R1_b := Go.Lib.hid (RE0_b.out.below hb1 (Nat.le_refl _)); have BE1_b := Go.Lib.hid BE0_b.out; have B1_b := Go.Lib.hid (BE1_b.out.below hb1 BE1_b.out.lt); obtain ⟨k1b0, k1b1, k1b2, k1b3⟩ := B1_b.out.cells; clear hb1)
      | (go_at_call 14; refine (alive7_ok _).mono ?_; rintro e w2 ⟨rfl, hb2⟩; have hWE2 := Go.Lib.hid hW1.out; have hW2 := Go.Lib.hid (hWE2.out.trans (hb2.mono hWE2.out.size)); clear hb2))
    go_ret
    exact ⟨rfl, hW2.out⟩
  · have d1 : decide ((1500 : Int) < N) = false := decide_eq_false h1
    have d2 : decide (at_ < 0) = false := decide_eq_false h2
    go_enter Try.func6, Try.ntmps6
    go_wp2_with (first
      | (go_at_call 21; ((with_reducible refine (hck.out _ ?h1).mono ?_)); (case h1 => exact RE0_b.out); rintro e w1 ⟨rfl, hb1⟩; have hWE1 := Go.Lib.hid hWE0.out; have hW1 := Go.Lib.hid (hWE1.out.trans (hb1.mono hWE1.out.size)); have R1_b := Go.Lib.hid (RE0_b.out.below hb1 (Nat.le_refl _)); have BE1_b := Go.Lib.hid BE0_b.out; have B1_b := Go.Lib.hid (BE1_b.out.below hb1 BE1_b.out.lt); obtain ⟨k1b0, k1b1, k1b2, k1b3⟩ := B1_b.out.cells; clear hb1)
      | (go_at_call 14; refine (alive7_ok _).mono ?_; rintro e w2 ⟨rfl, hb2⟩; have hWE2 := Go.Lib.hid hW1.out; have hW2 := Go.Lib.hid (hWE2.out.trans (hb2.mono hWE2.out.size)); clear hb2))
    go_ret
    exact ⟨rfl, hW2.out⟩
  · have d1 : decide ((1500 : Int) < N) = false := decide_eq_false h1
    have d2 : decide (at_ < 0) = false := decide_eq_false h2
    have d3 : decide (N < at_) = false := decide_eq_false h3
    go_enter Try.func6, Try.ntmps6
    go_wp2_with (first
      | (go_at_call 21; ((with_reducible refine (hck.out _ ?h1).mono ?_)); (case h1 => exact RE0_b.out); rintro e w1 ⟨rfl, hb1⟩; have hWE1 := Go.Lib.hid hWE0.out; have hW1 := Go.Lib.hid (hWE1.out.trans (hb1.mono hWE1.out.size)); have R1_b := Go.Lib.hid (RE0_b.out.below hb1 (Nat.le_refl _)); have BE1_b := Go.Lib.hid BE0_b.out; have B1_b := Go.Lib.hid (BE1_b.out.below hb1 BE1_b.out.lt); obtain ⟨k1b0, k1b1, k1b2, k1b3⟩ := B1_b.out.cells; clear hb1)
      | (go_at_call 14; refine (alive7_ok _).mono ?_; rintro e w2 ⟨rfl, hb2⟩; have hWE2 := Go.Lib.hid hW1.out; have hW2 := Go.Lib.hid (hWE2.out.trans (hb2.mono hWE2.out.size)); clear hb2))
    go_ret
    exact ⟨rfl, hW2.out⟩
  · have d1 : decide ((1500 : Int) < N) = false := decide_eq_false h1
    have d2 : decide (at_ < 0) = false := decide_eq_false h2
    have d3 : decide (N < at_) = false := decide_eq_false h3
    have d4 : decide (k < 0) = false := decide_eq_false h4
    go_enter Try.func6, Try.ntmps6
    go_wp2_with (first
      | (go_at_call 21; ((with_reducible refine (hck.out _ ?h1).mono ?_)); (case h1 => exact RE0_b.out); rintro e w1 ⟨rfl, hb1⟩; have hWE1 := Go.Lib.hid hWE0.out; have hW1 := Go.Lib.hid (hWE1.out.trans (hb1.mono hWE1.out.size)); have R1_b := Go.Lib.hid (RE0_b.out.below hb1 (Nat.le_refl _)); have BE1_b := Go.Lib.hid BE0_b.out; have B1_b := Go.Lib.hid (BE1_b.out.below hb1 BE1_b.out.lt); obtain ⟨k1b0, k1b1, k1b2, k1b3⟩ := B1_b.out.cells; clear hb1)
      | (go_at_call 14; refine (alive7_ok _).mono ?_; rintro e w2 ⟨rfl, hb2⟩; have hWE2 := Go.Lib.hid hW1.out; have hW2 := Go.Lib.hid (hWE2.out.trans (hb2.mono hWE2.out.size)); clear hb2))
    go_ret
    exact ⟨rfl, hW2.out⟩

set_option maxRecDepth 100000 in
set_option maxHeartbeats 4000000 in
theorem riceOnce_no (W : World) (a : Option Addr) (len cap : Nat) (B : List Bool) (i k er : Nat) (hr : Row .u8 W a len cap (pack B)) (hB : B.length ≤ 1500) (hi : i ≤ B.length) (hk : k ≤ 24) (hv : readR B i k = (0, 0, er)) (he : er = 24 ∨ (er = 12 ∧ i + 80 ≤ B.length)) :
    Calls Try.prog 6 #[.agg #[.slice a len cap, .int .i64 B.length], .int .i64 i, .int .i64 k] W fun e w' => e = .returned (.bool true) ∧ Below W.heap.size W w' := by
  have hWE0 := Go.Lib.hid (below1 W (.cells #[.slice a len cap, .int .i64 B.length] 28))
  have BE0_b := Go.Lib.hid (box1 W (.slice a len cap) B.length)
  have RE0_b := Go.Lib.hid (hr.below hWE0.out (Nat.le_refl _))
  obtain ⟨N, hN⟩ : ∃ N, N = B.length := ⟨_, rfl⟩
  have hck : Hid (∀ w, Row .u8 w a len cap (pack B) → Calls Try.prog 21 #[.agg #[.slice a len cap, .int .i64 N]] w fun e W' => e = .returned (.int .i64 0) ∧ Below w.heap.size w W') := Go.Lib.hid fun w h => by
    rw [hN]
    exact RCheck_any w a len cap B.length (pack B) h (bounds_of_len (by omega)) 0 (.inl ⟨⟨B, rfl, by omega, rfl⟩, rfl⟩)
  have d1 : decide ((1500 : Int) < N) = false := decide_eq_false (by omega)
  have d2 : decide ((i : Int) < 0) = false := decide_eq_false (by omega)
  have d3 : decide ((N : Int) < i) = false := decide_eq_false (by omega)
  have d4 : decide ((k : Int) < 0) = false := decide_eq_false (by omega)
  have d5 : decide ((24 : Int) < k) = false := decide_eq_false (by omega)
  have hN' : (N : Int) ≤ 1500 := by omega
  have hi' : (i : Int) ≤ N := by omega
  rw [← hN] at hWE0 BE0_b RE0_b he ⊢
  obtain ⟨er', her⟩ : ∃ er' : Int, er' = er := ⟨_, rfl⟩
  have rd : Hid (∀ w, Row .u8 w a len cap (pack B) → Calls Try.prog 11 #[.agg #[.slice a len cap, .int .i64 N], .int .i64 i, .int .i64 k] w fun e W' => e = .returned (.tuple #[.int .u32 0, .int .i64 0, .int .i64 er']) ∧ Below w.heap.size w W') := Go.Lib.hid fun w h => by
    rw [hN, her]
    exact PRead_in w a len cap B i k h (by omega) hi hk _ _ _ hv
  have he' : er' = 24 ∨ (er' = 12 ∧ decide ((80 : Int) ≤ (N : Int) - (i : Int)) = true) := by
    rcases he with h | ⟨h, h'⟩
    · left; omega
    · right; exact ⟨by omega, decide_eq_true (by omega)⟩
  clear hv hN hr hB hi hk her he
  rcases he' with rfl | ⟨rfl, d6⟩
  · go_enter Try.func6, Try.ntmps6
    go_wp2_with (first
      | (go_at_call 21; ((with_reducible refine (hck.out _ ?h1).mono ?_)); (case h1 => exact RE0_b.out); rintro e w1 ⟨rfl, hb1⟩; have hWE1 := Go.Lib.hid hWE0.out; have hW1 := Go.Lib.hid (hWE1.out.trans (hb1.mono hWE1.out.size)); have R1_b := Go.Lib.hid (RE0_b.out.below hb1 (Nat.le_refl _)); have BE1_b := Go.Lib.hid BE0_b.out; have B1_b := Go.Lib.hid (BE1_b.out.below hb1 BE1_b.out.lt); obtain ⟨k1b0, k1b1, k1b2, k1b3⟩ := B1_b.out.cells; clear hb1)
      | (go_at_call 11; ((with_reducible refine (rd.out _ ?h1).mono ?_)); (case h1 => exact R1_b.out); rintro e w2 ⟨rfl, hb2⟩; have hWE2 := Go.Lib.hid hW1.out; have hW2 := Go.Lib.hid (hWE2.out.trans (hb2.mono hWE2.out.size)); have R2_b := Go.Lib.hid (R1_b.out.below hb2 (Nat.le_refl _)); have BE2_b := Go.Lib.hid B1_b.out; have B2_b := Go.Lib.hid (BE2_b.out.below hb2 BE2_b.out.lt); obtain ⟨k2b0, k2b1, k2b2, k2b3⟩ := B2_b.out.cells; clear hb2)
      | (go_at_call 14; refine (alive7_ok _).mono ?_; rintro e w3 ⟨rfl, hb3⟩; have hWE3 := Go.Lib.hid hW2.out; have hW3 := Go.Lib.hid (hWE3.out.trans (hb3.mono hWE3.out.size)); clear hb3))
    go_ret
    exact ⟨rfl, hW3.out⟩
  · have d7 : (80 : Int) ≤ (N : Int) - (i : Int) := of_decide_eq_true d6
    go_enter Try.func6, Try.ntmps6
    go_wp2_with (first
      | (go_at_call 21; ((with_reducible refine (hck.out _ ?h1).mono ?_)); (case h1 => exact RE0_b.out); rintro e w1 ⟨rfl, hb1⟩; have hWE1 := Go.Lib.hid hWE0.out; have hW1 := Go.Lib.hid (hWE1.out.trans (hb1.mono hWE1.out.size)); have R1_b := Go.Lib.hid (RE0_b.out.below hb1 (Nat.le_refl _)); have BE1_b := Go.Lib.hid BE0_b.out; have B1_b := Go.Lib.hid (BE1_b.out.below hb1 BE1_b.out.lt); obtain ⟨k1b0, k1b1, k1b2, k1b3⟩ := B1_b.out.cells; clear hb1)
      | (go_at_call 11; ((with_reducible refine (rd.out _ ?h1).mono ?_)); (case h1 => exact R1_b.out); rintro e w2 ⟨rfl, hb2⟩; have hWE2 := Go.Lib.hid hW1.out; have hW2 := Go.Lib.hid (hWE2.out.trans (hb2.mono hWE2.out.size)); have R2_b := Go.Lib.hid (R1_b.out.below hb2 (Nat.le_refl _)); have BE2_b := Go.Lib.hid B1_b.out; have B2_b := Go.Lib.hid (BE2_b.out.below hb2 BE2_b.out.lt); obtain ⟨k2b0, k2b1, k2b2, k2b3⟩ := B2_b.out.cells; clear hb2)
      | (go_at_call 14; refine (alive7_ok _).mono ?_; rintro e w3 ⟨rfl, hb3⟩; have hWE3 := Go.Lib.hid hW2.out; have hW3 := Go.Lib.hid (hWE3.out.trans (hb3.mono hWE3.out.size)); clear hb3))
    go_ret
    exact ⟨rfl, hW3.out⟩

set_option maxRecDepth 100000 in
set_option maxHeartbeats 4000000 in
theorem riceOnce_yes (W : World) (a : Option Addr) (len cap : Nat) (B : List Bool) (i k v q : Nat) (hr : Row .u8 W a len cap (pack B)) (hB : B.length ≤ 1500) (hi : i ≤ B.length) (hk : k ≤ 24) (hv : readR B i k = (v, q, 0)) :
    Calls Try.prog 6 #[.agg #[.slice a len cap, .int .i64 B.length], .int .i64 i, .int .i64 k] W fun e w' => e = .returned (.bool true) ∧ Below W.heap.size W w' := by
  have hWE0 := Go.Lib.hid (below1 W (.cells #[.slice a len cap, .int .i64 B.length] 28))
  have BE0_b := Go.Lib.hid (box1 W (.slice a len cap) B.length)
  have RE0_b := Go.Lib.hid (hr.below hWE0.out (Nat.le_refl _))
  obtain ⟨N, hN⟩ : ∃ N, N = B.length := ⟨_, rfl⟩
  have hck : Hid (∀ w, Row .u8 w a len cap (pack B) → Calls Try.prog 21 #[.agg #[.slice a len cap, .int .i64 N]] w fun e W' => e = .returned (.int .i64 0) ∧ Below w.heap.size w W') := Go.Lib.hid fun w h => by
    rw [hN]
    exact RCheck_any w a len cap B.length (pack B) h (bounds_of_len (by omega)) 0 (.inl ⟨⟨B, rfl, by omega, rfl⟩, rfl⟩)
  have d1 : decide ((1500 : Int) < N) = false := decide_eq_false (by omega)
  have d2 : decide ((i : Int) < 0) = false := decide_eq_false (by omega)
  have d3 : decide ((N : Int) < i) = false := decide_eq_false (by omega)
  have d4 : decide ((k : Int) < 0) = false := decide_eq_false (by omega)
  have d5 : decide ((24 : Int) < k) = false := decide_eq_false (by omega)
  have hN' : (N : Int) ≤ 1500 := by omega
  have hi' : (i : Int) ≤ N := by omega
  obtain ⟨hv32, hq, hqN, hrun⟩ := rice_is hv hi hk
  obtain ⟨A, hA⟩ : ∃ A, A = riceLen v k := ⟨_, rfl⟩
  obtain ⟨mn, hmn⟩ : ∃ q, q = (A + 7) / 8 := ⟨_, rfl⟩
  obtain ⟨X, hX⟩ : ∃ X, X = riceB v k := ⟨_, rfl⟩
  have rd : Hid (∀ w, Row .u8 w a len cap (pack B) → Calls Try.prog 11 #[.agg #[.slice a len cap, .int .i64 N], .int .i64 i, .int .i64 k] w fun e W' => e = .returned (.tuple #[.int .u32 v, .int .i64 q, .int .i64 0]) ∧ Below w.heap.size w W') := Go.Lib.hid fun w h => by
    rw [hN]
    exact PRead_in w a len cap B i k h (by omega) hi hk _ _ _ hv
  have kn : Hid (∀ w, Row .u8 w a len cap (pack B) → Calls Try.prog 22 #[.agg #[.slice a len cap, .int .i64 N], .int .i64 i, .int .i64 q] w fun e W' => ∃ b c, e = .returned (.tuple #[.agg #[.slice b mn c, .int .i64 A], .int .i64 0]) ∧ Row .u8 W' b mn c (pack X) ∧ Below w.heap.size w W') := Go.Lib.hid fun w h => by
    have := BCut_ok w a len cap B i q h (by omega) (by omega) hqN
    have e : midB B i q = X := by rw [hX]; exact hrun
    rw [e, show X.length = A by rw [hX, hA, riceB_len], ← hmn, show q - i = A by omega, ← hN] at this
    exact this
  have un := Go.Lib.hid fun w => PWrite_alone w v k hv32 hk A mn v k A rfl rfl rfl hA.symm hmn.symm (pack X) (by rw [hX])
  have sm : Hid (∀ w a c a' c', Row .u8 w a mn c (pack X) → Row .u8 w a' mn c' (pack X) → Calls Try.prog 20 #[.agg #[.slice a mn c, .int .i64 A], .agg #[.slice a' mn c', .int .i64 A]] w fun e W' => e = .returned (.bool true) ∧ Below w.heap.size w W') := Go.Lib.hid fun w a c a' c' h h' => by
    have := RSame_ok w a mn c A (pack X) h a' mn c' A (pack X) h'
    simpa using this
  have d6 : decide ((q : Int) < i) = false := decide_eq_false (by omega)
  have d7 : decide ((N : Int) < q) = false := decide_eq_false (by omega)
  have hq1 : (i : Int) ≤ q := by omega
  have hq2 : (q : Int) ≤ N := by omega
  rw [← hN] at hWE0 BE0_b RE0_b ⊢
  clear hv hN hr hB hi hq hqN hrun hA hmn hX
  go_enter Try.func6, Try.ntmps6
  go_wp2_with (first
    | (go_at_call 21; ((with_reducible refine (hck.out _ ?h1).mono ?_)); (case h1 => exact RE0_b.out); rintro e w1 ⟨rfl, hb1⟩; have hWE1 := Go.Lib.hid hWE0.out; have hW1 := Go.Lib.hid (hWE1.out.trans (hb1.mono hWE1.out.size)); have R1_b := Go.Lib.hid (RE0_b.out.below hb1 (Nat.le_refl _)); have BE1_b := Go.Lib.hid BE0_b.out; have B1_b := Go.Lib.hid (BE1_b.out.below hb1 BE1_b.out.lt); obtain ⟨k1b0, k1b1, k1b2, k1b3⟩ := B1_b.out.cells; clear hb1)
    | (go_at_call 11; ((with_reducible refine (rd.out _ ?h1).mono ?_)); (case h1 => exact R1_b.out); rintro e w2 ⟨rfl, hb2⟩; have hWE2 := Go.Lib.hid hW1.out; have hW2 := Go.Lib.hid (hWE2.out.trans (hb2.mono hWE2.out.size)); have R2_b := Go.Lib.hid (R1_b.out.below hb2 (Nat.le_refl _)); have BE2_b := Go.Lib.hid B1_b.out; have B2_b := Go.Lib.hid (BE2_b.out.below hb2 BE2_b.out.lt); obtain ⟨k2b0, k2b1, k2b2, k2b3⟩ := B2_b.out.cells; clear hb2)
    | (go_at_call 22; ((with_reducible refine (kn.out _ ?h1).mono ?_)); (case h1 => exact R2_b.out); rintro e w3 ⟨b3, cp3, rfl, hr3, hb3⟩; have hWE3 := Go.Lib.hid hW2.out; have hW3 := Go.Lib.hid (hWE3.out.trans (hb3.mono hWE3.out.size)); have R3_b := Go.Lib.hid (R2_b.out.below hb3 (Nat.le_refl _)); have R3_p := Go.Lib.hid hr3; clear hr3; have BE3_b := Go.Lib.hid B2_b.out; have B3_b := Go.Lib.hid (BE3_b.out.below hb3 BE3_b.out.lt); obtain ⟨k3b0, k3b1, k3b2, k3b3⟩ := B3_b.out.cells; have l3b := B3_b.out.lt; have n3b : W.heap.size ≠ w3.heap.size := (by omega); clear hb3)
    | (go_at_call 10; ((with_reducible refine (un.out _).mono ?_)); rintro e w4 ⟨b4, cp4, rfl, hr4, hb4⟩; have hWE4 := Go.Lib.hid (hW3.out.alloc hW3.out.size (.cells #[(.slice b3 mn cp3), .int .i64 A] 28)); have hW4 := Go.Lib.hid (hWE4.out.trans (hb4.mono hWE4.out.size)); have R4_b := Go.Lib.hid ((R3_b.out.below (below1 w3 (.cells #[(.slice b3 mn cp3), .int .i64 A] 28)) (Nat.le_refl _)).below hb4 (Nat.le_refl _)); have R4_p := Go.Lib.hid ((R3_p.out.below (below1 w3 (.cells #[(.slice b3 mn cp3), .int .i64 A] 28)) (Nat.le_refl _)).below hb4 (Nat.le_refl _)); have R4_x := Go.Lib.hid hr4; clear hr4; have BE4_b := Go.Lib.hid (B3_b.out.alloc (.cells #[(.slice b3 mn cp3), .int .i64 A] 28)); have B4_b := Go.Lib.hid (BE4_b.out.below hb4 BE4_b.out.lt); obtain ⟨k4b0, k4b1, k4b2, k4b3⟩ := B4_b.out.cells; have BE4_p := Go.Lib.hid (box1 w3 (.slice b3 mn cp3) A); have B4_p := Go.Lib.hid (BE4_p.out.below hb4 BE4_p.out.lt); obtain ⟨k4p0, k4p1, k4p2, k4p3⟩ := B4_p.out.cells; have l4b := B4_b.out.lt; have n4b : W.heap.size ≠ w4.heap.size := (by omega); have l4p := B4_p.out.lt; have n4p : w3.heap.size ≠ w4.heap.size := (by omega); clear hb4)
    | (go_at_call 20; ((with_reducible refine (sm.out _ _ _ _ _ ?h1 ?h2).mono ?_)); (case h1 => exact (R4_p.out.below (below1 w4 (.cells #[(.slice b4 mn cp4), .int .i64 A] 28)) (Nat.le_refl _))); (case h2 => exact (R4_x.out.below (below1 w4 (.cells #[(.slice b4 mn cp4), .int .i64 A] 28)) (Nat.le_refl _))); rintro e w5 ⟨rfl, hb5⟩; have hWE5 := Go.Lib.hid (hW4.out.alloc hW4.out.size (.cells #[(.slice b4 mn cp4), .int .i64 A] 28)); have hW5 := Go.Lib.hid (hWE5.out.trans (hb5.mono hWE5.out.size)); have R5_b := Go.Lib.hid ((R4_b.out.below (below1 w4 (.cells #[(.slice b4 mn cp4), .int .i64 A] 28)) (Nat.le_refl _)).below hb5 (Nat.le_refl _)); have R5_p := Go.Lib.hid ((R4_p.out.below (below1 w4 (.cells #[(.slice b4 mn cp4), .int .i64 A] 28)) (Nat.le_refl _)).below hb5 (Nat.le_refl _)); have R5_x := Go.Lib.hid ((R4_x.out.below (below1 w4 (.cells #[(.slice b4 mn cp4), .int .i64 A] 28)) (Nat.le_refl _)).below hb5 (Nat.le_refl _)); have BE5_b := Go.Lib.hid (B4_b.out.alloc (.cells #[(.slice b4 mn cp4), .int .i64 A] 28)); have B5_b := Go.Lib.hid (BE5_b.out.below hb5 BE5_b.out.lt); obtain ⟨k5b0, k5b1, k5b2, k5b3⟩ := B5_b.out.cells; have BE5_p := Go.Lib.hid (B4_p.out.alloc (.cells #[(.slice b4 mn cp4), .int .i64 A] 28)); have B5_p := Go.Lib.hid (BE5_p.out.below hb5 BE5_p.out.lt); obtain ⟨k5p0, k5p1, k5p2, k5p3⟩ := B5_p.out.cells; have BE5_x := Go.Lib.hid (box1 w4 (.slice b4 mn cp4) A); have B5_x := Go.Lib.hid (BE5_x.out.below hb5 BE5_x.out.lt); obtain ⟨k5x0, k5x1, k5x2, k5x3⟩ := B5_x.out.cells; clear hb5)
    | (go_at_call 14; refine (alive7_ok _).mono ?_; rintro e w6 ⟨rfl, hb6⟩; have hWE6 := Go.Lib.hid hW5.out; have hW6 := Go.Lib.hid (hWE6.out.trans (hb6.mono hWE6.out.size)); clear hb6))
  go_ret
  exact ⟨rfl, hW6.out⟩

theorem riceOnce_walk (ax0_0 : Option Addr) (lenx0_0 capx0_0 : Nat) (zx0_0 : List Int) (x0_1 : Int) (x1 : Int) (x2 : Int) (W : World) (wx0_0 : IsRow .u8 W ax0_0 lenx0_0 capx0_0 zx0_0) (wx0_1 : (Lit.int .i64 x0_1).wf = true) (wx1 : (Lit.int .i64 x1).wf = true) (wx2 : (Lit.int .i64 x2).wf = true) :
    Calls Try.prog 6 #[.agg #[.slice ax0_0 lenx0_0 capx0_0, .int .i64 x0_1], .int .i64 x1, .int .i64 x2] W fun e w' => e = .returned (.bool true) ∧ Below W.heap.size W w' := by
  have hr := Row.of_isRow wx0_0
  have hkk : ∃ r, chk (zx0_0.take lenx0_0) x0_1 r := by
    by_cases hv : Valid (zx0_0.take lenx0_0) x0_1
    · exact ⟨0, .inl ⟨hv, rfl⟩⟩
    · exact ⟨8, .inr ⟨hv, rfl⟩⟩
  obtain ⟨r, hk⟩ := hkk
  by_cases h : r = 8 ∨ (r = 0 ∧ (1500 < x0_1 ∨ x1 < 0 ∨ x0_1 < x1 ∨ x2 < 0 ∨ 24 < x2))
  · exact riceOnce_out W _ _ _ _ _ _ _ hr wx0_1 r hk h
  · rcases hk with ⟨⟨B, hB1, hB2, hB3⟩, rfl⟩ | ⟨_, rfl⟩
    · obtain ⟨n, rfl⟩ : ∃ n : Nat, x1 = n := ⟨x1.toNat, by omega⟩
      obtain ⟨k, rfl⟩ : ∃ n : Nat, x2 = n := ⟨x2.toNat, by omega⟩
      rw [hB3] at hr
      rw [← hB1] at h ⊢
      obtain ⟨p, q, er, hv⟩ : ∃ p q er, readR B n k = (p, q, er) := ⟨_, _, _, rfl⟩
      by_cases he : er = 0
      · subst he
        exact riceOnce_yes W _ _ _ B n k p q hr (by omega) (by omega) (by omega) hv
      · obtain ⟨rfl, rfl, h3⟩ := rice_no hv he (by omega)
        exact riceOnce_no W _ _ _ B n k er hr (by omega) (by omega) (by omega) hv h3
    · omega
end Go.Proofs.Ytahefkjgcdchlaa
