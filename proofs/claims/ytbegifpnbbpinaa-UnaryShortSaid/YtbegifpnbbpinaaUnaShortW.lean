/- UnaryShort: from each index on there is a run, or too few bits. -/
import Derived.Test.YtbegifpnbbpinaaUnaL
namespace Go.Proofs.Ytbegifpnbbpinaa
open Go.RowKit Cad

set_option maxRecDepth 100000 in
theorem unaryShort_out (W : World) (a : Option Addr) (len cap : Nat) (l : List Int) (N at_ : Int) (hr : Row .u8 W a len cap l) (hN : (Lit.int .i64 N).wf = true) (r : Int) (hk : chk l N r)
    (h : r = 8 ∨ (r = 0 ∧ (1500 < N ∨ at_ < 0 ∨ N < at_))) :
    Calls Try.prog 6 #[.agg #[.slice a len cap, .int .i64 N], .int .i64 at_] W fun e w' => e = .returned (.bool true) ∧ Below W.heap.size W w' := by
  have hWE0 := Go.Lib.hid (below1 W (.cells #[.slice a len cap, .int .i64 N] 27))
  have BE0_b := Go.Lib.hid (box1 W (.slice a len cap) N)
  have RE0_b := Go.Lib.hid (hr.below hWE0.out (Nat.le_refl _))
  have hck : Hid (∀ w, Row .u8 w a len cap l → Calls Try.prog 22 #[.agg #[.slice a len cap, .int .i64 N]] w fun e W' => e = .returned (.int .i64 r) ∧ Below w.heap.size w W') := Go.Lib.hid fun w h => RCheck_any w a len cap N l h hN r hk
  have key : r = 8 ∨ (r = 0 ∧ 1500 < N) ∨ (r = 0 ∧ ¬ 1500 < N ∧ at_ < 0) ∨ (r = 0 ∧ ¬ 1500 < N ∧ ¬ at_ < 0 ∧ N < at_) := by omega
  clear h hr hN hk
  rcases key with rfl | ⟨rfl, h⟩ | ⟨rfl, h1, h2⟩ | ⟨rfl, h1, h2, h3⟩
  · go_enter Try.func6, Try.ntmps6
    go_wp2_with (first
      | (go_at_call 22; ((with_reducible refine (hck.out _ ?h1).mono ?_)); (case h1 => exact RE0_b.out); rintro e w1 ⟨rfl, hb1⟩; have hWE1 := Go.Lib.hid hWE0.out; have hW1 := Go.Lib.hid (hWE1.out.trans (hb1.mono hWE1.out.size)); have R1_b := Go.Lib.hid (RE0_b.out.below hb1 (Nat.le_refl _)); have BE1_b := Go.Lib.hid BE0_b.out; have B1_b := Go.Lib.hid (BE1_b.out.below hb1 BE1_b.out.lt); obtain ⟨k1b0, k1b1, k1b2, k1b3⟩ := B1_b.out.cells; clear hb1)
      | (go_at_call 15; refine (alive6_ok _).mono ?_; rintro e w2 ⟨rfl, hb2⟩; have hWE2 := Go.Lib.hid hW1.out; have hW2 := Go.Lib.hid (hWE2.out.trans (hb2.mono hWE2.out.size)); clear hb2))
    go_ret
    exact ⟨rfl, hW2.out⟩
  · go_enter Try.func6, Try.ntmps6
    go_wp2_with (first
      | (go_at_call 22; ((with_reducible refine (hck.out _ ?h1).mono ?_)); (case h1 => exact RE0_b.out); rintro e w1 ⟨rfl, hb1⟩; have hWE1 := Go.Lib.hid hWE0.out; have hW1 := Go.Lib.hid (hWE1.out.trans (hb1.mono hWE1.out.size)); have R1_b := Go.Lib.hid (RE0_b.out.below hb1 (Nat.le_refl _)); have BE1_b := Go.Lib.hid BE0_b.out; have B1_b := Go.Lib.hid (BE1_b.out.below hb1 BE1_b.out.lt); obtain ⟨k1b0, k1b1, k1b2, k1b3⟩ := B1_b.out.cells; clear hb1)
      | (go_at_call 15; refine (alive6_ok _).mono ?_; rintro e w2 ⟨rfl, hb2⟩; have hWE2 := Go.Lib.hid hW1.out; have hW2 := Go.Lib.hid (hWE2.out.trans (hb2.mono hWE2.out.size)); clear hb2))
    go_ret
    exact ⟨rfl, hW2.out⟩
  · have d1 : decide ((1500 : Int) < N) = false := decide_eq_false h1
    go_enter Try.func6, Try.ntmps6
    go_wp2_with (first
      | (go_at_call 22; ((with_reducible refine (hck.out _ ?h1).mono ?_)); (case h1 => exact RE0_b.out); rintro e w1 ⟨rfl, hb1⟩; have hWE1 := Go.Lib.hid hWE0.out; have hW1 := Go.Lib.hid (hWE1.out.trans (hb1.mono hWE1.out.size)); have R1_b := Go.Lib.hid (RE0_b.out.below hb1 (Nat.le_refl _)); have BE1_b := Go.Lib.hid BE0_b.out; have B1_b := Go.Lib.hid (BE1_b.out.below hb1 BE1_b.out.lt); obtain ⟨k1b0, k1b1, k1b2, k1b3⟩ := B1_b.out.cells; clear hb1)
      | (go_at_call 15; refine (alive6_ok _).mono ?_; rintro e w2 ⟨rfl, hb2⟩; have hWE2 := Go.Lib.hid hW1.out; have hW2 := Go.Lib.hid (hWE2.out.trans (hb2.mono hWE2.out.size)); clear hb2))
    go_ret
    exact ⟨rfl, hW2.out⟩
  · have d1 : decide ((1500 : Int) < N) = false := decide_eq_false h1
    have d2 : decide (at_ < 0) = false := decide_eq_false h2
    go_enter Try.func6, Try.ntmps6
    go_wp2_with (first
      | (go_at_call 22; ((with_reducible refine (hck.out _ ?h1).mono ?_)); (case h1 => exact RE0_b.out); rintro e w1 ⟨rfl, hb1⟩; have hWE1 := Go.Lib.hid hWE0.out; have hW1 := Go.Lib.hid (hWE1.out.trans (hb1.mono hWE1.out.size)); have R1_b := Go.Lib.hid (RE0_b.out.below hb1 (Nat.le_refl _)); have BE1_b := Go.Lib.hid BE0_b.out; have B1_b := Go.Lib.hid (BE1_b.out.below hb1 BE1_b.out.lt); obtain ⟨k1b0, k1b1, k1b2, k1b3⟩ := B1_b.out.cells; clear hb1)
      | (go_at_call 15; refine (alive6_ok _).mono ?_; rintro e w2 ⟨rfl, hb2⟩; have hWE2 := Go.Lib.hid hW1.out; have hW2 := Go.Lib.hid (hWE2.out.trans (hb2.mono hWE2.out.size)); clear hb2))
    go_ret
    exact ⟨rfl, hW2.out⟩

set_option maxRecDepth 100000 in
set_option maxHeartbeats 4000000 in
theorem unaryShort_no (W : World) (a : Option Addr) (len cap : Nat) (B : List Bool) (i : Nat) (hr : Row .u8 W a len cap (pack B)) (hB : B.length ≤ 1500) (hi : i ≤ B.length) (o : Nat) (ho : o = lead (B.drop i) (B.drop i).length) (hv : readV B i = (0, 0, 24)) :
    Calls Try.prog 6 #[.agg #[.slice a len cap, .int .i64 B.length], .int .i64 i] W fun e w' => e = .returned (.bool true) ∧ Below W.heap.size W w' := by
  have hWE0 := Go.Lib.hid (below1 W (.cells #[.slice a len cap, .int .i64 B.length] 27))
  have BE0_b := Go.Lib.hid (box1 W (.slice a len cap) B.length)
  have RE0_b := Go.Lib.hid (hr.below hWE0.out (Nat.le_refl _))
  obtain ⟨N, hN⟩ : ∃ N, N = B.length := ⟨_, rfl⟩
  have hck : Hid (∀ w, Row .u8 w a len cap (pack B) → Calls Try.prog 22 #[.agg #[.slice a len cap, .int .i64 N]] w fun e W' => e = .returned (.int .i64 0) ∧ Below w.heap.size w W') := Go.Lib.hid fun w h => by
    rw [hN]
    exact RCheck_any w a len cap B.length (pack B) h (bounds_of_len (by omega)) 0 (.inl ⟨⟨B, rfl, by omega, rfl⟩, rfl⟩)
  have hone : Hid (∀ w (k : Nat), i + k < N → Row .u8 w a len cap (pack B) → Calls Try.prog 24 #[.agg #[.slice a len cap, .int .i64 N], .int .i64 ((i : Int) + (k : Int))] w fun e W' => e = .returned (.int .i64 (bI ((B.drop i).getD k false))) ∧ Below w.heap.size w W') := Go.Lib.hid fun w k hk h => by
    have hl := h.hlen
    rw [pack_len] at hl
    have := RAt_ok w a len cap N (pack B) h (i + k) (by omega)
    rw [bit_pack, ← drop_getD] at this
    have e1 : ((i + k : Nat) : Int) = (i : Int) + (k : Int) := by omega
    rwa [e1] at this
  have hbit : Hid (∀ k, k < o → (B.drop i).getD k false = true) := Go.Lib.hid fun k hk => by rw [ho] at hk; exact lead_one _ _ k hk
  have hoN : i + o ≤ N := by have := lead_len (B.drop i) (B.drop i).length; rw [← ho, List.length_drop] at this; omega
  have hstop : Hid (i + o < N → (B.drop i).getD o false = false) := Go.Lib.hid fun h => by
    rw [ho]
    refine lead_stop _ _ ?_
    rw [← ho, List.length_drop]; omega
  obtain ⟨_, _, _, hend, h48⟩ := read_no hv (by decide) hi
  rw [← ho, ← hN] at hend
  rw [← ho] at h48
  have rd : Hid (∀ w, Row .u8 w a len cap (pack B) → Calls Try.prog 12 #[.agg #[.slice a len cap, .int .i64 N], .int .i64 i] w fun e W' => e = .returned (.tuple #[.int .i64 0, .int .i64 0, .int .i64 24]) ∧ Below w.heap.size w W') := Go.Lib.hid fun w h => by
    rw [hN]
    exact URead_le w a len cap B i h (by omega) hi _ _ _ hv
  have d1 : decide ((1500 : Int) < N) = false := decide_eq_false (by omega)
  have d2 : decide ((i : Int) < 0) = false := decide_eq_false (by omega)
  have d3 : decide ((N : Int) < i) = false := decide_eq_false (by omega)
  have hN' : (N : Int) ≤ 1500 := by omega
  have h48' : (o : Int) < 48 := by omega
  have d4 : decide ((o : Int) < 48) = true := decide_eq_true h48'
  have hle : N ≤ i + o := by omega
  have hendI : (((i : Int) + (o : Int)) == (N : Int)) = true := by rw [beq_iff_eq]; omega
  rw [← hN] at hWE0 BE0_b RE0_b ⊢
  clear ho hv hN hr hB hi hstop hend
  go_enter Try.func6, Try.ntmps6
  go_wp2_with (first
    | (go_at_call 22; ((with_reducible refine (hck.out _ ?h1).mono ?_)); (case h1 => exact RE0_b.out); rintro e w1 ⟨rfl, hb1⟩; have hWE1 := Go.Lib.hid hWE0.out; have hW1 := Go.Lib.hid (hWE1.out.trans (hb1.mono hWE1.out.size)); have R1_b := Go.Lib.hid (RE0_b.out.below hb1 (Nat.le_refl _)); have BE1_b := Go.Lib.hid BE0_b.out; have B1_b := Go.Lib.hid (BE1_b.out.below hb1 BE1_b.out.lt); obtain ⟨k1b0, k1b1, k1b2, k1b3⟩ := B1_b.out.cells; clear hb1)
    | (go_at_call 12; ((with_reducible refine (rd.out _ ?h1).mono ?_)); (case h1 => exact R1_b.out); rintro e w2 ⟨rfl, hb2⟩; have hWE2 := Go.Lib.hid hW1.out; have hW2 := Go.Lib.hid (hWE2.out.trans (hb2.mono hWE2.out.size)); have R2_b := Go.Lib.hid (R1_b.out.below hb2 (Nat.le_refl _)); have BE2_b := Go.Lib.hid B1_b.out; have B2_b := Go.Lib.hid (BE2_b.out.below hb2 BE2_b.out.lt); obtain ⟨k2b0, k2b1, k2b2, k2b3⟩ := B2_b.out.cells; clear hb2))
  clear hWE0 RE0_b BE0_b
  go_loopw [8] (fun i wr => ∃ k : Nat, k ≤ o ∧ i = .int .i64 k ∧ Below w2.heap.size w2 wr) (fun i _ => o - (intOf i).toNat)
  case atStart => exact ⟨0, Nat.zero_le _, rfl, Below.refl _ _⟩
  case round =>
    obtain ⟨k, hk, rfl, hb⟩ := hrel
    have hW10 := Go.Lib.hid (hW2.out.trans (hb.mono hW2.out.size))
    have R10_b := Go.Lib.hid (R2_b.out.below hb (Nat.le_refl _))
    have B10_b := Go.Lib.hid (B2_b.out.below hb B2_b.out.lt)
    obtain ⟨z0, z1, z2, z3⟩ := B10_b.out.cells
    have hb' := Go.Lib.hid hb
    clear hb
    by_cases hlt : k < o
    · have hin : (i : Int) + (k : Int) < (N : Int) := by omega
      have hat := Go.Lib.hid (hone.out wr k (by omega) R10_b.out)
      rw [hbit.out k hlt] at hat
      go_wp2_with (go_at_call 24; with_reducible refine hat.out.mono ?_; rintro e w1 ⟨rfl, hb1⟩; have hb2 := Go.Lib.hid (hb'.out.trans (hb1.mono hb'.out.size)); clear hb1)
      go_roundw
      case rel => exact ⟨k + 1, by omega, by go_num, hb2.out⟩
      case measure => (simp [intOf] <;> omega)
    · obtain rfl : k = o := by omega
      · have hin' : (N : Int) ≤ (i : Int) + (k : Int) := by omega
        go_wp2_with (first
          | (go_at_call 15; refine (alive6_ok _).mono ?_; rintro e w11 ⟨rfl, hb11⟩; have hWE11 := Go.Lib.hid hW10.out; have hW11 := Go.Lib.hid (hWE11.out.trans (hb11.mono hWE11.out.size)); clear hb11))
        go_ret
        exact ⟨rfl, hW11.out⟩

set_option maxRecDepth 100000 in
set_option maxHeartbeats 8000000 in
theorem unaryShort_yes (W : World) (a : Option Addr) (len cap : Nat) (B : List Bool) (i : Nat) (hr : Row .u8 W a len cap (pack B)) (hB : B.length ≤ 1500) (hi : i ≤ B.length) (o : Nat) (ho : o = lead (B.drop i) (B.drop i).length) (n q : Nat) (hv : readV B i = (n, q, 0)) :
    Calls Try.prog 6 #[.agg #[.slice a len cap, .int .i64 B.length], .int .i64 i] W fun e w' => e = .returned (.bool true) ∧ Below W.heap.size W w' := by
  have hWE0 := Go.Lib.hid (below1 W (.cells #[.slice a len cap, .int .i64 B.length] 27))
  have BE0_b := Go.Lib.hid (box1 W (.slice a len cap) B.length)
  have RE0_b := Go.Lib.hid (hr.below hWE0.out (Nat.le_refl _))
  obtain ⟨N, hN⟩ : ∃ N, N = B.length := ⟨_, rfl⟩
  have hck : Hid (∀ w, Row .u8 w a len cap (pack B) → Calls Try.prog 22 #[.agg #[.slice a len cap, .int .i64 N]] w fun e W' => e = .returned (.int .i64 0) ∧ Below w.heap.size w W') := Go.Lib.hid fun w h => by
    rw [hN]
    exact RCheck_any w a len cap B.length (pack B) h (bounds_of_len (by omega)) 0 (.inl ⟨⟨B, rfl, by omega, rfl⟩, rfl⟩)
  have hone : Hid (∀ w (k : Nat), i + k < N → Row .u8 w a len cap (pack B) → Calls Try.prog 24 #[.agg #[.slice a len cap, .int .i64 N], .int .i64 ((i : Int) + (k : Int))] w fun e W' => e = .returned (.int .i64 (bI ((B.drop i).getD k false))) ∧ Below w.heap.size w W') := Go.Lib.hid fun w k hk h => by
    have hl := h.hlen
    rw [pack_len] at hl
    have := RAt_ok w a len cap N (pack B) h (i + k) (by omega)
    rw [bit_pack, ← drop_getD] at this
    have e1 : ((i + k : Nat) : Int) = (i : Int) + (k : Int) := by omega
    rwa [e1] at this
  have hbit : Hid (∀ k, k < o → (B.drop i).getD k false = true) := Go.Lib.hid fun k hk => by rw [ho] at hk; exact lead_one _ _ k hk
  have hoN : i + o ≤ N := by have := lead_len (B.drop i) (B.drop i).length; rw [← ho, List.length_drop] at this; omega
  have hstop : Hid (i + o < N → (B.drop i).getD o false = false) := Go.Lib.hid fun h => by
    rw [ho]
    refine lead_stop _ _ ?_
    rw [← ho, List.length_drop]; omega
  obtain ⟨hn, hmin, hq, hqN, hrun⟩ := read_is hv hi
  rw [← ho] at hmin
  obtain ⟨A, hA⟩ : ∃ A, A = runLen n := ⟨_, rfl⟩
  obtain ⟨mn, hmn⟩ : ∃ q, q = (A + 7) / 8 := ⟨_, rfl⟩
  obtain ⟨X, hX⟩ : ∃ X, X = runB n := ⟨_, rfl⟩
  have rd : Hid (∀ w, Row .u8 w a len cap (pack B) → Calls Try.prog 12 #[.agg #[.slice a len cap, .int .i64 N], .int .i64 i] w fun e W' => e = .returned (.tuple #[.int .i64 n, .int .i64 q, .int .i64 0]) ∧ Below w.heap.size w W') := Go.Lib.hid fun w h => by
    rw [hN]
    exact URead_le w a len cap B i h (by omega) hi _ _ _ hv
  have kn : Hid (∀ w, Row .u8 w a len cap (pack B) → Calls Try.prog 23 #[.agg #[.slice a len cap, .int .i64 N], .int .i64 i, .int .i64 q] w fun e W' => ∃ b c, e = .returned (.tuple #[.agg #[.slice b mn c, .int .i64 A], .int .i64 0]) ∧ Row .u8 W' b mn c (pack X) ∧ Below w.heap.size w W') := Go.Lib.hid fun w h => by
    have := BCut_ok w a len cap B i q h (by omega) (by omega) hqN
    have e : midB B i q = X := by rw [hX]; exact hrun
    rw [e, show X.length = A by rw [hX, hA, runB_len hn], ← hmn, show q - i = A by omega, ← hN] at this
    exact this
  have un := Go.Lib.hid fun w => UWrite_alone w n hn A mn n A rfl rfl hA.symm hmn.symm (pack X) (by rw [hX])
  have sm : Hid (∀ w a c a' c', Row .u8 w a mn c (pack X) → Row .u8 w a' mn c' (pack X) → Calls Try.prog 21 #[.agg #[.slice a mn c, .int .i64 A], .agg #[.slice a' mn c', .int .i64 A]] w fun e W' => e = .returned (.bool true) ∧ Below w.heap.size w W') := Go.Lib.hid fun w a c a' c' h h' => by
    have := RSame_ok w a mn c A (pack X) h a' mn c' A (pack X) h'
    simpa using this
  have d1 : decide ((1500 : Int) < N) = false := decide_eq_false (by omega)
  have d2 : decide ((i : Int) < 0) = false := decide_eq_false (by omega)
  have d3 : decide ((N : Int) < i) = false := decide_eq_false (by omega)
  have d4 : decide ((n : Int) < 0) = false := decide_eq_false (by omega)
  have d5 : decide ((48 : Int) < n) = false := decide_eq_false (by omega)
  have d6 : decide ((q : Int) < i) = false := decide_eq_false (by omega)
  have d7 : decide ((N : Int) < q) = false := decide_eq_false (by omega)
  have hN' : (N : Int) ≤ 1500 := by omega
  have hn' : (n : Int) ≤ 48 := by omega
  have hq1 : (i : Int) ≤ q := by omega
  have hq2 : (q : Int) ≤ N := by omega
  have m1 : (if (48 : Int) < (o : Int) then (48 : Int) else (o : Int)) = (n : Int) := by split <;> omega
  have m2 : (if 48 < o then (48 : Int) else (o : Int)) = (n : Int) := by split <;> omega
  rw [← hN] at hWE0 BE0_b RE0_b ⊢
  clear ho hv hN hr hB hi hmin hq hqN hrun hA hmn hX
  go_enter Try.func6, Try.ntmps6
  go_wp2_with (first
    | (go_at_call 22; ((with_reducible refine (hck.out _ ?h1).mono ?_)); (case h1 => exact RE0_b.out); rintro e w1 ⟨rfl, hb1⟩; have hWE1 := Go.Lib.hid hWE0.out; have hW1 := Go.Lib.hid (hWE1.out.trans (hb1.mono hWE1.out.size)); have R1_b := Go.Lib.hid (RE0_b.out.below hb1 (Nat.le_refl _)); have BE1_b := Go.Lib.hid BE0_b.out; have B1_b := Go.Lib.hid (BE1_b.out.below hb1 BE1_b.out.lt); obtain ⟨k1b0, k1b1, k1b2, k1b3⟩ := B1_b.out.cells; clear hb1)
    | (go_at_call 12; ((with_reducible refine (rd.out _ ?h1).mono ?_)); (case h1 => exact R1_b.out); rintro e w2 ⟨rfl, hb2⟩; have hWE2 := Go.Lib.hid hW1.out; have hW2 := Go.Lib.hid (hWE2.out.trans (hb2.mono hWE2.out.size)); have R2_b := Go.Lib.hid (R1_b.out.below hb2 (Nat.le_refl _)); have BE2_b := Go.Lib.hid B1_b.out; have B2_b := Go.Lib.hid (BE2_b.out.below hb2 BE2_b.out.lt); obtain ⟨k2b0, k2b1, k2b2, k2b3⟩ := B2_b.out.cells; clear hb2))
  clear hWE0 RE0_b BE0_b
  go_loopw [8] (fun i wr => ∃ k : Nat, k ≤ o ∧ i = .int .i64 k ∧ Below w2.heap.size w2 wr) (fun i _ => o - (intOf i).toNat)
  case atStart => exact ⟨0, Nat.zero_le _, rfl, Below.refl _ _⟩
  case round =>
    obtain ⟨k, hk, rfl, hb⟩ := hrel
    have hW10 := Go.Lib.hid (hW2.out.trans (hb.mono hW2.out.size))
    have R10_b := Go.Lib.hid (R2_b.out.below hb (Nat.le_refl _))
    have B10_b := Go.Lib.hid (B2_b.out.below hb B2_b.out.lt)
    obtain ⟨z0, z1, z2, z3⟩ := B10_b.out.cells
    have hb' := Go.Lib.hid hb
    clear hb
    by_cases hlt : k < o
    · have hin : (i : Int) + (k : Int) < (N : Int) := by omega
      have hat := Go.Lib.hid (hone.out wr k (by omega) R10_b.out)
      rw [hbit.out k hlt] at hat
      go_wp2_with (go_at_call 24; with_reducible refine hat.out.mono ?_; rintro e w1 ⟨rfl, hb1⟩; have hb2 := Go.Lib.hid (hb'.out.trans (hb1.mono hb'.out.size)); clear hb1)
      go_roundw
      case rel => exact ⟨k + 1, by omega, by go_num, hb2.out⟩
      case measure => (simp [intOf] <;> omega)
    · obtain rfl : k = o := by omega
      by_cases hin : i + k < N
      · have hin' : (i : Int) + (k : Int) < (N : Int) := by omega
        have hat := Go.Lib.hid (hone.out wr k (by omega) R10_b.out)
        rw [hstop.out hin] at hat
        go_wp2_with (first
          | (go_at_call 24; ((with_reducible refine (hat.out).mono ?_)); rintro e w11 ⟨rfl, hb11⟩; have hWE11 := Go.Lib.hid hW10.out; have hW11 := Go.Lib.hid (hWE11.out.trans (hb11.mono hWE11.out.size)); have R11_b := Go.Lib.hid (R10_b.out.below hb11 (Nat.le_refl _)); have BE11_b := Go.Lib.hid B10_b.out; have B11_b := Go.Lib.hid (BE11_b.out.below hb11 BE11_b.out.lt); obtain ⟨k11b0, k11b1, k11b2, k11b3⟩ := B11_b.out.cells; clear hb11)
          | (go_at_call 23; ((with_reducible refine (kn.out _ ?h1).mono ?_)); (case h1 => exact R11_b.out); rintro e w12 ⟨b12, cp12, rfl, hr12, hb12⟩; have hWE12 := Go.Lib.hid hW11.out; have hW12 := Go.Lib.hid (hWE12.out.trans (hb12.mono hWE12.out.size)); have R12_b := Go.Lib.hid (R11_b.out.below hb12 (Nat.le_refl _)); have R12_p := Go.Lib.hid hr12; clear hr12; have BE12_b := Go.Lib.hid B11_b.out; have B12_b := Go.Lib.hid (BE12_b.out.below hb12 BE12_b.out.lt); obtain ⟨k12b0, k12b1, k12b2, k12b3⟩ := B12_b.out.cells; have l12b := B12_b.out.lt; have n12b : W.heap.size ≠ w12.heap.size := (by omega); clear hb12)
          | (go_at_call 11; ((with_reducible refine (un.out _).mono ?_)); rintro e w13 ⟨b13, cp13, rfl, hr13, hb13⟩; have hWE13 := Go.Lib.hid (hW12.out.alloc hW12.out.size (.cells #[(.slice b12 mn cp12), .int .i64 A] 27)); have hW13 := Go.Lib.hid (hWE13.out.trans (hb13.mono hWE13.out.size)); have R13_b := Go.Lib.hid ((R12_b.out.below (below1 w12 (.cells #[(.slice b12 mn cp12), .int .i64 A] 27)) (Nat.le_refl _)).below hb13 (Nat.le_refl _)); have R13_p := Go.Lib.hid ((R12_p.out.below (below1 w12 (.cells #[(.slice b12 mn cp12), .int .i64 A] 27)) (Nat.le_refl _)).below hb13 (Nat.le_refl _)); have R13_x := Go.Lib.hid hr13; clear hr13; have BE13_b := Go.Lib.hid (B12_b.out.alloc (.cells #[(.slice b12 mn cp12), .int .i64 A] 27)); have B13_b := Go.Lib.hid (BE13_b.out.below hb13 BE13_b.out.lt); obtain ⟨k13b0, k13b1, k13b2, k13b3⟩ := B13_b.out.cells; have BE13_p := Go.Lib.hid (box1 w12 (.slice b12 mn cp12) A); have B13_p := Go.Lib.hid (BE13_p.out.below hb13 BE13_p.out.lt); obtain ⟨k13p0, k13p1, k13p2, k13p3⟩ := B13_p.out.cells; have l13b := B13_b.out.lt; have n13b : W.heap.size ≠ w13.heap.size := (by omega); have l13p := B13_p.out.lt; have n13p : w12.heap.size ≠ w13.heap.size := (by omega); clear hb13)
          | (go_at_call 21; ((with_reducible refine (sm.out _ _ _ _ _ ?h1 ?h2).mono ?_)); (case h1 => exact (R13_p.out.below (below1 w13 (.cells #[(.slice b13 mn cp13), .int .i64 A] 27)) (Nat.le_refl _))); (case h2 => exact (R13_x.out.below (below1 w13 (.cells #[(.slice b13 mn cp13), .int .i64 A] 27)) (Nat.le_refl _))); rintro e w14 ⟨rfl, hb14⟩; have hWE14 := Go.Lib.hid (hW13.out.alloc hW13.out.size (.cells #[(.slice b13 mn cp13), .int .i64 A] 27)); have hW14 := Go.Lib.hid (hWE14.out.trans (hb14.mono hWE14.out.size)); have R14_b := Go.Lib.hid ((R13_b.out.below (below1 w13 (.cells #[(.slice b13 mn cp13), .int .i64 A] 27)) (Nat.le_refl _)).below hb14 (Nat.le_refl _)); have R14_p := Go.Lib.hid ((R13_p.out.below (below1 w13 (.cells #[(.slice b13 mn cp13), .int .i64 A] 27)) (Nat.le_refl _)).below hb14 (Nat.le_refl _)); have R14_x := Go.Lib.hid ((R13_x.out.below (below1 w13 (.cells #[(.slice b13 mn cp13), .int .i64 A] 27)) (Nat.le_refl _)).below hb14 (Nat.le_refl _)); have BE14_b := Go.Lib.hid (B13_b.out.alloc (.cells #[(.slice b13 mn cp13), .int .i64 A] 27)); have B14_b := Go.Lib.hid (BE14_b.out.below hb14 BE14_b.out.lt); obtain ⟨k14b0, k14b1, k14b2, k14b3⟩ := B14_b.out.cells; have BE14_p := Go.Lib.hid (B13_p.out.alloc (.cells #[(.slice b13 mn cp13), .int .i64 A] 27)); have B14_p := Go.Lib.hid (BE14_p.out.below hb14 BE14_p.out.lt); obtain ⟨k14p0, k14p1, k14p2, k14p3⟩ := B14_p.out.cells; have BE14_x := Go.Lib.hid (box1 w13 (.slice b13 mn cp13) A); have B14_x := Go.Lib.hid (BE14_x.out.below hb14 BE14_x.out.lt); obtain ⟨k14x0, k14x1, k14x2, k14x3⟩ := B14_x.out.cells; clear hb14)
          | (go_at_call 15; refine (alive6_ok _).mono ?_; rintro e w15 ⟨rfl, hb15⟩; have hWE15 := Go.Lib.hid hW14.out; have hW15 := Go.Lib.hid (hWE15.out.trans (hb15.mono hWE15.out.size)); clear hb15))
        go_ret
        exact ⟨rfl, hW15.out⟩
      · have hin' : (N : Int) ≤ (i : Int) + (k : Int) := by omega
        go_wp2_with (first
          | (go_at_call 23; ((with_reducible refine (kn.out _ ?h1).mono ?_)); (case h1 => exact R10_b.out); rintro e w11 ⟨b11, cp11, rfl, hr11, hb11⟩; have hWE11 := Go.Lib.hid hW10.out; have hW11 := Go.Lib.hid (hWE11.out.trans (hb11.mono hWE11.out.size)); have R11_b := Go.Lib.hid (R10_b.out.below hb11 (Nat.le_refl _)); have R11_p := Go.Lib.hid hr11; clear hr11; have BE11_b := Go.Lib.hid B10_b.out; have B11_b := Go.Lib.hid (BE11_b.out.below hb11 BE11_b.out.lt); obtain ⟨k11b0, k11b1, k11b2, k11b3⟩ := B11_b.out.cells; have l11b := B11_b.out.lt; have n11b : W.heap.size ≠ w11.heap.size := (by omega); clear hb11)
          | (go_at_call 11; ((with_reducible refine (un.out _).mono ?_)); rintro e w12 ⟨b12, cp12, rfl, hr12, hb12⟩; have hWE12 := Go.Lib.hid (hW11.out.alloc hW11.out.size (.cells #[(.slice b11 mn cp11), .int .i64 A] 27)); have hW12 := Go.Lib.hid (hWE12.out.trans (hb12.mono hWE12.out.size)); have R12_b := Go.Lib.hid ((R11_b.out.below (below1 w11 (.cells #[(.slice b11 mn cp11), .int .i64 A] 27)) (Nat.le_refl _)).below hb12 (Nat.le_refl _)); have R12_p := Go.Lib.hid ((R11_p.out.below (below1 w11 (.cells #[(.slice b11 mn cp11), .int .i64 A] 27)) (Nat.le_refl _)).below hb12 (Nat.le_refl _)); have R12_x := Go.Lib.hid hr12; clear hr12; have BE12_b := Go.Lib.hid (B11_b.out.alloc (.cells #[(.slice b11 mn cp11), .int .i64 A] 27)); have B12_b := Go.Lib.hid (BE12_b.out.below hb12 BE12_b.out.lt); obtain ⟨k12b0, k12b1, k12b2, k12b3⟩ := B12_b.out.cells; have BE12_p := Go.Lib.hid (box1 w11 (.slice b11 mn cp11) A); have B12_p := Go.Lib.hid (BE12_p.out.below hb12 BE12_p.out.lt); obtain ⟨k12p0, k12p1, k12p2, k12p3⟩ := B12_p.out.cells; have l12b := B12_b.out.lt; have n12b : W.heap.size ≠ w12.heap.size := (by omega); have l12p := B12_p.out.lt; have n12p : w11.heap.size ≠ w12.heap.size := (by omega); clear hb12)
          | (go_at_call 21; ((with_reducible refine (sm.out _ _ _ _ _ ?h1 ?h2).mono ?_)); (case h1 => exact (R12_p.out.below (below1 w12 (.cells #[(.slice b12 mn cp12), .int .i64 A] 27)) (Nat.le_refl _))); (case h2 => exact (R12_x.out.below (below1 w12 (.cells #[(.slice b12 mn cp12), .int .i64 A] 27)) (Nat.le_refl _))); rintro e w13 ⟨rfl, hb13⟩; have hWE13 := Go.Lib.hid (hW12.out.alloc hW12.out.size (.cells #[(.slice b12 mn cp12), .int .i64 A] 27)); have hW13 := Go.Lib.hid (hWE13.out.trans (hb13.mono hWE13.out.size)); have R13_b := Go.Lib.hid ((R12_b.out.below (below1 w12 (.cells #[(.slice b12 mn cp12), .int .i64 A] 27)) (Nat.le_refl _)).below hb13 (Nat.le_refl _)); have R13_p := Go.Lib.hid ((R12_p.out.below (below1 w12 (.cells #[(.slice b12 mn cp12), .int .i64 A] 27)) (Nat.le_refl _)).below hb13 (Nat.le_refl _)); have R13_x := Go.Lib.hid ((R12_x.out.below (below1 w12 (.cells #[(.slice b12 mn cp12), .int .i64 A] 27)) (Nat.le_refl _)).below hb13 (Nat.le_refl _)); have BE13_b := Go.Lib.hid (B12_b.out.alloc (.cells #[(.slice b12 mn cp12), .int .i64 A] 27)); have B13_b := Go.Lib.hid (BE13_b.out.below hb13 BE13_b.out.lt); obtain ⟨k13b0, k13b1, k13b2, k13b3⟩ := B13_b.out.cells; have BE13_p := Go.Lib.hid (B12_p.out.alloc (.cells #[(.slice b12 mn cp12), .int .i64 A] 27)); have B13_p := Go.Lib.hid (BE13_p.out.below hb13 BE13_p.out.lt); obtain ⟨k13p0, k13p1, k13p2, k13p3⟩ := B13_p.out.cells; have BE13_x := Go.Lib.hid (box1 w12 (.slice b12 mn cp12) A); have B13_x := Go.Lib.hid (BE13_x.out.below hb13 BE13_x.out.lt); obtain ⟨k13x0, k13x1, k13x2, k13x3⟩ := B13_x.out.cells; clear hb13)
          | (go_at_call 15; refine (alive6_ok _).mono ?_; rintro e w14 ⟨rfl, hb14⟩; have hWE14 := Go.Lib.hid hW13.out; have hW14 := Go.Lib.hid (hWE14.out.trans (hb14.mono hWE14.out.size)); clear hb14))
        go_ret
        exact ⟨rfl, hW14.out⟩

theorem unaryShort_walk (ax0_0 : Option Addr) (lenx0_0 capx0_0 : Nat) (zx0_0 : List Int) (x0_1 : Int) (x1 : Int) (W : World) (wx0_0 : IsRow .u8 W ax0_0 lenx0_0 capx0_0 zx0_0) (wx0_1 : (Lit.int .i64 x0_1).wf = true) (wx1 : (Lit.int .i64 x1).wf = true) :
    Calls Try.prog 6 #[.agg #[.slice ax0_0 lenx0_0 capx0_0, .int .i64 x0_1], .int .i64 x1] W fun e w' => e = .returned (.bool true) ∧ Below W.heap.size W w' := by
  have hr := Row.of_isRow wx0_0
  have hkk : ∃ r, chk (zx0_0.take lenx0_0) x0_1 r := by
    by_cases hv : Valid (zx0_0.take lenx0_0) x0_1
    · exact ⟨0, .inl ⟨hv, rfl⟩⟩
    · exact ⟨8, .inr ⟨hv, rfl⟩⟩
  obtain ⟨r, hk⟩ := hkk
  by_cases h : r = 8 ∨ (r = 0 ∧ (1500 < x0_1 ∨ x1 < 0 ∨ x0_1 < x1))
  · exact unaryShort_out W _ _ _ _ _ _ hr wx0_1 r hk h
  · rcases hk with ⟨⟨B, hB1, hB2, hB3⟩, rfl⟩ | ⟨_, rfl⟩
    · obtain ⟨n, rfl⟩ : ∃ n : Nat, x1 = n := ⟨x1.toNat, by omega⟩
      rw [hB3] at hr
      rw [← hB1] at h ⊢
      obtain ⟨p, q, er, hv⟩ : ∃ p q er, readV B n = (p, q, er) := ⟨_, _, _, rfl⟩
      by_cases he : er = 0
      · subst he
        exact unaryShort_yes W _ _ _ B n hr (by omega) (by omega) _ rfl p q hv
      · obtain ⟨rfl, rfl, rfl, _, _⟩ := read_no hv he (by omega)
        exact unaryShort_no W _ _ _ B n hr (by omega) (by omega) _ rfl hv
    · omega
end Go.Proofs.Ytbegifpnbbpinaa
