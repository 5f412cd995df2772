/- DualPairs: a pair changes its K by at most 1, to where its Sum has it; the first pair depends on no other. -/
import Derived.Test.YtenkhnlhoeahkaaDuaCutWZ

namespace Go.Proofs.Ytenkhnlhoeahkaa
open Go.RowKit Cad

set_option maxRecDepth 100000 in
set_option maxHeartbeats 2000000 in
theorem dualPairs_out (W : World) (a b c d k sum : Int) (v : Nat) (r s : Int) (hr : chkD a b c d r) (hs' : chkD a k c sum s) (ha : (Lit.int .i64 a).wf = true) (hb : (Lit.int .i64 b).wf = true) (hc : (Lit.int .u64 c).wf = true) (hd : (Lit.int .u64 d).wf = true) (hk : (Lit.int .i64 k).wf = true) (hs : (Lit.int .u64 sum).wf = true)
    (h : r = 8 ∨ (r = 0 ∧ s = 8)) :
    Calls Try.prog 8 #[.agg #[.int .i64 a, .int .i64 b, .int .u64 c, .int .u64 d], .int .i64 k, .int .u64 sum, .int .u32 v] W fun e w' => e = .returned (.bool true) ∧ Below W.heap.size W w' := by
  have hWE0 := Go.Lib.hid ((below1 W (.cells #[.int .i64 a, .int .i64 b, .int .u64 c, .int .u64 d] 30)).alloc (below1 W (.cells #[.int .i64 a, .int .i64 b, .int .u64 c, .int .u64 d] 30)).size (.cells #[.int .i64 a, .int .i64 k, .int .u64 c, .int .u64 sum] 30))
  have BE0_d := Go.Lib.hid ((duat1 W a b c d).alloc (.cells #[.int .i64 a, .int .i64 k, .int .u64 c, .int .u64 sum] 30))
  have BE0_o := Go.Lib.hid (duat2 W (.cells #[.int .i64 a, .int .i64 b, .int .u64 c, .int .u64 d] 30) a k c sum)
  obtain ⟨y0, y1, y2, y3, y4, y5, y6, y7⟩ := (duat1 W a b c d).cells
  obtain ⟨z0, z1, z2, z3, z4, z5, z6, z7⟩ := BE0_d.out.cells
  have hcd := Go.Lib.hid fun w => RdCheck_any w a b c d ha hb hc hd r hr
  have hco := Go.Lib.hid fun w => RdCheck_any w a k c sum ha hk hc hs s hs'
  clear hr hs' ha hb hc hd hk hs
  rcases h with rfl | ⟨rfl, rfl⟩
  · go_enter Try.func8, Try.ntmps8
    go_wp2_with (first
      | (go_at_call 25; ((with_reducible refine (hcd.out _).mono ?_)); rintro e w1 ⟨rfl, hb1⟩; have hWE1 := Go.Lib.hid hWE0.out; have hW1 := Go.Lib.hid (hWE1.out.trans (hb1.mono hWE1.out.size)); have BE1_d := Go.Lib.hid BE0_d.out; have B1_d := Go.Lib.hid (BE1_d.out.below hb1 BE1_d.out.lt); obtain ⟨k1d0, k1d1, k1d2, k1d3, k1d4, k1d5, k1d6, k1d7⟩ := B1_d.out.cells; have BE1_o := Go.Lib.hid BE0_o.out; have B1_o := Go.Lib.hid (BE1_o.out.below hb1 BE1_o.out.lt); obtain ⟨k1o0, k1o1, k1o2, k1o3, k1o4, k1o5, k1o6, k1o7⟩ := B1_o.out.cells; clear hb1)
      | (go_at_call 17; refine (alive8_ok _).mono ?_; rintro e w2 ⟨rfl, hb2⟩; have hWE2 := Go.Lib.hid hW1.out; have hW2 := Go.Lib.hid (hWE2.out.trans (hb2.mono hWE2.out.size)); clear hb2))
    go_ret
    exact ⟨rfl, hW2.out⟩
  · go_enter Try.func8, Try.ntmps8
    go_wp2_with (first
      | (go_at_call 25; ((with_reducible refine (hcd.out _).mono ?_)); rintro e w1 ⟨rfl, hb1⟩; have hWE1 := Go.Lib.hid hWE0.out; have hW1 := Go.Lib.hid (hWE1.out.trans (hb1.mono hWE1.out.size)); have BE1_d := Go.Lib.hid BE0_d.out; have B1_d := Go.Lib.hid (BE1_d.out.below hb1 BE1_d.out.lt); obtain ⟨k1d0, k1d1, k1d2, k1d3, k1d4, k1d5, k1d6, k1d7⟩ := B1_d.out.cells; have BE1_o := Go.Lib.hid BE0_o.out; have B1_o := Go.Lib.hid (BE1_o.out.below hb1 BE1_o.out.lt); obtain ⟨k1o0, k1o1, k1o2, k1o3, k1o4, k1o5, k1o6, k1o7⟩ := B1_o.out.cells; clear hb1)
      | (go_at_call 25; ((with_reducible refine (hco.out _).mono ?_)); rintro e w2 ⟨rfl, hb2⟩; have hWE2 := Go.Lib.hid hW1.out; have hW2 := Go.Lib.hid (hWE2.out.trans (hb2.mono hWE2.out.size)); have BE2_d := Go.Lib.hid B1_d.out; have B2_d := Go.Lib.hid (BE2_d.out.below hb2 BE2_d.out.lt); obtain ⟨k2d0, k2d1, k2d2, k2d3, k2d4, k2d5, k2d6, k2d7⟩ := B2_d.out.cells; have BE2_o := Go.Lib.hid B1_o.out; have B2_o := Go.Lib.hid (BE2_o.out.below hb2 BE2_o.out.lt); obtain ⟨k2o0, k2o1, k2o2, k2o3, k2o4, k2o5, k2o6, k2o7⟩ := B2_o.out.cells; clear hb2)
      | (go_at_call 17; refine (alive8_ok _).mono ?_; rintro e w3 ⟨rfl, hb3⟩; have hWE3 := Go.Lib.hid hW2.out; have hW3 := Go.Lib.hid (hWE3.out.trans (hb3.mono hWE3.out.size)); clear hb3))
    go_ret
    exact ⟨rfl, hW3.out⟩

set_option maxRecDepth 100000 in
set_option maxHeartbeats 40000000 in
theorem dualPairs_low (W : World) (D : Du) (v : Nat) (k sum : Int) (hd : D.ok) (hv : v < 4294967296) (hl : v < 2 ^ D.k0) (i j n m : Nat) (j2 m2 : Int) (hi : i = pairK D.k0 n) (hn : n = sumN D.s0 v)
    (hj : j = D.k1) (hm : m = D.s1)
    (hcd : Hid (∀ w, Calls Try.prog 25 #[.agg #[.int .i64 D.k0, .int .i64 D.k1, .int .u64 D.s0, .int .u64 D.s1]] w fun e W' => e = .returned (.int .i64 0) ∧ Below w.heap.size w W'))
    (hco : Hid (∀ w, Calls Try.prog 25 #[.agg #[.int .i64 D.k0, .int .i64 k, .int .u64 D.s0, .int .u64 sum]] w fun e W' => e = .returned (.int .i64 0) ∧ Below w.heap.size w W'))
    (le1 : Hid (∀ w, Calls Try.prog 11 #[.agg #[.int .i64 D.k0, .int .i64 D.k1, .int .u64 D.s0, .int .u64 D.s1], .int .u32 v] w fun e W' => e = .returned (.tuple #[.agg #[.int .i64 i, .int .i64 j, .int .u64 n, .int .u64 m], .int .i64 0]) ∧ Below w.heap.size w W'))
    (le2 : Hid (∀ w, Calls Try.prog 11 #[.agg #[.int .i64 D.k0, .int .i64 k, .int .u64 D.s0, .int .u64 sum], .int .u32 v] w fun e W' => e = .returned (.tuple #[.agg #[.int .i64 i, .int .i64 j2, .int .u64 n, .int .u64 m2], .int .i64 0]) ∧ Below w.heap.size w W')) :
    Calls Try.prog 8 #[.agg #[.int .i64 D.k0, .int .i64 D.k1, .int .u64 D.s0, .int .u64 D.s1], .int .i64 k, .int .u64 sum, .int .u32 v] W fun e w' => e = .returned (.bool true) ∧ Below W.heap.size W w' := by
  obtain ⟨k24, j24, hs0, hs1⟩ := hd
  have hpw := pow24 k24
  have hnb := sumN_le hs0 hv
  rw [← hn] at hnb
  have h9 : (D.s0 : Int) - (D.s0 : Int) / 16 + (v : Int) = (n : Int) := by rw [hn]; unfold sumN; omega
  obtain ⟨p, hp⟩ : ∃ p, p = 2 ^ D.k0 := ⟨_, rfl⟩
  have p16 : 2 ^ (D.k0 + 4) = 16 * p := by rw [Nat.pow_succ, Nat.pow_succ, Nat.pow_succ, Nat.pow_succ, ← hp]; omega
  have p32 : 2 ^ (D.k0 + 5) = 32 * p := by rw [Nat.pow_succ, Nat.pow_succ, Nat.pow_succ, Nat.pow_succ, Nat.pow_succ, ← hp]; omega
  have e1 : (1 : Int) * 2 ^ D.k0 = (p : Int) := by rw [hp]; simp
  have e2 : (2 : Int) ^ D.k0 = (p : Int) := by rw [hp]; simp
  have hj1 : D.k1 ≤ j + 1 ∧ j ≤ D.k1 + 1 ∧ j ≤ 24 := by omega
  have hmb : m ≤ 68719476735 := by omega
  have hjI : ((j : Int) == (D.k1 : Int)) = true := by rw [hj]; simp
  have hmI : ((m : Int) == (D.s1 : Int)) = true := by rw [hm]; simp
  have hjN : (j == D.k1) = true := by rw [hj]; simp
  have hmN : (m == D.s1) = true := by rw [hm]; simp
  rw [← hp] at hpw hl
  have x1 : decide ((j : Int) < (D.k1 : Int) - 1) = false := decide_eq_false (by omega)
  have x2 : decide ((D.k1 : Int) + 1 < (j : Int)) = false := decide_eq_false (by omega)
  have x2n : decide (D.k1 + 1 < j) = false := decide_eq_false (by omega)
  have x3 : decide ((v : Int) < (p : Int)) = true := decide_eq_true (by omega)
  have x3n : decide (v < p) = true := decide_eq_true hl
  have hpk : i = if 0 < D.k0 ∧ n < 16 * p then D.k0 - 1 else if D.k0 < 24 ∧ 32 * p < n then D.k0 + 1 else D.k0 := by rw [hi, ← p16, ← p32]; rfl
  have key : (0 < D.k0 ∧ n < 16 * p ∧ i + 1 = D.k0) ∨ (¬ 0 < D.k0 ∧ D.k0 < 24 ∧ 32 * p < n ∧ i = D.k0 + 1) ∨ (0 < D.k0 ∧ ¬ n < 16 * p ∧ D.k0 < 24 ∧ 32 * p < n ∧ i = D.k0 + 1) ∨ (¬ 0 < D.k0 ∧ D.k0 < 24 ∧ ¬ 32 * p < n ∧ i = D.k0) ∨ (0 < D.k0 ∧ ¬ n < 16 * p ∧ D.k0 < 24 ∧ ¬ 32 * p < n ∧ i = D.k0) ∨ (0 < D.k0 ∧ ¬ n < 16 * p ∧ ¬ D.k0 < 24 ∧ i = D.k0) := by
    rw [hpk]
    by_cases a1 : 0 < D.k0 <;> by_cases a2 : n < 16 * p <;> by_cases a3 : D.k0 < 24 <;> by_cases a4 : 32 * p < n <;> simp [a1, a2, a3, a4] <;> omega
  have hWE0 := Go.Lib.hid ((below1 W (.cells #[.int .i64 D.k0, .int .i64 D.k1, .int .u64 D.s0, .int .u64 D.s1] 30)).alloc (below1 W (.cells #[.int .i64 D.k0, .int .i64 D.k1, .int .u64 D.s0, .int .u64 D.s1] 30)).size (.cells #[.int .i64 D.k0, .int .i64 k, .int .u64 D.s0, .int .u64 sum] 30))
  have BE0_d := Go.Lib.hid ((duat1 W (D.k0 : Int) (D.k1 : Int) (D.s0 : Int) (D.s1 : Int)).alloc (.cells #[.int .i64 D.k0, .int .i64 k, .int .u64 D.s0, .int .u64 sum] 30))
  have BE0_o := Go.Lib.hid (duat2 W (.cells #[.int .i64 D.k0, .int .i64 D.k1, .int .u64 D.s0, .int .u64 D.s1] 30) (D.k0 : Int) k (D.s0 : Int) sum)
  obtain ⟨y0, y1, y2, y3, y4, y5, y6, y7⟩ := (duat1 W (D.k0 : Int) (D.k1 : Int) (D.s0 : Int) (D.s1 : Int)).cells
  obtain ⟨z0, z1, z2, z3, z4, z5, z6, z7⟩ := BE0_d.out.cells
  have hib : i ≤ 25 := by omega
  clear hn hi hj hm hp p16 p32 hpk
  rcases key with ⟨a1, a2, a3⟩ | ⟨a1, a2, a3, a4⟩ | ⟨a1, a2, a3, a4, a5⟩ | ⟨a1, a2, a3, a4⟩ | ⟨a1, a2, a3, a4, a5⟩ | ⟨a1, a2, a3, a4⟩
  · have c1 : decide ((0 : Int) < (D.k0 : Int)) = true := decide_eq_true (by omega)
    have c1n : decide (0 < D.k0) = true := decide_eq_true (by omega)
    have c2 : decide ((n : Int) < 16 * (p : Int)) = true := decide_eq_true (by omega)
    have c2n : decide (n < 16 * p) = true := decide_eq_true (by omega)
    have c5 : ((i : Int) == (D.k0 : Int) - 1) = true := by rw [beq_iff_eq]; omega
    have c6 : ((i : Int) == (D.k0 : Int) + 1) = false := by rw [beq_eq_false_iff_ne]; omega
    have c6n : (i == D.k0 + 1) = false := by rw [beq_eq_false_iff_ne]; omega
    have c7 : decide ((i : Int) < (D.k0 : Int) - 1) = false := decide_eq_false (by omega)
    have c8 : decide ((D.k0 : Int) + 1 < (i : Int)) = false := decide_eq_false (by omega)
    have c8n : decide (D.k0 + 1 < i) = false := decide_eq_false (by omega)
    by_cases b24 : D.k0 < 24
    · have c3 : decide ((D.k0 : Int) < 24) = true := decide_eq_true (by omega)
      have c3n : decide (D.k0 < 24) = true := decide_eq_true (by omega)
      have c4 : decide (32 * (p : Int) < (n : Int)) = false := decide_eq_false (by omega)
      have c4n : decide (32 * p < n) = false := decide_eq_false (by omega)
      clear a1 a2 a3
      go_enter Try.func8, Try.ntmps8
      go_wp2_with (first
        | (go_at_call 25; ((with_reducible refine (hcd.out _).mono ?_)); rintro e w1 ⟨rfl, hb1⟩; have hWE1 := Go.Lib.hid hWE0.out; have hW1 := Go.Lib.hid (hWE1.out.trans (hb1.mono hWE1.out.size)); have BE1_d := Go.Lib.hid BE0_d.out; have B1_d := Go.Lib.hid (BE1_d.out.below hb1 BE1_d.out.lt); obtain ⟨k1d0, k1d1, k1d2, k1d3, k1d4, k1d5, k1d6, k1d7⟩ := B1_d.out.cells; have BE1_o := Go.Lib.hid BE0_o.out; have B1_o := Go.Lib.hid (BE1_o.out.below hb1 BE1_o.out.lt); obtain ⟨k1o0, k1o1, k1o2, k1o3, k1o4, k1o5, k1o6, k1o7⟩ := B1_o.out.cells; clear hb1)
        | (go_at_call 25; ((with_reducible refine (hco.out _).mono ?_)); rintro e w2 ⟨rfl, hb2⟩; have hWE2 := Go.Lib.hid hW1.out; have hW2 := Go.Lib.hid (hWE2.out.trans (hb2.mono hWE2.out.size)); have BE2_d := Go.Lib.hid B1_d.out; have B2_d := Go.Lib.hid (BE2_d.out.below hb2 BE2_d.out.lt); obtain ⟨k2d0, k2d1, k2d2, k2d3, k2d4, k2d5, k2d6, k2d7⟩ := B2_d.out.cells; have BE2_o := Go.Lib.hid B1_o.out; have B2_o := Go.Lib.hid (BE2_o.out.below hb2 BE2_o.out.lt); obtain ⟨k2o0, k2o1, k2o2, k2o3, k2o4, k2o5, k2o6, k2o7⟩ := B2_o.out.cells; clear hb2)
        | (go_at_call 11; ((with_reducible refine (le1.out _).mono ?_)); rintro e w3 ⟨rfl, hb3⟩; have hWE3 := Go.Lib.hid hW2.out; have hW3 := Go.Lib.hid (hWE3.out.trans (hb3.mono hWE3.out.size)); have BE3_d := Go.Lib.hid B2_d.out; have B3_d := Go.Lib.hid (BE3_d.out.below hb3 BE3_d.out.lt); obtain ⟨k3d0, k3d1, k3d2, k3d3, k3d4, k3d5, k3d6, k3d7⟩ := B3_d.out.cells; have BE3_o := Go.Lib.hid B2_o.out; have B3_o := Go.Lib.hid (BE3_o.out.below hb3 BE3_o.out.lt); obtain ⟨k3o0, k3o1, k3o2, k3o3, k3o4, k3o5, k3o6, k3o7⟩ := B3_o.out.cells; have l3d := B3_d.out.lt; have n3d : W.heap.size ≠ w3.heap.size := (by omega); have l3o := B3_o.out.lt; have n3o : W.heap.size + 1 ≠ w3.heap.size := (by omega); clear hb3)
        | (go_at_call 11; ((with_reducible refine (le2.out _).mono ?_)); rintro e w4 ⟨rfl, hb4⟩; have hWE4 := Go.Lib.hid (hW3.out.alloc hW3.out.size (.cells #[.int .i64 i, .int .i64 j, .int .u64 n, .int .u64 m] 30)); have hW4 := Go.Lib.hid (hWE4.out.trans (hb4.mono hWE4.out.size)); have BE4_d := Go.Lib.hid (B3_d.out.alloc (.cells #[.int .i64 i, .int .i64 j, .int .u64 n, .int .u64 m] 30)); have B4_d := Go.Lib.hid (BE4_d.out.below hb4 BE4_d.out.lt); obtain ⟨k4d0, k4d1, k4d2, k4d3, k4d4, k4d5, k4d6, k4d7⟩ := B4_d.out.cells; have BE4_o := Go.Lib.hid (B3_o.out.alloc (.cells #[.int .i64 i, .int .i64 j, .int .u64 n, .int .u64 m] 30)); have B4_o := Go.Lib.hid (BE4_o.out.below hb4 BE4_o.out.lt); obtain ⟨k4o0, k4o1, k4o2, k4o3, k4o4, k4o5, k4o6, k4o7⟩ := B4_o.out.cells; have BE4_x := Go.Lib.hid (duat1 w3 i j n m); have B4_x := Go.Lib.hid (BE4_x.out.below hb4 BE4_x.out.lt); obtain ⟨k4x0, k4x1, k4x2, k4x3, k4x4, k4x5, k4x6, k4x7⟩ := B4_x.out.cells; have l4d := B4_d.out.lt; have n4d : W.heap.size ≠ w4.heap.size := (by omega); have l4o := B4_o.out.lt; have n4o : W.heap.size + 1 ≠ w4.heap.size := (by omega); have l4x := B4_x.out.lt; have n4x : w3.heap.size ≠ w4.heap.size := (by omega); clear hb4))
      have hWF := Go.Lib.hid (hW4.out.alloc hW4.out.size (.cells #[.int .i64 i, .int .i64 j2, .int .u64 n, .int .u64 m2] 30))
      have BF_d := Go.Lib.hid (B4_d.out.alloc (.cells #[.int .i64 i, .int .i64 j2, .int .u64 n, .int .u64 m2] 30))
      have BF_x := Go.Lib.hid (B4_x.out.alloc (.cells #[.int .i64 i, .int .i64 j2, .int .u64 n, .int .u64 m2] 30))
      obtain ⟨wf, hwf⟩ : ∃ wf, wf = (w4.alloc (.cells #[.int .i64 i, .int .i64 j2, .int .u64 n, .int .u64 m2] 30)) := ⟨_, rfl⟩
      rw [← hwf] at hWF BF_d BF_x ⊢
      clear hwf k4d0 k4d1 k4d2 k4d3 k4d4 k4d5 k4d6 k4d7 k4o0 k4o1 k4o2 k4o3 k4o4 k4o5 k4o6 k4o7 k4x0 k4x1 k4x2 k4x3 k4x4 k4x5 k4x6 k4x7
      obtain ⟨f0, f1, f2, f3, f4, f5, f6, f7⟩ := BF_d.out.cells
      obtain ⟨g0, g1, g2, g3, g4, g5, g6, g7⟩ := BF_x.out.cells
      go_quiet (fail)
      go_wp2
      go_quiet (fail)
      go_wp2_with (go_at_call 17; refine (alive8_ok _).mono ?_; rintro e w5 ⟨rfl, hb5⟩; have hW5 := Go.Lib.hid ((Below.drewN hWF.out _).trans (hb5.mono (Below.drewN hWF.out _).size)); clear hb5)
      go_ret
      exact ⟨rfl, hW5.out⟩
    · have c3 : decide ((D.k0 : Int) < 24) = false := decide_eq_false (by omega)
      have c3n : decide (D.k0 < 24) = false := decide_eq_false (by omega)
      clear a1 a2 a3
      go_enter Try.func8, Try.ntmps8
      go_wp2_with (first
        | (go_at_call 25; ((with_reducible refine (hcd.out _).mono ?_)); rintro e w1 ⟨rfl, hb1⟩; have hWE1 := Go.Lib.hid hWE0.out; have hW1 := Go.Lib.hid (hWE1.out.trans (hb1.mono hWE1.out.size)); have BE1_d := Go.Lib.hid BE0_d.out; have B1_d := Go.Lib.hid (BE1_d.out.below hb1 BE1_d.out.lt); obtain ⟨k1d0, k1d1, k1d2, k1d3, k1d4, k1d5, k1d6, k1d7⟩ := B1_d.out.cells; have BE1_o := Go.Lib.hid BE0_o.out; have B1_o := Go.Lib.hid (BE1_o.out.below hb1 BE1_o.out.lt); obtain ⟨k1o0, k1o1, k1o2, k1o3, k1o4, k1o5, k1o6, k1o7⟩ := B1_o.out.cells; clear hb1)
        | (go_at_call 25; ((with_reducible refine (hco.out _).mono ?_)); rintro e w2 ⟨rfl, hb2⟩; have hWE2 := Go.Lib.hid hW1.out; have hW2 := Go.Lib.hid (hWE2.out.trans (hb2.mono hWE2.out.size)); have BE2_d := Go.Lib.hid B1_d.out; have B2_d := Go.Lib.hid (BE2_d.out.below hb2 BE2_d.out.lt); obtain ⟨k2d0, k2d1, k2d2, k2d3, k2d4, k2d5, k2d6, k2d7⟩ := B2_d.out.cells; have BE2_o := Go.Lib.hid B1_o.out; have B2_o := Go.Lib.hid (BE2_o.out.below hb2 BE2_o.out.lt); obtain ⟨k2o0, k2o1, k2o2, k2o3, k2o4, k2o5, k2o6, k2o7⟩ := B2_o.out.cells; clear hb2)
        | (go_at_call 11; ((with_reducible refine (le1.out _).mono ?_)); rintro e w3 ⟨rfl, hb3⟩; have hWE3 := Go.Lib.hid hW2.out; have hW3 := Go.Lib.hid (hWE3.out.trans (hb3.mono hWE3.out.size)); have BE3_d := Go.Lib.hid B2_d.out; have B3_d := Go.Lib.hid (BE3_d.out.below hb3 BE3_d.out.lt); obtain ⟨k3d0, k3d1, k3d2, k3d3, k3d4, k3d5, k3d6, k3d7⟩ := B3_d.out.cells; have BE3_o := Go.Lib.hid B2_o.out; have B3_o := Go.Lib.hid (BE3_o.out.below hb3 BE3_o.out.lt); obtain ⟨k3o0, k3o1, k3o2, k3o3, k3o4, k3o5, k3o6, k3o7⟩ := B3_o.out.cells; have l3d := B3_d.out.lt; have n3d : W.heap.size ≠ w3.heap.size := (by omega); have l3o := B3_o.out.lt; have n3o : W.heap.size + 1 ≠ w3.heap.size := (by omega); clear hb3)
        | (go_at_call 11; ((with_reducible refine (le2.out _).mono ?_)); rintro e w4 ⟨rfl, hb4⟩; have hWE4 := Go.Lib.hid (hW3.out.alloc hW3.out.size (.cells #[.int .i64 i, .int .i64 j, .int .u64 n, .int .u64 m] 30)); have hW4 := Go.Lib.hid (hWE4.out.trans (hb4.mono hWE4.out.size)); have BE4_d := Go.Lib.hid (B3_d.out.alloc (.cells #[.int .i64 i, .int .i64 j, .int .u64 n, .int .u64 m] 30)); have B4_d := Go.Lib.hid (BE4_d.out.below hb4 BE4_d.out.lt); obtain ⟨k4d0, k4d1, k4d2, k4d3, k4d4, k4d5, k4d6, k4d7⟩ := B4_d.out.cells; have BE4_o := Go.Lib.hid (B3_o.out.alloc (.cells #[.int .i64 i, .int .i64 j, .int .u64 n, .int .u64 m] 30)); have B4_o := Go.Lib.hid (BE4_o.out.below hb4 BE4_o.out.lt); obtain ⟨k4o0, k4o1, k4o2, k4o3, k4o4, k4o5, k4o6, k4o7⟩ := B4_o.out.cells; have BE4_x := Go.Lib.hid (duat1 w3 i j n m); have B4_x := Go.Lib.hid (BE4_x.out.below hb4 BE4_x.out.lt); obtain ⟨k4x0, k4x1, k4x2, k4x3, k4x4, k4x5, k4x6, k4x7⟩ := B4_x.out.cells; have l4d := B4_d.out.lt; have n4d : W.heap.size ≠ w4.heap.size := (by omega); have l4o := B4_o.out.lt; have n4o : W.heap.size + 1 ≠ w4.heap.size := (by omega); have l4x := B4_x.out.lt; have n4x : w3.heap.size ≠ w4.heap.size := (by omega); clear hb4))
      have hWF := Go.Lib.hid (hW4.out.alloc hW4.out.size (.cells #[.int .i64 i, .int .i64 j2, .int .u64 n, .int .u64 m2] 30))
      have BF_d := Go.Lib.hid (B4_d.out.alloc (.cells #[.int .i64 i, .int .i64 j2, .int .u64 n, .int .u64 m2] 30))
      have BF_x := Go.Lib.hid (B4_x.out.alloc (.cells #[.int .i64 i, .int .i64 j2, .int .u64 n, .int .u64 m2] 30))
      obtain ⟨wf, hwf⟩ : ∃ wf, wf = (w4.alloc (.cells #[.int .i64 i, .int .i64 j2, .int .u64 n, .int .u64 m2] 30)) := ⟨_, rfl⟩
      rw [← hwf] at hWF BF_d BF_x ⊢
      clear hwf k4d0 k4d1 k4d2 k4d3 k4d4 k4d5 k4d6 k4d7 k4o0 k4o1 k4o2 k4o3 k4o4 k4o5 k4o6 k4o7 k4x0 k4x1 k4x2 k4x3 k4x4 k4x5 k4x6 k4x7
      obtain ⟨f0, f1, f2, f3, f4, f5, f6, f7⟩ := BF_d.out.cells
      obtain ⟨g0, g1, g2, g3, g4, g5, g6, g7⟩ := BF_x.out.cells
      go_quiet (fail)
      go_wp2
      go_quiet (fail)
      go_wp2_with (go_at_call 17; refine (alive8_ok _).mono ?_; rintro e w5 ⟨rfl, hb5⟩; have hW5 := Go.Lib.hid ((Below.drewN hWF.out _).trans (hb5.mono (Below.drewN hWF.out _).size)); clear hb5)
      go_ret
      exact ⟨rfl, hW5.out⟩
  · have c1 : decide ((0 : Int) < (D.k0 : Int)) = false := decide_eq_false (by omega)
    have c1n : decide (0 < D.k0) = false := decide_eq_false (by omega)
    have c5 : ((i : Int) == (D.k0 : Int) - 1) = false := by rw [beq_eq_false_iff_ne]; omega
    have c6 : ((i : Int) == (D.k0 : Int) + 1) = true := by rw [beq_iff_eq]; omega
    have c6n : (i == D.k0 + 1) = true := by rw [beq_iff_eq]; omega
    have c7 : decide ((i : Int) < (D.k0 : Int) - 1) = false := decide_eq_false (by omega)
    have c8 : decide ((D.k0 : Int) + 1 < (i : Int)) = false := decide_eq_false (by omega)
    have c8n : decide (D.k0 + 1 < i) = false := decide_eq_false (by omega)
    have c3 : decide ((D.k0 : Int) < 24) = true := decide_eq_true (by omega)
    have c3n : decide (D.k0 < 24) = true := decide_eq_true (by omega)
    have c4 : decide (32 * (p : Int) < (n : Int)) = true := decide_eq_true (by omega)
    have c4n : decide (32 * p < n) = true := decide_eq_true (by omega)
    clear a1 a2 a3 a4
    go_enter Try.func8, Try.ntmps8
    go_wp2_with (first
      | (go_at_call 25; ((with_reducible refine (hcd.out _).mono ?_)); rintro e w1 ⟨rfl, hb1⟩; have hWE1 := Go.Lib.hid hWE0.out; have hW1 := Go.Lib.hid (hWE1.out.trans (hb1.mono hWE1.out.size)); have BE1_d := Go.Lib.hid BE0_d.out; have B1_d := Go.Lib.hid (BE1_d.out.below hb1 BE1_d.out.lt); obtain ⟨k1d0, k1d1, k1d2, k1d3, k1d4, k1d5, k1d6, k1d7⟩ := B1_d.out.cells; have BE1_o := Go.Lib.hid BE0_o.out; have B1_o := Go.Lib.hid (BE1_o.out.below hb1 BE1_o.out.lt); obtain ⟨k1o0, k1o1, k1o2, k1o3, k1o4, k1o5, k1o6, k1o7⟩ := B1_o.out.cells; clear hb1)
      | (go_at_call 25; ((with_reducible refine (hco.out _).mono ?_)); rintro e w2 ⟨rfl, hb2⟩; have hWE2 := Go.Lib.hid hW1.out; have hW2 := Go.Lib.hid (hWE2.out.trans (hb2.mono hWE2.out.size)); have BE2_d := Go.Lib.hid B1_d.out; have B2_d := Go.Lib.hid (BE2_d.out.below hb2 BE2_d.out.lt); obtain ⟨k2d0, k2d1, k2d2, k2d3, k2d4, k2d5, k2d6, k2d7⟩ := B2_d.out.cells; have BE2_o := Go.Lib.hid B1_o.out; have B2_o := Go.Lib.hid (BE2_o.out.below hb2 BE2_o.out.lt); obtain ⟨k2o0, k2o1, k2o2, k2o3, k2o4, k2o5, k2o6, k2o7⟩ := B2_o.out.cells; clear hb2)
      | (go_at_call 11; ((with_reducible refine (le1.out _).mono ?_)); rintro e w3 ⟨rfl, hb3⟩; have hWE3 := Go.Lib.hid hW2.out; have hW3 := Go.Lib.hid (hWE3.out.trans (hb3.mono hWE3.out.size)); have BE3_d := Go.Lib.hid B2_d.out; have B3_d := Go.Lib.hid (BE3_d.out.below hb3 BE3_d.out.lt); obtain ⟨k3d0, k3d1, k3d2, k3d3, k3d4, k3d5, k3d6, k3d7⟩ := B3_d.out.cells; have BE3_o := Go.Lib.hid B2_o.out; have B3_o := Go.Lib.hid (BE3_o.out.below hb3 BE3_o.out.lt); obtain ⟨k3o0, k3o1, k3o2, k3o3, k3o4, k3o5, k3o6, k3o7⟩ := B3_o.out.cells; have l3d := B3_d.out.lt; have n3d : W.heap.size ≠ w3.heap.size := (by omega); have l3o := B3_o.out.lt; have n3o : W.heap.size + 1 ≠ w3.heap.size := (by omega); clear hb3)
      | (go_at_call 11; ((with_reducible refine (le2.out _).mono ?_)); rintro e w4 ⟨rfl, hb4⟩; have hWE4 := Go.Lib.hid (hW3.out.alloc hW3.out.size (.cells #[.int .i64 i, .int .i64 j, .int .u64 n, .int .u64 m] 30)); have hW4 := Go.Lib.hid (hWE4.out.trans (hb4.mono hWE4.out.size)); have BE4_d := Go.Lib.hid (B3_d.out.alloc (.cells #[.int .i64 i, .int .i64 j, .int .u64 n, .int .u64 m] 30)); have B4_d := Go.Lib.hid (BE4_d.out.below hb4 BE4_d.out.lt); obtain ⟨k4d0, k4d1, k4d2, k4d3, k4d4, k4d5, k4d6, k4d7⟩ := B4_d.out.cells; have BE4_o := Go.Lib.hid (B3_o.out.alloc (.cells #[.int .i64 i, .int .i64 j, .int .u64 n, .int .u64 m] 30)); have B4_o := Go.Lib.hid (BE4_o.out.below hb4 BE4_o.out.lt); obtain ⟨k4o0, k4o1, k4o2, k4o3, k4o4, k4o5, k4o6, k4o7⟩ := B4_o.out.cells; have BE4_x := Go.Lib.hid (duat1 w3 i j n m); have B4_x := Go.Lib.hid (BE4_x.out.below hb4 BE4_x.out.lt); obtain ⟨k4x0, k4x1, k4x2, k4x3, k4x4, k4x5, k4x6, k4x7⟩ := B4_x.out.cells; have l4d := B4_d.out.lt; have n4d : W.heap.size ≠ w4.heap.size := (by omega); have l4o := B4_o.out.lt; have n4o : W.heap.size + 1 ≠ w4.heap.size := (by omega); have l4x := B4_x.out.lt; have n4x : w3.heap.size ≠ w4.heap.size := (by omega); clear hb4))
    have hWF := Go.Lib.hid (hW4.out.alloc hW4.out.size (.cells #[.int .i64 i, .int .i64 j2, .int .u64 n, .int .u64 m2] 30))
    have BF_d := Go.Lib.hid (B4_d.out.alloc (.cells #[.int .i64 i, .int .i64 j2, .int .u64 n, .int .u64 m2] 30))
    have BF_x := Go.Lib.hid (B4_x.out.alloc (.cells #[.int .i64 i, .int .i64 j2, .int .u64 n, .int .u64 m2] 30))
    obtain ⟨wf, hwf⟩ : ∃ wf, wf = (w4.alloc (.cells #[.int .i64 i, .int .i64 j2, .int .u64 n, .int .u64 m2] 30)) := ⟨_, rfl⟩
    rw [← hwf] at hWF BF_d BF_x ⊢
    clear hwf k4d0 k4d1 k4d2 k4d3 k4d4 k4d5 k4d6 k4d7 k4o0 k4o1 k4o2 k4o3 k4o4 k4o5 k4o6 k4o7 k4x0 k4x1 k4x2 k4x3 k4x4 k4x5 k4x6 k4x7
    obtain ⟨f0, f1, f2, f3, f4, f5, f6, f7⟩ := BF_d.out.cells
    obtain ⟨g0, g1, g2, g3, g4, g5, g6, g7⟩ := BF_x.out.cells
    go_quiet (fail)
    go_wp2
    go_quiet (fail)
    go_wp2_with (go_at_call 17; refine (alive8_ok _).mono ?_; rintro e w5 ⟨rfl, hb5⟩; have hW5 := Go.Lib.hid ((Below.drewN hWF.out _).trans (hb5.mono (Below.drewN hWF.out _).size)); clear hb5)
    go_ret
    exact ⟨rfl, hW5.out⟩
  · have c1 : decide ((0 : Int) < (D.k0 : Int)) = true := decide_eq_true (by omega)
    have c1n : decide (0 < D.k0) = true := decide_eq_true (by omega)
    have c2 : decide ((n : Int) < 16 * (p : Int)) = false := decide_eq_false (by omega)
    have c2n : decide (n < 16 * p) = false := decide_eq_false (by omega)
    have c5 : ((i : Int) == (D.k0 : Int) - 1) = false := by rw [beq_eq_false_iff_ne]; omega
    have c6 : ((i : Int) == (D.k0 : Int) + 1) = true := by rw [beq_iff_eq]; omega
    have c6n : (i == D.k0 + 1) = true := by rw [beq_iff_eq]; omega
    have c7 : decide ((i : Int) < (D.k0 : Int) - 1) = false := decide_eq_false (by omega)
    have c8 : decide ((D.k0 : Int) + 1 < (i : Int)) = false := decide_eq_false (by omega)
    have c8n : decide (D.k0 + 1 < i) = false := decide_eq_false (by omega)
    have c3 : decide ((D.k0 : Int) < 24) = true := decide_eq_true (by omega)
    have c3n : decide (D.k0 < 24) = true := decide_eq_true (by omega)
    have c4 : decide (32 * (p : Int) < (n : Int)) = true := decide_eq_true (by omega)
    have c4n : decide (32 * p < n) = true := decide_eq_true (by omega)
    clear a1 a2 a3 a4 a5
    go_enter Try.func8, Try.ntmps8
    go_wp2_with (first
      | (go_at_call 25; ((with_reducible refine (hcd.out _).mono ?_)); rintro e w1 ⟨rfl, hb1⟩; have hWE1 := Go.Lib.hid hWE0.out; have hW1 := Go.Lib.hid (hWE1.out.trans (hb1.mono hWE1.out.size)); have BE1_d := Go.Lib.hid BE0_d.out; have B1_d := Go.Lib.hid (BE1_d.out.below hb1 BE1_d.out.lt); obtain ⟨k1d0, k1d1, k1d2, k1d3, k1d4, k1d5, k1d6, k1d7⟩ := B1_d.out.cells; have BE1_o := Go.Lib.hid BE0_o.out; have B1_o := Go.Lib.hid (BE1_o.out.below hb1 BE1_o.out.lt); obtain ⟨k1o0, k1o1, k1o2, k1o3, k1o4, k1o5, k1o6, k1o7⟩ := B1_o.out.cells; clear hb1)
      | (go_at_call 25; ((with_reducible refine (hco.out _).mono ?_)); rintro e w2 ⟨rfl, hb2⟩; have hWE2 := Go.Lib.hid hW1.out; have hW2 := Go.Lib.hid (hWE2.out.trans (hb2.mono hWE2.out.size)); have BE2_d := Go.Lib.hid B1_d.out; have B2_d := Go.Lib.hid (BE2_d.out.below hb2 BE2_d.out.lt); obtain ⟨k2d0, k2d1, k2d2, k2d3, k2d4, k2d5, k2d6, k2d7⟩ := B2_d.out.cells; have BE2_o := Go.Lib.hid B1_o.out; have B2_o := Go.Lib.hid (BE2_o.out.below hb2 BE2_o.out.lt); obtain ⟨k2o0, k2o1, k2o2, k2o3, k2o4, k2o5, k2o6, k2o7⟩ := B2_o.out.cells; clear hb2)
      | (go_at_call 11; ((with_reducible refine (le1.out _).mono ?_)); rintro e w3 ⟨rfl, hb3⟩; have hWE3 := Go.Lib.hid hW2.out; have hW3 := Go.Lib.hid (hWE3.out.trans (hb3.mono hWE3.out.size)); have BE3_d := Go.Lib.hid B2_d.out; have B3_d := Go.Lib.hid (BE3_d.out.below hb3 BE3_d.out.lt); obtain ⟨k3d0, k3d1, k3d2, k3d3, k3d4, k3d5, k3d6, k3d7⟩ := B3_d.out.cells; have BE3_o := Go.Lib.hid B2_o.out; have B3_o := Go.Lib.hid (BE3_o.out.below hb3 BE3_o.out.lt); obtain ⟨k3o0, k3o1, k3o2, k3o3, k3o4, k3o5, k3o6, k3o7⟩ := B3_o.out.cells; have l3d := B3_d.out.lt; have n3d : W.heap.size ≠ w3.heap.size := (by omega); have l3o := B3_o.out.lt; have n3o : W.heap.size + 1 ≠ w3.heap.size := (by omega); clear hb3)
      | (go_at_call 11; ((with_reducible refine (le2.out _).mono ?_)); rintro e w4 ⟨rfl, hb4⟩; have hWE4 := Go.Lib.hid (hW3.out.alloc hW3.out.size (.cells #[.int .i64 i, .int .i64 j, .int .u64 n, .int .u64 m] 30)); have hW4 := Go.Lib.hid (hWE4.out.trans (hb4.mono hWE4.out.size)); have BE4_d := Go.Lib.hid (B3_d.out.alloc (.cells #[.int .i64 i, .int .i64 j, .int .u64 n, .int .u64 m] 30)); have B4_d := Go.Lib.hid (BE4_d.out.below hb4 BE4_d.out.lt); obtain ⟨k4d0, k4d1, k4d2, k4d3, k4d4, k4d5, k4d6, k4d7⟩ := B4_d.out.cells; have BE4_o := Go.Lib.hid (B3_o.out.alloc (.cells #[.int .i64 i, .int .i64 j, .int .u64 n, .int .u64 m] 30)); have B4_o := Go.Lib.hid (BE4_o.out.below hb4 BE4_o.out.lt); obtain ⟨k4o0, k4o1, k4o2, k4o3, k4o4, k4o5, k4o6, k4o7⟩ := B4_o.out.cells; have BE4_x := Go.Lib.hid (duat1 w3 i j n m); have B4_x := Go.Lib.hid (BE4_x.out.below hb4 BE4_x.out.lt); obtain ⟨k4x0, k4x1, k4x2, k4x3, k4x4, k4x5, k4x6, k4x7⟩ := B4_x.out.cells; have l4d := B4_d.out.lt; have n4d : W.heap.size ≠ w4.heap.size := (by omega); have l4o := B4_o.out.lt; have n4o : W.heap.size + 1 ≠ w4.heap.size := (by omega); have l4x := B4_x.out.lt; have n4x : w3.heap.size ≠ w4.heap.size := (by omega); clear hb4))
    have hWF := Go.Lib.hid (hW4.out.alloc hW4.out.size (.cells #[.int .i64 i, .int .i64 j2, .int .u64 n, .int .u64 m2] 30))
    have BF_d := Go.Lib.hid (B4_d.out.alloc (.cells #[.int .i64 i, .int .i64 j2, .int .u64 n, .int .u64 m2] 30))
    have BF_x := Go.Lib.hid (B4_x.out.alloc (.cells #[.int .i64 i, .int .i64 j2, .int .u64 n, .int .u64 m2] 30))
    obtain ⟨wf, hwf⟩ : ∃ wf, wf = (w4.alloc (.cells #[.int .i64 i, .int .i64 j2, .int .u64 n, .int .u64 m2] 30)) := ⟨_, rfl⟩
    rw [← hwf] at hWF BF_d BF_x ⊢
    clear hwf k4d0 k4d1 k4d2 k4d3 k4d4 k4d5 k4d6 k4d7 k4o0 k4o1 k4o2 k4o3 k4o4 k4o5 k4o6 k4o7 k4x0 k4x1 k4x2 k4x3 k4x4 k4x5 k4x6 k4x7
    obtain ⟨f0, f1, f2, f3, f4, f5, f6, f7⟩ := BF_d.out.cells
    obtain ⟨g0, g1, g2, g3, g4, g5, g6, g7⟩ := BF_x.out.cells
    go_quiet (fail)
    go_wp2
    go_quiet (fail)
    go_wp2_with (go_at_call 17; refine (alive8_ok _).mono ?_; rintro e w5 ⟨rfl, hb5⟩; have hW5 := Go.Lib.hid ((Below.drewN hWF.out _).trans (hb5.mono (Below.drewN hWF.out _).size)); clear hb5)
    go_ret
    exact ⟨rfl, hW5.out⟩
  · have c1 : decide ((0 : Int) < (D.k0 : Int)) = false := decide_eq_false (by omega)
    have c1n : decide (0 < D.k0) = false := decide_eq_false (by omega)
    have c5 : ((i : Int) == (D.k0 : Int) - 1) = false := by rw [beq_eq_false_iff_ne]; omega
    have c6 : ((i : Int) == (D.k0 : Int) + 1) = false := by rw [beq_eq_false_iff_ne]; omega
    have c6n : (i == D.k0 + 1) = false := by rw [beq_eq_false_iff_ne]; omega
    have c7 : decide ((i : Int) < (D.k0 : Int) - 1) = false := decide_eq_false (by omega)
    have c8 : decide ((D.k0 : Int) + 1 < (i : Int)) = false := decide_eq_false (by omega)
    have c8n : decide (D.k0 + 1 < i) = false := decide_eq_false (by omega)
    have c3 : decide ((D.k0 : Int) < 24) = true := decide_eq_true (by omega)
    have c3n : decide (D.k0 < 24) = true := decide_eq_true (by omega)
    have c4 : decide (32 * (p : Int) < (n : Int)) = false := decide_eq_false (by omega)
    have c4n : decide (32 * p < n) = false := decide_eq_false (by omega)
    clear a1 a2 a3 a4
    go_enter Try.func8, Try.ntmps8
    go_wp2_with (first
      | (go_at_call 25; ((with_reducible refine (hcd.out _).mono ?_)); rintro e w1 ⟨rfl, hb1⟩; have hWE1 := Go.Lib.hid hWE0.out; have hW1 := Go.Lib.hid (hWE1.out.trans (hb1.mono hWE1.out.size)); have BE1_d := Go.Lib.hid BE0_d.out; have B1_d := Go.Lib.hid (BE1_d.out.below hb1 BE1_d.out.lt); obtain ⟨k1d0, k1d1, k1d2, k1d3, k1d4, k1d5, k1d6, k1d7⟩ := B1_d.out.cells; have BE1_o := Go.Lib.hid BE0_o.out; have B1_o := Go.Lib.hid (BE1_o.out.below hb1 BE1_o.out.lt); obtain ⟨k1o0, k1o1, k1o2, k1o3, k1o4, k1o5, k1o6, k1o7⟩ := B1_o.out.cells; clear hb1)
      | (go_at_call 25; ((with_reducible refine (hco.out _).mono ?_)); rintro e w2 ⟨rfl, hb2⟩; have hWE2 := Go.Lib.hid hW1.out; have hW2 := Go.Lib.hid (hWE2.out.trans (hb2.mono hWE2.out.size)); have BE2_d := Go.Lib.hid B1_d.out; have B2_d := Go.Lib.hid (BE2_d.out.below hb2 BE2_d.out.lt); obtain ⟨k2d0, k2d1, k2d2, k2d3, k2d4, k2d5, k2d6, k2d7⟩ := B2_d.out.cells; have BE2_o := Go.Lib.hid B1_o.out; have B2_o := Go.Lib.hid (BE2_o.out.below hb2 BE2_o.out.lt); obtain ⟨k2o0, k2o1, k2o2, k2o3, k2o4, k2o5, k2o6, k2o7⟩ := B2_o.out.cells; clear hb2)
      | (go_at_call 11; ((with_reducible refine (le1.out _).mono ?_)); rintro e w3 ⟨rfl, hb3⟩; have hWE3 := Go.Lib.hid hW2.out; have hW3 := Go.Lib.hid (hWE3.out.trans (hb3.mono hWE3.out.size)); have BE3_d := Go.Lib.hid B2_d.out; have B3_d := Go.Lib.hid (BE3_d.out.below hb3 BE3_d.out.lt); obtain ⟨k3d0, k3d1, k3d2, k3d3, k3d4, k3d5, k3d6, k3d7⟩ := B3_d.out.cells; have BE3_o := Go.Lib.hid B2_o.out; have B3_o := Go.Lib.hid (BE3_o.out.below hb3 BE3_o.out.lt); obtain ⟨k3o0, k3o1, k3o2, k3o3, k3o4, k3o5, k3o6, k3o7⟩ := B3_o.out.cells; have l3d := B3_d.out.lt; have n3d : W.heap.size ≠ w3.heap.size := (by omega); have l3o := B3_o.out.lt; have n3o : W.heap.size + 1 ≠ w3.heap.size := (by omega); clear hb3)
      | (go_at_call 11; ((with_reducible refine (le2.out _).mono ?_)); rintro e w4 ⟨rfl, hb4⟩; have hWE4 := Go.Lib.hid (hW3.out.alloc hW3.out.size (.cells #[.int .i64 i, .int .i64 j, .int .u64 n, .int .u64 m] 30)); have hW4 := Go.Lib.hid (hWE4.out.trans (hb4.mono hWE4.out.size)); have BE4_d := Go.Lib.hid (B3_d.out.alloc (.cells #[.int .i64 i, .int .i64 j, .int .u64 n, .int .u64 m] 30)); have B4_d := Go.Lib.hid (BE4_d.out.below hb4 BE4_d.out.lt); obtain ⟨k4d0, k4d1, k4d2, k4d3, k4d4, k4d5, k4d6, k4d7⟩ := B4_d.out.cells; have BE4_o := Go.Lib.hid (B3_o.out.alloc (.cells #[.int .i64 i, .int .i64 j, .int .u64 n, .int .u64 m] 30)); have B4_o := Go.Lib.hid (BE4_o.out.below hb4 BE4_o.out.lt); obtain ⟨k4o0, k4o1, k4o2, k4o3, k4o4, k4o5, k4o6, k4o7⟩ := B4_o.out.cells; have BE4_x := Go.Lib.hid (duat1 w3 i j n m); have B4_x := Go.Lib.hid (BE4_x.out.below hb4 BE4_x.out.lt); obtain ⟨k4x0, k4x1, k4x2, k4x3, k4x4, k4x5, k4x6, k4x7⟩ := B4_x.out.cells; have l4d := B4_d.out.lt; have n4d : W.heap.size ≠ w4.heap.size := (by omega); have l4o := B4_o.out.lt; have n4o : W.heap.size + 1 ≠ w4.heap.size := (by omega); have l4x := B4_x.out.lt; have n4x : w3.heap.size ≠ w4.heap.size := (by omega); clear hb4))
    have hWF := Go.Lib.hid (hW4.out.alloc hW4.out.size (.cells #[.int .i64 i, .int .i64 j2, .int .u64 n, .int .u64 m2] 30))
    have BF_d := Go.Lib.hid (B4_d.out.alloc (.cells #[.int .i64 i, .int .i64 j2, .int .u64 n, .int .u64 m2] 30))
    have BF_x := Go.Lib.hid (B4_x.out.alloc (.cells #[.int .i64 i, .int .i64 j2, .int .u64 n, .int .u64 m2] 30))
    obtain ⟨wf, hwf⟩ : ∃ wf, wf = (w4.alloc (.cells #[.int .i64 i, .int .i64 j2, .int .u64 n, .int .u64 m2] 30)) := ⟨_, rfl⟩
    rw [← hwf] at hWF BF_d BF_x ⊢
    clear hwf k4d0 k4d1 k4d2 k4d3 k4d4 k4d5 k4d6 k4d7 k4o0 k4o1 k4o2 k4o3 k4o4 k4o5 k4o6 k4o7 k4x0 k4x1 k4x2 k4x3 k4x4 k4x5 k4x6 k4x7
    obtain ⟨f0, f1, f2, f3, f4, f5, f6, f7⟩ := BF_d.out.cells
    obtain ⟨g0, g1, g2, g3, g4, g5, g6, g7⟩ := BF_x.out.cells
    go_quiet (fail)
    go_wp2
    go_quiet (fail)
    go_wp2_with (go_at_call 17; refine (alive8_ok _).mono ?_; rintro e w5 ⟨rfl, hb5⟩; have hW5 := Go.Lib.hid ((Below.drewN hWF.out _).trans (hb5.mono (Below.drewN hWF.out _).size)); clear hb5)
    go_ret
    exact ⟨rfl, hW5.out⟩
  · have c1 : decide ((0 : Int) < (D.k0 : Int)) = true := decide_eq_true (by omega)
    have c1n : decide (0 < D.k0) = true := decide_eq_true (by omega)
    have c2 : decide ((n : Int) < 16 * (p : Int)) = false := decide_eq_false (by omega)
    have c2n : decide (n < 16 * p) = false := decide_eq_false (by omega)
    have c5 : ((i : Int) == (D.k0 : Int) - 1) = false := by rw [beq_eq_false_iff_ne]; omega
    have c6 : ((i : Int) == (D.k0 : Int) + 1) = false := by rw [beq_eq_false_iff_ne]; omega
    have c6n : (i == D.k0 + 1) = false := by rw [beq_eq_false_iff_ne]; omega
    have c7 : decide ((i : Int) < (D.k0 : Int) - 1) = false := decide_eq_false (by omega)
    have c8 : decide ((D.k0 : Int) + 1 < (i : Int)) = false := decide_eq_false (by omega)
    have c8n : decide (D.k0 + 1 < i) = false := decide_eq_false (by omega)
    have c3 : decide ((D.k0 : Int) < 24) = true := decide_eq_true (by omega)
    have c3n : decide (D.k0 < 24) = true := decide_eq_true (by omega)
    have c4 : decide (32 * (p : Int) < (n : Int)) = false := decide_eq_false (by omega)
    have c4n : decide (32 * p < n) = false := decide_eq_false (by omega)
    clear a1 a2 a3 a4 a5
    go_enter Try.func8, Try.ntmps8
    go_wp2_with (first
      | (go_at_call 25; ((with_reducible refine (hcd.out _).mono ?_)); rintro e w1 ⟨rfl, hb1⟩; have hWE1 := Go.Lib.hid hWE0.out; have hW1 := Go.Lib.hid (hWE1.out.trans (hb1.mono hWE1.out.size)); have BE1_d := Go.Lib.hid BE0_d.out; have B1_d := Go.Lib.hid (BE1_d.out.below hb1 BE1_d.out.lt); obtain ⟨k1d0, k1d1, k1d2, k1d3, k1d4, k1d5, k1d6, k1d7⟩ := B1_d.out.cells; have BE1_o := Go.Lib.hid BE0_o.out; have B1_o := Go.Lib.hid (BE1_o.out.below hb1 BE1_o.out.lt); obtain ⟨k1o0, k1o1, k1o2, k1o3, k1o4, k1o5, k1o6, k1o7⟩ := B1_o.out.cells; clear hb1)
      | (go_at_call 25; ((with_reducible refine (hco.out _).mono ?_)); rintro e w2 ⟨rfl, hb2⟩; have hWE2 := Go.Lib.hid hW1.out; have hW2 := Go.Lib.hid (hWE2.out.trans (hb2.mono hWE2.out.size)); have BE2_d := Go.Lib.hid B1_d.out; have B2_d := Go.Lib.hid (BE2_d.out.below hb2 BE2_d.out.lt); obtain ⟨k2d0, k2d1, k2d2, k2d3, k2d4, k2d5, k2d6, k2d7⟩ := B2_d.out.cells; have BE2_o := Go.Lib.hid B1_o.out; have B2_o := Go.Lib.hid (BE2_o.out.below hb2 BE2_o.out.lt); obtain ⟨k2o0, k2o1, k2o2, k2o3, k2o4, k2o5, k2o6, k2o7⟩ := B2_o.out.cells; clear hb2)
      | (go_at_call 11; ((with_reducible refine (le1.out _).mono ?_)); rintro e w3 ⟨rfl, hb3⟩; have hWE3 := Go.Lib.hid hW2.out; have hW3 := Go.Lib.hid (hWE3.out.trans (hb3.mono hWE3.out.size)); have BE3_d := Go.Lib.hid B2_d.out; have B3_d := Go.Lib.hid (BE3_d.out.below hb3 BE3_d.out.lt); obtain ⟨k3d0, k3d1, k3d2, k3d3, k3d4, k3d5, k3d6, k3d7⟩ := B3_d.out.cells; have BE3_o := Go.Lib.hid B2_o.out; have B3_o := Go.Lib.hid (BE3_o.out.below hb3 BE3_o.out.lt); obtain ⟨k3o0, k3o1, k3o2, k3o3, k3o4, k3o5, k3o6, k3o7⟩ := B3_o.out.cells; have l3d := B3_d.out.lt; have n3d : W.heap.size ≠ w3.heap.size := (by omega); have l3o := B3_o.out.lt; have n3o : W.heap.size + 1 ≠ w3.heap.size := (by omega); clear hb3)
      | (go_at_call 11; ((with_reducible refine (le2.out _).mono ?_)); rintro e w4 ⟨rfl, hb4⟩; have hWE4 := Go.Lib.hid (hW3.out.alloc hW3.out.size (.cells #[.int .i64 i, .int .i64 j, .int .u64 n, .int .u64 m] 30)); have hW4 := Go.Lib.hid (hWE4.out.trans (hb4.mono hWE4.out.size)); have BE4_d := Go.Lib.hid (B3_d.out.alloc (.cells #[.int .i64 i, .int .i64 j, .int .u64 n, .int .u64 m] 30)); have B4_d := Go.Lib.hid (BE4_d.out.below hb4 BE4_d.out.lt); obtain ⟨k4d0, k4d1, k4d2, k4d3, k4d4, k4d5, k4d6, k4d7⟩ := B4_d.out.cells; have BE4_o := Go.Lib.hid (B3_o.out.alloc (.cells #[.int .i64 i, .int .i64 j, .int .u64 n, .int .u64 m] 30)); have B4_o := Go.Lib.hid (BE4_o.out.below hb4 BE4_o.out.lt); obtain ⟨k4o0, k4o1, k4o2, k4o3, k4o4, k4o5, k4o6, k4o7⟩ := B4_o.out.cells; have BE4_x := Go.Lib.hid (duat1 w3 i j n m); have B4_x := Go.Lib.hid (BE4_x.out.below hb4 BE4_x.out.lt); obtain ⟨k4x0, k4x1, k4x2, k4x3, k4x4, k4x5, k4x6, k4x7⟩ := B4_x.out.cells; have l4d := B4_d.out.lt; have n4d : W.heap.size ≠ w4.heap.size := (by omega); have l4o := B4_o.out.lt; have n4o : W.heap.size + 1 ≠ w4.heap.size := (by omega); have l4x := B4_x.out.lt; have n4x : w3.heap.size ≠ w4.heap.size := (by omega); clear hb4))
    have hWF := Go.Lib.hid (hW4.out.alloc hW4.out.size (.cells #[.int .i64 i, .int .i64 j2, .int .u64 n, .int .u64 m2] 30))
    have BF_d := Go.Lib.hid (B4_d.out.alloc (.cells #[.int .i64 i, .int .i64 j2, .int .u64 n, .int .u64 m2] 30))
    have BF_x := Go.Lib.hid (B4_x.out.alloc (.cells #[.int .i64 i, .int .i64 j2, .int .u64 n, .int .u64 m2] 30))
    obtain ⟨wf, hwf⟩ : ∃ wf, wf = (w4.alloc (.cells #[.int .i64 i, .int .i64 j2, .int .u64 n, .int .u64 m2] 30)) := ⟨_, rfl⟩
    rw [← hwf] at hWF BF_d BF_x ⊢
    clear hwf k4d0 k4d1 k4d2 k4d3 k4d4 k4d5 k4d6 k4d7 k4o0 k4o1 k4o2 k4o3 k4o4 k4o5 k4o6 k4o7 k4x0 k4x1 k4x2 k4x3 k4x4 k4x5 k4x6 k4x7
    obtain ⟨f0, f1, f2, f3, f4, f5, f6, f7⟩ := BF_d.out.cells
    obtain ⟨g0, g1, g2, g3, g4, g5, g6, g7⟩ := BF_x.out.cells
    go_quiet (fail)
    go_wp2
    go_quiet (fail)
    go_wp2_with (go_at_call 17; refine (alive8_ok _).mono ?_; rintro e w5 ⟨rfl, hb5⟩; have hW5 := Go.Lib.hid ((Below.drewN hWF.out _).trans (hb5.mono (Below.drewN hWF.out _).size)); clear hb5)
    go_ret
    exact ⟨rfl, hW5.out⟩
  · have c1 : decide ((0 : Int) < (D.k0 : Int)) = true := decide_eq_true (by omega)
    have c1n : decide (0 < D.k0) = true := decide_eq_true (by omega)
    have c2 : decide ((n : Int) < 16 * (p : Int)) = false := decide_eq_false (by omega)
    have c2n : decide (n < 16 * p) = false := decide_eq_false (by omega)
    have c5 : ((i : Int) == (D.k0 : Int) - 1) = false := by rw [beq_eq_false_iff_ne]; omega
    have c6 : ((i : Int) == (D.k0 : Int) + 1) = false := by rw [beq_eq_false_iff_ne]; omega
    have c6n : (i == D.k0 + 1) = false := by rw [beq_eq_false_iff_ne]; omega
    have c7 : decide ((i : Int) < (D.k0 : Int) - 1) = false := decide_eq_false (by omega)
    have c8 : decide ((D.k0 : Int) + 1 < (i : Int)) = false := decide_eq_false (by omega)
    have c8n : decide (D.k0 + 1 < i) = false := decide_eq_false (by omega)
    have c3 : decide ((D.k0 : Int) < 24) = false := decide_eq_false (by omega)
    have c3n : decide (D.k0 < 24) = false := decide_eq_false (by omega)
    clear a1 a2 a3 a4
    go_enter Try.func8, Try.ntmps8
    go_wp2_with (first
      | (go_at_call 25; ((with_reducible refine (hcd.out _).mono ?_)); rintro e w1 ⟨rfl, hb1⟩; have hWE1 := Go.Lib.hid hWE0.out; have hW1 := Go.Lib.hid (hWE1.out.trans (hb1.mono hWE1.out.size)); have BE1_d := Go.Lib.hid BE0_d.out; have B1_d := Go.Lib.hid (BE1_d.out.below hb1 BE1_d.out.lt); obtain ⟨k1d0, k1d1, k1d2, k1d3, k1d4, k1d5, k1d6, k1d7⟩ := B1_d.out.cells; have BE1_o := Go.Lib.hid BE0_o.out; have B1_o := Go.Lib.hid (BE1_o.out.below hb1 BE1_o.out.lt); obtain ⟨k1o0, k1o1, k1o2, k1o3, k1o4, k1o5, k1o6, k1o7⟩ := B1_o.out.cells; clear hb1)
      | (go_at_call 25; ((with_reducible refine (hco.out _).mono ?_)); rintro e w2 ⟨rfl, hb2⟩; have hWE2 := Go.Lib.hid hW1.out; have hW2 := Go.Lib.hid (hWE2.out.trans (hb2.mono hWE2.out.size)); have BE2_d := Go.Lib.hid B1_d.out; have B2_d := Go.Lib.hid (BE2_d.out.below hb2 BE2_d.out.lt); obtain ⟨k2d0, k2d1, k2d2, k2d3, k2d4, k2d5, k2d6, k2d7⟩ := B2_d.out.cells; have BE2_o := Go.Lib.hid B1_o.out; have B2_o := Go.Lib.hid (BE2_o.out.below hb2 BE2_o.out.lt); obtain ⟨k2o0, k2o1, k2o2, k2o3, k2o4, k2o5, k2o6, k2o7⟩ := B2_o.out.cells; clear hb2)
      | (go_at_call 11; ((with_reducible refine (le1.out _).mono ?_)); rintro e w3 ⟨rfl, hb3⟩; have hWE3 := Go.Lib.hid hW2.out; have hW3 := Go.Lib.hid (hWE3.out.trans (hb3.mono hWE3.out.size)); have BE3_d := Go.Lib.hid B2_d.out; have B3_d := Go.Lib.hid (BE3_d.out.below hb3 BE3_d.out.lt); obtain ⟨k3d0, k3d1, k3d2, k3d3, k3d4, k3d5, k3d6, k3d7⟩ := B3_d.out.cells; have BE3_o := Go.Lib.hid B2_o.out; have B3_o := Go.Lib.hid (BE3_o.out.below hb3 BE3_o.out.lt); obtain ⟨k3o0, k3o1, k3o2, k3o3, k3o4, k3o5, k3o6, k3o7⟩ := B3_o.out.cells; have l3d := B3_d.out.lt; have n3d : W.heap.size ≠ w3.heap.size := (by omega); have l3o := B3_o.out.lt; have n3o : W.heap.size + 1 ≠ w3.heap.size := (by omega); clear hb3)
      | (go_at_call 11; ((with_reducible refine (le2.out _).mono ?_)); rintro e w4 ⟨rfl, hb4⟩; have hWE4 := Go.Lib.hid (hW3.out.alloc hW3.out.size (.cells #[.int .i64 i, .int .i64 j, .int .u64 n, .int .u64 m] 30)); have hW4 := Go.Lib.hid (hWE4.out.trans (hb4.mono hWE4.out.size)); have BE4_d := Go.Lib.hid (B3_d.out.alloc (.cells #[.int .i64 i, .int .i64 j, .int .u64 n, .int .u64 m] 30)); have B4_d := Go.Lib.hid (BE4_d.out.below hb4 BE4_d.out.lt); obtain ⟨k4d0, k4d1, k4d2, k4d3, k4d4, k4d5, k4d6, k4d7⟩ := B4_d.out.cells; have BE4_o := Go.Lib.hid (B3_o.out.alloc (.cells #[.int .i64 i, .int .i64 j, .int .u64 n, .int .u64 m] 30)); have B4_o := Go.Lib.hid (BE4_o.out.below hb4 BE4_o.out.lt); obtain ⟨k4o0, k4o1, k4o2, k4o3, k4o4, k4o5, k4o6, k4o7⟩ := B4_o.out.cells; have BE4_x := Go.Lib.hid (duat1 w3 i j n m); have B4_x := Go.Lib.hid (BE4_x.out.below hb4 BE4_x.out.lt); obtain ⟨k4x0, k4x1, k4x2, k4x3, k4x4, k4x5, k4x6, k4x7⟩ := B4_x.out.cells; have l4d := B4_d.out.lt; have n4d : W.heap.size ≠ w4.heap.size := (by omega); have l4o := B4_o.out.lt; have n4o : W.heap.size + 1 ≠ w4.heap.size := (by omega); have l4x := B4_x.out.lt; have n4x : w3.heap.size ≠ w4.heap.size := (by omega); clear hb4))
    have hWF := Go.Lib.hid (hW4.out.alloc hW4.out.size (.cells #[.int .i64 i, .int .i64 j2, .int .u64 n, .int .u64 m2] 30))
    have BF_d := Go.Lib.hid (B4_d.out.alloc (.cells #[.int .i64 i, .int .i64 j2, .int .u64 n, .int .u64 m2] 30))
    have BF_x := Go.Lib.hid (B4_x.out.alloc (.cells #[.int .i64 i, .int .i64 j2, .int .u64 n, .int .u64 m2] 30))
    obtain ⟨wf, hwf⟩ : ∃ wf, wf = (w4.alloc (.cells #[.int .i64 i, .int .i64 j2, .int .u64 n, .int .u64 m2] 30)) := ⟨_, rfl⟩
    rw [← hwf] at hWF BF_d BF_x ⊢
    clear hwf k4d0 k4d1 k4d2 k4d3 k4d4 k4d5 k4d6 k4d7 k4o0 k4o1 k4o2 k4o3 k4o4 k4o5 k4o6 k4o7 k4x0 k4x1 k4x2 k4x3 k4x4 k4x5 k4x6 k4x7
    obtain ⟨f0, f1, f2, f3, f4, f5, f6, f7⟩ := BF_d.out.cells
    obtain ⟨g0, g1, g2, g3, g4, g5, g6, g7⟩ := BF_x.out.cells
    go_quiet (fail)
    go_wp2
    go_quiet (fail)
    go_wp2_with (go_at_call 17; refine (alive8_ok _).mono ?_; rintro e w5 ⟨rfl, hb5⟩; have hW5 := Go.Lib.hid ((Below.drewN hWF.out _).trans (hb5.mono (Below.drewN hWF.out _).size)); clear hb5)
    go_ret
    exact ⟨rfl, hW5.out⟩

set_option maxRecDepth 100000 in
set_option maxHeartbeats 40000000 in
theorem dualPairs_high (W : World) (D : Du) (v : Nat) (k sum : Int) (hd : D.ok) (hv : v < 4294967296) (hl : ¬ v < 2 ^ D.k0) (i j n m : Nat) (j2 m2 : Int) (hi : i = pairK D.k0 n) (hn : n = sumN D.s0 v)
    (hj : j = pairK D.k1 m) (hm : m = sumN D.s1 (v - 2 ^ D.k0))
    (hcd : Hid (∀ w, Calls Try.prog 25 #[.agg #[.int .i64 D.k0, .int .i64 D.k1, .int .u64 D.s0, .int .u64 D.s1]] w fun e W' => e = .returned (.int .i64 0) ∧ Below w.heap.size w W'))
    (hco : Hid (∀ w, Calls Try.prog 25 #[.agg #[.int .i64 D.k0, .int .i64 k, .int .u64 D.s0, .int .u64 sum]] w fun e W' => e = .returned (.int .i64 0) ∧ Below w.heap.size w W'))
    (le1 : Hid (∀ w, Calls Try.prog 11 #[.agg #[.int .i64 D.k0, .int .i64 D.k1, .int .u64 D.s0, .int .u64 D.s1], .int .u32 v] w fun e W' => e = .returned (.tuple #[.agg #[.int .i64 i, .int .i64 j, .int .u64 n, .int .u64 m], .int .i64 0]) ∧ Below w.heap.size w W'))
    (le2 : Hid (∀ w, Calls Try.prog 11 #[.agg #[.int .i64 D.k0, .int .i64 k, .int .u64 D.s0, .int .u64 sum], .int .u32 v] w fun e W' => e = .returned (.tuple #[.agg #[.int .i64 i, .int .i64 j2, .int .u64 n, .int .u64 m2], .int .i64 0]) ∧ Below w.heap.size w W')) :
    Calls Try.prog 8 #[.agg #[.int .i64 D.k0, .int .i64 D.k1, .int .u64 D.s0, .int .u64 D.s1], .int .i64 k, .int .u64 sum, .int .u32 v] W fun e w' => e = .returned (.bool true) ∧ Below W.heap.size W w' := by
  obtain ⟨k24, j24, hs0, hs1⟩ := hd
  have hpw := pow24 k24
  have hnb := sumN_le hs0 hv
  rw [← hn] at hnb
  have h9 : (D.s0 : Int) - (D.s0 : Int) / 16 + (v : Int) = (n : Int) := by rw [hn]; unfold sumN; omega
  obtain ⟨p, hp⟩ : ∃ p, p = 2 ^ D.k0 := ⟨_, rfl⟩
  have p16 : 2 ^ (D.k0 + 4) = 16 * p := by rw [Nat.pow_succ, Nat.pow_succ, Nat.pow_succ, Nat.pow_succ, ← hp]; omega
  have p32 : 2 ^ (D.k0 + 5) = 32 * p := by rw [Nat.pow_succ, Nat.pow_succ, Nat.pow_succ, Nat.pow_succ, Nat.pow_succ, ← hp]; omega
  have e1 : (1 : Int) * 2 ^ D.k0 = (p : Int) := by rw [hp]; simp
  have e2 : (2 : Int) ^ D.k0 = (p : Int) := by rw [hp]; simp
  have hmb : m ≤ 68719476735 := by rw [hm]; exact sumN_le hs1 (Nat.lt_of_le_of_lt (Nat.sub_le _ _) hv)
  have h17 : (D.s1 : Int) - (D.s1 : Int) / 16 + ((v : Int) - (p : Int)) = (m : Int) := by rw [hm, ← hp]; unfold sumN; rw [← hp] at hl; omega
  have hj1 : D.k1 ≤ j + 1 ∧ j ≤ D.k1 + 1 ∧ j ≤ 24 := by
    refine ⟨?_, ?_, by rw [hj]; exact pairK_le j24⟩ <;> (rw [hj]; unfold pairK; split; (· omega); split <;> omega)
  rw [← hp] at hpw hl
  have x1 : decide ((j : Int) < (D.k1 : Int) - 1) = false := decide_eq_false (by omega)
  have x2 : decide ((D.k1 : Int) + 1 < (j : Int)) = false := decide_eq_false (by omega)
  have x2n : decide (D.k1 + 1 < j) = false := decide_eq_false (by omega)
  have x3 : decide ((v : Int) < (p : Int)) = false := decide_eq_false (by omega)
  have x3n : decide (v < p) = false := decide_eq_false hl
  have hpk : i = if 0 < D.k0 ∧ n < 16 * p then D.k0 - 1 else if D.k0 < 24 ∧ 32 * p < n then D.k0 + 1 else D.k0 := by rw [hi, ← p16, ← p32]; rfl
  have key : (0 < D.k0 ∧ n < 16 * p ∧ i + 1 = D.k0) ∨ (¬ 0 < D.k0 ∧ D.k0 < 24 ∧ 32 * p < n ∧ i = D.k0 + 1) ∨ (0 < D.k0 ∧ ¬ n < 16 * p ∧ D.k0 < 24 ∧ 32 * p < n ∧ i = D.k0 + 1) ∨ (¬ 0 < D.k0 ∧ D.k0 < 24 ∧ ¬ 32 * p < n ∧ i = D.k0) ∨ (0 < D.k0 ∧ ¬ n < 16 * p ∧ D.k0 < 24 ∧ ¬ 32 * p < n ∧ i = D.k0) ∨ (0 < D.k0 ∧ ¬ n < 16 * p ∧ ¬ D.k0 < 24 ∧ i = D.k0) := by
    rw [hpk]
    by_cases a1 : 0 < D.k0 <;> by_cases a2 : n < 16 * p <;> by_cases a3 : D.k0 < 24 <;> by_cases a4 : 32 * p < n <;> simp [a1, a2, a3, a4] <;> omega
  have hWE0 := Go.Lib.hid ((below1 W (.cells #[.int .i64 D.k0, .int .i64 D.k1, .int .u64 D.s0, .int .u64 D.s1] 30)).alloc (below1 W (.cells #[.int .i64 D.k0, .int .i64 D.k1, .int .u64 D.s0, .int .u64 D.s1] 30)).size (.cells #[.int .i64 D.k0, .int .i64 k, .int .u64 D.s0, .int .u64 sum] 30))
  have BE0_d := Go.Lib.hid ((duat1 W (D.k0 : Int) (D.k1 : Int) (D.s0 : Int) (D.s1 : Int)).alloc (.cells #[.int .i64 D.k0, .int .i64 k, .int .u64 D.s0, .int .u64 sum] 30))
  have BE0_o := Go.Lib.hid (duat2 W (.cells #[.int .i64 D.k0, .int .i64 D.k1, .int .u64 D.s0, .int .u64 D.s1] 30) (D.k0 : Int) k (D.s0 : Int) sum)
  obtain ⟨y0, y1, y2, y3, y4, y5, y6, y7⟩ := (duat1 W (D.k0 : Int) (D.k1 : Int) (D.s0 : Int) (D.s1 : Int)).cells
  obtain ⟨z0, z1, z2, z3, z4, z5, z6, z7⟩ := BE0_d.out.cells
  have hib : i ≤ 25 := by omega
  clear hn hi hj hm hp p16 p32 hpk
  rcases key with ⟨a1, a2, a3⟩ | ⟨a1, a2, a3, a4⟩ | ⟨a1, a2, a3, a4, a5⟩ | ⟨a1, a2, a3, a4⟩ | ⟨a1, a2, a3, a4, a5⟩ | ⟨a1, a2, a3, a4⟩
  · have c1 : decide ((0 : Int) < (D.k0 : Int)) = true := decide_eq_true (by omega)
    have c1n : decide (0 < D.k0) = true := decide_eq_true (by omega)
    have c2 : decide ((n : Int) < 16 * (p : Int)) = true := decide_eq_true (by omega)
    have c2n : decide (n < 16 * p) = true := decide_eq_true (by omega)
    have c5 : ((i : Int) == (D.k0 : Int) - 1) = true := by rw [beq_iff_eq]; omega
    have c6 : ((i : Int) == (D.k0 : Int) + 1) = false := by rw [beq_eq_false_iff_ne]; omega
    have c6n : (i == D.k0 + 1) = false := by rw [beq_eq_false_iff_ne]; omega
    have c7 : decide ((i : Int) < (D.k0 : Int) - 1) = false := decide_eq_false (by omega)
    have c8 : decide ((D.k0 : Int) + 1 < (i : Int)) = false := decide_eq_false (by omega)
    have c8n : decide (D.k0 + 1 < i) = false := decide_eq_false (by omega)
    by_cases b24 : D.k0 < 24
    · have c3 : decide ((D.k0 : Int) < 24) = true := decide_eq_true (by omega)
      have c3n : decide (D.k0 < 24) = true := decide_eq_true (by omega)
      have c4 : decide (32 * (p : Int) < (n : Int)) = false := decide_eq_false (by omega)
      have c4n : decide (32 * p < n) = false := decide_eq_false (by omega)
      clear a1 a2 a3
      go_enter Try.func8, Try.ntmps8
      go_wp2_with (first
        | (go_at_call 25; ((with_reducible refine (hcd.out _).mono ?_)); rintro e w1 ⟨rfl, hb1⟩; have hWE1 := Go.Lib.hid hWE0.out; have hW1 := Go.Lib.hid (hWE1.out.trans (hb1.mono hWE1.out.size)); have BE1_d := Go.Lib.hid BE0_d.out; have B1_d := Go.Lib.hid (BE1_d.out.below hb1 BE1_d.out.lt); obtain ⟨k1d0, k1d1, k1d2, k1d3, k1d4, k1d5, k1d6, k1d7⟩ := B1_d.out.cells; have BE1_o := Go.Lib.hid BE0_o.out; have B1_o := Go.Lib.hid (BE1_o.out.below hb1 BE1_o.out.lt); obtain ⟨k1o0, k1o1, k1o2, k1o3, k1o4, k1o5, k1o6, k1o7⟩ := B1_o.out.cells; clear hb1)
        | (go_at_call 25; ((with_reducible refine (hco.out _).mono ?_)); rintro e w2 ⟨rfl, hb2⟩; have hWE2 := Go.Lib.hid hW1.out; have hW2 := Go.Lib.hid (hWE2.out.trans (hb2.mono hWE2.out.size)); have BE2_d := Go.Lib.hid B1_d.out; have B2_d := Go.Lib.hid (BE2_d.out.below hb2 BE2_d.out.lt); obtain ⟨k2d0, k2d1, k2d2, k2d3, k2d4, k2d5, k2d6, k2d7⟩ := B2_d.out.cells; have BE2_o := Go.Lib.hid B1_o.out; have B2_o := Go.Lib.hid (BE2_o.out.below hb2 BE2_o.out.lt); obtain ⟨k2o0, k2o1, k2o2, k2o3, k2o4, k2o5, k2o6, k2o7⟩ := B2_o.out.cells; clear hb2)
        | (go_at_call 11; ((with_reducible refine (le1.out _).mono ?_)); rintro e w3 ⟨rfl, hb3⟩; have hWE3 := Go.Lib.hid hW2.out; have hW3 := Go.Lib.hid (hWE3.out.trans (hb3.mono hWE3.out.size)); have BE3_d := Go.Lib.hid B2_d.out; have B3_d := Go.Lib.hid (BE3_d.out.below hb3 BE3_d.out.lt); obtain ⟨k3d0, k3d1, k3d2, k3d3, k3d4, k3d5, k3d6, k3d7⟩ := B3_d.out.cells; have BE3_o := Go.Lib.hid B2_o.out; have B3_o := Go.Lib.hid (BE3_o.out.below hb3 BE3_o.out.lt); obtain ⟨k3o0, k3o1, k3o2, k3o3, k3o4, k3o5, k3o6, k3o7⟩ := B3_o.out.cells; have l3d := B3_d.out.lt; have n3d : W.heap.size ≠ w3.heap.size := (by omega); have l3o := B3_o.out.lt; have n3o : W.heap.size + 1 ≠ w3.heap.size := (by omega); clear hb3)
        | (go_at_call 11; ((with_reducible refine (le2.out _).mono ?_)); rintro e w4 ⟨rfl, hb4⟩; have hWE4 := Go.Lib.hid (hW3.out.alloc hW3.out.size (.cells #[.int .i64 i, .int .i64 j, .int .u64 n, .int .u64 m] 30)); have hW4 := Go.Lib.hid (hWE4.out.trans (hb4.mono hWE4.out.size)); have BE4_d := Go.Lib.hid (B3_d.out.alloc (.cells #[.int .i64 i, .int .i64 j, .int .u64 n, .int .u64 m] 30)); have B4_d := Go.Lib.hid (BE4_d.out.below hb4 BE4_d.out.lt); obtain ⟨k4d0, k4d1, k4d2, k4d3, k4d4, k4d5, k4d6, k4d7⟩ := B4_d.out.cells; have BE4_o := Go.Lib.hid (B3_o.out.alloc (.cells #[.int .i64 i, .int .i64 j, .int .u64 n, .int .u64 m] 30)); have B4_o := Go.Lib.hid (BE4_o.out.below hb4 BE4_o.out.lt); obtain ⟨k4o0, k4o1, k4o2, k4o3, k4o4, k4o5, k4o6, k4o7⟩ := B4_o.out.cells; have BE4_x := Go.Lib.hid (duat1 w3 i j n m); have B4_x := Go.Lib.hid (BE4_x.out.below hb4 BE4_x.out.lt); obtain ⟨k4x0, k4x1, k4x2, k4x3, k4x4, k4x5, k4x6, k4x7⟩ := B4_x.out.cells; have l4d := B4_d.out.lt; have n4d : W.heap.size ≠ w4.heap.size := (by omega); have l4o := B4_o.out.lt; have n4o : W.heap.size + 1 ≠ w4.heap.size := (by omega); have l4x := B4_x.out.lt; have n4x : w3.heap.size ≠ w4.heap.size := (by omega); clear hb4))
      have hWF := Go.Lib.hid (hW4.out.alloc hW4.out.size (.cells #[.int .i64 i, .int .i64 j2, .int .u64 n, .int .u64 m2] 30))
      have BF_d := Go.Lib.hid (B4_d.out.alloc (.cells #[.int .i64 i, .int .i64 j2, .int .u64 n, .int .u64 m2] 30))
      have BF_x := Go.Lib.hid (B4_x.out.alloc (.cells #[.int .i64 i, .int .i64 j2, .int .u64 n, .int .u64 m2] 30))
      obtain ⟨wf, hwf⟩ : ∃ wf, wf = (w4.alloc (.cells #[.int .i64 i, .int .i64 j2, .int .u64 n, .int .u64 m2] 30)) := ⟨_, rfl⟩
      rw [← hwf] at hWF BF_d BF_x ⊢
      clear hwf k4d0 k4d1 k4d2 k4d3 k4d4 k4d5 k4d6 k4d7 k4o0 k4o1 k4o2 k4o3 k4o4 k4o5 k4o6 k4o7 k4x0 k4x1 k4x2 k4x3 k4x4 k4x5 k4x6 k4x7
      obtain ⟨f0, f1, f2, f3, f4, f5, f6, f7⟩ := BF_d.out.cells
      obtain ⟨g0, g1, g2, g3, g4, g5, g6, g7⟩ := BF_x.out.cells
      go_quiet (fail)
      go_wp2
      go_quiet (fail)
      go_wp2
      refine wp_region_ord (fun _ => True) [(0, 0), (1, 1), (2, 0), (3, 1), (4, 0), (5, 1), (6, 0), (7, 0), (8, 0), (9, 0), (10, 0), (11, 1), (12, 0), (13, 0), (14, 0), (15, 0), (16, 0), (17, 3), (18, 0), (19, 0)] (by kernel_rfl) (by kernel_rfl) ?hC0 ?_
      case hC0 => trivial
      simp only [pick, nth]
      (repeat (first | (apply wpW_light; (case h => (intro wa; (first | (go_big_quiet_skip; exact wpQuiet_nil rfl) | (go_big_quiet_want; go_big_quiet_op; go_big_quiet_on; exact wpQuiet_nil rfl))))) | (apply wpW_here; (case h => (first | (go_big_quiet_skip; exact wpQuiet_nil rfl) | (go_big_quiet_want; go_big_quiet_op; go_big_quiet_on; exact wpQuiet_nil rfl)))) | (apply wpW_held; (case hC => assumption); (case h => (intro wa hCa; simp only [] at hCa; (first | (go_big_quiet_skip; exact wpQuiet_nil rfl) | (go_big_quiet_want; go_big_quiet_op; go_big_quiet_on; exact wpQuiet_nil rfl)))))))
      refine wpW_actg (fun QQ hQQ => ?_) (by rfl)
      go_wp2_with (go_at_call 17; refine (alive8_ok _).mono ?_; rintro e w5 ⟨rfl, hb5⟩; have hW5 := Go.Lib.hid ((Below.drewN hWF.out _).trans (hb5.mono (Below.drewN hWF.out _).size)); clear hb5)
      (refine hQQ _ _ ?hCn ?_; (case hCn => trivial); clear hQQ QQ)
      (repeat (first | (apply wpW_light; (case h => (intro wa; (first | (go_big_quiet_skip; exact wpQuiet_nil rfl) | (go_big_quiet_want; go_big_quiet_op; go_big_quiet_on; exact wpQuiet_nil rfl))))) | (apply wpW_here; (case h => (first | (go_big_quiet_skip; exact wpQuiet_nil rfl) | (go_big_quiet_want; go_big_quiet_op; go_big_quiet_on; exact wpQuiet_nil rfl)))) | (apply wpW_held; (case hC => assumption); (case h => (intro wa hCa; simp only [] at hCa; (first | (go_big_quiet_skip; exact wpQuiet_nil rfl) | (go_big_quiet_want; go_big_quiet_op; go_big_quiet_on; exact wpQuiet_nil rfl)))))))
      refine wpW_nil ?_
      go_wp2
      go_ret
      exact ⟨rfl, hW5.out⟩
    · have c3 : decide ((D.k0 : Int) < 24) = false := decide_eq_false (by omega)
      have c3n : decide (D.k0 < 24) = false := decide_eq_false (by omega)
      clear a1 a2 a3
      go_enter Try.func8, Try.ntmps8
      go_wp2_with (first
        | (go_at_call 25; ((with_reducible refine (hcd.out _).mono ?_)); rintro e w1 ⟨rfl, hb1⟩; have hWE1 := Go.Lib.hid hWE0.out; have hW1 := Go.Lib.hid (hWE1.out.trans (hb1.mono hWE1.out.size)); have BE1_d := Go.Lib.hid BE0_d.out; have B1_d := Go.Lib.hid (BE1_d.out.below hb1 BE1_d.out.lt); obtain ⟨k1d0, k1d1, k1d2, k1d3, k1d4, k1d5, k1d6, k1d7⟩ := B1_d.out.cells; have BE1_o := Go.Lib.hid BE0_o.out; have B1_o := Go.Lib.hid (BE1_o.out.below hb1 BE1_o.out.lt); obtain ⟨k1o0, k1o1, k1o2, k1o3, k1o4, k1o5, k1o6, k1o7⟩ := B1_o.out.cells; clear hb1)
        | (go_at_call 25; ((with_reducible refine (hco.out _).mono ?_)); rintro e w2 ⟨rfl, hb2⟩; have hWE2 := Go.Lib.hid hW1.out; have hW2 := Go.Lib.hid (hWE2.out.trans (hb2.mono hWE2.out.size)); have BE2_d := Go.Lib.hid B1_d.out; have B2_d := Go.Lib.hid (BE2_d.out.below hb2 BE2_d.out.lt); obtain ⟨k2d0, k2d1, k2d2, k2d3, k2d4, k2d5, k2d6, k2d7⟩ := B2_d.out.cells; have BE2_o := Go.Lib.hid B1_o.out; have B2_o := Go.Lib.hid (BE2_o.out.below hb2 BE2_o.out.lt); obtain ⟨k2o0, k2o1, k2o2, k2o3, k2o4, k2o5, k2o6, k2o7⟩ := B2_o.out.cells; clear hb2)
        | (go_at_call 11; ((with_reducible refine (le1.out _).mono ?_)); rintro e w3 ⟨rfl, hb3⟩; have hWE3 := Go.Lib.hid hW2.out; have hW3 := Go.Lib.hid (hWE3.out.trans (hb3.mono hWE3.out.size)); have BE3_d := Go.Lib.hid B2_d.out; have B3_d := Go.Lib.hid (BE3_d.out.below hb3 BE3_d.out.lt); obtain ⟨k3d0, k3d1, k3d2, k3d3, k3d4, k3d5, k3d6, k3d7⟩ := B3_d.out.cells; have BE3_o := Go.Lib.hid B2_o.out; have B3_o := Go.Lib.hid (BE3_o.out.below hb3 BE3_o.out.lt); obtain ⟨k3o0, k3o1, k3o2, k3o3, k3o4, k3o5, k3o6, k3o7⟩ := B3_o.out.cells; have l3d := B3_d.out.lt; have n3d : W.heap.size ≠ w3.heap.size := (by omega); have l3o := B3_o.out.lt; have n3o : W.heap.size + 1 ≠ w3.heap.size := (by omega); clear hb3)
        | (go_at_call 11; ((with_reducible refine (le2.out _).mono ?_)); rintro e w4 ⟨rfl, hb4⟩; have hWE4 := Go.Lib.hid (hW3.out.alloc hW3.out.size (.cells #[.int .i64 i, .int .i64 j, .int .u64 n, .int .u64 m] 30)); have hW4 := Go.Lib.hid (hWE4.out.trans (hb4.mono hWE4.out.size)); have BE4_d := Go.Lib.hid (B3_d.out.alloc (.cells #[.int .i64 i, .int .i64 j, .int .u64 n, .int .u64 m] 30)); have B4_d := Go.Lib.hid (BE4_d.out.below hb4 BE4_d.out.lt); obtain ⟨k4d0, k4d1, k4d2, k4d3, k4d4, k4d5, k4d6, k4d7⟩ := B4_d.out.cells; have BE4_o := Go.Lib.hid (B3_o.out.alloc (.cells #[.int .i64 i, .int .i64 j, .int .u64 n, .int .u64 m] 30)); have B4_o := Go.Lib.hid (BE4_o.out.below hb4 BE4_o.out.lt); obtain ⟨k4o0, k4o1, k4o2, k4o3, k4o4, k4o5, k4o6, k4o7⟩ := B4_o.out.cells; have BE4_x := Go.Lib.hid (duat1 w3 i j n m); have B4_x := Go.Lib.hid (BE4_x.out.below hb4 BE4_x.out.lt); obtain ⟨k4x0, k4x1, k4x2, k4x3, k4x4, k4x5, k4x6, k4x7⟩ := B4_x.out.cells; have l4d := B4_d.out.lt; have n4d : W.heap.size ≠ w4.heap.size := (by omega); have l4o := B4_o.out.lt; have n4o : W.heap.size + 1 ≠ w4.heap.size := (by omega); have l4x := B4_x.out.lt; have n4x : w3.heap.size ≠ w4.heap.size := (by omega); clear hb4))
      have hWF := Go.Lib.hid (hW4.out.alloc hW4.out.size (.cells #[.int .i64 i, .int .i64 j2, .int .u64 n, .int .u64 m2] 30))
      have BF_d := Go.Lib.hid (B4_d.out.alloc (.cells #[.int .i64 i, .int .i64 j2, .int .u64 n, .int .u64 m2] 30))
      have BF_x := Go.Lib.hid (B4_x.out.alloc (.cells #[.int .i64 i, .int .i64 j2, .int .u64 n, .int .u64 m2] 30))
      obtain ⟨wf, hwf⟩ : ∃ wf, wf = (w4.alloc (.cells #[.int .i64 i, .int .i64 j2, .int .u64 n, .int .u64 m2] 30)) := ⟨_, rfl⟩
      rw [← hwf] at hWF BF_d BF_x ⊢
      clear hwf k4d0 k4d1 k4d2 k4d3 k4d4 k4d5 k4d6 k4d7 k4o0 k4o1 k4o2 k4o3 k4o4 k4o5 k4o6 k4o7 k4x0 k4x1 k4x2 k4x3 k4x4 k4x5 k4x6 k4x7
      obtain ⟨f0, f1, f2, f3, f4, f5, f6, f7⟩ := BF_d.out.cells
      obtain ⟨g0, g1, g2, g3, g4, g5, g6, g7⟩ := BF_x.out.cells
      go_quiet (fail)
      go_wp2
      go_quiet (fail)
      go_wp2
      refine wp_region_ord (fun _ => True) [(0, 0), (1, 1), (2, 0), (3, 1), (4, 0), (5, 1), (6, 0), (7, 0), (8, 0), (9, 0), (10, 0), (11, 1), (12, 0), (13, 0), (14, 0), (15, 0), (16, 0), (17, 3), (18, 0), (19, 0)] (by kernel_rfl) (by kernel_rfl) ?hC0 ?_
      case hC0 => trivial
      simp only [pick, nth]
      (repeat (first | (apply wpW_light; (case h => (intro wa; (first | (go_big_quiet_skip; exact wpQuiet_nil rfl) | (go_big_quiet_want; go_big_quiet_op; go_big_quiet_on; exact wpQuiet_nil rfl))))) | (apply wpW_here; (case h => (first | (go_big_quiet_skip; exact wpQuiet_nil rfl) | (go_big_quiet_want; go_big_quiet_op; go_big_quiet_on; exact wpQuiet_nil rfl)))) | (apply wpW_held; (case hC => assumption); (case h => (intro wa hCa; simp only [] at hCa; (first | (go_big_quiet_skip; exact wpQuiet_nil rfl) | (go_big_quiet_want; go_big_quiet_op; go_big_quiet_on; exact wpQuiet_nil rfl)))))))
      refine wpW_actg (fun QQ hQQ => ?_) (by rfl)
      go_wp2_with (go_at_call 17; refine (alive8_ok _).mono ?_; rintro e w5 ⟨rfl, hb5⟩; have hW5 := Go.Lib.hid ((Below.drewN hWF.out _).trans (hb5.mono (Below.drewN hWF.out _).size)); clear hb5)
      (refine hQQ _ _ ?hCn ?_; (case hCn => trivial); clear hQQ QQ)
      (repeat (first | (apply wpW_light; (case h => (intro wa; (first | (go_big_quiet_skip; exact wpQuiet_nil rfl) | (go_big_quiet_want; go_big_quiet_op; go_big_quiet_on; exact wpQuiet_nil rfl))))) | (apply wpW_here; (case h => (first | (go_big_quiet_skip; exact wpQuiet_nil rfl) | (go_big_quiet_want; go_big_quiet_op; go_big_quiet_on; exact wpQuiet_nil rfl)))) | (apply wpW_held; (case hC => assumption); (case h => (intro wa hCa; simp only [] at hCa; (first | (go_big_quiet_skip; exact wpQuiet_nil rfl) | (go_big_quiet_want; go_big_quiet_op; go_big_quiet_on; exact wpQuiet_nil rfl)))))))
      refine wpW_nil ?_
      go_wp2
      go_ret
      exact ⟨rfl, hW5.out⟩
  · have c1 : decide ((0 : Int) < (D.k0 : Int)) = false := decide_eq_false (by omega)
    have c1n : decide (0 < D.k0) = false := decide_eq_false (by omega)
    have c5 : ((i : Int) == (D.k0 : Int) - 1) = false := by rw [beq_eq_false_iff_ne]; omega
    have c6 : ((i : Int) == (D.k0 : Int) + 1) = true := by rw [beq_iff_eq]; omega
    have c6n : (i == D.k0 + 1) = true := by rw [beq_iff_eq]; omega
    have c7 : decide ((i : Int) < (D.k0 : Int) - 1) = false := decide_eq_false (by omega)
    have c8 : decide ((D.k0 : Int) + 1 < (i : Int)) = false := decide_eq_false (by omega)
    have c8n : decide (D.k0 + 1 < i) = false := decide_eq_false (by omega)
    have c3 : decide ((D.k0 : Int) < 24) = true := decide_eq_true (by omega)
    have c3n : decide (D.k0 < 24) = true := decide_eq_true (by omega)
    have c4 : decide (32 * (p : Int) < (n : Int)) = true := decide_eq_true (by omega)
    have c4n : decide (32 * p < n) = true := decide_eq_true (by omega)
    clear a1 a2 a3 a4
    go_enter Try.func8, Try.ntmps8
    go_wp2_with (first
      | (go_at_call 25; ((with_reducible refine (hcd.out _).mono ?_)); rintro e w1 ⟨rfl, hb1⟩; have hWE1 := Go.Lib.hid hWE0.out; have hW1 := Go.Lib.hid (hWE1.out.trans (hb1.mono hWE1.out.size)); have BE1_d := Go.Lib.hid BE0_d.out; have B1_d := Go.Lib.hid (BE1_d.out.below hb1 BE1_d.out.lt); obtain ⟨k1d0, k1d1, k1d2, k1d3, k1d4, k1d5, k1d6, k1d7⟩ := B1_d.out.cells; have BE1_o := Go.Lib.hid BE0_o.out; have B1_o := Go.Lib.hid (BE1_o.out.below hb1 BE1_o.out.lt); obtain ⟨k1o0, k1o1, k1o2, k1o3, k1o4, k1o5, k1o6, k1o7⟩ := B1_o.out.cells; clear hb1)
      | (go_at_call 25; ((with_reducible refine (hco.out _).mono ?_)); rintro e w2 ⟨rfl, hb2⟩; have hWE2 := Go.Lib.hid hW1.out; have hW2 := Go.Lib.hid (hWE2.out.trans (hb2.mono hWE2.out.size)); have BE2_d := Go.Lib.hid B1_d.out; have B2_d := Go.Lib.hid (BE2_d.out.below hb2 BE2_d.out.lt); obtain ⟨k2d0, k2d1, k2d2, k2d3, k2d4, k2d5, k2d6, k2d7⟩ := B2_d.out.cells; have BE2_o := Go.Lib.hid B1_o.out; have B2_o := Go.Lib.hid (BE2_o.out.below hb2 BE2_o.out.lt); obtain ⟨k2o0, k2o1, k2o2, k2o3, k2o4, k2o5, k2o6, k2o7⟩ := B2_o.out.cells; clear hb2)
      | (go_at_call 11; ((with_reducible refine (le1.out _).mono ?_)); rintro e w3 ⟨rfl, hb3⟩; have hWE3 := Go.Lib.hid hW2.out; have hW3 := Go.Lib.hid (hWE3.out.trans (hb3.mono hWE3.out.size)); have BE3_d := Go.Lib.hid B2_d.out; have B3_d := Go.Lib.hid (BE3_d.out.below hb3 BE3_d.out.lt); obtain ⟨k3d0, k3d1, k3d2, k3d3, k3d4, k3d5, k3d6, k3d7⟩ := B3_d.out.cells; have BE3_o := Go.Lib.hid B2_o.out; have B3_o := Go.Lib.hid (BE3_o.out.below hb3 BE3_o.out.lt); obtain ⟨k3o0, k3o1, k3o2, k3o3, k3o4, k3o5, k3o6, k3o7⟩ := B3_o.out.cells; have l3d := B3_d.out.lt; have n3d : W.heap.size ≠ w3.heap.size := (by omega); have l3o := B3_o.out.lt; have n3o : W.heap.size + 1 ≠ w3.heap.size := (by omega); clear hb3)
      | (go_at_call 11; ((with_reducible refine (le2.out _).mono ?_)); rintro e w4 ⟨rfl, hb4⟩; have hWE4 := Go.Lib.hid (hW3.out.alloc hW3.out.size (.cells #[.int .i64 i, .int .i64 j, .int .u64 n, .int .u64 m] 30)); have hW4 := Go.Lib.hid (hWE4.out.trans (hb4.mono hWE4.out.size)); have BE4_d := Go.Lib.hid (B3_d.out.alloc (.cells #[.int .i64 i, .int .i64 j, .int .u64 n, .int .u64 m] 30)); have B4_d := Go.Lib.hid (BE4_d.out.below hb4 BE4_d.out.lt); obtain ⟨k4d0, k4d1, k4d2, k4d3, k4d4, k4d5, k4d6, k4d7⟩ := B4_d.out.cells; have BE4_o := Go.Lib.hid (B3_o.out.alloc (.cells #[.int .i64 i, .int .i64 j, .int .u64 n, .int .u64 m] 30)); have B4_o := Go.Lib.hid (BE4_o.out.below hb4 BE4_o.out.lt); obtain ⟨k4o0, k4o1, k4o2, k4o3, k4o4, k4o5, k4o6, k4o7⟩ := B4_o.out.cells; have BE4_x := Go.Lib.hid (duat1 w3 i j n m); have B4_x := Go.Lib.hid (BE4_x.out.below hb4 BE4_x.out.lt); obtain ⟨k4x0, k4x1, k4x2, k4x3, k4x4, k4x5, k4x6, k4x7⟩ := B4_x.out.cells; have l4d := B4_d.out.lt; have n4d : W.heap.size ≠ w4.heap.size := (by omega); have l4o := B4_o.out.lt; have n4o : W.heap.size + 1 ≠ w4.heap.size := (by omega); have l4x := B4_x.out.lt; have n4x : w3.heap.size ≠ w4.heap.size := (by omega); clear hb4))
    have hWF := Go.Lib.hid (hW4.out.alloc hW4.out.size (.cells #[.int .i64 i, .int .i64 j2, .int .u64 n, .int .u64 m2] 30))
    have BF_d := Go.Lib.hid (B4_d.out.alloc (.cells #[.int .i64 i, .int .i64 j2, .int .u64 n, .int .u64 m2] 30))
    have BF_x := Go.Lib.hid (B4_x.out.alloc (.cells #[.int .i64 i, .int .i64 j2, .int .u64 n, .int .u64 m2] 30))
    obtain ⟨wf, hwf⟩ : ∃ wf, wf = (w4.alloc (.cells #[.int .i64 i, .int .i64 j2, .int .u64 n, .int .u64 m2] 30)) := ⟨_, rfl⟩
    rw [← hwf] at hWF BF_d BF_x ⊢
    clear hwf k4d0 k4d1 k4d2 k4d3 k4d4 k4d5 k4d6 k4d7 k4o0 k4o1 k4o2 k4o3 k4o4 k4o5 k4o6 k4o7 k4x0 k4x1 k4x2 k4x3 k4x4 k4x5 k4x6 k4x7
    obtain ⟨f0, f1, f2, f3, f4, f5, f6, f7⟩ := BF_d.out.cells
    obtain ⟨g0, g1, g2, g3, g4, g5, g6, g7⟩ := BF_x.out.cells
    go_quiet (fail)
    go_wp2
    go_quiet (fail)
    go_wp2
    refine wp_region_ord (fun _ => True) [(0, 0), (1, 1), (2, 0), (3, 1), (4, 0), (5, 1), (6, 0), (7, 0), (8, 0), (9, 0), (10, 0), (11, 1), (12, 0), (13, 0), (14, 0), (15, 0), (16, 0), (17, 3), (18, 0), (19, 0)] (by kernel_rfl) (by kernel_rfl) ?hC0 ?_
    case hC0 => trivial
    simp only [pick, nth]
    (repeat (first | (apply wpW_light; (case h => (intro wa; (first | (go_big_quiet_skip; exact wpQuiet_nil rfl) | (go_big_quiet_want; go_big_quiet_op; go_big_quiet_on; exact wpQuiet_nil rfl))))) | (apply wpW_here; (case h => (first | (go_big_quiet_skip; exact wpQuiet_nil rfl) | (go_big_quiet_want; go_big_quiet_op; go_big_quiet_on; exact wpQuiet_nil rfl)))) | (apply wpW_held; (case hC => assumption); (case h => (intro wa hCa; simp only [] at hCa; (first | (go_big_quiet_skip; exact wpQuiet_nil rfl) | (go_big_quiet_want; go_big_quiet_op; go_big_quiet_on; exact wpQuiet_nil rfl)))))))
    refine wpW_actg (fun QQ hQQ => ?_) (by rfl)
    go_wp2_with (go_at_call 17; refine (alive8_ok _).mono ?_; rintro e w5 ⟨rfl, hb5⟩; have hW5 := Go.Lib.hid ((Below.drewN hWF.out _).trans (hb5.mono (Below.drewN hWF.out _).size)); clear hb5)
    (refine hQQ _ _ ?hCn ?_; (case hCn => trivial); clear hQQ QQ)
    (repeat (first | (apply wpW_light; (case h => (intro wa; (first | (go_big_quiet_skip; exact wpQuiet_nil rfl) | (go_big_quiet_want; go_big_quiet_op; go_big_quiet_on; exact wpQuiet_nil rfl))))) | (apply wpW_here; (case h => (first | (go_big_quiet_skip; exact wpQuiet_nil rfl) | (go_big_quiet_want; go_big_quiet_op; go_big_quiet_on; exact wpQuiet_nil rfl)))) | (apply wpW_held; (case hC => assumption); (case h => (intro wa hCa; simp only [] at hCa; (first | (go_big_quiet_skip; exact wpQuiet_nil rfl) | (go_big_quiet_want; go_big_quiet_op; go_big_quiet_on; exact wpQuiet_nil rfl)))))))
    refine wpW_nil ?_
    go_wp2
    go_ret
    exact ⟨rfl, hW5.out⟩
  · have c1 : decide ((0 : Int) < (D.k0 : Int)) = true := decide_eq_true (by omega)
    have c1n : decide (0 < D.k0) = true := decide_eq_true (by omega)
    have c2 : decide ((n : Int) < 16 * (p : Int)) = false := decide_eq_false (by omega)
    have c2n : decide (n < 16 * p) = false := decide_eq_false (by omega)
    have c5 : ((i : Int) == (D.k0 : Int) - 1) = false := by rw [beq_eq_false_iff_ne]; omega
    have c6 : ((i : Int) == (D.k0 : Int) + 1) = true := by rw [beq_iff_eq]; omega
    have c6n : (i == D.k0 + 1) = true := by rw [beq_iff_eq]; omega
    have c7 : decide ((i : Int) < (D.k0 : Int) - 1) = false := decide_eq_false (by omega)
    have c8 : decide ((D.k0 : Int) + 1 < (i : Int)) = false := decide_eq_false (by omega)
    have c8n : decide (D.k0 + 1 < i) = false := decide_eq_false (by omega)
    have c3 : decide ((D.k0 : Int) < 24) = true := decide_eq_true (by omega)
    have c3n : decide (D.k0 < 24) = true := decide_eq_true (by omega)
    have c4 : decide (32 * (p : Int) < (n : Int)) = true := decide_eq_true (by omega)
    have c4n : decide (32 * p < n) = true := decide_eq_true (by omega)
    clear a1 a2 a3 a4 a5
    go_enter Try.func8, Try.ntmps8
    go_wp2_with (first
      | (go_at_call 25; ((with_reducible refine (hcd.out _).mono ?_)); rintro e w1 ⟨rfl, hb1⟩; have hWE1 := Go.Lib.hid hWE0.out; have hW1 := Go.Lib.hid (hWE1.out.trans (hb1.mono hWE1.out.size)); have BE1_d := Go.Lib.hid BE0_d.out; have B1_d := Go.Lib.hid (BE1_d.out.below hb1 BE1_d.out.lt); obtain ⟨k1d0, k1d1, k1d2, k1d3, k1d4, k1d5, k1d6, k1d7⟩ := B1_d.out.cells; have BE1_o := Go.Lib.hid BE0_o.out; have B1_o := Go.Lib.hid (BE1_o.out.below hb1 BE1_o.out.lt); obtain ⟨k1o0, k1o1, k1o2, k1o3, k1o4, k1o5, k1o6, k1o7⟩ := B1_o.out.cells; clear hb1)
      | (go_at_call 25; ((with_reducible refine (hco.out _).mono ?_)); rintro e w2 ⟨rfl, hb2⟩; have hWE2 := Go.Lib.hid hW1.out; have hW2 := Go.Lib.hid (hWE2.out.trans (hb2.mono hWE2.out.size)); have BE2_d := Go.Lib.hid B1_d.out; have B2_d := Go.Lib.hid (BE2_d.out.below hb2 BE2_d.out.lt); obtain ⟨k2d0, k2d1, k2d2, k2d3, k2d4, k2d5, k2d6, k2d7⟩ := B2_d.out.cells; have BE2_o := Go.Lib.hid B1_o.out; have B2_o := Go.Lib.hid (BE2_o.out.below hb2 BE2_o.out.lt); obtain ⟨k2o0, k2o1, k2o2, k2o3, k2o4, k2o5, k2o6, k2o7⟩ := B2_o.out.cells; clear hb2)
      | (go_at_call 11; ((with_reducible refine (le1.out _).mono ?_)); rintro e w3 ⟨rfl, hb3⟩; have hWE3 := Go.Lib.hid hW2.out; have hW3 := Go.Lib.hid (hWE3.out.trans (hb3.mono hWE3.out.size)); have BE3_d := Go.Lib.hid B2_d.out; have B3_d := Go.Lib.hid (BE3_d.out.below hb3 BE3_d.out.lt); obtain ⟨k3d0, k3d1, k3d2, k3d3, k3d4, k3d5, k3d6, k3d7⟩ := B3_d.out.cells; have BE3_o := Go.Lib.hid B2_o.out; have B3_o := Go.Lib.hid (BE3_o.out.below hb3 BE3_o.out.lt); obtain ⟨k3o0, k3o1, k3o2, k3o3, k3o4, k3o5, k3o6, k3o7⟩ := B3_o.out.cells; have l3d := B3_d.out.lt; have n3d : W.heap.size ≠ w3.heap.size := (by omega); have l3o := B3_o.out.lt; have n3o : W.heap.size + 1 ≠ w3.heap.size := (by omega); clear hb3)
      | (go_at_call 11; ((with_reducible refine (le2.out _).mono ?_)); rintro e w4 ⟨rfl, hb4⟩; have hWE4 := Go.Lib.hid (hW3.out.alloc hW3.out.size (.cells #[.int .i64 i, .int .i64 j, .int .u64 n, .int .u64 m] 30)); have hW4 := Go.Lib.hid (hWE4.out.trans (hb4.mono hWE4.out.size)); have BE4_d := Go.Lib.hid (B3_d.out.alloc (.cells #[.int .i64 i, .int .i64 j, .int .u64 n, .int .u64 m] 30)); have B4_d := Go.Lib.hid (BE4_d.out.below hb4 BE4_d.out.lt); obtain ⟨k4d0, k4d1, k4d2, k4d3, k4d4, k4d5, k4d6, k4d7⟩ := B4_d.out.cells; have BE4_o := Go.Lib.hid (B3_o.out.alloc (.cells #[.int .i64 i, .int .i64 j, .int .u64 n, .int .u64 m] 30)); have B4_o := Go.Lib.hid (BE4_o.out.below hb4 BE4_o.out.lt); obtain ⟨k4o0, k4o1, k4o2, k4o3, k4o4, k4o5, k4o6, k4o7⟩ := B4_o.out.cells; have BE4_x := Go.Lib.hid (duat1 w3 i j n m); have B4_x := Go.Lib.hid (BE4_x.out.below hb4 BE4_x.out.lt); obtain ⟨k4x0, k4x1, k4x2, k4x3, k4x4, k4x5, k4x6, k4x7⟩ := B4_x.out.cells; have l4d := B4_d.out.lt; have n4d : W.heap.size ≠ w4.heap.size := (by omega); have l4o := B4_o.out.lt; have n4o : W.heap.size + 1 ≠ w4.heap.size := (by omega); have l4x := B4_x.out.lt; have n4x : w3.heap.size ≠ w4.heap.size := (by omega); clear hb4))
    have hWF := Go.Lib.hid (hW4.out.alloc hW4.out.size (.cells #[.int .i64 i, .int .i64 j2, .int .u64 n, .int .u64 m2] 30))
    have BF_d := Go.Lib.hid (B4_d.out.alloc (.cells #[.int .i64 i, .int .i64 j2, .int .u64 n, .int .u64 m2] 30))
    have BF_x := Go.Lib.hid (B4_x.out.alloc (.cells #[.int .i64 i, .int .i64 j2, .int .u64 n, .int .u64 m2] 30))
    obtain ⟨wf, hwf⟩ : ∃ wf, wf = (w4.alloc (.cells #[.int .i64 i, .int .i64 j2, .int .u64 n, .int .u64 m2] 30)) := ⟨_, rfl⟩
    rw [← hwf] at hWF BF_d BF_x ⊢
    clear hwf k4d0 k4d1 k4d2 k4d3 k4d4 k4d5 k4d6 k4d7 k4o0 k4o1 k4o2 k4o3 k4o4 k4o5 k4o6 k4o7 k4x0 k4x1 k4x2 k4x3 k4x4 k4x5 k4x6 k4x7
    obtain ⟨f0, f1, f2, f3, f4, f5, f6, f7⟩ := BF_d.out.cells
    obtain ⟨g0, g1, g2, g3, g4, g5, g6, g7⟩ := BF_x.out.cells
    go_quiet (fail)
    go_wp2
    go_quiet (fail)
    go_wp2
    refine wp_region_ord (fun _ => True) [(0, 0), (1, 1), (2, 0), (3, 1), (4, 0), (5, 1), (6, 0), (7, 0), (8, 0), (9, 0), (10, 0), (11, 1), (12, 0), (13, 0), (14, 0), (15, 0), (16, 0), (17, 3), (18, 0), (19, 0)] (by kernel_rfl) (by kernel_rfl) ?hC0 ?_
    case hC0 => trivial
    simp only [pick, nth]
    (repeat (first | (apply wpW_light; (case h => (intro wa; (first | (go_big_quiet_skip; exact wpQuiet_nil rfl) | (go_big_quiet_want; go_big_quiet_op; go_big_quiet_on; exact wpQuiet_nil rfl))))) | (apply wpW_here; (case h => (first | (go_big_quiet_skip; exact wpQuiet_nil rfl) | (go_big_quiet_want; go_big_quiet_op; go_big_quiet_on; exact wpQuiet_nil rfl)))) | (apply wpW_held; (case hC => assumption); (case h => (intro wa hCa; simp only [] at hCa; (first | (go_big_quiet_skip; exact wpQuiet_nil rfl) | (go_big_quiet_want; go_big_quiet_op; go_big_quiet_on; exact wpQuiet_nil rfl)))))))
    refine wpW_actg (fun QQ hQQ => ?_) (by rfl)
    go_wp2_with (go_at_call 17; refine (alive8_ok _).mono ?_; rintro e w5 ⟨rfl, hb5⟩; have hW5 := Go.Lib.hid ((Below.drewN hWF.out _).trans (hb5.mono (Below.drewN hWF.out _).size)); clear hb5)
    (refine hQQ _ _ ?hCn ?_; (case hCn => trivial); clear hQQ QQ)
    (repeat (first | (apply wpW_light; (case h => (intro wa; (first | (go_big_quiet_skip; exact wpQuiet_nil rfl) | (go_big_quiet_want; go_big_quiet_op; go_big_quiet_on; exact wpQuiet_nil rfl))))) | (apply wpW_here; (case h => (first | (go_big_quiet_skip; exact wpQuiet_nil rfl) | (go_big_quiet_want; go_big_quiet_op; go_big_quiet_on; exact wpQuiet_nil rfl)))) | (apply wpW_held; (case hC => assumption); (case h => (intro wa hCa; simp only [] at hCa; (first | (go_big_quiet_skip; exact wpQuiet_nil rfl) | (go_big_quiet_want; go_big_quiet_op; go_big_quiet_on; exact wpQuiet_nil rfl)))))))
    refine wpW_nil ?_
    go_wp2
    go_ret
    exact ⟨rfl, hW5.out⟩
  · have c1 : decide ((0 : Int) < (D.k0 : Int)) = false := decide_eq_false (by omega)
    have c1n : decide (0 < D.k0) = false := decide_eq_false (by omega)
    have c5 : ((i : Int) == (D.k0 : Int) - 1) = false := by rw [beq_eq_false_iff_ne]; omega
    have c6 : ((i : Int) == (D.k0 : Int) + 1) = false := by rw [beq_eq_false_iff_ne]; omega
    have c6n : (i == D.k0 + 1) = false := by rw [beq_eq_false_iff_ne]; omega
    have c7 : decide ((i : Int) < (D.k0 : Int) - 1) = false := decide_eq_false (by omega)
    have c8 : decide ((D.k0 : Int) + 1 < (i : Int)) = false := decide_eq_false (by omega)
    have c8n : decide (D.k0 + 1 < i) = false := decide_eq_false (by omega)
    have c3 : decide ((D.k0 : Int) < 24) = true := decide_eq_true (by omega)
    have c3n : decide (D.k0 < 24) = true := decide_eq_true (by omega)
    have c4 : decide (32 * (p : Int) < (n : Int)) = false := decide_eq_false (by omega)
    have c4n : decide (32 * p < n) = false := decide_eq_false (by omega)
    clear a1 a2 a3 a4
    go_enter Try.func8, Try.ntmps8
    go_wp2_with (first
      | (go_at_call 25; ((with_reducible refine (hcd.out _).mono ?_)); rintro e w1 ⟨rfl, hb1⟩; have hWE1 := Go.Lib.hid hWE0.out; have hW1 := Go.Lib.hid (hWE1.out.trans (hb1.mono hWE1.out.size)); have BE1_d := Go.Lib.hid BE0_d.out; have B1_d := Go.Lib.hid (BE1_d.out.below hb1 BE1_d.out.lt); obtain ⟨k1d0, k1d1, k1d2, k1d3, k1d4, k1d5, k1d6, k1d7⟩ := B1_d.out.cells; have BE1_o := Go.Lib.hid BE0_o.out; have B1_o := Go.Lib.hid (BE1_o.out.below hb1 BE1_o.out.lt); obtain ⟨k1o0, k1o1, k1o2, k1o3, k1o4, k1o5, k1o6, k1o7⟩ := B1_o.out.cells; clear hb1)
      | (go_at_call 25; ((with_reducible refine (hco.out _).mono ?_)); rintro e w2 ⟨rfl, hb2⟩; have hWE2 := Go.Lib.hid hW1.out; have hW2 := Go.Lib.hid (hWE2.out.trans (hb2.mono hWE2.out.size)); have BE2_d := Go.Lib.hid B1_d.out; have B2_d := Go.Lib.hid (BE2_d.out.below hb2 BE2_d.out.lt); obtain ⟨k2d0, k2d1, k2d2, k2d3, k2d4, k2d5, k2d6, k2d7⟩ := B2_d.out.cells; have BE2_o := Go.Lib.hid B1_o.out; have B2_o := Go.Lib.hid (BE2_o.out.below hb2 BE2_o.out.lt); obtain ⟨k2o0, k2o1, k2o2, k2o3, k2o4, k2o5, k2o6, k2o7⟩ := B2_o.out.cells; clear hb2)
      | (go_at_call 11; ((with_reducible refine (le1.out _).mono ?_)); rintro e w3 ⟨rfl, hb3⟩; have hWE3 := Go.Lib.hid hW2.out; have hW3 := Go.Lib.hid (hWE3.out.trans (hb3.mono hWE3.out.size)); have BE3_d := Go.Lib.hid B2_d.out; have B3_d := Go.Lib.hid (BE3_d.out.below hb3 BE3_d.out.lt); obtain ⟨k3d0, k3d1, k3d2, k3d3, k3d4, k3d5, k3d6, k3d7⟩ := B3_d.out.cells; have BE3_o := Go.Lib.hid B2_o.out; have B3_o := Go.Lib.hid (BE3_o.out.below hb3 BE3_o.out.lt); obtain ⟨k3o0, k3o1, k3o2, k3o3, k3o4, k3o5, k3o6, k3o7⟩ := B3_o.out.cells; have l3d := B3_d.out.lt; have n3d : W.heap.size ≠ w3.heap.size := (by omega); have l3o := B3_o.out.lt; have n3o : W.heap.size + 1 ≠ w3.heap.size := (by omega); clear hb3)
      | (go_at_call 11; ((with_reducible refine (le2.out _).mono ?_)); rintro e w4 ⟨rfl, hb4⟩; have hWE4 := Go.Lib.hid (hW3.out.alloc hW3.out.size (.cells #[.int .i64 i, .int .i64 j, .int .u64 n, .int .u64 m] 30)); have hW4 := Go.Lib.hid (hWE4.out.trans (hb4.mono hWE4.out.size)); have BE4_d := Go.Lib.hid (B3_d.out.alloc (.cells #[.int .i64 i, .int .i64 j, .int .u64 n, .int .u64 m] 30)); have B4_d := Go.Lib.hid (BE4_d.out.below hb4 BE4_d.out.lt); obtain ⟨k4d0, k4d1, k4d2, k4d3, k4d4, k4d5, k4d6, k4d7⟩ := B4_d.out.cells; have BE4_o := Go.Lib.hid (B3_o.out.alloc (.cells #[.int .i64 i, .int .i64 j, .int .u64 n, .int .u64 m] 30)); have B4_o := Go.Lib.hid (BE4_o.out.below hb4 BE4_o.out.lt); obtain ⟨k4o0, k4o1, k4o2, k4o3, k4o4, k4o5, k4o6, k4o7⟩ := B4_o.out.cells; have BE4_x := Go.Lib.hid (duat1 w3 i j n m); have B4_x := Go.Lib.hid (BE4_x.out.below hb4 BE4_x.out.lt); obtain ⟨k4x0, k4x1, k4x2, k4x3, k4x4, k4x5, k4x6, k4x7⟩ := B4_x.out.cells; have l4d := B4_d.out.lt; have n4d : W.heap.size ≠ w4.heap.size := (by omega); have l4o := B4_o.out.lt; have n4o : W.heap.size + 1 ≠ w4.heap.size := (by omega); have l4x := B4_x.out.lt; have n4x : w3.heap.size ≠ w4.heap.size := (by omega); clear hb4))
    have hWF := Go.Lib.hid (hW4.out.alloc hW4.out.size (.cells #[.int .i64 i, .int .i64 j2, .int .u64 n, .int .u64 m2] 30))
    have BF_d := Go.Lib.hid (B4_d.out.alloc (.cells #[.int .i64 i, .int .i64 j2, .int .u64 n, .int .u64 m2] 30))
    have BF_x := Go.Lib.hid (B4_x.out.alloc (.cells #[.int .i64 i, .int .i64 j2, .int .u64 n, .int .u64 m2] 30))
    obtain ⟨wf, hwf⟩ : ∃ wf, wf = (w4.alloc (.cells #[.int .i64 i, .int .i64 j2, .int .u64 n, .int .u64 m2] 30)) := ⟨_, rfl⟩
    rw [← hwf] at hWF BF_d BF_x ⊢
    clear hwf k4d0 k4d1 k4d2 k4d3 k4d4 k4d5 k4d6 k4d7 k4o0 k4o1 k4o2 k4o3 k4o4 k4o5 k4o6 k4o7 k4x0 k4x1 k4x2 k4x3 k4x4 k4x5 k4x6 k4x7
    obtain ⟨f0, f1, f2, f3, f4, f5, f6, f7⟩ := BF_d.out.cells
    obtain ⟨g0, g1, g2, g3, g4, g5, g6, g7⟩ := BF_x.out.cells
    go_quiet (fail)
    go_wp2
    go_quiet (fail)
    go_wp2
    refine wp_region_ord (fun _ => True) [(0, 0), (1, 1), (2, 0), (3, 1), (4, 0), (5, 1), (6, 0), (7, 0), (8, 0), (9, 0), (10, 0), (11, 1), (12, 0), (13, 0), (14, 0), (15, 0), (16, 0), (17, 3), (18, 0), (19, 0)] (by kernel_rfl) (by kernel_rfl) ?hC0 ?_
    case hC0 => trivial
    simp only [pick, nth]
    (repeat (first | (apply wpW_light; (case h => (intro wa; (first | (go_big_quiet_skip; exact wpQuiet_nil rfl) | (go_big_quiet_want; go_big_quiet_op; go_big_quiet_on; exact wpQuiet_nil rfl))))) | (apply wpW_here; (case h => (first | (go_big_quiet_skip; exact wpQuiet_nil rfl) | (go_big_quiet_want; go_big_quiet_op; go_big_quiet_on; exact wpQuiet_nil rfl)))) | (apply wpW_held; (case hC => assumption); (case h => (intro wa hCa; simp only [] at hCa; (first | (go_big_quiet_skip; exact wpQuiet_nil rfl) | (go_big_quiet_want; go_big_quiet_op; go_big_quiet_on; exact wpQuiet_nil rfl)))))))
    refine wpW_actg (fun QQ hQQ => ?_) (by rfl)
    go_wp2_with (go_at_call 17; refine (alive8_ok _).mono ?_; rintro e w5 ⟨rfl, hb5⟩; have hW5 := Go.Lib.hid ((Below.drewN hWF.out _).trans (hb5.mono (Below.drewN hWF.out _).size)); clear hb5)
    (refine hQQ _ _ ?hCn ?_; (case hCn => trivial); clear hQQ QQ)
    (repeat (first | (apply wpW_light; (case h => (intro wa; (first | (go_big_quiet_skip; exact wpQuiet_nil rfl) | (go_big_quiet_want; go_big_quiet_op; go_big_quiet_on; exact wpQuiet_nil rfl))))) | (apply wpW_here; (case h => (first | (go_big_quiet_skip; exact wpQuiet_nil rfl) | (go_big_quiet_want; go_big_quiet_op; go_big_quiet_on; exact wpQuiet_nil rfl)))) | (apply wpW_held; (case hC => assumption); (case h => (intro wa hCa; simp only [] at hCa; (first | (go_big_quiet_skip; exact wpQuiet_nil rfl) | (go_big_quiet_want; go_big_quiet_op; go_big_quiet_on; exact wpQuiet_nil rfl)))))))
    refine wpW_nil ?_
    go_wp2
    go_ret
    exact ⟨rfl, hW5.out⟩
  · have c1 : decide ((0 : Int) < (D.k0 : Int)) = true := decide_eq_true (by omega)
    have c1n : decide (0 < D.k0) = true := decide_eq_true (by omega)
    have c2 : decide ((n : Int) < 16 * (p : Int)) = false := decide_eq_false (by omega)
    have c2n : decide (n < 16 * p) = false := decide_eq_false (by omega)
    have c5 : ((i : Int) == (D.k0 : Int) - 1) = false := by rw [beq_eq_false_iff_ne]; omega
    have c6 : ((i : Int) == (D.k0 : Int) + 1) = false := by rw [beq_eq_false_iff_ne]; omega
    have c6n : (i == D.k0 + 1) = false := by rw [beq_eq_false_iff_ne]; omega
    have c7 : decide ((i : Int) < (D.k0 : Int) - 1) = false := decide_eq_false (by omega)
    have c8 : decide ((D.k0 : Int) + 1 < (i : Int)) = false := decide_eq_false (by omega)
    have c8n : decide (D.k0 + 1 < i) = false := decide_eq_false (by omega)
    have c3 : decide ((D.k0 : Int) < 24) = true := decide_eq_true (by omega)
    have c3n : decide (D.k0 < 24) = true := decide_eq_true (by omega)
    have c4 : decide (32 * (p : Int) < (n : Int)) = false := decide_eq_false (by omega)
    have c4n : decide (32 * p < n) = false := decide_eq_false (by omega)
    clear a1 a2 a3 a4 a5
    go_enter Try.func8, Try.ntmps8
    go_wp2_with (first
      | (go_at_call 25; ((with_reducible refine (hcd.out _).mono ?_)); rintro e w1 ⟨rfl, hb1⟩; have hWE1 := Go.Lib.hid hWE0.out; have hW1 := Go.Lib.hid (hWE1.out.trans (hb1.mono hWE1.out.size)); have BE1_d := Go.Lib.hid BE0_d.out; have B1_d := Go.Lib.hid (BE1_d.out.below hb1 BE1_d.out.lt); obtain ⟨k1d0, k1d1, k1d2, k1d3, k1d4, k1d5, k1d6, k1d7⟩ := B1_d.out.cells; have BE1_o := Go.Lib.hid BE0_o.out; have B1_o := Go.Lib.hid (BE1_o.out.below hb1 BE1_o.out.lt); obtain ⟨k1o0, k1o1, k1o2, k1o3, k1o4, k1o5, k1o6, k1o7⟩ := B1_o.out.cells; clear hb1)
      | (go_at_call 25; ((with_reducible refine (hco.out _).mono ?_)); rintro e w2 ⟨rfl, hb2⟩; have hWE2 := Go.Lib.hid hW1.out; have hW2 := Go.Lib.hid (hWE2.out.trans (hb2.mono hWE2.out.size)); have BE2_d := Go.Lib.hid B1_d.out; have B2_d := Go.Lib.hid (BE2_d.out.below hb2 BE2_d.out.lt); obtain ⟨k2d0, k2d1, k2d2, k2d3, k2d4, k2d5, k2d6, k2d7⟩ := B2_d.out.cells; have BE2_o := Go.Lib.hid B1_o.out; have B2_o := Go.Lib.hid (BE2_o.out.below hb2 BE2_o.out.lt); obtain ⟨k2o0, k2o1, k2o2, k2o3, k2o4, k2o5, k2o6, k2o7⟩ := B2_o.out.cells; clear hb2)
      | (go_at_call 11; ((with_reducible refine (le1.out _).mono ?_)); rintro e w3 ⟨rfl, hb3⟩; have hWE3 := Go.Lib.hid hW2.out; have hW3 := Go.Lib.hid (hWE3.out.trans (hb3.mono hWE3.out.size)); have BE3_d := Go.Lib.hid B2_d.out; have B3_d := Go.Lib.hid (BE3_d.out.below hb3 BE3_d.out.lt); obtain ⟨k3d0, k3d1, k3d2, k3d3, k3d4, k3d5, k3d6, k3d7⟩ := B3_d.out.cells; have BE3_o := Go.Lib.hid B2_o.out; have B3_o := Go.Lib.hid (BE3_o.out.below hb3 BE3_o.out.lt); obtain ⟨k3o0, k3o1, k3o2, k3o3, k3o4, k3o5, k3o6, k3o7⟩ := B3_o.out.cells; have l3d := B3_d.out.lt; have n3d : W.heap.size ≠ w3.heap.size := (by omega); have l3o := B3_o.out.lt; have n3o : W.heap.size + 1 ≠ w3.heap.size := (by omega); clear hb3)
      | (go_at_call 11; ((with_reducible refine (le2.out _).mono ?_)); rintro e w4 ⟨rfl, hb4⟩; have hWE4 := Go.Lib.hid (hW3.out.alloc hW3.out.size (.cells #[.int .i64 i, .int .i64 j, .int .u64 n, .int .u64 m] 30)); have hW4 := Go.Lib.hid (hWE4.out.trans (hb4.mono hWE4.out.size)); have BE4_d := Go.Lib.hid (B3_d.out.alloc (.cells #[.int .i64 i, .int .i64 j, .int .u64 n, .int .u64 m] 30)); have B4_d := Go.Lib.hid (BE4_d.out.below hb4 BE4_d.out.lt); obtain ⟨k4d0, k4d1, k4d2, k4d3, k4d4, k4d5, k4d6, k4d7⟩ := B4_d.out.cells; have BE4_o := Go.Lib.hid (B3_o.out.alloc (.cells #[.int .i64 i, .int .i64 j, .int .u64 n, .int .u64 m] 30)); have B4_o := Go.Lib.hid (BE4_o.out.below hb4 BE4_o.out.lt); obtain ⟨k4o0, k4o1, k4o2, k4o3, k4o4, k4o5, k4o6, k4o7⟩ := B4_o.out.cells; have BE4_x := Go.Lib.hid (duat1 w3 i j n m); have B4_x := Go.Lib.hid (BE4_x.out.below hb4 BE4_x.out.lt); obtain ⟨k4x0, k4x1, k4x2, k4x3, k4x4, k4x5, k4x6, k4x7⟩ := B4_x.out.cells; have l4d := B4_d.out.lt; have n4d : W.heap.size ≠ w4.heap.size := (by omega); have l4o := B4_o.out.lt; have n4o : W.heap.size + 1 ≠ w4.heap.size := (by omega); have l4x := B4_x.out.lt; have n4x : w3.heap.size ≠ w4.heap.size := (by omega); clear hb4))
    have hWF := Go.Lib.hid (hW4.out.alloc hW4.out.size (.cells #[.int .i64 i, .int .i64 j2, .int .u64 n, .int .u64 m2] 30))
    have BF_d := Go.Lib.hid (B4_d.out.alloc (.cells #[.int .i64 i, .int .i64 j2, .int .u64 n, .int .u64 m2] 30))
    have BF_x := Go.Lib.hid (B4_x.out.alloc (.cells #[.int .i64 i, .int .i64 j2, .int .u64 n, .int .u64 m2] 30))
    obtain ⟨wf, hwf⟩ : ∃ wf, wf = (w4.alloc (.cells #[.int .i64 i, .int .i64 j2, .int .u64 n, .int .u64 m2] 30)) := ⟨_, rfl⟩
    rw [← hwf] at hWF BF_d BF_x ⊢
    clear hwf k4d0 k4d1 k4d2 k4d3 k4d4 k4d5 k4d6 k4d7 k4o0 k4o1 k4o2 k4o3 k4o4 k4o5 k4o6 k4o7 k4x0 k4x1 k4x2 k4x3 k4x4 k4x5 k4x6 k4x7
    obtain ⟨f0, f1, f2, f3, f4, f5, f6, f7⟩ := BF_d.out.cells
    obtain ⟨g0, g1, g2, g3, g4, g5, g6, g7⟩ := BF_x.out.cells
    go_quiet (fail)
    go_wp2
    go_quiet (fail)
    go_wp2
    refine wp_region_ord (fun _ => True) [(0, 0), (1, 1), (2, 0), (3, 1), (4, 0), (5, 1), (6, 0), (7, 0), (8, 0), (9, 0), (10, 0), (11, 1), (12, 0), (13, 0), (14, 0), (15, 0), (16, 0), (17, 3), (18, 0), (19, 0)] (by kernel_rfl) (by kernel_rfl) ?hC0 ?_
    case hC0 => trivial
    simp only [pick, nth]
    (repeat (first | (apply wpW_light; (case h => (intro wa; (first | (go_big_quiet_skip; exact wpQuiet_nil rfl) | (go_big_quiet_want; go_big_quiet_op; go_big_quiet_on; exact wpQuiet_nil rfl))))) | (apply wpW_here; (case h => (first | (go_big_quiet_skip; exact wpQuiet_nil rfl) | (go_big_quiet_want; go_big_quiet_op; go_big_quiet_on; exact wpQuiet_nil rfl)))) | (apply wpW_held; (case hC => assumption); (case h => (intro wa hCa; simp only [] at hCa; (first | (go_big_quiet_skip; exact wpQuiet_nil rfl) | (go_big_quiet_want; go_big_quiet_op; go_big_quiet_on; exact wpQuiet_nil rfl)))))))
    refine wpW_actg (fun QQ hQQ => ?_) (by rfl)
    go_wp2_with (go_at_call 17; refine (alive8_ok _).mono ?_; rintro e w5 ⟨rfl, hb5⟩; have hW5 := Go.Lib.hid ((Below.drewN hWF.out _).trans (hb5.mono (Below.drewN hWF.out _).size)); clear hb5)
    (refine hQQ _ _ ?hCn ?_; (case hCn => trivial); clear hQQ QQ)
    (repeat (first | (apply wpW_light; (case h => (intro wa; (first | (go_big_quiet_skip; exact wpQuiet_nil rfl) | (go_big_quiet_want; go_big_quiet_op; go_big_quiet_on; exact wpQuiet_nil rfl))))) | (apply wpW_here; (case h => (first | (go_big_quiet_skip; exact wpQuiet_nil rfl) | (go_big_quiet_want; go_big_quiet_op; go_big_quiet_on; exact wpQuiet_nil rfl)))) | (apply wpW_held; (case hC => assumption); (case h => (intro wa hCa; simp only [] at hCa; (first | (go_big_quiet_skip; exact wpQuiet_nil rfl) | (go_big_quiet_want; go_big_quiet_op; go_big_quiet_on; exact wpQuiet_nil rfl)))))))
    refine wpW_nil ?_
    go_wp2
    go_ret
    exact ⟨rfl, hW5.out⟩
  · have c1 : decide ((0 : Int) < (D.k0 : Int)) = true := decide_eq_true (by omega)
    have c1n : decide (0 < D.k0) = true := decide_eq_true (by omega)
    have c2 : decide ((n : Int) < 16 * (p : Int)) = false := decide_eq_false (by omega)
    have c2n : decide (n < 16 * p) = false := decide_eq_false (by omega)
    have c5 : ((i : Int) == (D.k0 : Int) - 1) = false := by rw [beq_eq_false_iff_ne]; omega
    have c6 : ((i : Int) == (D.k0 : Int) + 1) = false := by rw [beq_eq_false_iff_ne]; omega
    have c6n : (i == D.k0 + 1) = false := by rw [beq_eq_false_iff_ne]; omega
    have c7 : decide ((i : Int) < (D.k0 : Int) - 1) = false := decide_eq_false (by omega)
    have c8 : decide ((D.k0 : Int) + 1 < (i : Int)) = false := decide_eq_false (by omega)
    have c8n : decide (D.k0 + 1 < i) = false := decide_eq_false (by omega)
    have c3 : decide ((D.k0 : Int) < 24) = false := decide_eq_false (by omega)
    have c3n : decide (D.k0 < 24) = false := decide_eq_false (by omega)
    clear a1 a2 a3 a4
    go_enter Try.func8, Try.ntmps8
    go_wp2_with (first
      | (go_at_call 25; ((with_reducible refine (hcd.out _).mono ?_)); rintro e w1 ⟨rfl, hb1⟩; have hWE1 := Go.Lib.hid hWE0.out; have hW1 := Go.Lib.hid (hWE1.out.trans (hb1.mono hWE1.out.size)); have BE1_d := Go.Lib.hid BE0_d.out; have B1_d := Go.Lib.hid (BE1_d.out.below hb1 BE1_d.out.lt); obtain ⟨k1d0, k1d1, k1d2, k1d3, k1d4, k1d5, k1d6, k1d7⟩ := B1_d.out.cells; have BE1_o := Go.Lib.hid BE0_o.out; have B1_o := Go.Lib.hid (BE1_o.out.below hb1 BE1_o.out.lt); obtain ⟨k1o0, k1o1, k1o2, k1o3, k1o4, k1o5, k1o6, k1o7⟩ := B1_o.out.cells; clear hb1)
      | (go_at_call 25; ((with_reducible refine (hco.out _).mono ?_)); rintro e w2 ⟨rfl, hb2⟩; have hWE2 := Go.Lib.hid hW1.out; have hW2 := Go.Lib.hid (hWE2.out.trans (hb2.mono hWE2.out.size)); have BE2_d := Go.Lib.hid B1_d.out; have B2_d := Go.Lib.hid (BE2_d.out.below hb2 BE2_d.out.lt); obtain ⟨k2d0, k2d1, k2d2, k2d3, k2d4, k2d5, k2d6, k2d7⟩ := B2_d.out.cells; have BE2_o := Go.Lib.hid B1_o.out; have B2_o := Go.Lib.hid (BE2_o.out.below hb2 BE2_o.out.lt); obtain ⟨k2o0, k2o1, k2o2, k2o3, k2o4, k2o5, k2o6, k2o7⟩ := B2_o.out.cells; clear hb2)
      | (go_at_call 11; ((with_reducible refine (le1.out _).mono ?_)); rintro e w3 ⟨rfl, hb3⟩; have hWE3 := Go.Lib.hid hW2.out; have hW3 := Go.Lib.hid (hWE3.out.trans (hb3.mono hWE3.out.size)); have BE3_d := Go.Lib.hid B2_d.out; have B3_d := Go.Lib.hid (BE3_d.out.below hb3 BE3_d.out.lt); obtain ⟨k3d0, k3d1, k3d2, k3d3, k3d4, k3d5, k3d6, k3d7⟩ := B3_d.out.cells; have BE3_o := Go.Lib.hid B2_o.out; have B3_o := Go.Lib.hid (BE3_o.out.below hb3 BE3_o.out.lt); obtain ⟨k3o0, k3o1, k3o2, k3o3, k3o4, k3o5, k3o6, k3o7⟩ := B3_o.out.cells; have l3d := B3_d.out.lt; have n3d : W.heap.size ≠ w3.heap.size := (by omega); have l3o := B3_o.out.lt; have n3o : W.heap.size + 1 ≠ w3.heap.size := (by omega); clear hb3)
      | (go_at_call 11; ((with_reducible refine (le2.out _).mono ?_)); rintro e w4 ⟨rfl, hb4⟩; have hWE4 := Go.Lib.hid (hW3.out.alloc hW3.out.size (.cells #[.int .i64 i, .int .i64 j, .int .u64 n, .int .u64 m] 30)); have hW4 := Go.Lib.hid (hWE4.out.trans (hb4.mono hWE4.out.size)); have BE4_d := Go.Lib.hid (B3_d.out.alloc (.cells #[.int .i64 i, .int .i64 j, .int .u64 n, .int .u64 m] 30)); have B4_d := Go.Lib.hid (BE4_d.out.below hb4 BE4_d.out.lt); obtain ⟨k4d0, k4d1, k4d2, k4d3, k4d4, k4d5, k4d6, k4d7⟩ := B4_d.out.cells; have BE4_o := Go.Lib.hid (B3_o.out.alloc (.cells #[.int .i64 i, .int .i64 j, .int .u64 n, .int .u64 m] 30)); have B4_o := Go.Lib.hid (BE4_o.out.below hb4 BE4_o.out.lt); obtain ⟨k4o0, k4o1, k4o2, k4o3, k4o4, k4o5, k4o6, k4o7⟩ := B4_o.out.cells; have BE4_x := Go.Lib.hid (duat1 w3 i j n m); have B4_x := Go.Lib.hid (BE4_x.out.below hb4 BE4_x.out.lt); obtain ⟨k4x0, k4x1, k4x2, k4x3, k4x4, k4x5, k4x6, k4x7⟩ := B4_x.out.cells; have l4d := B4_d.out.lt; have n4d : W.heap.size ≠ w4.heap.size := (by omega); have l4o := B4_o.out.lt; have n4o : W.heap.size + 1 ≠ w4.heap.size := (by omega); have l4x := B4_x.out.lt; have n4x : w3.heap.size ≠ w4.heap.size := (by omega); clear hb4))
    have hWF := Go.Lib.hid (hW4.out.alloc hW4.out.size (.cells #[.int .i64 i, .int .i64 j2, .int .u64 n, .int .u64 m2] 30))
    have BF_d := Go.Lib.hid (B4_d.out.alloc (.cells #[.int .i64 i, .int .i64 j2, .int .u64 n, .int .u64 m2] 30))
    have BF_x := Go.Lib.hid (B4_x.out.alloc (.cells #[.int .i64 i, .int .i64 j2, .int .u64 n, .int .u64 m2] 30))
    obtain ⟨wf, hwf⟩ : ∃ wf, wf = (w4.alloc (.cells #[.int .i64 i, .int .i64 j2, .int .u64 n, .int .u64 m2] 30)) := ⟨_, rfl⟩
    rw [← hwf] at hWF BF_d BF_x ⊢
    clear hwf k4d0 k4d1 k4d2 k4d3 k4d4 k4d5 k4d6 k4d7 k4o0 k4o1 k4o2 k4o3 k4o4 k4o5 k4o6 k4o7 k4x0 k4x1 k4x2 k4x3 k4x4 k4x5 k4x6 k4x7
    obtain ⟨f0, f1, f2, f3, f4, f5, f6, f7⟩ := BF_d.out.cells
    obtain ⟨g0, g1, g2, g3, g4, g5, g6, g7⟩ := BF_x.out.cells
    go_quiet (fail)
    go_wp2
    go_quiet (fail)
    go_wp2
    refine wp_region_ord (fun _ => True) [(0, 0), (1, 1), (2, 0), (3, 1), (4, 0), (5, 1), (6, 0), (7, 0), (8, 0), (9, 0), (10, 0), (11, 1), (12, 0), (13, 0), (14, 0), (15, 0), (16, 0), (17, 3), (18, 0), (19, 0)] (by kernel_rfl) (by kernel_rfl) ?hC0 ?_
    case hC0 => trivial
    simp only [pick, nth]
    (repeat (first | (apply wpW_light; (case h => (intro wa; (first | (go_big_quiet_skip; exact wpQuiet_nil rfl) | (go_big_quiet_want; go_big_quiet_op; go_big_quiet_on; exact wpQuiet_nil rfl))))) | (apply wpW_here; (case h => (first | (go_big_quiet_skip; exact wpQuiet_nil rfl) | (go_big_quiet_want; go_big_quiet_op; go_big_quiet_on; exact wpQuiet_nil rfl)))) | (apply wpW_held; (case hC => assumption); (case h => (intro wa hCa; simp only [] at hCa; (first | (go_big_quiet_skip; exact wpQuiet_nil rfl) | (go_big_quiet_want; go_big_quiet_op; go_big_quiet_on; exact wpQuiet_nil rfl)))))))
    refine wpW_actg (fun QQ hQQ => ?_) (by rfl)
    go_wp2_with (go_at_call 17; refine (alive8_ok _).mono ?_; rintro e w5 ⟨rfl, hb5⟩; have hW5 := Go.Lib.hid ((Below.drewN hWF.out _).trans (hb5.mono (Below.drewN hWF.out _).size)); clear hb5)
    (refine hQQ _ _ ?hCn ?_; (case hCn => trivial); clear hQQ QQ)
    (repeat (first | (apply wpW_light; (case h => (intro wa; (first | (go_big_quiet_skip; exact wpQuiet_nil rfl) | (go_big_quiet_want; go_big_quiet_op; go_big_quiet_on; exact wpQuiet_nil rfl))))) | (apply wpW_here; (case h => (first | (go_big_quiet_skip; exact wpQuiet_nil rfl) | (go_big_quiet_want; go_big_quiet_op; go_big_quiet_on; exact wpQuiet_nil rfl)))) | (apply wpW_held; (case hC => assumption); (case h => (intro wa hCa; simp only [] at hCa; (first | (go_big_quiet_skip; exact wpQuiet_nil rfl) | (go_big_quiet_want; go_big_quiet_op; go_big_quiet_on; exact wpQuiet_nil rfl)))))))
    refine wpW_nil ?_
    go_wp2
    go_ret
    exact ⟨rfl, hW5.out⟩

theorem dualPairs_walk (x0_0 : Int) (x0_1 : Int) (x0_2 : Int) (x0_3 : Int) (x1 : Int) (x2 : Int) (x3 : Int) (W : World) (wx0_0 : (Lit.int .i64 x0_0).wf = true) (wx0_1 : (Lit.int .i64 x0_1).wf = true) (wx0_2 : (Lit.int .u64 x0_2).wf = true) (wx0_3 : (Lit.int .u64 x0_3).wf = true) (wx1 : (Lit.int .i64 x1).wf = true) (wx2 : (Lit.int .u64 x2).wf = true) (wx3 : (Lit.int .u32 x3).wf = true) :
    Calls Try.prog 8 #[.agg #[.int .i64 x0_0, .int .i64 x0_1, .int .u64 x0_2, .int .u64 x0_3], .int .i64 x1, .int .u64 x2, .int .u32 x3] W fun e w' => e = .returned (.bool true) ∧ Below W.heap.size W w' := by
  obtain ⟨v, rfl, hv⟩ := nat_u32 wx3
  have hrr : ∃ s, chkD x0_0 x0_1 x0_2 x0_3 s := by
    by_cases h : DuOk x0_0 x0_1 x0_2 x0_3
    · exact ⟨0, .inl ⟨h, rfl⟩⟩
    · exact ⟨8, .inr ⟨h, rfl⟩⟩
  have hss : ∃ s, chkD x0_0 x1 x0_2 x2 s := by
    by_cases h : DuOk x0_0 x1 x0_2 x2
    · exact ⟨0, .inl ⟨h, rfl⟩⟩
    · exact ⟨8, .inr ⟨h, rfl⟩⟩
  obtain ⟨r, hr⟩ := hrr
  obtain ⟨s, hs⟩ := hss
  by_cases h : r = 8 ∨ (r = 0 ∧ s = 8)
  · exact dualPairs_out W _ _ _ _ _ _ v r s hr hs wx0_0 wx0_1 wx0_2 wx0_3 wx1 wx2 h
  · rcases hr with ⟨hr0, rfl⟩ | ⟨_, rfl⟩
    · rcases hs with ⟨hs0, rfl⟩ | ⟨_, rfl⟩
      · have hcd := Go.Lib.hid fun w => RdCheck_any w x0_0 x0_1 x0_2 x0_3 wx0_0 wx0_1 wx0_2 wx0_3 0 (.inl ⟨hr0, rfl⟩)
        have hco := Go.Lib.hid fun w => RdCheck_any w x0_0 x1 x0_2 x2 wx0_0 wx1 wx0_2 wx2 0 (.inl ⟨hs0, rfl⟩)
        obtain ⟨D, hD, rfl, rfl, rfl, rfl⟩ := du_of hr0 wx0_2 wx0_3
        obtain ⟨E, hE, e0, e1, e2, e3⟩ := du_of hs0 wx0_2 wx2
        have f0 : E.k0 = D.k0 := by omega
        have f2 : E.s0 = D.s0 := by omega
        subst e1 e3
        have le1 := Go.Lib.hid fun w => DLearn_ok w D v hD hv
        have le2 := Go.Lib.hid fun w => DLearn_ok w E v hE hv
        by_cases hl : v < 2 ^ D.k0
        · rw [learnD_low hl] at le1
          rw [learnD_low (by rw [f0]; exact hl), f0, f2] at le2
          exact dualPairs_low W D v _ _ hD hv hl _ _ _ _ _ _ rfl rfl rfl rfl hcd hco le1 le2
        · rw [learnD_high hl] at le1
          rw [learnD_high (by rw [f0]; exact hl), f0, f2] at le2
          exact dualPairs_high W D v _ _ hD hv hl _ _ _ _ _ _ rfl rfl rfl rfl hcd hco le1 le2
      · omega
    · omega
end Go.Proofs.Ytenkhnlhoeahkaa
