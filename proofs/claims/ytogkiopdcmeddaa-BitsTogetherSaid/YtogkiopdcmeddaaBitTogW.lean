/- BitsTogether: numbers that are put one after the other are the number that they are together. -/
import Derived.Test.YtogkiopdcmeddaaBitGotW
namespace Go.Proofs.Ytogkiopdcmeddaa
open Go.RowKit Cad

set_option maxHeartbeats 2000000 in
/-- the guard says no -/
theorem bitsTogether_out (W : World) (a : Option Addr) (len cap : Nat) (l : List Int) (N : Int) (v w n m : Int) (hr : Row .u8 W a len cap l) (hN : (Lit.int .i64 N).wf = true) (hn : (Lit.int .i64 n).wf = true) (hm : (Lit.int .i64 m).wf = true)
    (h : ¬ Valid l N ∨ (Valid l N ∧ (1500 < N ∨ n < 0 ∨ m < 0 ∨ 64 < n ∨ 64 - n < m))) :
    Calls Try.prog 5 #[.agg #[.slice a len cap, .int .i64 N], .int .u64 v, .int .u64 w, .int .i64 n, .int .i64 m] W fun e w' => e = .returned (.bool true) ∧ Below W.heap.size W w' := by
  have hrE := hr.below (below1 W (.cells #[.slice a len cap, .int .i64 N] 24)) (Nat.le_refl _)
  have hx0' := Go.Lib.hid (box1 W (.slice a len cap) N)
  have hbE' := Go.Lib.hid (below1 W (.cells #[.slice a len cap, .int .i64 N] 24))
  rcases h with h | ⟨hv, h⟩
  · have hck := Go.Lib.hid (RCheck_any _ a len cap N l hrE hN 8 (.inr ⟨h, rfl⟩))
    clear hr hrE hN hn h hm
    go_enter Try.func5, Try.ntmps5
    go_wp2_with (first
      | (go_at_call 18; refine hck.out.mono ?_; rintro e w1 ⟨rfl, hb1⟩)
      | (go_at_call 19; refine (alive_ok _).mono ?_; rintro e w2 ⟨rfl, hb2⟩))
    go_ret
    exact ⟨rfl, (hbE'.out.trans (hb1.mono (by simp))).trans (hb2.mono (by have := hb1.size; simp at this; omega))⟩
  · have hck := Go.Lib.hid (RCheck_any _ a len cap N l hrE hN 0 (.inl ⟨hv, rfl⟩))
    have bn := bounds_i64 hn
    have bm := bounds_i64 hm
    have bN := hv.n
    clear hr hrE hN hn hv hm
    have key : 1500 < N ∨ (¬ 1500 < N ∧ n < 0) ∨ (¬ 1500 < N ∧ ¬ n < 0 ∧ m < 0) ∨ (¬ 1500 < N ∧ ¬ n < 0 ∧ ¬ m < 0 ∧ 64 < n) ∨ (¬ 1500 < N ∧ ¬ n < 0 ∧ ¬ m < 0 ∧ ¬ 64 < n ∧ 64 - n < m) := by omega
    clear h
    rcases key with h | ⟨h, h1⟩ | ⟨h, h1, h2⟩ | ⟨h, h1, h2, h3⟩ | ⟨h, h1, h2, h3, h4⟩
    all_goals
      go_enter Try.func5, Try.ntmps5
      go_wp2_with (first
        | (go_at_call 18; refine hck.out.mono ?_; rintro e w1 ⟨rfl, hb1⟩; obtain ⟨c0, c1, c2, c3⟩ := (hx0'.out.below hb1 (by simp)).cells; have hb1' := Go.Lib.hid hb1; clear hb1)
        | (go_at_call 19; refine (alive_ok _).mono ?_; rintro e w2 ⟨rfl, hb2⟩))
      go_ret
      exact ⟨rfl, (hbE'.out.trans (hb1'.out.mono (by simp))).trans (hb2.mono (by have := hb1'.out.size; simp at this; omega))⟩

theorem or_shift {u n w : Nat} (h : u < 2 ^ n) : u ||| w * 2 ^ n = u + 2 ^ n * w := by
  rw [Nat.or_comm, Go.nat_join n (w * 2 ^ n) u (by simp) h, Nat.add_comm, Nat.mul_comm]

set_option maxHeartbeats 6000000 in
theorem bitsTogether_in (W : World) (a : Option Addr) (len cap : Nat) (B : List Bool) (v w n m : Nat) (hr : Row .u8 W a len cap (pack B)) (hB : B.length ≤ 1500) (hnm : n + m ≤ 64) (hv : v < 18446744073709551616) (hw : w < 18446744073709551616) :
    Calls Try.prog 5 #[.agg #[.slice a len cap, .int .i64 B.length], .int .u64 v, .int .u64 w, .int .i64 n, .int .i64 m] W fun e w' => e = .returned (.bool true) ∧ Below W.heap.size W w' := by
  obtain ⟨u, hu⟩ : ∃ u, u = v % 2 ^ n := ⟨_, rfl⟩
  obtain ⟨t, ht⟩ : ∃ t, t = w % 2 ^ m := ⟨_, rfl⟩
  have hun : u < 2 ^ n := by rw [hu]; exact Nat.mod_lt _ (Nat.pow_pos (by decide))
  have htm : t < 2 ^ m := by rw [ht]; exact Nat.mod_lt _ (Nat.pow_pos (by decide))
  have hu64 : u < 18446744073709551616 := Nat.lt_of_lt_of_le hun (Nat.pow_le_pow_right (n := 2) (by decide) (show n ≤ 64 by omega))
  have ht64 : t < 18446744073709551616 := Nat.lt_of_lt_of_le htm (Nat.pow_le_pow_right (n := 2) (by decide) (show m ≤ 64 by omega))
  obtain ⟨z, hz⟩ : ∃ z, z = u + 2 ^ n * t := ⟨_, rfl⟩
  have hzn : z < 2 ^ (n + m) := by
    rw [hz, Nat.pow_add]
    have : 2 ^ n * (t + 1) ≤ 2 ^ n * 2 ^ m := Nat.mul_le_mul_left _ htm
    rw [Nat.mul_add, Nat.mul_one] at this
    omega
  have hz64 : z < 18446744073709551616 := Nat.lt_of_lt_of_le hzn (Nat.pow_le_pow_right (n := 2) (by decide) hnm)
  obtain ⟨x, hx⟩ : ∃ x, x = t * 2 ^ n := ⟨_, rfl⟩
  have hx64 : x < 18446744073709551616 := by
    have : x ≤ z := by rw [hx, hz, Nat.mul_comm]; omega
    omega
  have hmul : (t : Int) * 2 ^ n = (x : Int) := by rw [hx]; simp
  have o1 : Go.bits .or .u64 (u : Int) (x : Int) = (z : Int) := by
    rw [Go.u64_or_nat u x hu64 hx64, hx, or_shift hun, hz]
  obtain ⟨X, hX⟩ : ∃ X, X = B ++ numB u n := ⟨_, rfl⟩
  obtain ⟨Y, hY⟩ : ∃ Y, Y = X ++ numB t m := ⟨_, rfl⟩
  have hYz : B ++ numB z (n + m) = Y := by rw [hz, numB_append n m u t hun, hY, hX, List.append_assoc]
  obtain ⟨N2, hN2⟩ : ∃ N2, N2 = B.length + n := ⟨_, rfl⟩
  obtain ⟨N3, hN3⟩ : ∃ N3, N3 = N2 + m := ⟨_, rfl⟩
  have hXl : X.length = N2 := by rw [hX, List.length_append, numB_len, hN2]
  obtain ⟨m2, hm2⟩ : ∃ m2, m2 = (N2 + 7) / 8 := ⟨_, rfl⟩
  obtain ⟨m3, hm3⟩ : ∃ m3, m3 = (N3 + 7) / 8 := ⟨_, rfl⟩
  obtain ⟨nb, hnb⟩ : ∃ nb, nb = B.length := ⟨_, rfl⟩
  obtain ⟨nm, hnm'⟩ : ∃ nm, nm = n + m := ⟨_, rfl⟩
  have hsum : (n : Int) + (m : Int) = (nm : Int) := by omega
  have hc1 : Hid (∀ w', Calls Try.prog 20 #[.int .u64 v, .int .i64 n] w' fun e W' => e = .returned (.int .u64 (u : Int)) ∧ w' = W') := Go.Lib.hid fun w' => by
    have := Lcut_ok w' v n (by omega) hv
    rwa [← hu] at this
  have hc2 : Hid (∀ w', Calls Try.prog 20 #[.int .u64 w, .int .i64 m] w' fun e W' => e = .returned (.int .u64 (t : Int)) ∧ w' = W') := Go.Lib.hid fun w' => by
    have := Lcut_ok w' w m (by omega) hw
    rwa [← ht] at this
  obtain ⟨L, hL⟩ : ∃ L, L = pack B := ⟨_, rfl⟩
  have hck : Hid (∀ w, Row .u8 w a len cap L → Calls Try.prog 18 #[.agg #[.slice a len cap, .int .i64 nb]] w fun e W' => e = .returned (.int .i64 0) ∧ Below w.heap.size w W') := Go.Lib.hid fun w hw => by
    rw [hnb]; rw [hL] at hw
    exact RCheck_any _ a len cap B.length (pack B) hw (bounds_of_len (by omega)) 0 (.inl ⟨⟨B, rfl, by omega, rfl⟩, rfl⟩)
  have hp1 : Hid (∀ w, Row .u8 w a len cap L → Calls Try.prog 21 #[.agg #[.slice a len cap, .int .i64 nb], .int .u64 u, .int .i64 n] w fun e W' => ∃ b c, e = .returned (.tuple #[.agg #[.slice b m2 c, .int .i64 N2], .int .i64 0]) ∧ Row .u8 W' b m2 c (pack X) ∧ Below w.heap.size w W') := Go.Lib.hid fun w hw => by
    have := BPut_ok w a len cap B u n (by rw [← hL]; exact hw) (by omega) (by omega) hun
    rw [← hX, ← hN2, ← hm2, ← hnb] at this
    exact this
  have hp2 : Hid (∀ w b c, Row .u8 w b m2 c (pack X) → Calls Try.prog 21 #[.agg #[.slice b m2 c, .int .i64 N2], .int .u64 t, .int .i64 m] w fun e W' => ∃ b c, e = .returned (.tuple #[.agg #[.slice b m3 c, .int .i64 N3], .int .i64 0]) ∧ Row .u8 W' b m3 c (pack Y) ∧ Below w.heap.size w W') := Go.Lib.hid fun w b c hw => by
    have := BPut_ok w b m2 c X t m hw (by omega) (by omega) htm
    rw [← hY, hXl, ← hN3, ← hm3] at this
    exact this
  have hp3 : Hid (∀ w, Row .u8 w a len cap L → Calls Try.prog 21 #[.agg #[.slice a len cap, .int .i64 nb], .int .u64 z, .int .i64 nm] w fun e W' => ∃ b c, e = .returned (.tuple #[.agg #[.slice b m3 c, .int .i64 N3], .int .i64 0]) ∧ Row .u8 W' b m3 c (pack Y) ∧ Below w.heap.size w W') := Go.Lib.hid fun w hw => by
    have := BPut_ok w a len cap B z (n + m) (by rw [← hL]; exact hw) (by omega) (by omega) hzn
    rw [hYz, show B.length + (n + m) = N3 by omega, ← hm3, ← hnb, ← hnm'] at this
    exact this
  have hs1 : Hid (∀ w b c b' c', Row .u8 w b m3 c (pack Y) → Row .u8 w b' m3 c' (pack Y) → Calls Try.prog 17 #[.agg #[.slice b m3 c, .int .i64 N3], .agg #[.slice b' m3 c', .int .i64 N3]] w fun e W' => e = .returned (.bool true) ∧ Below w.heap.size w W') := Go.Lib.hid fun w b c b' c' h h' => by
    have := RSame_ok w b m3 c N3 (pack Y) h b' m3 c' N3 (pack Y) h'
    simpa using this
  have hWE0 := Go.Lib.hid (below1 W (.cells #[.slice a len cap, .int .i64 nb] 24))
  have BE0_b := Go.Lib.hid (box1 W (.slice a len cap) nb)
  have RE0_b := Go.Lib.hid (hr.below hWE0.out (Nat.le_refl _))
  rw [← hL] at RE0_b
  rw [← hnb]
  have hnb1 : nb ≤ 1500 := by omega
  by_cases h64 : (n : Int) < 64
  · clear hr hu ht hun htm hz hzn hx hX hY hYz hXl hm2 hm3 hnb hL hN2 hN3 hnm' hB
    go_enter Try.func5, Try.ntmps5
    go_wp2_with (first
      | (go_at_call 18; ((with_reducible refine (hck.out _ RE0_b.out).mono ?_)); rintro e w1 ⟨rfl, hb1⟩; have hWE1 := Go.Lib.hid hWE0.out; have hW1 := Go.Lib.hid (hWE1.out.trans (hb1.mono hWE1.out.size)); have R1_b := Go.Lib.hid (RE0_b.out.below hb1 (Nat.le_refl _)); have BE1_b := Go.Lib.hid BE0_b.out; have B1_b := Go.Lib.hid (BE1_b.out.below hb1 BE1_b.out.lt); obtain ⟨k1b0, k1b1, k1b2, k1b3⟩ := B1_b.out.cells; clear hb1)
      | (go_at_call 20; ((with_reducible refine (hc1.out _).mono ?_)); rintro e wz ⟨rfl, rfl⟩)
      | (go_at_call 20; ((with_reducible refine (hc2.out _).mono ?_)); rintro e wz ⟨rfl, rfl⟩)
      | (go_at_call 21; ((with_reducible refine (hp1.out _ ?hrow).mono ?_)); (case hrow => exact R1_b.out); rintro e w2 ⟨b2, cp2, rfl, hr2, hb2⟩; have hWE2 := Go.Lib.hid hW1.out; have hW2 := Go.Lib.hid (hWE2.out.trans (hb2.mono hWE2.out.size)); have R2_b := Go.Lib.hid (R1_b.out.below hb2 (Nat.le_refl _)); have R2_x := Go.Lib.hid hr2; clear hr2; have BE2_b := Go.Lib.hid B1_b.out; have B2_b := Go.Lib.hid (BE2_b.out.below hb2 BE2_b.out.lt); obtain ⟨k2b0, k2b1, k2b2, k2b3⟩ := B2_b.out.cells; have l2b := B2_b.out.lt; have n2b : W.heap.size ≠ w2.heap.size := (by omega); clear hb2)
      | (go_at_call 21; ((with_reducible refine (hp2.out _ _ _ ?hrow).mono ?_)); (case hrow => exact (R2_x.out.below (below1 w2 (.cells #[(.slice b2 m2 cp2), .int .i64 N2] 24)) (Nat.le_refl _))); rintro e w3 ⟨b3, cp3, rfl, hr3, hb3⟩; have hWE3 := Go.Lib.hid (hW2.out.alloc hW2.out.size (.cells #[(.slice b2 m2 cp2), .int .i64 N2] 24)); have hW3 := Go.Lib.hid (hWE3.out.trans (hb3.mono hWE3.out.size)); have R3_b := Go.Lib.hid ((R2_b.out.below (below1 w2 (.cells #[(.slice b2 m2 cp2), .int .i64 N2] 24)) (Nat.le_refl _)).below hb3 (Nat.le_refl _)); have R3_x := Go.Lib.hid ((R2_x.out.below (below1 w2 (.cells #[(.slice b2 m2 cp2), .int .i64 N2] 24)) (Nat.le_refl _)).below hb3 (Nat.le_refl _)); have R3_y := Go.Lib.hid hr3; clear hr3; have BE3_b := Go.Lib.hid (B2_b.out.alloc (.cells #[(.slice b2 m2 cp2), .int .i64 N2] 24)); have B3_b := Go.Lib.hid (BE3_b.out.below hb3 BE3_b.out.lt); obtain ⟨k3b0, k3b1, k3b2, k3b3⟩ := B3_b.out.cells; have BE3_x := Go.Lib.hid (box1 w2 (.slice b2 m2 cp2) N2); have B3_x := Go.Lib.hid (BE3_x.out.below hb3 BE3_x.out.lt); obtain ⟨k3x0, k3x1, k3x2, k3x3⟩ := B3_x.out.cells; have l3b := B3_b.out.lt; have n3b : W.heap.size ≠ w3.heap.size := (by omega); have l3x := B3_x.out.lt; have n3x : w2.heap.size ≠ w3.heap.size := (by omega); clear hb3)
      | (go_at_call 21; ((with_reducible refine (hp3.out _ ?hrow).mono ?_)); (case hrow => exact (R3_b.out.below (below1 w3 (.cells #[(.slice b3 m3 cp3), .int .i64 N3] 24)) (Nat.le_refl _))); rintro e w4 ⟨b4, cp4, rfl, hr4, hb4⟩; have hWE4 := Go.Lib.hid (hW3.out.alloc hW3.out.size (.cells #[(.slice b3 m3 cp3), .int .i64 N3] 24)); have hW4 := Go.Lib.hid (hWE4.out.trans (hb4.mono hWE4.out.size)); have R4_b := Go.Lib.hid ((R3_b.out.below (below1 w3 (.cells #[(.slice b3 m3 cp3), .int .i64 N3] 24)) (Nat.le_refl _)).below hb4 (Nat.le_refl _)); have R4_x := Go.Lib.hid ((R3_x.out.below (below1 w3 (.cells #[(.slice b3 m3 cp3), .int .i64 N3] 24)) (Nat.le_refl _)).below hb4 (Nat.le_refl _)); have R4_y := Go.Lib.hid ((R3_y.out.below (below1 w3 (.cells #[(.slice b3 m3 cp3), .int .i64 N3] 24)) (Nat.le_refl _)).below hb4 (Nat.le_refl _)); have R4_z := Go.Lib.hid hr4; clear hr4; have BE4_b := Go.Lib.hid (B3_b.out.alloc (.cells #[(.slice b3 m3 cp3), .int .i64 N3] 24)); have B4_b := Go.Lib.hid (BE4_b.out.below hb4 BE4_b.out.lt); obtain ⟨k4b0, k4b1, k4b2, k4b3⟩ := B4_b.out.cells; have BE4_x := Go.Lib.hid (B3_x.out.alloc (.cells #[(.slice b3 m3 cp3), .int .i64 N3] 24)); have B4_x := Go.Lib.hid (BE4_x.out.below hb4 BE4_x.out.lt); obtain ⟨k4x0, k4x1, k4x2, k4x3⟩ := B4_x.out.cells; have BE4_y := Go.Lib.hid (box1 w3 (.slice b3 m3 cp3) N3); have B4_y := Go.Lib.hid (BE4_y.out.below hb4 BE4_y.out.lt); obtain ⟨k4y0, k4y1, k4y2, k4y3⟩ := B4_y.out.cells; have l4b := B4_b.out.lt; have n4b : W.heap.size ≠ w4.heap.size := (by omega); have l4x := B4_x.out.lt; have n4x : w2.heap.size ≠ w4.heap.size := (by omega); have l4y := B4_y.out.lt; have n4y : w3.heap.size ≠ w4.heap.size := (by omega); clear hb4)
      | (go_at_call 17; ((with_reducible refine (hs1.out _ _ _ _ _ ?h1 ?h2).mono ?_)); (case h1 => exact (R4_y.out.below (below1 w4 (.cells #[(.slice b4 m3 cp4), .int .i64 N3] 24)) (Nat.le_refl _))); (case h2 => exact (R4_z.out.below (below1 w4 (.cells #[(.slice b4 m3 cp4), .int .i64 N3] 24)) (Nat.le_refl _))); rintro e w5 ⟨rfl, hb5⟩; have hWE5 := Go.Lib.hid (hW4.out.alloc hW4.out.size (.cells #[(.slice b4 m3 cp4), .int .i64 N3] 24)); have hW5 := Go.Lib.hid (hWE5.out.trans (hb5.mono hWE5.out.size)); have R5_b := Go.Lib.hid ((R4_b.out.below (below1 w4 (.cells #[(.slice b4 m3 cp4), .int .i64 N3] 24)) (Nat.le_refl _)).below hb5 (Nat.le_refl _)); have R5_x := Go.Lib.hid ((R4_x.out.below (below1 w4 (.cells #[(.slice b4 m3 cp4), .int .i64 N3] 24)) (Nat.le_refl _)).below hb5 (Nat.le_refl _)); have R5_y := Go.Lib.hid ((R4_y.out.below (below1 w4 (.cells #[(.slice b4 m3 cp4), .int .i64 N3] 24)) (Nat.le_refl _)).below hb5 (Nat.le_refl _)); have R5_z := Go.Lib.hid ((R4_z.out.below (below1 w4 (.cells #[(.slice b4 m3 cp4), .int .i64 N3] 24)) (Nat.le_refl _)).below hb5 (Nat.le_refl _)); have BE5_b := Go.Lib.hid (B4_b.out.alloc (.cells #[(.slice b4 m3 cp4), .int .i64 N3] 24)); have B5_b := Go.Lib.hid (BE5_b.out.below hb5 BE5_b.out.lt); obtain ⟨k5b0, k5b1, k5b2, k5b3⟩ := B5_b.out.cells; have BE5_x := Go.Lib.hid (B4_x.out.alloc (.cells #[(.slice b4 m3 cp4), .int .i64 N3] 24)); have B5_x := Go.Lib.hid (BE5_x.out.below hb5 BE5_x.out.lt); obtain ⟨k5x0, k5x1, k5x2, k5x3⟩ := B5_x.out.cells; have BE5_y := Go.Lib.hid (B4_y.out.alloc (.cells #[(.slice b4 m3 cp4), .int .i64 N3] 24)); have B5_y := Go.Lib.hid (BE5_y.out.below hb5 BE5_y.out.lt); obtain ⟨k5y0, k5y1, k5y2, k5y3⟩ := B5_y.out.cells; have BE5_z := Go.Lib.hid (box1 w4 (.slice b4 m3 cp4) N3); have B5_z := Go.Lib.hid (BE5_z.out.below hb5 BE5_z.out.lt); obtain ⟨k5z0, k5z1, k5z2, k5z3⟩ := B5_z.out.cells; clear hb5)
      | (go_at_call 19; refine (alive_ok _).mono ?_; rintro e w6 ⟨rfl, hb6⟩; have hWE6 := Go.Lib.hid hW5.out; have hW6 := Go.Lib.hid (hWE6.out.trans (hb6.mono hWE6.out.size)); clear hb6))
    go_ret
    exact ⟨rfl, hW6.out⟩
  · have h0 : z = u := by
      have : m = 0 := by omega
      subst this
      have : t = 0 := by simpa using htm
      rw [hz, this]; simp
    rw [h0] at hp3
    clear hr hu ht hun htm hz hzn hx hX hY hYz hXl hm2 hm3 hnb hL hN2 hN3 hnm' hB h0 hmul o1
    go_enter Try.func5, Try.ntmps5
    go_wp2_with (first
      | (go_at_call 18; ((with_reducible refine (hck.out _ RE0_b.out).mono ?_)); rintro e w1 ⟨rfl, hb1⟩; have hWE1 := Go.Lib.hid hWE0.out; have hW1 := Go.Lib.hid (hWE1.out.trans (hb1.mono hWE1.out.size)); have R1_b := Go.Lib.hid (RE0_b.out.below hb1 (Nat.le_refl _)); have BE1_b := Go.Lib.hid BE0_b.out; have B1_b := Go.Lib.hid (BE1_b.out.below hb1 BE1_b.out.lt); obtain ⟨k1b0, k1b1, k1b2, k1b3⟩ := B1_b.out.cells; clear hb1)
      | (go_at_call 20; ((with_reducible refine (hc1.out _).mono ?_)); rintro e wz ⟨rfl, rfl⟩)
      | (go_at_call 20; ((with_reducible refine (hc2.out _).mono ?_)); rintro e wz ⟨rfl, rfl⟩)
      | (go_at_call 21; ((with_reducible refine (hp1.out _ ?hrow).mono ?_)); (case hrow => exact R1_b.out); rintro e w2 ⟨b2, cp2, rfl, hr2, hb2⟩; have hWE2 := Go.Lib.hid hW1.out; have hW2 := Go.Lib.hid (hWE2.out.trans (hb2.mono hWE2.out.size)); have R2_b := Go.Lib.hid (R1_b.out.below hb2 (Nat.le_refl _)); have R2_x := Go.Lib.hid hr2; clear hr2; have BE2_b := Go.Lib.hid B1_b.out; have B2_b := Go.Lib.hid (BE2_b.out.below hb2 BE2_b.out.lt); obtain ⟨k2b0, k2b1, k2b2, k2b3⟩ := B2_b.out.cells; have l2b := B2_b.out.lt; have n2b : W.heap.size ≠ w2.heap.size := (by omega); clear hb2)
      | (go_at_call 21; ((with_reducible refine (hp2.out _ _ _ ?hrow).mono ?_)); (case hrow => exact (R2_x.out.below (below1 w2 (.cells #[(.slice b2 m2 cp2), .int .i64 N2] 24)) (Nat.le_refl _))); rintro e w3 ⟨b3, cp3, rfl, hr3, hb3⟩; have hWE3 := Go.Lib.hid (hW2.out.alloc hW2.out.size (.cells #[(.slice b2 m2 cp2), .int .i64 N2] 24)); have hW3 := Go.Lib.hid (hWE3.out.trans (hb3.mono hWE3.out.size)); have R3_b := Go.Lib.hid ((R2_b.out.below (below1 w2 (.cells #[(.slice b2 m2 cp2), .int .i64 N2] 24)) (Nat.le_refl _)).below hb3 (Nat.le_refl _)); have R3_x := Go.Lib.hid ((R2_x.out.below (below1 w2 (.cells #[(.slice b2 m2 cp2), .int .i64 N2] 24)) (Nat.le_refl _)).below hb3 (Nat.le_refl _)); have R3_y := Go.Lib.hid hr3; clear hr3; have BE3_b := Go.Lib.hid (B2_b.out.alloc (.cells #[(.slice b2 m2 cp2), .int .i64 N2] 24)); have B3_b := Go.Lib.hid (BE3_b.out.below hb3 BE3_b.out.lt); obtain ⟨k3b0, k3b1, k3b2, k3b3⟩ := B3_b.out.cells; have BE3_x := Go.Lib.hid (box1 w2 (.slice b2 m2 cp2) N2); have B3_x := Go.Lib.hid (BE3_x.out.below hb3 BE3_x.out.lt); obtain ⟨k3x0, k3x1, k3x2, k3x3⟩ := B3_x.out.cells; have l3b := B3_b.out.lt; have n3b : W.heap.size ≠ w3.heap.size := (by omega); have l3x := B3_x.out.lt; have n3x : w2.heap.size ≠ w3.heap.size := (by omega); clear hb3)
      | (go_at_call 21; ((with_reducible refine (hp3.out _ ?hrow).mono ?_)); (case hrow => exact (R3_b.out.below (below1 w3 (.cells #[(.slice b3 m3 cp3), .int .i64 N3] 24)) (Nat.le_refl _))); rintro e w4 ⟨b4, cp4, rfl, hr4, hb4⟩; have hWE4 := Go.Lib.hid (hW3.out.alloc hW3.out.size (.cells #[(.slice b3 m3 cp3), .int .i64 N3] 24)); have hW4 := Go.Lib.hid (hWE4.out.trans (hb4.mono hWE4.out.size)); have R4_b := Go.Lib.hid ((R3_b.out.below (below1 w3 (.cells #[(.slice b3 m3 cp3), .int .i64 N3] 24)) (Nat.le_refl _)).below hb4 (Nat.le_refl _)); have R4_x := Go.Lib.hid ((R3_x.out.below (below1 w3 (.cells #[(.slice b3 m3 cp3), .int .i64 N3] 24)) (Nat.le_refl _)).below hb4 (Nat.le_refl _)); have R4_y := Go.Lib.hid ((R3_y.out.below (below1 w3 (.cells #[(.slice b3 m3 cp3), .int .i64 N3] 24)) (Nat.le_refl _)).below hb4 (Nat.le_refl _)); have R4_z := Go.Lib.hid hr4; clear hr4; have BE4_b := Go.Lib.hid (B3_b.out.alloc (.cells #[(.slice b3 m3 cp3), .int .i64 N3] 24)); have B4_b := Go.Lib.hid (BE4_b.out.below hb4 BE4_b.out.lt); obtain ⟨k4b0, k4b1, k4b2, k4b3⟩ := B4_b.out.cells; have BE4_x := Go.Lib.hid (B3_x.out.alloc (.cells #[(.slice b3 m3 cp3), .int .i64 N3] 24)); have B4_x := Go.Lib.hid (BE4_x.out.below hb4 BE4_x.out.lt); obtain ⟨k4x0, k4x1, k4x2, k4x3⟩ := B4_x.out.cells; have BE4_y := Go.Lib.hid (box1 w3 (.slice b3 m3 cp3) N3); have B4_y := Go.Lib.hid (BE4_y.out.below hb4 BE4_y.out.lt); obtain ⟨k4y0, k4y1, k4y2, k4y3⟩ := B4_y.out.cells; have l4b := B4_b.out.lt; have n4b : W.heap.size ≠ w4.heap.size := (by omega); have l4x := B4_x.out.lt; have n4x : w2.heap.size ≠ w4.heap.size := (by omega); have l4y := B4_y.out.lt; have n4y : w3.heap.size ≠ w4.heap.size := (by omega); clear hb4)
      | (go_at_call 17; ((with_reducible refine (hs1.out _ _ _ _ _ ?h1 ?h2).mono ?_)); (case h1 => exact (R4_y.out.below (below1 w4 (.cells #[(.slice b4 m3 cp4), .int .i64 N3] 24)) (Nat.le_refl _))); (case h2 => exact (R4_z.out.below (below1 w4 (.cells #[(.slice b4 m3 cp4), .int .i64 N3] 24)) (Nat.le_refl _))); rintro e w5 ⟨rfl, hb5⟩; have hWE5 := Go.Lib.hid (hW4.out.alloc hW4.out.size (.cells #[(.slice b4 m3 cp4), .int .i64 N3] 24)); have hW5 := Go.Lib.hid (hWE5.out.trans (hb5.mono hWE5.out.size)); have R5_b := Go.Lib.hid ((R4_b.out.below (below1 w4 (.cells #[(.slice b4 m3 cp4), .int .i64 N3] 24)) (Nat.le_refl _)).below hb5 (Nat.le_refl _)); have R5_x := Go.Lib.hid ((R4_x.out.below (below1 w4 (.cells #[(.slice b4 m3 cp4), .int .i64 N3] 24)) (Nat.le_refl _)).below hb5 (Nat.le_refl _)); have R5_y := Go.Lib.hid ((R4_y.out.below (below1 w4 (.cells #[(.slice b4 m3 cp4), .int .i64 N3] 24)) (Nat.le_refl _)).below hb5 (Nat.le_refl _)); have R5_z := Go.Lib.hid ((R4_z.out.below (below1 w4 (.cells #[(.slice b4 m3 cp4), .int .i64 N3] 24)) (Nat.le_refl _)).below hb5 (Nat.le_refl _)); have BE5_b := Go.Lib.hid (B4_b.out.alloc (.cells #[(.slice b4 m3 cp4), .int .i64 N3] 24)); have B5_b := Go.Lib.hid (BE5_b.out.below hb5 BE5_b.out.lt); obtain ⟨k5b0, k5b1, k5b2, k5b3⟩ := B5_b.out.cells; have BE5_x := Go.Lib.hid (B4_x.out.alloc (.cells #[(.slice b4 m3 cp4), .int .i64 N3] 24)); have B5_x := Go.Lib.hid (BE5_x.out.below hb5 BE5_x.out.lt); obtain ⟨k5x0, k5x1, k5x2, k5x3⟩ := B5_x.out.cells; have BE5_y := Go.Lib.hid (B4_y.out.alloc (.cells #[(.slice b4 m3 cp4), .int .i64 N3] 24)); have B5_y := Go.Lib.hid (BE5_y.out.below hb5 BE5_y.out.lt); obtain ⟨k5y0, k5y1, k5y2, k5y3⟩ := B5_y.out.cells; have BE5_z := Go.Lib.hid (box1 w4 (.slice b4 m3 cp4) N3); have B5_z := Go.Lib.hid (BE5_z.out.below hb5 BE5_z.out.lt); obtain ⟨k5z0, k5z1, k5z2, k5z3⟩ := B5_z.out.cells; clear hb5)
      | (go_at_call 19; refine (alive_ok _).mono ?_; rintro e w6 ⟨rfl, hb6⟩; have hWE6 := Go.Lib.hid hW5.out; have hW6 := Go.Lib.hid (hWE6.out.trans (hb6.mono hWE6.out.size)); clear hb6))
    go_ret
    exact ⟨rfl, hW6.out⟩

theorem bitsTogether_walk (ax0_0 : Option Addr) (lenx0_0 capx0_0 : Nat) (zx0_0 : List Int) (x0_1 : Int) (x1 : Int) (x2 : Int) (x3 : Int) (x4 : Int) (W : World) (wx0_0 : IsRow .u8 W ax0_0 lenx0_0 capx0_0 zx0_0) (wx0_1 : (Lit.int .i64 x0_1).wf = true) (wx1 : (Lit.int .u64 x1).wf = true) (wx2 : (Lit.int .u64 x2).wf = true) (wx3 : (Lit.int .i64 x3).wf = true) (wx4 : (Lit.int .i64 x4).wf = true) :
    Calls Try.prog 5 #[.agg #[.slice ax0_0 lenx0_0 capx0_0, .int .i64 x0_1], .int .u64 x1, .int .u64 x2, .int .i64 x3, .int .i64 x4] W fun e w' => e = .returned (.bool true) ∧ Below W.heap.size W w' := by
  have hr := Row.of_isRow wx0_0
  have b1 := bounds_u64 wx1
  have b2 := bounds_u64 wx2
  by_cases hv : Valid (zx0_0.take lenx0_0) x0_1
  · by_cases h : 1500 < x0_1 ∨ x3 < 0 ∨ x4 < 0 ∨ 64 < x3 ∨ 64 - x3 < x4
    · exact bitsTogether_out W _ _ _ _ _ _ _ _ _ hr wx0_1 wx3 wx4 (.inr ⟨hv, h⟩)
    · obtain ⟨B, rfl, hB, e⟩ := hv
      rw [e] at hr
      obtain ⟨v, rfl⟩ : ∃ v : Nat, x1 = v := ⟨x1.toNat, by omega⟩
      obtain ⟨w, rfl⟩ : ∃ w : Nat, x2 = w := ⟨x2.toNat, by omega⟩
      obtain ⟨n, rfl⟩ : ∃ n : Nat, x3 = n := ⟨x3.toNat, by omega⟩
      obtain ⟨m, rfl⟩ : ∃ m : Nat, x4 = m := ⟨x4.toNat, by omega⟩
      exact bitsTogether_in W _ _ _ B v w n m hr (by omega) (by omega) (by omega) (by omega)
  · exact bitsTogether_out W _ _ _ _ _ _ _ _ _ hr wx0_1 wx3 wx4 (.inl hv)
end Go.Proofs.Ytogkiopdcmeddaa
