/- BitsGot: what was put is got, wherever it stands. -/
import Derived.Test.YtogkiopdcmeddaaBitLawA
namespace Go.Proofs.Ytogkiopdcmeddaa
open Go.RowKit Cad

theorem mid_behind (A B : List Bool) : midB (A ++ B) A.length (A.length + B.length) = B := by
  unfold midB
  rw [List.drop_left, Nat.add_sub_cancel_left, List.take_length]
theorem mid_front (A B : List Bool) {i t : Nat} (h : i ≤ t) (ht : t ≤ A.length) : midB (A ++ B) i t = midB A i t := by
  unfold midB
  rw [List.drop_append_of_le_length (by omega), List.take_append_of_le_length (by simp; omega)]
theorem natB_numB_self {v n : Nat} (h : v < 2 ^ n) : natB (numB v n) = v := by rw [natB_numB, Nat.mod_eq_of_lt h]

theorem box1 (W : World) (v : Value) (N : Int) : BoxAt (W.alloc (.cells #[v, .int .i64 N] 24)) W.heap.size v N := heap_alloc_new _ _
theorem below1 (W : World) (o : Obj) : Below W.heap.size W (W.alloc o) := (Below.refl _ _).alloc (Nat.le_refl _) _

/-- the guard says no -/
theorem bitsGot_out (W : World) (a : Option Addr) (len cap : Nat) (l : List Int) (N : Int) (v n at_ many : Int) (hr : Row .u8 W a len cap l) (hN : (Lit.int .i64 N).wf = true) (hn : (Lit.int .i64 n).wf = true)
    (h : ¬ Valid l N ∨ (Valid l N ∧ (1500 < N ∨ n < 0 ∨ 64 < n))) :
    Calls Try.prog 4 #[.agg #[.slice a len cap, .int .i64 N], .int .u64 v, .int .i64 n, .int .i64 at_, .int .i64 many] W fun e w' => e = .returned (.bool true) ∧ Below W.heap.size W w' := by
  have hrE := hr.below (below1 W (.cells #[.slice a len cap, .int .i64 N] 24)) (Nat.le_refl _)
  have hx0' := Go.Lib.hid (box1 W (.slice a len cap) N)
  have hbE' := Go.Lib.hid (below1 W (.cells #[.slice a len cap, .int .i64 N] 24))
  rcases h with h | ⟨hv, h⟩
  · have hck := Go.Lib.hid (RCheck_any _ a len cap N l hrE hN 8 (.inr ⟨h, rfl⟩))
    clear hr hrE hN hn h
    go_enter Try.func4, Try.ntmps4
    go_wp2_with (first
      | (go_at_call 18; refine hck.out.mono ?_; rintro e w1 ⟨rfl, hb1⟩)
      | (go_at_call 19; refine (alive_ok _).mono ?_; rintro e w2 ⟨rfl, hb2⟩))
    go_ret
    exact ⟨rfl, (hbE'.out.trans (hb1.mono (by simp))).trans (hb2.mono (by have := hb1.size; simp at this; omega))⟩
  · have hck := Go.Lib.hid (RCheck_any _ a len cap N l hrE hN 0 (.inl ⟨hv, rfl⟩))
    have bn := bounds_i64 hn
    have bN := hv.n
    clear hr hrE hN hn hv
    have key : 1500 < N ∨ (¬ 1500 < N ∧ n < 0) ∨ (¬ 1500 < N ∧ ¬ n < 0 ∧ 64 < n) := by omega
    clear h
    rcases key with h | ⟨h, h'⟩ | ⟨h, h', h''⟩
    all_goals
      go_enter Try.func4, Try.ntmps4
      go_wp2_with (first
        | (go_at_call 18; refine hck.out.mono ?_; rintro e w1 ⟨rfl, hb1⟩; obtain ⟨c0, c1, c2, c3⟩ := (hx0'.out.below hb1 (by simp)).cells; have hb1' := Go.Lib.hid hb1; clear hb1)
        | (go_at_call 19; refine (alive_ok _).mono ?_; rintro e w2 ⟨rfl, hb2⟩))
      go_ret
      exact ⟨rfl, (hbE'.out.trans (hb1'.out.mono (by simp))).trans (hb2.mono (by have := hb1'.out.size; simp at this; omega))⟩

set_option maxHeartbeats 6000000 in
theorem bitsGot_in (W : World) (a : Option Addr) (len cap : Nat) (B : List Bool) (v n : Nat) (at_ many : Int) (hr : Row .u8 W a len cap (pack B)) (hB : B.length ≤ 1500) (hn : n ≤ 64) (hv : v < 18446744073709551616)
    (hat : (Lit.int .i64 at_).wf = true) (hmany : (Lit.int .i64 many).wf = true) :
    Calls Try.prog 4 #[.agg #[.slice a len cap, .int .i64 B.length], .int .u64 v, .int .i64 n, .int .i64 at_, .int .i64 many] W fun e w' => e = .returned (.bool true) ∧ Below W.heap.size W w' := by
  have hbE' := Go.Lib.hid (below1 W (.cells #[.slice a len cap, .int .i64 B.length] 24))
  have hx0' := Go.Lib.hid (box1 W (.slice a len cap) B.length)
  have bat := bounds_i64 hat
  have bmany := bounds_i64 hmany
  obtain ⟨u, hu⟩ : ∃ u, u = v % 2 ^ n := ⟨_, rfl⟩
  have hun : u < 2 ^ n := by rw [hu]; exact Nat.mod_lt _ (Nat.pow_pos (by decide))
  have hu64 : u < 18446744073709551616 := Nat.lt_of_lt_of_le hun (Nat.pow_le_pow_right (n := 2) (by decide) hn)
  obtain ⟨X, hX⟩ : ∃ X, X = B ++ numB u n := ⟨_, rfl⟩
  obtain ⟨N2, hN2⟩ : ∃ N2, N2 = B.length + n := ⟨_, rfl⟩
  have hXl : X.length = N2 := by rw [hX, List.length_append, numB_len, hN2]
  obtain ⟨m, hm⟩ : ∃ m, m = (N2 + 7) / 8 := ⟨_, rfl⟩
  obtain ⟨nb, hnb⟩ : ∃ nb, nb = B.length := ⟨_, rfl⟩
  have hsum : (nb : Int) + (n : Int) = (N2 : Int) := by omega
  have hcutv : Hid (∀ w, Calls Try.prog 20 #[.int .u64 v, .int .i64 n] w fun e W' => e = .returned (.int .u64 (u : Int)) ∧ w = W') := Go.Lib.hid fun w => by
    have := Lcut_ok w v n hn hv
    rwa [← hu] at this
  have hck : Hid (∀ w, Below W.heap.size W w → Calls Try.prog 18 #[.agg #[.slice a len cap, .int .i64 nb]] w fun e W' => e = .returned (.int .i64 0) ∧ Below w.heap.size w W') := Go.Lib.hid fun w hw => by
    rw [hnb]
    exact RCheck_any _ a len cap B.length (pack B) (hr.below hw (Nat.le_refl _)) (bounds_of_len (by omega)) 0 (.inl ⟨⟨B, rfl, by omega, rfl⟩, rfl⟩)
  have hput : Hid (∀ w, Below W.heap.size W w → Calls Try.prog 21 #[.agg #[.slice a len cap, .int .i64 nb], .int .u64 u, .int .i64 n] w fun e W' => ∃ b c, e = .returned (.tuple #[.agg #[.slice b m c, .int .i64 N2], .int .i64 0]) ∧ Row .u8 W' b m c (pack X) ∧ Below w.heap.size w W') := Go.Lib.hid fun w hw => by
    have := BPut_ok w a len cap B u n (hr.below hw (Nat.le_refl _)) (by omega) hn hun
    rw [← hX, ← hN2, ← hm, ← hnb] at this
    exact this
  have hgx : Hid (∀ w b c, Row .u8 w b m c (pack X) → Calls Try.prog 22 #[.agg #[.slice b m c, .int .i64 N2], .int .i64 nb, .int .i64 n] w fun e W' => e = .returned (.tuple #[.int .u64 (u : Int), .int .i64 0]) ∧ Below w.heap.size w W') := Go.Lib.hid fun w b c h => by
    have := BGet_ok w b m c X nb n h (by omega) hn (by omega)
    rw [hXl, hX, hnb] at this
    have e : midB (B ++ numB u n) B.length (B.length + n) = numB u n := by
      have := mid_behind B (numB u n)
      rwa [numB_len] at this
    rw [e, natB_numB_self hun] at this
    rw [hnb]
    exact this
  have hcx : Hid (∀ w b c, Row .u8 w b m c (pack X) → Calls Try.prog 18 #[.agg #[.slice b m c, .int .i64 N2]] w fun e W' => e = .returned (.int .i64 0) ∧ Below w.heap.size w W') := Go.Lib.hid fun w b c h => by
    have := RCheck_any w b m c X.length (pack X) h (bounds_of_len (by omega)) 0 (.inl ⟨⟨X, rfl, by omega, rfl⟩, rfl⟩)
    rwa [hXl] at this
  by_cases hin : 0 ≤ at_ ∧ 0 ≤ many ∧ many ≤ 64 ∧ at_ ≤ (nb : Int) - many
  · obtain ⟨i, rfl⟩ : ∃ i : Nat, at_ = i := ⟨at_.toNat, by omega⟩
    obtain ⟨q, rfl⟩ : ∃ q : Nat, many = q := ⟨many.toNat, by omega⟩
    obtain ⟨_, _, hq, hiq⟩ := hin
    obtain ⟨y, hy⟩ : ∃ y, y = natB (midB B i (i + q)) := ⟨_, rfl⟩
    have hyq : y < 2 ^ q := by
      have := natB_lt (midB B i (i + q))
      rw [midB_len B (by omega) (by omega), Nat.add_sub_cancel_left, ← hy] at this
      exact this
    have hy64 : y < 18446744073709551616 := Nat.lt_of_lt_of_le hyq (Nat.pow_le_pow_right (n := 2) (by decide) (show q ≤ 64 by omega))
    have hgb : Hid (∀ w, Below W.heap.size W w → Calls Try.prog 22 #[.agg #[.slice a len cap, .int .i64 nb], .int .i64 i, .int .i64 q] w fun e W' => e = .returned (.tuple #[.int .u64 (y : Int), .int .i64 0]) ∧ Below w.heap.size w W') := Go.Lib.hid fun w hw => by
      have := BGet_ok w a len cap B i q (hr.below hw (Nat.le_refl _)) (by omega) (by omega) (by omega)
      rw [← hy, ← hnb] at this
      exact this
    have hgx2 : Hid (∀ w b c, Row .u8 w b m c (pack X) → Calls Try.prog 22 #[.agg #[.slice b m c, .int .i64 N2], .int .i64 i, .int .i64 q] w fun e W' => e = .returned (.tuple #[.int .u64 (y : Int), .int .i64 0]) ∧ Below w.heap.size w W') := Go.Lib.hid fun w b c h => by
      have := BGet_ok w b m c X i q h (by omega) (by omega) (by omega)
      rw [hXl, hX, mid_front B _ (by omega) (by omega), ← hy] at this
      exact this
    have hcuty : Hid (∀ w, Calls Try.prog 20 #[.int .u64 y, .int .i64 q] w fun e W' => e = .returned (.int .u64 (y : Int)) ∧ w = W') := Go.Lib.hid fun w => by
      have := Lcut_ok w y q (by omega) hy64
      rwa [Nat.mod_eq_of_lt hyq] at this
    rw [← hnb] at hx0' hbE' ⊢
    have hnb1 : nb ≤ 1500 := by omega
    clear hr hu hun hX hXl hm hnb hy hyq hat hmany hN2 hB bat bmany
    go_enter Try.func4, Try.ntmps4
    go_wp2_with (first
      | (go_at_call 18; ((with_reducible refine (hck.out _ hbE'.out).mono ?_)); rintro e w1 ⟨rfl, hb1⟩; have h1 := Go.Lib.hid (hbE'.out.trans (hb1.mono (by simp))); obtain ⟨c0, c1, c2, c3⟩ := (hx0'.out.below hb1 (by simp)).cells; have hx1 := Go.Lib.hid (hx0'.out.below hb1 (by simp)); clear hb1)
      | (go_at_call 20; ((with_reducible refine (hcutv.out _).mono ?_)); rintro e w5 ⟨rfl, rfl⟩)
      | (go_at_call 21; ((with_reducible refine (hput.out _ h1.out).mono ?_)); rintro e w2 ⟨b2, cp2, rfl, hr2, hb2⟩; have h2 := Go.Lib.hid (h1.out.trans (hb2.mono h1.out.size)); have hx2 := hx1.out.below hb2 hx1.out.lt; have hx2' := Go.Lib.hid hx2; obtain ⟨d0, d1, d2, d3⟩ := hx2.cells; have hr2' := Go.Lib.hid hr2; have l2 := hx2.lt; have n2 : W.heap.size ≠ w2.heap.size := (by omega); clear hr2 hb2 hx2)
      | (go_at_call 22; ((with_reducible refine (hgx.out _ _ _ ?hrow).mono ?_)); (case hrow => exact hr2'.out.below (below1 w2 _) (Nat.le_refl _)); rintro e w3 ⟨rfl, hb3⟩; have g3 := Go.Lib.hid ((below1 w2 _).trans (hb3.mono (by simp))); have bx3 := Go.Lib.hid ((hx2'.out.alloc _).below hb3 (by simp; omega)); have xx3 := Go.Lib.hid ((box1 w2 (.slice b2 m cp2) N2).below hb3 (by simp)); obtain ⟨p30, p31, p32, p33⟩ := bx3.out.cells; obtain ⟨q30, q31, q32, q33⟩ := xx3.out.cells; clear hb3)
      | (go_at_call 18; ((with_reducible refine (hcx.out _ _ _ ?hrow).mono ?_)); (case hrow => exact hr2'.out.below g3.out (Nat.le_refl _)); rintro e w4 ⟨rfl, hb4⟩; have g4 := Go.Lib.hid (g3.out.trans (hb4.mono g3.out.size)); have bx4 := Go.Lib.hid (bx3.out.below hb4 bx3.out.lt); have xx4 := Go.Lib.hid (xx3.out.below hb4 xx3.out.lt); obtain ⟨p40, p41, p42, p43⟩ := bx4.out.cells; obtain ⟨q40, q41, q42, q43⟩ := xx4.out.cells; clear hb4)
      | (go_at_call 22; ((with_reducible refine (hgb.out _ (h2.out.trans (g4.out.mono h2.out.size))).mono ?_)); rintro e w5 ⟨rfl, hb5⟩; have g5 := Go.Lib.hid (g4.out.trans (hb5.mono g4.out.size)); have bx5 := Go.Lib.hid (bx4.out.below hb5 bx4.out.lt); have xx5 := Go.Lib.hid (xx4.out.below hb5 xx4.out.lt); obtain ⟨p50, p51, p52, p53⟩ := bx5.out.cells; obtain ⟨q50, q51, q52, q53⟩ := xx5.out.cells; clear hb5)
      | (go_at_call 22; ((with_reducible refine (hgx2.out _ _ _ ?hrow).mono ?_)); (case hrow => exact hr2'.out.below g5.out (Nat.le_refl _)); rintro e w6 ⟨rfl, hb6⟩; have g6 := Go.Lib.hid (g5.out.trans (hb6.mono g5.out.size)); have bx6 := Go.Lib.hid (bx5.out.below hb6 bx5.out.lt); have xx6 := Go.Lib.hid (xx5.out.below hb6 xx5.out.lt); obtain ⟨p60, p61, p62, p63⟩ := bx6.out.cells; obtain ⟨q60, q61, q62, q63⟩ := xx6.out.cells; clear hb6)
      | (go_at_call 20; ((with_reducible refine (hcuty.out _).mono ?_)); rintro e w7 ⟨rfl, rfl⟩)
      | (go_at_call 19; refine (alive_ok _).mono ?_; rintro e w8 ⟨rfl, hb8⟩))
    go_ret
    exact ⟨rfl, ((h2.out.trans (g6.out.mono h2.out.size)).trans (hb8.mono (Nat.le_trans h2.out.size g6.out.size)))⟩
  · rw [← hnb] at hx0' hbE' ⊢
    have hnb1 : nb ≤ 1500 := by omega
    have key : at_ < 0 ∨ (¬ at_ < 0 ∧ many < 0) ∨ (¬ at_ < 0 ∧ ¬ many < 0 ∧ 64 < many) ∨ (¬ at_ < 0 ∧ ¬ many < 0 ∧ ¬ 64 < many ∧ (nb : Int) - many < at_) := by omega
    clear hr hu hun hX hXl hm hnb hat hmany hN2 hB hin
    rcases key with h | ⟨h, ha⟩ | ⟨h, ha, hb⟩ | ⟨h, ha, hb, hc⟩
    all_goals
      go_enter Try.func4, Try.ntmps4
      go_wp2_with (first
        | (go_at_call 18; ((with_reducible refine (hck.out _ hbE'.out).mono ?_)); rintro e w1 ⟨rfl, hb1⟩; have h1 := Go.Lib.hid (hbE'.out.trans (hb1.mono (by simp))); obtain ⟨c0, c1, c2, c3⟩ := (hx0'.out.below hb1 (by simp)).cells; have hx1 := Go.Lib.hid (hx0'.out.below hb1 (by simp)); clear hb1)
        | (go_at_call 20; ((with_reducible refine (hcutv.out _).mono ?_)); rintro e w5 ⟨rfl, rfl⟩)
        | (go_at_call 21; ((with_reducible refine (hput.out _ h1.out).mono ?_)); rintro e w2 ⟨b2, cp2, rfl, hr2, hb2⟩; have h2 := Go.Lib.hid (h1.out.trans (hb2.mono h1.out.size)); have hx2 := hx1.out.below hb2 hx1.out.lt; have hx2' := Go.Lib.hid hx2; obtain ⟨d0, d1, d2, d3⟩ := hx2.cells; have hr2' := Go.Lib.hid hr2; have l2 := hx2.lt; have n2 : W.heap.size ≠ w2.heap.size := (by omega); clear hr2 hb2 hx2)
        | (go_at_call 22; ((with_reducible refine (hgx.out _ _ _ ?hrow).mono ?_)); (case hrow => exact hr2'.out.below (below1 w2 _) (Nat.le_refl _)); rintro e w3 ⟨rfl, hb3⟩; have g3 := Go.Lib.hid ((below1 w2 _).trans (hb3.mono (by simp))); have bx3 := Go.Lib.hid ((hx2'.out.alloc _).below hb3 (by simp; omega)); have xx3 := Go.Lib.hid ((box1 w2 (.slice b2 m cp2) N2).below hb3 (by simp)); obtain ⟨p30, p31, p32, p33⟩ := bx3.out.cells; obtain ⟨q30, q31, q32, q33⟩ := xx3.out.cells; clear hb3)
        | (go_at_call 18; ((with_reducible refine (hcx.out _ _ _ ?hrow).mono ?_)); (case hrow => exact hr2'.out.below g3.out (Nat.le_refl _)); rintro e w4 ⟨rfl, hb4⟩; have g4 := Go.Lib.hid (g3.out.trans (hb4.mono g3.out.size)); have bx4 := Go.Lib.hid (bx3.out.below hb4 bx3.out.lt); have xx4 := Go.Lib.hid (xx3.out.below hb4 xx3.out.lt); obtain ⟨p40, p41, p42, p43⟩ := bx4.out.cells; obtain ⟨q40, q41, q42, q43⟩ := xx4.out.cells; clear hb4)
        | (go_at_call 19; refine (alive_ok _).mono ?_; rintro e w8 ⟨rfl, hb8⟩))
      go_ret
      exact ⟨rfl, ((h2.out.trans (g4.out.mono h2.out.size)).trans (hb8.mono (Nat.le_trans h2.out.size g4.out.size)))⟩

theorem bitsGot_walk (ax0_0 : Option Addr) (lenx0_0 capx0_0 : Nat) (zx0_0 : List Int) (x0_1 : Int) (x1 : Int) (x2 : Int) (x3 : Int) (x4 : Int) (W : World) (wx0_0 : IsRow .u8 W ax0_0 lenx0_0 capx0_0 zx0_0) (wx0_1 : (Lit.int .i64 x0_1).wf = true) (wx1 : (Lit.int .u64 x1).wf = true) (wx2 : (Lit.int .i64 x2).wf = true) (wx3 : (Lit.int .i64 x3).wf = true) (wx4 : (Lit.int .i64 x4).wf = true) :
    Calls Try.prog 4 #[.agg #[.slice ax0_0 lenx0_0 capx0_0, .int .i64 x0_1], .int .u64 x1, .int .i64 x2, .int .i64 x3, .int .i64 x4] W fun e w' => e = .returned (.bool true) ∧ Below W.heap.size W w' := by
  have hr := Row.of_isRow wx0_0
  have b1 := bounds_u64 wx1
  by_cases hv : Valid (zx0_0.take lenx0_0) x0_1
  · by_cases h : 1500 < x0_1 ∨ x2 < 0 ∨ 64 < x2
    · exact bitsGot_out W _ _ _ _ _ _ _ _ _ hr wx0_1 wx2 (.inr ⟨hv, h⟩)
    · obtain ⟨B, rfl, hB, e⟩ := hv
      rw [e] at hr
      obtain ⟨v, rfl⟩ : ∃ v : Nat, x1 = v := ⟨x1.toNat, by omega⟩
      obtain ⟨n, rfl⟩ : ∃ n : Nat, x2 = n := ⟨x2.toNat, by omega⟩
      exact bitsGot_in W _ _ _ B v n x3 x4 hr (by omega) (by omega) (by omega) wx3 wx4
  · exact bitsGot_out W _ _ _ _ _ _ _ _ _ hr wx0_1 wx2 (.inl hv)
end Go.Proofs.Ytogkiopdcmeddaa
