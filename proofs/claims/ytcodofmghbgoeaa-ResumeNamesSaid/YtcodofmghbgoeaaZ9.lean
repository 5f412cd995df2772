/- Texts of the proof, one behind the other: ResR, ResS, ResT, ResU, ResH, ResG, ResI, CodA, CodB. -/
import Derived.Test.YtcodofmghbgoeaaZ8
import Derived.Deep.DeepCutAuto
/- Contracts of the reference of resume: Start, Check, comparisons. -/
namespace Go.Proofs.Ytcodofmghbgoeaa
open Go.RowKit Cad

/-- a valid state -/
structure ResOkN (n : Nat) (D : Du) (B : List Bool) : Prop where
  n4 : n ≤ 4000
  d : D.ok
  b : B.length ≤ 330000
  zero : n = 0 → B.length < 8
  wait : n ≠ 0 → readD B 0 D = (0, 0, 24)
theorem ResOkN.b80 {n : Nat} {D : Du} {B : List Bool} (h : ResOkN n D B) : B.length ≤ 80 := by
  by_cases h0 : n = 0
  · have := h.zero h0; omega
  · exact short_le (h.wait h0) h.d
def ResOk (n a b c d : Int) (l : List Int) (N : Int) : Prop := ∃ (m : Nat) (D : Du) (B : List Bool), ResOkN m D B ∧ n = m ∧ a = D.k0 ∧ b = D.k1 ∧ c = D.s0 ∧ d = D.s1 ∧ l = pack B ∧ N = B.length
def chkS (n a b c d : Int) (l : List Int) (N r : Int) : Prop := (ResOk n a b c d l N ∧ r = 0) ∨ (¬ ResOk n a b c d l N ∧ r = 8)
theorem chkS_any (n a b c d : Int) (l : List Int) (N : Int) : ∃ r, chkS n a b c d l N r := by
  by_cases h : ResOk n a b c d l N
  · exact ⟨0, .inl ⟨h, rfl⟩⟩
  · exact ⟨8, .inr ⟨h, rfl⟩⟩

theorem RsGreat_ok (W : World) (a : Option Addr) (len cap : Nat) (hl : len ≤ 9223372036854775807) (q : Bool) (hq : decide ((190 < len ∧ len ≤ 41000) ∨ 41100 < len) = q) :
    Calls Try.prog 16 #[.slice a len cap] W fun e W' => e = .returned (.bool q) ∧ W = W' := by
  have key : (¬ (190 : Int) < len ∧ q = false) ∨ ((190 : Int) < len ∧ (len : Int) ≤ 41000 ∧ q = true) ∨ ((190 : Int) < len ∧ ¬ (len : Int) ≤ 41000 ∧ ¬ (41100 : Int) < len ∧ q = false) ∨ ((190 : Int) < len ∧ ¬ (len : Int) ≤ 41000 ∧ (41100 : Int) < len ∧ q = true) := by
    rw [← hq]
    by_cases h1 : 190 < len <;> by_cases h2 : len ≤ 41000 <;> by_cases h3 : 41100 < len <;> simp [h1, h2, h3] <;> omega
  clear hq
  rcases key with ⟨h1, rfl⟩ | ⟨h1, h2, rfl⟩ | ⟨h1, h2, h3, rfl⟩ | ⟨h1, h2, h3, rfl⟩
  all_goals
    go_enter Try.func16, Try.ntmps16
    go_wp2
    go_ret
    exact ⟨by first | rfl | (simp; omega) | simp, rfl⟩

set_option maxRecDepth 100000 in
set_option maxHeartbeats 1000000 in
theorem RsSame_ok (W : World) (n a b c d N n' a' b' c' d' N' : Int) (aa : Option Addr) (len cap : Nat) (l : List Int) (aa' : Option Addr) (len' cap' : Nat) (l' : List Int) (hr : Row .u8 W aa len cap l) (hr' : Row .u8 W aa' len' cap' l') :
    Calls Try.prog 12 #[.agg #[.int .i64 n, .int .i64 a, .int .i64 b, .int .u64 c, .int .u64 d, .slice aa len cap, .int .i64 N], .agg #[.int .i64 n', .int .i64 a', .int .i64 b', .int .u64 c', .int .u64 d', .slice aa' len' cap', .int .i64 N']] W fun e W' => e = .returned (.bool (decide (n = n') && (sameD a b c d a' b' c' d' && decide (N = N' ∧ l = l')))) ∧ Below W.heap.size W W' := by
  obtain ⟨W0, hW0, hbE, hsz0, hx0, hq0⟩ := two_res W n a b c d (.slice aa len cap) N n' a' b' c' d' (.slice aa' len' cap') N'
  have sm := Go.Lib.hid (RSame_ok W0 aa len cap N l (hr.below hbE (Nat.le_refl _)) aa' len' cap' N' l' (hr'.below hbE (Nat.le_refl _)))
  obtain ⟨q, hq⟩ : ∃ q, q = decide (N = N' ∧ l = l') := ⟨_, rfl⟩
  rw [← hq] at sm ⊢
  obtain ⟨p, hp⟩ : ∃ p, p = sameD a b c d a' b' c' d' := ⟨_, rfl⟩
  rw [← hp]
  have hp' := Go.Lib.hid hp
  have hbE' := Go.Lib.hid hbE
  clear hr hr' hq hp hx0 hq0 hbE
  by_cases h1 : n = n'
  · subst h1
    cases p with
    | true =>
      have hp2 : sameD a b c d a' b' c' d' = true := hp'.out.symm
      go_enter Try.func12, Try.ntmps12
      go_wp2_with (go_at_call 26; rw [← hW0]; clear hW0; refine sm.out.mono ?_; rintro e w1 ⟨rfl, hb1⟩; have hb1' := Go.Lib.hid (hbE'.out.trans (hb1.mono (by omega))); clear hb1)
      go_ret
      exact ⟨by simp, hb1'.out⟩
    | false =>
      have hp2 : sameD a b c d a' b' c' d' = false := hp'.out.symm
      go_enter Try.func12, Try.ntmps12
      go_wp2
      go_ret
      exact ⟨by simp, by rw [← hW0]; exact hbE'.out⟩
  · have hne : (n == n') = false := by simp [h1]
    go_enter Try.func12, Try.ntmps12
    go_wp2
    go_ret
    exact ⟨by simp [h1], by rw [← hW0]; exact hbE'.out⟩
end Go.Proofs.Ytcodofmghbgoeaa

/- Contracts of the reference of resume: Check. -/
namespace Go.Proofs.Ytcodofmghbgoeaa
open Go.RowKit Cad

set_option maxRecDepth 100000 in
set_option maxHeartbeats 1000000 in
theorem RsCheck_neg (W : World) (aa : Option Addr) (len cap : Nat) (n a b c d N : Int) (h : n < 0) :
    Calls Try.prog 19 #[.agg #[.int .i64 n, .int .i64 a, .int .i64 b, .int .u64 c, .int .u64 d, .slice aa len cap, .int .i64 N]] W fun e W' => e = .returned (.int .i64 8) ∧ Below W.heap.size W W' := by
  have x0 := Go.Lib.hid (resat1 W n a b c d (.slice aa len cap) N)
  have B0 := Go.Lib.hid (below1 W (.cells #[.int .i64 n, .int .i64 a, .int .i64 b, .int .u64 c, .int .u64 d, .slice aa len cap, .int .i64 N] 29))
  go_enter Try.func19, Try.ntmps19
  go_wp2
  go_ret
  exact ⟨rfl, B0.out⟩

set_option maxRecDepth 100000 in
set_option maxHeartbeats 1000000 in
theorem RsCheck_many (W : World) (aa : Option Addr) (len cap : Nat) (n a b c d N : Int) (h0 : ¬ n < 0) (h : 4000 < n) :
    Calls Try.prog 19 #[.agg #[.int .i64 n, .int .i64 a, .int .i64 b, .int .u64 c, .int .u64 d, .slice aa len cap, .int .i64 N]] W fun e W' => e = .returned (.int .i64 8) ∧ Below W.heap.size W W' := by
  have x0 := Go.Lib.hid (resat1 W n a b c d (.slice aa len cap) N)
  have B0 := Go.Lib.hid (below1 W (.cells #[.int .i64 n, .int .i64 a, .int .i64 b, .int .u64 c, .int .u64 d, .slice aa len cap, .int .i64 N] 29))
  have d0 : decide (n < 0) = false := decide_eq_false h0
  go_enter Try.func19, Try.ntmps19
  go_wp2
  go_ret
  exact ⟨rfl, B0.out⟩

set_option maxRecDepth 100000 in
set_option maxHeartbeats 1000000 in
theorem RsCheck_dual (W : World) (aa : Option Addr) (len cap : Nat) (n a b c d N : Int) (h0 : ¬ n < 0) (h1 : ¬ 4000 < n) (ha : (Lit.int .i64 a).wf = true) (hb : (Lit.int .i64 b).wf = true) (hc : (Lit.int .u64 c).wf = true) (hd : (Lit.int .u64 d).wf = true) (hn : ¬ DuOk a b c d) :
    Calls Try.prog 19 #[.agg #[.int .i64 n, .int .i64 a, .int .i64 b, .int .u64 c, .int .u64 d, .slice aa len cap, .int .i64 N]] W fun e W' => e = .returned (.int .i64 8) ∧ Below W.heap.size W W' := by
  have x0 := Go.Lib.hid (resat1 W n a b c d (.slice aa len cap) N)
  have B0 := Go.Lib.hid (below1 W (.cells #[.int .i64 n, .int .i64 a, .int .i64 b, .int .u64 c, .int .u64 d, .slice aa len cap, .int .i64 N] 29))
  have d0 : decide (n < 0) = false := decide_eq_false h0
  have d1 : decide (4000 < n) = false := decide_eq_false h1
  have ck := Go.Lib.hid fun w => RdCheck_any w a b c d ha hb hc hd 8 (.inr ⟨hn, rfl⟩)
  clear ha hb hc hd hn
  go_enter Try.func19, Try.ntmps19
  go_wp2_with (go_at_call 33; with_reducible refine (ck.out _).mono ?_; rintro e w1 ⟨rfl, hb⟩; have x1 := Go.Lib.hid (x0.out.below hb x0.out.lt); have B1 := Go.Lib.hid (B0.out.trans (hb.mono B0.out.size)); obtain ⟨f0, f1, f2, f3, f4, f5, f6, g0, g1, g2, g3, g4, g5, g6⟩ := x1.out.cells; clear hb)
  go_ret
  exact ⟨rfl, B1.out⟩

set_option maxRecDepth 100000 in
set_option maxHeartbeats 1000000 in
theorem RsCheck_bits (W : World) (aa : Option Addr) (len cap : Nat) (n N : Int) (D : Du) (l : List Int) (h0 : ¬ n < 0) (h1 : ¬ 4000 < n) (hd : D.ok) (hr : Row .u8 W aa len cap l) (hN : (Lit.int .i64 N).wf = true) (hv : ¬ Valid l N) :
    Calls Try.prog 19 #[.agg #[.int .i64 n, .int .i64 D.k0, .int .i64 D.k1, .int .u64 D.s0, .int .u64 D.s1, .slice aa len cap, .int .i64 N]] W fun e W' => e = .returned (.int .i64 8) ∧ Below W.heap.size W W' := by
  have x0 := Go.Lib.hid (resat1 W n (D.k0) (D.k1) (D.s0) (D.s1) (.slice aa len cap) N)
  have B0 := Go.Lib.hid (below1 W (.cells #[.int .i64 n, .int .i64 D.k0, .int .i64 D.k1, .int .u64 D.s0, .int .u64 D.s1, .slice aa len cap, .int .i64 N] 29))
  have d0 : decide (n < 0) = false := decide_eq_false h0
  have d1 : decide (4000 < n) = false := decide_eq_false h1
  have ck := Go.Lib.hid fun w => RdCheck_any w D.k0 D.k1 D.s0 D.s1 (du_wf hd).1 (du_wf hd).2.1 (du_wf hd).2.2.1 (du_wf hd).2.2.2 0 (.inl ⟨du_ok hd, rfl⟩)
  have cb := Go.Lib.hid fun w hw => RCheck_any w aa len cap N l hw hN 8 (.inr ⟨hv, rfl⟩)
  have hr' := Go.Lib.hid hr
  clear hr hN hv hd
  go_enter Try.func19, Try.ntmps19
  go_wp2_with (first
    | (go_at_call 33; with_reducible refine (ck.out _).mono ?_; rintro e w1 ⟨rfl, hb⟩; have x1 := Go.Lib.hid (x0.out.below hb x0.out.lt); have B1 := Go.Lib.hid (B0.out.trans (hb.mono B0.out.size)); obtain ⟨f0, f1, f2, f3, f4, f5, f6, g0, g1, g2, g3, g4, g5, g6⟩ := x1.out.cells; clear hb)
    | (go_at_call 34; with_reducible refine (cb.out _ (hr'.out.below B1.out (Nat.le_refl _))).mono ?_; rintro e w2 ⟨rfl, hb⟩; have x2 := Go.Lib.hid (x1.out.below hb x1.out.lt); have B2 := Go.Lib.hid (B1.out.trans (hb.mono B1.out.size)); obtain ⟨f0, f1, f2, f3, f4, f5, f6, g0, g1, g2, g3, g4, g5, g6⟩ := x2.out.cells; clear hb))
  go_ret
  exact ⟨rfl, B2.out⟩

set_option maxRecDepth 100000 in
set_option maxHeartbeats 1000000 in
theorem RsCheck_zero (W : World) (aa : Option Addr) (len cap : Nat) (r : Int) (N : Nat) (D : Du) (B : List Bool) (hd : D.ok) (hr : Row .u8 W aa len cap (pack B)) (hB : B.length ≤ 330000) (hN : N = B.length) (h : (8 ≤ N ∧ r = 8) ∨ (N < 8 ∧ r = 0)) :
    Calls Try.prog 19 #[.agg #[.int .i64 0, .int .i64 D.k0, .int .i64 D.k1, .int .u64 D.s0, .int .u64 D.s1, .slice aa len cap, .int .i64 N]] W fun e W' => e = .returned (.int .i64 r) ∧ Below W.heap.size W W' := by
  have x0 := Go.Lib.hid (resat1 W 0 (D.k0) (D.k1) (D.s0) (D.s1) (.slice aa len cap) N)
  have B0 := Go.Lib.hid (below1 W (.cells #[.int .i64 0, .int .i64 D.k0, .int .i64 D.k1, .int .u64 D.s0, .int .u64 D.s1, .slice aa len cap, .int .i64 N] 29))
  have ck := Go.Lib.hid fun w => RdCheck_any w D.k0 D.k1 D.s0 D.s1 (du_wf hd).1 (du_wf hd).2.1 (du_wf hd).2.2.1 (du_wf hd).2.2.2 0 (.inl ⟨du_ok hd, rfl⟩)
  have cb : Hid (∀ w, Row .u8 w aa len cap (pack B) → Calls Try.prog 34 #[.agg #[.slice aa len cap, .int .i64 N]] w fun e W' => e = .returned (.int .i64 0) ∧ Below w.heap.size w W') := Go.Lib.hid fun w hw => by
    rw [hN]
    exact RCheck_any w aa len cap B.length (pack B) hw (bounds_of_len (by omega)) 0 (.inl ⟨⟨B, rfl, hB, rfl⟩, rfl⟩)
  have hr' := Go.Lib.hid hr
  have key : ((8 : Int) ≤ N ∧ r = 8) ∨ (¬ (8 : Int) ≤ N ∧ r = 0) := by omega
  have hN5 : (N : Int) ≤ 330000 := by omega
  clear hr hB hN hd h
  rcases key with ⟨h, rfl⟩ | ⟨h, rfl⟩
  all_goals
    go_enter Try.func19, Try.ntmps19
    go_wp2_with (first
      | (go_at_call 33; with_reducible refine (ck.out _).mono ?_; rintro e w1 ⟨rfl, hb⟩; have x1 := Go.Lib.hid (x0.out.below hb x0.out.lt); have B1 := Go.Lib.hid (B0.out.trans (hb.mono B0.out.size)); obtain ⟨f0, f1, f2, f3, f4, f5, f6, g0, g1, g2, g3, g4, g5, g6⟩ := x1.out.cells; clear hb)
      | (go_at_call 34; with_reducible refine (cb.out _ (hr'.out.below B1.out (Nat.le_refl _))).mono ?_; rintro e w2 ⟨rfl, hb⟩; have x2 := Go.Lib.hid (x1.out.below hb x1.out.lt); have B2 := Go.Lib.hid (B1.out.trans (hb.mono B1.out.size)); obtain ⟨f0, f1, f2, f3, f4, f5, f6, g0, g1, g2, g3, g4, g5, g6⟩ := x2.out.cells; clear hb))
    go_ret
    exact ⟨rfl, B2.out⟩

set_option maxRecDepth 100000 in
set_option maxHeartbeats 1000000 in
theorem RsCheck_wait (W : World) (aa : Option Addr) (len cap : Nat) (n r : Int) (N : Nat) (D : Du) (B : List Bool) (hd : D.ok) (hr : Row .u8 W aa len cap (pack B)) (hB : B.length ≤ 330000) (hN : N = B.length) (h0 : ¬ n < 0) (h1 : ¬ 4000 < n) (hn : n ≠ 0) (v p er : Nat) (hv : readD B 0 D = (v, p, er)) (h : (er ≠ 24 ∧ r = 8) ∨ (er = 24 ∧ r = 0)) :
    Calls Try.prog 19 #[.agg #[.int .i64 n, .int .i64 D.k0, .int .i64 D.k1, .int .u64 D.s0, .int .u64 D.s1, .slice aa len cap, .int .i64 N]] W fun e W' => e = .returned (.int .i64 r) ∧ Below W.heap.size W W' := by
  have x0 := Go.Lib.hid (resat1 W n (D.k0) (D.k1) (D.s0) (D.s1) (.slice aa len cap) N)
  have B0 := Go.Lib.hid (below1 W (.cells #[.int .i64 n, .int .i64 D.k0, .int .i64 D.k1, .int .u64 D.s0, .int .u64 D.s1, .slice aa len cap, .int .i64 N] 29))
  have d0 : decide (n < 0) = false := decide_eq_false h0
  have d1 : decide (4000 < n) = false := decide_eq_false h1
  have ck := Go.Lib.hid fun w => RdCheck_any w D.k0 D.k1 D.s0 D.s1 (du_wf hd).1 (du_wf hd).2.1 (du_wf hd).2.2.1 (du_wf hd).2.2.2 0 (.inl ⟨du_ok hd, rfl⟩)
  have cb : Hid (∀ w, Row .u8 w aa len cap (pack B) → Calls Try.prog 34 #[.agg #[.slice aa len cap, .int .i64 N]] w fun e W' => e = .returned (.int .i64 0) ∧ Below w.heap.size w W') := Go.Lib.hid fun w hw => by
    rw [hN]
    exact RCheck_any w aa len cap B.length (pack B) hw (bounds_of_len (by omega)) 0 (.inl ⟨⟨B, rfl, hB, rfl⟩, rfl⟩)
  have hr' := Go.Lib.hid hr
  have gt : Hid (∀ w, Row .u8 w aa len cap (pack B) → Calls Try.prog 35 #[.agg #[.slice aa len cap, .int .i64 N], .int .i64 0, .agg #[.int .i64 D.k0, .int .i64 D.k1, .int .u64 D.s0, .int .u64 D.s1]] w fun e W' => e = .returned (.tuple #[.int .u32 v, .int .i64 p, .int .i64 er]) ∧ Below w.heap.size w W') := Go.Lib.hid fun w hw => by
    rw [hN]
    exact RdGot_any w aa len cap B 0 D hw hB hd v p er hv
  have n0 : (n == 0) = false := by rw [beq_eq_false_iff_ne]; exact hn
  have key : (¬ (er : Int) = 24 ∧ r = 8) ∨ ((er : Int) = 24 ∧ r = 0) := by omega
  clear hr hB hN hd hv h hn
  rcases key with ⟨h, rfl⟩ | ⟨h, rfl⟩
  all_goals
    go_enter Try.func19, Try.ntmps19
    go_wp2_with (first
      | (go_at_call 33; with_reducible refine (ck.out _).mono ?_; rintro e w1 ⟨rfl, hb⟩; have x1 := Go.Lib.hid (x0.out.below hb x0.out.lt); have B1 := Go.Lib.hid (B0.out.trans (hb.mono B0.out.size)); obtain ⟨f0, f1, f2, f3, f4, f5, f6, g0, g1, g2, g3, g4, g5, g6⟩ := x1.out.cells; clear hb)
      | (go_at_call 34; with_reducible refine (cb.out _ (hr'.out.below B1.out (Nat.le_refl _))).mono ?_; rintro e w2 ⟨rfl, hb⟩; have x2 := Go.Lib.hid (x1.out.below hb x1.out.lt); have B2 := Go.Lib.hid (B1.out.trans (hb.mono B1.out.size)); obtain ⟨f0, f1, f2, f3, f4, f5, f6, g0, g1, g2, g3, g4, g5, g6⟩ := x2.out.cells; clear hb)
      | (go_at_call 35; with_reducible refine (gt.out _ (hr'.out.below B2.out (Nat.le_refl _))).mono ?_; rintro e w3 ⟨rfl, hb⟩; have x3 := Go.Lib.hid (x2.out.below hb x2.out.lt); have B3 := Go.Lib.hid (B2.out.trans (hb.mono B2.out.size)); obtain ⟨f0, f1, f2, f3, f4, f5, f6, g0, g1, g2, g3, g4, g5, g6⟩ := x3.out.cells; clear hb))
    go_ret
    exact ⟨rfl, B3.out⟩

theorem RsCheck_any (W : World) (aa : Option Addr) (len cap : Nat) (n a b c d N : Int) (l : List Int) (hr : Row .u8 W aa len cap l) (hN : (Lit.int .i64 N).wf = true) (ha : (Lit.int .i64 a).wf = true) (hb : (Lit.int .i64 b).wf = true) (hc : (Lit.int .u64 c).wf = true) (hd : (Lit.int .u64 d).wf = true) (r : Int) (h : chkS n a b c d l N r) :
    Calls Try.prog 19 #[.agg #[.int .i64 n, .int .i64 a, .int .i64 b, .int .u64 c, .int .u64 d, .slice aa len cap, .int .i64 N]] W fun e W' => e = .returned (.int .i64 r) ∧ Below W.heap.size W W' := by
  rcases h with ⟨⟨m, D, B, hok, rfl, rfl, rfl, rfl, rfl, rfl, rfl⟩, rfl⟩ | ⟨hno, rfl⟩
  · by_cases h0 : m = 0
    · subst h0
      exact RsCheck_zero W aa len cap 0 B.length D B hok.d hr hok.b rfl (.inr ⟨hok.zero rfl, rfl⟩)
    · have := hok.n4
      exact RsCheck_wait W aa len cap m 0 B.length D B hok.d hr hok.b rfl (by omega) (by omega) (by omega) 0 0 24 (hok.wait h0) (.inr ⟨rfl, rfl⟩)
  · by_cases h0 : n < 0
    · exact RsCheck_neg W aa len cap n a b c d N h0
    by_cases h1 : 4000 < n
    · exact RsCheck_many W aa len cap n a b c d N h0 h1
    by_cases h2 : DuOk a b c d
    · obtain ⟨D, hD, rfl, rfl, rfl, rfl⟩ := du_of h2 hc hd
      by_cases h3 : Valid l N
      · obtain ⟨B, rfl, hB, rfl⟩ := h3
        obtain ⟨v, p, er, hv⟩ : ∃ v p er, readD B 0 D = (v, p, er) := ⟨_, _, _, rfl⟩
        by_cases h4 : n = 0
        · subst h4
          by_cases h8 : B.length < 8
          · exact absurd ⟨0, D, B, ⟨by decide, hD, hB, fun _ => h8, fun h => absurd rfl h⟩, rfl, rfl, rfl, rfl, rfl, rfl, rfl⟩ hno
          · exact RsCheck_zero W aa len cap 8 B.length D B hD hr hB rfl (.inl ⟨by omega, rfl⟩)
        · by_cases h5 : er = 24
          · subst h5
            obtain ⟨rfl, rfl, -⟩ := dual_no hv (by decide) hD.1 hD.2.1
            exact absurd ⟨n.toNat, D, B, ⟨by omega, hD, hB, fun h => by omega, fun _ => hv⟩, by omega, rfl, rfl, rfl, rfl, rfl, rfl⟩ hno
          · exact RsCheck_wait W aa len cap n 8 B.length D B hD hr hB rfl h0 h1 h4 v p er hv (.inl ⟨h5, rfl⟩)
      · exact RsCheck_bits W aa len cap n N D l h0 h1 hD hr hN h3
    · exact RsCheck_dual W aa len cap n a b c d N h0 h1 ha hb hc hd h2
end Go.Proofs.Ytcodofmghbgoeaa

/- Contracts of the reference of resume: Fed. -/
namespace Go.Proofs.Ytcodofmghbgoeaa
open Go.RowKit Cad

/-- a call that hands back a state, numbers and an error -/
def ResF (f : FuncId) (args : Array Value) (W : World) (F : Fed) : Prop :=
  Calls Try.prog f args W fun r W' => ∃ bb cc a m c, r = .returned (.tuple #[.agg #[.int .i64 F.n, .int .i64 F.d.k0, .int .i64 F.d.k1, .int .u64 F.d.s0, .int .u64 F.d.s1, .slice bb ((F.r.length + 7) / 8) cc, .int .i64 F.r.length], .slice a m c, .int .i64 F.e]) ∧
    Row .u8 W' bb ((F.r.length + 7) / 8) cc (pack F.r) ∧ Row .u32 W' a m c (F.l.map Int.ofNat) ∧ Below W.heap.size W W'
theorem pack_nil : pack [] = [] := by rfl
theorem row_fedE (w : World) (e : Nat) : Row .u8 w Option.none (((fedE e).r.length + 7) / 8) 0 (pack (fedE e).r) := by
  have h1 : (fedE e).r = [] := rfl
  rw [h1, pack_nil, show (([] : List Bool).length + 7) / 8 = 0 by decide]; exact Row.nil_row _ _
theorem ResF.none {f : FuncId} {args : Array Value} {W : World} {e : Nat} (h : Calls Try.prog f args W fun r W' => r = .returned (.tuple #[.agg #[.int .i64 0, .int .i64 0, .int .i64 0, .int .u64 0, .int .u64 0, .slice none 0 0, .int .i64 0], .slice none 0 0, .int .i64 e]) ∧ Below W.heap.size W W') : ResF f args W (fedE e) :=
  h.mono fun _ _ ⟨h1, h2⟩ => ⟨Option.none, 0, Option.none, 0, 0, by rw [h1]; simp [fedE], row_fedE _ _, Row.nil_row _ _, h2⟩

/-- all blocks but x are as they were -/
structure Bex (x : Nat) (w w' : World) : Prop where
  size : w.heap.size ≤ w'.heap.size
  same : ∀ b, b < w.heap.size → b ≠ x → w'.heap[b]? = w.heap[b]?
theorem Bex.refl (x : Nat) (w : World) : Bex x w w := ⟨Nat.le_refl _, fun _ _ _ => rfl⟩
theorem Bex.below {x B : Nat} {w w' w'' : World} (h : Bex x w w') (hb : Below B w' w'') (hB : w.heap.size ≤ B) : Bex x w w'' :=
  ⟨Nat.le_trans h.size hb.size, fun b hl hn => by rw [hb.block b (by omega), h.same b hl hn]⟩
theorem Bex.set {x : Nat} {w w' : World} (h : Bex x w w') (o : Nat) (u : Value) : Bex x w (w'.setCell ⟨x, o, none⟩ u) :=
  ⟨by simpa using h.size, fun b hl hn => by rw [Below.heap_setCell _ _ _ _ (by simpa using hn), h.same b hl hn]⟩
theorem Row.bex {k : IntKind} {x : Nat} {w w' : World} {aa : Option Addr} {len cap : Nat} {l : List Int} (hk : k = .u8 ∨ k = .u32) (h : Row k w aa len cap l) (hx : ∃ n a b c d al m e N, ResAt w x n a b c d (.slice al m e) N) (hb : Bex x w w') : Row k w' aa len cap l := by
  obtain ⟨n, a, b, c, d, al, m, e, N, hx⟩ := hx
  refine ⟨h.hlen, h.hcap, h.hmax, h.wf, fun hp => ?_, h.nil⟩
  obtain ⟨b', off, rfl, hlt, hc⟩ := h.cells hp
  have hne : b' ≠ x := by
    rintro rfl
    have h0 := hc 0 hp
    unfold World.cell? at h0
    unfold ResAt at hx
    rw [hx] at h0
    rcases hk with rfl | rfl <;>
    match off, h0 with
    | 0, h0 => simp at h0
    | 1, h0 => simp at h0
    | 2, h0 => simp at h0
    | 3, h0 => simp at h0
    | 4, h0 => simp at h0
    | 5, h0 => simp at h0
    | 6, h0 => simp at h0
    | off + 7, h0 => simp at h0
  refine ⟨b', off, rfl, Nat.lt_of_lt_of_le hlt hb.size, fun i hi => ?_⟩
  rw [← hc i hi]
  unfold World.cell?
  rw [hb.same b' hlt hne]

set_option maxRecDepth 100000 in
set_option maxHeartbeats 8000000 in
theorem RsFed_ok (W : World) (aa : Option Addr) (len cap : Nat) (R : List Bool) (n : Nat) (D : Du) (ab : Option Addr) (nb cb : Nat) (bl : List Nat) (hr : Row .u8 W aa len cap (pack R)) (hd : D.ok) (hn : n ≤ 4000) (hbr : Row .u8 W ab nb cb (bl.map Int.ofNat)) (hbl : bl.length = nb) (h256 : ∀ x ∈ bl, x < 256) (hB : (R ++ bytesB bl).length ≤ 330000) :
    ResF 32 #[.agg #[.int .i64 n, .int .i64 D.k0, .int .i64 D.k1, .int .u64 D.s0, .int .u64 D.s1, .slice aa len cap, .int .i64 R.length], .slice ab nb cb] W (fed n (R ++ bytesB bl) D) := by
  have hBl : R.length + 8 * nb ≤ 330000 := by rw [List.length_append, bytesB_len, hbl] at hB; exact hB
  have hlenR : len = (R.length + 7) / 8 := by have := hr.hlen; rw [pack_len] at this; omega
  have hsz : Hid (∀ k, k ≤ nb → (R ++ bytesB (bl.take k)).length ≤ 330000) := Go.Lib.hid fun k hk => by
    rw [List.length_append, bytesB_len, List.length_take]; omega
  have h8 : Hid (∀ k, k < nb → bl.getD k 0 < 256) := Go.Lib.hid fun k hk => h256 _ (by rw [show bl.getD k 0 = bl[k] by simp [List.getD, show k < bl.length by omega]]; exact List.getElem_mem _)
  have hml : Hid (∀ k, k < nb → (bl.map Int.ofNat).getD k 0 = ((bl.getD k 0 : Nat) : Int)) := Go.Lib.hid fun k hk => by simp [List.getD, show k < bl.length by omega]
  have hbl' := Go.Lib.hid hbl
  have hbr' := Go.Lib.hid hbr
  have hd' := Go.Lib.hid hd
  obtain ⟨N, hN⟩ : ∃ N, N = R.length := ⟨_, rfl⟩
  obtain ⟨W0, hW0, hbE, hsz0, hx0, hz0⟩ := rr_boxes W n D.k0 D.k1 D.s0 D.s1 (.slice aa len cap) N
  have tw := Go.Lib.hid (RTwin_ok W0 aa len cap N (pack R) (hr.below hbE (Nat.le_refl _)) (by omega))
  obtain ⟨F, hF⟩ : ∃ F, F = fed n (R ++ bytesB bl) D := ⟨_, rfl⟩
  rw [← hF, ← hN]
  have hF' := Go.Lib.hid hF
  have hN' := Go.Lib.hid hN
  have hlenR' := Go.Lib.hid hlenR
  have hBl' := Go.Lib.hid hBl
  have hnb : (nb : Int) ≤ 41250 := by omega
  have hx0' := Go.Lib.hid hx0
  have hz0' := Go.Lib.hid hz0
  have hbE' := Go.Lib.hid hbE
  clear hr hbr hbl h256 hB hF hN hx0 hz0 hbE hlenR hBl hd
  unfold ResF
  go_enter Try.func32, Try.ntmps32
  go_wp2_with (go_at_call 17; rw [← hW0]; clear hW0; with_reducible refine tw.out.mono ?_; rintro e w1 ⟨v1, rfl, o1, hb1⟩; obtain ⟨a1, c1, rfl⟩ := own_form o1; have x1 := Go.Lib.hid ((hx0'.out.below hb1 hx0'.out.lt).alloc (.cells #[.slice a1 len c1, .int .i64 N] 27)); have z1 := Go.Lib.hid ((hz0'.out.below hb1 hz0'.out.lt).alloc (.cells #[.slice a1 len c1, .int .i64 N] 27)); have B0 := hbE'.out.trans (hb1.mono (by omega)); have B1 := Go.Lib.hid (B0.alloc B0.size (.cells #[.slice a1 len c1, .int .i64 N] 27)); have o1' := Go.Lib.hid (own_below o1 (below1 w1 (.cells #[.slice a1 len c1, .int .i64 N] 27)) (Nat.le_refl _)); have b1 := Go.Lib.hid (box1 w1 (.slice a1 len c1) N); have s1 := hb1.size; clear o1 hb1 B0)
  obtain ⟨w2, hw2⟩ : ∃ w, w = w1.alloc (.cells #[.slice a1 len c1, .int .i64 N] 27) := ⟨_, rfl⟩
  have s2 : w1.heap.size < w2.heap.size := by rw [hw2]; simp
  rw [← hw2] at x1 z1 B1 o1' b1
  try rw [← hw2]
  obtain ⟨x7, hx7⟩ : ∃ x, x = w1.heap.size := ⟨_, rfl⟩
  rw [← hx7] at b1 s1 s2
  try rw [← hx7]
  rw [hsz0] at o1' s1
  clear hw2 hx7 hx0' hz0' hbE' tw hsz0
  go_wp2
  go_loopg [8] nb (fun g i wr => ∃ (k : Nat) (v : Value), k ≤ nb ∧ g = nb - k ∧ i = .int .i64 k ∧ wr.ownsRow (W.heap.size + 1 + 1) 5 1 v (((R ++ bytesB (bl.take k)).length + 7) / 8) (nums .u8 (pack (R ++ bytesB (bl.take k)))) ∧ BoxAt wr x7 v (R ++ bytesB (bl.take k)).length ∧ ResAt wr W.heap.size n D.k0 D.k1 D.s0 D.s1 (.slice aa len cap) N ∧ ResAt wr (W.heap.size + 1) 0 0 0 0 0 (.slice none 0 0) 0 ∧ Below W.heap.size W wr ∧ x7 < wr.heap.size)
  case atStart =>
    have e : R ++ bytesB (bl.take 0) = R := by simp [bytesB]
    refine ⟨0, .slice a1 len c1, Nat.zero_le _, rfl, rfl, ?_, ?_, x1.out, z1.out, B1.out, s2⟩
    · rw [e, ← hlenR'.out]; exact o1'.out
    · rw [e, ← hN'.out]; exact b1.out
  case round =>
  obtain ⟨k, v, hk, hg, rfl, ho, hb, hx, hz, hB, hs⟩ := hrel
  obtain ⟨av, cv, rfl⟩ := own_form ho
  have hgo := Go.Lib.hid hg
  clear x1 z1 B1 o1' b1 hg
  by_cases hlt : k < nb
  · have hlt' : (k : Int) < nb := by omega
    have hts := bytesB_take_succ bl (show k < bl.length by rw [hbl'.out]; exact hlt)
    have hv8 := h8.out k hlt
    have hmk := hml.out k hlt
    have hsk := hsz.out k hk
    obtain ⟨num, hnum⟩ : ∃ v, v = bl.getD k 0 := ⟨_, rfl⟩
    rw [← hnum] at hts hv8 hmk
    obtain ⟨X, hX⟩ : ∃ X, X = R ++ bytesB (bl.take k) := ⟨_, rfl⟩
    rw [← hX] at ho hb hsk
    obtain ⟨X', hX'⟩ : ∃ X', X' = X ++ numB num 8 := ⟨_, rfl⟩
    have hXX : R ++ bytesB (bl.take (k + 1)) = X' := by rw [hts, ← List.append_assoc, ← hX, hX']
    obtain ⟨L, hL⟩ : ∃ L, L = (X.length + 7) / 8 := ⟨_, rfl⟩
    obtain ⟨L', hL'⟩ : ∃ L, L = (X'.length + 7) / 8 := ⟨_, rfl⟩
    obtain ⟨M, hM⟩ : ∃ N, N = X.length := ⟨_, rfl⟩
    obtain ⟨M', hM'⟩ : ∃ N, N = X'.length := ⟨_, rfl⟩
    rw [← hL] at ho hb
    rw [← hM] at hb
    have hnu : Hid (∀ w, w.ownsRow (W.heap.size + 1 + 1) 5 1 (.slice av L cv) L (nums .u8 (pack X)) → W.heap.size + 1 + 1 ≤ w.heap.size → Calls Try.prog 47 #[.agg #[.slice av L cv, .int .i64 M], .int .u64 num, .int .i64 8] w fun e W' => ∃ v', e = .returned (.agg #[v', .int .i64 (M' : Nat)]) ∧ W'.ownsRow (W.heap.size + 1 + 1) 5 1 v' L' (nums .u8 (pack X')) ∧ Kept (W.heap.size + 1 + 1) w W') := Go.Lib.hid fun w h hb => by
      have := RNumber_ok w (W.heap.size + 1 + 1) (.slice av L cv) X num 8 (by rw [← hL]; exact h) hb (by omega) (by decide) (by omega)
      have e : X.length + 8 = X'.length := by rw [hX', List.length_append, numB_len]
      rw [← hX', ← hL', e, ← hM', ← hM] at this
      exact this
    have hXX' := Go.Lib.hid hXX
    have hL2 := Go.Lib.hid hL'
    have hM2 := Go.Lib.hid hM'
    obtain ⟨bl_, ol, rfl, hblt, hc⟩ := (hbr'.out.below hB (Nat.le_refl _)).cells (by omega)
    have hcell := hc k hlt
    rw [hmk] at hcell
    have hv8I : (num : Int) ≤ 255 := by omega
    have hbs : W.heap.size + 1 + 1 ≤ wr.heap.size := by omega
    clear hts hmk hX hX' hXX hL hL' hM hM' hnum hc
    go_wp2
    refine wp_region_ord (fun _ => True) [(1, 0), (2, 0), (3, 0), (0, 1), (4, 1), (5, 0), (6, 3), (7, 4)] (by kernel_rfl) (by kernel_rfl) ?hC0 ?_
    case hC0 => trivial
    simp only [pick, nth]
    refine wpW_name ?_
    intro q0 hq0
    have o0 : q0.ownsRow (W.heap.size + 1 + 1) 5 1 (.slice av L cv) L (nums .u8 (pack X)) := by rw [hq0]; exact own_drew ho
    have b0 : BoxAt q0 x7 (.slice av L cv) M := by rw [hq0]; exact hb.drew
    have x0 : ResAt q0 W.heap.size n D.k0 D.k1 D.s0 D.s1 (.slice aa len cap) N := by rw [hq0]; exact hx.drew
    have z0 : ResAt q0 (W.heap.size + 1) 0 0 0 0 0 (.slice none 0 0) 0 := by rw [hq0]; exact hz.drew
    have B0 : Below W.heap.size W q0 := by rw [hq0]; exact hB.drew
    have s0 : x7 < q0.heap.size := by rw [hq0]; exact hs
    have c0 : q0.cell? ⟨bl_, ol + k, none⟩ = some (.int .u8 num) := by rw [hq0]; exact hcell
    clear hq0 ho hb hx hz hB hs hcell hbs
    obtain ⟨f0, f1, f2, f3⟩ := b0.cells
    (repeat (first | (apply wpW_light; (case h => (intro wa; (first | (go_big_quiet_skip; exact wpQuiet_nil rfl) | (go_big_quiet_want; go_big_quiet_op; go_big_quiet_on; exact wpQuiet_nil rfl))))) | (apply wpW_here; (case h => (first | (go_big_quiet_skip; exact wpQuiet_nil rfl) | (go_big_quiet_want; go_big_quiet_op; go_big_quiet_on; exact wpQuiet_nil rfl)))) | (apply wpW_held; (case hC => assumption); (case h => (intro wa hCa; simp only [] at hCa; (first | (go_big_quiet_skip; exact wpQuiet_nil rfl) | (go_big_quiet_want; go_big_quiet_op; go_big_quiet_on; exact wpQuiet_nil rfl)))))))
    clear f0 f1 f2 f3
    refine wpW_act (fun QQ hQQ => ?_) (by rfl)
    go_wp2_with (go_at_call 47; with_reducible refine (hnu.out _ o0 (by omega)).mono ?_; rintro e q1 ⟨v1, rfl, o1, hk1⟩; obtain ⟨a1, c1, rfl⟩ := own_form o1)
    (refine hQQ _ _ ?hCn ?_; (case hCn => trivial); clear hQQ QQ)
    have b1 := b0.kept hk1
    have x1 := x0.kept hk1
    have z1 := z0.kept hk1
    have B1 := B0.trans (hk1.bel.mono (by omega))
    have s1 : x7 < q1.heap.size := Nat.lt_of_lt_of_le s0 hk1.bel.size
    clear b0 x0 z0 B0 c0 o0 hk1
    obtain ⟨f0, f1, f2, f3⟩ := b1.cells
    refine wpW_last (fun QQ hQQ => ?_) (by rfl)
    go_wp2
    (refine hQQ.out _ _ ?_; clear hQQ QQ)
    refine wpW_name ?_
    intro q2 hq2
    have ap := b1.apart o1
    have o2 : q2.ownsRow (W.heap.size + 1 + 1) 5 1 (.slice a1 L' c1) L' (nums .u8 (pack X')) := by rw [hq2]; exact own_set (own_set o1 ap _ _) ap _ _
    have b2 : BoxAt q2 x7 (.slice a1 L' c1) M' := by rw [hq2]; exact b1.set _ _
    have x2 : ResAt q2 W.heap.size n D.k0 D.k1 D.s0 D.s1 (.slice aa len cap) N := by rw [hq2]; exact (x1.other (by simp; omega) _).other (by simp; omega) _
    have z2 : ResAt q2 (W.heap.size + 1) 0 0 0 0 0 (.slice none 0 0) 0 := by rw [hq2]; exact (z1.other (by simp; omega) _).other (by simp; omega) _
    have B2 : Below W.heap.size W q2 := by rw [hq2]; exact (B1.setCell (by simp; omega) _).setCell (by simp; omega) _
    have s2' : x7 < q2.heap.size := by rw [hq2]; simpa using s1
    clear hq2 b1 x1 z1 B1 o1 ap f0 f1 f2 f3
    refine wpW_nil ?_
    go_wp2
    go_roundg (nb - (k + 1))
    case measure => (have hgk := hgo.out; omega)
    case rel =>
      refine ⟨k + 1, .slice a1 L' c1, by omega, rfl, by go_num, ?_, ?_, x2, z2, B2, s2'⟩
      · rw [hXX'.out, ← hL2.out]; exact o2
      · rw [hXX'.out, ← hM2.out]; exact b2
  · obtain rfl : k = nb := by omega
    have hmt : bl.take k = bl := List.take_of_length_le (by rw [hbl'.out]; exact Nat.le_refl _)
    have hsk := hsz.out k hk
    rw [hmt] at ho hb hsk
    obtain ⟨B, hBe⟩ : ∃ B, B = R ++ bytesB bl := ⟨_, rfl⟩
    rw [← hBe] at ho hb hsk hF'
    obtain ⟨M, hM⟩ : ∃ N, N = B.length := ⟨_, rfl⟩
    obtain ⟨L, hL⟩ : ∃ L, L = (B.length + 7) / 8 := ⟨_, rfl⟩
    rw [← hL] at ho hb
    rw [← hM] at hb
    have rB := Go.Lib.hid (Row.of_own ho (u8_wf (pack_wf _)))
    have hM' := Go.Lib.hid hM
    have hL' := Go.Lib.hid hL
    have hB330 := Go.Lib.hid hsk
    have hM3 : (M : Int) ≤ 330000 := by omega
    have hlt' : ¬ (k : Int) < k := by omega
    have hb' := Go.Lib.hid hb
    have hx' := Go.Lib.hid hx
    have hz' := Go.Lib.hid hz
    have hBW := Go.Lib.hid hB
    obtain ⟨w3, hw3⟩ : ∃ w, w = wr := ⟨_, rfl⟩
    subst hw3
    have gt : Hid (∀ w, Row .u8 w av L cv (pack B) → ∀ (p : Nat) (E : Du), E.ok → ∀ v q er, readD B p E = (v, q, er) → Calls Try.prog 35 #[.agg #[.slice av L cv, .int .i64 M], .int .i64 p, .agg #[.int .i64 E.k0, .int .i64 E.k1, .int .u64 E.s0, .int .u64 E.s1]] w fun e W' => e = .returned (.tuple #[.int .u32 v, .int .i64 q, .int .i64 er]) ∧ Below w.heap.size w W') := Go.Lib.hid fun w h p E hE v q er hv => by
      rw [hM]; exact RdGot_any w av L cv B p E h hsk hE v q er hv
    have lrn := Go.Lib.hid fun w (E : Du) (v : Nat) (hE : E.ok) (hv : v < 4294967296) => RLearnt_ok w E v hE hv
    have btw : Hid (∀ w, Row .u8 w av L cv (pack B) → ∀ p, p ≤ B.length → Calls Try.prog 49 #[.agg #[.slice av L cv, .int .i64 M], .int .i64 p, .int .i64 M] w fun e W' => ∃ b c, e = .returned (.agg #[.slice b (((B.drop p).length + 7) / 8) c, .int .i64 (B.drop p).length]) ∧ Row .u8 W' b (((B.drop p).length + 7) / 8) c (pack (B.drop p)) ∧ Below w.heap.size w W') := Go.Lib.hid fun w h p hp => by
      have := RBetween_ok w av L cv B h hsk p B.length hp (Nat.le_refl _)
      have e : midB B p B.length = B.drop p := by unfold midB; rw [List.take_of_length_le (by rw [List.length_drop]; omega)]
      rw [e, ← hM] at this
      refine this.mono ?_
      rintro r W' ⟨v', rfl, h1, h2⟩
      obtain ⟨b, c, rfl⟩ := own_form h1
      exact ⟨b, c, by rw [List.length_drop, ← hM], Row.of_own h1 (u8_wf (pack_wf _)), h2⟩
    have hxB := Go.Lib.hid (show ∃ n a b c d al m e N, ResAt w3 W.heap.size n a b c d (.slice al m e) N from ⟨_, _, _, _, _, _, _, _, _, hx⟩)
    clear ho hb hx hz hB hM hL hsk hgo hml h8 hsz hbr' hbl' hmt hBe
    have hs3 := hs
    go_wp2
    go_loopg [9, 10] n (fun g out at_ wr => ∃ (j : Nat) (l : List Nat) (p : Nat) (E : Du) (v : Value), j ≤ n ∧ g = j ∧ out = v ∧ at_ = .int .i64 p ∧ p ≤ B.length ∧ E.ok ∧ fed n B D = glueF l (fed j (B.drop p) E) ∧ l.length + j = n ∧ (∀ x ∈ l, x < 4294967296) ∧
      wr.ownsRow w3.heap.size 40 1 v l.length (nums .u32 (l.map Int.ofNat)) ∧ BoxAt wr x7 (.slice av L cv) M ∧ ResAt wr W.heap.size j E.k0 E.k1 E.s0 E.s1 (.slice aa len cap) N ∧ ResAt wr (W.heap.size + 1) 0 0 0 0 0 (.slice none 0 0) 0 ∧ Below W.heap.size W wr ∧ Bex W.heap.size w3 wr)
    case atStart =>
      refine ⟨n, [], 0, D, .slice none 0 0, Nat.le_refl _, rfl, rfl, rfl, Nat.zero_le _, hd'.out, ?_, by simp, fun x hx => (by cases hx), World.ownsRow_nil _ _ _ _, hb'.out, hx'.out, hz'.out, hBW.out, Bex.refl _ _⟩
      rw [List.drop_zero]
      by_cases hc : (fed n B D).e = 0
      · rw [glueF_nil hc]
      · rcases fed_no _ _ _ hd'.out hc with h | h <;> rw [h, glueF_E _ (by decide)]
    case round =>
    obtain ⟨j, l, p, E, v, hj, hg, rfl, rfl, hp, hE, hgl, hlj, hl32, ho, hb, hx, hz, hB, h3⟩ := hrel
    obtain ⟨a9, c9, rfl⟩ := own_form ho
    obtain ⟨w4, hw4⟩ : ∃ w, w = wr := ⟨_, rfl⟩
    subst hw4
    have hgo := Go.Lib.hid hg
    have hgl' := Go.Lib.hid hgl
    have hE' := Go.Lib.hid hE
    have hp' := Go.Lib.hid hp
    have hl' := Go.Lib.hid hl32
    have ho' := Go.Lib.hid ho
    have hb4 := Go.Lib.hid hb
    have hx4 := Go.Lib.hid hx
    have hz4 := Go.Lib.hid hz
    have hB4 := Go.Lib.hid hB
    have h34 := Go.Lib.hid h3
    have r4 := Go.Lib.hid (Row.bex (.inl rfl) rB.out hxB.out h3)
    obtain ⟨s0, s1, s2, s3, s4, s5, s6, s7, s8, s9, s10, s11, s12, s13⟩ := hx.cells
    obtain ⟨f0, f1, f2, f3⟩ := hb.cells
    clear hg hgl hE hp hl32 ho hb hx hz hB h3 hb' hx' hz' hBW
    have hj4 : (j : Int) ≤ 4000 := by omega
    have hlw : l.length < 17592186044416 := by omega
    have hwz : w3.heap.size ≤ w4.heap.size := h34.out.size
    have hx7w : x7 < w3.heap.size := hs3
    by_cases hj0 : 0 < j
    · have hj1 : (0 : Int) < j := by omega
      obtain ⟨vv, q, er, hv⟩ : ∃ v q er, readD B p E = (v, q, er) := ⟨_, _, _, rfl⟩
      obtain ⟨v2, q2, er2, hv2⟩ : ∃ v q er, readD (B.drop p) 0 E = (v, q, er) := ⟨_, _, _, rfl⟩
      have hsh := readD_drop B hp'.out E
      rw [hv, hv2] at hsh
      have gt' := Go.Lib.hid (gt.out w4 r4.out p E hE'.out vv q er hv)
      by_cases h24 : er = 24
      · subst h24
        have hfin : Hid (F = ⟨l, B.drop p, j, E, 0⟩) := Go.Lib.hid (by
          have e2 : er2 = 24 := by
            by_cases e0 : er2 = 0
            · subst e0; rw [sh_ok] at hsh; cases hsh
            · rw [sh_er _ _ _ e0] at hsh; cases hsh; rfl
          subst e2
          obtain ⟨i, rfl⟩ : ∃ i, j = i + 1 := ⟨j - 1, by omega⟩
          rw [hF'.out, hgl'.out, fed_wait hv2, glueF_ok, List.append_nil])
        have bt := Go.Lib.hid fun w h => btw.out w h p hp'.out
        obtain ⟨RL, hRL⟩ : ∃ x, x = ((B.drop p).length + 7) / 8 := ⟨_, rfl⟩
        obtain ⟨RN, hRN⟩ : ∃ x, x = (B.drop p).length := ⟨_, rfl⟩
        rw [← hRL, ← hRN] at bt
        have hRL' := Go.Lib.hid hRL
        have hRN' := Go.Lib.hid hRN
        have hj2 : ((j : Int) == 0) = false := by rw [beq_eq_false_iff_ne]; omega
        clear hv hv2 hsh hRL hRN
        have b4 := hb4
        have x4 := hx4
        have z4 := hz4
        have B4 := hB4
        have o4 := ho'
        go_wp2_with (first
          | (go_at_call 35; with_reducible refine gt'.out.mono ?_; rintro e q1 ⟨rfl, hs⟩; have r1 := Go.Lib.hid (r4.out.below hs (Nat.le_refl _)); have b1 := Go.Lib.hid (b4.out.below hs b4.out.lt); have x1 := Go.Lib.hid (x4.out.below hs x4.out.lt); have z1 := Go.Lib.hid (z4.out.below hs z4.out.lt); have B1 := Go.Lib.hid (B4.out.trans (hs.mono B4.out.size)); have o1 := Go.Lib.hid (own_below o4.out hs (Nat.le_refl _)); obtain ⟨y0, y1, y2, y3, y4, y5, y6, y7, y8, y9, y10, y11, y12, y13⟩ := x1.out.cells; obtain ⟨i0, i1, i2, i3⟩ := b1.out.cells; clear hs)
          | (go_at_call 49; with_reducible refine (bt.out _ r1.out).mono ?_; rintro e q2 ⟨bb, cc, rfl, rr, hs⟩; have r2 := Go.Lib.hid (r1.out.below hs (Nat.le_refl _)); have b2 := Go.Lib.hid (b1.out.below hs b1.out.lt); have x2 := Go.Lib.hid (x1.out.below hs x1.out.lt); have z2 := Go.Lib.hid (z1.out.below hs z1.out.lt); have B2 := Go.Lib.hid (B1.out.trans (hs.mono B1.out.size)); have o2 := Go.Lib.hid (own_below o1.out hs (Nat.le_refl _)); have rr2 := Go.Lib.hid rr; obtain ⟨m0, m1, m2, m3, m4, m5, m6, m7, m8, m9, m10, m11, m12, m13⟩ := x2.out.cells; obtain ⟨u0, u1, u2, u3, u4, u5, u6, u7, u8, u9, u10, u11, u12, u13⟩ := z2.out.cells; clear hs rr))
        (try simp only [Exit.inBlock, Exit.then])
        refine bodyPost_ret (results_res_two (by rfl) _ _ (W.heap.size + 1) _ _ _ _ _ _ _ rfl (((z2.out.other (p := ⟨W.heap.size, 5, none⟩) (by simp) (.slice bb RL cc)).other (p := ⟨W.heap.size, 6, none⟩) (by simp) (.int .i64 RN)).set j E.k0 E.k1 E.s0 E.s1 (.slice bb RL cc) RN)) rfl ?_
        have hx2 : ∃ n a b c d al m e N, ResAt q2 W.heap.size n a b c d (.slice al m e) N := ⟨_, _, _, _, _, _, _, _, _, x2.out⟩
        have hx3 : ∃ n a b c d al m e N, ResAt (q2.setCell ⟨W.heap.size, 5, none⟩ (.slice bb RL cc)) W.heap.size n a b c d (.slice al m e) N := ⟨_, _, _, _, _, _, _, _, _, x2.out.set5 _⟩
        have zz := ((z2.out.other (p := ⟨W.heap.size, 5, none⟩) (by simp) (.slice bb RL cc)).other (p := ⟨W.heap.size, 6, none⟩) (by simp) (.int .i64 RN))
        have hz1 : ∀ {k : IntKind} {aa : Option Addr} {len cap : Nat} {z : List Int}, (k = .u8 ∨ k = .u32) → Row k q2 aa len cap z → Row k (((((((((q2.setCell ⟨W.heap.size, 5, none⟩ (.slice bb RL cc)).setCell ⟨W.heap.size, 6, none⟩ (.int .i64 RN)).setCell ⟨W.heap.size + 1, 0, none⟩ (.int .i64 j)).setCell ⟨W.heap.size + 1, 1, none⟩ (.int .i64 E.k0)).setCell ⟨W.heap.size + 1, 2, none⟩ (.int .i64 E.k1)).setCell ⟨W.heap.size + 1, 3, none⟩ (.int .u64 E.s0)).setCell ⟨W.heap.size + 1, 4, none⟩ (.int .u64 E.s1)).setCell ⟨W.heap.size + 1, 5, none⟩ (.slice bb RL cc)).setCell ⟨W.heap.size + 1, 6, none⟩ (.int .i64 RN)) aa len cap z := fun hk h => rows7 hk (Row.boxR hk (Row.boxR hk h hx2 5 _) hx3 6 _) zz
        rw [hfin.out]
        have e1 := hRL'.out
        have e2 := hRN'.out
        subst e1 e2
        exact ⟨bb, cc, a9, l.length, c9, by simp, hz1 (.inl rfl) rr2.out, hz1 (.inr rfl) (Row.of_own o2.out (natsU _ hl'.out)), below7 ((B2.out.setCell (Nat.le_refl _) _).setCell (Nat.le_refl _) _) (by omega)⟩
      by_cases he : er = 0
      · subst he
        obtain ⟨hv32, -, hqB, -⟩ := dual_is hv hp'.out hE'.out.1 hE'.out.2.1
        obtain ⟨i, rfl⟩ : ∃ i, j = i + 1 := ⟨j - 1, by omega⟩
        obtain ⟨E2, hEE⟩ : ∃ E', E' = learnD E vv := ⟨_, rfl⟩
        have hE2 := Go.Lib.hid (show E2.ok by rw [hEE]; exact learnD_ok hE'.out hv32)
        have lrn' : Hid (∀ w, Calls Try.prog 48 #[.agg #[.int .i64 E.k0, .int .i64 E.k1, .int .u64 E.s0, .int .u64 E.s1], .int .u32 vv] w fun e W' => e = .returned (.agg #[.int .i64 E2.k0, .int .i64 E2.k1, .int .u64 E2.s0, .int .u64 E2.s1]) ∧ Below w.heap.size w W') := Go.Lib.hid fun w => by rw [hEE]; exact lrn.out w E vv hE'.out hv32
        have hst := Go.Lib.hid (show fed n B D = glueF (l ++ [vv]) (fed i (B.drop q) E2) by
          have e2 : er2 = 0 ∧ v2 = vv ∧ q = p + q2 := by
            by_cases e0 : er2 = 0
            · subst e0; rw [sh_ok] at hsh; cases hsh; exact ⟨rfl, rfl, rfl⟩
            · rw [sh_er _ _ _ e0] at hsh; cases hsh; exact absurd rfl e0
          obtain ⟨rfl, rfl, rfl⟩ := e2
          rw [hgl'.out, fed_next hv2, glueF_glue, ← hEE, List.drop_drop])
        have hsub : ((i + 1 : Nat) : Int) - 1 = (i : Int) := by omega
        clear hEE hv hv2 hsh
        go_wp2_with (first
          | (go_at_call 35; with_reducible refine gt'.out.mono ?_; rintro e q1 ⟨rfl, hs⟩; have o1 := own_below ho'.out hs (Nat.le_refl _); have b1 := Go.Lib.hid (hb4.out.below hs hb4.out.lt); have x1 := Go.Lib.hid (hx4.out.below hs hx4.out.lt); have z1 := Go.Lib.hid (hz4.out.below hs hz4.out.lt); have B1 := Go.Lib.hid (hB4.out.trans (hs.mono hB4.out.size)); have t1 := Go.Lib.hid (h34.out.below hs h34.out.size); have k1 : w3.heap.size ≤ q1.heap.size := t1.out.size; clear hs)
          | (at_builtin; refine law_append1 elU32 _ rfl _ _ rfl w3.heap.size _ l.length (l.map Int.ofNat) rfl o1 vv rfl (by omega) (by omega) ?_))
        intro v5 q5 o5 hb5
        obtain ⟨a5, c5, rfl⟩ := own_form o5
        have b5 := Go.Lib.hid (b1.out.below hb5 (by omega))
        have x5 := Go.Lib.hid (x1.out.below hb5 (by omega))
        have z5 := Go.Lib.hid (z1.out.below hb5 (by omega))
        have t5 := Go.Lib.hid (t1.out.below hb5 (Nat.le_refl _))
        have B5 := Go.Lib.hid (B1.out.trans (hb5.mono (by omega)))
        have e5 : (l.map Int.ofNat) ++ [(vv : Int)] = (l ++ [vv]).map Int.ofNat := by simp
        rw [e5] at o5
        have o5' := Go.Lib.hid o5
        obtain ⟨m0, m1, m2, m3, m4, m5, m6, m7, m8, m9, m10, m11, m12, m13⟩ := x5.out.cells
        clear e5 hb5 b1 x1 z1 t1 B1 o1 o5 k1 s0 s1 s2 s3 s4 s5 s6 s7 s8 s9 s10 s11 s12 s13 f0 f1 f2 f3
        go_wp2_with (go_at_call 48; with_reducible refine (lrn'.out _).mono ?_; rintro e q6 ⟨rfl, hs⟩; have o6 := Go.Lib.hid (own_below o5'.out hs (Nat.le_refl _)); have b6 := Go.Lib.hid (b5.out.below hs b5.out.lt); have x6 := Go.Lib.hid (x5.out.below hs x5.out.lt); have z6 := Go.Lib.hid (z5.out.below hs z5.out.lt); have B6 := Go.Lib.hid (B5.out.trans (hs.mono B5.out.size)); have t6 := Go.Lib.hid (t5.out.below hs t5.out.size); obtain ⟨y0, y1, y2, y3, y4, y5, y6, y7, y8, y9, y10, y11, y12, y13⟩ := x6.out.cells; clear hs)
        go_roundg i
        case measure => (have hgk := hgo.out; omega)
        case rel =>
          have ap : ∀ g, (Value.slice a5 (l.length + 1) c5).ownBlock = some g → g ≠ W.heap.size := fun g e => by have := (o6.out.lt g e).1; omega
          have xf := (x6.out.setD E2.k0 E2.k1 E2.s0 E2.s1).set0 i
          refine ⟨i, l ++ [vv], q, E2, _, by omega, rfl, rfl, rfl, hqB, hE2.out, hst.out, by simp; omega, fun x hx => ?_, ?_, ?_, xf, ?_, ?_, ?_⟩
          · rcases List.mem_append.1 hx with hx | hx
            · exact hl'.out x hx
            · rw [List.mem_singleton] at hx; rw [hx]; exact hv32
          · rw [show (l ++ [vv]).length = l.length + 1 by simp]
            exact own_setG (own_setG (own_setG (own_setG (own_setG o6.out ap _ _) ap _ _) ap _ _) ap _ _) ap _ _
          · exact ((((b6.out.other (by simp; omega) _).other (by simp; omega) _).other (by simp; omega) _).other (by simp; omega) _).other (by simp; omega) _
          · exact ((((z6.out.other (by simp) _).other (by simp) _).other (by simp) _).other (by simp) _).other (by simp) _
          · exact ((((B6.out.setCell (Nat.le_refl _) _).setCell (Nat.le_refl _) _).setCell (Nat.le_refl _) _).setCell (Nat.le_refl _) _).setCell (Nat.le_refl _) _
          · exact ((((t6.out.set _ _).set _ _).set _ _).set _ _).set _ _
      · have hfin : Hid (F = fedE er) := Go.Lib.hid (by
          have e2 : er2 = er := by
            by_cases e0 : er2 = 0
            · subst e0; rw [sh_ok] at hsh; cases hsh; exact absurd rfl he
            · rw [sh_er _ _ _ e0] at hsh; cases hsh; rfl
          subst e2
          obtain ⟨i, rfl⟩ : ∃ i, j = i + 1 := ⟨j - 1, by omega⟩
          rw [hF'.out, hgl'.out, fed_er hv2 h24 he, glueF_E _ he])
        have e24 : ¬ (er : Int) = 24 := by omega
        have e0 : ¬ (er : Int) = 0 := by omega
        go_wp2_with (go_at_call 35; with_reducible refine gt'.out.mono ?_; rintro e q1 ⟨rfl, hs⟩; have z1 := Go.Lib.hid (hz4.out.below hs hz4.out.lt); have B1 := Go.Lib.hid (hB4.out.trans (hs.mono hB4.out.size)); obtain ⟨y0, y1, y2, y3, y4, y5, y6, y7, y8, y9, y10, y11, y12, y13⟩ := z1.out.cells; clear hs)
        (try simp only [Exit.inBlock, Exit.then])
        refine bodyPost_ret (results_res_two (by rfl) _ _ (W.heap.size + 1) _ _ _ _ _ _ _ rfl (z1.out.set 0 0 0 0 0 (.slice none 0 0) 0)) rfl ?_
        rw [hfin.out]
        exact ⟨none, 0, none, 0, 0, by simp [fedE], row_fedE _ _, Row.nil_row _ _, below7 B1.out (by omega)⟩
    · obtain rfl : j = 0 := by omega
      have x4' := Go.Lib.hid (show ResAt w4 W.heap.size 0 E.k0 E.k1 E.s0 E.s1 (.slice aa len cap) N by simpa using hx4.out)
      have hfe : fed n B D = glueF l (fed 0 (B.drop p) E) := hgl'.out
      have bt := Go.Lib.hid fun w h => btw.out w h p hp'.out
      have q0 : ((0 : Nat) : Int) = 0 := rfl
      obtain ⟨RL, hRL⟩ : ∃ x, x = ((B.drop p).length + 7) / 8 := ⟨_, rfl⟩
      obtain ⟨RN, hRN⟩ : ∃ x, x = (B.drop p).length := ⟨_, rfl⟩
      rw [← hRL, ← hRN] at bt
      have hRL' := Go.Lib.hid hRL
      have hRN' := Go.Lib.hid hRN
      clear hx4
      have hx4 := x4'
      clear x4' s0 s1 s2 s3 s4 s5 s6 s7 s8 s9 s10 s11 s12 s13
      obtain ⟨s0, s1, s2, s3, s4, s5, s6, s7, s8, s9, s10, s11, s12, s13⟩ := hx4.out.cells
      by_cases h8 : 8 ≤ (B.drop p).length
      · have hfin : Hid (F = fedE 38) := Go.Lib.hid (by rw [hF'.out, hfe, fed_more E h8, glueF_E _ (by decide)])
        have h8' : (8 : Int) ≤ RN := by omega
        clear hRL hRN hfe
        have b4 := hb4
        have x4 := hx4
        have z4 := hz4
        have B4 := hB4
        have o4 := ho'
        go_wp2_with (first
          | (go_at_call 49; with_reducible refine (bt.out _ r4.out).mono ?_; rintro e q2 ⟨bb, cc, rfl, rr, hs⟩; have r2 := Go.Lib.hid (r4.out.below hs (Nat.le_refl _)); have b2 := Go.Lib.hid (b4.out.below hs b4.out.lt); have x2 := Go.Lib.hid (x4.out.below hs x4.out.lt); have z2 := Go.Lib.hid (z4.out.below hs z4.out.lt); have B2 := Go.Lib.hid (B4.out.trans (hs.mono B4.out.size)); have o2 := Go.Lib.hid (own_below o4.out hs (Nat.le_refl _)); have rr2 := Go.Lib.hid rr; obtain ⟨m0, m1, m2, m3, m4, m5, m6, m7, m8, m9, m10, m11, m12, m13⟩ := x2.out.cells; obtain ⟨u0, u1, u2, u3, u4, u5, u6, u7, u8, u9, u10, u11, u12, u13⟩ := z2.out.cells; clear hs rr))
        (try simp only [Exit.inBlock, Exit.then])
        refine bodyPost_ret (results_res_two (by rfl) _ _ (W.heap.size + 1) _ _ _ _ _ _ _ rfl (((z2.out.other (p := ⟨W.heap.size, 5, none⟩) (by simp) (.slice bb RL cc)).other (p := ⟨W.heap.size, 6, none⟩) (by simp) (.int .i64 RN)).set 0 0 0 0 0 (.slice none 0 0) 0)) rfl ?_
        rw [hfin.out]
        exact ⟨none, 0, none, 0, 0, by simp [fedE], row_fedE _ _, Row.nil_row _ _, below7 ((B2.out.setCell (Nat.le_refl _) _).setCell (Nat.le_refl _) _) (by omega)⟩
      · have hfin : Hid (F = ⟨l, B.drop p, 0, E, 0⟩) := Go.Lib.hid (by rw [hF'.out, hfe, fed_none E (by omega), glueF_ok, List.append_nil])
        have h8' : ¬ (8 : Int) ≤ RN := by omega
        clear hRL hRN hfe
        have b4 := hb4
        have x4 := hx4
        have z4 := hz4
        have B4 := hB4
        have o4 := ho'
        go_wp2_with (first
          | (go_at_call 49; with_reducible refine (bt.out _ r4.out).mono ?_; rintro e q2 ⟨bb, cc, rfl, rr, hs⟩; have r2 := Go.Lib.hid (r4.out.below hs (Nat.le_refl _)); have b2 := Go.Lib.hid (b4.out.below hs b4.out.lt); have x2 := Go.Lib.hid (x4.out.below hs x4.out.lt); have z2 := Go.Lib.hid (z4.out.below hs z4.out.lt); have B2 := Go.Lib.hid (B4.out.trans (hs.mono B4.out.size)); have o2 := Go.Lib.hid (own_below o4.out hs (Nat.le_refl _)); have rr2 := Go.Lib.hid rr; obtain ⟨m0, m1, m2, m3, m4, m5, m6, m7, m8, m9, m10, m11, m12, m13⟩ := x2.out.cells; obtain ⟨u0, u1, u2, u3, u4, u5, u6, u7, u8, u9, u10, u11, u12, u13⟩ := z2.out.cells; clear hs rr))
        (try simp only [Exit.inBlock, Exit.then])
        refine bodyPost_ret (results_res_two (by rfl) _ _ (W.heap.size + 1) _ _ _ _ _ _ _ rfl (((z2.out.other (p := ⟨W.heap.size, 5, none⟩) (by simp) (.slice bb RL cc)).other (p := ⟨W.heap.size, 6, none⟩) (by simp) (.int .i64 RN)).set 0 E.k0 E.k1 E.s0 E.s1 (.slice bb RL cc) RN)) rfl ?_
        have hx2 : ∃ n a b c d al m e N, ResAt q2 W.heap.size n a b c d (.slice al m e) N := ⟨_, _, _, _, _, _, _, _, _, x2.out⟩
        have hx3 : ∃ n a b c d al m e N, ResAt (q2.setCell ⟨W.heap.size, 5, none⟩ (.slice bb RL cc)) W.heap.size n a b c d (.slice al m e) N := ⟨_, _, _, _, _, _, _, _, _, x2.out.set5 _⟩
        have zz := ((z2.out.other (p := ⟨W.heap.size, 5, none⟩) (by simp) (.slice bb RL cc)).other (p := ⟨W.heap.size, 6, none⟩) (by simp) (.int .i64 RN))
        have hz1 : ∀ {k : IntKind} {aa : Option Addr} {len cap : Nat} {z : List Int}, (k = .u8 ∨ k = .u32) → Row k q2 aa len cap z → Row k (((((((((q2.setCell ⟨W.heap.size, 5, none⟩ (.slice bb RL cc)).setCell ⟨W.heap.size, 6, none⟩ (.int .i64 RN)).setCell ⟨W.heap.size + 1, 0, none⟩ (.int .i64 0)).setCell ⟨W.heap.size + 1, 1, none⟩ (.int .i64 E.k0)).setCell ⟨W.heap.size + 1, 2, none⟩ (.int .i64 E.k1)).setCell ⟨W.heap.size + 1, 3, none⟩ (.int .u64 E.s0)).setCell ⟨W.heap.size + 1, 4, none⟩ (.int .u64 E.s1)).setCell ⟨W.heap.size + 1, 5, none⟩ (.slice bb RL cc)).setCell ⟨W.heap.size + 1, 6, none⟩ (.int .i64 RN)) aa len cap z := fun hk h => rows7 hk (Row.boxR hk (Row.boxR hk h hx2 5 _) hx3 6 _) zz
        rw [hfin.out]
        have e1 := hRL'.out
        have e2 := hRN'.out
        subst e1 e2
        exact ⟨bb, cc, a9, l.length, c9, by simp, hz1 (.inl rfl) rr2.out, hz1 (.inr rfl) (Row.of_own o2.out (natsU _ hl'.out)), below7 ((B2.out.setCell (Nat.le_refl _) _).setCell (Nat.le_refl _) _) (by omega)⟩
end Go.Proofs.Ytcodofmghbgoeaa

/- Contracts of the reference of resume: Feed. -/
namespace Go.Proofs.Ytcodofmghbgoeaa
open Go.RowKit Cad

set_option maxRecDepth 100000 in
set_option maxHeartbeats 1000000 in
theorem RsFeed_bad (W : World) (aa : Option Addr) (len cap : Nat) (n a b c d N : Int) (l : List Int) (ab : Option Addr) (nb cb : Nat) (hr : Row .u8 W aa len cap l) (hN : (Lit.int .i64 N).wf = true) (ha : (Lit.int .i64 a).wf = true) (hb : (Lit.int .i64 b).wf = true) (hc : (Lit.int .u64 c).wf = true) (hd : (Lit.int .u64 d).wf = true) (hno : ¬ ResOk n a b c d l N) :
    ResF 18 #[.agg #[.int .i64 n, .int .i64 a, .int .i64 b, .int .u64 c, .int .u64 d, .slice aa len cap, .int .i64 N], .slice ab nb cb] W (fedE 8) := by
  refine ResF.none ?_
  obtain ⟨W0, hW0, hbE, hsz0, hx0, hz0⟩ := rr_boxes W n a b c d (.slice aa len cap) N
  have ck := Go.Lib.hid (RsCheck_any W0 aa len cap n a b c d N l (hr.below hbE (Nat.le_refl _)) hN ha hb hc hd 8 (.inr ⟨hno, rfl⟩))
  have hz0' := Go.Lib.hid hz0
  have hbE' := Go.Lib.hid hbE
  clear hr hN ha hb hc hd hno hx0 hz0 hbE
  go_enter Try.func18, Try.ntmps18
  go_wp2_with (go_at_call 19; rw [← hW0]; clear hW0; with_reducible refine ck.out.mono ?_; rintro e w1 ⟨rfl, hb1⟩; have z1 := Go.Lib.hid (hz0'.out.below hb1 hz0'.out.lt); have B1 := Go.Lib.hid (hbE'.out.trans (hb1.mono hbE'.out.size)); obtain ⟨f0, f1, f2, f3, f4, f5, f6, g0, g1, g2, g3, g4, g5, g6⟩ := z1.out.cells; clear hb1)
  (try simp only [Exit.inBlock, Exit.then])
  refine bodyPost_ret (results_res_two (by rfl) _ _ (W.heap.size + 1) _ _ _ _ _ _ _ rfl (z1.out.set 0 0 0 0 0 (.slice none 0 0) 0)) rfl ?_
  exact ⟨by simp, below7 B1.out (by omega)⟩
set_option maxRecDepth 100000 in
set_option maxHeartbeats 1000000 in
theorem RsFeed_many (W : World) (aa : Option Addr) (len cap : Nat) (n : Nat) (D : Du) (R : List Bool) (ab : Option Addr) (nb cb : Nat) (hr : Row .u8 W aa len cap (pack R)) (hok : ResOkN n D R) (hnb : 41000 < nb) (hnb2 : nb ≤ 9223372036854775807) :
    ResF 18 #[.agg #[.int .i64 n, .int .i64 D.k0, .int .i64 D.k1, .int .u64 D.s0, .int .u64 D.s1, .slice aa len cap, .int .i64 R.length], .slice ab nb cb] W (fedE 4) := by
  refine ResF.none ?_
  have w4 := du_wf hok.d
  have b80 := hok.b80
  obtain ⟨W0, hW0, hbE, hsz0, hx0, hz0⟩ := rr_boxes W n D.k0 D.k1 D.s0 D.s1 (.slice aa len cap) R.length
  have ck := Go.Lib.hid (RsCheck_any W0 aa len cap n D.k0 D.k1 D.s0 D.s1 R.length (pack R) (hr.below hbE (Nat.le_refl _)) (bounds_of_len (by omega)) w4.1 w4.2.1 w4.2.2.1 w4.2.2.2 0 (.inl ⟨⟨n, D, R, hok, rfl, rfl, rfl, rfl, rfl, rfl, rfl⟩, rfl⟩))
  obtain ⟨N, hN⟩ : ∃ N, N = R.length := ⟨_, rfl⟩
  rw [← hN] at ck hW0 hx0 ⊢
  have hz0' := Go.Lib.hid hz0
  have hbE' := Go.Lib.hid hbE
  have hk : (41000 : Int) < nb := by omega
  clear hr hok w4 b80 hx0 hz0 hbE hN
  go_enter Try.func18, Try.ntmps18
  go_wp2_with (go_at_call 19; rw [← hW0]; clear hW0; with_reducible refine ck.out.mono ?_; rintro e w1 ⟨rfl, hb1⟩; have z1 := Go.Lib.hid (hz0'.out.below hb1 hz0'.out.lt); have B1 := Go.Lib.hid (hbE'.out.trans (hb1.mono hbE'.out.size)); obtain ⟨f0, f1, f2, f3, f4, f5, f6, g0, g1, g2, g3, g4, g5, g6⟩ := z1.out.cells; clear hb1)
  (try simp only [Exit.inBlock, Exit.then])
  refine bodyPost_ret (results_res_two (by rfl) _ _ (W.heap.size + 1) _ _ _ _ _ _ _ rfl (z1.out.set 0 0 0 0 0 (.slice none 0 0) 0)) rfl ?_
  exact ⟨by simp, below7 B1.out (by omega)⟩
set_option maxRecDepth 100000 in
set_option maxHeartbeats 1000000 in
theorem RsFeed_ok (W : World) (aa : Option Addr) (len cap : Nat) (n : Nat) (D : Du) (R : List Bool) (ab : Option Addr) (nb cb : Nat) (bl : List Nat) (hr : Row .u8 W aa len cap (pack R)) (hok : ResOkN n D R) (hbr : Row .u8 W ab nb cb (bl.map Int.ofNat)) (hbl : bl.length = nb) (h256 : ∀ x ∈ bl, x < 256) (hnb : nb ≤ 41000) :
    ResF 18 #[.agg #[.int .i64 n, .int .i64 D.k0, .int .i64 D.k1, .int .u64 D.s0, .int .u64 D.s1, .slice aa len cap, .int .i64 R.length], .slice ab nb cb] W (fed n (R ++ bytesB bl) D) := by
  have w4 := du_wf hok.d
  have b80 := hok.b80
  have hlen : (R ++ bytesB bl).length ≤ 330000 := by rw [List.length_append, bytesB_len, hbl]; omega
  obtain ⟨W0, hW0, hbE, hsz0, hx0, hz0⟩ := rr_boxes W n D.k0 D.k1 D.s0 D.s1 (.slice aa len cap) R.length
  have ck := Go.Lib.hid (RsCheck_any W0 aa len cap n D.k0 D.k1 D.s0 D.s1 R.length (pack R) (hr.below hbE (Nat.le_refl _)) (bounds_of_len (by omega)) w4.1 w4.2.1 w4.2.2.1 w4.2.2.2 0 (.inl ⟨⟨n, D, R, hok, rfl, rfl, rfl, rfl, rfl, rfl, rfl⟩, rfl⟩))
  have fd := Go.Lib.hid fun w (h : Row .u8 w aa len cap (pack R)) (h' : Row .u8 w ab nb cb (bl.map Int.ofNat)) => RsFed_ok w aa len cap R n D ab nb cb bl h hok.d hok.n4 h' hbl h256 hlen
  obtain ⟨F, hF⟩ : ∃ F, F = fed n (R ++ bytesB bl) D := ⟨_, rfl⟩
  rw [← hF] at fd ⊢
  unfold ResF at fd
  obtain ⟨RL, hRL⟩ : ∃ x, x = (F.r.length + 7) / 8 := ⟨_, rfl⟩
  obtain ⟨RN, hRN⟩ : ∃ x, x = F.r.length := ⟨_, rfl⟩
  rw [← hRL, ← hRN] at fd
  unfold ResF
  rw [← hRL, ← hRN]
  obtain ⟨N, hN⟩ : ∃ N, N = R.length := ⟨_, rfl⟩
  rw [← hN] at ck hW0 hx0 fd ⊢
  have r0 := Go.Lib.hid (hr.below hbE (Nat.le_refl _))
  have p0 := Go.Lib.hid (hbr.below hbE (Nat.le_refl _))
  have hx0' := Go.Lib.hid hx0
  have hz0' := Go.Lib.hid hz0
  have hbE' := Go.Lib.hid hbE
  have hk : ¬ (41000 : Int) < nb := by omega
  clear hr hbr hok w4 b80 hx0 hz0 hbE hN hF hlen h256 hbl hRL hRN
  go_enter Try.func18, Try.ntmps18
  go_wp2_with (first
    | (go_at_call 19; rw [← hW0]; clear hW0; with_reducible refine ck.out.mono ?_; rintro e w1 ⟨rfl, hb1⟩; have r1 := Go.Lib.hid (r0.out.below hb1 (Nat.le_refl _)); have p1 := Go.Lib.hid (p0.out.below hb1 (Nat.le_refl _)); have x1 := Go.Lib.hid (hx0'.out.below hb1 hx0'.out.lt); have z1 := Go.Lib.hid (hz0'.out.below hb1 hz0'.out.lt); have B1 := Go.Lib.hid (hbE'.out.trans (hb1.mono hbE'.out.size)); obtain ⟨f0, f1, f2, f3, f4, f5, f6, g0, g1, g2, g3, g4, g5, g6⟩ := x1.out.cells; clear hb1)
    | (go_at_call 32; with_reducible refine (fd.out _ r1.out p1.out).mono ?_; rintro e w2 ⟨bb, cc, am, mm, cm, rfl, rr, rm, hb2⟩; have rr' := Go.Lib.hid rr; have rm' := Go.Lib.hid rm; have z2 := Go.Lib.hid (z1.out.below hb2 z1.out.lt); have B2 := Go.Lib.hid (B1.out.trans (hb2.mono B1.out.size)); obtain ⟨i0, i1, i2, i3, i4, i5, i6, j0, j1, j2, j3, j4, j5, j6⟩ := z2.out.cells; clear hb2 rr rm))
  (try simp only [Exit.inBlock, Exit.then])
  refine bodyPost_ret (results_res_two (by rfl) _ _ (W.heap.size + 1) _ _ _ _ _ _ _ rfl (z2.out.set F.n F.d.k0 F.d.k1 F.d.s0 F.d.s1 (.slice bb RL cc) RN)) rfl ?_
  exact ⟨bb, cc, am, mm, cm, by simp, rows7 (.inl rfl) rr'.out z2.out, rows7 (.inr rfl) rm'.out z2.out, below7 B2.out (by omega)⟩
end Go.Proofs.Ytcodofmghbgoeaa

/- Contracts of the package resume: Start, waits, Check. -/
namespace Go.Proofs.Ytcodofmghbgoeaa
open Go.RowKit Cad

set_option maxRecDepth 100000 in
theorem PsStart_arg (W : World) (n : Int) (h : n < 0) :
    Calls Try.prog 9 #[.int .i64 n] W fun e W' => e = .returned (.tuple #[.agg #[.int .i64 0, .int .i64 0, .int .i64 0, .int .u64 0, .int .u64 0, .slice none 0 0, .int .i64 0], .int .i64 2]) ∧ Below W.heap.size W W' := by
  go_enter Try.func9, Try.ntmps9
  go_wp2
  go_returns
  exact ⟨rfl, (Below.refl _ _).alloc (Nat.le_refl _) _⟩
set_option maxRecDepth 100000 in
theorem PsStart_many (W : World) (n : Int) (h : 4000 < n) :
    Calls Try.prog 9 #[.int .i64 n] W fun e W' => e = .returned (.tuple #[.agg #[.int .i64 0, .int .i64 0, .int .i64 0, .int .u64 0, .int .u64 0, .slice none 0 0, .int .i64 0], .int .i64 4]) ∧ Below W.heap.size W W' := by
  have h0 : ¬ n < 0 := by omega
  go_enter Try.func9, Try.ntmps9
  go_wp2
  go_returns
  exact ⟨rfl, (Below.refl _ _).alloc (Nat.le_refl _) _⟩
set_option maxRecDepth 100000 in
theorem PsStart_ok (W : World) (n : Nat) (h : n ≤ 4000) :
    Calls Try.prog 9 #[.int .i64 n] W fun e W' => e = .returned (.tuple #[.agg #[.int .i64 n, .int .i64 10, .int .i64 10, .int .u64 16384, .int .u64 16384, .slice none 0 0, .int .i64 0], .int .i64 0]) ∧ Below W.heap.size W W' := by
  have h0 : ¬ (n : Int) < 0 := by omega
  have h1 : ¬ (4000 : Int) < n := by omega
  have st := Go.Lib.hid Dstart_ok
  have x0 := Go.Lib.hid (resat1 W 0 0 0 0 0 (.slice none 0 0) 0)
  have B0 := Go.Lib.hid (below1 W (.cells #[.int .i64 0, .int .i64 0, .int .i64 0, .int .u64 0, .int .u64 0, .slice none 0 0, .int .i64 0] 29))
  go_enter Try.func9, Try.ntmps9
  go_wp2_with (go_at_call 27; refine (st.out _).mono ?_; rintro e w1 ⟨rfl, hb1⟩; have x1 := Go.Lib.hid (x0.out.below hb1 x0.out.lt); have B1 := Go.Lib.hid (B0.out.trans (hb1.mono B0.out.size)); obtain ⟨f0, f1, f2, f3, f4, f5, f6, g0, g1, g2, g3, g4, g5, g6⟩ := x1.out.cells; clear hb1)
  (try simp only [Exit.inBlock, Exit.then])
  refine bodyPost_ret (results_res_tmp (by rfl) _ _ W.heap.size _ _ _ _ _ _ _ rfl (x1.out.set _ _ _ _ _ _ _)) rfl ?_
  exact ⟨by simp, below7 B1.out (Nat.le_refl _)⟩

/-- are the bits of a state too few? -/
theorem Pwaits_zero (W : World) (aa : Option Addr) (len cap : Nat) (a b c d N : Int) (q : Bool) (hq : decide (N < 8) = q) :
    Calls Try.prog 31 #[.agg #[.int .i64 0, .int .i64 a, .int .i64 b, .int .u64 c, .int .u64 d, .slice aa len cap, .int .i64 N]] W fun e W' => e = .returned (.bool q) ∧ Below W.heap.size W W' := by
  have x0 := Go.Lib.hid (resat1 W 0 a b c d (.slice aa len cap) N)
  have B0 := Go.Lib.hid (below1 W (.cells #[.int .i64 0, .int .i64 a, .int .i64 b, .int .u64 c, .int .u64 d, .slice aa len cap, .int .i64 N] 29))
  go_enter Try.func31, Try.ntmps31
  go_wp2
  go_ret
  exact ⟨by simp, B0.out⟩
set_option maxRecDepth 100000 in
set_option maxHeartbeats 1000000 in
theorem Pwaits_more (W : World) (aa : Option Addr) (len cap : Nat) (n : Int) (D : Du) (B : List Bool) (hd : D.ok) (hr : Row .u8 W aa len cap (pack B)) (hB : B.length ≤ 330000) (hn : n ≠ 0) (v p er : Nat) (hv : readD B 0 D = (v, p, er)) (q : Bool) (hq : decide (er = 24) = q) :
    Calls Try.prog 31 #[.agg #[.int .i64 n, .int .i64 D.k0, .int .i64 D.k1, .int .u64 D.s0, .int .u64 D.s1, .slice aa len cap, .int .i64 B.length]] W fun e W' => e = .returned (.bool q) ∧ Below W.heap.size W W' := by
  have x0 := Go.Lib.hid (resat1 W n D.k0 D.k1 D.s0 D.s1 (.slice aa len cap) B.length)
  have B0 := Go.Lib.hid (below1 W (.cells #[.int .i64 n, .int .i64 D.k0, .int .i64 D.k1, .int .u64 D.s0, .int .u64 D.s1, .slice aa len cap, .int .i64 B.length] 29))
  have hr' := Go.Lib.hid (hr.below B0.out (Nat.le_refl _))
  have rd : Hid (∀ w, Row .u8 w aa len cap (pack B) → ∃ v p a b c d, ResR 41 #[.agg #[.slice aa len cap, .int .i64 B.length], .int .i64 0, .agg #[.int .i64 D.k0, .int .i64 D.k1, .int .u64 D.s0, .int .u64 D.s1]] w v p a b c d er) := Go.Lib.hid fun w hw => by
    by_cases h0 : er = 0
    · subst h0; exact ⟨_, _, _, _, _, _, DRead_ok w aa len cap B 0 D hw hB (Nat.zero_le _) hd v p hv⟩
    · exact ⟨_, _, _, _, _, _, DRead_er w aa len cap B 0 D hw hB (Nat.zero_le _) hd v p er h0 hv⟩
  have n0 : (n == 0) = false := by rw [beq_eq_false_iff_ne]; exact hn
  have hq' : ((er : Int) == 24) = q := by
    rw [← hq]
    by_cases h : er = 24
    · subst h; rfl
    · have : ¬ (er : Int) = 24 := by omega
      simp [h, this]
  obtain ⟨N, hN⟩ : ∃ N, N = B.length := ⟨_, rfl⟩
  rw [← hN] at x0 B0 rd hr' ⊢
  obtain ⟨f0, f1, f2, f3, f4, f5, f6, g0, g1, g2, g3, g4, g5, g6⟩ := x0.out.cells
  clear hr hB hv hq hn hd hN
  go_enter Try.func31, Try.ntmps31
  go_wp2_with (go_at_call 41; obtain ⟨v9, p9, a9, b9, c9, d9, rd9⟩ := rd.out _ hr'.out; unfold ResR at rd9; with_reducible refine rd9.mono ?_; rintro e w1 ⟨rfl, hb1⟩; have B1 := B0.out.trans (hb1.mono B0.out.size); have B2 := Go.Lib.hid (B1.alloc B1.size (.cells #[.int .i64 a9, .int .i64 b9, .int .u64 c9, .int .u64 d9] 24)); clear hb1 B1)
  go_ret
  exact ⟨by simp, B2.out⟩

set_option maxRecDepth 100000 in
set_option maxHeartbeats 1000000 in
theorem PsCheck_neg (W : World) (aa : Option Addr) (len cap : Nat) (n a b c d N : Int) (h : n < 0) :
    Calls Try.prog 11 #[.agg #[.int .i64 n, .int .i64 a, .int .i64 b, .int .u64 c, .int .u64 d, .slice aa len cap, .int .i64 N]] W fun e W' => e = .returned (.int .i64 8) ∧ Below W.heap.size W W' := by
  have x0 := Go.Lib.hid (resat1 W n a b c d (.slice aa len cap) N)
  have B0 := Go.Lib.hid (below1 W (.cells #[.int .i64 n, .int .i64 a, .int .i64 b, .int .u64 c, .int .u64 d, .slice aa len cap, .int .i64 N] 29))
  go_enter Try.func11, Try.ntmps11
  go_wp2
  go_ret
  exact ⟨rfl, B0.out⟩

set_option maxRecDepth 100000 in
set_option maxHeartbeats 1000000 in
theorem PsCheck_many (W : World) (aa : Option Addr) (len cap : Nat) (n a b c d N : Int) (h0 : ¬ n < 0) (h : 4000 < n) :
    Calls Try.prog 11 #[.agg #[.int .i64 n, .int .i64 a, .int .i64 b, .int .u64 c, .int .u64 d, .slice aa len cap, .int .i64 N]] W fun e W' => e = .returned (.int .i64 8) ∧ Below W.heap.size W W' := by
  have x0 := Go.Lib.hid (resat1 W n a b c d (.slice aa len cap) N)
  have B0 := Go.Lib.hid (below1 W (.cells #[.int .i64 n, .int .i64 a, .int .i64 b, .int .u64 c, .int .u64 d, .slice aa len cap, .int .i64 N] 29))
  have d0 : decide (n < 0) = false := decide_eq_false h0
  go_enter Try.func11, Try.ntmps11
  go_wp2
  go_ret
  exact ⟨rfl, B0.out⟩

set_option maxRecDepth 100000 in
set_option maxHeartbeats 1000000 in
theorem PsCheck_dual (W : World) (aa : Option Addr) (len cap : Nat) (n a b c d N : Int) (h0 : ¬ n < 0) (h1 : ¬ 4000 < n) (ha : (Lit.int .i64 a).wf = true) (hb : (Lit.int .i64 b).wf = true) (hc : (Lit.int .u64 c).wf = true) (hd : (Lit.int .u64 d).wf = true) (hn : ¬ DuOk a b c d) :
    Calls Try.prog 11 #[.agg #[.int .i64 n, .int .i64 a, .int .i64 b, .int .u64 c, .int .u64 d, .slice aa len cap, .int .i64 N]] W fun e W' => e = .returned (.int .i64 8) ∧ Below W.heap.size W W' := by
  have x0 := Go.Lib.hid (resat1 W n a b c d (.slice aa len cap) N)
  have B0 := Go.Lib.hid (below1 W (.cells #[.int .i64 n, .int .i64 a, .int .i64 b, .int .u64 c, .int .u64 d, .slice aa len cap, .int .i64 N] 29))
  have d0 : decide (n < 0) = false := decide_eq_false h0
  have d1 : decide (4000 < n) = false := decide_eq_false h1
  have ck := Go.Lib.hid fun w => DCheck_any w a b c d ha hb hc hd 8 (.inr ⟨hn, rfl⟩)
  clear ha hb hc hd hn
  go_enter Try.func11, Try.ntmps11
  go_wp2_with (go_at_call 29; with_reducible refine (ck.out _).mono ?_; rintro e w1 ⟨rfl, hb⟩; have x1 := Go.Lib.hid (x0.out.below hb x0.out.lt); have B1 := Go.Lib.hid (B0.out.trans (hb.mono B0.out.size)); obtain ⟨f0, f1, f2, f3, f4, f5, f6, g0, g1, g2, g3, g4, g5, g6⟩ := x1.out.cells; clear hb)
  go_ret
  exact ⟨rfl, B1.out⟩

set_option maxRecDepth 100000 in
set_option maxHeartbeats 1000000 in
theorem PsCheck_bits (W : World) (aa : Option Addr) (len cap : Nat) (n N : Int) (D : Du) (l : List Int) (h0 : ¬ n < 0) (h1 : ¬ 4000 < n) (hd : D.ok) (hr : Row .u8 W aa len cap l) (hN : (Lit.int .i64 N).wf = true) (hv : ¬ Valid l N) :
    Calls Try.prog 11 #[.agg #[.int .i64 n, .int .i64 D.k0, .int .i64 D.k1, .int .u64 D.s0, .int .u64 D.s1, .slice aa len cap, .int .i64 N]] W fun e W' => e = .returned (.int .i64 8) ∧ Below W.heap.size W W' := by
  have x0 := Go.Lib.hid (resat1 W n (D.k0) (D.k1) (D.s0) (D.s1) (.slice aa len cap) N)
  have B0 := Go.Lib.hid (below1 W (.cells #[.int .i64 n, .int .i64 D.k0, .int .i64 D.k1, .int .u64 D.s0, .int .u64 D.s1, .slice aa len cap, .int .i64 N] 29))
  have d0 : decide (n < 0) = false := decide_eq_false h0
  have d1 : decide (4000 < n) = false := decide_eq_false h1
  have ck := Go.Lib.hid fun w => DCheck_any w D.k0 D.k1 D.s0 D.s1 (du_wf hd).1 (du_wf hd).2.1 (du_wf hd).2.2.1 (du_wf hd).2.2.2 0 (.inl ⟨du_ok hd, rfl⟩)
  have cb := Go.Lib.hid fun w hw => BCheck_any w aa len cap N l hw hN 8 (.inr ⟨hv, rfl⟩)
  have hr' := Go.Lib.hid hr
  clear hr hN hv hd
  go_enter Try.func11, Try.ntmps11
  go_wp2_with (first
    | (go_at_call 29; with_reducible refine (ck.out _).mono ?_; rintro e w1 ⟨rfl, hb⟩; have x1 := Go.Lib.hid (x0.out.below hb x0.out.lt); have B1 := Go.Lib.hid (B0.out.trans (hb.mono B0.out.size)); obtain ⟨f0, f1, f2, f3, f4, f5, f6, g0, g1, g2, g3, g4, g5, g6⟩ := x1.out.cells; clear hb)
    | (go_at_call 30; with_reducible refine (cb.out _ (hr'.out.below B1.out (Nat.le_refl _))).mono ?_; rintro e w2 ⟨rfl, hb⟩; have x2 := Go.Lib.hid (x1.out.below hb x1.out.lt); have B2 := Go.Lib.hid (B1.out.trans (hb.mono B1.out.size)); obtain ⟨f0, f1, f2, f3, f4, f5, f6, g0, g1, g2, g3, g4, g5, g6⟩ := x2.out.cells; clear hb))
  go_ret
  exact ⟨rfl, B2.out⟩

set_option maxRecDepth 100000 in
set_option maxHeartbeats 1000000 in
/-- all but the bits that wait is right -/
theorem PsCheck_in (W : World) (aa : Option Addr) (len cap : Nat) (n : Int) (D : Du) (B : List Bool) (h0 : ¬ n < 0) (h1 : ¬ 4000 < n) (hd : D.ok) (hr : Row .u8 W aa len cap (pack B)) (hB : B.length ≤ 330000) (q : Bool)
    (hw : ∀ w, Row .u8 w aa len cap (pack B) → Calls Try.prog 31 #[.agg #[.int .i64 n, .int .i64 D.k0, .int .i64 D.k1, .int .u64 D.s0, .int .u64 D.s1, .slice aa len cap, .int .i64 B.length]] w fun e W' => e = .returned (.bool q) ∧ Below w.heap.size w W') (r : Int) (h : r = if q = true then 0 else 8) :
    Calls Try.prog 11 #[.agg #[.int .i64 n, .int .i64 D.k0, .int .i64 D.k1, .int .u64 D.s0, .int .u64 D.s1, .slice aa len cap, .int .i64 B.length]] W fun e W' => e = .returned (.int .i64 r) ∧ Below W.heap.size W W' := by
  have x0 := Go.Lib.hid (resat1 W n (D.k0) (D.k1) (D.s0) (D.s1) (.slice aa len cap) B.length)
  have B0 := Go.Lib.hid (below1 W (.cells #[.int .i64 n, .int .i64 D.k0, .int .i64 D.k1, .int .u64 D.s0, .int .u64 D.s1, .slice aa len cap, .int .i64 B.length] 29))
  have d0 : decide (n < 0) = false := decide_eq_false h0
  have d1 : decide (4000 < n) = false := decide_eq_false h1
  have ck := Go.Lib.hid fun w => DCheck_any w D.k0 D.k1 D.s0 D.s1 (du_wf hd).1 (du_wf hd).2.1 (du_wf hd).2.2.1 (du_wf hd).2.2.2 0 (.inl ⟨du_ok hd, rfl⟩)
  have cb := Go.Lib.hid fun w hw => BCheck_any w aa len cap B.length (pack B) hw (bounds_of_len (by omega)) 0 (.inl ⟨⟨B, rfl, hB, rfl⟩, rfl⟩)
  have cw := Go.Lib.hid hw
  have hr' := Go.Lib.hid hr
  obtain ⟨N, hN⟩ : ∃ N, N = B.length := ⟨_, rfl⟩
  rw [← hN] at x0 B0 cb cw ⊢
  clear hr hB hd hw hN
  cases q
  all_goals
    simp only [if_true, if_false, Bool.false_eq_true] at h
    subst h
    go_enter Try.func11, Try.ntmps11
    go_wp2_with (first
      | (go_at_call 29; with_reducible refine (ck.out _).mono ?_; rintro e w1 ⟨rfl, hb⟩; have x1 := Go.Lib.hid (x0.out.below hb x0.out.lt); have B1 := Go.Lib.hid (B0.out.trans (hb.mono B0.out.size)); obtain ⟨f0, f1, f2, f3, f4, f5, f6, g0, g1, g2, g3, g4, g5, g6⟩ := x1.out.cells; clear hb)
      | (go_at_call 30; with_reducible refine (cb.out _ (hr'.out.below B1.out (Nat.le_refl _))).mono ?_; rintro e w2 ⟨rfl, hb⟩; have x2 := Go.Lib.hid (x1.out.below hb x1.out.lt); have B2 := Go.Lib.hid (B1.out.trans (hb.mono B1.out.size)); obtain ⟨f0, f1, f2, f3, f4, f5, f6, g0, g1, g2, g3, g4, g5, g6⟩ := x2.out.cells; clear hb)
      | (go_at_call 31; with_reducible refine (cw.out _ (hr'.out.below B2.out (Nat.le_refl _))).mono ?_; rintro e w3 ⟨rfl, hb⟩; have B3 := Go.Lib.hid (B2.out.trans (hb.mono B2.out.size)); clear hb))
    go_ret
    exact ⟨rfl, B3.out⟩

theorem PsCheck_any (W : World) (aa : Option Addr) (len cap : Nat) (n a b c d N : Int) (l : List Int) (hr : Row .u8 W aa len cap l) (hN : (Lit.int .i64 N).wf = true) (ha : (Lit.int .i64 a).wf = true) (hb : (Lit.int .i64 b).wf = true) (hc : (Lit.int .u64 c).wf = true) (hd : (Lit.int .u64 d).wf = true) (r : Int) (h : chkS n a b c d l N r) :
    Calls Try.prog 11 #[.agg #[.int .i64 n, .int .i64 a, .int .i64 b, .int .u64 c, .int .u64 d, .slice aa len cap, .int .i64 N]] W fun e W' => e = .returned (.int .i64 r) ∧ Below W.heap.size W W' := by
  rcases h with ⟨⟨m, D, B, hok, rfl, rfl, rfl, rfl, rfl, rfl, rfl⟩, rfl⟩ | ⟨hno, rfl⟩
  · have h4 := hok.n4
    by_cases h0 : m = 0
    · subst h0
      have h8 := hok.zero rfl
      exact PsCheck_in W aa len cap _ D B (by omega) (by omega) hok.d hr hok.b true (fun w _ => Pwaits_zero w aa len cap _ _ _ _ _ true (by simp; omega)) 0 rfl
    · exact PsCheck_in W aa len cap _ D B (by omega) (by omega) hok.d hr hok.b true (fun w hw => Pwaits_more w aa len cap m D B hok.d hw hok.b (by omega) 0 0 24 (hok.wait h0) true rfl) 0 rfl
  · by_cases h0 : n < 0
    · exact PsCheck_neg W aa len cap n a b c d N h0
    by_cases h1 : 4000 < n
    · exact PsCheck_many W aa len cap n a b c d N h0 h1
    by_cases h2 : DuOk a b c d
    · obtain ⟨D, hD, rfl, rfl, rfl, rfl⟩ := du_of h2 hc hd
      by_cases h3 : Valid l N
      · obtain ⟨B, rfl, hB, rfl⟩ := h3
        obtain ⟨v, p, er, hv⟩ : ∃ v p er, readD B 0 D = (v, p, er) := ⟨_, _, _, rfl⟩
        by_cases h4 : n = 0
        · subst h4
          by_cases h8 : B.length < 8
          · exact absurd ⟨0, D, B, ⟨by decide, hD, hB, fun _ => h8, fun h => absurd rfl h⟩, rfl, rfl, rfl, rfl, rfl, rfl, rfl⟩ hno
          · exact PsCheck_in W aa len cap 0 D B h0 h1 hD hr hB false (fun w _ => Pwaits_zero w aa len cap _ _ _ _ _ false (by simp; omega)) 8 rfl
        · by_cases h5 : er = 24
          · subst h5
            obtain ⟨rfl, rfl, -⟩ := dual_no hv (by decide) hD.1 hD.2.1
            exact absurd ⟨n.toNat, D, B, ⟨by omega, hD, hB, fun h => by omega, fun _ => hv⟩, by omega, rfl, rfl, rfl, rfl, rfl, rfl⟩ hno
          · exact PsCheck_in W aa len cap n D B h0 h1 hD hr hB false (fun w hw => Pwaits_more w aa len cap n D B hD hw hB h4 v p er hv false (by simp [h5])) 8 rfl
      · exact PsCheck_bits W aa len cap n N D l h0 h1 hD hr hN h3
    · exact PsCheck_dual W aa len cap n a b c d N h0 h1 ha hb hc hd h2
end Go.Proofs.Ytcodofmghbgoeaa

/- What reading from all bits says, without the check of what is left; feeding is that, and the check. No Go function in sight. -/
namespace Cad
open Go.Proofs.Ytcodofmghbgoeaa

/-- all numbers that there are, at most n; what is left may be long -/
def rdA : Nat → List Bool → Du → Fed
  | 0, B, d => ⟨[], B, 0, d, 0⟩
  | n + 1, B, d => if (readD B 0 d).2.2 = 24 then ⟨[], B, n + 1, d, 0⟩ else if (readD B 0 d).2.2 ≠ 0 then fedE (readD B 0 d).2.2
      else glueF [(readD B 0 d).1] (rdA n (B.drop (readD B 0 d).2.1) (learnD d (readD B 0 d).1))
theorem rdA_zero (B : List Bool) (d : Du) : rdA 0 B d = ⟨[], B, 0, d, 0⟩ := rfl
theorem rdA_wait {B : List Bool} {n : Nat} {d : Du} {v p : Nat} (h : readD B 0 d = (v, p, 24)) : rdA (n + 1) B d = ⟨[], B, n + 1, d, 0⟩ := by
  rw [rdA, h, if_pos rfl]
theorem rdA_er {B : List Bool} {n : Nat} {d : Du} {v p er : Nat} (h : readD B 0 d = (v, p, er)) (h24 : er ≠ 24) (h0 : er ≠ 0) : rdA (n + 1) B d = fedE er := by
  rw [rdA, h, if_neg h24, if_pos h0]
theorem rdA_next {B : List Bool} {n : Nat} {d : Du} {v p : Nat} (h : readD B 0 d = (v, p, 0)) : rdA (n + 1) B d = glueF [v] (rdA n (B.drop p) (learnD d v)) := by
  rw [rdA, h, if_neg (by simp), if_neg (fun h => h rfl)]
theorem rdA_nil : ∀ (n : Nat) (d : Du), rdA n [] d = ⟨[], [], n, d, 0⟩
  | 0, _ => rfl
  | _ + 1, d => rdA_wait (readD_end d (Nat.le_refl _))
theorem rdA_no : ∀ (n : Nat) (B : List Bool) (d : Du), (rdA n B d).e ≠ 0 → rdA n B d = fedE (rdA n B d).e
  | 0, _, _, h => absurd rfl h
  | n + 1, B, d, h => by
    obtain ⟨v, p, er, hr⟩ : ∃ v p er, readD B 0 d = (v, p, er) := ⟨_, _, _, rfl⟩
    by_cases h24 : er = 24
    · subst h24; rw [rdA_wait hr] at h; exact absurd rfl h
    · by_cases h0 : er = 0
      · subst h0
        rw [rdA_next hr] at h ⊢
        by_cases hc : (rdA n (B.drop p) (learnD d v)).e = 0
        · rcases hf : rdA n (B.drop p) (learnD d v) with ⟨x, r, k, d', e⟩
          rw [hf] at h hc
          obtain rfl : e = 0 := hc
          rw [glueF_ok] at h
          exact absurd rfl h
        · rw [glueF_er _ hc]; rfl
      · rw [rdA_er hr h24 h0]; rfl
theorem glueF_rdA (n : Nat) (B : List Bool) (d : Du) : glueF [] (rdA n B d) = rdA n B d := by
  by_cases h : (rdA n B d).e = 0
  · exact glueF_nil h
  · rw [rdA_no n B d h]; exact glueF_E _ h
/-- what is left is too long -/
def over (F : Fed) : Prop := F.e = 0 ∧ F.n = 0 ∧ 8 ≤ F.r.length
theorem fed_over : ∀ (n : Nat) (B : List Bool) (d : Du), over (rdA n B d) → fed n B d = fedE 38
  | 0, B, d, h => fed_more d h.2.2
  | n + 1, B, d, h => by
    obtain ⟨v, p, er, hr⟩ : ∃ v p er, readD B 0 d = (v, p, er) := ⟨_, _, _, rfl⟩
    by_cases h24 : er = 24
    · subst h24; rw [rdA_wait hr] at h; exact absurd h.2.1 (by simp)
    · by_cases h0 : er = 0
      · subst h0
        rw [rdA_next hr] at h
        rw [fed_next hr]
        rcases hf : rdA n (B.drop p) (learnD d v) with ⟨x, r, k, d', e⟩
        by_cases hc : e = 0
        · subst hc
          rw [hf, glueF_ok] at h
          rw [fed_over n (B.drop p) (learnD d v) (by rw [hf]; exact h), glueF_E _ (by decide)]
        · rw [hf, glueF_er _ (show (⟨x, r, k, d', e⟩ : Fed).e ≠ 0 from hc)] at h; exact absurd h.1 hc
      · rw [rdA_er hr h24 h0] at h; exact absurd h.1 h0
theorem fed_rdA : ∀ (n : Nat) (B : List Bool) (d : Du), ¬ over (rdA n B d) → fed n B d = rdA n B d
  | 0, B, d, h => by
    by_cases h8 : 8 ≤ B.length
    · exact absurd ⟨rfl, rfl, h8⟩ h
    · exact fed_none d (by omega)
  | n + 1, B, d, h => by
    obtain ⟨v, p, er, hr⟩ : ∃ v p er, readD B 0 d = (v, p, er) := ⟨_, _, _, rfl⟩
    by_cases h24 : er = 24
    · subst h24; rw [rdA_wait hr, fed_wait hr]
    · by_cases h0 : er = 0
      · subst h0
        rw [rdA_next hr] at h ⊢
        rw [fed_next hr, fed_rdA n (B.drop p) (learnD d v) fun hc => h ?_]
        rcases hf : rdA n (B.drop p) (learnD d v) with ⟨x, r, k, d', e⟩
        rw [hf] at hc
        obtain rfl : e = 0 := hc.1
        rw [glueF_ok]; exact hc
      · rw [rdA_er hr h24 h0, fed_er hr h24 h0]
/-! ### from an index on -/
theorem readD_at {B : List Bool} {p v q er : Nat} {E : Du} (h : readD B p E = (v, q, er)) (hp : p ≤ B.length) : ∃ v' q', readD (B.drop p) 0 E = (v', q', er) ∧ (er = 0 → v' = v ∧ q = p + q') := by
  obtain ⟨v2, q2, er2, hv2⟩ : ∃ v q er, readD (B.drop p) 0 E = (v, q, er) := ⟨_, _, _, rfl⟩
  have hsh := readD_drop B hp E
  rw [h, hv2] at hsh
  by_cases e0 : er2 = 0
  · subst e0; rw [sh_ok] at hsh; cases hsh; exact ⟨_, _, hv2, fun _ => ⟨rfl, rfl⟩⟩
  · rw [sh_er _ _ _ e0] at hsh; cases hsh; exact ⟨_, _, hv2, fun h => absurd h e0⟩
theorem rdA_step {B : List Bool} {p v q n : Nat} {E : Du} (h : readD B p E = (v, q, 0)) (hp : p ≤ B.length) : rdA (n + 1) (B.drop p) E = glueF [v] (rdA n (B.drop q) (learnD E v)) := by
  obtain ⟨v', q', h2, h3⟩ := readD_at h hp
  obtain ⟨rfl, rfl⟩ := h3 rfl
  rw [rdA_next h2, List.drop_drop]
theorem rdA_stop {B : List Bool} {p v q n : Nat} {E : Du} (h : readD B p E = (v, q, 24)) (hp : p ≤ B.length) : rdA (n + 1) (B.drop p) E = ⟨[], B.drop p, n + 1, E, 0⟩ := by
  obtain ⟨v', q', h2, -⟩ := readD_at h hp
  exact rdA_wait h2
theorem rdA_fail {B : List Bool} {p v q n er : Nat} {E : Du} (h : readD B p E = (v, q, er)) (hp : p ≤ B.length) (h24 : er ≠ 24) (h0 : er ≠ 0) : rdA (n + 1) (B.drop p) E = fedE er := by
  obtain ⟨v', q', h2, -⟩ := readD_at h hp
  exact rdA_er h2 h24 h0
end Cad

/- Contracts of the package resume: the closure of readAll; a copy of the first ones. -/
namespace Go.Proofs.Ytcodofmghbgoeaa
open Go.RowKit Cad

theorem IntAt.other {w : World} {y : Nat} {n : Int} (h : IntAt w y n) {p : Addr} (hp : y ≠ p.block) (u : Value) : IntAt (w.setCell p u) y n := by
  unfold IntAt at h ⊢
  rw [Below.heap_setCell _ _ _ _ hp, h]
theorem IntAt.set {w : World} {y : Nat} {n : Int} (h : IntAt w y n) (m : Int) : IntAt (w.setCell ⟨y, 0, none⟩ (.int .i64 m)) y m := by
  unfold IntAt at h ⊢; exact heap_setCell_same _ _ 0 _ _ _ h
theorem IntAt.lt {w : World} {y : Nat} {n : Int} (h : IntAt w y n) : y < w.heap.size := by
  apply Classical.byContradiction; intro hx; unfold IntAt at h; rw [Array.getElem?_eq_none (by omega)] at h; cases h
theorem IntAt.drew {w : World} {y : Nat} {n : Int} (h : IntAt w y n) : IntAt w.drew y n := h
theorem IntAt.alloc {w : World} {y : Nat} {n : Int} (h : IntAt w y n) (o : Obj) : IntAt (w.alloc o) y n := by
  have hx := h.lt
  unfold IntAt at h ⊢
  rw [Below.heap_alloc _ _ _ hx, h]

/-- a number has been read: the index, the state, how many are left are written -/
def nextW (w : World) (y z : Nat) (q a b c d m : Int) : World := (((((w.setCell ⟨y, 0, none⟩ (.int .i64 q)).setCell ⟨z, 1, none⟩ (.int .i64 a)).setCell ⟨z, 2, none⟩ (.int .i64 b)).setCell ⟨z, 3, none⟩ (.int .u64 c)).setCell ⟨z, 4, none⟩ (.int .u64 d)).setCell ⟨z, 0, none⟩ (.int .i64 m)
section
variable {w : World} {y z : Nat} {q a b c d m : Int}
theorem nextW_int {p : Int} (h : IntAt w y p) (hyz : y ≠ z) : IntAt (nextW w y z q a b c d m) y q :=
  (((((h.set q).other (by simpa using hyz) _).other (by simpa using hyz) _).other (by simpa using hyz) _).other (by simpa using hyz) _).other (by simpa using hyz) _
theorem nextW_res {n a' b' c' d' N : Int} {v : Value} (h : ResAt w z n a' b' c' d' v N) (hyz : y ≠ z) : ResAt (nextW w y z q a b c d m) z m a b c d v N :=
  ((h.other (by simpa using fun e => hyz e.symm) _).setD a b c d).set0 m
theorem nextW_box {x : Nat} {v : Value} {N : Int} (h : BoxAt w x v N) (hy : x ≠ y) (hz : x ≠ z) : BoxAt (nextW w y z q a b c d m) x v N :=
  (((((h.other (by simpa using hy) _).other (by simpa using hz) _).other (by simpa using hz) _).other (by simpa using hz) _).other (by simpa using hz) _).other (by simpa using hz) _
theorem nextW_other {x : Nat} {n a' b' c' d' N : Int} {v : Value} (h : ResAt w x n a' b' c' d' v N) (hy : x ≠ y) (hz : x ≠ z) : ResAt (nextW w y z q a b c d m) x n a' b' c' d' v N :=
  (((((h.other (by simpa using hy) _).other (by simpa using hz) _).other (by simpa using hz) _).other (by simpa using hz) _).other (by simpa using hz) _).other (by simpa using hz) _
theorem nextW_own {base n e : Nat} {v : Value} {xs : List Value} (h : w.ownsRow base e 1 v n xs) (hy : ∀ g, v.ownBlock = some g → g ≠ y) (hz : ∀ g, v.ownBlock = some g → g ≠ z) : (nextW w y z q a b c d m).ownsRow base e 1 v n xs :=
  own_setG (own_setG (own_setG (own_setG (own_setG (own_setG h hy _ _) hz _ _) hz _ _) hz _ _) hz _ _) hz _ _
theorem nextW_below {B : Nat} {W : World} (h : Below B W w) (hy : B ≤ y) (hz : B ≤ z) : Below B W (nextW w y z q a b c d m) :=
  (((((h.setCell hy _).setCell hz _).setCell hz _).setCell hz _).setCell hz _).setCell hz _
end

set_option maxRecDepth 100000 in
set_option maxHeartbeats 1000000 in
theorem Pnext_er (W : World) (x y z : Nat) (v : Value) (N p n M er : Int) (D : Du) (u : Value) (hx : BoxAt W x v N) (hy : IntAt W y p) (hz : ResAt W z n D.k0 D.k1 D.s0 D.s1 u M) (he : er ≠ 0)
    (hrd : ResR 41 #[.agg #[v, .int .i64 N], .int .i64 p, .agg #[.int .i64 D.k0, .int .i64 D.k1, .int .u64 D.s0, .int .u64 D.s1]] W 0 0 0 0 0 0 er) :
    Calls Try.prog 40 #[.pointer (some ⟨x, 0, none⟩), .pointer (some ⟨y, 0, none⟩), .pointer (some ⟨z, 0, none⟩)] W fun e W' => e = .returned (.tuple #[.int .u32 0, .int .i64 er]) ∧ Below W.heap.size W W' := by
  unfold ResR at hrd
  have hrd' := Go.Lib.hid hrd
  obtain ⟨x0, x1, x2, x3⟩ := hx.cells
  obtain ⟨y0, y1⟩ := hy.cell
  obtain ⟨f0, f1, f2, f3, f4, f5, f6, g0, g1, g2, g3, g4, g5, g6⟩ := hz.cells
  have he' : (er != 0) = true := by simpa using he
  clear hx hy hz hrd
  go_enter Try.func40, Try.ntmps40
  go_wp2_with (go_at_call 41; with_reducible refine hrd'.out.mono ?_; rintro e w1 ⟨rfl, hb1⟩; have B1 := Go.Lib.hid (hb1.alloc hb1.size (.cells #[.int .i64 0, .int .i64 0, .int .u64 0, .int .u64 0] 24)); clear hb1)
  go_ret2
  exact ⟨rfl, B1.out⟩

set_option maxRecDepth 100000 in
set_option maxHeartbeats 1000000 in
theorem Pnext_ok (W : World) (x y z : Nat) (v : Value) (N p n m M : Int) (k q : Nat) (D E : Du) (u : Value) (hx : BoxAt W x v N) (hy : IntAt W y p) (hz : ResAt W z n D.k0 D.k1 D.s0 D.s1 u M) (hyz : y ≠ z) (hn : n - 1 = m) (hm : 0 ≤ m ∧ m ≤ 4000)
    (hrd : ResR 41 #[.agg #[v, .int .i64 N], .int .i64 p, .agg #[.int .i64 D.k0, .int .i64 D.k1, .int .u64 D.s0, .int .u64 D.s1]] W k q E.k0 E.k1 E.s0 E.s1 0) :
    Calls Try.prog 40 #[.pointer (some ⟨x, 0, none⟩), .pointer (some ⟨y, 0, none⟩), .pointer (some ⟨z, 0, none⟩)] W fun e W' => e = .returned (.tuple #[.int .u32 k, .int .i64 0]) ∧ ∃ w1, Below W.heap.size W w1 ∧ W' = nextW w1 y z q E.k0 E.k1 E.s0 E.s1 m := by
  unfold ResR at hrd
  have hrd' := Go.Lib.hid hrd
  have hx' := Go.Lib.hid hx
  have hy' := Go.Lib.hid hy
  have hz' := Go.Lib.hid hz
  obtain ⟨x0, x1, x2, x3⟩ := hx.cells
  obtain ⟨y0, y1⟩ := hy.cell
  obtain ⟨f0, f1, f2, f3, f4, f5, f6, g0, g1, g2, g3, g4, g5, g6⟩ := hz.cells
  have ly := hy.lt
  have lz := hz.lt
  clear hx hy hz hrd
  go_enter Try.func40, Try.ntmps40
  go_wp2_with (go_at_call 41; with_reducible refine hrd'.out.mono ?_; rintro e w1 ⟨rfl, hb1⟩; have B1 := Go.Lib.hid (hb1.alloc hb1.size (.cells #[.int .i64 E.k0, .int .i64 E.k1, .int .u64 E.s0, .int .u64 E.s1] 24)); have y1' := Go.Lib.hid ((hy'.out.below hb1 ly).alloc (.cells #[.int .i64 E.k0, .int .i64 E.k1, .int .u64 E.s0, .int .u64 E.s1] 24)); have z1' := Go.Lib.hid ((hz'.out.below hb1 lz).alloc (.cells #[.int .i64 E.k0, .int .i64 E.k1, .int .u64 E.s0, .int .u64 E.s1] 24)); have d1 := Go.Lib.hid (duat1 w1 E.k0 E.k1 E.s0 E.s1); have s1 := hb1.size; clear hb1 x0 x1 x2 x3 y0 y1 f0 f1 f2 f3 f4 f5 f6 g0 g1 g2 g3 g4 g5 g6)
  obtain ⟨w2, hw2⟩ : ∃ w, w = w1.alloc (.cells #[.int .i64 E.k0, .int .i64 E.k1, .int .u64 E.s0, .int .u64 E.s1] 24) := ⟨_, rfl⟩
  rw [← hw2] at B1 y1' z1' d1
  try rw [← hw2]
  obtain ⟨x7, hx7⟩ : ∃ x, x = w1.heap.size := ⟨_, rfl⟩
  rw [← hx7] at d1 s1
  try rw [← hx7]
  clear hw2 hx7
  refine wp_region_ord (fun w' => DuAt w' x7 (E.k0 : Int) (E.k1 : Int) (E.s0 : Int) (E.s1 : Int)) [(0, 0), (1, 2), (2, 3), (3, 0), (4, 4)] (by kernel_rfl) (by kernel_rfl) ?hC0 ?_
  case hC0 => exact d1.out.drew
  simp only [pick, nth]
  refine wpW_name ?_
  intro q0 hq0
  have y2 := Go.Lib.hid (show IntAt q0 y p by rw [hq0]; exact y1'.out.drew)
  have z2 := Go.Lib.hid (show ResAt q0 z n D.k0 D.k1 D.s0 D.s1 u M by rw [hq0]; exact z1'.out.drew)
  have d2 := Go.Lib.hid (show DuAt q0 x7 E.k0 E.k1 E.s0 E.s1 by rw [hq0]; exact d1.out.drew)
  have B2 := Go.Lib.hid (show Below W.heap.size W q0 by rw [hq0]; exact B1.out.drew)
  clear hq0 y1' z1' d1 B1
  (repeat (first | (apply wpW_light; (case h => (intro wa; (first | (go_big_quiet_skip; exact wpQuiet_nil rfl) | (go_big_quiet_want; go_big_quiet_op; go_big_quiet_on; exact wpQuiet_nil rfl))))) | (apply wpW_here; (case h => (first | (go_big_quiet_skip; exact wpQuiet_nil rfl) | (go_big_quiet_want; go_big_quiet_op; go_big_quiet_on; exact wpQuiet_nil rfl)))) | (apply wpW_held; (case hC => assumption); (case h => (intro wa hCa; obtain ⟨u0, u1, u2, u3, u4, u5, u6, u7⟩ := hCa.cells; (first | (go_big_quiet_skip; exact wpQuiet_nil rfl) | (go_big_quiet_want; go_big_quiet_op; go_big_quiet_on; exact wpQuiet_nil rfl)))))))
  obtain ⟨y0, y1⟩ := y2.out.cell
  refine wpW_act (fun QQ hQQ => ?_) (by rfl)
  go_wp2
  (refine hQQ _ _ ?hCn ?_; (case hCn => exact d2.out.other (by simp; omega) _); clear hQQ QQ)
  refine wpW_name ?_
  intro q1 hq1
  have z3 := Go.Lib.hid (show ResAt q1 z n D.k0 D.k1 D.s0 D.s1 u M by rw [hq1]; exact z2.out.other (by simpa using fun e => hyz e.symm) _)
  have hq1' := Go.Lib.hid hq1
  clear y0 y1 hq1
  obtain ⟨f0, f1, f2, f3, f4, f5, f6, g0, g1, g2, g3, g4, g5, g6⟩ := z3.out.cells
  (repeat (first | (apply wpW_light; (case h => (intro wa; (first | (go_big_quiet_skip; exact wpQuiet_nil rfl) | (go_big_quiet_want; go_big_quiet_op; go_big_quiet_on; exact wpQuiet_nil rfl))))) | (apply wpW_here; (case h => (first | (go_big_quiet_skip; exact wpQuiet_nil rfl) | (go_big_quiet_want; go_big_quiet_op; go_big_quiet_on; exact wpQuiet_nil rfl)))) | (apply wpW_held; (case hC => assumption); (case h => (intro wa hCa; simp only [] at hCa; (first | (go_big_quiet_skip; exact wpQuiet_nil rfl) | (go_big_quiet_want; go_big_quiet_op; go_big_quiet_on; exact wpQuiet_nil rfl)))))))
  refine wpW_last (fun QQ hQQ => ?_) (by rfl)
  go_wp2
  (refine hQQ.out _ _ ?_; clear hQQ QQ)
  (repeat (first | (apply wpW_light; (case h => (intro wa; (first | (go_big_quiet_skip; exact wpQuiet_nil rfl) | (go_big_quiet_want; go_big_quiet_op; go_big_quiet_on; exact wpQuiet_nil rfl))))) | (apply wpW_here; (case h => (first | (go_big_quiet_skip; exact wpQuiet_nil rfl) | (go_big_quiet_want; go_big_quiet_op; go_big_quiet_on; exact wpQuiet_nil rfl)))) | (apply wpW_held; (case hC => assumption); (case h => (intro wa hCa; simp only [] at hCa; (first | (go_big_quiet_skip; exact wpQuiet_nil rfl) | (go_big_quiet_want; go_big_quiet_op; go_big_quiet_on; exact wpQuiet_nil rfl)))))))
  refine wpW_nil ?_
  go_wp2
  go_ret2
  exact ⟨rfl, q0, B2.out, by rw [nextW, ← hq1'.out]⟩
end Go.Proofs.Ytcodofmghbgoeaa

/- Contracts of the package coder: encode, by halves. -/
namespace Go.Proofs.Ytcodofmghbgoeaa
open Go.RowKit Cad

/-- a state, bits and a state that go out -/
theorem dbd_boxes (W : World) (a b c d : Int) : ∃ W0, W0 = ((W.alloc (.cells #[.int .i64 a, .int .i64 b, .int .u64 c, .int .u64 d] 24)).alloc (.cells #[.slice none 0 0, .int .i64 0] 27)).alloc (.cells #[.int .i64 0, .int .i64 0, .int .u64 0, .int .u64 0] 24) ∧ Below W.heap.size W W0 ∧ W0.heap.size = W.heap.size + 1 + 1 + 1 ∧
    DuAt W0 W.heap.size a b c d ∧ BoxAt W0 (W.heap.size + 1) (.slice none 0 0) 0 ∧ DuAt W0 (W.heap.size + 1 + 1) 0 0 0 0 := by
  have h1 := (below1 W (.cells #[.int .i64 a, .int .i64 b, .int .u64 c, .int .u64 d] 24)).alloc (below1 W _).size (.cells #[.slice none 0 0, .int .i64 0] 27)
  refine ⟨_, rfl, h1.alloc h1.size _, by simp, ((duat1 W a b c d).alloc _).alloc _, ?_, ?_⟩
  · have h := box1 (W.alloc (.cells #[.int .i64 a, .int .i64 b, .int .u64 c, .int .u64 d] 24)) (.slice none 0 0) 0
    have e : (W.alloc (.cells #[.int .i64 a, .int .i64 b, .int .u64 c, .int .u64 d] 24)).heap.size = W.heap.size + 1 := by simp
    rw [e] at h
    exact h.alloc _
  · have h := duat1 ((W.alloc (.cells #[.int .i64 a, .int .i64 b, .int .u64 c, .int .u64 d] 24)).alloc (.cells #[.slice none 0 0, .int .i64 0] 27)) 0 0 0 0
    have e : ((W.alloc (.cells #[.int .i64 a, .int .i64 b, .int .u64 c, .int .u64 d] 24)).alloc (.cells #[.slice none 0 0, .int .i64 0] 27)).heap.size = W.heap.size + 1 + 1 := by simp
    rw [e] at h
    exact h

/-- what a world holds while numbers are coded -/
structure EncAt (W : World) (al : Option Addr) (ll cl : Nat) (l : List Int) (w : World) (E : Du) : Prop where
  d : DuAt w W.heap.size E.k0 E.k1 E.s0 E.s1
  y : BoxAt w (W.heap.size + 1) (.slice none 0 0) 0
  p : DuAt w (W.heap.size + 1 + 1) 0 0 0 0
  l : Row .u32 w al ll cl l
  w : Below W.heap.size W w
section
variable {W : World} {al : Option Addr} {ll cl : Nat} {l : List Int} {w w' : World} {E : Du}
theorem EncAt.below (h : EncAt W al ll cl l w E) (hb : Below w.heap.size w w') : EncAt W al ll cl l w' E :=
  ⟨h.d.below hb h.d.lt, h.y.below hb h.y.lt, h.p.below hb h.p.lt, h.l.below hb (Nat.le_refl _), h.w.trans (hb.mono h.w.size)⟩
theorem EncAt.drew (h : EncAt W al ll cl l w E) : EncAt W al ll cl l w.drew E := h.below (Below.refl _ _).drew
theorem EncAt.alloc (h : EncAt W al ll cl l w E) (o : Obj) : EncAt W al ll cl l (w.alloc o) E := h.below (below1 _ _)
theorem EncAt.sz (h : EncAt W al ll cl l w E) : W.heap.size + 1 + 1 < w.heap.size := h.p.lt
/-- a new variable that holds bits is written -/
theorem EncAt.box (h : EncAt W al ll cl l w E) {x : Nat} {aa : Option Addr} {n c : Nat} {N : Int} (hx : BoxAt w x (.slice aa n c) N) (hg : W.heap.size + 1 + 1 < x) (v : Value) (M : Int) :
    EncAt W al ll cl l ((w.setCell ⟨x, 0, none⟩ v).setCell ⟨x, 1, none⟩ (.int .i64 M)) E := by
  refine ⟨(h.d.other (by simp; omega) _).other (by simp; omega) _, (h.y.other (by simp; omega) _).other (by simp; omega) _, (h.p.other (by simp; omega) _).other (by simp; omega) _, ?_, (h.w.setCell (by simp; omega) _).setCell (by simp; omega) _⟩
  have hl := h.l
  refine ⟨hl.hlen, hl.hcap, hl.hmax, hl.wf, fun hp => ?_, hl.nil⟩
  obtain ⟨b, off, rfl, hlt, hc⟩ := hl.cells hp
  have hne : b ≠ x := by
    rintro rfl
    have h0 := hc 0 hp
    unfold World.cell? at h0
    unfold BoxAt at hx
    rw [hx] at h0
    match off, h0 with
    | 0, h0 => simp at h0
    | 1, h0 => simp at h0
    | off + 2, h0 => simp at h0
  refine ⟨b, off, rfl, by simpa using hlt, fun i hi => ?_⟩
  rw [← hc i hi]
  unfold World.cell?
  rw [Below.heap_setCell _ _ _ _ (by simpa using hne), Below.heap_setCell _ _ _ _ (by simpa using hne)]
/-- the state is written -/
theorem EncAt.next (h : EncAt W al ll cl l w E) (E' : Du) :
    EncAt W al ll cl l ((((w.setCell ⟨W.heap.size, 0, none⟩ (.int .i64 E'.k0)).setCell ⟨W.heap.size, 1, none⟩ (.int .i64 E'.k1)).setCell ⟨W.heap.size, 2, none⟩ (.int .u64 E'.s0)).setCell ⟨W.heap.size, 3, none⟩ (.int .u64 E'.s1)) E' := by
  refine ⟨h.d.set _ _ _ _, (((h.y.other (by simp) _).other (by simp) _).other (by simp) _).other (by simp) _, (((h.p.other (by simp; omega) _).other (by simp; omega) _).other (by simp; omega) _).other (by simp; omega) _, ?_, outp h.w (Nat.le_refl _)⟩
  exact (((h.l.boxD (.inr rfl) h.d 0 _).boxD (.inr rfl) (h.d.set0 _) 1 _).boxD (.inr rfl) ((h.d.set0 _).set1 _) 2 _).boxD (.inr rfl) (((h.d.set0 _).set1 _).set2 _) 3 _
end

set_option maxRecDepth 100000 in
set_option maxHeartbeats 2000000 in
/-- no number -/
theorem Pcode_nil (W : World) (al : Option Addr) (cl : Nat) (D : Du) :
    ResD 36 #[.slice al 0 cl, .agg #[.int .i64 D.k0, .int .i64 D.k1, .int .u64 D.s0, .int .u64 D.s1]] W 0 [] 0 D.k0 D.k1 D.s0 D.s1 0 := by
  unfold ResD
  obtain ⟨W0, hW0, hbE, hsz0, hd0, hy0, hp0⟩ := dbd_boxes W D.k0 D.k1 D.s0 D.s1
  have hd0' := Go.Lib.hid hd0
  have hy0' := Go.Lib.hid hy0
  have hp0' := Go.Lib.hid hp0
  have hbE' := Go.Lib.hid hbE
  clear hd0 hy0 hp0 hbE
  go_enter Try.func36, Try.ntmps36
  go_wp2
  rw [← hW0]
  clear hW0
  refine wp_region_ord (fun w' => DuAt w' W.heap.size D.k0 D.k1 D.s0 D.s1) [(0, 0), (1, 2), (2, 3), (3, 4), (4, 0)] (by kernel_rfl) (by kernel_rfl) ?hC0 ?_
  case hC0 => exact hd0'.out.drew
  simp only [pick, nth]
  refine wpW_name ?_
  intro q0 hq0
  have d0 := Go.Lib.hid (show DuAt q0 W.heap.size D.k0 D.k1 D.s0 D.s1 by rw [hq0]; exact hd0'.out.drew)
  have y0 := Go.Lib.hid (show BoxAt q0 (W.heap.size + 1) (.slice none 0 0) 0 by rw [hq0]; exact hy0'.out.drew)
  have p0 := Go.Lib.hid (show DuAt q0 (W.heap.size + 1 + 1) 0 0 0 0 by rw [hq0]; exact hp0'.out.drew)
  have B0 := Go.Lib.hid (show Below W.heap.size W q0 by rw [hq0]; exact hbE'.out.drew)
  clear hq0 hd0' hy0' hp0' hbE'
  (repeat (first | (apply wpW_light; (case h => (intro wa; (first | (go_big_quiet_skip; exact wpQuiet_nil rfl) | (go_big_quiet_want; go_big_quiet_op; go_big_quiet_on; exact wpQuiet_nil rfl))))) | (apply wpW_here; (case h => (first | (go_big_quiet_skip; exact wpQuiet_nil rfl) | (go_big_quiet_want; go_big_quiet_op; go_big_quiet_on; exact wpQuiet_nil rfl)))) | (apply wpW_held; (case hC => assumption); (case h => (intro wa hCa; obtain ⟨u0, u1, u2, u3, u4, u5, u6, u7⟩ := hCa.cells; (first | (go_big_quiet_skip; exact wpQuiet_nil rfl) | (go_big_quiet_want; go_big_quiet_op; go_big_quiet_on; exact wpQuiet_nil rfl)))))))
  obtain ⟨f0, f1, f2, f3⟩ := y0.out.cells
  obtain ⟨g0, g1, g2, g3, g4, g5, g6, g7⟩ := p0.out.cells
  refine wpW_act (fun QQ hQQ => ?_) (by rfl)
  go_wp2
  (refine hQQ _ _ ?hCn ?_; (case hCn => exact (d0.out.other (by simp) _).other (by simp) _); clear hQQ QQ)
  (repeat (first | (apply wpW_light; (case h => (intro wa; (first | (go_big_quiet_skip; exact wpQuiet_nil rfl) | (go_big_quiet_want; go_big_quiet_op; go_big_quiet_on; exact wpQuiet_nil rfl))))) | (apply wpW_here; (case h => (first | (go_big_quiet_skip; exact wpQuiet_nil rfl) | (go_big_quiet_want; go_big_quiet_op; go_big_quiet_on; exact wpQuiet_nil rfl)))) | (apply wpW_held; (case hC => assumption); (case h => (intro wa hCa; simp only [] at hCa; (first | (go_big_quiet_skip; exact wpQuiet_nil rfl) | (go_big_quiet_want; go_big_quiet_op; go_big_quiet_on; exact wpQuiet_nil rfl)))))))
  refine wpW_last (fun QQ hQQ => ?_) (by rfl)
  go_wp2
  (refine hQQ.out _ _ ?_; clear hQQ QQ)
  (repeat (first | (apply wpW_light; (case h => (intro wa; (first | (go_big_quiet_skip; exact wpQuiet_nil rfl) | (go_big_quiet_want; go_big_quiet_op; go_big_quiet_on; exact wpQuiet_nil rfl))))) | (apply wpW_here; (case h => (first | (go_big_quiet_skip; exact wpQuiet_nil rfl) | (go_big_quiet_want; go_big_quiet_op; go_big_quiet_on; exact wpQuiet_nil rfl)))) | (apply wpW_held; (case hC => assumption); (case h => (intro wa hCa; simp only [] at hCa; (first | (go_big_quiet_skip; exact wpQuiet_nil rfl) | (go_big_quiet_want; go_big_quiet_op; go_big_quiet_on; exact wpQuiet_nil rfl)))))))
  refine wpW_nil ?_
  go_wp2
  (try simp only [Exit.inBlock, Exit.then])
  obtain ⟨o1, o2, o3, o4⟩ := outs y0.out p0.out (by omega) none 0 0 0 D.k0 D.k1 D.s0 D.s1
  refine bodyPost_ret (results_bits_du_tmp (by rfl) _ _ (W.heap.size + 1) (W.heap.size + 1 + 1) _ _ _ _ _ _ rfl rfl o1 o2) rfl ?_
  exact ⟨none, 0, by simp, Row.nil_row _ _, o3 B0.out (by omega) (by omega)⟩

set_option maxRecDepth 100000 in
set_option maxHeartbeats 2000000 in
/-- one number -/
theorem Pcode_one (W : World) (al : Option Addr) (cl : Nat) (l : List Int) (v : Nat) (D E : Du) (hl : Row .u32 W al 1 cl l) (hv : l.getD 0 0 = (v : Int)) (m : Nat) (p : List Int) (t : Int)
    (hw : ∀ w, ResD 55 #[.agg #[.slice none 0 0, .int .i64 0], .agg #[.int .i64 D.k0, .int .i64 D.k1, .int .u64 D.s0, .int .u64 D.s1], .int .u32 v] w m p t E.k0 E.k1 E.s0 E.s1 0) :
    ResD 36 #[.slice al 1 cl, .agg #[.int .i64 D.k0, .int .i64 D.k1, .int .u64 D.s0, .int .u64 D.s1]] W m p t E.k0 E.k1 E.s0 E.s1 0 := by
  unfold ResD at hw ⊢
  obtain ⟨W0, hW0, hbE, hsz0, hd0, hy0, hp0⟩ := dbd_boxes W D.k0 D.k1 D.s0 D.s1
  have hd0' := Go.Lib.hid hd0
  have hy0' := Go.Lib.hid hy0
  have hp0' := Go.Lib.hid hp0
  have hbE' := Go.Lib.hid hbE
  have hw' := Go.Lib.hid hw
  obtain ⟨b, o, rfl, hblt, hc⟩ := (hl.below hbE (Nat.le_refl _)).cells (by omega)
  have hcell := hc 0 (by omega)
  rw [hv] at hcell
  simp only [Nat.add_zero] at hcell
  clear hd0 hy0 hp0 hbE hl hc hw hv
  go_enter Try.func36, Try.ntmps36
  go_wp2
  rw [← hW0]
  clear hW0
  refine wp_region_ord (fun _ => True) [(0, 0), (1, 1), (2, 0), (3, 0), (4, 1), (5, 3), (6, 0), (7, 0), (8, 0), (9, 3), (10, 4), (11, 0)] (by kernel_rfl) (by kernel_rfl) ?hC0 ?_
  case hC0 => trivial
  simp only [pick, nth]
  have hcell' : W0.drew.cell? ⟨b, o, none⟩ = some (.int .u32 v) := hcell
  obtain ⟨u0, u1, u2, u3, u4, u5, u6, u7⟩ := hd0'.out.drew.cells
  (repeat (first | (apply wpW_light; (case h => (intro wa; (first | (go_big_quiet_skip; exact wpQuiet_nil rfl) | (go_big_quiet_want; go_big_quiet_op; go_big_quiet_on; exact wpQuiet_nil rfl))))) | (apply wpW_here; (case h => (first | (go_big_quiet_skip; exact wpQuiet_nil rfl) | (go_big_quiet_want; go_big_quiet_op; go_big_quiet_on; exact wpQuiet_nil rfl)))) | (apply wpW_held; (case hC => assumption); (case h => (intro wa hCa; simp only [] at hCa; (first | (go_big_quiet_skip; exact wpQuiet_nil rfl) | (go_big_quiet_want; go_big_quiet_op; go_big_quiet_on; exact wpQuiet_nil rfl)))))))
  clear u0 u1 u2 u3 u4 u5 u6 u7 hcell' hcell
  refine wpW_act (fun QQ hQQ => ?_) (by rfl)
  go_wp2_with (go_at_call 55; with_reducible refine (hw'.out _).mono ?_; rintro e q1 ⟨b1, c1, rfl, hr1, hb1⟩)
  (refine hQQ _ _ ?hCn ?_; (case hCn => trivial); clear hQQ QQ)
  have hy1 := Go.Lib.hid (hy0'.out.drew.below hb1 hy0'.out.drew.lt)
  have hp1 := Go.Lib.hid (hp0'.out.drew.below hb1 hp0'.out.drew.lt)
  have hr1' := Go.Lib.hid hr1
  have hbA := Go.Lib.hid (hbE'.out.drew.trans (hb1.mono hbE'.out.drew.size))
  clear hb1 hr1
  obtain ⟨f0, f1, f2, f3⟩ := hy1.out.cells
  obtain ⟨g0, g1, g2, g3, g4, g5, g6, g7⟩ := hp1.out.cells
  (repeat (first | (apply wpW_light; (case h => (intro wa; (first | (go_big_quiet_skip; exact wpQuiet_nil rfl) | (go_big_quiet_want; go_big_quiet_op; go_big_quiet_on; exact wpQuiet_nil rfl))))) | (apply wpW_here; (case h => (first | (go_big_quiet_skip; exact wpQuiet_nil rfl) | (go_big_quiet_want; go_big_quiet_op; go_big_quiet_on; exact wpQuiet_nil rfl)))) | (apply wpW_held; (case hC => assumption); (case h => (intro wa hCa; simp only [] at hCa; (first | (go_big_quiet_skip; exact wpQuiet_nil rfl) | (go_big_quiet_want; go_big_quiet_op; go_big_quiet_on; exact wpQuiet_nil rfl)))))))
  refine wpW_act (fun QQ hQQ => ?_) (by rfl)
  go_wp2
  (refine hQQ _ _ ?hCn ?_; (case hCn => trivial); clear hQQ QQ)
  (repeat (first | (apply wpW_light; (case h => (intro wa; (first | (go_big_quiet_skip; exact wpQuiet_nil rfl) | (go_big_quiet_want; go_big_quiet_op; go_big_quiet_on; exact wpQuiet_nil rfl))))) | (apply wpW_here; (case h => (first | (go_big_quiet_skip; exact wpQuiet_nil rfl) | (go_big_quiet_want; go_big_quiet_op; go_big_quiet_on; exact wpQuiet_nil rfl)))) | (apply wpW_held; (case hC => assumption); (case h => (intro wa hCa; simp only [] at hCa; (first | (go_big_quiet_skip; exact wpQuiet_nil rfl) | (go_big_quiet_want; go_big_quiet_op; go_big_quiet_on; exact wpQuiet_nil rfl)))))))
  refine wpW_last (fun QQ hQQ => ?_) (by rfl)
  go_wp2
  (refine hQQ.out _ _ ?_; clear hQQ QQ)
  (repeat (first | (apply wpW_light; (case h => (intro wa; (first | (go_big_quiet_skip; exact wpQuiet_nil rfl) | (go_big_quiet_want; go_big_quiet_op; go_big_quiet_on; exact wpQuiet_nil rfl))))) | (apply wpW_here; (case h => (first | (go_big_quiet_skip; exact wpQuiet_nil rfl) | (go_big_quiet_want; go_big_quiet_op; go_big_quiet_on; exact wpQuiet_nil rfl)))) | (apply wpW_held; (case hC => assumption); (case h => (intro wa hCa; simp only [] at hCa; (first | (go_big_quiet_skip; exact wpQuiet_nil rfl) | (go_big_quiet_want; go_big_quiet_op; go_big_quiet_on; exact wpQuiet_nil rfl)))))))
  refine wpW_nil ?_
  go_wp2
  (try simp only [Exit.inBlock, Exit.then])
  obtain ⟨o1, o2, o3, o4⟩ := outs hy1.out hp1.out (by omega) b1 m c1 t E.k0 E.k1 E.s0 E.s1
  refine bodyPost_ret (results_bits_du_tmp (by rfl) _ _ (W.heap.size + 1) (W.heap.size + 1 + 1) _ _ _ _ _ _ rfl rfl o1 o2) rfl ?_
  exact ⟨b1, c1, by simp, o4 hr1'.out, o3 hbA.out (by omega) (by omega)⟩
end Go.Proofs.Ytcodofmghbgoeaa

/- Contracts of the package coder: encode, by halves; two halves. -/
namespace Go.Proofs.Ytcodofmghbgoeaa
open Go.RowKit Cad

set_option maxRecDepth 100000 in
set_option maxHeartbeats 8000000 in
/-- two halves -/
theorem Pcode_more (W : World) (b o ll cl : Nat) (l : List Int) (D E G : Du) (h : Nat) (hl : Row .u32 W (some ⟨b, o, none⟩) ll cl l) (h4 : ll ≤ 4000) (h2 : 2 ≤ ll) (hh : h = ll / 2) (m1 : Nat) (p1 : List Int) (t1 : Int) (m2 : Nat) (p2 : List Int) (t2 : Int) (m3 : Nat) (p3 : List Int) (t3 : Int)
    (c1 : ∀ w, Row .u32 w (some ⟨b, o, none⟩) ll cl l → ResD 36 #[.slice (some ⟨b, o, none⟩) h cl, .agg #[.int .i64 D.k0, .int .i64 D.k1, .int .u64 D.s0, .int .u64 D.s1]] w m1 p1 t1 E.k0 E.k1 E.s0 E.s1 0)
    (c2 : ∀ w, Row .u32 w (some ⟨b, o, none⟩) ll cl l → ResD 36 #[.slice (some ⟨b, o + h, none⟩) (ll - h) (cl - h), .agg #[.int .i64 E.k0, .int .i64 E.k1, .int .u64 E.s0, .int .u64 E.s1]] w m2 p2 t2 G.k0 G.k1 G.s0 G.s1 0)
    (cj : ∀ w b c b' c', Row .u8 w b m1 c p1 → Row .u8 w b' m2 c' p2 → Res 24 #[.agg #[.slice b m1 c, .int .i64 t1], .agg #[.slice b' m2 c', .int .i64 t2]] w m3 p3 t3 0) :
    ResD 36 #[.slice (some ⟨b, o, none⟩) ll cl, .agg #[.int .i64 D.k0, .int .i64 D.k1, .int .u64 D.s0, .int .u64 D.s1]] W m3 p3 t3 G.k0 G.k1 G.s0 G.s1 0 := by
  unfold ResD at c1 c2 ⊢
  unfold Res at cj
  have c1' := Go.Lib.hid c1
  have c2' := Go.Lib.hid c2
  have cj' := Go.Lib.hid cj
  have hcap := hl.hcap
  obtain ⟨W0, hW0, hbE, hsz0, hd0, hy0, hp0⟩ := dbd_boxes W D.k0 D.k1 D.s0 D.s1
  have A0 := Go.Lib.hid (⟨hd0, hy0, hp0, hl.below hbE (Nat.le_refl _), hbE⟩ : EncAt W (some ⟨b, o, none⟩) ll cl l W0 D)
  clear hd0 hy0 hp0 hbE hl c1 c2 cj
  have n0 : ((ll : Int) == 0) = false := by rw [beq_eq_false_iff_ne]; omega
  have n1 : ((ll : Int) == 1) = false := by rw [beq_eq_false_iff_ne]; omega
  have e8 : IntKind.i64.wrap ((ll : Int) / 2) = (h : Int) := by rw [IntWalk.i64_in _ (by omega)]; omega
  have hle : h < ll := by omega
  have hle2 : h < cl := by omega
  clear hh
  go_enter Try.func36, Try.ntmps36
  go_wp2
  rw [← hW0]
  clear hW0
  go_cut [8, 9] (fun s8 s9 wx => ∃ (x : Nat) (b1 : Option Addr) (k1 : Nat), s8 = .pointer (some ⟨x, 0, none⟩) ∧ s9 = .int .i64 0 ∧ W.heap.size + 1 + 1 < x ∧ BoxAt wx x (.slice b1 m1 k1) t1 ∧ Row .u8 wx b1 m1 k1 p1 ∧ EncAt W (some ⟨b, o, none⟩) ll cl l wx E)
  case first =>
    refine wp_region_ord2 (fun w' => DuAt w' W.heap.size D.k0 D.k1 D.s0 D.s1) 4 9 [(0, 0), (1, 0), (2, 0), (3, 2), (4, 4), (5, 0), (6, 0), (7, 0), (8, 0), (9, 4), (10, 4), (11, 4), (12, 0)] [(0, 0), (1, 0), (2, 0), (3, 2), (9, 3), (4, 4), (5, 0), (6, 0), (7, 0), (8, 0), (10, 4), (11, 4), (12, 0)] (by kernel_rfl) (by decide) (by kernel_rfl) (by kernel_rfl) ?hC0 ?_ ?_
    case hC0 => exact A0.out.d.drew
    · simp only [pick, nth]
      refine wpW_name ?_
      intro q0 hq0
      have A1 := Go.Lib.hid (show EncAt W (some ⟨b, o, none⟩) ll cl l q0 D by rw [hq0]; exact A0.out.drew)
      clear hq0 A0
      have dA := Go.Lib.hid A1.out.d
      (repeat (first | (apply wpW_light; (case h => (intro wa; (first | (go_big_quiet_skip; exact wpQuiet_nil rfl) | (go_big_quiet_want; go_big_quiet_op; go_big_quiet_on; exact wpQuiet_nil rfl))))) | (apply wpW_here; (case h => (first | (go_big_quiet_skip; exact wpQuiet_nil rfl) | (go_big_quiet_want; go_big_quiet_op; go_big_quiet_on; exact wpQuiet_nil rfl)))) | (apply wpW_held; (case hC => assumption); (case h => (intro wa hCa; obtain ⟨u0, u1, u2, u3, u4, u5, u6, u7⟩ := hCa.cells; (first | (go_big_quiet_skip; exact wpQuiet_nil rfl) | (go_big_quiet_want; go_big_quiet_op; go_big_quiet_on; exact wpQuiet_nil rfl)))))))
      clear dA
      refine wpW_last (fun QQ hQQ => ?_) (by rfl)
      go_wp2_with (go_at_call 36; with_reducible refine (c1'.out _ A1.out.l).mono ?_; rintro e q1 ⟨ba, ka, rfl, ra, hb⟩)
      (refine hQQ.out _ _ ?_; clear hQQ QQ)
      have A2 := Go.Lib.hid (A1.out.below hb)
      have ra2 := Go.Lib.hid ra
      clear ra hb
      (repeat (first | (apply wpW_light; (case h => (intro wa; (first | (go_big_quiet_skip; exact wpQuiet_nil rfl) | (go_big_quiet_want; go_big_quiet_op; go_big_quiet_on; exact wpQuiet_nil rfl))))) | (apply wpW_here; (case h => (first | (go_big_quiet_skip; exact wpQuiet_nil rfl) | (go_big_quiet_want; go_big_quiet_op; go_big_quiet_on; exact wpQuiet_nil rfl)))) | (apply wpW_held; (case hC => assumption); (case h => (intro wa hCa; simp only [] at hCa; (first | (go_big_quiet_skip; exact wpQuiet_nil rfl) | (go_big_quiet_want; go_big_quiet_op; go_big_quiet_on; exact wpQuiet_nil rfl)))))))
      refine wpW_last (fun QQ hQQ => ?_) (by rfl)
      go_wp2
      (refine hQQ.out _ _ ?_; clear hQQ QQ)
      refine wpW_name ?_
      intro q2 hq
      have hb : Below q1.heap.size q1 q2 := by rw [hq]; exact below1 q1 _
      have nb3 := Go.Lib.hid (show BoxAt q2 q1.heap.size (.slice none 0 0) 0 by rw [hq]; exact box1 q1 _ _)
      have gx : W.heap.size + 1 + 1 < q1.heap.size := A2.out.sz
      obtain ⟨y, hy⟩ : ∃ y, y = q1.heap.size := ⟨_, rfl⟩
      rw [← hy] at nb3 gx ⊢
      have A3 := Go.Lib.hid (A2.out.below hb)
      have ra3 := Go.Lib.hid (ra2.out.below hb (Nat.le_refl _))
      clear hq hb hy
      (repeat (first | (apply wpW_light; (case h => (intro wa; (first | (go_big_quiet_skip; exact wpQuiet_nil rfl) | (go_big_quiet_want; go_big_quiet_op; go_big_quiet_on; exact wpQuiet_nil rfl))))) | (apply wpW_here; (case h => (first | (go_big_quiet_skip; exact wpQuiet_nil rfl) | (go_big_quiet_want; go_big_quiet_op; go_big_quiet_on; exact wpQuiet_nil rfl)))) | (apply wpW_held; (case hC => assumption); (case h => (intro wa hCa; simp only [] at hCa; (first | (go_big_quiet_skip; exact wpQuiet_nil rfl) | (go_big_quiet_want; go_big_quiet_op; go_big_quiet_on; exact wpQuiet_nil rfl)))))))
      obtain ⟨f0, f1, f2, f3⟩ := nb3.out.cells
      refine wpW_last (fun QQ hQQ => ?_) (by rfl)
      go_wp2
      (refine hQQ.out _ _ ?_; clear hQQ QQ)
      refine wpW_name ?_
      intro q3 hq
      have A4 := Go.Lib.hid (show EncAt W (some ⟨b, o, none⟩) ll cl l q3 D by rw [hq]; exact A3.out.box nb3.out gx _ _)
      have nb4 := Go.Lib.hid (show BoxAt q3 y (.slice ba m1 ka) t1 by rw [hq]; exact nb3.out.set _ _)
      have ra4 := Go.Lib.hid (show Row .u8 q3 ba m1 ka p1 by rw [hq]; exact (ra3.out.box nb3.out 0 _).box (nb3.out.set0 _) 1 _)
      clear hq f0 f1 f2 f3
      (repeat (first | (apply wpW_light; (case h => (intro wa; (first | (go_big_quiet_skip; exact wpQuiet_nil rfl) | (go_big_quiet_want; go_big_quiet_op; go_big_quiet_on; exact wpQuiet_nil rfl))))) | (apply wpW_here; (case h => (first | (go_big_quiet_skip; exact wpQuiet_nil rfl) | (go_big_quiet_want; go_big_quiet_op; go_big_quiet_on; exact wpQuiet_nil rfl)))) | (apply wpW_held; (case hC => assumption); (case h => (intro wa hCa; simp only [] at hCa; (first | (go_big_quiet_skip; exact wpQuiet_nil rfl) | (go_big_quiet_want; go_big_quiet_op; go_big_quiet_on; exact wpQuiet_nil rfl)))))))
      obtain ⟨g0, g1, g2, g3, g4, g5, g6, g7⟩ := A4.out.d.cells
      refine wpW_last (fun QQ hQQ => ?_) (by rfl)
      go_wp2
      (refine hQQ.out _ _ ?_; clear hQQ QQ)
      (repeat (first | (apply wpW_light; (case h => (intro wa; (first | (go_big_quiet_skip; exact wpQuiet_nil rfl) | (go_big_quiet_want; go_big_quiet_op; go_big_quiet_on; exact wpQuiet_nil rfl))))) | (apply wpW_here; (case h => (first | (go_big_quiet_skip; exact wpQuiet_nil rfl) | (go_big_quiet_want; go_big_quiet_op; go_big_quiet_on; exact wpQuiet_nil rfl)))) | (apply wpW_held; (case hC => assumption); (case h => (intro wa hCa; simp only [] at hCa; (first | (go_big_quiet_skip; exact wpQuiet_nil rfl) | (go_big_quiet_want; go_big_quiet_op; go_big_quiet_on; exact wpQuiet_nil rfl)))))))
      refine wpW_nil ?_
      go_wp2_with (fail)
      go_meet
      have ny : y ≠ W.heap.size := by omega
      exact ⟨y, ba, ka, rfl, rfl, gx, (((nb4.out.other ny _).other ny _).other ny _).other ny _, (((ra4.out.boxD (.inl rfl) A4.out.d 0 _).boxD (.inl rfl) (A4.out.d.set0 _) 1 _).boxD (.inl rfl) ((A4.out.d.set0 _).set1 _) 2 _).boxD (.inl rfl) (((A4.out.d.set0 _).set1 _).set2 _) 3 _, A4.out.next E⟩
    · simp only [pick, nth]
      refine wpW_name ?_
      intro q0 hq0
      have A1 := Go.Lib.hid (show EncAt W (some ⟨b, o, none⟩) ll cl l q0 D by rw [hq0]; exact A0.out.drew)
      clear hq0 A0
      have dA := Go.Lib.hid A1.out.d
      (repeat (first | (apply wpW_light; (case h => (intro wa; (first | (go_big_quiet_skip; exact wpQuiet_nil rfl) | (go_big_quiet_want; go_big_quiet_op; go_big_quiet_on; exact wpQuiet_nil rfl))))) | (apply wpW_here; (case h => (first | (go_big_quiet_skip; exact wpQuiet_nil rfl) | (go_big_quiet_want; go_big_quiet_op; go_big_quiet_on; exact wpQuiet_nil rfl)))) | (apply wpW_held; (case hC => assumption); (case h => (intro wa hCa; obtain ⟨u0, u1, u2, u3, u4, u5, u6, u7⟩ := hCa.cells; (first | (go_big_quiet_skip; exact wpQuiet_nil rfl) | (go_big_quiet_want; go_big_quiet_op; go_big_quiet_on; exact wpQuiet_nil rfl)))))))
      clear dA
      refine wpW_act (fun QQ hQQ => ?_) (by rfl)
      go_wp2
      (refine hQQ _ _ ?hCn ?_; (case hCn => exact A1.out.d.alloc _); clear hQQ QQ)
      refine wpW_name ?_
      intro q1 hq
      have hb : Below q0.heap.size q0 q1 := by rw [hq]; exact below1 q0 _
      have nb2 := Go.Lib.hid (show BoxAt q1 q0.heap.size (.slice none 0 0) 0 by rw [hq]; exact box1 q0 _ _)
      have gx : W.heap.size + 1 + 1 < q0.heap.size := A1.out.sz
      obtain ⟨y, hy⟩ : ∃ y, y = q0.heap.size := ⟨_, rfl⟩
      rw [← hy] at nb2 gx ⊢
      have A2 := Go.Lib.hid (A1.out.below hb)
      clear hq hb hy
      refine wpW_last (fun QQ hQQ => ?_) (by rfl)
      go_wp2_with (go_at_call 36; with_reducible refine (c1'.out _ A2.out.l).mono ?_; rintro e q2 ⟨ba, ka, rfl, ra, hb⟩)
      (refine hQQ.out _ _ ?_; clear hQQ QQ)
      have A3 := Go.Lib.hid (A2.out.below hb)
      have ra3 := Go.Lib.hid ra
      have nb3 := Go.Lib.hid (nb2.out.below hb nb2.out.lt)
      clear ra hb
      (repeat (first | (apply wpW_light; (case h => (intro wa; (first | (go_big_quiet_skip; exact wpQuiet_nil rfl) | (go_big_quiet_want; go_big_quiet_op; go_big_quiet_on; exact wpQuiet_nil rfl))))) | (apply wpW_here; (case h => (first | (go_big_quiet_skip; exact wpQuiet_nil rfl) | (go_big_quiet_want; go_big_quiet_op; go_big_quiet_on; exact wpQuiet_nil rfl)))) | (apply wpW_held; (case hC => assumption); (case h => (intro wa hCa; simp only [] at hCa; (first | (go_big_quiet_skip; exact wpQuiet_nil rfl) | (go_big_quiet_want; go_big_quiet_op; go_big_quiet_on; exact wpQuiet_nil rfl)))))))
      (repeat (first | (apply wpW_light; (case h => (intro wa; (first | (go_big_quiet_skip; exact wpQuiet_nil rfl) | (go_big_quiet_want; go_big_quiet_op; go_big_quiet_on; exact wpQuiet_nil rfl))))) | (apply wpW_here; (case h => (first | (go_big_quiet_skip; exact wpQuiet_nil rfl) | (go_big_quiet_want; go_big_quiet_op; go_big_quiet_on; exact wpQuiet_nil rfl)))) | (apply wpW_held; (case hC => assumption); (case h => (intro wa hCa; simp only [] at hCa; (first | (go_big_quiet_skip; exact wpQuiet_nil rfl) | (go_big_quiet_want; go_big_quiet_op; go_big_quiet_on; exact wpQuiet_nil rfl)))))))
      obtain ⟨f0, f1, f2, f3⟩ := nb3.out.cells
      refine wpW_last (fun QQ hQQ => ?_) (by rfl)
      go_wp2
      (refine hQQ.out _ _ ?_; clear hQQ QQ)
      refine wpW_name ?_
      intro q3 hq
      have A4 := Go.Lib.hid (show EncAt W (some ⟨b, o, none⟩) ll cl l q3 D by rw [hq]; exact A3.out.box nb3.out gx _ _)
      have nb4 := Go.Lib.hid (show BoxAt q3 y (.slice ba m1 ka) t1 by rw [hq]; exact nb3.out.set _ _)
      have ra4 := Go.Lib.hid (show Row .u8 q3 ba m1 ka p1 by rw [hq]; exact (ra3.out.box nb3.out 0 _).box (nb3.out.set0 _) 1 _)
      clear hq f0 f1 f2 f3
      (repeat (first | (apply wpW_light; (case h => (intro wa; (first | (go_big_quiet_skip; exact wpQuiet_nil rfl) | (go_big_quiet_want; go_big_quiet_op; go_big_quiet_on; exact wpQuiet_nil rfl))))) | (apply wpW_here; (case h => (first | (go_big_quiet_skip; exact wpQuiet_nil rfl) | (go_big_quiet_want; go_big_quiet_op; go_big_quiet_on; exact wpQuiet_nil rfl)))) | (apply wpW_held; (case hC => assumption); (case h => (intro wa hCa; simp only [] at hCa; (first | (go_big_quiet_skip; exact wpQuiet_nil rfl) | (go_big_quiet_want; go_big_quiet_op; go_big_quiet_on; exact wpQuiet_nil rfl)))))))
      obtain ⟨g0, g1, g2, g3, g4, g5, g6, g7⟩ := A4.out.d.cells
      refine wpW_last (fun QQ hQQ => ?_) (by rfl)
      go_wp2
      (refine hQQ.out _ _ ?_; clear hQQ QQ)
      (repeat (first | (apply wpW_light; (case h => (intro wa; (first | (go_big_quiet_skip; exact wpQuiet_nil rfl) | (go_big_quiet_want; go_big_quiet_op; go_big_quiet_on; exact wpQuiet_nil rfl))))) | (apply wpW_here; (case h => (first | (go_big_quiet_skip; exact wpQuiet_nil rfl) | (go_big_quiet_want; go_big_quiet_op; go_big_quiet_on; exact wpQuiet_nil rfl)))) | (apply wpW_held; (case hC => assumption); (case h => (intro wa hCa; simp only [] at hCa; (first | (go_big_quiet_skip; exact wpQuiet_nil rfl) | (go_big_quiet_want; go_big_quiet_op; go_big_quiet_on; exact wpQuiet_nil rfl)))))))
      refine wpW_nil ?_
      go_wp2_with (fail)
      go_meet
      have ny : y ≠ W.heap.size := by omega
      exact ⟨y, ba, ka, rfl, rfl, gx, (((nb4.out.other ny _).other ny _).other ny _).other ny _, (((ra4.out.boxD (.inl rfl) A4.out.d 0 _).boxD (.inl rfl) (A4.out.d.set0 _) 1 _).boxD (.inl rfl) ((A4.out.d.set0 _).set1 _) 2 _).boxD (.inl rfl) (((A4.out.d.set0 _).set1 _).set2 _) 3 _, A4.out.next E⟩
  case rest =>
  obtain ⟨x, b1, k1, rfl, rfl, hx, X0', R0', A0'⟩ := hcut
  have X0 := Go.Lib.hid X0'
  have R0 := Go.Lib.hid R0'
  clear A0
  have A0 := Go.Lib.hid A0'
  clear X0' R0' A0' c1'
  go_wp2
  go_cut [10, 9] (fun s10 s9 wx => ∃ (y : Nat) (b2 : Option Addr) (k2 : Nat), s10 = .pointer (some ⟨y, 0, none⟩) ∧ s9 = .int .i64 0 ∧ BoxAt wx y (.slice b2 m2 k2) t2 ∧ Row .u8 wx b2 m2 k2 p2 ∧ BoxAt wx x (.slice b1 m1 k1) t1 ∧ Row .u8 wx b1 m1 k1 p1 ∧ EncAt W (some ⟨b, o, none⟩) ll cl l wx G)
  case first =>
    refine wp_region_ord2 (fun w' => DuAt w' W.heap.size E.k0 E.k1 E.s0 E.s1) 4 9 [(0, 0), (1, 0), (2, 0), (3, 2), (4, 4), (5, 0), (6, 0), (7, 0), (8, 0), (9, 4), (10, 4), (11, 4), (12, 0)] [(0, 0), (1, 0), (2, 0), (3, 2), (9, 3), (4, 4), (5, 0), (6, 0), (7, 0), (8, 0), (10, 4), (11, 4), (12, 0)] (by kernel_rfl) (by decide) (by kernel_rfl) (by kernel_rfl) ?hC0 ?_ ?_
    case hC0 => exact A0.out.d.drew
    · simp only [pick, nth]
      refine wpW_name ?_
      intro q0 hq0
      have A1 := Go.Lib.hid (show EncAt W (some ⟨b, o, none⟩) ll cl l q0 E by rw [hq0]; exact A0.out.drew)
      have X1 := Go.Lib.hid (show BoxAt q0 x (.slice b1 m1 k1) t1 by rw [hq0]; exact X0.out.drew)
      have R1 := Go.Lib.hid (show Row .u8 q0 b1 m1 k1 p1 by rw [hq0]; exact R0.out.below (Below.refl _ _).drew (Nat.le_refl _))
      clear hq0 A0 X0 R0
      have dA := Go.Lib.hid A1.out.d
      (repeat (first | (apply wpW_light; (case h => (intro wa; (first | (go_big_quiet_skip; exact wpQuiet_nil rfl) | (go_big_quiet_want; go_big_quiet_op; go_big_quiet_on; exact wpQuiet_nil rfl))))) | (apply wpW_here; (case h => (first | (go_big_quiet_skip; exact wpQuiet_nil rfl) | (go_big_quiet_want; go_big_quiet_op; go_big_quiet_on; exact wpQuiet_nil rfl)))) | (apply wpW_held; (case hC => assumption); (case h => (intro wa hCa; obtain ⟨u0, u1, u2, u3, u4, u5, u6, u7⟩ := hCa.cells; (first | (go_big_quiet_skip; exact wpQuiet_nil rfl) | (go_big_quiet_want; go_big_quiet_op; go_big_quiet_on; exact wpQuiet_nil rfl)))))))
      clear dA
      refine wpW_last (fun QQ hQQ => ?_) (by rfl)
      go_wp2_with (go_at_call 36; with_reducible refine (c2'.out _ A1.out.l).mono ?_; rintro e q1 ⟨ba, ka, rfl, ra, hb⟩)
      (refine hQQ.out _ _ ?_; clear hQQ QQ)
      have A2 := Go.Lib.hid (A1.out.below hb)
      have X2 := Go.Lib.hid (X1.out.below hb X1.out.lt)
      have R2 := Go.Lib.hid (R1.out.below hb (Nat.le_refl _))
      have ra2 := Go.Lib.hid ra
      clear ra hb
      (repeat (first | (apply wpW_light; (case h => (intro wa; (first | (go_big_quiet_skip; exact wpQuiet_nil rfl) | (go_big_quiet_want; go_big_quiet_op; go_big_quiet_on; exact wpQuiet_nil rfl))))) | (apply wpW_here; (case h => (first | (go_big_quiet_skip; exact wpQuiet_nil rfl) | (go_big_quiet_want; go_big_quiet_op; go_big_quiet_on; exact wpQuiet_nil rfl)))) | (apply wpW_held; (case hC => assumption); (case h => (intro wa hCa; simp only [] at hCa; (first | (go_big_quiet_skip; exact wpQuiet_nil rfl) | (go_big_quiet_want; go_big_quiet_op; go_big_quiet_on; exact wpQuiet_nil rfl)))))))
      refine wpW_last (fun QQ hQQ => ?_) (by rfl)
      go_wp2
      (refine hQQ.out _ _ ?_; clear hQQ QQ)
      refine wpW_name ?_
      intro q2 hq
      have hb : Below q1.heap.size q1 q2 := by rw [hq]; exact below1 q1 _
      have nb3 := Go.Lib.hid (show BoxAt q2 q1.heap.size (.slice none 0 0) 0 by rw [hq]; exact box1 q1 _ _)
      have gx : W.heap.size + 1 + 1 < q1.heap.size := A2.out.sz
      have nx : x ≠ q1.heap.size := Nat.ne_of_lt X2.out.lt
      obtain ⟨y, hy⟩ : ∃ y, y = q1.heap.size := ⟨_, rfl⟩
      rw [← hy] at nb3 gx nx ⊢
      have A3 := Go.Lib.hid (A2.out.below hb)
      have X3 := Go.Lib.hid (X2.out.below hb X2.out.lt)
      have R3 := Go.Lib.hid (R2.out.below hb (Nat.le_refl _))
      have ra3 := Go.Lib.hid (ra2.out.below hb (Nat.le_refl _))
      clear hq hb hy
      (repeat (first | (apply wpW_light; (case h => (intro wa; (first | (go_big_quiet_skip; exact wpQuiet_nil rfl) | (go_big_quiet_want; go_big_quiet_op; go_big_quiet_on; exact wpQuiet_nil rfl))))) | (apply wpW_here; (case h => (first | (go_big_quiet_skip; exact wpQuiet_nil rfl) | (go_big_quiet_want; go_big_quiet_op; go_big_quiet_on; exact wpQuiet_nil rfl)))) | (apply wpW_held; (case hC => assumption); (case h => (intro wa hCa; simp only [] at hCa; (first | (go_big_quiet_skip; exact wpQuiet_nil rfl) | (go_big_quiet_want; go_big_quiet_op; go_big_quiet_on; exact wpQuiet_nil rfl)))))))
      obtain ⟨f0, f1, f2, f3⟩ := nb3.out.cells
      refine wpW_last (fun QQ hQQ => ?_) (by rfl)
      go_wp2
      (refine hQQ.out _ _ ?_; clear hQQ QQ)
      refine wpW_name ?_
      intro q3 hq
      have A4 := Go.Lib.hid (show EncAt W (some ⟨b, o, none⟩) ll cl l q3 E by rw [hq]; exact A3.out.box nb3.out gx _ _)
      have nb4 := Go.Lib.hid (show BoxAt q3 y (.slice ba m2 ka) t2 by rw [hq]; exact nb3.out.set _ _)
      have ra4 := Go.Lib.hid (show Row .u8 q3 ba m2 ka p2 by rw [hq]; exact (ra3.out.box nb3.out 0 _).box (nb3.out.set0 _) 1 _)
      have X4 := Go.Lib.hid (show BoxAt q3 x (.slice b1 m1 k1) t1 by rw [hq]; exact (X3.out.other nx _).other nx _)
      have R4 := Go.Lib.hid (show Row .u8 q3 b1 m1 k1 p1 by rw [hq]; exact (R3.out.box nb3.out 0 _).box (nb3.out.set0 _) 1 _)
      clear hq f0 f1 f2 f3
      (repeat (first | (apply wpW_light; (case h => (intro wa; (first | (go_big_quiet_skip; exact wpQuiet_nil rfl) | (go_big_quiet_want; go_big_quiet_op; go_big_quiet_on; exact wpQuiet_nil rfl))))) | (apply wpW_here; (case h => (first | (go_big_quiet_skip; exact wpQuiet_nil rfl) | (go_big_quiet_want; go_big_quiet_op; go_big_quiet_on; exact wpQuiet_nil rfl)))) | (apply wpW_held; (case hC => assumption); (case h => (intro wa hCa; simp only [] at hCa; (first | (go_big_quiet_skip; exact wpQuiet_nil rfl) | (go_big_quiet_want; go_big_quiet_op; go_big_quiet_on; exact wpQuiet_nil rfl)))))))
      obtain ⟨g0, g1, g2, g3, g4, g5, g6, g7⟩ := A4.out.d.cells
      refine wpW_last (fun QQ hQQ => ?_) (by rfl)
      go_wp2
      (refine hQQ.out _ _ ?_; clear hQQ QQ)
      (repeat (first | (apply wpW_light; (case h => (intro wa; (first | (go_big_quiet_skip; exact wpQuiet_nil rfl) | (go_big_quiet_want; go_big_quiet_op; go_big_quiet_on; exact wpQuiet_nil rfl))))) | (apply wpW_here; (case h => (first | (go_big_quiet_skip; exact wpQuiet_nil rfl) | (go_big_quiet_want; go_big_quiet_op; go_big_quiet_on; exact wpQuiet_nil rfl)))) | (apply wpW_held; (case hC => assumption); (case h => (intro wa hCa; simp only [] at hCa; (first | (go_big_quiet_skip; exact wpQuiet_nil rfl) | (go_big_quiet_want; go_big_quiet_op; go_big_quiet_on; exact wpQuiet_nil rfl)))))))
      refine wpW_nil ?_
      go_wp2_with (fail)
      go_meet
      have ny : y ≠ W.heap.size := by omega
      have nz : x ≠ W.heap.size := by omega
      exact ⟨y, ba, ka, rfl, rfl, (((nb4.out.other ny _).other ny _).other ny _).other ny _, (((ra4.out.boxD (.inl rfl) A4.out.d 0 _).boxD (.inl rfl) (A4.out.d.set0 _) 1 _).boxD (.inl rfl) ((A4.out.d.set0 _).set1 _) 2 _).boxD (.inl rfl) (((A4.out.d.set0 _).set1 _).set2 _) 3 _, (((X4.out.other nz _).other nz _).other nz _).other nz _, (((R4.out.boxD (.inl rfl) A4.out.d 0 _).boxD (.inl rfl) (A4.out.d.set0 _) 1 _).boxD (.inl rfl) ((A4.out.d.set0 _).set1 _) 2 _).boxD (.inl rfl) (((A4.out.d.set0 _).set1 _).set2 _) 3 _, A4.out.next G⟩
    · simp only [pick, nth]
      refine wpW_name ?_
      intro q0 hq0
      have A1 := Go.Lib.hid (show EncAt W (some ⟨b, o, none⟩) ll cl l q0 E by rw [hq0]; exact A0.out.drew)
      have X1 := Go.Lib.hid (show BoxAt q0 x (.slice b1 m1 k1) t1 by rw [hq0]; exact X0.out.drew)
      have R1 := Go.Lib.hid (show Row .u8 q0 b1 m1 k1 p1 by rw [hq0]; exact R0.out.below (Below.refl _ _).drew (Nat.le_refl _))
      clear hq0 A0 X0 R0
      have dA := Go.Lib.hid A1.out.d
      (repeat (first | (apply wpW_light; (case h => (intro wa; (first | (go_big_quiet_skip; exact wpQuiet_nil rfl) | (go_big_quiet_want; go_big_quiet_op; go_big_quiet_on; exact wpQuiet_nil rfl))))) | (apply wpW_here; (case h => (first | (go_big_quiet_skip; exact wpQuiet_nil rfl) | (go_big_quiet_want; go_big_quiet_op; go_big_quiet_on; exact wpQuiet_nil rfl)))) | (apply wpW_held; (case hC => assumption); (case h => (intro wa hCa; obtain ⟨u0, u1, u2, u3, u4, u5, u6, u7⟩ := hCa.cells; (first | (go_big_quiet_skip; exact wpQuiet_nil rfl) | (go_big_quiet_want; go_big_quiet_op; go_big_quiet_on; exact wpQuiet_nil rfl)))))))
      clear dA
      refine wpW_act (fun QQ hQQ => ?_) (by rfl)
      go_wp2
      (refine hQQ _ _ ?hCn ?_; (case hCn => exact A1.out.d.alloc _); clear hQQ QQ)
      refine wpW_name ?_
      intro q1 hq
      have hb : Below q0.heap.size q0 q1 := by rw [hq]; exact below1 q0 _
      have nb2 := Go.Lib.hid (show BoxAt q1 q0.heap.size (.slice none 0 0) 0 by rw [hq]; exact box1 q0 _ _)
      have gx : W.heap.size + 1 + 1 < q0.heap.size := A1.out.sz
      have nx : x ≠ q0.heap.size := Nat.ne_of_lt X1.out.lt
      obtain ⟨y, hy⟩ : ∃ y, y = q0.heap.size := ⟨_, rfl⟩
      rw [← hy] at nb2 gx nx ⊢
      have A2 := Go.Lib.hid (A1.out.below hb)
      have X2 := Go.Lib.hid (X1.out.below hb X1.out.lt)
      have R2 := Go.Lib.hid (R1.out.below hb (Nat.le_refl _))
      clear hq hb hy
      refine wpW_last (fun QQ hQQ => ?_) (by rfl)
      go_wp2_with (go_at_call 36; with_reducible refine (c2'.out _ A2.out.l).mono ?_; rintro e q2 ⟨ba, ka, rfl, ra, hb⟩)
      (refine hQQ.out _ _ ?_; clear hQQ QQ)
      have A3 := Go.Lib.hid (A2.out.below hb)
      have X3 := Go.Lib.hid (X2.out.below hb X2.out.lt)
      have R3 := Go.Lib.hid (R2.out.below hb (Nat.le_refl _))
      have ra3 := Go.Lib.hid ra
      have nb3 := Go.Lib.hid (nb2.out.below hb nb2.out.lt)
      clear ra hb
      (repeat (first | (apply wpW_light; (case h => (intro wa; (first | (go_big_quiet_skip; exact wpQuiet_nil rfl) | (go_big_quiet_want; go_big_quiet_op; go_big_quiet_on; exact wpQuiet_nil rfl))))) | (apply wpW_here; (case h => (first | (go_big_quiet_skip; exact wpQuiet_nil rfl) | (go_big_quiet_want; go_big_quiet_op; go_big_quiet_on; exact wpQuiet_nil rfl)))) | (apply wpW_held; (case hC => assumption); (case h => (intro wa hCa; simp only [] at hCa; (first | (go_big_quiet_skip; exact wpQuiet_nil rfl) | (go_big_quiet_want; go_big_quiet_op; go_big_quiet_on; exact wpQuiet_nil rfl)))))))
      (repeat (first | (apply wpW_light; (case h => (intro wa; (first | (go_big_quiet_skip; exact wpQuiet_nil rfl) | (go_big_quiet_want; go_big_quiet_op; go_big_quiet_on; exact wpQuiet_nil rfl))))) | (apply wpW_here; (case h => (first | (go_big_quiet_skip; exact wpQuiet_nil rfl) | (go_big_quiet_want; go_big_quiet_op; go_big_quiet_on; exact wpQuiet_nil rfl)))) | (apply wpW_held; (case hC => assumption); (case h => (intro wa hCa; simp only [] at hCa; (first | (go_big_quiet_skip; exact wpQuiet_nil rfl) | (go_big_quiet_want; go_big_quiet_op; go_big_quiet_on; exact wpQuiet_nil rfl)))))))
      obtain ⟨f0, f1, f2, f3⟩ := nb3.out.cells
      refine wpW_last (fun QQ hQQ => ?_) (by rfl)
      go_wp2
      (refine hQQ.out _ _ ?_; clear hQQ QQ)
      refine wpW_name ?_
      intro q3 hq
      have A4 := Go.Lib.hid (show EncAt W (some ⟨b, o, none⟩) ll cl l q3 E by rw [hq]; exact A3.out.box nb3.out gx _ _)
      have nb4 := Go.Lib.hid (show BoxAt q3 y (.slice ba m2 ka) t2 by rw [hq]; exact nb3.out.set _ _)
      have ra4 := Go.Lib.hid (show Row .u8 q3 ba m2 ka p2 by rw [hq]; exact (ra3.out.box nb3.out 0 _).box (nb3.out.set0 _) 1 _)
      have X4 := Go.Lib.hid (show BoxAt q3 x (.slice b1 m1 k1) t1 by rw [hq]; exact (X3.out.other nx _).other nx _)
      have R4 := Go.Lib.hid (show Row .u8 q3 b1 m1 k1 p1 by rw [hq]; exact (R3.out.box nb3.out 0 _).box (nb3.out.set0 _) 1 _)
      clear hq f0 f1 f2 f3
      (repeat (first | (apply wpW_light; (case h => (intro wa; (first | (go_big_quiet_skip; exact wpQuiet_nil rfl) | (go_big_quiet_want; go_big_quiet_op; go_big_quiet_on; exact wpQuiet_nil rfl))))) | (apply wpW_here; (case h => (first | (go_big_quiet_skip; exact wpQuiet_nil rfl) | (go_big_quiet_want; go_big_quiet_op; go_big_quiet_on; exact wpQuiet_nil rfl)))) | (apply wpW_held; (case hC => assumption); (case h => (intro wa hCa; simp only [] at hCa; (first | (go_big_quiet_skip; exact wpQuiet_nil rfl) | (go_big_quiet_want; go_big_quiet_op; go_big_quiet_on; exact wpQuiet_nil rfl)))))))
      obtain ⟨g0, g1, g2, g3, g4, g5, g6, g7⟩ := A4.out.d.cells
      refine wpW_last (fun QQ hQQ => ?_) (by rfl)
      go_wp2
      (refine hQQ.out _ _ ?_; clear hQQ QQ)
      (repeat (first | (apply wpW_light; (case h => (intro wa; (first | (go_big_quiet_skip; exact wpQuiet_nil rfl) | (go_big_quiet_want; go_big_quiet_op; go_big_quiet_on; exact wpQuiet_nil rfl))))) | (apply wpW_here; (case h => (first | (go_big_quiet_skip; exact wpQuiet_nil rfl) | (go_big_quiet_want; go_big_quiet_op; go_big_quiet_on; exact wpQuiet_nil rfl)))) | (apply wpW_held; (case hC => assumption); (case h => (intro wa hCa; simp only [] at hCa; (first | (go_big_quiet_skip; exact wpQuiet_nil rfl) | (go_big_quiet_want; go_big_quiet_op; go_big_quiet_on; exact wpQuiet_nil rfl)))))))
      refine wpW_nil ?_
      go_wp2_with (fail)
      go_meet
      have ny : y ≠ W.heap.size := by omega
      have nz : x ≠ W.heap.size := by omega
      exact ⟨y, ba, ka, rfl, rfl, (((nb4.out.other ny _).other ny _).other ny _).other ny _, (((ra4.out.boxD (.inl rfl) A4.out.d 0 _).boxD (.inl rfl) (A4.out.d.set0 _) 1 _).boxD (.inl rfl) ((A4.out.d.set0 _).set1 _) 2 _).boxD (.inl rfl) (((A4.out.d.set0 _).set1 _).set2 _) 3 _, (((X4.out.other nz _).other nz _).other nz _).other nz _, (((R4.out.boxD (.inl rfl) A4.out.d 0 _).boxD (.inl rfl) (A4.out.d.set0 _) 1 _).boxD (.inl rfl) ((A4.out.d.set0 _).set1 _) 2 _).boxD (.inl rfl) (((A4.out.d.set0 _).set1 _).set2 _) 3 _, A4.out.next G⟩
  case rest =>
  obtain ⟨y, b2, k2, rfl, rfl, Y0', R2', X0', R0', A0'⟩ := hcut
  have Y0 := Go.Lib.hid Y0'
  have R2 := Go.Lib.hid R2'
  clear X0 R0 A0
  have X0 := Go.Lib.hid X0'
  have R0 := Go.Lib.hid R0'
  have A0 := Go.Lib.hid A0'
  clear X0' R0' A0' Y0' R2' c2'
  obtain ⟨x0, x1, x2, x3⟩ := X0.out.cells
  obtain ⟨y0, y1, y2, y3⟩ := Y0.out.cells
  go_wp2_with (go_at_call 24; with_reducible refine (cj'.out _ _ _ _ _ R0.out R2.out).mono ?_; rintro e w3 ⟨b3, k3, rfl, r3, hb3⟩; have A3 := Go.Lib.hid ((A0.out.below hb3).alloc (.cells #[.slice b3 m3 k3, .int .i64 t3] 27)); have R3 := Go.Lib.hid (r3.below (below1 w3 (.cells #[.slice b3 m3 k3, .int .i64 t3] 27)) (Nat.le_refl _)); have X3 := Go.Lib.hid (box1 w3 (.slice b3 m3 k3) t3); have hz3 := (A0.out.below hb3).sz; clear r3 hb3)
  obtain ⟨x8, hx8⟩ : ∃ x, x = w3.heap.size := ⟨_, rfl⟩
  obtain ⟨w4, hw4⟩ : ∃ w, w = w3.alloc (.cells #[.slice b3 m3 k3, .int .i64 t3] 27) := ⟨_, rfl⟩
  rw [← hx8, ← hw4] at X3
  rw [← hw4] at A3 R3
  rw [← hx8] at hz3
  try rw [← hw4]
  try rw [← hx8]
  clear x0 x1 x2 x3 y0 y1 y2 y3 hw4 hx8 X0 R0 Y0 R2 A0 cj'
  go_wp2
  refine wp_region_ord (fun w' => DuAt w' W.heap.size G.k0 G.k1 G.s0 G.s1) [(0, 1), (1, 2), (2, 3), (3, 4), (4, 0)] (by kernel_rfl) (by kernel_rfl) ?hC0 ?_
  case hC0 => exact A3.out.d.drew
  simp only [pick, nth]
  refine wpW_name ?_
  intro q0 hq0
  have A4 := Go.Lib.hid (show EncAt W (some ⟨b, o, none⟩) ll cl l q0 G by rw [hq0]; exact A3.out.drew)
  have R4 := Go.Lib.hid (show Row .u8 q0 b3 m3 k3 p3 by rw [hq0]; exact R3.out.below (Below.refl _ _).drew (Nat.le_refl _))
  have X4 := Go.Lib.hid (show BoxAt q0 x8 (.slice b3 m3 k3) t3 by rw [hq0]; exact X3.out.drew)
  clear hq0 A3 R3 X3
  obtain ⟨f0, f1, f2, f3⟩ := X4.out.cells
  have dA := Go.Lib.hid A4.out.d
  (repeat (first | (apply wpW_light; (case h => (intro wa; (first | (go_big_quiet_skip; exact wpQuiet_nil rfl) | (go_big_quiet_want; go_big_quiet_op; go_big_quiet_on; exact wpQuiet_nil rfl))))) | (apply wpW_here; (case h => (first | (go_big_quiet_skip; exact wpQuiet_nil rfl) | (go_big_quiet_want; go_big_quiet_op; go_big_quiet_on; exact wpQuiet_nil rfl)))) | (apply wpW_held; (case hC => assumption); (case h => (intro wa hCa; obtain ⟨u0, u1, u2, u3, u4, u5, u6, u7⟩ := hCa.cells; (first | (go_big_quiet_skip; exact wpQuiet_nil rfl) | (go_big_quiet_want; go_big_quiet_op; go_big_quiet_on; exact wpQuiet_nil rfl)))))))
  clear f0 f1 f2 f3 dA
  obtain ⟨f0, f1, f2, f3⟩ := A4.out.y.cells
  obtain ⟨g0, g1, g2, g3, g4, g5, g6, g7⟩ := A4.out.p.cells
  refine wpW_act (fun QQ hQQ => ?_) (by rfl)
  go_wp2
  (refine hQQ _ _ ?hCn ?_; (case hCn => exact (A4.out.d.other (by simp) _).other (by simp) _); clear hQQ QQ)
  (repeat (first | (apply wpW_light; (case h => (intro wa; (first | (go_big_quiet_skip; exact wpQuiet_nil rfl) | (go_big_quiet_want; go_big_quiet_op; go_big_quiet_on; exact wpQuiet_nil rfl))))) | (apply wpW_here; (case h => (first | (go_big_quiet_skip; exact wpQuiet_nil rfl) | (go_big_quiet_want; go_big_quiet_op; go_big_quiet_on; exact wpQuiet_nil rfl)))) | (apply wpW_held; (case hC => assumption); (case h => (intro wa hCa; simp only [] at hCa; (first | (go_big_quiet_skip; exact wpQuiet_nil rfl) | (go_big_quiet_want; go_big_quiet_op; go_big_quiet_on; exact wpQuiet_nil rfl)))))))
  refine wpW_last (fun QQ hQQ => ?_) (by rfl)
  go_wp2
  (refine hQQ.out _ _ ?_; clear hQQ QQ)
  (repeat (first | (apply wpW_light; (case h => (intro wa; (first | (go_big_quiet_skip; exact wpQuiet_nil rfl) | (go_big_quiet_want; go_big_quiet_op; go_big_quiet_on; exact wpQuiet_nil rfl))))) | (apply wpW_here; (case h => (first | (go_big_quiet_skip; exact wpQuiet_nil rfl) | (go_big_quiet_want; go_big_quiet_op; go_big_quiet_on; exact wpQuiet_nil rfl)))) | (apply wpW_held; (case hC => assumption); (case h => (intro wa hCa; simp only [] at hCa; (first | (go_big_quiet_skip; exact wpQuiet_nil rfl) | (go_big_quiet_want; go_big_quiet_op; go_big_quiet_on; exact wpQuiet_nil rfl)))))))
  refine wpW_nil ?_
  go_wp2
  (try simp only [Exit.inBlock, Exit.then])
  obtain ⟨o1, o2, o3, o4⟩ := outs A4.out.y A4.out.p (by omega) b3 m3 k3 t3 G.k0 G.k1 G.s0 G.s1
  refine bodyPost_ret (results_bits_du_tmp (by rfl) _ _ (W.heap.size + 1) (W.heap.size + 1 + 1) _ _ _ _ _ _ rfl rfl o1 o2) rfl ?_
  exact ⟨b3, k3, by simp, o4 R4.out, o3 A4.out.w (by omega) (by omega)⟩

end Go.Proofs.Ytcodofmghbgoeaa
