/- Texts of the proof, one behind the other: ResU, ResH, ResG, ResI, ResJ, ResX, TopC, BloL, ResL. -/
import Derived.Test.YthbjcjphplgobaaZ11
import Derived.Laws.CopyOwn
import Derived.Deep.DeepCutAuto
/- Contracts of the reference of resume: Feed. -/
namespace Go.Proofs.Ythbjcjphplgobaa
open Go.RowKit Cad

end Go.Proofs.Ythbjcjphplgobaa

/- Contracts of the package resume: Start, waits, Check. -/
namespace Go.Proofs.Ythbjcjphplgobaa
open Go.RowKit Cad

set_option maxRecDepth 100000 in
theorem PsStart_arg (W : World) (n : Int) (h : n < 0) :
    Calls Try.prog 33 #[.int .i64 n] W fun e W' => e = .returned (.tuple #[.agg #[.int .i64 0, .int .i64 0, .int .i64 0, .int .u64 0, .int .u64 0, .slice none 0 0, .int .i64 0], .int .i64 2]) ∧ Below W.heap.size W W' := by
  go_enter Try.func33, Try.ntmps33
  go_wp2
  go_returns
  exact ⟨rfl, (Below.refl _ _).alloc (Nat.le_refl _) _⟩
set_option maxRecDepth 100000 in
theorem PsStart_many (W : World) (n : Int) (h : 4000 < n) :
    Calls Try.prog 33 #[.int .i64 n] W fun e W' => e = .returned (.tuple #[.agg #[.int .i64 0, .int .i64 0, .int .i64 0, .int .u64 0, .int .u64 0, .slice none 0 0, .int .i64 0], .int .i64 4]) ∧ Below W.heap.size W W' := by
  have h0 : ¬ n < 0 := by omega
  go_enter Try.func33, Try.ntmps33
  go_wp2
  go_returns
  exact ⟨rfl, (Below.refl _ _).alloc (Nat.le_refl _) _⟩
set_option maxRecDepth 100000 in
theorem PsStart_ok (W : World) (n : Nat) (h : n ≤ 4000) :
    Calls Try.prog 33 #[.int .i64 n] W fun e W' => e = .returned (.tuple #[.agg #[.int .i64 n, .int .i64 10, .int .i64 10, .int .u64 16384, .int .u64 16384, .slice none 0 0, .int .i64 0], .int .i64 0]) ∧ Below W.heap.size W W' := by
  have h0 : ¬ (n : Int) < 0 := by omega
  have h1 : ¬ (4000 : Int) < n := by omega
  have st := Go.Lib.hid Dstart_ok
  have x0 := Go.Lib.hid (resat1 W 0 0 0 0 0 (.slice none 0 0) 0)
  have B0 := Go.Lib.hid (below1 W (.cells #[.int .i64 0, .int .i64 0, .int .i64 0, .int .u64 0, .int .u64 0, .slice none 0 0, .int .i64 0] 63))
  go_enter Try.func33, Try.ntmps33
  go_wp2_with (go_at_call 35; refine (st.out _).mono ?_; rintro e w1 ⟨rfl, hb1⟩; have x1 := Go.Lib.hid (x0.out.below hb1 x0.out.lt); have B1 := Go.Lib.hid (B0.out.trans (hb1.mono B0.out.size)); obtain ⟨f0, f1, f2, f3, f4, f5, f6, g0, g1, g2, g3, g4, g5, g6⟩ := x1.out.cells; clear hb1)
  (try simp only [Exit.inBlock, Exit.then])
  refine bodyPost_ret (results_res_tmp (by rfl) _ _ W.heap.size _ _ _ _ _ _ _ rfl (x1.out.set _ _ _ _ _ _ _)) rfl ?_
  exact ⟨by simp, below7 B1.out (Nat.le_refl _)⟩

/-- are the bits of a state too few? -/
theorem Pwaits_zero (W : World) (aa : Option Addr) (len cap : Nat) (a b c d N : Int) (q : Bool) (hq : decide (N < 8) = q) :
    Calls Try.prog 84 #[.agg #[.int .i64 0, .int .i64 a, .int .i64 b, .int .u64 c, .int .u64 d, .slice aa len cap, .int .i64 N]] W fun e W' => e = .returned (.bool q) ∧ Below W.heap.size W W' := by
  have x0 := Go.Lib.hid (resat1 W 0 a b c d (.slice aa len cap) N)
  have B0 := Go.Lib.hid (below1 W (.cells #[.int .i64 0, .int .i64 a, .int .i64 b, .int .u64 c, .int .u64 d, .slice aa len cap, .int .i64 N] 63))
  go_enter Try.func84, Try.ntmps84
  go_wp2
  go_ret
  exact ⟨by simp, B0.out⟩
set_option maxRecDepth 100000 in
set_option maxHeartbeats 1000000 in
theorem Pwaits_more (W : World) (aa : Option Addr) (len cap : Nat) (n : Int) (D : Du) (B : List Bool) (hd : D.ok) (hr : Row .u8 W aa len cap (pack B)) (hB : B.length ≤ 330000) (hn : n ≠ 0) (v p er : Nat) (hv : readD B 0 D = (v, p, er)) (q : Bool) (hq : decide (er = 24) = q) :
    Calls Try.prog 84 #[.agg #[.int .i64 n, .int .i64 D.k0, .int .i64 D.k1, .int .u64 D.s0, .int .u64 D.s1, .slice aa len cap, .int .i64 B.length]] W fun e W' => e = .returned (.bool q) ∧ Below W.heap.size W W' := by
  have x0 := Go.Lib.hid (resat1 W n D.k0 D.k1 D.s0 D.s1 (.slice aa len cap) B.length)
  have B0 := Go.Lib.hid (below1 W (.cells #[.int .i64 n, .int .i64 D.k0, .int .i64 D.k1, .int .u64 D.s0, .int .u64 D.s1, .slice aa len cap, .int .i64 B.length] 63))
  have hr' := Go.Lib.hid (hr.below B0.out (Nat.le_refl _))
  have rd : Hid (∀ w, Row .u8 w aa len cap (pack B) → ∃ v p a b c d, ResR 56 #[.agg #[.slice aa len cap, .int .i64 B.length], .int .i64 0, .agg #[.int .i64 D.k0, .int .i64 D.k1, .int .u64 D.s0, .int .u64 D.s1]] w v p a b c d er) := Go.Lib.hid fun w hw => by
    by_cases h0 : er = 0
    · subst h0; exact ⟨_, _, _, _, _, _, DRead_ok w aa len cap B 0 D hw hB (Nat.zero_le _) hd v p hv⟩
    · exact ⟨_, _, _, _, _, _, DRead_er w aa len cap B 0 D hw hB (Nat.zero_le _) hd v p er h0 hv⟩
  have n0 : (n == 0) = false := by rw [beq_eq_false_iff_ne]; exact hn
  have hq' : ((er : Int) == 24) = q := by
    rw [← hq]
    by_cases h : er = 24
    · subst h; rfl
    · have : ¬ (er : Int) = 24 := by omega
      simp [h, this]
  obtain ⟨N, hN⟩ : ∃ N, N = B.length := ⟨_, rfl⟩
  rw [← hN] at x0 B0 rd hr' ⊢
  obtain ⟨f0, f1, f2, f3, f4, f5, f6, g0, g1, g2, g3, g4, g5, g6⟩ := x0.out.cells
  clear hr hB hv hq hn hd hN
  go_enter Try.func84, Try.ntmps84
  go_wp2_with (go_at_call 56; obtain ⟨v9, p9, a9, b9, c9, d9, rd9⟩ := rd.out _ hr'.out; unfold ResR at rd9; with_reducible refine rd9.mono ?_; rintro e w1 ⟨rfl, hb1⟩; have B1 := B0.out.trans (hb1.mono B0.out.size); have B2 := Go.Lib.hid (B1.alloc B1.size (.cells #[.int .i64 a9, .int .i64 b9, .int .u64 c9, .int .u64 d9] 52)); clear hb1 B1)
  go_ret
  exact ⟨by simp, B2.out⟩

set_option maxRecDepth 100000 in
set_option maxHeartbeats 1000000 in
theorem PsCheck_neg (W : World) (aa : Option Addr) (len cap : Nat) (n a b c d N : Int) (h : n < 0) :
    Calls Try.prog 57 #[.agg #[.int .i64 n, .int .i64 a, .int .i64 b, .int .u64 c, .int .u64 d, .slice aa len cap, .int .i64 N]] W fun e W' => e = .returned (.int .i64 8) ∧ Below W.heap.size W W' := by
  have x0 := Go.Lib.hid (resat1 W n a b c d (.slice aa len cap) N)
  have B0 := Go.Lib.hid (below1 W (.cells #[.int .i64 n, .int .i64 a, .int .i64 b, .int .u64 c, .int .u64 d, .slice aa len cap, .int .i64 N] 63))
  go_enter Try.func57, Try.ntmps57
  go_wp2
  go_ret
  exact ⟨rfl, B0.out⟩

set_option maxRecDepth 100000 in
set_option maxHeartbeats 1000000 in
theorem PsCheck_many (W : World) (aa : Option Addr) (len cap : Nat) (n a b c d N : Int) (h0 : ¬ n < 0) (h : 4000 < n) :
    Calls Try.prog 57 #[.agg #[.int .i64 n, .int .i64 a, .int .i64 b, .int .u64 c, .int .u64 d, .slice aa len cap, .int .i64 N]] W fun e W' => e = .returned (.int .i64 8) ∧ Below W.heap.size W W' := by
  have x0 := Go.Lib.hid (resat1 W n a b c d (.slice aa len cap) N)
  have B0 := Go.Lib.hid (below1 W (.cells #[.int .i64 n, .int .i64 a, .int .i64 b, .int .u64 c, .int .u64 d, .slice aa len cap, .int .i64 N] 63))
  have d0 : decide (n < 0) = false := decide_eq_false h0
  go_enter Try.func57, Try.ntmps57
  go_wp2
  go_ret
  exact ⟨rfl, B0.out⟩

set_option maxRecDepth 100000 in
set_option maxHeartbeats 1000000 in
theorem PsCheck_dual (W : World) (aa : Option Addr) (len cap : Nat) (n a b c d N : Int) (h0 : ¬ n < 0) (h1 : ¬ 4000 < n) (ha : (Lit.int .i64 a).wf = true) (hb : (Lit.int .i64 b).wf = true) (hc : (Lit.int .u64 c).wf = true) (hd : (Lit.int .u64 d).wf = true) (hn : ¬ DuOk a b c d) :
    Calls Try.prog 57 #[.agg #[.int .i64 n, .int .i64 a, .int .i64 b, .int .u64 c, .int .u64 d, .slice aa len cap, .int .i64 N]] W fun e W' => e = .returned (.int .i64 8) ∧ Below W.heap.size W W' := by
  have x0 := Go.Lib.hid (resat1 W n a b c d (.slice aa len cap) N)
  have B0 := Go.Lib.hid (below1 W (.cells #[.int .i64 n, .int .i64 a, .int .i64 b, .int .u64 c, .int .u64 d, .slice aa len cap, .int .i64 N] 63))
  have d0 : decide (n < 0) = false := decide_eq_false h0
  have d1 : decide (4000 < n) = false := decide_eq_false h1
  have ck := Go.Lib.hid fun w => DCheck_any w a b c d ha hb hc hd 8 (.inr ⟨hn, rfl⟩)
  clear ha hb hc hd hn
  go_enter Try.func57, Try.ntmps57
  go_wp2_with (go_at_call 48; with_reducible refine (ck.out _).mono ?_; rintro e w1 ⟨rfl, hb⟩; have x1 := Go.Lib.hid (x0.out.below hb x0.out.lt); have B1 := Go.Lib.hid (B0.out.trans (hb.mono B0.out.size)); obtain ⟨f0, f1, f2, f3, f4, f5, f6, g0, g1, g2, g3, g4, g5, g6⟩ := x1.out.cells; clear hb)
  go_ret
  exact ⟨rfl, B1.out⟩

set_option maxRecDepth 100000 in
set_option maxHeartbeats 1000000 in
theorem PsCheck_bits (W : World) (aa : Option Addr) (len cap : Nat) (n N : Int) (D : Du) (l : List Int) (h0 : ¬ n < 0) (h1 : ¬ 4000 < n) (hd : D.ok) (hr : Row .u8 W aa len cap l) (hN : (Lit.int .i64 N).wf = true) (hv : ¬ Valid l N) :
    Calls Try.prog 57 #[.agg #[.int .i64 n, .int .i64 D.k0, .int .i64 D.k1, .int .u64 D.s0, .int .u64 D.s1, .slice aa len cap, .int .i64 N]] W fun e W' => e = .returned (.int .i64 8) ∧ Below W.heap.size W W' := by
  have x0 := Go.Lib.hid (resat1 W n (D.k0) (D.k1) (D.s0) (D.s1) (.slice aa len cap) N)
  have B0 := Go.Lib.hid (below1 W (.cells #[.int .i64 n, .int .i64 D.k0, .int .i64 D.k1, .int .u64 D.s0, .int .u64 D.s1, .slice aa len cap, .int .i64 N] 63))
  have d0 : decide (n < 0) = false := decide_eq_false h0
  have d1 : decide (4000 < n) = false := decide_eq_false h1
  have ck := Go.Lib.hid fun w => DCheck_any w D.k0 D.k1 D.s0 D.s1 (du_wf hd).1 (du_wf hd).2.1 (du_wf hd).2.2.1 (du_wf hd).2.2.2 0 (.inl ⟨du_ok hd, rfl⟩)
  have cb := Go.Lib.hid fun w hw => BCheck_any w aa len cap N l hw hN 8 (.inr ⟨hv, rfl⟩)
  have hr' := Go.Lib.hid hr
  clear hr hN hv hd
  go_enter Try.func57, Try.ntmps57
  go_wp2_with (first
    | (go_at_call 48; with_reducible refine (ck.out _).mono ?_; rintro e w1 ⟨rfl, hb⟩; have x1 := Go.Lib.hid (x0.out.below hb x0.out.lt); have B1 := Go.Lib.hid (B0.out.trans (hb.mono B0.out.size)); obtain ⟨f0, f1, f2, f3, f4, f5, f6, g0, g1, g2, g3, g4, g5, g6⟩ := x1.out.cells; clear hb)
    | (go_at_call 55; with_reducible refine (cb.out _ (hr'.out.below B1.out (Nat.le_refl _))).mono ?_; rintro e w2 ⟨rfl, hb⟩; have x2 := Go.Lib.hid (x1.out.below hb x1.out.lt); have B2 := Go.Lib.hid (B1.out.trans (hb.mono B1.out.size)); obtain ⟨f0, f1, f2, f3, f4, f5, f6, g0, g1, g2, g3, g4, g5, g6⟩ := x2.out.cells; clear hb))
  go_ret
  exact ⟨rfl, B2.out⟩

set_option maxRecDepth 100000 in
set_option maxHeartbeats 1000000 in
/-- all but the bits that wait is right -/
theorem PsCheck_in (W : World) (aa : Option Addr) (len cap : Nat) (n : Int) (D : Du) (B : List Bool) (h0 : ¬ n < 0) (h1 : ¬ 4000 < n) (hd : D.ok) (hr : Row .u8 W aa len cap (pack B)) (hB : B.length ≤ 330000) (q : Bool)
    (hw : ∀ w, Row .u8 w aa len cap (pack B) → Calls Try.prog 84 #[.agg #[.int .i64 n, .int .i64 D.k0, .int .i64 D.k1, .int .u64 D.s0, .int .u64 D.s1, .slice aa len cap, .int .i64 B.length]] w fun e W' => e = .returned (.bool q) ∧ Below w.heap.size w W') (r : Int) (h : r = if q = true then 0 else 8) :
    Calls Try.prog 57 #[.agg #[.int .i64 n, .int .i64 D.k0, .int .i64 D.k1, .int .u64 D.s0, .int .u64 D.s1, .slice aa len cap, .int .i64 B.length]] W fun e W' => e = .returned (.int .i64 r) ∧ Below W.heap.size W W' := by
  have x0 := Go.Lib.hid (resat1 W n (D.k0) (D.k1) (D.s0) (D.s1) (.slice aa len cap) B.length)
  have B0 := Go.Lib.hid (below1 W (.cells #[.int .i64 n, .int .i64 D.k0, .int .i64 D.k1, .int .u64 D.s0, .int .u64 D.s1, .slice aa len cap, .int .i64 B.length] 63))
  have d0 : decide (n < 0) = false := decide_eq_false h0
  have d1 : decide (4000 < n) = false := decide_eq_false h1
  have ck := Go.Lib.hid fun w => DCheck_any w D.k0 D.k1 D.s0 D.s1 (du_wf hd).1 (du_wf hd).2.1 (du_wf hd).2.2.1 (du_wf hd).2.2.2 0 (.inl ⟨du_ok hd, rfl⟩)
  have cb := Go.Lib.hid fun w hw => BCheck_any w aa len cap B.length (pack B) hw (bounds_of_len (by omega)) 0 (.inl ⟨⟨B, rfl, hB, rfl⟩, rfl⟩)
  have cw := Go.Lib.hid hw
  have hr' := Go.Lib.hid hr
  obtain ⟨N, hN⟩ : ∃ N, N = B.length := ⟨_, rfl⟩
  rw [← hN] at x0 B0 cb cw ⊢
  clear hr hB hd hw hN
  cases q
  all_goals
    simp only [if_true, if_false, Bool.false_eq_true] at h
    subst h
    go_enter Try.func57, Try.ntmps57
    go_wp2_with (first
      | (go_at_call 48; with_reducible refine (ck.out _).mono ?_; rintro e w1 ⟨rfl, hb⟩; have x1 := Go.Lib.hid (x0.out.below hb x0.out.lt); have B1 := Go.Lib.hid (B0.out.trans (hb.mono B0.out.size)); obtain ⟨f0, f1, f2, f3, f4, f5, f6, g0, g1, g2, g3, g4, g5, g6⟩ := x1.out.cells; clear hb)
      | (go_at_call 55; with_reducible refine (cb.out _ (hr'.out.below B1.out (Nat.le_refl _))).mono ?_; rintro e w2 ⟨rfl, hb⟩; have x2 := Go.Lib.hid (x1.out.below hb x1.out.lt); have B2 := Go.Lib.hid (B1.out.trans (hb.mono B1.out.size)); obtain ⟨f0, f1, f2, f3, f4, f5, f6, g0, g1, g2, g3, g4, g5, g6⟩ := x2.out.cells; clear hb)
      | (go_at_call 84; with_reducible refine (cw.out _ (hr'.out.below B2.out (Nat.le_refl _))).mono ?_; rintro e w3 ⟨rfl, hb⟩; have B3 := Go.Lib.hid (B2.out.trans (hb.mono B2.out.size)); clear hb))
    go_ret
    exact ⟨rfl, B3.out⟩

theorem PsCheck_any (W : World) (aa : Option Addr) (len cap : Nat) (n a b c d N : Int) (l : List Int) (hr : Row .u8 W aa len cap l) (hN : (Lit.int .i64 N).wf = true) (ha : (Lit.int .i64 a).wf = true) (hb : (Lit.int .i64 b).wf = true) (hc : (Lit.int .u64 c).wf = true) (hd : (Lit.int .u64 d).wf = true) (r : Int) (h : chkS n a b c d l N r) :
    Calls Try.prog 57 #[.agg #[.int .i64 n, .int .i64 a, .int .i64 b, .int .u64 c, .int .u64 d, .slice aa len cap, .int .i64 N]] W fun e W' => e = .returned (.int .i64 r) ∧ Below W.heap.size W W' := by
  rcases h with ⟨⟨m, D, B, hok, rfl, rfl, rfl, rfl, rfl, rfl, rfl⟩, rfl⟩ | ⟨hno, rfl⟩
  · have h4 := hok.n4
    by_cases h0 : m = 0
    · subst h0
      have h8 := hok.zero rfl
      exact PsCheck_in W aa len cap _ D B (by omega) (by omega) hok.d hr hok.b true (fun w _ => Pwaits_zero w aa len cap _ _ _ _ _ true (by simp; omega)) 0 rfl
    · exact PsCheck_in W aa len cap _ D B (by omega) (by omega) hok.d hr hok.b true (fun w hw => Pwaits_more w aa len cap m D B hok.d hw hok.b (by omega) 0 0 24 (hok.wait h0) true rfl) 0 rfl
  · by_cases h0 : n < 0
    · exact PsCheck_neg W aa len cap n a b c d N h0
    by_cases h1 : 4000 < n
    · exact PsCheck_many W aa len cap n a b c d N h0 h1
    by_cases h2 : DuOk a b c d
    · obtain ⟨D, hD, rfl, rfl, rfl, rfl⟩ := du_of h2 hc hd
      by_cases h3 : Valid l N
      · obtain ⟨B, rfl, hB, rfl⟩ := h3
        obtain ⟨v, p, er, hv⟩ : ∃ v p er, readD B 0 D = (v, p, er) := ⟨_, _, _, rfl⟩
        by_cases h4 : n = 0
        · subst h4
          by_cases h8 : B.length < 8
          · exact absurd ⟨0, D, B, ⟨by decide, hD, hB, fun _ => h8, fun h => absurd rfl h⟩, rfl, rfl, rfl, rfl, rfl, rfl, rfl⟩ hno
          · exact PsCheck_in W aa len cap 0 D B h0 h1 hD hr hB false (fun w _ => Pwaits_zero w aa len cap _ _ _ _ _ false (by simp; omega)) 8 rfl
        · by_cases h5 : er = 24
          · subst h5
            obtain ⟨rfl, rfl, -⟩ := dual_no hv (by decide) hD.1 hD.2.1
            exact absurd ⟨n.toNat, D, B, ⟨by omega, hD, hB, fun h => by omega, fun _ => hv⟩, by omega, rfl, rfl, rfl, rfl, rfl, rfl⟩ hno
          · exact PsCheck_in W aa len cap n D B h0 h1 hD hr hB false (fun w hw => Pwaits_more w aa len cap n D B hD hw hB h4 v p er hv false (by simp [h5])) 8 rfl
      · exact PsCheck_bits W aa len cap n N D l h0 h1 hD hr hN h3
    · exact PsCheck_dual W aa len cap n a b c d N h0 h1 ha hb hc hd h2
end Go.Proofs.Ythbjcjphplgobaa

/- What reading from all bits says, without the check of what is left; feeding is that, and the check. No Go function in sight. -/
namespace Cad
open Go.Proofs.Ythbjcjphplgobaa

/-- all numbers that there are, at most n; what is left may be long -/
def rdA : Nat → List Bool → Du → Fed
  | 0, B, d => ⟨[], B, 0, d, 0⟩
  | n + 1, B, d => if (readD B 0 d).2.2 = 24 then ⟨[], B, n + 1, d, 0⟩ else if (readD B 0 d).2.2 ≠ 0 then fedE (readD B 0 d).2.2
      else glueF [(readD B 0 d).1] (rdA n (B.drop (readD B 0 d).2.1) (learnD d (readD B 0 d).1))
theorem rdA_zero (B : List Bool) (d : Du) : rdA 0 B d = ⟨[], B, 0, d, 0⟩ := rfl
theorem rdA_wait {B : List Bool} {n : Nat} {d : Du} {v p : Nat} (h : readD B 0 d = (v, p, 24)) : rdA (n + 1) B d = ⟨[], B, n + 1, d, 0⟩ := by
  rw [rdA, h, if_pos rfl]
theorem rdA_er {B : List Bool} {n : Nat} {d : Du} {v p er : Nat} (h : readD B 0 d = (v, p, er)) (h24 : er ≠ 24) (h0 : er ≠ 0) : rdA (n + 1) B d = fedE er := by
  rw [rdA, h, if_neg h24, if_pos h0]
theorem rdA_next {B : List Bool} {n : Nat} {d : Du} {v p : Nat} (h : readD B 0 d = (v, p, 0)) : rdA (n + 1) B d = glueF [v] (rdA n (B.drop p) (learnD d v)) := by
  rw [rdA, h, if_neg (by simp), if_neg (fun h => h rfl)]
theorem rdA_nil : ∀ (n : Nat) (d : Du), rdA n [] d = ⟨[], [], n, d, 0⟩
  | 0, _ => rfl
  | _ + 1, d => rdA_wait (readD_end d (Nat.le_refl _))
theorem rdA_no : ∀ (n : Nat) (B : List Bool) (d : Du), (rdA n B d).e ≠ 0 → rdA n B d = fedE (rdA n B d).e
  | 0, _, _, h => absurd rfl h
  | n + 1, B, d, h => by
    obtain ⟨v, p, er, hr⟩ : ∃ v p er, readD B 0 d = (v, p, er) := ⟨_, _, _, rfl⟩
    by_cases h24 : er = 24
    · subst h24; rw [rdA_wait hr] at h; exact absurd rfl h
    · by_cases h0 : er = 0
      · subst h0
        rw [rdA_next hr] at h ⊢
        by_cases hc : (rdA n (B.drop p) (learnD d v)).e = 0
        · rcases hf : rdA n (B.drop p) (learnD d v) with ⟨x, r, k, d', e⟩
          rw [hf] at h hc
          obtain rfl : e = 0 := hc
          rw [glueF_ok] at h
          exact absurd rfl h
        · rw [glueF_er _ hc]; rfl
      · rw [rdA_er hr h24 h0]; rfl
theorem glueF_rdA (n : Nat) (B : List Bool) (d : Du) : glueF [] (rdA n B d) = rdA n B d := by
  by_cases h : (rdA n B d).e = 0
  · exact glueF_nil h
  · rw [rdA_no n B d h]; exact glueF_E _ h
/-- what is left is too long -/
def over (F : Fed) : Prop := F.e = 0 ∧ F.n = 0 ∧ 8 ≤ F.r.length
theorem fed_over : ∀ (n : Nat) (B : List Bool) (d : Du), over (rdA n B d) → fed n B d = fedE 38
  | 0, B, d, h => fed_more d h.2.2
  | n + 1, B, d, h => by
    obtain ⟨v, p, er, hr⟩ : ∃ v p er, readD B 0 d = (v, p, er) := ⟨_, _, _, rfl⟩
    by_cases h24 : er = 24
    · subst h24; rw [rdA_wait hr] at h; exact absurd h.2.1 (by simp)
    · by_cases h0 : er = 0
      · subst h0
        rw [rdA_next hr] at h
        rw [fed_next hr]
        rcases hf : rdA n (B.drop p) (learnD d v) with ⟨x, r, k, d', e⟩
        by_cases hc : e = 0
        · subst hc
          rw [hf, glueF_ok] at h
          rw [fed_over n (B.drop p) (learnD d v) (by rw [hf]; exact h), glueF_E _ (by decide)]
        · rw [hf, glueF_er _ (show (⟨x, r, k, d', e⟩ : Fed).e ≠ 0 from hc)] at h; exact absurd h.1 hc
      · rw [rdA_er hr h24 h0] at h; exact absurd h.1 h0
theorem fed_rdA : ∀ (n : Nat) (B : List Bool) (d : Du), ¬ over (rdA n B d) → fed n B d = rdA n B d
  | 0, B, d, h => by
    by_cases h8 : 8 ≤ B.length
    · exact absurd ⟨rfl, rfl, h8⟩ h
    · exact fed_none d (by omega)
  | n + 1, B, d, h => by
    obtain ⟨v, p, er, hr⟩ : ∃ v p er, readD B 0 d = (v, p, er) := ⟨_, _, _, rfl⟩
    by_cases h24 : er = 24
    · subst h24; rw [rdA_wait hr, fed_wait hr]
    · by_cases h0 : er = 0
      · subst h0
        rw [rdA_next hr] at h ⊢
        rw [fed_next hr, fed_rdA n (B.drop p) (learnD d v) fun hc => h ?_]
        rcases hf : rdA n (B.drop p) (learnD d v) with ⟨x, r, k, d', e⟩
        rw [hf] at hc
        obtain rfl : e = 0 := hc.1
        rw [glueF_ok]; exact hc
      · rw [rdA_er hr h24 h0, fed_er hr h24 h0]
/-! ### from an index on -/
theorem readD_at {B : List Bool} {p v q er : Nat} {E : Du} (h : readD B p E = (v, q, er)) (hp : p ≤ B.length) : ∃ v' q', readD (B.drop p) 0 E = (v', q', er) ∧ (er = 0 → v' = v ∧ q = p + q') := by
  obtain ⟨v2, q2, er2, hv2⟩ : ∃ v q er, readD (B.drop p) 0 E = (v, q, er) := ⟨_, _, _, rfl⟩
  have hsh := readD_drop B hp E
  rw [h, hv2] at hsh
  by_cases e0 : er2 = 0
  · subst e0; rw [sh_ok] at hsh; cases hsh; exact ⟨_, _, hv2, fun _ => ⟨rfl, rfl⟩⟩
  · rw [sh_er _ _ _ e0] at hsh; cases hsh; exact ⟨_, _, hv2, fun h => absurd h e0⟩
theorem rdA_step {B : List Bool} {p v q n : Nat} {E : Du} (h : readD B p E = (v, q, 0)) (hp : p ≤ B.length) : rdA (n + 1) (B.drop p) E = glueF [v] (rdA n (B.drop q) (learnD E v)) := by
  obtain ⟨v', q', h2, h3⟩ := readD_at h hp
  obtain ⟨rfl, rfl⟩ := h3 rfl
  rw [rdA_next h2, List.drop_drop]
theorem rdA_stop {B : List Bool} {p v q n : Nat} {E : Du} (h : readD B p E = (v, q, 24)) (hp : p ≤ B.length) : rdA (n + 1) (B.drop p) E = ⟨[], B.drop p, n + 1, E, 0⟩ := by
  obtain ⟨v', q', h2, -⟩ := readD_at h hp
  exact rdA_wait h2
theorem rdA_fail {B : List Bool} {p v q n er : Nat} {E : Du} (h : readD B p E = (v, q, er)) (hp : p ≤ B.length) (h24 : er ≠ 24) (h0 : er ≠ 0) : rdA (n + 1) (B.drop p) E = fedE er := by
  obtain ⟨v', q', h2, -⟩ := readD_at h hp
  exact rdA_er h2 h24 h0
end Cad

/- Contracts of the package resume: the closure of readAll; a copy of the first ones. -/
namespace Go.Proofs.Ythbjcjphplgobaa
open Go.RowKit Cad

theorem IntAt.other {w : World} {y : Nat} {n : Int} (h : IntAt w y n) {p : Addr} (hp : y ≠ p.block) (u : Value) : IntAt (w.setCell p u) y n := by
  unfold IntAt at h ⊢
  rw [Below.heap_setCell _ _ _ _ hp, h]
theorem IntAt.set {w : World} {y : Nat} {n : Int} (h : IntAt w y n) (m : Int) : IntAt (w.setCell ⟨y, 0, none⟩ (.int .i64 m)) y m := by
  unfold IntAt at h ⊢; exact heap_setCell_same _ _ 0 _ _ _ h
theorem IntAt.lt {w : World} {y : Nat} {n : Int} (h : IntAt w y n) : y < w.heap.size := by
  apply Classical.byContradiction; intro hx; unfold IntAt at h; rw [Array.getElem?_eq_none (by omega)] at h; cases h
theorem IntAt.drew {w : World} {y : Nat} {n : Int} (h : IntAt w y n) : IntAt w.drew y n := h
theorem IntAt.alloc {w : World} {y : Nat} {n : Int} (h : IntAt w y n) (o : Obj) : IntAt (w.alloc o) y n := by
  have hx := h.lt
  unfold IntAt at h ⊢
  rw [Below.heap_alloc _ _ _ hx, h]

/-- a number has been read: the index, the state, how many are left are written -/
def nextW (w : World) (y z : Nat) (q a b c d m : Int) : World := (((((w.setCell ⟨y, 0, none⟩ (.int .i64 q)).setCell ⟨z, 1, none⟩ (.int .i64 a)).setCell ⟨z, 2, none⟩ (.int .i64 b)).setCell ⟨z, 3, none⟩ (.int .u64 c)).setCell ⟨z, 4, none⟩ (.int .u64 d)).setCell ⟨z, 0, none⟩ (.int .i64 m)
section
variable {w : World} {y z : Nat} {q a b c d m : Int}
theorem nextW_int {p : Int} (h : IntAt w y p) (hyz : y ≠ z) : IntAt (nextW w y z q a b c d m) y q :=
  (((((h.set q).other (by simpa using hyz) _).other (by simpa using hyz) _).other (by simpa using hyz) _).other (by simpa using hyz) _).other (by simpa using hyz) _
theorem nextW_res {n a' b' c' d' N : Int} {v : Value} (h : ResAt w z n a' b' c' d' v N) (hyz : y ≠ z) : ResAt (nextW w y z q a b c d m) z m a b c d v N :=
  ((h.other (by simpa using fun e => hyz e.symm) _).setD a b c d).set0 m
theorem nextW_box {x : Nat} {v : Value} {N : Int} (h : BoxAt w x v N) (hy : x ≠ y) (hz : x ≠ z) : BoxAt (nextW w y z q a b c d m) x v N :=
  (((((h.other (by simpa using hy) _).other (by simpa using hz) _).other (by simpa using hz) _).other (by simpa using hz) _).other (by simpa using hz) _).other (by simpa using hz) _
theorem nextW_other {x : Nat} {n a' b' c' d' N : Int} {v : Value} (h : ResAt w x n a' b' c' d' v N) (hy : x ≠ y) (hz : x ≠ z) : ResAt (nextW w y z q a b c d m) x n a' b' c' d' v N :=
  (((((h.other (by simpa using hy) _).other (by simpa using hz) _).other (by simpa using hz) _).other (by simpa using hz) _).other (by simpa using hz) _).other (by simpa using hz) _
theorem nextW_own {base n e : Nat} {v : Value} {xs : List Value} (h : w.ownsRow base e 1 v n xs) (hy : ∀ g, v.ownBlock = some g → g ≠ y) (hz : ∀ g, v.ownBlock = some g → g ≠ z) : (nextW w y z q a b c d m).ownsRow base e 1 v n xs :=
  own_setG (own_setG (own_setG (own_setG (own_setG (own_setG h hy _ _) hz _ _) hz _ _) hz _ _) hz _ _) hz _ _
theorem nextW_below {B : Nat} {W : World} (h : Below B W w) (hy : B ≤ y) (hz : B ≤ z) : Below B W (nextW w y z q a b c d m) :=
  (((((h.setCell hy _).setCell hz _).setCell hz _).setCell hz _).setCell hz _).setCell hz _
end

set_option maxRecDepth 100000 in
set_option maxHeartbeats 1000000 in
theorem Pnext_er (W : World) (x y z : Nat) (v : Value) (N p n M er : Int) (D : Du) (u : Value) (hx : BoxAt W x v N) (hy : IntAt W y p) (hz : ResAt W z n D.k0 D.k1 D.s0 D.s1 u M) (he : er ≠ 0)
    (hrd : ResR 56 #[.agg #[v, .int .i64 N], .int .i64 p, .agg #[.int .i64 D.k0, .int .i64 D.k1, .int .u64 D.s0, .int .u64 D.s1]] W 0 0 0 0 0 0 er) :
    Calls Try.prog 86 #[.pointer (some ⟨x, 0, none⟩), .pointer (some ⟨y, 0, none⟩), .pointer (some ⟨z, 0, none⟩)] W fun e W' => e = .returned (.tuple #[.int .u32 0, .int .i64 er]) ∧ Below W.heap.size W W' := by
  unfold ResR at hrd
  have hrd' := Go.Lib.hid hrd
  obtain ⟨x0, x1, x2, x3⟩ := hx.cells
  obtain ⟨y0, y1⟩ := hy.cell
  obtain ⟨f0, f1, f2, f3, f4, f5, f6, g0, g1, g2, g3, g4, g5, g6⟩ := hz.cells
  have he' : (er != 0) = true := by simpa using he
  clear hx hy hz hrd
  go_enter Try.func86, Try.ntmps86
  go_wp2_with (go_at_call 56; with_reducible refine hrd'.out.mono ?_; rintro e w1 ⟨rfl, hb1⟩; have B1 := Go.Lib.hid (hb1.alloc hb1.size (.cells #[.int .i64 0, .int .i64 0, .int .u64 0, .int .u64 0] 52)); clear hb1)
  go_ret2
  exact ⟨rfl, B1.out⟩

set_option maxRecDepth 100000 in
set_option maxHeartbeats 1000000 in
theorem Pnext_ok (W : World) (x y z : Nat) (v : Value) (N p n m M : Int) (k q : Nat) (D E : Du) (u : Value) (hx : BoxAt W x v N) (hy : IntAt W y p) (hz : ResAt W z n D.k0 D.k1 D.s0 D.s1 u M) (hyz : y ≠ z) (hn : n - 1 = m) (hm : 0 ≤ m ∧ m ≤ 4000)
    (hrd : ResR 56 #[.agg #[v, .int .i64 N], .int .i64 p, .agg #[.int .i64 D.k0, .int .i64 D.k1, .int .u64 D.s0, .int .u64 D.s1]] W k q E.k0 E.k1 E.s0 E.s1 0) :
    Calls Try.prog 86 #[.pointer (some ⟨x, 0, none⟩), .pointer (some ⟨y, 0, none⟩), .pointer (some ⟨z, 0, none⟩)] W fun e W' => e = .returned (.tuple #[.int .u32 k, .int .i64 0]) ∧ ∃ w1, Below W.heap.size W w1 ∧ W' = nextW w1 y z q E.k0 E.k1 E.s0 E.s1 m := by
  unfold ResR at hrd
  have hrd' := Go.Lib.hid hrd
  have hx' := Go.Lib.hid hx
  have hy' := Go.Lib.hid hy
  have hz' := Go.Lib.hid hz
  obtain ⟨x0, x1, x2, x3⟩ := hx.cells
  obtain ⟨y0, y1⟩ := hy.cell
  obtain ⟨f0, f1, f2, f3, f4, f5, f6, g0, g1, g2, g3, g4, g5, g6⟩ := hz.cells
  have ly := hy.lt
  have lz := hz.lt
  clear hx hy hz hrd
  go_enter Try.func86, Try.ntmps86
  go_wp2_with (go_at_call 56; with_reducible refine hrd'.out.mono ?_; rintro e w1 ⟨rfl, hb1⟩; have B1 := Go.Lib.hid (hb1.alloc hb1.size (.cells #[.int .i64 E.k0, .int .i64 E.k1, .int .u64 E.s0, .int .u64 E.s1] 52)); have y1' := Go.Lib.hid ((hy'.out.below hb1 ly).alloc (.cells #[.int .i64 E.k0, .int .i64 E.k1, .int .u64 E.s0, .int .u64 E.s1] 52)); have z1' := Go.Lib.hid ((hz'.out.below hb1 lz).alloc (.cells #[.int .i64 E.k0, .int .i64 E.k1, .int .u64 E.s0, .int .u64 E.s1] 52)); have d1 := Go.Lib.hid (duat1 w1 E.k0 E.k1 E.s0 E.s1); have s1 := hb1.size; clear hb1 x0 x1 x2 x3 y0 y1 f0 f1 f2 f3 f4 f5 f6 g0 g1 g2 g3 g4 g5 g6)
  obtain ⟨w2, hw2⟩ : ∃ w, w = w1.alloc (.cells #[.int .i64 E.k0, .int .i64 E.k1, .int .u64 E.s0, .int .u64 E.s1] 52) := ⟨_, rfl⟩
  rw [← hw2] at B1 y1' z1' d1
  try rw [← hw2]
  obtain ⟨x7, hx7⟩ : ∃ x, x = w1.heap.size := ⟨_, rfl⟩
  rw [← hx7] at d1 s1
  try rw [← hx7]
  clear hw2 hx7
  refine wp_region_ord (fun w' => DuAt w' x7 (E.k0 : Int) (E.k1 : Int) (E.s0 : Int) (E.s1 : Int)) [(0, 0), (1, 2), (2, 3), (3, 0), (4, 4)] (by kernel_rfl) (by kernel_rfl) ?hC0 ?_
  case hC0 => exact d1.out.drew
  simp only [pick, nth]
  refine wpW_name ?_
  intro q0 hq0
  have y2 := Go.Lib.hid (show IntAt q0 y p by rw [hq0]; exact y1'.out.drew)
  have z2 := Go.Lib.hid (show ResAt q0 z n D.k0 D.k1 D.s0 D.s1 u M by rw [hq0]; exact z1'.out.drew)
  have d2 := Go.Lib.hid (show DuAt q0 x7 E.k0 E.k1 E.s0 E.s1 by rw [hq0]; exact d1.out.drew)
  have B2 := Go.Lib.hid (show Below W.heap.size W q0 by rw [hq0]; exact B1.out.drew)
  clear hq0 y1' z1' d1 B1
  (repeat (first | (apply wpW_light; (case h => (intro wa; (first | (go_big_quiet_skip; exact wpQuiet_nil rfl) | (go_big_quiet_want; go_big_quiet_op; go_big_quiet_on; exact wpQuiet_nil rfl))))) | (apply wpW_here; (case h => (first | (go_big_quiet_skip; exact wpQuiet_nil rfl) | (go_big_quiet_want; go_big_quiet_op; go_big_quiet_on; exact wpQuiet_nil rfl)))) | (apply wpW_held; (case hC => assumption); (case h => (intro wa hCa; obtain ⟨u0, u1, u2, u3, u4, u5, u6, u7⟩ := hCa.cells; (first | (go_big_quiet_skip; exact wpQuiet_nil rfl) | (go_big_quiet_want; go_big_quiet_op; go_big_quiet_on; exact wpQuiet_nil rfl)))))))
  obtain ⟨y0, y1⟩ := y2.out.cell
  refine wpW_act (fun QQ hQQ => ?_) (by rfl)
  go_wp2
  (refine hQQ _ _ ?hCn ?_; (case hCn => exact d2.out.other (by simp; omega) _); clear hQQ QQ)
  refine wpW_name ?_
  intro q1 hq1
  have z3 := Go.Lib.hid (show ResAt q1 z n D.k0 D.k1 D.s0 D.s1 u M by rw [hq1]; exact z2.out.other (by simpa using fun e => hyz e.symm) _)
  have hq1' := Go.Lib.hid hq1
  clear y0 y1 hq1
  obtain ⟨f0, f1, f2, f3, f4, f5, f6, g0, g1, g2, g3, g4, g5, g6⟩ := z3.out.cells
  (repeat (first | (apply wpW_light; (case h => (intro wa; (first | (go_big_quiet_skip; exact wpQuiet_nil rfl) | (go_big_quiet_want; go_big_quiet_op; go_big_quiet_on; exact wpQuiet_nil rfl))))) | (apply wpW_here; (case h => (first | (go_big_quiet_skip; exact wpQuiet_nil rfl) | (go_big_quiet_want; go_big_quiet_op; go_big_quiet_on; exact wpQuiet_nil rfl)))) | (apply wpW_held; (case hC => assumption); (case h => (intro wa hCa; simp only [] at hCa; (first | (go_big_quiet_skip; exact wpQuiet_nil rfl) | (go_big_quiet_want; go_big_quiet_op; go_big_quiet_on; exact wpQuiet_nil rfl)))))))
  refine wpW_last (fun QQ hQQ => ?_) (by rfl)
  go_wp2
  (refine hQQ.out _ _ ?_; clear hQQ QQ)
  (repeat (first | (apply wpW_light; (case h => (intro wa; (first | (go_big_quiet_skip; exact wpQuiet_nil rfl) | (go_big_quiet_want; go_big_quiet_op; go_big_quiet_on; exact wpQuiet_nil rfl))))) | (apply wpW_here; (case h => (first | (go_big_quiet_skip; exact wpQuiet_nil rfl) | (go_big_quiet_want; go_big_quiet_op; go_big_quiet_on; exact wpQuiet_nil rfl)))) | (apply wpW_held; (case hC => assumption); (case h => (intro wa hCa; simp only [] at hCa; (first | (go_big_quiet_skip; exact wpQuiet_nil rfl) | (go_big_quiet_want; go_big_quiet_op; go_big_quiet_on; exact wpQuiet_nil rfl)))))))
  refine wpW_nil ?_
  go_wp2
  go_ret2
  exact ⟨rfl, q0, B2.out, by rw [nextW, ← hq1'.out]⟩
end Go.Proofs.Ythbjcjphplgobaa

/- Contracts of the package resume: readAll. -/
namespace Go.Proofs.Ythbjcjphplgobaa
open Go.RowKit Cad

section
variable {P : Program} {T E : TypeId} {k : IntKind} (he : Elem P T E k) (w : World) {ops : Array Oper} {rest : List Oper} {o : Oper} {a : Act} {Q : Exit → Act → World → Prop} (hg : o.guard = none)
include he hg
/-- copy(d, s): d is the call's own row, s reads as at least as many numbers -/
theorem law_copyTake (d s : Operand) (sT : TypeId) (hop : o.op = Op.call { callee := Callee.builtin Builtin.copy, args := #[d, s], argTypes := #[T, sT] }) (base g n c : Nat) (old : List Int) (hd : a.eval d = .slice (some ⟨g, 0, none⟩) n c)
    (hown : w.ownsRow base E 1 (.slice (some ⟨g, 0, none⟩) n c) n (nums k old)) (ax : Option Addr) (m cx : Nat) (news : List Int) (hx : a.eval s = .slice ax m cx) (hr : Row k w ax m cx news) (hm : n ≤ m)
    (hK : ∀ w', w'.ownsRow base E 1 (.slice (some ⟨g, 0, none⟩) n c) n (nums k (news.take n)) → Below g w w' → wpList P ops Q rest (a.put o.dst (goInt n)) w') :
    wpList P ops Q (o :: rest) a w := by
  obtain ⟨b, hb, hi⟩ := he.info
  have hsz : (P.info? E).map (·.size) = some 1 := by
    obtain ⟨i0, hi, _, hz1, _⟩ := info_parts hi
    rw [hi]; simp [hz1]
  obtain ⟨hl, h2⟩ := hown
  rcases h2 with ⟨h0, _⟩ | ⟨g', cap, cur, e, hbg, hh, hn, hmx, hs, ht⟩
  · cases h0
  simp only [Value.slice.injEq, Option.some.injEq, Addr.mk.injEq] at e
  obtain ⟨⟨rfl, _, _⟩, _, rfl⟩ := e
  have hlen := hr.hlen
  have hnl : (nums k (news.take n)).length = n := by simp [nums, hlen]; omega
  have hcur : cur.toList.length = c := by simpa using hs
  refine wpList_copy_splice hg d s T sT hop E he.sl hsz (some ⟨g, 0, none⟩) ax n c m cx hd hx g 0 cur.toList E (by simpa using hh) (nums k (news.take n)) (by show _ = min m n; rw [Nat.min_eq_right hm]; exact hnl) ?_ (by rw [hnl, hcur]; omega) (ints_oneCell k _) g w (Below.refl _ _) (Nat.le_refl _) ?_
  · intro hp
    rw [hnl] at hp
    obtain ⟨b', off, rfl, hlt, hc⟩ := hr.cells (by omega)
    refine ⟨rfl, _, rfl, fun j v hj => ?_⟩
    simp only [nums, List.getElem?_map, Option.map_eq_some_iff] at hj
    obtain ⟨z, hz, rfl⟩ := hj
    have hjn : j < n := by
      apply Classical.byContradiction; intro h; rw [List.getElem?_eq_none (by rw [List.length_take]; omega)] at hz; simp at hz
    rw [List.getElem?_take, if_pos hjn] at hz
    rw [show (⟨b', off, none⟩ : Addr).add j = ⟨b', off + j, none⟩ by unfold Addr.add; split <;> simp_all, hc j (by omega)]
    simp [List.getD, hz]
  · intro w' h1 h2
    have h1 : w'.heap[g]? = some (.cells (splice cur.toList 0 (nums k (news.take n))).toArray E (0, 0)) := h1
    have e := hK w' ⟨by simpa using hnl, .inr ⟨g, c, _, rfl, hbg, h1, hn, hmx, ?_, ?_⟩⟩ h2
    · rw [hnl]; exact e
    · simp [splice, hcur, hnl]; omega
    · simp only [splice, List.take_zero, List.nil_append, Nat.zero_add, hnl, Nat.mul_one]
      rw [List.take_append, hnl, Nat.sub_self, List.take_zero, List.append_nil, List.take_of_length_le (Nat.le_of_eq hnl)]
end

/-- what a call hands back: a state whose bits are new, numbers and an error -/
def ResG (f : FuncId) (args : Array Value) (W : World) (F : Fed) : Prop :=
  Calls Try.prog f args W fun r W' => ∃ bb cc a m c, r = .returned (.tuple #[.agg #[.int .i64 F.n, .int .i64 F.d.k0, .int .i64 F.d.k1, .int .u64 F.d.s0, .int .u64 F.d.s1, .slice bb ((F.r.length + 7) / 8) cc, .int .i64 F.r.length], .slice a m c, .int .i64 F.e]) ∧
    Row .u8 W' bb ((F.r.length + 7) / 8) cc (pack F.r) ∧ Row .u32 W' a m c (F.l.map Int.ofNat) ∧ Below W.heap.size W W' ∧ ((F.r.length + 7) / 8 = 0 ∨ ∃ g o, bb = some ⟨g, o, none⟩ ∧ W.heap.size ≤ g)
theorem ResG.resF {f : FuncId} {args : Array Value} {W : World} {F : Fed} (h : ResG f args W F) : ResF f args W F :=
  h.mono fun _ _ ⟨bb, cc, a, m, c, h1, h2, h3, h4, _⟩ => ⟨bb, cc, a, m, c, h1, h2, h3, h4⟩
theorem ResG.none {f : FuncId} {args : Array Value} {W : World} {e : Nat} (h : Calls Try.prog f args W fun r W' => r = .returned (.tuple #[.agg #[.int .i64 0, .int .i64 0, .int .i64 0, .int .u64 0, .int .u64 0, .slice none 0 0, .int .i64 0], .slice none 0 0, .int .i64 e]) ∧ Below W.heap.size W W') : ResG f args W (fedE e) :=
  h.mono fun _ _ ⟨h1, h2⟩ => ⟨Option.none, 0, Option.none, 0, 0, by rw [h1]; simp [fedE], row_fedE _ _, Row.nil_row _ _, h2, .inl (by rw [show (fedE e).r = [] from rfl]; rfl)⟩

/-- the variables of readAll: the state, all bits, what it returns, the index -/
theorem ra_boxes (W : World) (n a b c d : Int) (v : Value) (N : Int) (v' : Value) (N' : Int) : ∃ W0, W0 = (((W.alloc (.cells #[.int .i64 n, .int .i64 a, .int .i64 b, .int .u64 c, .int .u64 d, v, .int .i64 N] 63)).alloc (.cells #[v', .int .i64 N'] 45)).alloc (.cells #[.int .i64 0, .int .i64 0, .int .i64 0, .int .u64 0, .int .u64 0, .slice none 0 0, .int .i64 0] 63)).alloc (.cells #[.int .i64 0] 3) ∧ Below W.heap.size W W0 ∧ W0.heap.size = W.heap.size + 1 + 1 + 1 + 1 ∧
    ResAt W0 W.heap.size n a b c d v N ∧ BoxAt W0 (W.heap.size + 1) v' N' ∧ ResAt W0 (W.heap.size + 1 + 1) 0 0 0 0 0 (.slice none 0 0) 0 ∧ IntAt W0 (W.heap.size + 1 + 1 + 1) 0 := by
  obtain ⟨w1, h1⟩ : ∃ w, w = W.alloc (.cells #[.int .i64 n, .int .i64 a, .int .i64 b, .int .u64 c, .int .u64 d, v, .int .i64 N] 63) := ⟨_, rfl⟩
  obtain ⟨w2, h2⟩ : ∃ w, w = w1.alloc (.cells #[v', .int .i64 N'] 45) := ⟨_, rfl⟩
  obtain ⟨w3, h3⟩ : ∃ w, w = w2.alloc (.cells #[.int .i64 0, .int .i64 0, .int .i64 0, .int .u64 0, .int .u64 0, .slice none 0 0, .int .i64 0] 63) := ⟨_, rfl⟩
  rw [← h1, ← h2, ← h3]
  have s1 : w1.heap.size = W.heap.size + 1 := by rw [h1]; simp
  have s2 : w2.heap.size = W.heap.size + 1 + 1 := by rw [h2]; simp [s1]
  have s3 : w3.heap.size = W.heap.size + 1 + 1 + 1 := by rw [h3]; simp [s2]
  have r1 : ResAt w1 W.heap.size n a b c d v N := by rw [h1]; exact resat1 W n a b c d v N
  have x2 : BoxAt w2 (W.heap.size + 1) v' N' := by rw [h2, ← s1]; exact box1 w1 v' N'
  have z3 : ResAt w3 (W.heap.size + 1 + 1) 0 0 0 0 0 (.slice none 0 0) 0 := by rw [h3, ← s2]; exact resat1 w2 0 0 0 0 0 _ 0
  have r2 : ResAt w2 W.heap.size n a b c d v N := by rw [h2]; exact r1.alloc _
  have r3 : ResAt w3 W.heap.size n a b c d v N := by rw [h3]; exact r2.alloc _
  have x3 : BoxAt w3 (W.heap.size + 1) v' N' := by rw [h3]; exact x2.alloc _
  have b1 : Below W.heap.size W w1 := by rw [h1]; exact below1 W _
  have b2 : Below W.heap.size W w2 := by rw [h2]; exact b1.alloc (by omega) _
  have b3 : Below W.heap.size W w3 := by rw [h3]; exact b2.alloc (by omega) _
  refine ⟨_, rfl, b3.alloc (by omega) _, by simp [s3], r3.alloc _, x3.alloc _, z3.alloc _, ?_⟩
  unfold IntAt; rw [← s3, heap_alloc_new]

set_option maxRecDepth 100000 in
set_option maxHeartbeats 8000000 in
theorem PreadAll_ok (W : World) (aa : Option Addr) (len cap n : Nat) (N : Int) (D : Du) (ab : Option Addr) (nb cb : Nat) (B : List Bool) (hbr : Row .u8 W ab nb cb (pack B)) (hB : B.length ≤ 330000) (hd : D.ok) (hn : n ≤ 4000) :
    ResG 59 #[.agg #[.int .i64 n, .int .i64 D.k0, .int .i64 D.k1, .int .u64 D.s0, .int .u64 D.s1, .slice aa len cap, .int .i64 N], .agg #[.slice ab nb cb, .int .i64 B.length]] W (rdA n B D) := by
  have hmf : ∀ (fn : Fn) (first cap : Array Value) (w : World), (Instr.makeFunc fn first cap).run Try.prog w = .ok (.func fn first cap) w := fun _ _ _ _ => rfl
  unfold ResG
  obtain ⟨F, hF⟩ : ∃ F, F = rdA n B D := ⟨_, rfl⟩
  rw [← hF]
  obtain ⟨N0, hN0⟩ : ∃ x, x = B.length := ⟨_, rfl⟩
  rw [← hN0]
  obtain ⟨most, hmost⟩ : ∃ x, x = min n N0 := ⟨_, rfl⟩
  have hmn : most ≤ n := by omega
  have hmN : most ≤ N0 := by omega
  have hmx : most < n → most = N0 := by omega
  have hmin : (if N0 < n then (N0 : Int) else (n : Int)) = (most : Int) := by split <;> omega
  obtain ⟨W0, hW0, hbE, hs0, hr0, hx0, hz0, hi0⟩ := ra_boxes W n D.k0 D.k1 D.s0 D.s1 (.slice aa len cap) N (.slice ab nb cb) N0
  have hF' := Go.Lib.hid hF
  have hN0' := Go.Lib.hid hN0
  have hbr' := Go.Lib.hid hbr
  have hB' := Go.Lib.hid hB
  have hd' := Go.Lib.hid hd
  have hr0' := Go.Lib.hid hr0
  have hx0' := Go.Lib.hid hx0
  have hz0' := Go.Lib.hid hz0
  have hi0' := Go.Lib.hid hi0
  have hbE' := Go.Lib.hid hbE
  have hmx' := Go.Lib.hid hmx
  have hN3 : (N0 : Int) ≤ 330000 := by omega
  have hnI : (n : Int) ≤ 4000 := by omega
  clear hF hN0 hbr hB hd hr0 hx0 hz0 hi0 hbE hmost hmx
  go_enter Try.func59, Try.ntmps59
  go_wp2_with (at_make; rw [← hW0]; refine law_make elU32 _ rfl _ _ rfl .i64 .i64 _ _ most rfl rfl (by omega) (by omega) (by omega) ?_; intro w1 hown1 hb1 hs1; have o1 := Go.Lib.hid hown1; have r1 := Go.Lib.hid (hr0'.out.below hb1 hr0'.out.lt); have x1 := Go.Lib.hid (hx0'.out.below hb1 hx0'.out.lt); have z1 := Go.Lib.hid (hz0'.out.below hb1 hz0'.out.lt); have i1 := Go.Lib.hid (hi0'.out.below hb1 hi0'.out.lt); have B1 := Go.Lib.hid (hbE'.out.trans (hb1.mono hbE'.out.size)); obtain ⟨gb, hgb⟩ : ∃ g, g = W0.heap.size := ⟨_, rfl⟩; rw [← hgb] at o1 hs0 hs1 ⊢; have hg4 : W.heap.size + 1 + 1 + 1 < gb := (by omega); clear hown1 hb1 hgb hW0 hs0)
  clear hr0' hx0' hz0' hi0' hbE' hmin hmf
  go_loopg [11, 26] most (fun g cnt i wr => ∃ (k : Nat) (l : List Nat) (p : Nat) (E : Du), k ≤ most ∧ g = most - k ∧ i = .int .i64 k ∧ cnt = .int .i64 k ∧ k ≤ p ∧ p ≤ B.length ∧ E.ok ∧ F = glueF l (rdA (n - k) (B.drop p) E) ∧ l.length = k ∧ (∀ x ∈ l, x < 4294967296) ∧
    wr.ownsRow gb 30 1 (.slice (some ⟨gb, 0, none⟩) most most) most (nums .u32 ((l ++ List.replicate (most - k) 0).map Int.ofNat)) ∧ BoxAt wr (W.heap.size + 1) (.slice ab nb cb) N0 ∧ IntAt wr (W.heap.size + 1 + 1 + 1) p ∧ ResAt wr W.heap.size (n - k : Nat) E.k0 E.k1 E.s0 E.s1 (.slice aa len cap) N ∧ ResAt wr (W.heap.size + 1 + 1) 0 0 0 0 0 (.slice none 0 0) 0 ∧ Below W.heap.size W wr)
  case atStart =>
    refine ⟨0, [], 0, D, Nat.zero_le _, rfl, rfl, rfl, Nat.le_refl _, Nat.zero_le _, hd'.out, ?_, rfl, fun x hx => (by cases hx), ?_, x1.out, i1.out, r1.out, z1.out, B1.out⟩
    · rw [Nat.sub_zero, List.drop_zero, glueF_rdA]; exact hF'.out
    · have e : ([] ++ List.replicate (most - 0) 0 : List Nat).map Int.ofNat = List.replicate most 0 := by simp
      rw [e]; exact o1.out
  case round =>
  obtain ⟨k, l, p, E, hk, hg, rfl, rfl, hkp, hp, hE, hgl, hlk, hl32, ho, hx, hi, hr, hz, hB⟩ := hrel
  obtain ⟨w2, hw2⟩ : ∃ w, w = wr := ⟨_, rfl⟩
  subst hw2
  have hgo := Go.Lib.hid hg
  have hgl' := Go.Lib.hid hgl
  have hE' := Go.Lib.hid hE
  have hp' := Go.Lib.hid hp
  have hkp' := Go.Lib.hid hkp
  have hl' := Go.Lib.hid hl32
  have hlk' := Go.Lib.hid hlk
  have o2 := Go.Lib.hid ho
  have x2 := Go.Lib.hid hx
  have i2 := Go.Lib.hid hi
  have r2 := Go.Lib.hid hr
  have z2 := Go.Lib.hid hz
  have B2 := Go.Lib.hid hB
  have ap : Hid (∀ y, y ≠ gb → ∀ g, (Value.slice (some ⟨gb, 0, none⟩) most most).ownBlock = some g → g ≠ y) := Go.Lib.hid fun y hy g e => by
    obtain rfl : g = gb := by simpa [Value.ownBlock] using e.symm
    exact hy.symm
  clear hg hgl hE hp hkp hl32 hlk ho hx hi hr hz hB o1 r1 x1 z1 i1 B1
  by_cases hlt : k < most
  · have hlt' : (k : Int) < most := by omega
    obtain ⟨v, q, er, hv⟩ : ∃ v q er, readD B p E = (v, q, er) := ⟨_, _, _, rfl⟩
    have hv' := Go.Lib.hid hv
    obtain ⟨j, hj⟩ : ∃ j, n - k = j + 1 := ⟨n - k - 1, by omega⟩
    have hj2 : n - (k + 1) = j := by omega
    by_cases he : er = 0
    · subst he
      obtain ⟨hv32, hq1, hqB, -⟩ := dual_is hv hp'.out hE'.out.1 hE'.out.2.1
      have hpos := dualLen_pos E v
      obtain ⟨E2, hEE⟩ : ∃ E', E' = learnD E v := ⟨_, rfl⟩
      have hE2 := Go.Lib.hid (show E2.ok by rw [hEE]; exact learnD_ok hE'.out hv32)
      have hst := Go.Lib.hid (show F = glueF (l ++ [v]) (rdA (n - (k + 1)) (B.drop q) E2) by
        rw [hgl'.out, hj, rdA_step hv hp'.out, glueF_glue, ← hEE, hj2])
      have nx : Hid (Calls Try.prog 86 #[.pointer (some ⟨W.heap.size + 1, 0, none⟩), .pointer (some ⟨W.heap.size + 1 + 1 + 1, 0, none⟩), .pointer (some ⟨W.heap.size, 0, none⟩)] w2 fun e W' => e = .returned (.tuple #[.int .u32 v, .int .i64 0]) ∧ ∃ w1, Below w2.heap.size w2 w1 ∧ W' = nextW w1 (W.heap.size + 1 + 1 + 1) W.heap.size q E2.k0 E2.k1 E2.s0 E2.s1 (n - (k + 1) : Nat)) := Go.Lib.hid (by
        refine Pnext_ok w2 _ _ _ _ _ _ _ _ _ v q E E2 _ x2.out i2.out r2.out (by omega) (by omega) (by omega) ?_
        have := DRead_ok w2 ab nb cb B p E (hbr'.out.below B2.out (Nat.le_refl _)) hB'.out hp'.out hE'.out v q hv
        rw [← hEE, ← hN0'.out] at this
        exact this)
      have hq2 := Go.Lib.hid (show k + 1 ≤ q by have := hkp'.out; omega)
      clear hv hq1 hEE hj hj2 hpos
      go_wp2_with (go_at_call 86; with_reducible refine nx.out.mono ?_; rintro e w5 ⟨rfl, w6, hb6, hw5⟩; have o5 := Go.Lib.hid (show w5.ownsRow gb 30 1 (.slice (some ⟨gb, 0, none⟩) most most) most (nums .u32 ((l ++ List.replicate (most - k) 0).map Int.ofNat)) by rw [hw5]; exact nextW_own (own_below o2.out hb6 (Nat.le_refl _)) (ap.out _ (by omega)) (ap.out _ (by omega))); have x5 := Go.Lib.hid (show BoxAt w5 (W.heap.size + 1) (.slice ab nb cb) N0 by rw [hw5]; exact nextW_box (x2.out.below hb6 x2.out.lt) (by omega) (by omega)); have i5 := Go.Lib.hid (show IntAt w5 (W.heap.size + 1 + 1 + 1) q by rw [hw5]; exact nextW_int (i2.out.below hb6 i2.out.lt) (by omega)); have r5 := Go.Lib.hid (show ResAt w5 W.heap.size (n - (k + 1) : Nat) E2.k0 E2.k1 E2.s0 E2.s1 (.slice aa len cap) N by rw [hw5]; exact nextW_res (r2.out.below hb6 r2.out.lt) (by omega)); have z5 := Go.Lib.hid (show ResAt w5 (W.heap.size + 1 + 1) 0 0 0 0 0 (.slice none 0 0) 0 by rw [hw5]; exact nextW_other (z2.out.below hb6 z2.out.lt) (by omega) (by omega)); have B5 := Go.Lib.hid (show Below W.heap.size W w5 by rw [hw5]; exact nextW_below (B2.out.trans (hb6.mono B2.out.size)) (by omega) (by omega)); have hc1 := o5.out.cellAt k (by omega); have hf1 := o5.out.frozenAt k; obtain ⟨v0, hv0⟩ : ∃ v0, (nums .u32 ((l ++ List.replicate (most - k) 0).map Int.ofNat))[k]? = some v0 := ⟨_, List.getElem?_eq_getElem (by have := hlk'.out; simp [nums]; omega)⟩; rw [hv0] at hc1; clear hb6 hw5)
      go_roundg (most - (k + 1))
      case measure => (have hgk := hgo.out; omega)
      case rel =>
        refine ⟨k + 1, l ++ [v], q, E2, by omega, rfl, by go_num, by go_num, hq2.out, hqB, hE2.out, hst.out, by have := hlk'.out; simp [this], fun x hx => ?_, ?_, x5.out.other (by simp; omega) _, i5.out.other (by simp; omega) _, r5.out.other (by simp; omega) _, z5.out.other (by simp; omega) _, B5.out.setCell (by simp; omega) _⟩
        · rcases List.mem_append.1 hx with hx | hx
          · exact hl'.out x hx
          · rw [List.mem_singleton] at hx; rw [hx]; exact hv32
        · have := (o5.out.stored k (.int .u32 (v : Int))).1
          rw [show most - k = (most - (k + 1)) + 1 by omega, set_next l k _ v hlk'.out] at this
          exact this
    · have hre := DRead_er w2 ab nb cb B p E (hbr'.out.below B2.out (Nat.le_refl _)) hB'.out hp'.out hE'.out v q er he hv
      rw [← hN0'.out] at hre
      have nx := Go.Lib.hid (Pnext_er w2 _ _ _ _ _ _ _ _ er E _ x2.out i2.out r2.out (by omega) hre)
      by_cases h24 : er = 24
      · subst h24
        clear hre
        go_upto_region 14 with (go_at_call 86; with_reducible refine nx.out.mono ?_; rintro e w5 ⟨rfl, hb5⟩; have o5 := Go.Lib.hid (own_below o2.out hb5 (Nat.le_refl _)); have x5 := Go.Lib.hid (x2.out.below hb5 x2.out.lt); have i5 := Go.Lib.hid (i2.out.below hb5 i2.out.lt); have r5 := Go.Lib.hid (r2.out.below hb5 r2.out.lt); have z5 := Go.Lib.hid (z2.out.below hb5 z2.out.lt); have B5 := Go.Lib.hid (B2.out.trans (hb5.mono B2.out.size)); clear hb5)
        obtain ⟨nk, hnk⟩ : ∃ x, x = n - k := ⟨_, rfl⟩
        have hfin : Hid (F = ⟨l, B.drop p, nk, E, 0⟩) := Go.Lib.hid (by rw [hnk]; rw [hgl'.out, hj, rdA_stop hv hp'.out, glueF_ok, List.append_nil])
        have hnk' := Go.Lib.hid hnk
        clear hnk hj hj2 hv
        obtain ⟨R, hR⟩ : ∃ R, R = B.drop p := ⟨_, rfl⟩
        obtain ⟨RN, hRN⟩ : ∃ x, x = R.length := ⟨_, rfl⟩
        obtain ⟨RL, hRL⟩ : ∃ x, x = (RN + 7) / 8 := ⟨_, rfl⟩
        have ct : Hid (∀ w, Row .u8 w ab nb cb (pack B) → Calls Try.prog 87 #[.agg #[.slice ab nb cb, .int .i64 N0], .int .i64 p, .int .i64 N0] w fun e W' => ∃ b c, e = .returned (.tuple #[.agg #[.slice (some ⟨b, 0, none⟩) RL c, .int .i64 RN], .int .i64 0]) ∧ w.heap.size ≤ b ∧ Row .u8 W' (some ⟨b, 0, none⟩) RL c (pack R) ∧ Below w.heap.size w W') := Go.Lib.hid fun w h => by
          have := BCut_new w ab nb cb B p B.length h hB'.out hp'.out (Nat.le_refl _)
          have e : midB B p B.length = B.drop p := by unfold midB; rw [List.take_of_length_le (by rw [List.length_drop]; omega)]
          have e2 : B.length - p = RN := by rw [hRN, hR, List.length_drop]
          rw [e, ← hR, ← hRN, ← hRL, e2, ← hN0'.out] at this
          exact this
        have hR' := Go.Lib.hid hR
        have hRN' := Go.Lib.hid hRN
        have hRL' := Go.Lib.hid hRL
        obtain ⟨i0, i1⟩ := i5.out.cell
        obtain ⟨f0, f1, f2, f3⟩ := x5.out.cells
        clear hR hRN hRL
        go_upto_region 15 with (go_at_call 87; with_reducible refine (ct.out _ (hbr'.out.below B5.out (Nat.le_refl _))).mono ?_; rintro e c1 ⟨b2, c2, rfl, hg2, hr2, hs⟩; have hg3 := Go.Lib.hid (Nat.le_trans B5.out.size hg2); have hr3 := Go.Lib.hid hr2; have xo := Go.Lib.hid (own_below o5.out hs (Nat.le_refl _)); have xr := Go.Lib.hid (r5.out.below hs r5.out.lt); have xz := Go.Lib.hid (z5.out.below hs z5.out.lt); have xB := Go.Lib.hid (B5.out.trans (hs.mono B5.out.size)); clear hs hg2 hr2)
        obtain ⟨c3, hc3⟩ : ∃ w, w = c1.alloc (.cells #[.slice (some ⟨b2, 0, none⟩) RL c2, .int .i64 RN] 45) := ⟨_, rfl⟩
        obtain ⟨x14, hx14⟩ : ∃ x, x = c1.heap.size := ⟨_, rfl⟩
        have o3 := Go.Lib.hid (show c3.ownsRow gb 30 1 (.slice (some ⟨gb, 0, none⟩) most most) most (nums .u32 ((l ++ List.replicate (most - k) 0).map Int.ofNat)) by rw [hc3]; exact own_below xo.out (below1 c1 _) (Nat.le_refl _))
        have r3 := Go.Lib.hid (show ResAt c3 W.heap.size nk E.k0 E.k1 E.s0 E.s1 (.slice aa len cap) N by rw [hc3, hnk'.out]; exact xr.out.alloc _)
        have z3 := Go.Lib.hid (show ResAt c3 (W.heap.size + 1 + 1) 0 0 0 0 0 (.slice none 0 0) 0 by rw [hc3]; exact xz.out.alloc _)
        have B3 := Go.Lib.hid (show Below W.heap.size W c3 by rw [hc3]; exact xB.out.alloc xB.out.size _)
        have t3 := Go.Lib.hid (show Row .u8 c3 (some ⟨b2, 0, none⟩) RL c2 (pack R) by rw [hc3]; exact hr3.out.below (below1 c1 _) (Nat.le_refl _))
        have y3 := Go.Lib.hid (show BoxAt c3 x14 (.slice (some ⟨b2, 0, none⟩) RL c2) RN by rw [hc3, hx14]; exact box1 c1 _ _)
        have n14 : W.heap.size < x14 := by rw [hx14]; exact xr.out.lt
        rw [← hc3]
        try rw [← hx14]
        clear hc3 hx14 xo xr xz xB hr3 i0 i1 f0 f1 f2 f3
        obtain ⟨f0, f1, f2, f3⟩ := y3.out.cells
        obtain ⟨s0, s1, s2, s3, s4, s5, s6, s7, s8, s9, s10, s11, s12, s13⟩ := r3.out.cells
        go_upto_region 18 with (fail)
        obtain ⟨c4, hc4⟩ : ∃ w, w = (c3.setCell ⟨W.heap.size, 5, none⟩ (.slice (some ⟨b2, 0, none⟩) RL c2)).setCell ⟨W.heap.size, 6, none⟩ (.int .i64 RN) := ⟨_, rfl⟩
        have o4 := Go.Lib.hid (show c4.ownsRow gb 30 1 (.slice (some ⟨gb, 0, none⟩) most most) most (nums .u32 ((l ++ List.replicate (most - k) 0).map Int.ofNat)) by rw [hc4]; exact own_setG (own_setG o3.out (ap.out _ (by omega)) _ _) (ap.out _ (by omega)) _ _)
        have r4 := Go.Lib.hid (show ResAt c4 W.heap.size nk E.k0 E.k1 E.s0 E.s1 (.slice (some ⟨b2, 0, none⟩) RL c2) RN by rw [hc4]; exact r3.out.setB _ _)
        have z4 := Go.Lib.hid (show ResAt c4 (W.heap.size + 1 + 1) 0 0 0 0 0 (.slice none 0 0) 0 by rw [hc4]; exact (z3.out.other (by simp; omega) _).other (by simp; omega) _)
        have B4 := Go.Lib.hid (show Below W.heap.size W c4 by rw [hc4]; exact (B3.out.setCell (Nat.le_refl _) _).setCell (Nat.le_refl _) _)
        have t4 := Go.Lib.hid (show Row .u8 c4 (some ⟨b2, 0, none⟩) RL c2 (pack R) by rw [hc4]; exact Row.boxR (.inl rfl) (Row.boxR (.inl rfl) t3.out ⟨_, _, _, _, _, _, _, _, _, r3.out⟩ 5 (.slice (some ⟨b2, 0, none⟩) RL c2)) ⟨_, _, _, _, _, _, _, _, _, r3.out.set5 _⟩ 6 _)
        rw [← hc4]
        clear hc4 o3 r3 z3 B3 t3 y3 f0 f1 f2 f3 s0 s1 s2 s3 s4 s5 s6 s7 s8 s9 s10 s11 s12 s13
        have wf4 : ∀ x ∈ (l ++ List.replicate (most - k) 0).map Int.ofNat, (Lit.int .u32 x).wf = true := natsU _ fun x hx => by
          rcases List.mem_append.1 hx with hx | hx
          · exact hl'.out x hx
          · rw [(List.mem_replicate.1 hx).2]; decide
        have m4 := Go.Lib.hid (Row.of_own o4.out wf4)
        clear wf4
        go_upto_region 19 with (at_make; refine law_make elU32 _ rfl _ _ rfl .i64 .i64 _ _ k rfl rfl (by omega) (by omega) (by omega) ?_; intro c5 hown hbl hsz; have o5' := Go.Lib.hid hown; have r5' := Go.Lib.hid (r4.out.below hbl r4.out.lt); have z5' := Go.Lib.hid (z4.out.below hbl z4.out.lt); have m5' := Go.Lib.hid (m4.out.below hbl (Nat.le_refl _)); have B5' := Go.Lib.hid (B4.out.trans (hbl.mono B4.out.size)); have gz : W.heap.size + 1 + 1 < c4.heap.size := z4.out.lt; obtain ⟨gn, hgn⟩ : ∃ g, g = c4.heap.size := ⟨_, rfl⟩; have gle : c4.heap.size ≤ gn := Nat.le_of_eq hgn.symm; rw [← hgn] at o5' gz hsz hbl ⊢; have s45 := Go.Lib.hid hbl; clear hown hbl hgn)
        clear o4 r4 z4 B4 m4
        go_wp2_with (with_reducible show wpList _ _ _ _ _ _; refine law_copyTake elU32 _ rfl _ _ _ rfl gn gn k k (List.replicate k 0) rfl o5'.out (some ⟨gb, 0, none⟩) most most _ rfl m5'.out (by omega) ?_; intro c6 hown hbl; have o6 := Go.Lib.hid hown; have r6 := Go.Lib.hid (r5'.out.below hbl (by omega)); have z6 := Go.Lib.hid (z5'.out.below hbl (by omega)); have t6 := Go.Lib.hid hbl; have B6 := Go.Lib.hid (B5'.out.trans (hbl.mono (by omega))); obtain ⟨s0, s1, s2, s3, s4, s5, s6, s7, s8, s9, s10, s11, s12, s13⟩ := r6.out.cells; obtain ⟨u0, u1, u2, u3, u4, u5, u6, u7, u8, u9, u10, u11, u12, u13⟩ := z6.out.cells; clear hown hbl)
        (try simp only [Exit.inBlock, Exit.then])
        refine bodyPost_ret (results_res_two (by rfl) _ _ (W.heap.size + 1 + 1) _ _ _ _ _ _ _ rfl (z6.out.set nk E.k0 E.k1 E.s0 E.s1 (.slice (some ⟨b2, 0, none⟩) RL c2) RN)) rfl ?_
        have rN : Row .u32 c6 (some ⟨gn, 0, none⟩) k k (l.map Int.ofNat) := by
          have e : ((l ++ List.replicate (most - k) 0).map Int.ofNat).take k = l.map Int.ofNat := by
            rw [List.map_append, List.take_left' (by rw [List.length_map]; exact hlk'.out)]
          have h := o6.out
          rw [e] at h
          exact Row.of_own h (natsU _ hl'.out)
        have tN := t4.out.below (s45.out.trans t6.out) gle
        rw [hfin.out]
        have e1 := hRL'.out
        have e2 := hRN'.out
        have e3 := hR'.out
        subst e1 e2 e3
        exact ⟨some ⟨b2, 0, none⟩, c2, some ⟨gn, 0, none⟩, k, k, by simp, rows7 (.inl rfl) tN z6.out, rows7 (.inr rfl) rN z6.out, below7 B6.out (by omega), .inr ⟨b2, 0, rfl, hg3.out⟩⟩
      · have hfin : Hid (F = fedE er) := Go.Lib.hid (by rw [hgl'.out, hj, rdA_fail hv hp'.out h24 he, glueF_E _ he])
        have he1 : ((er : Int) == 24) = false := by rw [beq_eq_false_iff_ne]; omega
        have he2 : ((er : Int) != 0) = true := by rw [bne_iff_ne]; omega
        clear hre hj hj2 hv
        go_wp2_with (go_at_call 86; with_reducible refine nx.out.mono ?_; rintro e w5 ⟨rfl, hb5⟩; have z5 := Go.Lib.hid (z2.out.below hb5 z2.out.lt); have B5 := Go.Lib.hid (B2.out.trans (hb5.mono B2.out.size)); obtain ⟨u0, u1, u2, u3, u4, u5, u6, u7, u8, u9, u10, u11, u12, u13⟩ := z5.out.cells; clear hb5)
        (try simp only [Exit.inBlock, Exit.then])
        refine bodyPost_ret (results_res_two (by rfl) _ _ (W.heap.size + 1 + 1) _ _ _ _ _ _ _ rfl (z5.out.set 0 0 0 0 0 (.slice none 0 0) 0)) rfl ?_
        rw [hfin.out]
        exact ⟨none, 0, none, 0, 0, by simp [fedE], row_fedE _ _, Row.nil_row _ _, below7 B5.out (by omega), .inl (by rw [show (fedE er).r = [] from rfl]; rfl)⟩
  · have hkm : k = most := by omega
    have hlt' : ¬ (k : Int) < most := by omega
    have hend : Hid (rdA (n - k) (B.drop p) E = ⟨[], B.drop p, n - k, E, 0⟩) := Go.Lib.hid (by
      by_cases h : k = n
      · rw [h, Nat.sub_self]; rfl
      · have h1 := hmx'.out (by omega)
        have h2 := hN0'.out
        have h3 := hkp'.out
        rw [List.drop_eq_nil_of_le (by omega), rdA_nil])
    clear hkm
    go_upto_region 14 with (fail)
    obtain ⟨nk, hnk⟩ : ∃ x, x = n - k := ⟨_, rfl⟩
    have hfin : Hid (F = ⟨l, B.drop p, nk, E, 0⟩) := Go.Lib.hid (by rw [hnk]; rw [hgl'.out, hend.out, glueF_ok, List.append_nil])
    have hnk' := Go.Lib.hid hnk
    clear hnk hend
    obtain ⟨R, hR⟩ : ∃ R, R = B.drop p := ⟨_, rfl⟩
    obtain ⟨RN, hRN⟩ : ∃ x, x = R.length := ⟨_, rfl⟩
    obtain ⟨RL, hRL⟩ : ∃ x, x = (RN + 7) / 8 := ⟨_, rfl⟩
    have ct : Hid (∀ w, Row .u8 w ab nb cb (pack B) → Calls Try.prog 87 #[.agg #[.slice ab nb cb, .int .i64 N0], .int .i64 p, .int .i64 N0] w fun e W' => ∃ b c, e = .returned (.tuple #[.agg #[.slice (some ⟨b, 0, none⟩) RL c, .int .i64 RN], .int .i64 0]) ∧ w.heap.size ≤ b ∧ Row .u8 W' (some ⟨b, 0, none⟩) RL c (pack R) ∧ Below w.heap.size w W') := Go.Lib.hid fun w h => by
      have := BCut_new w ab nb cb B p B.length h hB'.out hp'.out (Nat.le_refl _)
      have e : midB B p B.length = B.drop p := by unfold midB; rw [List.take_of_length_le (by rw [List.length_drop]; omega)]
      have e2 : B.length - p = RN := by rw [hRN, hR, List.length_drop]
      rw [e, ← hR, ← hRN, ← hRL, e2, ← hN0'.out] at this
      exact this
    have hR' := Go.Lib.hid hR
    have hRN' := Go.Lib.hid hRN
    have hRL' := Go.Lib.hid hRL
    obtain ⟨i0, i1⟩ := i2.out.cell
    obtain ⟨f0, f1, f2, f3⟩ := x2.out.cells
    clear hR hRN hRL
    go_upto_region 15 with (go_at_call 87; with_reducible refine (ct.out _ (hbr'.out.below B2.out (Nat.le_refl _))).mono ?_; rintro e c1 ⟨b2, c2, rfl, hg2, hr2, hs⟩; have hg3 := Go.Lib.hid (Nat.le_trans B2.out.size hg2); have hr3 := Go.Lib.hid hr2; have xo := Go.Lib.hid (own_below o2.out hs (Nat.le_refl _)); have xr := Go.Lib.hid (r2.out.below hs r2.out.lt); have xz := Go.Lib.hid (z2.out.below hs z2.out.lt); have xB := Go.Lib.hid (B2.out.trans (hs.mono B2.out.size)); clear hs hg2 hr2)
    obtain ⟨c3, hc3⟩ : ∃ w, w = c1.alloc (.cells #[.slice (some ⟨b2, 0, none⟩) RL c2, .int .i64 RN] 45) := ⟨_, rfl⟩
    obtain ⟨x14, hx14⟩ : ∃ x, x = c1.heap.size := ⟨_, rfl⟩
    have o3 := Go.Lib.hid (show c3.ownsRow gb 30 1 (.slice (some ⟨gb, 0, none⟩) most most) most (nums .u32 ((l ++ List.replicate (most - k) 0).map Int.ofNat)) by rw [hc3]; exact own_below xo.out (below1 c1 _) (Nat.le_refl _))
    have r3 := Go.Lib.hid (show ResAt c3 W.heap.size nk E.k0 E.k1 E.s0 E.s1 (.slice aa len cap) N by rw [hc3, hnk'.out]; exact xr.out.alloc _)
    have z3 := Go.Lib.hid (show ResAt c3 (W.heap.size + 1 + 1) 0 0 0 0 0 (.slice none 0 0) 0 by rw [hc3]; exact xz.out.alloc _)
    have B3 := Go.Lib.hid (show Below W.heap.size W c3 by rw [hc3]; exact xB.out.alloc xB.out.size _)
    have t3 := Go.Lib.hid (show Row .u8 c3 (some ⟨b2, 0, none⟩) RL c2 (pack R) by rw [hc3]; exact hr3.out.below (below1 c1 _) (Nat.le_refl _))
    have y3 := Go.Lib.hid (show BoxAt c3 x14 (.slice (some ⟨b2, 0, none⟩) RL c2) RN by rw [hc3, hx14]; exact box1 c1 _ _)
    have n14 : W.heap.size < x14 := by rw [hx14]; exact xr.out.lt
    rw [← hc3]
    try rw [← hx14]
    clear hc3 hx14 xo xr xz xB hr3 i0 i1 f0 f1 f2 f3
    obtain ⟨f0, f1, f2, f3⟩ := y3.out.cells
    obtain ⟨s0, s1, s2, s3, s4, s5, s6, s7, s8, s9, s10, s11, s12, s13⟩ := r3.out.cells
    go_upto_region 18 with (fail)
    obtain ⟨c4, hc4⟩ : ∃ w, w = (c3.setCell ⟨W.heap.size, 5, none⟩ (.slice (some ⟨b2, 0, none⟩) RL c2)).setCell ⟨W.heap.size, 6, none⟩ (.int .i64 RN) := ⟨_, rfl⟩
    have o4 := Go.Lib.hid (show c4.ownsRow gb 30 1 (.slice (some ⟨gb, 0, none⟩) most most) most (nums .u32 ((l ++ List.replicate (most - k) 0).map Int.ofNat)) by rw [hc4]; exact own_setG (own_setG o3.out (ap.out _ (by omega)) _ _) (ap.out _ (by omega)) _ _)
    have r4 := Go.Lib.hid (show ResAt c4 W.heap.size nk E.k0 E.k1 E.s0 E.s1 (.slice (some ⟨b2, 0, none⟩) RL c2) RN by rw [hc4]; exact r3.out.setB _ _)
    have z4 := Go.Lib.hid (show ResAt c4 (W.heap.size + 1 + 1) 0 0 0 0 0 (.slice none 0 0) 0 by rw [hc4]; exact (z3.out.other (by simp; omega) _).other (by simp; omega) _)
    have B4 := Go.Lib.hid (show Below W.heap.size W c4 by rw [hc4]; exact (B3.out.setCell (Nat.le_refl _) _).setCell (Nat.le_refl _) _)
    have t4 := Go.Lib.hid (show Row .u8 c4 (some ⟨b2, 0, none⟩) RL c2 (pack R) by rw [hc4]; exact Row.boxR (.inl rfl) (Row.boxR (.inl rfl) t3.out ⟨_, _, _, _, _, _, _, _, _, r3.out⟩ 5 (.slice (some ⟨b2, 0, none⟩) RL c2)) ⟨_, _, _, _, _, _, _, _, _, r3.out.set5 _⟩ 6 _)
    rw [← hc4]
    clear hc4 o3 r3 z3 B3 t3 y3 f0 f1 f2 f3 s0 s1 s2 s3 s4 s5 s6 s7 s8 s9 s10 s11 s12 s13
    have wf4 : ∀ x ∈ (l ++ List.replicate (most - k) 0).map Int.ofNat, (Lit.int .u32 x).wf = true := natsU _ fun x hx => by
      rcases List.mem_append.1 hx with hx | hx
      · exact hl'.out x hx
      · rw [(List.mem_replicate.1 hx).2]; decide
    have m4 := Go.Lib.hid (Row.of_own o4.out wf4)
    clear wf4
    go_upto_region 19 with (at_make; refine law_make elU32 _ rfl _ _ rfl .i64 .i64 _ _ k rfl rfl (by omega) (by omega) (by omega) ?_; intro c5 hown hbl hsz; have o5' := Go.Lib.hid hown; have r5' := Go.Lib.hid (r4.out.below hbl r4.out.lt); have z5' := Go.Lib.hid (z4.out.below hbl z4.out.lt); have m5' := Go.Lib.hid (m4.out.below hbl (Nat.le_refl _)); have B5' := Go.Lib.hid (B4.out.trans (hbl.mono B4.out.size)); have gz : W.heap.size + 1 + 1 < c4.heap.size := z4.out.lt; obtain ⟨gn, hgn⟩ : ∃ g, g = c4.heap.size := ⟨_, rfl⟩; have gle : c4.heap.size ≤ gn := Nat.le_of_eq hgn.symm; rw [← hgn] at o5' gz hsz hbl ⊢; have s45 := Go.Lib.hid hbl; clear hown hbl hgn)
    clear o4 r4 z4 B4 m4
    go_wp2_with (with_reducible show wpList _ _ _ _ _ _; refine law_copyTake elU32 _ rfl _ _ _ rfl gn gn k k (List.replicate k 0) rfl o5'.out (some ⟨gb, 0, none⟩) most most _ rfl m5'.out (by omega) ?_; intro c6 hown hbl; have o6 := Go.Lib.hid hown; have r6 := Go.Lib.hid (r5'.out.below hbl (by omega)); have z6 := Go.Lib.hid (z5'.out.below hbl (by omega)); have t6 := Go.Lib.hid hbl; have B6 := Go.Lib.hid (B5'.out.trans (hbl.mono (by omega))); obtain ⟨s0, s1, s2, s3, s4, s5, s6, s7, s8, s9, s10, s11, s12, s13⟩ := r6.out.cells; obtain ⟨u0, u1, u2, u3, u4, u5, u6, u7, u8, u9, u10, u11, u12, u13⟩ := z6.out.cells; clear hown hbl)
    (try simp only [Exit.inBlock, Exit.then])
    refine bodyPost_ret (results_res_two (by rfl) _ _ (W.heap.size + 1 + 1) _ _ _ _ _ _ _ rfl (z6.out.set nk E.k0 E.k1 E.s0 E.s1 (.slice (some ⟨b2, 0, none⟩) RL c2) RN)) rfl ?_
    have rN : Row .u32 c6 (some ⟨gn, 0, none⟩) k k (l.map Int.ofNat) := by
      have e : ((l ++ List.replicate (most - k) 0).map Int.ofNat).take k = l.map Int.ofNat := by
        rw [List.map_append, List.take_left' (by rw [List.length_map]; exact hlk'.out)]
      have h := o6.out
      rw [e] at h
      exact Row.of_own h (natsU _ hl'.out)
    have tN := t4.out.below (s45.out.trans t6.out) gle
    rw [hfin.out]
    have e1 := hRL'.out
    have e2 := hRN'.out
    have e3 := hR'.out
    subst e1 e2 e3
    exact ⟨some ⟨b2, 0, none⟩, c2, some ⟨gn, 0, none⟩, k, k, by simp, rows7 (.inl rfl) tN z6.out, rows7 (.inr rfl) rN z6.out, below7 B6.out (by omega), .inr ⟨b2, 0, rfl, hg3.out⟩⟩
end Go.Proofs.Ythbjcjphplgobaa

/- Contracts of the package resume: Feed. -/
namespace Go.Proofs.Ythbjcjphplgobaa
open Go.RowKit Cad

set_option maxRecDepth 100000 in
set_option maxHeartbeats 1000000 in
theorem PsFeed_bad (W : World) (aa : Option Addr) (len cap : Nat) (n a b c d N : Int) (l : List Int) (ab : Option Addr) (nb cb : Nat) (lb : List Int) (hr : Row .u8 W aa len cap l) (_hbr : Row .u8 W ab nb cb lb) (hN : (Lit.int .i64 N).wf = true) (ha : (Lit.int .i64 a).wf = true) (hb : (Lit.int .i64 b).wf = true) (hc : (Lit.int .u64 c).wf = true) (hd : (Lit.int .u64 d).wf = true) (hno : ¬ ResOk n a b c d l N) :
    ResF 34 #[.agg #[.int .i64 n, .int .i64 a, .int .i64 b, .int .u64 c, .int .u64 d, .slice aa len cap, .int .i64 N], .slice ab nb cb] W (fedE 8) := by
  refine ResF.none ?_
  obtain ⟨W0, hW0, hbE, hsz0, hx0, hz0⟩ := rr_boxes W n a b c d (.slice aa len cap) N
  have ck := Go.Lib.hid (PsCheck_any W0 aa len cap n a b c d N l (hr.below hbE (Nat.le_refl _)) hN ha hb hc hd 8 (.inr ⟨hno, rfl⟩))
  have hz0' := Go.Lib.hid hz0
  have hbE' := Go.Lib.hid hbE
  clear hr hN ha hb hc hd hno hx0 hz0 hbE
  go_enter Try.func34, Try.ntmps34
  go_wp2_with (go_at_call 57; rw [← hW0]; clear hW0; with_reducible refine ck.out.mono ?_; rintro e w1 ⟨rfl, hb1⟩; have z1 := Go.Lib.hid (hz0'.out.below hb1 hz0'.out.lt); have B1 := Go.Lib.hid (hbE'.out.trans (hb1.mono hbE'.out.size)); obtain ⟨f0, f1, f2, f3, f4, f5, f6, g0, g1, g2, g3, g4, g5, g6⟩ := z1.out.cells; clear hb1)
  (try simp only [Exit.inBlock, Exit.then])
  refine bodyPost_ret (results_res_two (by rfl) _ _ (W.heap.size + 1) _ _ _ _ _ _ _ rfl (z1.out.set 0 0 0 0 0 (.slice none 0 0) 0)) rfl ?_
  exact ⟨by simp, below7 B1.out (by omega)⟩
set_option maxRecDepth 100000 in
set_option maxHeartbeats 1000000 in
theorem PsFeed_many (W : World) (aa : Option Addr) (len cap : Nat) (n : Nat) (D : Du) (R : List Bool) (ab : Option Addr) (nb cb : Nat) (lb : List Int) (hr : Row .u8 W aa len cap (pack R)) (_hbr : Row .u8 W ab nb cb lb) (hok : ResOkN n D R) (hnb : 41000 < nb) (hnb2 : nb ≤ 9223372036854775807) :
    ResF 34 #[.agg #[.int .i64 n, .int .i64 D.k0, .int .i64 D.k1, .int .u64 D.s0, .int .u64 D.s1, .slice aa len cap, .int .i64 R.length], .slice ab nb cb] W (fedE 4) := by
  refine ResF.none ?_
  have w4 := du_wf hok.d
  have b80 := hok.b80
  obtain ⟨W0, hW0, hbE, hsz0, hx0, hz0⟩ := rr_boxes W n D.k0 D.k1 D.s0 D.s1 (.slice aa len cap) R.length
  have ck := Go.Lib.hid (PsCheck_any W0 aa len cap n D.k0 D.k1 D.s0 D.s1 R.length (pack R) (hr.below hbE (Nat.le_refl _)) (bounds_of_len (by omega)) w4.1 w4.2.1 w4.2.2.1 w4.2.2.2 0 (.inl ⟨⟨n, D, R, hok, rfl, rfl, rfl, rfl, rfl, rfl, rfl⟩, rfl⟩))
  obtain ⟨N, hN⟩ : ∃ N, N = R.length := ⟨_, rfl⟩
  rw [← hN] at ck hW0 hx0 ⊢
  have hz0' := Go.Lib.hid hz0
  have hbE' := Go.Lib.hid hbE
  have hk : (41000 : Int) < nb := by omega
  clear hr hok w4 b80 hx0 hz0 hbE hN
  go_enter Try.func34, Try.ntmps34
  go_wp2_with (go_at_call 57; rw [← hW0]; clear hW0; with_reducible refine ck.out.mono ?_; rintro e w1 ⟨rfl, hb1⟩; have z1 := Go.Lib.hid (hz0'.out.below hb1 hz0'.out.lt); have B1 := Go.Lib.hid (hbE'.out.trans (hb1.mono hbE'.out.size)); obtain ⟨f0, f1, f2, f3, f4, f5, f6, g0, g1, g2, g3, g4, g5, g6⟩ := z1.out.cells; clear hb1)
  (try simp only [Exit.inBlock, Exit.then])
  refine bodyPost_ret (results_res_two (by rfl) _ _ (W.heap.size + 1) _ _ _ _ _ _ _ rfl (z1.out.set 0 0 0 0 0 (.slice none 0 0) 0)) rfl ?_
  exact ⟨by simp, below7 B1.out (by omega)⟩

set_option maxRecDepth 100000 in
set_option maxHeartbeats 4000000 in
theorem PsFeed_new (W : World) (aa : Option Addr) (len cap : Nat) (n : Nat) (D : Du) (R : List Bool) (ab : Option Addr) (nb cb : Nat) (bl : List Nat) (hr : Row .u8 W aa len cap (pack R)) (hok : ResOkN n D R) (hbr : Row .u8 W ab nb cb (bl.map Int.ofNat)) (hbl : bl.length = nb) (h256 : ∀ x ∈ bl, x < 256) (hnb : nb ≤ 41000) :
    ResG 34 #[.agg #[.int .i64 n, .int .i64 D.k0, .int .i64 D.k1, .int .u64 D.s0, .int .u64 D.s1, .slice aa len cap, .int .i64 R.length], .slice ab nb cb] W (fed n (R ++ bytesB bl) D) := by
  have w4 := du_wf hok.d
  have b80 := hok.b80
  have hlB : (bytesB bl).length = 8 * nb := by rw [bytesB_len, hbl]
  have hlC : (R ++ bytesB bl).length = R.length + (bytesB bl).length := List.length_append ..
  have hpk := pack_bytes h256
  obtain ⟨W0, hW0, hbE, hsz0, hx0, hz0⟩ := rr_boxes W n D.k0 D.k1 D.s0 D.s1 (.slice aa len cap) R.length
  have ck := Go.Lib.hid (PsCheck_any W0 aa len cap n D.k0 D.k1 D.s0 D.s1 R.length (pack R) (hr.below hbE (Nat.le_refl _)) (bounds_of_len (by omega)) w4.1 w4.2.1 w4.2.2.1 w4.2.2.2 0 (.inl ⟨⟨n, D, R, hok, rfl, rfl, rfl, rfl, rfl, rfl, rfl⟩, rfl⟩))
  obtain ⟨N, hN⟩ : ∃ N, N = R.length := ⟨_, rfl⟩
  obtain ⟨N1, hN1⟩ : ∃ N, N = (bytesB bl).length := ⟨_, rfl⟩
  obtain ⟨N2, hN2⟩ : ∃ N, N = (R ++ bytesB bl).length := ⟨_, rfl⟩
  obtain ⟨L2, hL2⟩ : ∃ L, L = (N2 + 7) / 8 := ⟨_, rfl⟩
  have of : Hid (∀ w, Row .u8 w ab nb cb (bl.map Int.ofNat) → Calls Try.prog 54 #[.slice ab nb cb] w fun e W' => ∃ a c, e = .returned (.tuple #[.agg #[.slice a nb c, .int .i64 N1], .int .i64 0]) ∧ Row .u8 W' a nb c (pack (bytesB bl)) ∧ Below w.heap.size w W') := Go.Lib.hid fun w h => by
    refine (BOf_ok w ab nb cb _ h (by omega)).mono ?_
    rintro e W' ⟨v', rfl, ho, hb⟩
    obtain ⟨a, c, rfl⟩ := own_form ho
    rw [← hpk] at ho
    exact ⟨a, c, by rw [hN1, hlB]; simp, Row.of_own ho (u8_wf (pack_wf _)), hb⟩
  have jn : Hid (∀ w a c, Row .u8 w aa len cap (pack R) → Row .u8 w a nb c (pack (bytesB bl)) → Calls Try.prog 58 #[.agg #[.slice aa len cap, .int .i64 N], .agg #[.slice a nb c, .int .i64 N1]] w fun e W' => ∃ b c, e = .returned (.tuple #[.agg #[.slice b L2 c, .int .i64 N2], .int .i64 0]) ∧ Row .u8 W' b L2 c (pack (R ++ bytesB bl)) ∧ Below w.heap.size w W') := Go.Lib.hid fun w a c h h' => by
    have := BJoin_ok w aa len cap R h a nb c (bytesB bl) h' (by omega)
    rw [← hN2, ← hL2, ← hN, ← hN1] at this
    rw [show N2 = N + N1 by omega]
    exact this
  obtain ⟨G, hG⟩ : ∃ G, G = rdA n (R ++ bytesB bl) D := ⟨_, rfl⟩
  obtain ⟨RN, hRN⟩ : ∃ x, x = G.r.length := ⟨_, rfl⟩
  obtain ⟨RL, hRL⟩ : ∃ x, x = (RN + 7) / 8 := ⟨_, rfl⟩
  have ra : Hid (∀ w b c, Row .u8 w b L2 c (pack (R ++ bytesB bl)) → Calls Try.prog 59 #[.agg #[.int .i64 n, .int .i64 D.k0, .int .i64 D.k1, .int .u64 D.s0, .int .u64 D.s1, .slice aa len cap, .int .i64 N], .agg #[.slice b L2 c, .int .i64 N2]] w fun r W' => ∃ bb cc a m c, r = .returned (.tuple #[.agg #[.int .i64 G.n, .int .i64 G.d.k0, .int .i64 G.d.k1, .int .u64 G.d.s0, .int .u64 G.d.s1, .slice bb RL cc, .int .i64 RN], .slice a m c, .int .i64 G.e]) ∧
    Row .u8 W' bb RL cc (pack G.r) ∧ Row .u32 W' a m c (G.l.map Int.ofNat) ∧ Below w.heap.size w W' ∧ (RL = 0 ∨ ∃ g o, bb = some ⟨g, o, none⟩ ∧ w.heap.size ≤ g)) := Go.Lib.hid fun w b c h => by
    have := PreadAll_ok w aa len cap n N D b L2 c (R ++ bytesB bl) h (by omega) hok.d hok.n4
    unfold ResG at this
    rw [← hG, ← hRN, ← hRL, ← hN2] at this
    exact this
  have hfed : Hid ((over G ∧ fed n (R ++ bytesB bl) D = fedE 38) ∨ (¬ over G ∧ fed n (R ++ bytesB bl) D = G)) := Go.Lib.hid (by
    rw [hG]
    by_cases h : over (rdA n (R ++ bytesB bl) D)
    · exact .inl ⟨h, fed_over _ _ _ h⟩
    · exact .inr ⟨h, fed_rdA _ _ _ h⟩)
  have hno : Hid (G.e ≠ 0 → G = fedE G.e) := Go.Lib.hid fun h => by rw [hG] at h ⊢; exact rdA_no _ _ _ h
  obtain ⟨F, hF⟩ : ∃ F, F = fed n (R ++ bytesB bl) D := ⟨_, rfl⟩
  rw [← hF] at hfed ⊢
  unfold ResG
  rw [← hN] at ck hW0 hx0 ⊢
  have r0 := Go.Lib.hid (hr.below hbE (Nat.le_refl _))
  have p0 := Go.Lib.hid (hbr.below hbE (Nat.le_refl _))
  have hx0' := Go.Lib.hid hx0
  have hz0' := Go.Lib.hid hz0
  have hbE' := Go.Lib.hid hbE
  have hRN' := Go.Lib.hid hRN
  have hRL' := Go.Lib.hid hRL
  have hk : ¬ (41000 : Int) < nb := by omega
  clear hr hbr hok w4 b80 hx0 hz0 hbE hN hN1 hN2 hL2 hG hRN hRL hF hlB hlC hpk h256 hbl
  go_enter Try.func34, Try.ntmps34
  go_upto_region 6 with (go_at_call 57; rw [← hW0]; clear hW0; with_reducible refine ck.out.mono ?_; rintro e w1 ⟨rfl, hb1⟩; have r1 := Go.Lib.hid (r0.out.below hb1 (Nat.le_refl _)); have p1 := Go.Lib.hid (p0.out.below hb1 (Nat.le_refl _)); have x1 := Go.Lib.hid (hx0'.out.below hb1 hx0'.out.lt); have z1 := Go.Lib.hid (hz0'.out.below hb1 hz0'.out.lt); have B1 := Go.Lib.hid (hbE'.out.trans (hb1.mono hbE'.out.size)); clear hb1)
  clear hx0' hz0' hbE' r0 p0 ck
  go_upto_region 7 with (go_at_call 54; with_reducible refine (of.out _ p1.out).mono ?_; rintro e w2 ⟨pa, pc, rfl, hp, hb⟩; have r2 := Go.Lib.hid (r1.out.below hb (Nat.le_refl _)); have p2 := Go.Lib.hid hp; have x2 := Go.Lib.hid (x1.out.below hb x1.out.lt); have z2 := Go.Lib.hid (z1.out.below hb z1.out.lt); have B2 := Go.Lib.hid (B1.out.trans (hb.mono B1.out.size)); clear hb hp)
  clear r1 p1 x1 z1 B1 of
  obtain ⟨c2, hc2⟩ : ∃ w, w = w2.alloc (.cells #[.slice pa nb pc, .int .i64 N1] 45) := ⟨_, rfl⟩
  obtain ⟨x8, hx8⟩ : ∃ x, x = w2.heap.size := ⟨_, rfl⟩
  have r3 := Go.Lib.hid (show Row .u8 c2 aa len cap (pack R) by rw [hc2]; exact r2.out.below (below1 w2 _) (Nat.le_refl _))
  have p3 := Go.Lib.hid (show Row .u8 c2 pa nb pc (pack (bytesB bl)) by rw [hc2]; exact p2.out.below (below1 w2 _) (Nat.le_refl _))
  have x3 := Go.Lib.hid (show ResAt c2 W.heap.size n D.k0 D.k1 D.s0 D.s1 (.slice aa len cap) N by rw [hc2]; exact x2.out.alloc _)
  have z3 := Go.Lib.hid (show ResAt c2 (W.heap.size + 1) 0 0 0 0 0 (.slice none 0 0) 0 by rw [hc2]; exact z2.out.alloc _)
  have B3 := Go.Lib.hid (show Below W.heap.size W c2 by rw [hc2]; exact B2.out.alloc B2.out.size _)
  have y3 := Go.Lib.hid (show BoxAt c2 x8 (.slice pa nb pc) N1 by rw [hc2, hx8]; exact box1 w2 _ _)
  rw [← hc2]
  try rw [← hx8]
  clear hc2 hx8 r2 p2 x2 z2 B2
  obtain ⟨f0, f1, f2, f3⟩ := y3.out.cells
  obtain ⟨s0, s1, s2, s3, s4, s5, s6, s7, s8, s9, s10, s11, s12, s13⟩ := x3.out.cells
  go_upto_region 10 with (go_at_call 58; with_reducible refine (jn.out _ _ _ r3.out p3.out).mono ?_; rintro e w4 ⟨qa, qc, rfl, hq, hb⟩; have q4 := Go.Lib.hid hq; have x4 := Go.Lib.hid (x3.out.below hb x3.out.lt); have z4 := Go.Lib.hid (z3.out.below hb z3.out.lt); have B4 := Go.Lib.hid (B3.out.trans (hb.mono B3.out.size)); clear hb hq)
  clear r3 p3 x3 z3 B3 y3 jn f0 f1 f2 f3 s0 s1 s2 s3 s4 s5 s6 s7 s8 s9 s10 s11 s12 s13
  obtain ⟨c4, hc4⟩ : ∃ w, w = w4.alloc (.cells #[.slice qa L2 qc, .int .i64 N2] 45) := ⟨_, rfl⟩
  obtain ⟨x10, hx10⟩ : ∃ x, x = w4.heap.size := ⟨_, rfl⟩
  have q5 := Go.Lib.hid (show Row .u8 c4 qa L2 qc (pack (R ++ bytesB bl)) by rw [hc4]; exact q4.out.below (below1 w4 _) (Nat.le_refl _))
  have x5 := Go.Lib.hid (show ResAt c4 W.heap.size n D.k0 D.k1 D.s0 D.s1 (.slice aa len cap) N by rw [hc4]; exact x4.out.alloc _)
  have z5 := Go.Lib.hid (show ResAt c4 (W.heap.size + 1) 0 0 0 0 0 (.slice none 0 0) 0 by rw [hc4]; exact z4.out.alloc _)
  have B5 := Go.Lib.hid (show Below W.heap.size W c4 by rw [hc4]; exact B4.out.alloc B4.out.size _)
  have y5 := Go.Lib.hid (show BoxAt c4 x10 (.slice qa L2 qc) N2 by rw [hc4, hx10]; exact box1 w4 _ _)
  rw [← hc4]
  try rw [← hx10]
  clear hc4 hx10 q4 x4 z4 B4
  obtain ⟨f0, f1, f2, f3⟩ := y5.out.cells
  obtain ⟨s0, s1, s2, s3, s4, s5, s6, s7, s8, s9, s10, s11, s12, s13⟩ := x5.out.cells
  go_upto_region 13 with (go_at_call 59; with_reducible refine (ra.out _ _ _ q5.out).mono ?_; rintro e w6 ⟨ba, bc, na, nm, nc, rfl, h1, h2, hb, h3⟩; have t6 := Go.Lib.hid h1; have m6 := Go.Lib.hid h2; have g6 : Hid (RL = 0 ∨ ∃ g o, ba = some ⟨g, o, none⟩ ∧ W.heap.size ≤ g) := Go.Lib.hid (h3.imp id fun ⟨g, o, e1, e2⟩ => ⟨g, o, e1, Nat.le_trans B5.out.size e2⟩); have z6 := Go.Lib.hid (z5.out.below hb z5.out.lt); have B6 := Go.Lib.hid (B5.out.trans (hb.mono B5.out.size)); clear hb h1 h2 h3)
  clear q5 x5 z5 B5 y5 ra f0 f1 f2 f3 s0 s1 s2 s3 s4 s5 s6 s7 s8 s9 s10 s11 s12 s13
  obtain ⟨c6, hc6⟩ : ∃ w, w = w6.alloc (.cells #[.int .i64 G.n, .int .i64 G.d.k0, .int .i64 G.d.k1, .int .u64 G.d.s0, .int .u64 G.d.s1, .slice ba RL bc, .int .i64 RN] 63) := ⟨_, rfl⟩
  obtain ⟨x11, hx11⟩ : ∃ x, x = w6.heap.size := ⟨_, rfl⟩
  have t7 := Go.Lib.hid (show Row .u8 c6 ba RL bc (pack G.r) by rw [hc6]; exact t6.out.below (below1 w6 _) (Nat.le_refl _))
  have m7 := Go.Lib.hid (show Row .u32 c6 na nm nc (G.l.map Int.ofNat) by rw [hc6]; exact m6.out.below (below1 w6 _) (Nat.le_refl _))
  have z7 := Go.Lib.hid (show ResAt c6 (W.heap.size + 1) 0 0 0 0 0 (.slice none 0 0) 0 by rw [hc6]; exact z6.out.alloc _)
  have B7 := Go.Lib.hid (show Below W.heap.size W c6 by rw [hc6]; exact B6.out.alloc B6.out.size _)
  have y7 := Go.Lib.hid (show ResAt c6 x11 G.n G.d.k0 G.d.k1 G.d.s0 G.d.s1 (.slice ba RL bc) RN by rw [hc6, hx11]; exact resat1 w6 _ _ _ _ _ _ _)
  rw [← hc6]
  try rw [← hx11]
  clear hc6 hx11 t6 m6 z6 B6
  obtain ⟨s0, s1, s2, s3, s4, s5, s6, s7, s8, s9, s10, s11, s12, s13⟩ := y7.out.cells
  obtain ⟨u0, u1, u2, u3, u4, u5, u6, u7, u8, u9, u10, u11, u12, u13⟩ := z7.out.cells
  by_cases he : G.e = 0
  · have he' : ((G.e : Int) != 0) = false := by rw [he]; rfl
    rcases hfed.out with ⟨ho, hFe⟩ | ⟨ho, hFe⟩
    · have d1 : ((G.n : Int) == 0) = true := by rw [ho.2.1]; rfl
      have d2 : decide ((8 : Int) ≤ RN) = true := by have := ho.2.2; have := hRN'.out; exact decide_eq_true (by omega)
      have hF8 := Go.Lib.hid hFe
      clear hFe ho he
      go_wp2
      (try simp only [Exit.inBlock, Exit.then])
      refine bodyPost_ret (results_res_two (by rfl) _ _ (W.heap.size + 1) _ _ _ _ _ _ _ rfl (z7.out.set 0 0 0 0 0 (.slice none 0 0) 0)) rfl ?_
      rw [hF8.out]
      exact ⟨none, 0, none, 0, 0, by simp [fedE], row_fedE _ _, Row.nil_row _ _, below7 B7.out (by omega), .inl (by rw [show (fedE 38).r = [] from rfl]; rfl)⟩
    · have hF8 := Go.Lib.hid hFe
      have key : (((G.n : Int) == 0) = true ∧ decide ((8 : Int) ≤ RN) = false) ∨ ((G.n : Int) == 0) = false := by
        by_cases h : G.n = 0
        · left
          have h8 : ¬ 8 ≤ G.r.length := fun h8 => ho ⟨he, h, h8⟩
          have := hRN'.out
          exact ⟨by rw [h]; rfl, decide_eq_false (by omega)⟩
        · right; rw [beq_eq_false_iff_ne]; omega
      have heE := Go.Lib.hid he
      clear hFe ho he
      rcases key with ⟨d1, d2⟩ | d1
      all_goals
        go_wp2
        (try simp only [Exit.inBlock, Exit.then])
        refine bodyPost_ret (results_res_two (by rfl) _ _ (W.heap.size + 1) _ _ _ _ _ _ _ rfl (z7.out.set G.n G.d.k0 G.d.k1 G.d.s0 G.d.s1 (.slice ba RL bc) RN)) rfl ?_
        rw [hF8.out]
        have e1 := hRL'.out
        have e2 := hRN'.out
        subst e1 e2
        exact ⟨ba, bc, na, nm, nc, by simp [heE.out], rows7 (.inl rfl) t7.out z7.out, rows7 (.inr rfl) m7.out z7.out, below7 B7.out (by omega), g6.out⟩
  · have he' : ((G.e : Int) != 0) = true := by rw [bne_iff_ne]; omega
    have hF8 : Hid (F = fedE G.e) := Go.Lib.hid (by
      rcases hfed.out with ⟨ho, -⟩ | ⟨-, h⟩
      · exact absurd ho.1 he
      · rw [h]; exact hno.out he)
    clear he
    go_wp2
    (try simp only [Exit.inBlock, Exit.then])
    refine bodyPost_ret (results_res_two (by rfl) _ _ (W.heap.size + 1) _ _ _ _ _ _ _ rfl (z7.out.set 0 0 0 0 0 (.slice none 0 0) 0)) rfl ?_
    rw [hF8.out]
    exact ⟨none, 0, none, 0, 0, by simp [fedE], row_fedE _ _, Row.nil_row _ _, below7 B7.out (by omega), .inl (by rw [show (fedE G.e).r = [] from rfl]; rfl)⟩
theorem PsFeed_ok (W : World) (aa : Option Addr) (len cap : Nat) (n : Nat) (D : Du) (R : List Bool) (ab : Option Addr) (nb cb : Nat) (bl : List Nat) (hr : Row .u8 W aa len cap (pack R)) (hok : ResOkN n D R) (hbr : Row .u8 W ab nb cb (bl.map Int.ofNat)) (hbl : bl.length = nb) (h256 : ∀ x ∈ bl, x < 256) (hnb : nb ≤ 41000) :
    ResF 34 #[.agg #[.int .i64 n, .int .i64 D.k0, .int .i64 D.k1, .int .u64 D.s0, .int .u64 D.s1, .slice aa len cap, .int .i64 R.length], .slice ab nb cb] W (fed n (R ++ bytesB bl) D) :=
  (PsFeed_new W aa len cap n D R ab nb cb bl hr hok hbr hbl h256 hnb).resF
end Go.Proofs.Ythbjcjphplgobaa

/- Of TopCodes: a number's code by its parts. -/
namespace Go.Proofs.Ythbjcjphplgobaa
open Go.RowKit Cad

theorem BPut_range (W : World) (a : Option Addr) (len cap : Nat) (B : List Bool) (v n : Nat) (hr : Row .u8 W a len cap (pack B)) (hB : B.length ≤ 330000) (hn : n ≤ 64) (hv : 2 ^ n ≤ v) (_hv64 : v < 18446744073709551616) :
    Calls Try.prog 61 #[.agg #[.slice a len cap, .int .i64 B.length], .int .u64 v, .int .i64 n] W fun e W' => e = .returned (.tuple #[.agg #[.slice none 0 0, .int .i64 0], .int .i64 16]) ∧ Below W.heap.size W W' := by
  obtain ⟨W0, hW0, hbE, hs0, hx0, hy0⟩ := two_boxes W (.slice a len cap) B.length
  have hrE := hr.below hbE (Nat.le_refl _)
  have hck := Go.Lib.hid (BCheck_any W0 a len cap B.length (pack B) hrE (bounds_of_len (by omega)) 0 (.inl ⟨⟨B, rfl, by omega, rfl⟩, rfl⟩))
  have hy0' := Go.Lib.hid hy0
  have hbE' := Go.Lib.hid hbE
  obtain ⟨q, hq⟩ : ∃ q, q = v / 2 ^ n := ⟨_, rfl⟩
  have hq0 : q ≠ 0 := by
    rw [hq]
    have := Nat.div_pos hv (Nat.two_pow_pos n)
    omega
  have hz : (v : Int) / 2 ^ n = (q : Int) := by rw [hq]; simp
  have hz2 : ((q : Int) != 0) = true := by rw [bne_iff_ne]; omega
  have hqb : q ≤ v := by rw [hq]; exact Nat.div_le_self _ _
  clear hx0 hy0 hbE hrE hr hv hq hq0
  go_enter Try.func61, Try.ntmps61
  go_wp2_with (first
    | (go_at_call 55; rw [← hW0]; refine hck.out.mono ?_; rintro e w1 ⟨rfl, hb1⟩; obtain ⟨c0, c1, c2, c3⟩ := (hy0'.out.below hb1 (by omega)).cells; have hb1' := Go.Lib.hid hb1; clear hb1 hW0)
    | (go_at_call 89; refine (BisNumberSize_ok _ n hn).mono ?_; rintro e w5 ⟨rfl, rfl⟩))
  (try simp only [Exit.inBlock, Exit.then])
  refine bodyPost_ret (results_box_tmp (by rfl) _ _ (W.heap.size + 1) _ _ rfl ((hy0'.out.below hb1'.out (by omega)).set _ _)) rfl ?_
  exact ⟨rfl, ((hbE'.out.trans (hb1'.out.mono (by omega))).setCell (by simp) _).setCell (by simp) _⟩

set_option maxRecDepth 100000 in
set_option maxHeartbeats 4000000 in
theorem TcApart_low (W : World) (D : Du) (v : Nat) (hd : D.ok) (hv : v < 4294967296) (hl : v < 2 ^ D.k0) :
    Calls Try.prog 36 #[.agg #[.int .i64 D.k0, .int .i64 D.k1, .int .u64 D.s0, .int .u64 D.s1], .int .u32 v] W fun e W' => e = .returned (.bool true) ∧ Below W.heap.size W W' := by
  have hk0 := hd.1
  have hpw := pow24 hd.1
  obtain ⟨E2, hE2⟩ : ∃ E, E = learnD D v := ⟨_, rfl⟩
  obtain ⟨Nc, hNc⟩ : ∃ n, n = dualLen D v := ⟨_, rfl⟩
  obtain ⟨Lc, hLc⟩ : ∃ n, n = (Nc + 7) / 8 := ⟨_, rfl⟩
  obtain ⟨C, hC⟩ : ∃ C, C = pack (dualB D v) := ⟨_, rfl⟩
  have wr : Hid (∀ w, ResD 60 #[.agg #[.slice none 0 0, .int .i64 0], .agg #[.int .i64 D.k0, .int .i64 D.k1, .int .u64 D.s0, .int .u64 D.s1], .int .u32 v] w Lc C Nc E2.k0 E2.k1 E2.s0 E2.s1 0) := Go.Lib.hid fun w => DWrite_alone w D v hd hv Nc Lc hNc.symm hLc.symm C hC.symm E2 hE2.symm
  have le : Hid (∀ w, Calls Try.prog 29 #[.agg #[.int .i64 D.k0, .int .i64 D.k1, .int .u64 D.s0, .int .u64 D.s1], .int .u32 v] w fun e W' => e = .returned (.tuple #[.agg #[.int .i64 E2.k0, .int .i64 E2.k1, .int .u64 E2.s0, .int .u64 E2.s1], .int .i64 0]) ∧ Below w.heap.size w W') := Go.Lib.hid fun w => by rw [hE2]; exact DLearn_ok w D v hd hv
  have p0 : Hid (∀ w, Calls Try.prog 61 #[.agg #[.slice none 0 0, .int .i64 0], .int .u64 0, .int .i64 1] w fun e W' => ∃ b c, e = .returned (.tuple #[.agg #[.slice b 1 c, .int .i64 1], .int .i64 0]) ∧ Row .u8 W' b 1 c (pack [false]) ∧ Below w.heap.size w W') := Go.Lib.hid fun w => BPut_ok w none 0 0 [] 0 1 (by rw [pack_nil]; exact Row.nil_row _ _) (by decide) (by decide) (by decide)
  unfold ResD at wr
  have hCl : dualB D v = [false] ++ numB v D.k0 := dualB_low hl
  have hNl : Nc = 1 + D.k0 := by rw [hNc]; exact dualLen_low hl
  have p1 : Hid (∀ w b c, Row .u8 w b 1 c (pack [false]) → Calls Try.prog 61 #[.agg #[.slice b 1 c, .int .i64 1], .int .u64 v, .int .i64 D.k0] w fun e W' => ∃ b c, e = .returned (.tuple #[.agg #[.slice b Lc c, .int .i64 Nc], .int .i64 0]) ∧ Row .u8 W' b Lc c C ∧ Below w.heap.size w W') := Go.Lib.hid fun w b c h => by
    have := BPut_ok w b 1 c [false] v D.k0 h (by simp; omega) (by omega) hl
    rw [← hCl, ← hC] at this
    simp only [List.length_cons, List.length_nil, Nat.zero_add] at this
    rw [← hNl, ← hLc] at this
    exact this
  have lo : Hid (∀ w, Calls Try.prog 62 #[.agg #[.int .i64 D.k0, .int .i64 D.k1, .int .u64 D.s0, .int .u64 D.s1], .int .u32 v] w fun e W' => e = .returned (.bool true) ∧ Below w.heap.size w W') := Go.Lib.hid fun w => RLow_ok w D.k0 D.k1 D.s0 D.s1 v hk0 hv true (decide_eq_true hl)
  have sm : Hid (∀ w b c b' c', Row .u8 w b Lc c C → Row .u8 w b' Lc c' C → Calls Try.prog 65 #[.agg #[.slice b Lc c, .int .i64 Nc], .agg #[.slice b' Lc c', .int .i64 Nc]] w fun e W' => e = .returned (.bool true) ∧ Below w.heap.size w W') := Go.Lib.hid fun w b c b' c' h h' => by
    have := RSame_ok w b Lc c Nc C h b' Lc c' Nc C h'
    simpa using this
  have q1 := sameD_self E2.k0 E2.k1 E2.s0 E2.s1
  have hWE0 := Go.Lib.hid (below1 W (.cells #[.int .i64 D.k0, .int .i64 D.k1, .int .u64 D.s0, .int .u64 D.s1] 52))
  have BE0_d := Go.Lib.hid (duat1 W D.k0 D.k1 D.s0 D.s1)
  clear hd hl hpw hE2 hNc hLc hC hCl hNl
  go_enter Try.func36, Try.ntmps36
  go_wp2_with (first
    | (go_at_call 60; ((with_reducible refine (wr.out _).mono ?_)); rintro e w1 ⟨b1, cp1, rfl, hr1, hb1⟩; have hWE1 := Go.Lib.hid hWE0.out; have hW1 := Go.Lib.hid (hWE1.out.trans (hb1.mono hWE1.out.size)); have R1_c := Go.Lib.hid hr1; clear hr1; have BE1_d := Go.Lib.hid BE0_d.out; have B1_d := Go.Lib.hid (BE1_d.out.below hb1 BE1_d.out.lt); obtain ⟨k1d0, k1d1, k1d2, k1d3, k1d4, k1d5, k1d6, k1d7⟩ := B1_d.out.cells; have l1d := B1_d.out.lt; have n1d : W.heap.size ≠ w1.heap.size := (by omega); have o1d : W.heap.size ≠ w1.heap.size + 1 := (by omega); clear hb1)
    | (go_at_call 29; ((with_reducible refine (le.out _).mono ?_)); rintro e w2 ⟨rfl, hb2⟩; have hWE2 := Go.Lib.hid ((hW1.out.alloc hW1.out.size (.cells #[(.slice b1 Lc cp1), .int .i64 Nc] 45)).alloc (hW1.out.alloc hW1.out.size (.cells #[(.slice b1 Lc cp1), .int .i64 Nc] 45)).size (.cells #[.int .i64 E2.k0, .int .i64 E2.k1, .int .u64 E2.s0, .int .u64 E2.s1] 52)); have hW2 := Go.Lib.hid (hWE2.out.trans (hb2.mono hWE2.out.size)); have R2_c := Go.Lib.hid (((R1_c.out.below (below1 w1 (.cells #[(.slice b1 Lc cp1), .int .i64 Nc] 45)) (Nat.le_refl _)).below (below1 (w1.alloc (.cells #[(.slice b1 Lc cp1), .int .i64 Nc] 45)) (.cells #[.int .i64 E2.k0, .int .i64 E2.k1, .int .u64 E2.s0, .int .u64 E2.s1] 52)) (Nat.le_refl _)).below hb2 (Nat.le_refl _)); have BE2_d := Go.Lib.hid ((B1_d.out.alloc (.cells #[(.slice b1 Lc cp1), .int .i64 Nc] 45)).alloc (.cells #[.int .i64 E2.k0, .int .i64 E2.k1, .int .u64 E2.s0, .int .u64 E2.s1] 52)); have B2_d := Go.Lib.hid (BE2_d.out.below hb2 BE2_d.out.lt); obtain ⟨k2d0, k2d1, k2d2, k2d3, k2d4, k2d5, k2d6, k2d7⟩ := B2_d.out.cells; have BE2_c := Go.Lib.hid ((box1 w1 (.slice b1 Lc cp1) Nc).alloc (.cells #[.int .i64 E2.k0, .int .i64 E2.k1, .int .u64 E2.s0, .int .u64 E2.s1] 52)); have B2_c := Go.Lib.hid (BE2_c.out.below hb2 BE2_c.out.lt); obtain ⟨k2c0, k2c1, k2c2, k2c3⟩ := B2_c.out.cells; have BE2_x := Go.Lib.hid (duat2 w1 (.cells #[(.slice b1 Lc cp1), .int .i64 Nc] 45) E2.k0 E2.k1 E2.s0 E2.s1); have B2_x := Go.Lib.hid (BE2_x.out.below hb2 BE2_x.out.lt); obtain ⟨k2x0, k2x1, k2x2, k2x3, k2x4, k2x5, k2x6, k2x7⟩ := B2_x.out.cells; have l2d := B2_d.out.lt; have n2d : W.heap.size ≠ w2.heap.size := (by omega); have l2c := B2_c.out.lt; have n2c : w1.heap.size ≠ w2.heap.size := (by omega); have l2x := B2_x.out.lt; have n2x : w1.heap.size + 1 ≠ w2.heap.size := (by omega); clear hb2)
    | (go_at_call 61; ((with_reducible refine (p0.out _).mono ?_)); rintro e w3 ⟨b3, cp3, rfl, hr3, hb3⟩; have hWE3 := Go.Lib.hid (hW2.out.alloc hW2.out.size (.cells #[.int .i64 E2.k0, .int .i64 E2.k1, .int .u64 E2.s0, .int .u64 E2.s1] 52)); have hW3 := Go.Lib.hid (hWE3.out.trans (hb3.mono hWE3.out.size)); have R3_c := Go.Lib.hid ((R2_c.out.below (below1 w2 (.cells #[.int .i64 E2.k0, .int .i64 E2.k1, .int .u64 E2.s0, .int .u64 E2.s1] 52)) (Nat.le_refl _)).below hb3 (Nat.le_refl _)); have R3_o := Go.Lib.hid hr3; clear hr3; have BE3_d := Go.Lib.hid (B2_d.out.alloc (.cells #[.int .i64 E2.k0, .int .i64 E2.k1, .int .u64 E2.s0, .int .u64 E2.s1] 52)); have B3_d := Go.Lib.hid (BE3_d.out.below hb3 BE3_d.out.lt); obtain ⟨k3d0, k3d1, k3d2, k3d3, k3d4, k3d5, k3d6, k3d7⟩ := B3_d.out.cells; have BE3_c := Go.Lib.hid (B2_c.out.alloc (.cells #[.int .i64 E2.k0, .int .i64 E2.k1, .int .u64 E2.s0, .int .u64 E2.s1] 52)); have B3_c := Go.Lib.hid (BE3_c.out.below hb3 BE3_c.out.lt); obtain ⟨k3c0, k3c1, k3c2, k3c3⟩ := B3_c.out.cells; have BE3_x := Go.Lib.hid (B2_x.out.alloc (.cells #[.int .i64 E2.k0, .int .i64 E2.k1, .int .u64 E2.s0, .int .u64 E2.s1] 52)); have B3_x := Go.Lib.hid (BE3_x.out.below hb3 BE3_x.out.lt); obtain ⟨k3x0, k3x1, k3x2, k3x3, k3x4, k3x5, k3x6, k3x7⟩ := B3_x.out.cells; have BE3_y := Go.Lib.hid (duat1 w2 E2.k0 E2.k1 E2.s0 E2.s1); have B3_y := Go.Lib.hid (BE3_y.out.below hb3 BE3_y.out.lt); obtain ⟨k3y0, k3y1, k3y2, k3y3, k3y4, k3y5, k3y6, k3y7⟩ := B3_y.out.cells; have l3d := B3_d.out.lt; have n3d : W.heap.size ≠ w3.heap.size := (by omega); have l3c := B3_c.out.lt; have n3c : w1.heap.size ≠ w3.heap.size := (by omega); have l3x := B3_x.out.lt; have n3x : w1.heap.size + 1 ≠ w3.heap.size := (by omega); have l3y := B3_y.out.lt; have n3y : w2.heap.size ≠ w3.heap.size := (by omega); clear hb3)
    | (go_at_call 61; ((with_reducible refine (p1.out _ _ _ ?h1).mono ?_)); (case h1 => exact (R3_o.out.below (below1 w3 (.cells #[(.slice b3 1 cp3), .int .i64 1] 45)) (Nat.le_refl _))); rintro e w4 ⟨b4, cp4, rfl, hr4, hb4⟩; have hWE4 := Go.Lib.hid (hW3.out.alloc hW3.out.size (.cells #[(.slice b3 1 cp3), .int .i64 1] 45)); have hW4 := Go.Lib.hid (hWE4.out.trans (hb4.mono hWE4.out.size)); have R4_c := Go.Lib.hid ((R3_c.out.below (below1 w3 (.cells #[(.slice b3 1 cp3), .int .i64 1] 45)) (Nat.le_refl _)).below hb4 (Nat.le_refl _)); have R4_o := Go.Lib.hid ((R3_o.out.below (below1 w3 (.cells #[(.slice b3 1 cp3), .int .i64 1] 45)) (Nat.le_refl _)).below hb4 (Nat.le_refl _)); have R4_w := Go.Lib.hid hr4; clear hr4; have BE4_d := Go.Lib.hid (B3_d.out.alloc (.cells #[(.slice b3 1 cp3), .int .i64 1] 45)); have B4_d := Go.Lib.hid (BE4_d.out.below hb4 BE4_d.out.lt); obtain ⟨k4d0, k4d1, k4d2, k4d3, k4d4, k4d5, k4d6, k4d7⟩ := B4_d.out.cells; have BE4_c := Go.Lib.hid (B3_c.out.alloc (.cells #[(.slice b3 1 cp3), .int .i64 1] 45)); have B4_c := Go.Lib.hid (BE4_c.out.below hb4 BE4_c.out.lt); obtain ⟨k4c0, k4c1, k4c2, k4c3⟩ := B4_c.out.cells; have BE4_x := Go.Lib.hid (B3_x.out.alloc (.cells #[(.slice b3 1 cp3), .int .i64 1] 45)); have B4_x := Go.Lib.hid (BE4_x.out.below hb4 BE4_x.out.lt); obtain ⟨k4x0, k4x1, k4x2, k4x3, k4x4, k4x5, k4x6, k4x7⟩ := B4_x.out.cells; have BE4_y := Go.Lib.hid (B3_y.out.alloc (.cells #[(.slice b3 1 cp3), .int .i64 1] 45)); have B4_y := Go.Lib.hid (BE4_y.out.below hb4 BE4_y.out.lt); obtain ⟨k4y0, k4y1, k4y2, k4y3, k4y4, k4y5, k4y6, k4y7⟩ := B4_y.out.cells; have BE4_o := Go.Lib.hid (box1 w3 (.slice b3 1 cp3) 1); have B4_o := Go.Lib.hid (BE4_o.out.below hb4 BE4_o.out.lt); obtain ⟨k4o0, k4o1, k4o2, k4o3⟩ := B4_o.out.cells; have l4d := B4_d.out.lt; have n4d : W.heap.size ≠ w4.heap.size := (by omega); have l4c := B4_c.out.lt; have n4c : w1.heap.size ≠ w4.heap.size := (by omega); have l4x := B4_x.out.lt; have n4x : w1.heap.size + 1 ≠ w4.heap.size := (by omega); have l4y := B4_y.out.lt; have n4y : w2.heap.size ≠ w4.heap.size := (by omega); have l4o := B4_o.out.lt; have n4o : w3.heap.size ≠ w4.heap.size := (by omega); clear hb4)
    | (go_at_call 62; ((with_reducible refine (lo.out _).mono ?_)); rintro e w5 ⟨rfl, hb5⟩; have hWE5 := Go.Lib.hid (hW4.out.alloc hW4.out.size (.cells #[(.slice b4 Lc cp4), .int .i64 Nc] 45)); have hW5 := Go.Lib.hid (hWE5.out.trans (hb5.mono hWE5.out.size)); have R5_c := Go.Lib.hid ((R4_c.out.below (below1 w4 (.cells #[(.slice b4 Lc cp4), .int .i64 Nc] 45)) (Nat.le_refl _)).below hb5 (Nat.le_refl _)); have R5_o := Go.Lib.hid ((R4_o.out.below (below1 w4 (.cells #[(.slice b4 Lc cp4), .int .i64 Nc] 45)) (Nat.le_refl _)).below hb5 (Nat.le_refl _)); have R5_w := Go.Lib.hid ((R4_w.out.below (below1 w4 (.cells #[(.slice b4 Lc cp4), .int .i64 Nc] 45)) (Nat.le_refl _)).below hb5 (Nat.le_refl _)); have BE5_d := Go.Lib.hid (B4_d.out.alloc (.cells #[(.slice b4 Lc cp4), .int .i64 Nc] 45)); have B5_d := Go.Lib.hid (BE5_d.out.below hb5 BE5_d.out.lt); obtain ⟨k5d0, k5d1, k5d2, k5d3, k5d4, k5d5, k5d6, k5d7⟩ := B5_d.out.cells; have BE5_c := Go.Lib.hid (B4_c.out.alloc (.cells #[(.slice b4 Lc cp4), .int .i64 Nc] 45)); have B5_c := Go.Lib.hid (BE5_c.out.below hb5 BE5_c.out.lt); obtain ⟨k5c0, k5c1, k5c2, k5c3⟩ := B5_c.out.cells; have BE5_x := Go.Lib.hid (B4_x.out.alloc (.cells #[(.slice b4 Lc cp4), .int .i64 Nc] 45)); have B5_x := Go.Lib.hid (BE5_x.out.below hb5 BE5_x.out.lt); obtain ⟨k5x0, k5x1, k5x2, k5x3, k5x4, k5x5, k5x6, k5x7⟩ := B5_x.out.cells; have BE5_y := Go.Lib.hid (B4_y.out.alloc (.cells #[(.slice b4 Lc cp4), .int .i64 Nc] 45)); have B5_y := Go.Lib.hid (BE5_y.out.below hb5 BE5_y.out.lt); obtain ⟨k5y0, k5y1, k5y2, k5y3, k5y4, k5y5, k5y6, k5y7⟩ := B5_y.out.cells; have BE5_o := Go.Lib.hid (B4_o.out.alloc (.cells #[(.slice b4 Lc cp4), .int .i64 Nc] 45)); have B5_o := Go.Lib.hid (BE5_o.out.below hb5 BE5_o.out.lt); obtain ⟨k5o0, k5o1, k5o2, k5o3⟩ := B5_o.out.cells; have BE5_w := Go.Lib.hid (box1 w4 (.slice b4 Lc cp4) Nc); have B5_w := Go.Lib.hid (BE5_w.out.below hb5 BE5_w.out.lt); obtain ⟨k5w0, k5w1, k5w2, k5w3⟩ := B5_w.out.cells; clear hb5)
    | (go_at_call 65; ((with_reducible refine (sm.out _ _ _ _ _ ?h1 ?h2).mono ?_)); (case h1 => exact R5_c.out); (case h2 => exact R5_w.out); rintro e w6 ⟨rfl, hb6⟩; have hWE6 := Go.Lib.hid hW5.out; have hW6 := Go.Lib.hid (hWE6.out.trans (hb6.mono hWE6.out.size)); have R6_c := Go.Lib.hid (R5_c.out.below hb6 (Nat.le_refl _)); have R6_o := Go.Lib.hid (R5_o.out.below hb6 (Nat.le_refl _)); have R6_w := Go.Lib.hid (R5_w.out.below hb6 (Nat.le_refl _)); have BE6_d := Go.Lib.hid B5_d.out; have B6_d := Go.Lib.hid (BE6_d.out.below hb6 BE6_d.out.lt); obtain ⟨k6d0, k6d1, k6d2, k6d3, k6d4, k6d5, k6d6, k6d7⟩ := B6_d.out.cells; have BE6_c := Go.Lib.hid B5_c.out; have B6_c := Go.Lib.hid (BE6_c.out.below hb6 BE6_c.out.lt); obtain ⟨k6c0, k6c1, k6c2, k6c3⟩ := B6_c.out.cells; have BE6_x := Go.Lib.hid B5_x.out; have B6_x := Go.Lib.hid (BE6_x.out.below hb6 BE6_x.out.lt); obtain ⟨k6x0, k6x1, k6x2, k6x3, k6x4, k6x5, k6x6, k6x7⟩ := B6_x.out.cells; have BE6_y := Go.Lib.hid B5_y.out; have B6_y := Go.Lib.hid (BE6_y.out.below hb6 BE6_y.out.lt); obtain ⟨k6y0, k6y1, k6y2, k6y3, k6y4, k6y5, k6y6, k6y7⟩ := B6_y.out.cells; have BE6_o := Go.Lib.hid B5_o.out; have B6_o := Go.Lib.hid (BE6_o.out.below hb6 BE6_o.out.lt); obtain ⟨k6o0, k6o1, k6o2, k6o3⟩ := B6_o.out.cells; have BE6_w := Go.Lib.hid B5_w.out; have B6_w := Go.Lib.hid (BE6_w.out.below hb6 BE6_w.out.lt); obtain ⟨k6w0, k6w1, k6w2, k6w3⟩ := B6_w.out.cells; clear hb6))
  go_ret
  exact ⟨by simp, hW6.out⟩

set_option maxRecDepth 100000 in
set_option maxHeartbeats 8000000 in
theorem TcApart_high (W : World) (D : Du) (v : Nat) (hd : D.ok) (hv : v < 4294967296) (hl : ¬ v < 2 ^ D.k0) :
    Calls Try.prog 36 #[.agg #[.int .i64 D.k0, .int .i64 D.k1, .int .u64 D.s0, .int .u64 D.s1], .int .u32 v] W fun e W' => e = .returned (.bool true) ∧ Below W.heap.size W W' := by
  have hk0 := hd.1
  have hpw := pow24 hd.1
  obtain ⟨E2, hE2⟩ : ∃ E, E = learnD D v := ⟨_, rfl⟩
  obtain ⟨Nc, hNc⟩ : ∃ n, n = dualLen D v := ⟨_, rfl⟩
  obtain ⟨Lc, hLc⟩ : ∃ n, n = (Nc + 7) / 8 := ⟨_, rfl⟩
  obtain ⟨C, hC⟩ : ∃ C, C = pack (dualB D v) := ⟨_, rfl⟩
  have wr : Hid (∀ w, ResD 60 #[.agg #[.slice none 0 0, .int .i64 0], .agg #[.int .i64 D.k0, .int .i64 D.k1, .int .u64 D.s0, .int .u64 D.s1], .int .u32 v] w Lc C Nc E2.k0 E2.k1 E2.s0 E2.s1 0) := Go.Lib.hid fun w => DWrite_alone w D v hd hv Nc Lc hNc.symm hLc.symm C hC.symm E2 hE2.symm
  have le : Hid (∀ w, Calls Try.prog 29 #[.agg #[.int .i64 D.k0, .int .i64 D.k1, .int .u64 D.s0, .int .u64 D.s1], .int .u32 v] w fun e W' => e = .returned (.tuple #[.agg #[.int .i64 E2.k0, .int .i64 E2.k1, .int .u64 E2.s0, .int .u64 E2.s1], .int .i64 0]) ∧ Below w.heap.size w W') := Go.Lib.hid fun w => by rw [hE2]; exact DLearn_ok w D v hd hv
  have p0 : Hid (∀ w, Calls Try.prog 61 #[.agg #[.slice none 0 0, .int .i64 0], .int .u64 0, .int .i64 1] w fun e W' => ∃ b c, e = .returned (.tuple #[.agg #[.slice b 1 c, .int .i64 1], .int .i64 0]) ∧ Row .u8 W' b 1 c (pack [false]) ∧ Below w.heap.size w W') := Go.Lib.hid fun w => BPut_ok w none 0 0 [] 0 1 (by rw [pack_nil]; exact Row.nil_row _ _) (by decide) (by decide) (by decide)
  unfold ResD at wr
  have hCl : dualB D v = [true] ++ riceB (v - 2 ^ D.k0) D.k1 := dualB_high hl
  have hNl : Nc = 1 + riceLen (v - 2 ^ D.k0) D.k1 := by rw [hNc]; exact dualLen_high hl
  have hN81 : Nc ≤ 81 := by rw [hNc]; exact dualLen_le hd.1 hd.2.1 v
  obtain ⟨u, hu⟩ : ∃ u, u = v - 2 ^ D.k0 := ⟨_, rfl⟩
  rw [← hu] at hCl hNl
  have p1 : Hid (∀ w b c, Row .u8 w b 1 c (pack [false]) → Calls Try.prog 61 #[.agg #[.slice b 1 c, .int .i64 1], .int .u64 v, .int .i64 D.k0] w fun e W' => e = .returned (.tuple #[.agg #[.slice none 0 0, .int .i64 0], .int .i64 16]) ∧ Below w.heap.size w W') := Go.Lib.hid fun w b c h => BPut_range w b 1 c [false] v D.k0 h (by decide) (by omega) (by omega) (by omega)
  have p2 : Hid (∀ w, Calls Try.prog 61 #[.agg #[.slice none 0 0, .int .i64 0], .int .u64 1, .int .i64 1] w fun e W' => ∃ b c, e = .returned (.tuple #[.agg #[.slice b 1 c, .int .i64 1], .int .i64 0]) ∧ Row .u8 W' b 1 c (pack [true]) ∧ Below w.heap.size w W') := Go.Lib.hid fun w => BPut_ok w none 0 0 [] 1 1 (by rw [pack_nil]; exact Row.nil_row _ _) (by decide) (by decide) (by decide)
  have lf : Hid (∀ w, Calls Try.prog 64 #[.agg #[.int .i64 D.k0, .int .i64 D.k1, .int .u64 D.s0, .int .u64 D.s1], .int .u32 v] w fun e W' => e = .returned (.int .u32 u) ∧ Below w.heap.size w W') := Go.Lib.hid fun w => by rw [hu]; exact RLeft_ok w D.k0 D.k1 D.s0 D.s1 v hk0 hv hl
  have rw_ : Hid (∀ w b c, Row .u8 w b 1 c (pack [true]) → Calls Try.prog 63 #[.agg #[.slice b 1 c, .int .i64 1], .int .u32 u, .int .i64 D.k1] w fun e W' => ∃ b c, e = .returned (.tuple #[.agg #[.slice b Lc c, .int .i64 Nc], .int .i64 0]) ∧ Row .u8 W' b Lc c C ∧ Below w.heap.size w W') := Go.Lib.hid fun w b c h => by
    have := PWrite_ok w b 1 c [true] u D.k1 h (by simp; omega) (by omega) hd.2.1
    rw [← hCl, ← hC] at this
    simp only [List.length_cons, List.length_nil, Nat.zero_add] at this
    rw [← hNl, ← hLc] at this
    exact this
  have lo : Hid (∀ w, Calls Try.prog 62 #[.agg #[.int .i64 D.k0, .int .i64 D.k1, .int .u64 D.s0, .int .u64 D.s1], .int .u32 v] w fun e W' => e = .returned (.bool false) ∧ Below w.heap.size w W') := Go.Lib.hid fun w => RLow_ok w D.k0 D.k1 D.s0 D.s1 v hk0 hv false (decide_eq_false hl)
  have sm : Hid (∀ w b c b' c', Row .u8 w b Lc c C → Row .u8 w b' Lc c' C → Calls Try.prog 65 #[.agg #[.slice b Lc c, .int .i64 Nc], .agg #[.slice b' Lc c', .int .i64 Nc]] w fun e W' => e = .returned (.bool true) ∧ Below w.heap.size w W') := Go.Lib.hid fun w b c b' c' h h' => by
    have := RSame_ok w b Lc c Nc C h b' Lc c' Nc C h'
    simpa using this
  have q1 := sameD_self E2.k0 E2.k1 E2.s0 E2.s1
  have hWE0 := Go.Lib.hid (below1 W (.cells #[.int .i64 D.k0, .int .i64 D.k1, .int .u64 D.s0, .int .u64 D.s1] 52))
  have BE0_d := Go.Lib.hid (duat1 W D.k0 D.k1 D.s0 D.s1)
  have hk1 := hd.2.1
  clear hd hl hpw hE2 hNc hLc hC hCl hNl hu
  go_enter Try.func36, Try.ntmps36
  go_upto_region 6 with (first
    | (go_at_call 60; ((with_reducible refine (wr.out _).mono ?_)); rintro e w1 ⟨b1, cp1, rfl, hr1, hb1⟩; have hWE1 := Go.Lib.hid hWE0.out; have hW1 := Go.Lib.hid (hWE1.out.trans (hb1.mono hWE1.out.size)); have R1_c := Go.Lib.hid hr1; clear hr1; have BE1_d := Go.Lib.hid BE0_d.out; have B1_d := Go.Lib.hid (BE1_d.out.below hb1 BE1_d.out.lt); obtain ⟨k1d0, k1d1, k1d2, k1d3, k1d4, k1d5, k1d6, k1d7⟩ := B1_d.out.cells; have l1d := B1_d.out.lt; have n1d : W.heap.size ≠ w1.heap.size := (by omega); have o1d : W.heap.size ≠ w1.heap.size + 1 := (by omega); clear hb1)
    | (go_at_call 29; ((with_reducible refine (le.out _).mono ?_)); rintro e w2 ⟨rfl, hb2⟩; have hWE2 := Go.Lib.hid ((hW1.out.alloc hW1.out.size (.cells #[(.slice b1 Lc cp1), .int .i64 Nc] 45)).alloc (hW1.out.alloc hW1.out.size (.cells #[(.slice b1 Lc cp1), .int .i64 Nc] 45)).size (.cells #[.int .i64 E2.k0, .int .i64 E2.k1, .int .u64 E2.s0, .int .u64 E2.s1] 52)); have hW2 := Go.Lib.hid (hWE2.out.trans (hb2.mono hWE2.out.size)); have R2_c := Go.Lib.hid (((R1_c.out.below (below1 w1 (.cells #[(.slice b1 Lc cp1), .int .i64 Nc] 45)) (Nat.le_refl _)).below (below1 (w1.alloc (.cells #[(.slice b1 Lc cp1), .int .i64 Nc] 45)) (.cells #[.int .i64 E2.k0, .int .i64 E2.k1, .int .u64 E2.s0, .int .u64 E2.s1] 52)) (Nat.le_refl _)).below hb2 (Nat.le_refl _)); have BE2_d := Go.Lib.hid ((B1_d.out.alloc (.cells #[(.slice b1 Lc cp1), .int .i64 Nc] 45)).alloc (.cells #[.int .i64 E2.k0, .int .i64 E2.k1, .int .u64 E2.s0, .int .u64 E2.s1] 52)); have B2_d := Go.Lib.hid (BE2_d.out.below hb2 BE2_d.out.lt); obtain ⟨k2d0, k2d1, k2d2, k2d3, k2d4, k2d5, k2d6, k2d7⟩ := B2_d.out.cells; have BE2_c := Go.Lib.hid ((box1 w1 (.slice b1 Lc cp1) Nc).alloc (.cells #[.int .i64 E2.k0, .int .i64 E2.k1, .int .u64 E2.s0, .int .u64 E2.s1] 52)); have B2_c := Go.Lib.hid (BE2_c.out.below hb2 BE2_c.out.lt); obtain ⟨k2c0, k2c1, k2c2, k2c3⟩ := B2_c.out.cells; have BE2_x := Go.Lib.hid (duat2 w1 (.cells #[(.slice b1 Lc cp1), .int .i64 Nc] 45) E2.k0 E2.k1 E2.s0 E2.s1); have B2_x := Go.Lib.hid (BE2_x.out.below hb2 BE2_x.out.lt); obtain ⟨k2x0, k2x1, k2x2, k2x3, k2x4, k2x5, k2x6, k2x7⟩ := B2_x.out.cells; have l2d := B2_d.out.lt; have n2d : W.heap.size ≠ w2.heap.size := (by omega); have l2c := B2_c.out.lt; have n2c : w1.heap.size ≠ w2.heap.size := (by omega); have l2x := B2_x.out.lt; have n2x : w1.heap.size + 1 ≠ w2.heap.size := (by omega); clear hb2)
    | (go_at_call 61; ((with_reducible refine (p0.out _).mono ?_)); rintro e w3 ⟨b3, cp3, rfl, hr3, hb3⟩; have hWE3 := Go.Lib.hid (hW2.out.alloc hW2.out.size (.cells #[.int .i64 E2.k0, .int .i64 E2.k1, .int .u64 E2.s0, .int .u64 E2.s1] 52)); have hW3 := Go.Lib.hid (hWE3.out.trans (hb3.mono hWE3.out.size)); have R3_c := Go.Lib.hid ((R2_c.out.below (below1 w2 (.cells #[.int .i64 E2.k0, .int .i64 E2.k1, .int .u64 E2.s0, .int .u64 E2.s1] 52)) (Nat.le_refl _)).below hb3 (Nat.le_refl _)); have R3_o := Go.Lib.hid hr3; clear hr3; have BE3_d := Go.Lib.hid (B2_d.out.alloc (.cells #[.int .i64 E2.k0, .int .i64 E2.k1, .int .u64 E2.s0, .int .u64 E2.s1] 52)); have B3_d := Go.Lib.hid (BE3_d.out.below hb3 BE3_d.out.lt); obtain ⟨k3d0, k3d1, k3d2, k3d3, k3d4, k3d5, k3d6, k3d7⟩ := B3_d.out.cells; have BE3_c := Go.Lib.hid (B2_c.out.alloc (.cells #[.int .i64 E2.k0, .int .i64 E2.k1, .int .u64 E2.s0, .int .u64 E2.s1] 52)); have B3_c := Go.Lib.hid (BE3_c.out.below hb3 BE3_c.out.lt); obtain ⟨k3c0, k3c1, k3c2, k3c3⟩ := B3_c.out.cells; have BE3_x := Go.Lib.hid (B2_x.out.alloc (.cells #[.int .i64 E2.k0, .int .i64 E2.k1, .int .u64 E2.s0, .int .u64 E2.s1] 52)); have B3_x := Go.Lib.hid (BE3_x.out.below hb3 BE3_x.out.lt); obtain ⟨k3x0, k3x1, k3x2, k3x3, k3x4, k3x5, k3x6, k3x7⟩ := B3_x.out.cells; have BE3_y := Go.Lib.hid (duat1 w2 E2.k0 E2.k1 E2.s0 E2.s1); have B3_y := Go.Lib.hid (BE3_y.out.below hb3 BE3_y.out.lt); obtain ⟨k3y0, k3y1, k3y2, k3y3, k3y4, k3y5, k3y6, k3y7⟩ := B3_y.out.cells; have l3d := B3_d.out.lt; have n3d : W.heap.size ≠ w3.heap.size := (by omega); have l3c := B3_c.out.lt; have n3c : w1.heap.size ≠ w3.heap.size := (by omega); have l3x := B3_x.out.lt; have n3x : w1.heap.size + 1 ≠ w3.heap.size := (by omega); have l3y := B3_y.out.lt; have n3y : w2.heap.size ≠ w3.heap.size := (by omega); clear hb3)
    | (go_at_call 61; ((with_reducible refine (p1.out _ _ _ ?h1).mono ?_)); (case h1 => exact (R3_o.out.below (below1 w3 (.cells #[(.slice b3 1 cp3), .int .i64 1] 45)) (Nat.le_refl _))); rintro e w4 ⟨rfl, hb4⟩; have hWE4 := Go.Lib.hid (hW3.out.alloc hW3.out.size (.cells #[(.slice b3 1 cp3), .int .i64 1] 45)); have hW4 := Go.Lib.hid (hWE4.out.trans (hb4.mono hWE4.out.size)); have R4_c := Go.Lib.hid ((R3_c.out.below (below1 w3 (.cells #[(.slice b3 1 cp3), .int .i64 1] 45)) (Nat.le_refl _)).below hb4 (Nat.le_refl _)); have R4_o := Go.Lib.hid ((R3_o.out.below (below1 w3 (.cells #[(.slice b3 1 cp3), .int .i64 1] 45)) (Nat.le_refl _)).below hb4 (Nat.le_refl _)); have BE4_d := Go.Lib.hid (B3_d.out.alloc (.cells #[(.slice b3 1 cp3), .int .i64 1] 45)); have B4_d := Go.Lib.hid (BE4_d.out.below hb4 BE4_d.out.lt); obtain ⟨k4d0, k4d1, k4d2, k4d3, k4d4, k4d5, k4d6, k4d7⟩ := B4_d.out.cells; have BE4_c := Go.Lib.hid (B3_c.out.alloc (.cells #[(.slice b3 1 cp3), .int .i64 1] 45)); have B4_c := Go.Lib.hid (BE4_c.out.below hb4 BE4_c.out.lt); obtain ⟨k4c0, k4c1, k4c2, k4c3⟩ := B4_c.out.cells; have BE4_x := Go.Lib.hid (B3_x.out.alloc (.cells #[(.slice b3 1 cp3), .int .i64 1] 45)); have B4_x := Go.Lib.hid (BE4_x.out.below hb4 BE4_x.out.lt); obtain ⟨k4x0, k4x1, k4x2, k4x3, k4x4, k4x5, k4x6, k4x7⟩ := B4_x.out.cells; have BE4_y := Go.Lib.hid (B3_y.out.alloc (.cells #[(.slice b3 1 cp3), .int .i64 1] 45)); have B4_y := Go.Lib.hid (BE4_y.out.below hb4 BE4_y.out.lt); obtain ⟨k4y0, k4y1, k4y2, k4y3, k4y4, k4y5, k4y6, k4y7⟩ := B4_y.out.cells; have BE4_o := Go.Lib.hid (box1 w3 (.slice b3 1 cp3) 1); have B4_o := Go.Lib.hid (BE4_o.out.below hb4 BE4_o.out.lt); obtain ⟨k4o0, k4o1, k4o2, k4o3⟩ := B4_o.out.cells; have l4d := B4_d.out.lt; have n4d : W.heap.size ≠ w4.heap.size := (by omega); have l4c := B4_c.out.lt; have n4c : w1.heap.size ≠ w4.heap.size := (by omega); have l4x := B4_x.out.lt; have n4x : w1.heap.size + 1 ≠ w4.heap.size := (by omega); have l4y := B4_y.out.lt; have n4y : w2.heap.size ≠ w4.heap.size := (by omega); have l4o := B4_o.out.lt; have n4o : w3.heap.size ≠ w4.heap.size := (by omega); clear hb4)
    | (go_at_call 62; ((with_reducible refine (lo.out _).mono ?_)); rintro e w5 ⟨rfl, hb5⟩; have hWE5 := Go.Lib.hid (hW4.out.alloc hW4.out.size (.cells #[(.slice none 0 0), .int .i64 0] 45)); have hW5 := Go.Lib.hid (hWE5.out.trans (hb5.mono hWE5.out.size)); have R5_c := Go.Lib.hid ((R4_c.out.below (below1 w4 (.cells #[(.slice none 0 0), .int .i64 0] 45)) (Nat.le_refl _)).below hb5 (Nat.le_refl _)); have R5_o := Go.Lib.hid ((R4_o.out.below (below1 w4 (.cells #[(.slice none 0 0), .int .i64 0] 45)) (Nat.le_refl _)).below hb5 (Nat.le_refl _)); have BE5_d := Go.Lib.hid (B4_d.out.alloc (.cells #[(.slice none 0 0), .int .i64 0] 45)); have B5_d := Go.Lib.hid (BE5_d.out.below hb5 BE5_d.out.lt); obtain ⟨k5d0, k5d1, k5d2, k5d3, k5d4, k5d5, k5d6, k5d7⟩ := B5_d.out.cells; have BE5_c := Go.Lib.hid (B4_c.out.alloc (.cells #[(.slice none 0 0), .int .i64 0] 45)); have B5_c := Go.Lib.hid (BE5_c.out.below hb5 BE5_c.out.lt); obtain ⟨k5c0, k5c1, k5c2, k5c3⟩ := B5_c.out.cells; have BE5_x := Go.Lib.hid (B4_x.out.alloc (.cells #[(.slice none 0 0), .int .i64 0] 45)); have B5_x := Go.Lib.hid (BE5_x.out.below hb5 BE5_x.out.lt); obtain ⟨k5x0, k5x1, k5x2, k5x3, k5x4, k5x5, k5x6, k5x7⟩ := B5_x.out.cells; have BE5_y := Go.Lib.hid (B4_y.out.alloc (.cells #[(.slice none 0 0), .int .i64 0] 45)); have B5_y := Go.Lib.hid (BE5_y.out.below hb5 BE5_y.out.lt); obtain ⟨k5y0, k5y1, k5y2, k5y3, k5y4, k5y5, k5y6, k5y7⟩ := B5_y.out.cells; have BE5_o := Go.Lib.hid (B4_o.out.alloc (.cells #[(.slice none 0 0), .int .i64 0] 45)); have B5_o := Go.Lib.hid (BE5_o.out.below hb5 BE5_o.out.lt); obtain ⟨k5o0, k5o1, k5o2, k5o3⟩ := B5_o.out.cells; have BE5_w := Go.Lib.hid (box1 w4 (.slice none 0 0) 0); have B5_w := Go.Lib.hid (BE5_w.out.below hb5 BE5_w.out.lt); obtain ⟨k5w0, k5w1, k5w2, k5w3⟩ := B5_w.out.cells; clear hb5))
  obtain ⟨x_c, hx_c⟩ : ∃ x, x = w1.heap.size := ⟨_, rfl⟩
  obtain ⟨x_x, hx_x⟩ : ∃ x, x = w1.heap.size + 1 := ⟨_, rfl⟩
  obtain ⟨x_y, hx_y⟩ : ∃ x, x = w2.heap.size := ⟨_, rfl⟩
  obtain ⟨x_w, hx_w⟩ : ∃ x, x = w4.heap.size := ⟨_, rfl⟩
  obtain ⟨x_o, hx_o⟩ : ∃ x, x = w3.heap.size := ⟨_, rfl⟩
  have y_o := Go.Lib.hid (show BoxAt w5 x_o (.slice b3 1 cp3) 1 by rw [hx_o]; exact B5_o.out)
  have y_c := Go.Lib.hid (show BoxAt w5 x_c (.slice b1 Lc cp1) Nc by rw [hx_c]; exact B5_c.out)
  have y_x := Go.Lib.hid (show DuAt w5 x_x E2.k0 E2.k1 E2.s0 E2.s1 by rw [hx_x]; exact B5_x.out)
  have y_y := Go.Lib.hid (show DuAt w5 x_y E2.k0 E2.k1 E2.s0 E2.s1 by rw [hx_y]; exact B5_y.out)
  have y_w := Go.Lib.hid (show BoxAt w5 x_w (.slice none 0 0) 0 by rw [hx_w]; exact B5_w.out)
  have y_d := Go.Lib.hid (show DuAt w5 W.heap.size D.k0 D.k1 D.s0 D.s1 from B5_d.out)
  have n_c : x_c ≠ x_o := by have := B3_c.out.lt; omega
  have n_x : x_x ≠ x_o := by have := B3_x.out.lt; omega
  have n_y : x_y ≠ x_o := by have := B3_y.out.lt; omega
  have n_w : x_w ≠ x_o := by have := B4_o.out.lt; omega
  have n_d : W.heap.size ≠ x_o := by have := B3_d.out.lt; omega
  have m_c : x_c ≠ x_w := by have := B4_c.out.lt; omega
  have m_x : x_x ≠ x_w := by have := B4_x.out.lt; omega
  have m_y : x_y ≠ x_w := by have := B4_y.out.lt; omega
  have m_d : W.heap.size ≠ x_w := by have := B4_d.out.lt; omega
  have g_o : W.heap.size ≤ x_o := by rw [hx_o]; exact hW3.out.size
  have g_w : W.heap.size ≤ x_w := by rw [hx_w]; exact hW4.out.size
  try rw [← hx_x]
  try rw [← hx_c]
  try rw [← hx_y]
  try rw [← hx_w]
  try rw [← hx_o]
  clear hx_c hx_x hx_y hx_w hx_o k1d0 k1d1 k1d2 k1d3 k1d4 k1d5 k1d6 k1d7 k2d0 k2d1 k2d2 k2d3 k2d4 k2d5 k2d6 k2d7 k2c0 k2c1 k2c2 k2c3 k2x0 k2x1 k2x2 k2x3 k2x4 k2x5 k2x6 k2x7 k3d0 k3d1 k3d2 k3d3 k3d4 k3d5 k3d6 k3d7 k3c0 k3c1 k3c2 k3c3 k3x0 k3x1 k3x2 k3x3 k3x4 k3x5 k3x6 k3x7 k3y0 k3y1 k3y2 k3y3 k3y4 k3y5 k3y6 k3y7 k4d0 k4d1 k4d2 k4d3 k4d4 k4d5 k4d6 k4d7 k4c0 k4c1 k4c2 k4c3 k4x0 k4x1 k4x2 k4x3 k4x4 k4x5 k4x6 k4x7 k4y0 k4y1 k4y2 k4y3 k4y4 k4y5 k4y6 k4y7 k4o0 k4o1 k4o2 k4o3 k5d0 k5d1 k5d2 k5d3 k5d4 k5d5 k5d6 k5d7 k5c0 k5c1 k5c2 k5c3 k5x0 k5x1 k5x2 k5x3 k5x4 k5x5 k5x6 k5x7 k5y0 k5y1 k5y2 k5y3 k5y4 k5y5 k5y6 k5y7 k5o0 k5o1 k5o2 k5o3 k5w0 k5w1 k5w2 k5w3
  obtain ⟨j0, j1, j2, j3⟩ := y_o.out.cells
  go_upto_region 7 with (go_at_call 61; with_reducible refine (p2.out _).mono ?_; rintro e w6 ⟨b6, cp6, rfl, hr6, hb6⟩; have z_o := Go.Lib.hid (y_o.out.below hb6 y_o.out.lt); have z_c := Go.Lib.hid (y_c.out.below hb6 y_c.out.lt); have z_x := Go.Lib.hid (y_x.out.below hb6 y_x.out.lt); have z_y := Go.Lib.hid (y_y.out.below hb6 y_y.out.lt); have z_w := Go.Lib.hid (y_w.out.below hb6 y_w.out.lt); have z_d := Go.Lib.hid (y_d.out.below hb6 y_d.out.lt); have R6_t := Go.Lib.hid hr6; have R6_c := Go.Lib.hid (R5_c.out.below hb6 (Nat.le_refl _)); have hW6 := Go.Lib.hid (hW5.out.trans (hb6.mono hW5.out.size)); obtain ⟨j0, j1, j2, j3⟩ := z_o.out.cells; clear hb6 hr6)
  obtain ⟨wg, hwg⟩ : ∃ w, w = (w6.setCell ⟨x_o, 0, none⟩ (.slice b6 1 cp6)).setCell ⟨x_o, 1, none⟩ (.int .i64 1) := ⟨_, rfl⟩
  have v_o := Go.Lib.hid (show BoxAt wg x_o (.slice b6 1 cp6) 1 by rw [hwg]; exact z_o.out.set _ _)
  have v_c := Go.Lib.hid (show BoxAt wg x_c (.slice b1 Lc cp1) Nc by rw [hwg]; exact (z_c.out.other (by simpa using n_c) _).other (by simpa using n_c) _)
  have v_x := Go.Lib.hid (show DuAt wg x_x E2.k0 E2.k1 E2.s0 E2.s1 by rw [hwg]; exact (z_x.out.other (by simpa using n_x) _).other (by simpa using n_x) _)
  have v_y := Go.Lib.hid (show DuAt wg x_y E2.k0 E2.k1 E2.s0 E2.s1 by rw [hwg]; exact (z_y.out.other (by simpa using n_y) _).other (by simpa using n_y) _)
  have v_w := Go.Lib.hid (show BoxAt wg x_w (.slice none 0 0) 0 by rw [hwg]; exact (z_w.out.other (by simpa using n_w) _).other (by simpa using n_w) _)
  have v_d := Go.Lib.hid (show DuAt wg W.heap.size D.k0 D.k1 D.s0 D.s1 by rw [hwg]; exact (z_d.out.other (by simpa using n_d) _).other (by simpa using n_d) _)
  have Rg_t := Go.Lib.hid (show Row .u8 wg b6 1 cp6 (pack [true]) by rw [hwg]; exact (R6_t.out.box z_o.out 0 (.slice b6 1 cp6)).box (z_o.out.set0 _) 1 _)
  have Rg_c := Go.Lib.hid (show Row .u8 wg b1 Lc cp1 C by rw [hwg]; exact (R6_c.out.box z_o.out 0 (.slice b6 1 cp6)).box (z_o.out.set0 _) 1 _)
  have hWg := Go.Lib.hid (show Below W.heap.size W wg by rw [hwg]; exact (hW6.out.setCell (by simpa using g_o) _).setCell (by simpa using g_o) _)
  rw [← hwg]
  have ldg := v_d.out.lt
  have log := v_o.out.lt
  clear hwg z_o z_c z_x z_y z_w z_d y_o y_c y_x y_y y_w y_d R6_t R6_c hW6 j0 j1 j2 j3
  refine wp_region_ord (fun w' => Below wg.heap.size wg w') [(2, 0), (4, 0), (0, 2), (1, 2), (5, 2), (3, 3), (6, 4), (7, 0), (8, 0), (9, 0), (10, 4), (11, 0)] (by kernel_rfl) (by kernel_rfl) ?hC0 ?_
  case hC0 => exact (Below.refl _ _).drew
  simp only [pick, nth]
  refine wpW_name ?_
  intro q0 hq0
  have hB0 : Below wg.heap.size wg q0 := by rw [hq0]; exact (Below.refl _ _).drew
  clear hq0
  (repeat (first | (apply wpW_light; (case h => (intro wa; (first | (go_big_quiet_skip; exact wpQuiet_nil rfl) | (go_big_quiet_want; go_big_quiet_op; go_big_quiet_on; exact wpQuiet_nil rfl))))) | (apply wpW_here; (case h => (first | (go_big_quiet_skip; exact wpQuiet_nil rfl) | (go_big_quiet_want; go_big_quiet_op; go_big_quiet_on; exact wpQuiet_nil rfl)))) | (apply wpW_held; (case hC => assumption); (case h => (intro wa hCa; (obtain ⟨t0, t1, t2, t3⟩ := (v_o.out.below hCa log).cells; obtain ⟨u0, u1, u2, u3, u4, u5, u6, u7⟩ := (v_d.out.below hCa ldg).cells; clear hCa); (first | (go_big_quiet_skip; exact wpQuiet_nil rfl) | (go_big_quiet_want; go_big_quiet_op; go_big_quiet_on; exact wpQuiet_nil rfl)))))))
  refine wpW_act (fun QQ hQQ => ?_) (by rfl)
  go_wp2_with (go_at_call 64; with_reducible refine (lf.out _).mono ?_; rintro e q1 ⟨rfl, hs⟩; have hB1 := hB0.trans (hs.mono hB0.size))
  (refine hQQ _ _ ?hCn ?_; (case hCn => exact hB1); clear hQQ QQ)
  clear hs hB0
  refine wpW_last (fun QQ hQQ => ?_) (by rfl)
  go_wp2_with (go_at_call 63; with_reducible refine (rw_.out _ _ _ (Rg_t.out.below hB1 (Nat.le_refl _))).mono ?_; rintro e q2 ⟨b8, cp8, rfl, hr8, hs⟩; have hB2 := hB1.trans (hs.mono hB1.size); have R8 := Go.Lib.hid hr8)
  (refine hQQ.out _ _ ?_; clear hQQ QQ)
  clear hs hB1 hr8
  (repeat (first | (apply wpW_light; (case h => (intro wa; (first | (go_big_quiet_skip; exact wpQuiet_nil rfl) | (go_big_quiet_want; go_big_quiet_op; go_big_quiet_on; exact wpQuiet_nil rfl))))) | (apply wpW_here; (case h => (first | (go_big_quiet_skip; exact wpQuiet_nil rfl) | (go_big_quiet_want; go_big_quiet_op; go_big_quiet_on; exact wpQuiet_nil rfl)))) | (apply wpW_held; (case hC => assumption); (case h => (intro wa hCa; simp only [] at hCa; (first | (go_big_quiet_skip; exact wpQuiet_nil rfl) | (go_big_quiet_want; go_big_quiet_op; go_big_quiet_on; exact wpQuiet_nil rfl)))))))
  have r_w := v_w.out.below hB2 v_w.out.lt
  obtain ⟨t0, t1, t2, t3⟩ := r_w.cells
  have r_w' := Go.Lib.hid r_w
  have hB2' := Go.Lib.hid hB2
  clear r_w hB2
  refine wpW_last (fun QQ hQQ => ?_) (by rfl)
  go_wp2
  (refine hQQ.out _ _ ?_; clear hQQ QQ)
  refine wpW_name ?_
  intro q3 hq3
  have f_w := Go.Lib.hid (show BoxAt q3 x_w (.slice b8 Lc cp8) Nc by rw [hq3]; exact r_w'.out.set _ _)
  have f_c := Go.Lib.hid (show BoxAt q3 x_c (.slice b1 Lc cp1) Nc by rw [hq3]; exact ((v_c.out.below hB2'.out v_c.out.lt).other (by simpa using m_c) _).other (by simpa using m_c) _)
  have f_x := Go.Lib.hid (show DuAt q3 x_x E2.k0 E2.k1 E2.s0 E2.s1 by rw [hq3]; exact ((v_x.out.below hB2'.out v_x.out.lt).other (by simpa using m_x) _).other (by simpa using m_x) _)
  have f_y := Go.Lib.hid (show DuAt q3 x_y E2.k0 E2.k1 E2.s0 E2.s1 by rw [hq3]; exact ((v_y.out.below hB2'.out v_y.out.lt).other (by simpa using m_y) _).other (by simpa using m_y) _)
  have Rf_w := Go.Lib.hid (show Row .u8 q3 b8 Lc cp8 C by rw [hq3]; exact (R8.out.box r_w'.out 0 (.slice b8 Lc cp8)).box (r_w'.out.set0 _) 1 _)
  have Rf_c := Go.Lib.hid (show Row .u8 q3 b1 Lc cp1 C by rw [hq3]; exact ((Rg_c.out.below hB2'.out (Nat.le_refl _)).box r_w'.out 0 (.slice b8 Lc cp8)).box (r_w'.out.set0 _) 1 _)
  have hWf := Go.Lib.hid (show Below W.heap.size W q3 by rw [hq3]; exact ((hWg.out.trans (hB2'.out.mono hWg.out.size)).setCell (by simpa using g_w) _).setCell (by simpa using g_w) _)
  clear hq3 t0 t1 t2 t3 r_w' hB2' R8 v_o v_c v_x v_y v_w v_d Rg_t Rg_c hWg
  (repeat (first | (apply wpW_light; (case h => (intro wa; (first | (go_big_quiet_skip; exact wpQuiet_nil rfl) | (go_big_quiet_want; go_big_quiet_op; go_big_quiet_on; exact wpQuiet_nil rfl))))) | (apply wpW_here; (case h => (first | (go_big_quiet_skip; exact wpQuiet_nil rfl) | (go_big_quiet_want; go_big_quiet_op; go_big_quiet_on; exact wpQuiet_nil rfl)))) | (apply wpW_held; (case hC => assumption); (case h => (intro wa hCa; simp only [] at hCa; (first | (go_big_quiet_skip; exact wpQuiet_nil rfl) | (go_big_quiet_want; go_big_quiet_op; go_big_quiet_on; exact wpQuiet_nil rfl)))))))
  refine wpW_nil ?_
  obtain ⟨s0, s1, s2, s3⟩ := f_w.out.cells
  obtain ⟨t0, t1, t2, t3⟩ := f_c.out.cells
  obtain ⟨u0, u1, u2, u3, u4, u5, u6, u7⟩ := f_x.out.cells
  obtain ⟨v0, v1, v2, v3, v4, v5, v6, v7⟩ := f_y.out.cells
  go_wp2_with (go_at_call 65; with_reducible refine (sm.out _ _ _ _ _ Rf_c.out Rf_w.out).mono ?_; rintro e q4 ⟨rfl, hs⟩; have hWh := Go.Lib.hid (hWf.out.trans (hs.mono hWf.out.size)); clear hs)
  go_ret
  exact ⟨by simp, hWh.out⟩
theorem TcApart_ok (W : World) (D : Du) (v : Nat) (hd : D.ok) (hv : v < 4294967296) :
    Calls Try.prog 36 #[.agg #[.int .i64 D.k0, .int .i64 D.k1, .int .u64 D.s0, .int .u64 D.s1], .int .u32 v] W fun e W' => e = .returned (.bool true) ∧ Below W.heap.size W W' := by
  by_cases hl : v < 2 ^ D.k0
  · exact TcApart_low W D v hd hv hl
  · exact TcApart_high W D v hd hv hl
end Go.Proofs.Ythbjcjphplgobaa

/- What the statements of block share: the chapter's examples; package and reference say the same. -/
namespace Go.Proofs.Ythbjcjphplgobaa
open Go.RowKit Cad

theorem bx2 (w : World) (o : Obj) (v : Value) (N : Int) : BoxAt ((w.alloc o).alloc (.cells #[v, .int .i64 N] 45)) (w.heap.size + 1) v N := by
  unfold BoxAt; rw [heap_alloc2_new]
theorem seal_none : sealB [] = [0, 0, 0, 0] := by decide +kernel
theorem seal_one : sealB [0] = [0, 141, 239, 2, 210] := by decide +kernel
theorem valid_none : Valid [] 0 := ⟨[], by rfl, by decide, by decide⟩
theorem valid_one : Valid [0] 8 := ⟨numB 0 8, by decide +kernel, by decide, by decide⟩
theorem str_none : (strOfNums [0, 0, 0, 0]).toList = [0, 0, 0, 0] := by decide +kernel
theorem str_one : (strOfNums [0, 141, 239, 2, 210]).toList = [0, 141, 239, 2, 210] := by decide +kernel

end Go.Proofs.Ythbjcjphplgobaa

/- What the statements of resume share: the chapter's examples; package and reference say the same. -/
namespace Go.Proofs.Ythbjcjphplgobaa
open Go.RowKit Cad

def rx8 : List Bool := numB 10 8
theorem rx8_len : rx8.length = 8 := by decide +kernel
theorem fed_a : fed 1 ([] ++ bytesB [10]) dStart = ⟨[], rx8, 1, dStart, 0⟩ := by
  have h : readD ([] ++ bytesB [10]) 0 dStart = (0, 0, 24) := by decide +kernel
  have e : ([] ++ bytesB [10] : List Bool) = rx8 := by decide +kernel
  rw [fed_wait h, e]
def rx5 : List Bool := (rx8 ++ bytesB [0]).drop 11
theorem rx5_len : rx5.length = 5 := by decide +kernel
theorem fed_b : fed 1 (rx8 ++ bytesB [0]) dStart = ⟨[5], rx5, 0, ⟨9, 10, 15365, 16384⟩, 0⟩ := by
  have h : readD (rx8 ++ bytesB [0]) 0 dStart = (5, 11, 0) := by decide +kernel
  have e : learnD dStart 5 = ⟨9, 10, 15365, 16384⟩ := by rfl
  have e5 : (rx8 ++ bytesB [0]).drop 11 = rx5 := rfl
  rw [fed_next h, e, e5, fed_none _ (by rw [rx5_len]; decide), glueF_ok]
  rfl
theorem ok_a : ResOkN 1 dStart [] := ⟨by decide, dStart_ok, by decide, fun h => (by cases h), fun _ => (by decide +kernel)⟩
theorem ok_b : ResOkN 1 dStart rx8 := ⟨by decide, dStart_ok, by rw [rx8_len]; decide, fun h => (by cases h), fun _ => (by decide +kernel)⟩

end Go.Proofs.Ythbjcjphplgobaa
