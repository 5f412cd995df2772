/- Texts of the proof, one behind the other: DuaC, DuaD, DuaE, DuaF, DuaR, DuaS, DuaT, DuaU, DuaL. -/
import Derived.Test.YthbjcjphplgobaaZ6
/- Contracts of the package dual: the state behind a number, Learn, Length. -/
namespace Go.Proofs.Ythbjcjphplgobaa
open Go.RowKit Cad

set_option maxRecDepth 100000 in
set_option maxHeartbeats 2000000 in
theorem Dbehind_low (W : World) (k0 k1 s0 s1 v : Nat) (h0 : k0 ≤ 24) (hs0 : s0 ≤ 68719476735) (hv : v < 4294967296) (hl : v < 2 ^ k0) :
    Calls Try.prog 52 #[.agg #[.int .i64 k0, .int .i64 k1, .int .u64 s0, .int .u64 s1], .int .u32 v] W fun e W' => e = .returned (.agg #[.int .i64 (pairK k0 (sumN s0 v) : Nat), .int .i64 k1, .int .u64 (sumN s0 v : Nat), .int .u64 s1]) ∧ Below W.heap.size W W' := by
  obtain ⟨W0, hW0, hbE, hsz0, hx0, hy0⟩ := du_boxes W k0 k1 s0 s1
  have hlow := Go.Lib.hid fun w => DisLow_ok w k0 k1 s0 s1 v h0 hv true (decide_eq_true hl)
  have hle := Go.Lib.hid fun w => Dlearn_ok w k0 s0 v h0 hs0 hv
  obtain ⟨n, hn⟩ : ∃ n, n = sumN s0 v := ⟨_, rfl⟩
  rw [← hn] at hle ⊢
  obtain ⟨i, hi⟩ : ∃ i, i = pairK k0 n := ⟨_, rfl⟩
  rw [← hi] at hle ⊢
  have hx0' := Go.Lib.hid hx0
  have hy0' := Go.Lib.hid hy0
  have hbE' := Go.Lib.hid hbE
  clear hn hi hl hx0 hy0 hbE
  go_enter Try.func52, Try.ntmps52
  go_wp2_with (first
    | (go_at_call 49; rw [← hW0]; clear hW0; refine (hlow.out _).mono ?_; rintro e w1 ⟨rfl, hb1⟩; obtain ⟨x0, x1, x2, x3, x4, x5, x6, x7⟩ := (hx0'.out.below hb1 (by omega)).cells; obtain ⟨y0, y1, y2, y3, y4, y5, y6, y7⟩ := (hy0'.out.below hb1 (by omega)).cells; have hb1' := Go.Lib.hid hb1; clear hb1)
    | (go_at_call 80; refine (hle.out _).mono ?_; rintro e w2 ⟨rfl, rfl⟩))
  (try simp only [Exit.inBlock, Exit.then])
  have hy1 := hy0'.out.below hb1'.out (by omega)
  refine bodyPost_ret (results_du (by rfl) _ _ (W.heap.size + 1) _ _ _ _ rfl (((hy1.other (by simp) _).other (by simp) _).set _ _ _ _)) rfl ?_
  refine ⟨rfl, ?_⟩
  have hb := hbE'.out.trans (hb1'.out.mono (by omega))
  exact (((((hb.setCell (by simp) _).setCell (by simp) _).setCell (by simp) _).setCell (by simp) _).setCell (by simp) _).setCell (by simp) _

set_option maxRecDepth 100000 in
set_option maxHeartbeats 4000000 in
theorem Dbehind_high (W : World) (k0 k1 s0 s1 v : Nat) (h0 : k0 ≤ 24) (h1 : k1 ≤ 24) (hs0 : s0 ≤ 68719476735) (hs1 : s1 ≤ 68719476735) (hv : v < 4294967296) (hl : ¬ v < 2 ^ k0) :
    Calls Try.prog 52 #[.agg #[.int .i64 k0, .int .i64 k1, .int .u64 s0, .int .u64 s1], .int .u32 v] W fun e W' => e = .returned (.agg #[.int .i64 (pairK k0 (sumN s0 v) : Nat), .int .i64 (pairK k1 (sumN s1 (v - 2 ^ k0)) : Nat), .int .u64 (sumN s0 v : Nat), .int .u64 (sumN s1 (v - 2 ^ k0) : Nat)]) ∧ Below W.heap.size W W' := by
  obtain ⟨W0, hW0, hbE, hsz0, hx0, hy0⟩ := du_boxes W k0 k1 s0 s1
  have hlow := Go.Lib.hid fun w => DisLow_ok w k0 k1 s0 s1 v h0 hv false (decide_eq_false hl)
  have hlf := Go.Lib.hid fun w => Dleft_ok w k0 k1 s0 s1 v h0 hv hl
  have hle := Go.Lib.hid fun w => Dlearn_ok w k0 s0 v h0 hs0 hv
  have hle1 := Go.Lib.hid fun w => Dlearn_ok w k1 s1 (v - 2 ^ k0) h1 hs1 (Nat.lt_of_le_of_lt (Nat.sub_le _ _) hv)
  obtain ⟨z, hz⟩ : ∃ z, z = v - 2 ^ k0 := ⟨_, rfl⟩
  rw [← hz] at hlf hle1 ⊢
  obtain ⟨n, hn⟩ : ∃ n, n = sumN s0 v := ⟨_, rfl⟩
  rw [← hn] at hle ⊢
  obtain ⟨i, hi⟩ : ∃ i, i = pairK k0 n := ⟨_, rfl⟩
  rw [← hi] at hle ⊢
  obtain ⟨m, hm⟩ : ∃ n, n = sumN s1 z := ⟨_, rfl⟩
  rw [← hm] at hle1 ⊢
  obtain ⟨j, hj⟩ : ∃ i, i = pairK k1 m := ⟨_, rfl⟩
  rw [← hj] at hle1 ⊢
  have hx0' := Go.Lib.hid hx0
  have hy0' := Go.Lib.hid hy0
  have hbE' := Go.Lib.hid hbE
  clear hn hi hm hj hz hl hx0 hy0 hbE
  go_enter Try.func52, Try.ntmps52
  go_wp2_with (go_at_call 49; rw [← hW0]; clear hW0; refine (hlow.out _).mono ?_; rintro e w1 ⟨rfl, hb1⟩; have hx1 := Go.Lib.hid (hx0'.out.below hb1 (by omega)); have hy1 := Go.Lib.hid (hy0'.out.below hb1 (by omega)); have hb1' := Go.Lib.hid hb1; clear hb1)
  refine wp_region_ord (fun w' => DuAt w' W.heap.size k0 k1 s0 s1) [(0, 0), (2, 0), (5, 0), (1, 2), (3, 2), (4, 1), (6, 3), (7, 3), (8, 0), (9, 0), (10, 0), (11, 0), (12, 4), (13, 0), (14, 4)] (by kernel_rfl) (by kernel_rfl) ?hC0 ?_
  case hC0 => exact hx1.out.drew
  simp only [pick, nth]
  obtain ⟨x0, x1, x2, x3, x4, x5, x6, x7⟩ := hx1.out.drew.cells
  (repeat (first | (apply wpW_light; (case h => (intro wa; (first | (go_big_quiet_skip; exact wpQuiet_nil rfl) | (go_big_quiet_want; go_big_quiet_op; go_big_quiet_on; exact wpQuiet_nil rfl))))) | (apply wpW_here; (case h => (first | (go_big_quiet_skip; exact wpQuiet_nil rfl) | (go_big_quiet_want; go_big_quiet_op; go_big_quiet_on; exact wpQuiet_nil rfl)))) | (apply wpW_held; (case hC => assumption); (case h => (intro wa hCa; obtain ⟨u0, u1, u2, u3, u4, u5, u6, u7⟩ := hCa.cells; (first | (go_big_quiet_skip; exact wpQuiet_nil rfl) | (go_big_quiet_want; go_big_quiet_op; go_big_quiet_on; exact wpQuiet_nil rfl)))))))
  clear x0 x1 x2 x3 x4 x5 x6 x7
  refine wpW_act (fun QQ hQQ => ?_) (by rfl)
  go_wp2_with (go_at_call 51; refine (hlf.out _).mono ?_; rintro e w3 ⟨rfl, hb3⟩; have hx3 := Go.Lib.hid (hx1.out.drew.below hb3 hx1.out.drew.lt); have hy3 := Go.Lib.hid (hy1.out.drew.below hb3 hy1.out.drew.lt); have hb13 := Go.Lib.hid (hb1'.out.drew.trans (hb3.mono hb1'.out.drew.size)); clear hb3)
  (refine hQQ _ _ ?hCn ?_; (case hCn => exact hx3.out); clear hQQ QQ)
  refine wpW_act (fun QQ hQQ => ?_) (by rfl)
  go_wp2_with (go_at_call 80; refine (hle1.out _).mono ?_; rintro e w4 ⟨rfl, rfl⟩)
  (refine hQQ _ _ ?hCn ?_; (case hCn => exact hx3.out); clear hQQ QQ)
  (repeat (first | (apply wpW_light; (case h => (intro wa; (first | (go_big_quiet_skip; exact wpQuiet_nil rfl) | (go_big_quiet_want; go_big_quiet_op; go_big_quiet_on; exact wpQuiet_nil rfl))))) | (apply wpW_here; (case h => (first | (go_big_quiet_skip; exact wpQuiet_nil rfl) | (go_big_quiet_want; go_big_quiet_op; go_big_quiet_on; exact wpQuiet_nil rfl)))) | (apply wpW_held; (case hC => assumption); (case h => (intro wa hCa; simp only [] at hCa; (first | (go_big_quiet_skip; exact wpQuiet_nil rfl) | (go_big_quiet_want; go_big_quiet_op; go_big_quiet_on; exact wpQuiet_nil rfl)))))))
  obtain ⟨x0, x1, x2, x3, x4, x5, x6, x7⟩ := hx3.out.cells
  refine wpW_last (fun QQ hQQ => ?_) (by rfl)
  go_wp2
  (refine hQQ.out _ _ ?_; clear hQQ QQ)
  (repeat (first | (apply wpW_light; (case h => (intro wa; (first | (go_big_quiet_skip; exact wpQuiet_nil rfl) | (go_big_quiet_want; go_big_quiet_op; go_big_quiet_on; exact wpQuiet_nil rfl))))) | (apply wpW_here; (case h => (first | (go_big_quiet_skip; exact wpQuiet_nil rfl) | (go_big_quiet_want; go_big_quiet_op; go_big_quiet_on; exact wpQuiet_nil rfl)))) | (apply wpW_held; (case hC => assumption); (case h => (intro wa hCa; simp only [] at hCa; (first | (go_big_quiet_skip; exact wpQuiet_nil rfl) | (go_big_quiet_want; go_big_quiet_op; go_big_quiet_on; exact wpQuiet_nil rfl)))))))
  refine wpW_last (fun QQ hQQ => ?_) (by rfl)
  go_wp2
  (refine hQQ.out _ _ ?_; clear hQQ QQ)
  refine wpW_nil ?_
  have hx5 := Go.Lib.hid ((hx3.out.set1 j).set3 m)
  have hy5 := Go.Lib.hid ((hy3.out.other (p := ⟨W.heap.size, 1, none⟩) (by simp) (.int .i64 j)).other (p := ⟨W.heap.size, 3, none⟩) (by simp) (.int .u64 m))
  have hb5 := Go.Lib.hid (((hbE'.out.trans (hb13.out.mono (by omega))).setCell (p := ⟨W.heap.size, 1, none⟩) (by simp) (.int .i64 j)).setCell (p := ⟨W.heap.size, 3, none⟩) (by simp) (.int .u64 m))
  obtain ⟨w5, hw5⟩ : ∃ w5, w5 = (w3.setCell ⟨W.heap.size, 1, none⟩ (.int .i64 j)).setCell ⟨W.heap.size, 3, none⟩ (.int .u64 m) := ⟨_, rfl⟩
  rw [← hw5] at hx5 hy5 hb5 ⊢
  clear x0 x1 x2 x3 x4 x5 x6 x7 hw5
  obtain ⟨x0, x1, x2, x3, x4, x5, x6, x7⟩ := hx5.out.cells
  obtain ⟨y0, y1, y2, y3, y4, y5, y6, y7⟩ := hy5.out.cells
  go_wp2_with (go_at_call 80; refine (hle.out _).mono ?_; rintro e w6 ⟨rfl, rfl⟩)
  (try simp only [Exit.inBlock, Exit.then])
  refine bodyPost_ret (results_du (by rfl) _ _ (W.heap.size + 1) _ _ _ _ rfl (((hy5.out.other (by simp) _).other (by simp) _).set _ _ _ _)) rfl ?_
  exact ⟨rfl, (((((hb5.out.setCell (by simp) _).setCell (by simp) _).setCell (by simp) _).setCell (by simp) _).setCell (by simp) _).setCell (by simp) _⟩

theorem Dbehind_ok (W : World) (D : Du) (v : Nat) (hd : D.ok) (hv : v < 4294967296) :
    Calls Try.prog 52 #[.agg #[.int .i64 D.k0, .int .i64 D.k1, .int .u64 D.s0, .int .u64 D.s1], .int .u32 v] W fun e W' => e = .returned (.agg #[.int .i64 (learnD D v).k0, .int .i64 (learnD D v).k1, .int .u64 (learnD D v).s0, .int .u64 (learnD D v).s1]) ∧ Below W.heap.size W W' := by
  by_cases hl : v < 2 ^ D.k0
  · rw [learnD_low hl]; exact Dbehind_low W D.k0 D.k1 D.s0 D.s1 v hd.1 hd.2.2.1 hv hl
  · rw [learnD_high hl]; exact Dbehind_high W D.k0 D.k1 D.s0 D.s1 v hd.1 hd.2.1 hd.2.2.1 hd.2.2.2 hv hl

set_option maxRecDepth 100000 in
theorem DLearn_bad (W : World) (a b c d : Int) (v : Nat) (ha : (Lit.int .i64 a).wf = true) (hb : (Lit.int .i64 b).wf = true) (hc : (Lit.int .u64 c).wf = true) (hd : (Lit.int .u64 d).wf = true) (hn : ¬ DuOk a b c d) :
    Calls Try.prog 29 #[.agg #[.int .i64 a, .int .i64 b, .int .u64 c, .int .u64 d], .int .u32 v] W fun e W' => e = .returned (.tuple #[.agg #[.int .i64 0, .int .i64 0, .int .u64 0, .int .u64 0], .int .i64 8]) ∧ Below W.heap.size W W' := by
  obtain ⟨W0, hW0, hbE, hsz0, hx0, hy0⟩ := du_boxes W a b c d
  have hck := Go.Lib.hid fun w => DCheck_any w a b c d ha hb hc hd 8 (.inr ⟨hn, rfl⟩)
  have hx0' := Go.Lib.hid hx0
  have hy0' := Go.Lib.hid hy0
  have hbE' := Go.Lib.hid hbE
  clear hx0 hy0 hbE ha hb hc hd hn
  go_enter Try.func29, Try.ntmps29
  go_wp2_with (go_at_call 48; rw [← hW0]; clear hW0; refine (hck.out _).mono ?_; rintro e w1 ⟨rfl, hb1⟩; obtain ⟨y0, y1, y2, y3, y4, y5, y6, y7⟩ := (hy0'.out.below hb1 (by omega)).cells; have hb1' := Go.Lib.hid hb1; clear hb1)
  (try simp only [Exit.inBlock, Exit.then])
  have hy1 := hy0'.out.below hb1'.out (by omega)
  refine bodyPost_ret (results_du_tmp (by rfl) _ _ (W.heap.size + 1) _ _ _ _ rfl (hy1.set _ _ _ _)) rfl ?_
  have hb := hbE'.out.trans (hb1'.out.mono (by omega))
  exact ⟨rfl, (((hb.setCell (by simp) _).setCell (by simp) _).setCell (by simp) _).setCell (by simp) _⟩
set_option maxRecDepth 100000 in
theorem DLearn_ok (W : World) (D : Du) (v : Nat) (hd : D.ok) (hv : v < 4294967296) :
    Calls Try.prog 29 #[.agg #[.int .i64 D.k0, .int .i64 D.k1, .int .u64 D.s0, .int .u64 D.s1], .int .u32 v] W fun e W' => e = .returned (.tuple #[.agg #[.int .i64 (learnD D v).k0, .int .i64 (learnD D v).k1, .int .u64 (learnD D v).s0, .int .u64 (learnD D v).s1], .int .i64 0]) ∧ Below W.heap.size W W' := by
  obtain ⟨W0, hW0, hbE, hsz0, hx0, hy0⟩ := du_boxes W D.k0 D.k1 D.s0 D.s1
  have hck := Go.Lib.hid fun w => DCheck_any w D.k0 D.k1 D.s0 D.s1 (du_wf hd).1 (du_wf hd).2.1 (du_wf hd).2.2.1 (du_wf hd).2.2.2 0 (.inl ⟨du_ok hd, rfl⟩)
  have hbh := Go.Lib.hid fun w => Dbehind_ok w D v hd hv
  obtain ⟨X, hX⟩ : ∃ X, X = learnD D v := ⟨_, rfl⟩
  rw [← hX] at hbh ⊢
  have hx0' := Go.Lib.hid hx0
  have hy0' := Go.Lib.hid hy0
  have hbE' := Go.Lib.hid hbE
  clear hx0 hy0 hbE hX hd
  go_enter Try.func29, Try.ntmps29
  go_wp2_with (first
    | (go_at_call 48; rw [← hW0]; clear hW0; refine (hck.out _).mono ?_; rintro e w1 ⟨rfl, hb1⟩; obtain ⟨x0, x1, x2, x3, x4, x5, x6, x7⟩ := (hx0'.out.below hb1 (by omega)).cells; have hb1' := Go.Lib.hid hb1; clear hb1)
    | (go_at_call 52; refine (hbh.out _).mono ?_; rintro e w2 ⟨rfl, hb2⟩; have hb12 := Go.Lib.hid (hb1'.out.trans (hb2.mono hb1'.out.size)); obtain ⟨y0, y1, y2, y3, y4, y5, y6, y7⟩ := (hy0'.out.below hb12.out (by omega)).cells; clear hb2))
  (try simp only [Exit.inBlock, Exit.then])
  have hy1 := hy0'.out.below hb12.out (by omega)
  refine bodyPost_ret (results_du_tmp (by rfl) _ _ (W.heap.size + 1) _ _ _ _ rfl (hy1.set _ _ _ _)) rfl ?_
  have hb := hbE'.out.trans (hb12.out.mono (by omega))
  exact ⟨rfl, (((hb.setCell (by simp) _).setCell (by simp) _).setCell (by simp) _).setCell (by simp) _⟩

set_option maxRecDepth 100000 in
theorem DLength_bad (W : World) (a b c d : Int) (v : Nat) (ha : (Lit.int .i64 a).wf = true) (hb : (Lit.int .i64 b).wf = true) (hc : (Lit.int .u64 c).wf = true) (hd : (Lit.int .u64 d).wf = true) (hn : ¬ DuOk a b c d) :
    Calls Try.prog 28 #[.agg #[.int .i64 a, .int .i64 b, .int .u64 c, .int .u64 d], .int .u32 v] W fun e W' => e = .returned (.tuple #[.int .i64 0, .int .i64 8]) ∧ Below W.heap.size W W' := by
  have hck := Go.Lib.hid fun w => DCheck_any w a b c d ha hb hc hd 8 (.inr ⟨hn, rfl⟩)
  have hbE' := Go.Lib.hid (below1 W (.cells #[.int .i64 a, .int .i64 b, .int .u64 c, .int .u64 d] 52))
  clear ha hb hc hd hn
  go_enter Try.func28, Try.ntmps28
  go_wp2_with (go_at_call 48; refine (hck.out _).mono ?_; rintro e w1 ⟨rfl, hb1⟩; have hb1' := Go.Lib.hid hb1; clear hb1)
  go_ret2
  exact ⟨rfl, hbE'.out.trans (hb1'.out.mono (by simp))⟩
set_option maxRecDepth 100000 in
set_option maxHeartbeats 1000000 in
theorem DLength_ok (W : World) (D : Du) (v : Nat) (hd : D.ok) (hv : v < 4294967296) :
    Calls Try.prog 28 #[.agg #[.int .i64 D.k0, .int .i64 D.k1, .int .u64 D.s0, .int .u64 D.s1], .int .u32 v] W fun e W' => e = .returned (.tuple #[.int .i64 (dualLen D v : Nat), .int .i64 0]) ∧ Below W.heap.size W W' := by
  have hck := Go.Lib.hid fun w => DCheck_any w D.k0 D.k1 D.s0 D.s1 (du_wf hd).1 (du_wf hd).2.1 (du_wf hd).2.2.1 (du_wf hd).2.2.2 0 (.inl ⟨du_ok hd, rfl⟩)
  have hbE' := Go.Lib.hid (below1 W (.cells #[.int .i64 D.k0, .int .i64 D.k1, .int .u64 D.s0, .int .u64 D.s1] 52))
  have hx0 := Go.Lib.hid (duat1 W D.k0 D.k1 D.s0 D.s1)
  have k24 := hd.1
  have j24 := hd.2.1
  by_cases hl : v < 2 ^ D.k0
  · have hlow := Go.Lib.hid fun w => DisLow_ok w D.k0 D.k1 D.s0 D.s1 v hd.1 hv true (decide_eq_true hl)
    rw [dualLen_low hl]
    clear hl hd
    go_enter Try.func28, Try.ntmps28
    go_wp2_with (first
      | (go_at_call 48; refine (hck.out _).mono ?_; rintro e w1 ⟨rfl, hb1⟩; obtain ⟨x0, x1, x2, x3, x4, x5, x6, x7⟩ := (hx0.out.below hb1 hx0.out.lt).cells; have hb1' := Go.Lib.hid hb1; clear hb1)
      | (go_at_call 49; refine (hlow.out _).mono ?_; rintro e w2 ⟨rfl, hb2⟩; have hb12 := Go.Lib.hid (hb1'.out.trans (hb2.mono hb1'.out.size)); obtain ⟨y0, y1, y2, y3, y4, y5, y6, y7⟩ := (hx0.out.below hb12.out hx0.out.lt).cells; clear hb2))
    go_ret2
    exact ⟨by go_num, hbE'.out.trans (hb12.out.mono (by simp))⟩
  · have hlow := Go.Lib.hid fun w => DisLow_ok w D.k0 D.k1 D.s0 D.s1 v hd.1 hv false (decide_eq_false hl)
    have hlf := Go.Lib.hid fun w => Dleft_ok w D.k0 D.k1 D.s0 D.s1 v hd.1 hv hl
    have hle := Go.Lib.hid fun w => PLength_ok w (v - 2 ^ D.k0) D.k1 (Nat.lt_of_le_of_lt (Nat.sub_le _ _) hv) hd.2.1
    have hrl := riceLen_le (v - 2 ^ D.k0) hd.2.1
    rw [dualLen_high hl]
    obtain ⟨z, hz⟩ : ∃ z, z = v - 2 ^ D.k0 := ⟨_, rfl⟩
    rw [← hz] at hlf hle hrl ⊢
    obtain ⟨r, hr⟩ : ∃ r, r = riceLen z D.k1 := ⟨_, rfl⟩
    rw [← hr] at hle hrl ⊢
    clear hl hd hz hr
    go_enter Try.func28, Try.ntmps28
    go_wp2_with (first
      | (go_at_call 48; refine (hck.out _).mono ?_; rintro e w1 ⟨rfl, hb1⟩; obtain ⟨x0, x1, x2, x3, x4, x5, x6, x7⟩ := (hx0.out.below hb1 hx0.out.lt).cells; have hb1' := Go.Lib.hid hb1; clear hb1)
      | (go_at_call 49; refine (hlow.out _).mono ?_; rintro e w2 ⟨rfl, hb2⟩; have hb12 := Go.Lib.hid (hb1'.out.trans (hb2.mono hb1'.out.size)); have hx2 := Go.Lib.hid (hx0.out.below hb12.out hx0.out.lt); clear hb2))
    refine wp_region_ord (fun w' => DuAt w' W.heap.size D.k0 D.k1 D.s0 D.s1) [(1, 0), (3, 0), (0, 1), (4, 2), (2, 3), (5, 3), (6, 0), (7, 0), (8, 0), (9, 0), (10, 0)] (by kernel_rfl) (by kernel_rfl) ?hC0 ?_
    case hC0 => exact hx2.out.drew
    simp only [pick, nth]
    obtain ⟨y0, y1, y2, y3, y4, y5, y6, y7⟩ := hx2.out.drew.cells
    (repeat (first | (apply wpW_light; (case h => (intro wa; (first | (go_big_quiet_skip; exact wpQuiet_nil rfl) | (go_big_quiet_want; go_big_quiet_op; go_big_quiet_on; exact wpQuiet_nil rfl))))) | (apply wpW_here; (case h => (first | (go_big_quiet_skip; exact wpQuiet_nil rfl) | (go_big_quiet_want; go_big_quiet_op; go_big_quiet_on; exact wpQuiet_nil rfl)))) | (apply wpW_held; (case hC => assumption); (case h => (intro wa hCa; obtain ⟨u0, u1, u2, u3, u4, u5, u6, u7⟩ := hCa.cells; (first | (go_big_quiet_skip; exact wpQuiet_nil rfl) | (go_big_quiet_want; go_big_quiet_op; go_big_quiet_on; exact wpQuiet_nil rfl)))))))
    clear y0 y1 y2 y3 y4 y5 y6 y7
    refine wpW_act (fun QQ hQQ => ?_) (by rfl)
    go_wp2_with (go_at_call 51; refine (hlf.out _).mono ?_; rintro e w3 ⟨rfl, hb3⟩; have hx3 := Go.Lib.hid (hx2.out.drew.below hb3 hx2.out.drew.lt); have hb13 := Go.Lib.hid (hb12.out.drew.trans (hb3.mono hb12.out.drew.size)); clear hb3)
    (refine hQQ _ _ ?hCn ?_; (case hCn => exact hx3.out); clear hQQ QQ)
    refine wpW_act (fun QQ hQQ => ?_) (by rfl)
    go_wp2_with (go_at_call 50; refine (hle.out _).mono ?_; rintro e w4 ⟨rfl, rfl⟩)
    (refine hQQ _ _ ?hCn ?_; (case hCn => exact hx3.out); clear hQQ QQ)
    (repeat (first | (apply wpW_light; (case h => (intro wa; (first | (go_big_quiet_skip; exact wpQuiet_nil rfl) | (go_big_quiet_want; go_big_quiet_op; go_big_quiet_on; exact wpQuiet_nil rfl))))) | (apply wpW_here; (case h => (first | (go_big_quiet_skip; exact wpQuiet_nil rfl) | (go_big_quiet_want; go_big_quiet_op; go_big_quiet_on; exact wpQuiet_nil rfl)))) | (apply wpW_held; (case hC => assumption); (case h => (intro wa hCa; simp only [] at hCa; (first | (go_big_quiet_skip; exact wpQuiet_nil rfl) | (go_big_quiet_want; go_big_quiet_op; go_big_quiet_on; exact wpQuiet_nil rfl)))))))
    refine wpW_nil ?_
    go_wp2
    go_ret2
    exact ⟨by go_num, hbE'.out.trans (hb13.out.mono (by simp))⟩
end Go.Proofs.Ythbjcjphplgobaa

/- Contracts of the package dual: a number's code is written. -/
namespace Go.Proofs.Ythbjcjphplgobaa
open Go.RowKit Cad

theorem or0 (v : Nat) (hv : v < 4294967296) : bits BinOp.or IntKind.u64 ((v : Int) * 2) 0 = ((2 * v : Nat) : Int) := by
  have := Go.u64_or_nat (v * 2) 0 (by omega) (by omega)
  rw [Nat.or_zero] at this
  rw [Nat.mul_comm 2 v, ← this]
  simp

set_option maxRecDepth 100000 in
set_option maxHeartbeats 1000000 in
theorem DwriteNumber_low (W : World) (a : Option Addr) (len cap : Nat) (B : List Bool) (D : Du) (v : Nat) (hr : Row .u8 W a len cap (pack B)) (hd : D.ok) (hv : v < 4294967296) (hl : v < 2 ^ D.k0) (m : Nat) (l : List Int) (t e : Int)
    (hput : ∀ w, Row .u8 w a len cap (pack B) → Res 61 #[.agg #[.slice a len cap, .int .i64 B.length], .int .u64 (2 * v : Nat), .int .i64 (1 + D.k0 : Nat)] w m l t e) :
    Res 88 #[.agg #[.slice a len cap, .int .i64 B.length], .agg #[.int .i64 D.k0, .int .i64 D.k1, .int .u64 D.s0, .int .u64 D.s1], .int .u32 v] W m l t e := by
  obtain ⟨W0, hW0, hbE, hsz0, hx0, hq0, hy0⟩ := bdb_boxes W (.slice a len cap) B.length D.k0 D.k1 D.s0 D.s1
  have hlow := Go.Lib.hid fun w => DisLow_ok w D.k0 D.k1 D.s0 D.s1 v hd.1 hv true (decide_eq_true hl)
  have hrE' := Go.Lib.hid (hr.below hbE (Nat.le_refl _))
  unfold Res at hput ⊢
  have hpu := Go.Lib.hid hput
  have hor := or0 v hv
  obtain ⟨z, hz⟩ : ∃ z, z = 2 * v := ⟨_, rfl⟩
  obtain ⟨k, hk⟩ : ∃ k, k = 1 + D.k0 := ⟨_, rfl⟩
  rw [← hz] at hpu hor
  rw [← hk] at hpu
  have hkI : (1 : Int) + (D.k0 : Int) = (k : Int) := by omega
  have hzb : z < 18446744073709551616 := by omega
  have hx0' := Go.Lib.hid hx0
  have hq0' := Go.Lib.hid hq0
  have hy0' := Go.Lib.hid hy0
  have hbE' := Go.Lib.hid hbE
  have k24 := hd.1
  clear hx0 hq0 hy0 hbE hput hr hl hd hk hz
  go_enter Try.func88, Try.ntmps88
  go_wp2_with (first
    | (go_at_call 49; rw [← hW0]; clear hW0; refine (hlow.out _).mono ?_; rintro e w1 ⟨rfl, hb1⟩; obtain ⟨x0, x1, x2, x3⟩ := (hx0'.out.below hb1 (by omega)).cells; obtain ⟨q0, q1, q2, q3, q4, q5, q6, q7⟩ := (hq0'.out.below hb1 (by omega)).cells; have hb1' := Go.Lib.hid hb1; clear hb1)
    | (go_at_call 61; refine (hpu.out _ (hrE'.out.below hb1'.out (Nat.le_refl _))).mono ?_; rintro e w2 ⟨b2, cp2, rfl, hr2, hb2⟩; have hb12 := Go.Lib.hid (hb1'.out.trans (hb2.mono hb1'.out.size)); have hr2' := Go.Lib.hid hr2; obtain ⟨y0, y1, y2, y3⟩ := (hy0'.out.below hb12.out (by omega)).cells; clear hb2 hr2))
  (try simp only [Exit.inBlock, Exit.then])
  have hy1 := hy0'.out.below hb12.out (by omega)
  refine bodyPost_ret (results_box_tmp (by rfl) _ _ (W.heap.size + 1 + 1) _ _ rfl (hy1.set _ _)) rfl ?_
  refine ⟨b2, cp2, by simp, (hr2'.out.box hy1 0 _).box (hy1.set0 _) 1 _, ?_⟩
  exact ((hbE'.out.trans (hb12.out.mono (by omega))).setCell (by simp; omega) _).setCell (by simp; omega) _

set_option maxRecDepth 100000 in
set_option maxHeartbeats 1000000 in
/-- the bit of the level finds no room -/
theorem DwriteNumber_full1 (W : World) (a : Option Addr) (len cap : Nat) (B : List Bool) (D : Du) (v : Nat) (hr : Row .u8 W a len cap (pack B)) (hd : D.ok) (hv : v < 4294967296) (hl : ¬ v < 2 ^ D.k0) (hB : B.length ≤ 330000) (hf : 330000 < B.length + 1) :
    Res 88 #[.agg #[.slice a len cap, .int .i64 B.length], .agg #[.int .i64 D.k0, .int .i64 D.k1, .int .u64 D.s0, .int .u64 D.s1], .int .u32 v] W 0 [] 0 18 := by
  refine Res.none ?_
  obtain ⟨W0, hW0, hbE, hsz0, hx0, hq0, hy0⟩ := bdb_boxes W (.slice a len cap) B.length D.k0 D.k1 D.s0 D.s1
  have hlow := Go.Lib.hid fun w => DisLow_ok w D.k0 D.k1 D.s0 D.s1 v hd.1 hv false (decide_eq_false hl)
  have hrE' := Go.Lib.hid (hr.below hbE (Nat.le_refl _))
  have hpu := Go.Lib.hid fun w hw => BPut_full w a len cap B 1 1 hw hB hf (by decide) (by decide)
  have hx0' := Go.Lib.hid hx0
  have hq0' := Go.Lib.hid hq0
  have hy0' := Go.Lib.hid hy0
  have hbE' := Go.Lib.hid hbE
  clear hx0 hq0 hy0 hbE hr hl hd
  go_enter Try.func88, Try.ntmps88
  go_wp2_with (first
    | (go_at_call 49; rw [← hW0]; clear hW0; refine (hlow.out _).mono ?_; rintro e w1 ⟨rfl, hb1⟩; obtain ⟨x0, x1, x2, x3⟩ := (hx0'.out.below hb1 (by omega)).cells; have hb1' := Go.Lib.hid hb1; clear hb1)
    | (go_at_call 61; refine (hpu.out _ (hrE'.out.below hb1'.out (Nat.le_refl _))).mono ?_; rintro e w2 ⟨rfl, hb2⟩; have hb12 := Go.Lib.hid (hb1'.out.trans (hb2.mono hb1'.out.size)); have hy2 := hy0'.out.below hb12.out (by omega); have hy3 := Go.Lib.hid (hy2.alloc (.cells #[.slice none 0 0, .int .i64 0] 45)); obtain ⟨y0, y1, y2, y3⟩ := hy3.out.cells; have hb13 := Go.Lib.hid (hb12.out.alloc hb12.out.size (.cells #[.slice none 0 0, .int .i64 0] 45)); clear hb2 hy2))
  (try simp only [Exit.inBlock, Exit.then])
  refine bodyPost_ret (results_box_tmp (by rfl) _ _ (W.heap.size + 1 + 1) _ _ rfl (hy3.out.set _ _)) rfl ?_
  refine ⟨by simp, ?_⟩
  exact ((hbE'.out.trans (hb13.out.mono (by omega))).setCell (by simp; omega) _).setCell (by simp; omega) _

set_option maxRecDepth 100000 in
set_option maxHeartbeats 2000000 in
theorem DwriteNumber_high (W : World) (a : Option Addr) (len cap : Nat) (B : List Bool) (D : Du) (v : Nat) (hr : Row .u8 W a len cap (pack B)) (hd : D.ok) (hv : v < 4294967296) (hl : ¬ v < 2 ^ D.k0) (hB : B.length + 1 ≤ 330000) (m : Nat) (l : List Int) (t e : Int)
    (hwr : ∀ w b c, Row .u8 w b (((B ++ [true]).length + 7) / 8) c (pack (B ++ [true])) → Res 63 #[.agg #[.slice b (((B ++ [true]).length + 7) / 8) c, .int .i64 (B ++ [true]).length], .int .u32 (v - 2 ^ D.k0 : Nat), .int .i64 D.k1] w m l t e) :
    Res 88 #[.agg #[.slice a len cap, .int .i64 B.length], .agg #[.int .i64 D.k0, .int .i64 D.k1, .int .u64 D.s0, .int .u64 D.s1], .int .u32 v] W m l t e := by
  obtain ⟨W0, hW0, hbE, hsz0, hx0, hq0, hy0⟩ := bdb_boxes W (.slice a len cap) B.length D.k0 D.k1 D.s0 D.s1
  have hlow := Go.Lib.hid fun w => DisLow_ok w D.k0 D.k1 D.s0 D.s1 v hd.1 hv false (decide_eq_false hl)
  have hlf := Go.Lib.hid fun w => Dleft_ok w D.k0 D.k1 D.s0 D.s1 v hd.1 hv hl
  have hrE' := Go.Lib.hid (hr.below hbE (Nat.le_refl _))
  have hpu := Go.Lib.hid fun w hw => BPut_ok w a len cap B 1 1 hw hB (by decide) (by decide)
  have hone : numB 1 1 = [true] := rfl
  rw [hone] at hpu
  unfold Res at hwr ⊢
  have hlen : (B ++ [true]).length = B.length + 1 := by simp
  rw [hlen] at hwr
  have hwr' := Go.Lib.hid hwr
  obtain ⟨N1, hN1⟩ : ∃ N1, N1 = B.length + 1 := ⟨_, rfl⟩
  obtain ⟨m1, hm1⟩ : ∃ m1, m1 = (N1 + 7) / 8 := ⟨_, rfl⟩
  obtain ⟨z, hz⟩ : ∃ z, z = v - 2 ^ D.k0 := ⟨_, rfl⟩
  rw [← hN1, ← hm1] at hpu hwr'
  rw [← hz] at hlf hwr'
  have hx0' := Go.Lib.hid hx0
  have hq0' := Go.Lib.hid hq0
  have hy0' := Go.Lib.hid hy0
  have hbE' := Go.Lib.hid hbE
  clear hx0 hq0 hy0 hbE hr hl hd hwr hlen hN1 hm1 hz hone
  go_enter Try.func88, Try.ntmps88
  go_wp2_with (first
    | (go_at_call 49; rw [← hW0]; clear hW0; refine (hlow.out _).mono ?_; rintro e w1 ⟨rfl, hb1⟩; obtain ⟨x0, x1, x2, x3⟩ := (hx0'.out.below hb1 (by omega)).cells; have hb1' := Go.Lib.hid hb1; clear hb1)
    | (go_at_call 61; refine (hpu.out _ (hrE'.out.below hb1'.out (Nat.le_refl _))).mono ?_; rintro e w2 ⟨b2, cp2, rfl, hr2, hb2⟩; have hb12 := Go.Lib.hid (hb1'.out.trans (hb2.mono hb1'.out.size)); have hr2' := Go.Lib.hid hr2; clear hb2 hr2))
  have hbA := Go.Lib.hid (hb12.out.alloc hb12.out.size (.cells #[.slice b2 m1 cp2, .int .i64 N1] 45))
  have hrA := Go.Lib.hid (hr2'.out.below (below1 w2 (.cells #[.slice b2 m1 cp2, .int .i64 N1] 45)) (Nat.le_refl _))
  have hzA := Go.Lib.hid (box1 w2 (.slice b2 m1 cp2) N1)
  have hqA := Go.Lib.hid ((hq0'.out.below hb12.out (by omega)).alloc (.cells #[.slice b2 m1 cp2, .int .i64 N1] 45))
  have hyA := Go.Lib.hid ((hy0'.out.below hb12.out (by omega)).alloc (.cells #[.slice b2 m1 cp2, .int .i64 N1] 45))
  obtain ⟨x8, hx8⟩ : ∃ x, x = w2.heap.size := ⟨_, rfl⟩
  obtain ⟨w3, hw3⟩ : ∃ w, w = w2.alloc (.cells #[.slice b2 m1 cp2, .int .i64 N1] 45) := ⟨_, rfl⟩
  obtain ⟨z0, z1, z2, z3⟩ := hzA.out.cells
  have h8 : W.heap.size + 1 + 1 < x8 := by rw [hx8]; have := hb12.out.size; omega
  rw [← hx8, ← hw3] at hzA
  rw [← hw3] at hbA hrA hqA hyA
  rw [← hx8, ← hw3] at z0 z1 z2 z3
  try rw [← hw3]
  try rw [← hx8]
  clear x0 x1 x2 x3 hw3 hx8
  have hn8 : W.heap.size + 1 + 1 ≠ x8 := by omega
  go_wp2
  refine wp_region_ord (fun w' => BoxAt w' x8 (.slice b2 m1 cp2) N1 ∧ DuAt w' (W.heap.size + 1) D.k0 D.k1 D.s0 D.s1) [(2, 0), (4, 0), (0, 2), (1, 1), (5, 2), (3, 3), (6, 3), (7, 0), (8, 0), (9, 4), (10, 0)] (by kernel_rfl) (by kernel_rfl) ?hC0 ?_
  case hC0 => exact ⟨hzA.out.drew, hqA.out.drew⟩
  simp only [pick, nth]
  obtain ⟨q0, q1, q2, q3, q4, q5, q6, q7⟩ := hqA.out.drew.cells
  have hC1 := Go.Lib.hid (And.intro hzA.out.drew hqA.out.drew)
  (repeat (first | (apply wpW_light; (case h => (intro wa; (first | (go_big_quiet_skip; exact wpQuiet_nil rfl) | (go_big_quiet_want; go_big_quiet_op; go_big_quiet_on; exact wpQuiet_nil rfl))))) | (apply wpW_here; (case h => (first | (go_big_quiet_skip; exact wpQuiet_nil rfl) | (go_big_quiet_want; go_big_quiet_op; go_big_quiet_on; exact wpQuiet_nil rfl)))) | (apply wpW_held; (case hC => assumption); (case h => (intro wa hCa; (obtain ⟨u0, u1, u2, u3⟩ := hCa.1.cells; obtain ⟨v0, v1, v2, v3, v4, v5, v6, v7⟩ := hCa.2.cells); (first | (go_big_quiet_skip; exact wpQuiet_nil rfl) | (go_big_quiet_want; go_big_quiet_op; go_big_quiet_on; exact wpQuiet_nil rfl)))))))
  clear q0 q1 q2 q3 q4 q5 q6 q7
  refine wpW_act (fun QQ hQQ => ?_) (by rfl)
  go_wp2_with (go_at_call 51; refine (hlf.out _).mono ?_; rintro e w4 ⟨rfl, hb4⟩; have hq4 := Go.Lib.hid (hqA.out.drew.below hb4 hqA.out.drew.lt); have hz4 := Go.Lib.hid (hzA.out.drew.below hb4 hzA.out.drew.lt); have hy4 := Go.Lib.hid (hyA.out.drew.below hb4 hyA.out.drew.lt); have hr4 := Go.Lib.hid ((hrA.out.below (Below.refl _ _).drew (Nat.le_refl _)).below hb4 (Nat.le_refl _)); have hb14 := Go.Lib.hid (hbA.out.drew.trans (hb4.mono hbA.out.drew.size)); clear hb4)
  (refine hQQ _ _ ?hCn ?_; (case hCn => exact ⟨hz4.out, hq4.out⟩); clear hQQ QQ)
  refine wpW_act (fun QQ hQQ => ?_) (by rfl)
  go_wp2_with (go_at_call 63; refine (hwr'.out _ _ _ hr4.out).mono ?_; rintro e w5 ⟨b5, cp5, rfl, hr5, hb5⟩; have hq5 := Go.Lib.hid (hq4.out.below hb5 hq4.out.lt); have hz5 := Go.Lib.hid (hz4.out.below hb5 hz4.out.lt); have hy5 := Go.Lib.hid (hy4.out.below hb5 hy4.out.lt); have hb15 := Go.Lib.hid (hb14.out.trans (hb5.mono hb14.out.size)); have hr5' := Go.Lib.hid hr5; clear hb5 hr5)
  (refine hQQ _ _ ?hCn ?_; (case hCn => exact ⟨hz5.out, hq5.out⟩); clear hQQ QQ)
  (repeat (first | (apply wpW_light; (case h => (intro wa; (first | (go_big_quiet_skip; exact wpQuiet_nil rfl) | (go_big_quiet_want; go_big_quiet_op; go_big_quiet_on; exact wpQuiet_nil rfl))))) | (apply wpW_here; (case h => (first | (go_big_quiet_skip; exact wpQuiet_nil rfl) | (go_big_quiet_want; go_big_quiet_op; go_big_quiet_on; exact wpQuiet_nil rfl)))) | (apply wpW_held; (case hC => assumption); (case h => (intro wa hCa; simp only [] at hCa; (first | (go_big_quiet_skip; exact wpQuiet_nil rfl) | (go_big_quiet_want; go_big_quiet_op; go_big_quiet_on; exact wpQuiet_nil rfl)))))))
  obtain ⟨y0, y1, y2, y3⟩ := hy5.out.cells
  refine wpW_last (fun QQ hQQ => ?_) (by rfl)
  go_wp2
  (refine hQQ.out _ _ ?_; clear hQQ QQ)
  (repeat (first | (apply wpW_light; (case h => (intro wa; (first | (go_big_quiet_skip; exact wpQuiet_nil rfl) | (go_big_quiet_want; go_big_quiet_op; go_big_quiet_on; exact wpQuiet_nil rfl))))) | (apply wpW_here; (case h => (first | (go_big_quiet_skip; exact wpQuiet_nil rfl) | (go_big_quiet_want; go_big_quiet_op; go_big_quiet_on; exact wpQuiet_nil rfl)))) | (apply wpW_held; (case hC => assumption); (case h => (intro wa hCa; simp only [] at hCa; (first | (go_big_quiet_skip; exact wpQuiet_nil rfl) | (go_big_quiet_want; go_big_quiet_op; go_big_quiet_on; exact wpQuiet_nil rfl)))))))
  refine wpW_nil ?_
  go_wp2
  (try simp only [Exit.inBlock, Exit.then])
  refine bodyPost_ret (results_box_tmp (by rfl) _ _ (W.heap.size + 1 + 1) _ _ rfl (hy5.out.set _ _)) rfl ?_
  refine ⟨b5, cp5, by simp, (hr5'.out.box hy5.out 0 _).box (hy5.out.set0 _) 1 _, ?_⟩
  exact ((hbE'.out.trans (hb15.out.mono (by omega))).setCell (by simp; omega) _).setCell (by simp; omega) _
end Go.Proofs.Ythbjcjphplgobaa

/- Contracts of the package dual: Write. -/
namespace Go.Proofs.Ythbjcjphplgobaa
open Go.RowKit Cad

/-- a call that hands back bits, a state and an error -/
def ResD (f : FuncId) (args : Array Value) (W : World) (m : Nat) (l : List Int) (t a b c d e : Int) : Prop :=
  Calls Try.prog f args W fun r W' => ∃ bb cc, r = .returned (.tuple #[.agg #[.slice bb m cc, .int .i64 t], .agg #[.int .i64 a, .int .i64 b, .int .u64 c, .int .u64 d], .int .i64 e]) ∧ Row .u8 W' bb m cc l ∧ Below W.heap.size W W'

/-- bits and a state are written into two variables -/
theorem outs {w : World} {y p : Nat} {b0 : Option Addr} {n0 c0 : Nat} {N : Int} {a b c d : Int} (hy : BoxAt w y (.slice b0 n0 c0) N) (hp : DuAt w p a b c d) (hne : y ≠ p) (b' : Option Addr) (n' c' : Nat) (N' i j k l : Int) :
    BoxAt ((((((w.setCell ⟨y, 0, none⟩ (.slice b' n' c')).setCell ⟨y, 1, none⟩ (.int .i64 N')).setCell ⟨p, 0, none⟩ (.int .i64 i)).setCell ⟨p, 1, none⟩ (.int .i64 j)).setCell ⟨p, 2, none⟩ (.int .u64 k)).setCell ⟨p, 3, none⟩ (.int .u64 l)) y (.slice b' n' c') N' ∧ DuAt ((((((w.setCell ⟨y, 0, none⟩ (.slice b' n' c')).setCell ⟨y, 1, none⟩ (.int .i64 N')).setCell ⟨p, 0, none⟩ (.int .i64 i)).setCell ⟨p, 1, none⟩ (.int .i64 j)).setCell ⟨p, 2, none⟩ (.int .u64 k)).setCell ⟨p, 3, none⟩ (.int .u64 l)) p i j k l ∧
    (∀ {B : Nat} {W : World}, Below B W w → B ≤ y → B ≤ p → Below B W ((((((w.setCell ⟨y, 0, none⟩ (.slice b' n' c')).setCell ⟨y, 1, none⟩ (.int .i64 N')).setCell ⟨p, 0, none⟩ (.int .i64 i)).setCell ⟨p, 1, none⟩ (.int .i64 j)).setCell ⟨p, 2, none⟩ (.int .u64 k)).setCell ⟨p, 3, none⟩ (.int .u64 l))) ∧ (∀ {aa : Option Addr} {len cap : Nat} {z : List Int}, Row .u8 w aa len cap z → Row .u8 ((((((w.setCell ⟨y, 0, none⟩ (.slice b' n' c')).setCell ⟨y, 1, none⟩ (.int .i64 N')).setCell ⟨p, 0, none⟩ (.int .i64 i)).setCell ⟨p, 1, none⟩ (.int .i64 j)).setCell ⟨p, 2, none⟩ (.int .u64 k)).setCell ⟨p, 3, none⟩ (.int .u64 l)) aa len cap z) := by
  have h1 := hy.set (.slice b' n' c') N'
  have h2 := (hp.other (p := ⟨y, 0, none⟩) hne.symm (.slice b' n' c')).other (p := ⟨y, 1, none⟩) hne.symm (.int .i64 N')
  refine ⟨(((h1.other hne _).other hne _).other hne _).other hne _, h2.set i j k l, fun h hB hP => (((((h.setCell hB _).setCell hB _).setCell hP _).setCell hP _).setCell hP _).setCell hP _, fun hr => ?_⟩
  have r1 := (hr.box hy 0 (.slice b' n' c')).box (hy.set0 _) 1 (.int .i64 N')
  exact (((r1.boxD (.inl rfl) h2 0 _).boxD (.inl rfl) (h2.set0 i) 1 _).boxD (.inl rfl) ((h2.set0 i).set1 j) 2 _).boxD (.inl rfl) (((h2.set0 i).set1 j).set2 k) 3 _

set_option maxRecDepth 100000 in
set_option maxHeartbeats 1000000 in
theorem DWrite_bad (W : World) (aa : Option Addr) (len cap : Nat) (N : Int) (l : List Int) (a b c d : Int) (v : Nat) (hr : Row .u8 W aa len cap l) (hN : (Lit.int .i64 N).wf = true) (hv : ¬ Valid l N) :
    ResD 60 #[.agg #[.slice aa len cap, .int .i64 N], .agg #[.int .i64 a, .int .i64 b, .int .u64 c, .int .u64 d], .int .u32 v] W 0 [] 0 0 0 0 0 8 := by
  unfold ResD
  obtain ⟨W0, hW0, hbE, hsz0, hx0, hq0, hy0, hp0⟩ := bdbd_boxes W (.slice aa len cap) N a b c d
  have hck := Go.Lib.hid (BCheck_any W0 aa len cap N l (hr.below hbE (Nat.le_refl _)) hN 8 (.inr ⟨hv, rfl⟩))
  have hy0' := Go.Lib.hid hy0
  have hp0' := Go.Lib.hid hp0
  have hbE' := Go.Lib.hid hbE
  clear hx0 hq0 hy0 hp0 hbE hr hv hN
  go_enter Try.func60, Try.ntmps60
  go_wp2_with (go_at_call 55; rw [← hW0]; clear hW0; refine hck.out.mono ?_; rintro e w1 ⟨rfl, hb1⟩; obtain ⟨y0, y1, y2, y3⟩ := (hy0'.out.below hb1 (by omega)).cells; obtain ⟨p0, p1, p2, p3, p4, p5, p6, p7⟩ := (hp0'.out.below hb1 (by omega)).cells; have hb1' := Go.Lib.hid hb1; clear hb1)
  (try simp only [Exit.inBlock, Exit.then])
  obtain ⟨o1, o2, o3, o4⟩ := outs (hy0'.out.below hb1'.out (by omega)) (hp0'.out.below hb1'.out (by omega)) (by omega) none 0 0 0 0 0 0 0
  refine bodyPost_ret (results_bits_du_tmp (by rfl) _ _ (W.heap.size + 1 + 1) (W.heap.size + 1 + 1 + 1) _ _ _ _ _ _ rfl rfl o1 o2) rfl ?_
  exact ⟨none, 0, by simp, Row.nil_row _ _, o3 (hbE'.out.trans (hb1'.out.mono (by omega))) (by omega) (by omega)⟩
set_option maxRecDepth 100000 in
set_option maxHeartbeats 1000000 in
theorem DWrite_state (W : World) (aa : Option Addr) (len cap : Nat) (N : Int) (l : List Int) (a b c d : Int) (v : Nat) (hr : Row .u8 W aa len cap l) (hN : (Lit.int .i64 N).wf = true) (hv : Valid l N)
    (ha : (Lit.int .i64 a).wf = true) (hb : (Lit.int .i64 b).wf = true) (hc : (Lit.int .u64 c).wf = true) (hd : (Lit.int .u64 d).wf = true) (hn : ¬ DuOk a b c d) :
    ResD 60 #[.agg #[.slice aa len cap, .int .i64 N], .agg #[.int .i64 a, .int .i64 b, .int .u64 c, .int .u64 d], .int .u32 v] W 0 [] 0 0 0 0 0 8 := by
  unfold ResD
  obtain ⟨W0, hW0, hbE, hsz0, hx0, hq0, hy0, hp0⟩ := bdbd_boxes W (.slice aa len cap) N a b c d
  have hck := Go.Lib.hid (BCheck_any W0 aa len cap N l (hr.below hbE (Nat.le_refl _)) hN 0 (.inl ⟨hv, rfl⟩))
  have hcd := Go.Lib.hid fun w => DCheck_any w a b c d ha hb hc hd 8 (.inr ⟨hn, rfl⟩)
  have hq0' := Go.Lib.hid hq0
  have hy0' := Go.Lib.hid hy0
  have hp0' := Go.Lib.hid hp0
  have hbE' := Go.Lib.hid hbE
  clear hx0 hq0 hy0 hp0 hbE hr hv hN ha hb hc hd hn
  go_enter Try.func60, Try.ntmps60
  go_wp2_with (first
    | (go_at_call 55; rw [← hW0]; clear hW0; refine hck.out.mono ?_; rintro e w1 ⟨rfl, hb1⟩; obtain ⟨q0, q1, q2, q3, q4, q5, q6, q7⟩ := (hq0'.out.below hb1 (by omega)).cells; have hb1' := Go.Lib.hid hb1; clear hb1)
    | (go_at_call 48; refine (hcd.out _).mono ?_; rintro e w2 ⟨rfl, hb2⟩; have hb12 := Go.Lib.hid (hb1'.out.trans (hb2.mono hb1'.out.size)); obtain ⟨y0, y1, y2, y3⟩ := (hy0'.out.below hb12.out (by omega)).cells; obtain ⟨p0, p1, p2, p3, p4, p5, p6, p7⟩ := (hp0'.out.below hb12.out (by omega)).cells; clear hb2))
  (try simp only [Exit.inBlock, Exit.then])
  obtain ⟨o1, o2, o3, o4⟩ := outs (hy0'.out.below hb12.out (by omega)) (hp0'.out.below hb12.out (by omega)) (by omega) none 0 0 0 0 0 0 0
  refine bodyPost_ret (results_bits_du_tmp (by rfl) _ _ (W.heap.size + 1 + 1) (W.heap.size + 1 + 1 + 1) _ _ _ _ _ _ rfl rfl o1 o2) rfl ?_
  exact ⟨none, 0, by simp, Row.nil_row _ _, o3 (hbE'.out.trans (hb12.out.mono (by omega))) (by omega) (by omega)⟩
set_option maxRecDepth 100000 in
set_option maxHeartbeats 1000000 in
theorem DWrite_full (W : World) (aa : Option Addr) (len cap : Nat) (B : List Bool) (D : Du) (v : Nat) (hr : Row .u8 W aa len cap (pack B)) (hB : B.length ≤ 330000) (hd : D.ok)
    (hwn : ∀ w, Row .u8 w aa len cap (pack B) → Res 88 #[.agg #[.slice aa len cap, .int .i64 B.length], .agg #[.int .i64 D.k0, .int .i64 D.k1, .int .u64 D.s0, .int .u64 D.s1], .int .u32 v] w 0 [] 0 18) :
    ResD 60 #[.agg #[.slice aa len cap, .int .i64 B.length], .agg #[.int .i64 D.k0, .int .i64 D.k1, .int .u64 D.s0, .int .u64 D.s1], .int .u32 v] W 0 [] 0 0 0 0 0 18 := by
  unfold ResD
  obtain ⟨W0, hW0, hbE, hsz0, hx0, hq0, hy0, hp0⟩ := bdbd_boxes W (.slice aa len cap) B.length D.k0 D.k1 D.s0 D.s1
  have hck := Go.Lib.hid (BCheck_any W0 aa len cap B.length (pack B) (hr.below hbE (Nat.le_refl _)) (bounds_of_len (by omega)) 0 (.inl ⟨⟨B, rfl, hB, rfl⟩, rfl⟩))
  have hcd := Go.Lib.hid fun w => DCheck_any w D.k0 D.k1 D.s0 D.s1 (du_wf hd).1 (du_wf hd).2.1 (du_wf hd).2.2.1 (du_wf hd).2.2.2 0 (.inl ⟨du_ok hd, rfl⟩)
  have hrE' := Go.Lib.hid (hr.below hbE (Nat.le_refl _))
  unfold Res at hwn
  have hwn' := Go.Lib.hid hwn
  have hx0' := Go.Lib.hid hx0
  have hq0' := Go.Lib.hid hq0
  have hy0' := Go.Lib.hid hy0
  have hp0' := Go.Lib.hid hp0
  have hbE' := Go.Lib.hid hbE
  clear hx0 hq0 hy0 hp0 hbE hr hB hwn hd
  go_enter Try.func60, Try.ntmps60
  go_wp2_with (first
    | (go_at_call 55; rw [← hW0]; clear hW0; refine hck.out.mono ?_; rintro e w1 ⟨rfl, hb1⟩; obtain ⟨q0, q1, q2, q3, q4, q5, q6, q7⟩ := (hq0'.out.below hb1 (by omega)).cells; have hb1' := Go.Lib.hid hb1; clear hb1)
    | (go_at_call 48; refine (hcd.out _).mono ?_; rintro e w2 ⟨rfl, hb2⟩; have hb12 := Go.Lib.hid (hb1'.out.trans (hb2.mono hb1'.out.size)); obtain ⟨x0, x1, x2, x3⟩ := (hx0'.out.below hb12.out (by omega)).cells; obtain ⟨r0, r1, r2, r3, r4, r5, r6, r7⟩ := (hq0'.out.below hb12.out (by omega)).cells; clear hb2)
    | (go_at_call 88; refine (hwn'.out _ (hrE'.out.below hb12.out (Nat.le_refl _))).mono ?_; rintro e w3 ⟨b3, cp3, rfl, hr3, hb3⟩; have hb13 := Go.Lib.hid (hb12.out.trans (hb3.mono hb12.out.size)); have hb14 := Go.Lib.hid (hb13.out.alloc hb13.out.size (.cells #[.slice b3 0 cp3, .int .i64 0] 45)); have hy4 := Go.Lib.hid ((hy0'.out.below hb13.out (by omega)).alloc (.cells #[.slice b3 0 cp3, .int .i64 0] 45)); have hp4 := Go.Lib.hid ((hp0'.out.below hb13.out (by omega)).alloc (.cells #[.slice b3 0 cp3, .int .i64 0] 45)); obtain ⟨y0, y1, y2, y3⟩ := hy4.out.cells; obtain ⟨p0, p1, p2, p3, p4, p5, p6, p7⟩ := hp4.out.cells; clear hb3 hr3))
  (try simp only [Exit.inBlock, Exit.then])
  obtain ⟨o1, o2, o3, o4⟩ := outs hy4.out hp4.out (by omega) none 0 0 0 0 0 0 0
  refine bodyPost_ret (results_bits_du_tmp (by rfl) _ _ (W.heap.size + 1 + 1) (W.heap.size + 1 + 1 + 1) _ _ _ _ _ _ rfl rfl o1 o2) rfl ?_
  exact ⟨none, 0, by simp, Row.nil_row _ _, o3 (hbE'.out.trans (hb14.out.mono (by omega))) (by omega) (by omega)⟩
set_option maxRecDepth 100000 in
set_option maxHeartbeats 2000000 in
theorem DWrite_in (W : World) (aa : Option Addr) (len cap : Nat) (B : List Bool) (D : Du) (v : Nat) (hr : Row .u8 W aa len cap (pack B)) (hB : B.length ≤ 330000) (hd : D.ok) (hv : v < 4294967296) (m : Nat) (l : List Int) (t : Int)
    (hwn : ∀ w, Row .u8 w aa len cap (pack B) → Res 88 #[.agg #[.slice aa len cap, .int .i64 B.length], .agg #[.int .i64 D.k0, .int .i64 D.k1, .int .u64 D.s0, .int .u64 D.s1], .int .u32 v] w m l t 0) :
    ResD 60 #[.agg #[.slice aa len cap, .int .i64 B.length], .agg #[.int .i64 D.k0, .int .i64 D.k1, .int .u64 D.s0, .int .u64 D.s1], .int .u32 v] W m l t (learnD D v).k0 (learnD D v).k1 (learnD D v).s0 (learnD D v).s1 0 := by
  unfold ResD
  obtain ⟨W0, hW0, hbE, hsz0, hx0, hq0, hy0, hp0⟩ := bdbd_boxes W (.slice aa len cap) B.length D.k0 D.k1 D.s0 D.s1
  have hck := Go.Lib.hid (BCheck_any W0 aa len cap B.length (pack B) (hr.below hbE (Nat.le_refl _)) (bounds_of_len (by omega)) 0 (.inl ⟨⟨B, rfl, hB, rfl⟩, rfl⟩))
  have hcd := Go.Lib.hid fun w => DCheck_any w D.k0 D.k1 D.s0 D.s1 (du_wf hd).1 (du_wf hd).2.1 (du_wf hd).2.2.1 (du_wf hd).2.2.2 0 (.inl ⟨du_ok hd, rfl⟩)
  have hrE' := Go.Lib.hid (hr.below hbE (Nat.le_refl _))
  unfold Res at hwn
  have hwn' := Go.Lib.hid hwn
  have hx0' := Go.Lib.hid hx0
  have hq0' := Go.Lib.hid hq0
  have hy0' := Go.Lib.hid hy0
  have hp0' := Go.Lib.hid hp0
  have hbE' := Go.Lib.hid hbE
  have hbh := Go.Lib.hid fun w => Dbehind_ok w D v hd hv
  obtain ⟨X, hX⟩ : ∃ X, X = learnD D v := ⟨_, rfl⟩
  rw [← hX] at hbh ⊢
  clear hx0 hq0 hy0 hp0 hbE hr hB hwn hd hX
  go_enter Try.func60, Try.ntmps60
  go_wp2_with (first
    | (go_at_call 55; rw [← hW0]; clear hW0; refine hck.out.mono ?_; rintro e w1 ⟨rfl, hb1⟩; obtain ⟨q0, q1, q2, q3, q4, q5, q6, q7⟩ := (hq0'.out.below hb1 (by omega)).cells; have hb1' := Go.Lib.hid hb1; clear hb1)
    | (go_at_call 48; refine (hcd.out _).mono ?_; rintro e w2 ⟨rfl, hb2⟩; have hb12 := Go.Lib.hid (hb1'.out.trans (hb2.mono hb1'.out.size)); obtain ⟨x0, x1, x2, x3⟩ := (hx0'.out.below hb12.out (by omega)).cells; obtain ⟨r0, r1, r2, r3, r4, r5, r6, r7⟩ := (hq0'.out.below hb12.out (by omega)).cells; clear hb2)
    | (go_at_call 88; refine (hwn'.out _ (hrE'.out.below hb12.out (Nat.le_refl _))).mono ?_; rintro e w3 ⟨b3, cp3, rfl, hr3, hb3⟩; have hb13 := Go.Lib.hid (hb12.out.trans (hb3.mono hb12.out.size)); have hr3' := Go.Lib.hid hr3; clear hb3 hr3))
  have hbA := Go.Lib.hid (hb13.out.alloc hb13.out.size (.cells #[.slice b3 m cp3, .int .i64 t] 45))
  have hrA := Go.Lib.hid (hr3'.out.below (below1 w3 (.cells #[.slice b3 m cp3, .int .i64 t] 45)) (Nat.le_refl _))
  have hzA := Go.Lib.hid (box1 w3 (.slice b3 m cp3) t)
  have hqA := Go.Lib.hid ((hq0'.out.below hb13.out (by omega)).alloc (.cells #[.slice b3 m cp3, .int .i64 t] 45))
  have hyA := Go.Lib.hid ((hy0'.out.below hb13.out (by omega)).alloc (.cells #[.slice b3 m cp3, .int .i64 t] 45))
  have hpA := Go.Lib.hid ((hp0'.out.below hb13.out (by omega)).alloc (.cells #[.slice b3 m cp3, .int .i64 t] 45))
  obtain ⟨x8, hx8⟩ : ∃ x, x = w3.heap.size := ⟨_, rfl⟩
  obtain ⟨w4, hw4⟩ : ∃ w, w = w3.alloc (.cells #[.slice b3 m cp3, .int .i64 t] 45) := ⟨_, rfl⟩
  have h8 : W.heap.size + 1 + 1 + 1 < x8 := by rw [hx8]; have := hb13.out.size; omega
  rw [← hx8, ← hw4] at hzA
  rw [← hw4] at hbA hrA hqA hyA hpA
  try rw [← hw4]
  try rw [← hx8]
  clear x0 x1 x2 x3 r0 r1 r2 r3 r4 r5 r6 r7 q0 q1 q2 q3 q4 q5 q6 q7 hw4 hx8
  have hn8 : W.heap.size + 1 + 1 ≠ x8 := by omega
  have hn9 : W.heap.size + 1 + 1 + 1 ≠ x8 := by omega
  go_wp2
  refine wp_region_ord (fun w' => BoxAt w' x8 (.slice b3 m cp3) t ∧ DuAt w' (W.heap.size + 1) D.k0 D.k1 D.s0 D.s1) [(2, 0), (0, 2), (1, 1), (3, 3), (4, 4), (5, 4), (6, 0)] (by kernel_rfl) (by kernel_rfl) ?hC0 ?_
  case hC0 => exact ⟨hzA.out.drew, hqA.out.drew⟩
  simp only [pick, nth]
  obtain ⟨q0, q1, q2, q3, q4, q5, q6, q7⟩ := hqA.out.drew.cells
  have hC1 := Go.Lib.hid (And.intro hzA.out.drew hqA.out.drew)
  (repeat (first | (apply wpW_light; (case h => (intro wa; (first | (go_big_quiet_skip; exact wpQuiet_nil rfl) | (go_big_quiet_want; go_big_quiet_op; go_big_quiet_on; exact wpQuiet_nil rfl))))) | (apply wpW_here; (case h => (first | (go_big_quiet_skip; exact wpQuiet_nil rfl) | (go_big_quiet_want; go_big_quiet_op; go_big_quiet_on; exact wpQuiet_nil rfl)))) | (apply wpW_held; (case hC => assumption); (case h => (intro wa hCa; (obtain ⟨u0, u1, u2, u3⟩ := hCa.1.cells; obtain ⟨v0, v1, v2, v3, v4, v5, v6, v7⟩ := hCa.2.cells); (first | (go_big_quiet_skip; exact wpQuiet_nil rfl) | (go_big_quiet_want; go_big_quiet_op; go_big_quiet_on; exact wpQuiet_nil rfl)))))))
  clear q0 q1 q2 q3 q4 q5 q6 q7
  refine wpW_act (fun QQ hQQ => ?_) (by rfl)
  go_wp2_with (go_at_call 52; refine (hbh.out _).mono ?_; rintro e w5 ⟨rfl, hb5⟩; have hq5 := Go.Lib.hid (hqA.out.drew.below hb5 hqA.out.drew.lt); have hz5 := Go.Lib.hid (hzA.out.drew.below hb5 hzA.out.drew.lt); have hy5 := Go.Lib.hid (hyA.out.drew.below hb5 hyA.out.drew.lt); have hp5 := Go.Lib.hid (hpA.out.drew.below hb5 hpA.out.drew.lt); have hr5 := Go.Lib.hid ((hrA.out.below (Below.refl _ _).drew (Nat.le_refl _)).below hb5 (Nat.le_refl _)); have hb15 := Go.Lib.hid (hbA.out.drew.trans (hb5.mono hbA.out.drew.size)); clear hb5)
  (refine hQQ _ _ ?hCn ?_; (case hCn => exact ⟨hz5.out, hq5.out⟩); clear hQQ QQ)
  (repeat (first | (apply wpW_light; (case h => (intro wa; (first | (go_big_quiet_skip; exact wpQuiet_nil rfl) | (go_big_quiet_want; go_big_quiet_op; go_big_quiet_on; exact wpQuiet_nil rfl))))) | (apply wpW_here; (case h => (first | (go_big_quiet_skip; exact wpQuiet_nil rfl) | (go_big_quiet_want; go_big_quiet_op; go_big_quiet_on; exact wpQuiet_nil rfl)))) | (apply wpW_held; (case hC => assumption); (case h => (intro wa hCa; simp only [] at hCa; (first | (go_big_quiet_skip; exact wpQuiet_nil rfl) | (go_big_quiet_want; go_big_quiet_op; go_big_quiet_on; exact wpQuiet_nil rfl)))))))
  obtain ⟨y0, y1, y2, y3⟩ := hy5.out.cells
  obtain ⟨p0, p1, p2, p3, p4, p5, p6, p7⟩ := hp5.out.cells
  refine wpW_last (fun QQ hQQ => ?_) (by rfl)
  go_wp2
  (refine hQQ.out _ _ ?_; clear hQQ QQ)
  (repeat (first | (apply wpW_light; (case h => (intro wa; (first | (go_big_quiet_skip; exact wpQuiet_nil rfl) | (go_big_quiet_want; go_big_quiet_op; go_big_quiet_on; exact wpQuiet_nil rfl))))) | (apply wpW_here; (case h => (first | (go_big_quiet_skip; exact wpQuiet_nil rfl) | (go_big_quiet_want; go_big_quiet_op; go_big_quiet_on; exact wpQuiet_nil rfl)))) | (apply wpW_held; (case hC => assumption); (case h => (intro wa hCa; simp only [] at hCa; (first | (go_big_quiet_skip; exact wpQuiet_nil rfl) | (go_big_quiet_want; go_big_quiet_op; go_big_quiet_on; exact wpQuiet_nil rfl)))))))
  refine wpW_last (fun QQ hQQ => ?_) (by rfl)
  go_wp2
  (refine hQQ.out _ _ ?_; clear hQQ QQ)
  (repeat (first | (apply wpW_light; (case h => (intro wa; (first | (go_big_quiet_skip; exact wpQuiet_nil rfl) | (go_big_quiet_want; go_big_quiet_op; go_big_quiet_on; exact wpQuiet_nil rfl))))) | (apply wpW_here; (case h => (first | (go_big_quiet_skip; exact wpQuiet_nil rfl) | (go_big_quiet_want; go_big_quiet_op; go_big_quiet_on; exact wpQuiet_nil rfl)))) | (apply wpW_held; (case hC => assumption); (case h => (intro wa hCa; simp only [] at hCa; (first | (go_big_quiet_skip; exact wpQuiet_nil rfl) | (go_big_quiet_want; go_big_quiet_op; go_big_quiet_on; exact wpQuiet_nil rfl)))))))
  refine wpW_nil ?_
  go_wp2
  (try simp only [Exit.inBlock, Exit.then])
  obtain ⟨o1, o2, o3, o4⟩ := outs hy5.out hp5.out (by omega) b3 m cp3 t X.k0 X.k1 X.s0 X.s1
  refine bodyPost_ret (results_bits_du_tmp (by rfl) _ _ (W.heap.size + 1 + 1) (W.heap.size + 1 + 1 + 1) _ _ _ _ _ _ rfl rfl o1 o2) rfl ?_
  exact ⟨b3, cp3, by simp, o4 hr5.out, o3 (hbE'.out.trans (hb15.out.mono (by omega))) (by omega) (by omega)⟩

theorem numB_two (v k : Nat) : numB (2 * v) (1 + k) = false :: numB v k := by
  rw [Nat.add_comm, numB_succ, show 2 * v / 2 = v by omega, show (2 * v % 2 == 1) = false by rw [Nat.mul_mod_right]; rfl]
theorem two_lt {v k : Nat} (h : v < 2 ^ k) : 2 * v < 2 ^ (1 + k) := by rw [Nat.add_comm, Nat.pow_succ]; omega

theorem DWrite_ok (W : World) (aa : Option Addr) (len cap : Nat) (B : List Bool) (D : Du) (v : Nat) (hr : Row .u8 W aa len cap (pack B)) (hB : B.length + dualLen D v ≤ 330000) (hd : D.ok) (hv : v < 4294967296) :
    ResD 60 #[.agg #[.slice aa len cap, .int .i64 B.length], .agg #[.int .i64 D.k0, .int .i64 D.k1, .int .u64 D.s0, .int .u64 D.s1], .int .u32 v] W ((B.length + dualLen D v + 7) / 8) (pack (B ++ dualB D v)) ((B.length + dualLen D v : Nat) : Int) (learnD D v).k0 (learnD D v).k1 (learnD D v).s0 (learnD D v).s1 0 := by
  refine DWrite_in W aa len cap B D v hr (by omega) hd hv _ _ _ fun w hw => ?_
  by_cases hl : v < 2 ^ D.k0
  · rw [dualLen_low hl] at hB ⊢
    rw [dualB_low hl]
    refine DwriteNumber_low w aa len cap B D v hw hd hv hl _ _ _ _ fun w' hw' => ?_
    have := BPut_ok w' aa len cap B (2 * v) (1 + D.k0) hw' hB (by have := hd.1; omega) (two_lt hl)
    rw [numB_two] at this
    exact this
  · rw [dualLen_high hl] at hB ⊢
    rw [dualB_high hl]
    have hp := riceLen_pos (v - 2 ^ D.k0) D.k1
    refine DwriteNumber_high w aa len cap B D v hw hd hv hl (by omega) _ _ _ _ fun w' b c hw' => ?_
    have e : (B ++ [true]).length = B.length + 1 := by simp
    have := PWrite_ok w' b _ c (B ++ [true]) (v - 2 ^ D.k0) D.k1 hw' (by rw [e]; omega) (Nat.lt_of_le_of_lt (Nat.sub_le _ _) hv) hd.2.1
    rw [e, Nat.add_assoc B.length 1 (riceLen (v - 2 ^ D.k0) D.k1), List.append_assoc, List.singleton_append] at this
    unfold Res
    rw [e]
    exact this
theorem DWrite_over (W : World) (aa : Option Addr) (len cap : Nat) (B : List Bool) (D : Du) (v : Nat) (hr : Row .u8 W aa len cap (pack B)) (hB : B.length ≤ 330000) (hf : 330000 < B.length + dualLen D v) (hd : D.ok) (hv : v < 4294967296) :
    ResD 60 #[.agg #[.slice aa len cap, .int .i64 B.length], .agg #[.int .i64 D.k0, .int .i64 D.k1, .int .u64 D.s0, .int .u64 D.s1], .int .u32 v] W 0 [] 0 0 0 0 0 18 := by
  refine DWrite_full W aa len cap B D v hr hB hd fun w hw => ?_
  by_cases hl : v < 2 ^ D.k0
  · rw [dualLen_low hl] at hf
    exact DwriteNumber_low w aa len cap B D v hw hd hv hl _ _ _ _ fun w' hw' => Res.none (BPut_full w' aa len cap B (2 * v) (1 + D.k0) hw' hB hf (by have := hd.1; omega) (two_lt hl))
  · rw [dualLen_high hl] at hf
    by_cases h1 : 330000 < B.length + 1
    · exact DwriteNumber_full1 w aa len cap B D v hw hd hv hl hB h1
    · have e : (B ++ [true]).length = B.length + 1 := by simp
      exact DwriteNumber_high w aa len cap B D v hw hd hv hl (by omega) _ _ _ _ fun w' b c hw' => Res.none (PWrite_full w' b _ c (B ++ [true]) (v - 2 ^ D.k0) D.k1 hw' (by rw [e]; omega) (by rw [e]; omega) (Nat.lt_of_le_of_lt (Nat.sub_le _ _) hv) hd.2.1)
end Go.Proofs.Ythbjcjphplgobaa

/- Contracts of the package dual: Read. -/
namespace Go.Proofs.Ythbjcjphplgobaa
open Go.RowKit Cad

set_option maxRecDepth 100000 in
set_option maxHeartbeats 1000000 in
/-- the bit of the level is not got -/
theorem DreadNumber_no (W : World) (aa : Option Addr) (len cap : Nat) (N i : Int) (l : List Int) (a b c d er : Int) (her : er = 2 ∨ er = 24) (hr : Row .u8 W aa len cap l)
    (hg : ∀ w, Row .u8 w aa len cap l → Calls Try.prog 98 #[.agg #[.slice aa len cap, .int .i64 N], .int .i64 i, .int .i64 1] w fun e W' => e = .returned (.tuple #[.int .u64 0, .int .i64 er]) ∧ Below w.heap.size w W') :
    Calls Try.prog 83 #[.agg #[.slice aa len cap, .int .i64 N], .int .i64 i, .agg #[.int .i64 a, .int .i64 b, .int .u64 c, .int .u64 d]] W fun e W' => e = .returned (.tuple #[.int .u32 0, .int .i64 0, .int .i64 er]) ∧ Below W.heap.size W W' := by
  obtain ⟨W0, hW0, hbE, hsz0, hx0, hq0⟩ := bd_boxes W (.slice aa len cap) N a b c d
  have hg' := Go.Lib.hid (hg W0 (hr.below hbE (Nat.le_refl _)))
  have hbE' := Go.Lib.hid hbE
  have hne' : (er != 0) = true := by rcases her with rfl | rfl <;> rfl
  clear hx0 hq0 hbE hr hg her
  go_enter Try.func83, Try.ntmps83
  go_wp2_with (go_at_call 98; rw [← hW0]; clear hW0; refine hg'.out.mono ?_; rintro e w1 ⟨rfl, hb1⟩; have hb1' := Go.Lib.hid hb1; clear hb1)
  go_ret3
  exact ⟨rfl, hbE'.out.trans (hb1'.out.mono (by omega))⟩

set_option maxRecDepth 100000 in
set_option maxHeartbeats 4000000 in
theorem DreadNumber_in (W : World) (aa : Option Addr) (len cap : Nat) (B : List Bool) (i : Nat) (D : Du) (hr : Row .u8 W aa len cap (pack B)) (hB : B.length ≤ 330000) (hi : i ≤ B.length) (hd : D.ok) (v p er : Nat) (hv : readD B i D = (v, p, er)) :
    Calls Try.prog 83 #[.agg #[.slice aa len cap, .int .i64 B.length], .int .i64 i, .agg #[.int .i64 D.k0, .int .i64 D.k1, .int .u64 D.s0, .int .u64 D.s1]] W fun e W' => e = .returned (.tuple #[.int .u32 v, .int .i64 p, .int .i64 er]) ∧ Below W.heap.size W W' := by
  have hval : Valid (pack B) B.length := ⟨B, rfl, hB, rfl⟩
  by_cases hend : B.length ≤ i
  · rw [readD_end D hend] at hv
    cases hv
    exact DreadNumber_no W aa len cap B.length i (pack B) D.k0 D.k1 D.s0 D.s1 24 (.inr rfl) hr fun w hw => BGet_short w aa len cap B.length (pack B) i 1 hw (bounds_of_len (by omega)) hval (by omega) (by omega) (by omega)
  have hlt : i < B.length := by omega
  obtain ⟨k24, j24, -, -⟩ := hd
  have hpw := pow24 k24
  obtain ⟨W0, hW0, hbE, hsz0, hx0, hq0⟩ := bd_boxes W (.slice aa len cap) B.length D.k0 D.k1 D.s0 D.s1
  have hrE' := Go.Lib.hid (hr.below hbE (Nat.le_refl _))
  have hg1 := Go.Lib.hid fun w hw => BGet_ok w aa len cap B i 1 hw hB (by decide) (by omega)
  rw [bit_one B i hlt] at hg1
  have hx0' := Go.Lib.hid hx0
  have hq0' := Go.Lib.hid hq0
  have hbE' := Go.Lib.hid hbE
  obtain ⟨j, hj⟩ : ∃ j, j = i + 1 := ⟨_, rfl⟩
  have hjI : (i : Int) + 1 = (j : Int) := by omega
  have hjb : j ≤ 330000 := by omega
  have hib : i ≤ 330000 := by omega
  clear hx0 hq0 hbE
  cases hb : B.getD i false with
  | false =>
    rw [hb] at hg1
    simp only [Bool.toNat_false] at hg1
    by_cases hs : B.length < i + 1 + D.k0
    · rw [readD_short hlt hb hs] at hv
      cases hv
      have hg := Go.Lib.hid fun w hw => BGet_short w aa len cap B.length (pack B) j D.k0 hw (bounds_of_len (by omega)) hval (by omega) (by omega) (by omega)
      clear hr hval hj hs hb hend hlt hB hi hpw
      go_enter Try.func83, Try.ntmps83
      go_wp2_with (first
        | (go_at_call 98; rw [← hW0]; clear hW0; refine (hg1.out _ hrE'.out).mono ?_; rintro e w1 ⟨rfl, hb1⟩; obtain ⟨x0, x1, x2, x3⟩ := (hx0'.out.below hb1 (by omega)).cells; obtain ⟨q0, q1, q2, q3, q4, q5, q6, q7⟩ := (hq0'.out.below hb1 (by omega)).cells; have hb1' := Go.Lib.hid hb1; clear hb1)
        | (go_at_call 98; refine (hg.out _ (hrE'.out.below hb1'.out (Nat.le_refl _))).mono ?_; rintro e w2 ⟨rfl, hb2⟩; have hb12 := Go.Lib.hid (hb1'.out.trans (hb2.mono hb1'.out.size)); clear hb2))
      go_ret3
      exact ⟨rfl, hbE'.out.trans (hb12.out.mono (by omega))⟩
    · rw [readD_low hb (by omega)] at hv
      have hg := Go.Lib.hid fun w hw => BGet_ok w aa len cap B j D.k0 hw hB (by omega) (by omega)
      have hlow : natB (midB B j (j + D.k0)) < 2 ^ D.k0 := by
        have := natB_lt (midB B j (j + D.k0))
        rw [midB_len B (show j ≤ j + D.k0 by omega) (by omega), show j + D.k0 - j = D.k0 by omega] at this
        exact this
      rw [← hj] at hv
      obtain ⟨n, hn⟩ : ∃ n, n = natB (midB B j (j + D.k0)) := ⟨_, rfl⟩
      rw [← hn] at hv hg hlow
      cases hv
      have hn32 : v < 4294967296 := by omega
      obtain ⟨t, ht⟩ : ∃ t, t = j + D.k0 := ⟨_, rfl⟩
      have htI : (j : Int) + (D.k0 : Int) = (t : Int) := by omega
      have htb : t ≤ 330000 := by omega
      rw [← ht]
      clear hr hval hj hs hb hend hlt hB hi hpw hn hlow ht
      go_enter Try.func83, Try.ntmps83
      go_wp2_with (first
        | (go_at_call 98; rw [← hW0]; clear hW0; refine (hg1.out _ hrE'.out).mono ?_; rintro e w1 ⟨rfl, hb1⟩; obtain ⟨x0, x1, x2, x3⟩ := (hx0'.out.below hb1 (by omega)).cells; obtain ⟨q0, q1, q2, q3, q4, q5, q6, q7⟩ := (hq0'.out.below hb1 (by omega)).cells; have hb1' := Go.Lib.hid hb1; clear hb1)
        | (go_at_call 98; refine (hg.out _ (hrE'.out.below hb1'.out (Nat.le_refl _))).mono ?_; rintro e w2 ⟨rfl, hb2⟩; have hb12 := Go.Lib.hid (hb1'.out.trans (hb2.mono hb1'.out.size)); obtain ⟨r0, r1, r2, r3, r4, r5, r6, r7⟩ := (hq0'.out.below hb12.out (by omega)).cells; clear hb2))
      go_quiet (fail)
      go_wp2
      go_ret3
      exact ⟨by go_num, Below.drewN (hbE'.out.trans (hb12.out.mono (by omega))) _⟩
  | true =>
    rw [hb] at hg1
    simp only [Bool.toNat_true] at hg1
    obtain ⟨w, q, e, hrd⟩ : ∃ w q e, readR B (i + 1) D.k1 = (w, q, e) := ⟨_, _, _, rfl⟩
    have hrr := Go.Lib.hid fun w' hw => PRead_in w' aa len cap B (i + 1) D.k1 hw hB (by omega) j24 w q e hrd
    rw [← hj] at hrr
    by_cases he : e = 0
    · subst he
      obtain ⟨hw32, hqe, hqB, -⟩ := rice_is hrd (by omega) j24
      have hqb : q ≤ 330000 := by omega
      obtain ⟨pw, hpwe⟩ : ∃ p, p = 2 ^ D.k0 := ⟨_, rfl⟩
      have e1 : (1 : Int) * 2 ^ D.k0 = (pw : Int) := by rw [hpwe]; simp
      have e2 : (2 : Int) ^ D.k0 = (pw : Int) := by rw [hpwe]; simp
      by_cases hg : 4294967295 < w + 2 ^ D.k0
      · rw [readD_great hlt hb hrd hg] at hv
        cases hv
        rw [← hpwe] at hg hpw
        have hgI : (4294967295 : Int) - (pw : Int) < (w : Int) := by omega
        clear hr hval hj hb hend hlt hB hi hrd hqe hqB hpwe
        go_enter Try.func83, Try.ntmps83
        go_wp2_with (first
          | (go_at_call 98; rw [← hW0]; clear hW0; refine (hg1.out _ hrE'.out).mono ?_; rintro e w1 ⟨rfl, hb1⟩; obtain ⟨x0, x1, x2, x3⟩ := (hx0'.out.below hb1 (by omega)).cells; obtain ⟨q0, q1, q2, q3, q4, q5, q6, q7⟩ := (hq0'.out.below hb1 (by omega)).cells; have hb1' := Go.Lib.hid hb1; clear hb1)
          | (go_at_call 99; refine (hrr.out _ (hrE'.out.below hb1'.out (Nat.le_refl _))).mono ?_; rintro e w2 ⟨rfl, hb2⟩; have hb12 := Go.Lib.hid (hb1'.out.trans (hb2.mono hb1'.out.size)); obtain ⟨r0, r1, r2, r3, r4, r5, r6, r7⟩ := (hq0'.out.below hb12.out (by omega)).cells; clear hb2))
        go_ret3
        exact ⟨rfl, hbE'.out.trans (hb12.out.mono (by omega))⟩
      · rw [readD_high hlt hb hrd (by omega)] at hv
        cases hv
        rw [← hpwe] at hg hpw ⊢
        have hgI : ¬ (4294967295 : Int) - (pw : Int) < (w : Int) := by omega
        clear hr hval hj hb hend hlt hB hi hrd hqe hqB hpwe
        go_enter Try.func83, Try.ntmps83
        go_wp2_with (first
          | (go_at_call 98; rw [← hW0]; clear hW0; refine (hg1.out _ hrE'.out).mono ?_; rintro e w1 ⟨rfl, hb1⟩; obtain ⟨x0, x1, x2, x3⟩ := (hx0'.out.below hb1 (by omega)).cells; obtain ⟨q0, q1, q2, q3, q4, q5, q6, q7⟩ := (hq0'.out.below hb1 (by omega)).cells; have hb1' := Go.Lib.hid hb1; clear hb1)
          | (go_at_call 99; refine (hrr.out _ (hrE'.out.below hb1'.out (Nat.le_refl _))).mono ?_; rintro e w2 ⟨rfl, hb2⟩; have hb12 := Go.Lib.hid (hb1'.out.trans (hb2.mono hb1'.out.size)); obtain ⟨r0, r1, r2, r3, r4, r5, r6, r7⟩ := (hq0'.out.below hb12.out (by omega)).cells; clear hb2))
        go_ret3
        exact ⟨by go_num, hbE'.out.trans (hb12.out.mono (by omega))⟩
    · rw [readD_no hlt hb hrd he] at hv
      cases hv
      obtain ⟨rfl, rfl, -⟩ := rice_no hrd he (by omega)
      have he' : ((er : Int) != 0) = true := by simpa using he
      have he2 : ¬ (er : Int) = 0 := by omega
      clear hr hval hj hb hend hlt hB hi hrd hpw
      go_enter Try.func83, Try.ntmps83
      go_wp2_with (first
        | (go_at_call 98; rw [← hW0]; clear hW0; refine (hg1.out _ hrE'.out).mono ?_; rintro e w1 ⟨rfl, hb1⟩; obtain ⟨x0, x1, x2, x3⟩ := (hx0'.out.below hb1 (by omega)).cells; obtain ⟨q0, q1, q2, q3, q4, q5, q6, q7⟩ := (hq0'.out.below hb1 (by omega)).cells; have hb1' := Go.Lib.hid hb1; clear hb1)
        | (go_at_call 99; refine (hrr.out _ (hrE'.out.below hb1'.out (Nat.le_refl _))).mono ?_; rintro e w2 ⟨rfl, hb2⟩; have hb12 := Go.Lib.hid (hb1'.out.trans (hb2.mono hb1'.out.size)); clear hb2))
      go_ret3
      exact ⟨rfl, hbE'.out.trans (hb12.out.mono (by omega))⟩

/-- a call that hands back a number, an index, a state and an error -/
def ResR (f : FuncId) (args : Array Value) (W : World) (v p a b c d e : Int) : Prop :=
  Calls Try.prog f args W fun r W' => r = .returned (.tuple #[.int .u32 v, .int .i64 p, .agg #[.int .i64 a, .int .i64 b, .int .u64 c, .int .u64 d], .int .i64 e]) ∧ Below W.heap.size W W'
theorem outp {w : World} {p : Nat} {a b c d : Int} {B : Nat} {W : World} (h : Below B W w) (hp : B ≤ p) : Below B W ((((w.setCell ⟨p, 0, none⟩ (.int .i64 a)).setCell ⟨p, 1, none⟩ (.int .i64 b)).setCell ⟨p, 2, none⟩ (.int .u64 c)).setCell ⟨p, 3, none⟩ (.int .u64 d)) :=
  (((h.setCell hp _).setCell hp _).setCell hp _).setCell hp _

set_option maxRecDepth 100000 in
set_option maxHeartbeats 1000000 in
theorem DRead_bad (W : World) (aa : Option Addr) (len cap : Nat) (N i : Int) (l : List Int) (a b c d : Int) (hr : Row .u8 W aa len cap l) (hN : (Lit.int .i64 N).wf = true) (hv : ¬ Valid l N) :
    ResR 56 #[.agg #[.slice aa len cap, .int .i64 N], .int .i64 i, .agg #[.int .i64 a, .int .i64 b, .int .u64 c, .int .u64 d]] W 0 0 0 0 0 0 8 := by
  have hck := Go.Lib.hid fun w hw => BCheck_any w aa len cap N l hw hN 8 (.inr ⟨hv, rfl⟩)
  unfold ResR
  obtain ⟨W0, hW0, hbE, hsz0, hx0, hq0, hp0⟩ := bdd_boxes W (.slice aa len cap) N a b c d
  have hrE' := Go.Lib.hid (hr.below hbE (Nat.le_refl _))
  have hx0' := Go.Lib.hid hx0
  have hq0' := Go.Lib.hid hq0
  have hp0' := Go.Lib.hid hp0
  have hbE' := Go.Lib.hid hbE
  clear hx0 hq0 hp0 hbE
  clear hr hN hv
  go_enter Try.func56, Try.ntmps56
  go_wp2_with (go_at_call 55; rw [← hW0]; clear hW0; refine (hck.out _ hrE'.out).mono ?_; rintro e w1 ⟨rfl, hb1⟩; obtain ⟨q0, q1, q2, q3, q4, q5, q6, q7⟩ := (hq0'.out.below hb1 (by omega)).cells; obtain ⟨p0, p1, p2, p3, p4, p5, p6, p7⟩ := (hp0'.out.below hb1 (by omega)).cells; have hb1' := Go.Lib.hid hb1; clear hb1)
  (try simp only [Exit.inBlock, Exit.then])
  refine bodyPost_ret (results_two_du_tmp (by rfl) _ _ (W.heap.size + 1 + 1) _ _ _ _ rfl ((hp0'.out.below hb1'.out (by omega)).set 0 0 0 0)) rfl ?_
  exact ⟨rfl, outp (hbE'.out.trans (hb1'.out.mono (by omega))) (by omega)⟩

set_option maxRecDepth 100000 in
set_option maxHeartbeats 1000000 in
theorem DRead_state (W : World) (aa : Option Addr) (len cap : Nat) (N i : Int) (l : List Int) (a b c d : Int) (hr : Row .u8 W aa len cap l) (hN : (Lit.int .i64 N).wf = true) (hv : Valid l N)
    (ha : (Lit.int .i64 a).wf = true) (hb : (Lit.int .i64 b).wf = true) (hc : (Lit.int .u64 c).wf = true) (hd : (Lit.int .u64 d).wf = true) (hn : ¬ DuOk a b c d) :
    ResR 56 #[.agg #[.slice aa len cap, .int .i64 N], .int .i64 i, .agg #[.int .i64 a, .int .i64 b, .int .u64 c, .int .u64 d]] W 0 0 0 0 0 0 8 := by
  have hck := Go.Lib.hid fun w hw => BCheck_any w aa len cap N l hw hN 0 (.inl ⟨hv, rfl⟩)
  have hcd := Go.Lib.hid fun w => DCheck_any w a b c d ha hb hc hd 8 (.inr ⟨hn, rfl⟩)
  unfold ResR
  obtain ⟨W0, hW0, hbE, hsz0, hx0, hq0, hp0⟩ := bdd_boxes W (.slice aa len cap) N a b c d
  have hrE' := Go.Lib.hid (hr.below hbE (Nat.le_refl _))
  have hx0' := Go.Lib.hid hx0
  have hq0' := Go.Lib.hid hq0
  have hp0' := Go.Lib.hid hp0
  have hbE' := Go.Lib.hid hbE
  clear hx0 hq0 hp0 hbE
  clear hr hN hv ha hb hc hd hn
  go_enter Try.func56, Try.ntmps56
  go_wp2_with (first
    | (go_at_call 55; rw [← hW0]; clear hW0; refine (hck.out _ hrE'.out).mono ?_; rintro e w1 ⟨rfl, hb1⟩; obtain ⟨q0, q1, q2, q3, q4, q5, q6, q7⟩ := (hq0'.out.below hb1 (by omega)).cells; obtain ⟨p0, p1, p2, p3, p4, p5, p6, p7⟩ := (hp0'.out.below hb1 (by omega)).cells; have hb1' := Go.Lib.hid hb1; clear hb1)
    | (go_at_call 48; refine (hcd.out _).mono ?_; rintro e w2 ⟨rfl, hb2⟩; have hb12 := Go.Lib.hid (hb1'.out.trans (hb2.mono hb1'.out.size)); obtain ⟨x0, x1, x2, x3⟩ := (hx0'.out.below hb12.out (by omega)).cells; obtain ⟨s0, s1, s2, s3, s4, s5, s6, s7⟩ := (hq0'.out.below hb12.out (by omega)).cells; obtain ⟨z0, z1, z2, z3, z4, z5, z6, z7⟩ := (hp0'.out.below hb12.out (by omega)).cells; clear hb2))
  (try simp only [Exit.inBlock, Exit.then])
  refine bodyPost_ret (results_two_du_tmp (by rfl) _ _ (W.heap.size + 1 + 1) _ _ _ _ rfl ((hp0'.out.below hb12.out (by omega)).set 0 0 0 0)) rfl ?_
  exact ⟨rfl, outp (hbE'.out.trans (hb12.out.mono (by omega))) (by omega)⟩

set_option maxRecDepth 100000 in
set_option maxHeartbeats 1000000 in
/-- the number is not read -/
theorem DRead_no (W : World) (aa : Option Addr) (len cap : Nat) (N i : Int) (l : List Int) (D : Du) (er : Int) (her : er = 2 ∨ er = 24 ∨ er = 12) (hr : Row .u8 W aa len cap l) (hN : (Lit.int .i64 N).wf = true) (hv : Valid l N) (hd : D.ok)
    (hrn : ∀ w, Row .u8 w aa len cap l → Calls Try.prog 83 #[.agg #[.slice aa len cap, .int .i64 N], .int .i64 i, .agg #[.int .i64 D.k0, .int .i64 D.k1, .int .u64 D.s0, .int .u64 D.s1]] w fun e W' => e = .returned (.tuple #[.int .u32 0, .int .i64 0, .int .i64 er]) ∧ Below w.heap.size w W') :
    ResR 56 #[.agg #[.slice aa len cap, .int .i64 N], .int .i64 i, .agg #[.int .i64 D.k0, .int .i64 D.k1, .int .u64 D.s0, .int .u64 D.s1]] W 0 0 0 0 0 0 er := by
  have hck := Go.Lib.hid fun w hw => BCheck_any w aa len cap N l hw hN 0 (.inl ⟨hv, rfl⟩)
  have hcd := Go.Lib.hid fun w => DCheck_any w D.k0 D.k1 D.s0 D.s1 (du_wf hd).1 (du_wf hd).2.1 (du_wf hd).2.2.1 (du_wf hd).2.2.2 0 (.inl ⟨du_ok hd, rfl⟩)
  have hrn' := Go.Lib.hid hrn
  have hne' : (er != 0) = true := by rcases her with rfl | rfl | rfl <;> rfl
  unfold ResR
  obtain ⟨W0, hW0, hbE, hsz0, hx0, hq0, hp0⟩ := bdd_boxes W (.slice aa len cap) N D.k0 D.k1 D.s0 D.s1
  have hrE' := Go.Lib.hid (hr.below hbE (Nat.le_refl _))
  have hx0' := Go.Lib.hid hx0
  have hq0' := Go.Lib.hid hq0
  have hp0' := Go.Lib.hid hp0
  have hbE' := Go.Lib.hid hbE
  clear hx0 hq0 hp0 hbE
  clear hr hN hv hrn her hd
  go_enter Try.func56, Try.ntmps56
  go_wp2_with (first
    | (go_at_call 55; rw [← hW0]; clear hW0; refine (hck.out _ hrE'.out).mono ?_; rintro e w1 ⟨rfl, hb1⟩; obtain ⟨q0, q1, q2, q3, q4, q5, q6, q7⟩ := (hq0'.out.below hb1 (by omega)).cells; obtain ⟨p0, p1, p2, p3, p4, p5, p6, p7⟩ := (hp0'.out.below hb1 (by omega)).cells; have hb1' := Go.Lib.hid hb1; clear hb1)
    | (go_at_call 48; refine (hcd.out _).mono ?_; rintro e w2 ⟨rfl, hb2⟩; have hb12 := Go.Lib.hid (hb1'.out.trans (hb2.mono hb1'.out.size)); obtain ⟨x0, x1, x2, x3⟩ := (hx0'.out.below hb12.out (by omega)).cells; obtain ⟨s0, s1, s2, s3, s4, s5, s6, s7⟩ := (hq0'.out.below hb12.out (by omega)).cells; obtain ⟨z0, z1, z2, z3, z4, z5, z6, z7⟩ := (hp0'.out.below hb12.out (by omega)).cells; clear hb2)
    | (go_at_call 83; refine (hrn'.out _ (hrE'.out.below hb12.out (Nat.le_refl _))).mono ?_; rintro e w3 ⟨rfl, hb3⟩; have hb13 := Go.Lib.hid (hb12.out.trans (hb3.mono hb12.out.size)); obtain ⟨t0, t1, t2, t3, t4, t5, t6, t7⟩ := (hq0'.out.below hb13.out (by omega)).cells; obtain ⟨y0, y1, y2, y3, y4, y5, y6, y7⟩ := (hp0'.out.below hb13.out (by omega)).cells; clear hb3))
  (try simp only [Exit.inBlock, Exit.then])
  refine bodyPost_ret (results_two_du_tmp (by rfl) _ _ (W.heap.size + 1 + 1) _ _ _ _ rfl ((hp0'.out.below hb13.out (by omega)).set 0 0 0 0)) rfl ?_
  exact ⟨rfl, outp (hbE'.out.trans (hb13.out.mono (by omega))) (by omega)⟩

set_option maxRecDepth 100000 in
set_option maxHeartbeats 1000000 in
theorem DRead_got (W : World) (aa : Option Addr) (len cap : Nat) (N i : Int) (l : List Int) (D : Du) (v p : Nat) (hr : Row .u8 W aa len cap l) (hN : (Lit.int .i64 N).wf = true) (hv : Valid l N) (hd : D.ok) (hv32 : v < 4294967296)
    (hrn : ∀ w, Row .u8 w aa len cap l → Calls Try.prog 83 #[.agg #[.slice aa len cap, .int .i64 N], .int .i64 i, .agg #[.int .i64 D.k0, .int .i64 D.k1, .int .u64 D.s0, .int .u64 D.s1]] w fun e W' => e = .returned (.tuple #[.int .u32 v, .int .i64 p, .int .i64 0]) ∧ Below w.heap.size w W') :
    ResR 56 #[.agg #[.slice aa len cap, .int .i64 N], .int .i64 i, .agg #[.int .i64 D.k0, .int .i64 D.k1, .int .u64 D.s0, .int .u64 D.s1]] W v p (learnD D v).k0 (learnD D v).k1 (learnD D v).s0 (learnD D v).s1 0 := by
  have hck := Go.Lib.hid fun w hw => BCheck_any w aa len cap N l hw hN 0 (.inl ⟨hv, rfl⟩)
  have hcd := Go.Lib.hid fun w => DCheck_any w D.k0 D.k1 D.s0 D.s1 (du_wf hd).1 (du_wf hd).2.1 (du_wf hd).2.2.1 (du_wf hd).2.2.2 0 (.inl ⟨du_ok hd, rfl⟩)
  have hrn' := Go.Lib.hid hrn
  have hbh := Go.Lib.hid fun w => Dbehind_ok w D v hd hv32
  obtain ⟨X, hX⟩ : ∃ X, X = learnD D v := ⟨_, rfl⟩
  rw [← hX] at hbh ⊢
  unfold ResR
  obtain ⟨W0, hW0, hbE, hsz0, hx0, hq0, hp0⟩ := bdd_boxes W (.slice aa len cap) N D.k0 D.k1 D.s0 D.s1
  have hrE' := Go.Lib.hid (hr.below hbE (Nat.le_refl _))
  have hx0' := Go.Lib.hid hx0
  have hq0' := Go.Lib.hid hq0
  have hp0' := Go.Lib.hid hp0
  have hbE' := Go.Lib.hid hbE
  clear hx0 hq0 hp0 hbE
  clear hr hN hv hrn hd hX
  go_enter Try.func56, Try.ntmps56
  go_wp2_with (first
    | (go_at_call 55; rw [← hW0]; clear hW0; refine (hck.out _ hrE'.out).mono ?_; rintro e w1 ⟨rfl, hb1⟩; obtain ⟨q0, q1, q2, q3, q4, q5, q6, q7⟩ := (hq0'.out.below hb1 (by omega)).cells; obtain ⟨p0, p1, p2, p3, p4, p5, p6, p7⟩ := (hp0'.out.below hb1 (by omega)).cells; have hb1' := Go.Lib.hid hb1; clear hb1)
    | (go_at_call 48; refine (hcd.out _).mono ?_; rintro e w2 ⟨rfl, hb2⟩; have hb12 := Go.Lib.hid (hb1'.out.trans (hb2.mono hb1'.out.size)); obtain ⟨x0, x1, x2, x3⟩ := (hx0'.out.below hb12.out (by omega)).cells; obtain ⟨s0, s1, s2, s3, s4, s5, s6, s7⟩ := (hq0'.out.below hb12.out (by omega)).cells; obtain ⟨z0, z1, z2, z3, z4, z5, z6, z7⟩ := (hp0'.out.below hb12.out (by omega)).cells; clear hb2)
    | (go_at_call 83; refine (hrn'.out _ (hrE'.out.below hb12.out (Nat.le_refl _))).mono ?_; rintro e w3 ⟨rfl, hb3⟩; have hb13 := Go.Lib.hid (hb12.out.trans (hb3.mono hb12.out.size)); obtain ⟨t0, t1, t2, t3, t4, t5, t6, t7⟩ := (hq0'.out.below hb13.out (by omega)).cells; obtain ⟨y0, y1, y2, y3, y4, y5, y6, y7⟩ := (hp0'.out.below hb13.out (by omega)).cells; clear hb3)
    | (go_at_call 52; refine (hbh.out _).mono ?_; rintro e w4 ⟨rfl, hb4⟩; have hb14 := Go.Lib.hid (hb13.out.trans (hb4.mono hb13.out.size)); obtain ⟨g0, g1, g2, g3, g4, g5, g6, g7⟩ := (hp0'.out.below hb14.out (by omega)).cells; clear hb4))
  (try simp only [Exit.inBlock, Exit.then])
  refine bodyPost_ret (results_two_du_tmp (by rfl) _ _ (W.heap.size + 1 + 1) _ _ _ _ rfl ((hp0'.out.below hb14.out (by omega)).set X.k0 X.k1 X.s0 X.s1)) rfl ?_
  exact ⟨rfl, outp (hbE'.out.trans (hb14.out.mono (by omega))) (by omega)⟩

theorem DRead_ok (W : World) (aa : Option Addr) (len cap : Nat) (B : List Bool) (i : Nat) (D : Du) (hr : Row .u8 W aa len cap (pack B)) (hB : B.length ≤ 330000) (hi : i ≤ B.length) (hd : D.ok) (v p : Nat) (hv : readD B i D = (v, p, 0)) :
    ResR 56 #[.agg #[.slice aa len cap, .int .i64 B.length], .int .i64 i, .agg #[.int .i64 D.k0, .int .i64 D.k1, .int .u64 D.s0, .int .u64 D.s1]] W v p (learnD D v).k0 (learnD D v).k1 (learnD D v).s0 (learnD D v).s1 0 :=
  DRead_got W aa len cap B.length i (pack B) D v p hr (bounds_of_len (by omega)) ⟨B, rfl, hB, rfl⟩ hd (dual_is hv hi hd.1 hd.2.1).1 fun w hw => DreadNumber_in w aa len cap B i D hw hB hi hd v p 0 hv
theorem DRead_er (W : World) (aa : Option Addr) (len cap : Nat) (B : List Bool) (i : Nat) (D : Du) (hr : Row .u8 W aa len cap (pack B)) (hB : B.length ≤ 330000) (hi : i ≤ B.length) (hd : D.ok) (v p er : Nat) (he : er ≠ 0) (hv : readD B i D = (v, p, er)) :
    ResR 56 #[.agg #[.slice aa len cap, .int .i64 B.length], .int .i64 i, .agg #[.int .i64 D.k0, .int .i64 D.k1, .int .u64 D.s0, .int .u64 D.s1]] W 0 0 0 0 0 0 er := by
  obtain ⟨rfl, rfl, h3⟩ := dual_no hv he hd.1 hd.2.1
  exact DRead_no W aa len cap B.length i (pack B) D er (by omega) hr (bounds_of_len (by omega)) ⟨B, rfl, hB, rfl⟩ hd fun w hw => DreadNumber_in w aa len cap B i D hw hB hi hd 0 0 er hv
theorem DRead_out (W : World) (aa : Option Addr) (len cap : Nat) (N i : Int) (l : List Int) (D : Du) (er : Int) (hr : Row .u8 W aa len cap l) (hN : (Lit.int .i64 N).wf = true) (_hi : (Lit.int .i64 i).wf = true) (hv : Valid l N) (hd : D.ok) (h : (i < 0 ∧ er = 2) ∨ (¬ i < 0 ∧ N ≤ i ∧ er = 24)) :
    ResR 56 #[.agg #[.slice aa len cap, .int .i64 N], .int .i64 i, .agg #[.int .i64 D.k0, .int .i64 D.k1, .int .u64 D.s0, .int .u64 D.s1]] W 0 0 0 0 0 0 er :=
  DRead_no W aa len cap N i l D er (by omega) hr hN hv hd fun w hw => DreadNumber_no w aa len cap N i l D.k0 D.k1 D.s0 D.s1 er (by omega) hw fun w' hw' => by
    rcases h with ⟨h, rfl⟩ | ⟨h, h', rfl⟩
    · exact BGet_arg w' aa len cap N l i 1 hw' hN hv (by omega) h
    · exact BGet_short w' aa len cap N l i 1 hw' hN hv (by omega) h (by omega)
end Go.Proofs.Ythbjcjphplgobaa

/- Contracts of the reference of dual: learning, Length. -/
namespace Go.Proofs.Ythbjcjphplgobaa
open Go.RowKit Cad

theorem RdPower_ok (W : World) (k : Nat) (hk : k ≤ 29) :
    Calls Try.prog 91 #[.int .i64 k] W fun e W' => e = .returned (.int .u64 (2 ^ k : Nat)) ∧ W = W' := by
  go_enter Try.func91, Try.ntmps91
  go_wp2
  go_loopw [3, 4] (fun n i wr => ∃ j : Nat, j ≤ k ∧ i = .int .i64 j ∧ n = .int .u64 (2 ^ j : Nat) ∧ wr = W) (fun _ i _ => k - (intOf i).toNat)
  case atStart => exact ⟨0, by omega, rfl, rfl, rfl⟩
  case round =>
    obtain ⟨j, hj, rfl, rfl, rfl⟩ := hrel
    obtain ⟨x, hx⟩ : ∃ x, x = 2 ^ j := ⟨_, rfl⟩
    by_cases hlt : j < k
    · have hb := (pow28 (show j ≤ 29 by omega)).2
      have hs : 2 ^ (j + 1) = x * 2 := by rw [hx, Nat.pow_succ]
      rw [← hx] at hb ⊢
      clear hx
      go_wp2
      go_roundw
      case rel => exact ⟨j + 1, by omega, by go_num, by rw [hs]; go_num, trivial⟩
      case measure => (simp [intOf] <;> omega)
    · obtain rfl : j = k := by omega
      have hx' := Go.Lib.hid hx
      rw [← hx]
      clear hx
      go_wp2
      go_ret
      exact ⟨by rw [← hx'.out]; rfl, rfl⟩

theorem Rstart_ok (W : World) :
    Calls Try.prog 67 #[] W fun e W' => e = .returned (.agg #[.int .i64 10, .int .i64 10, .int .u64 16384, .int .u64 16384]) ∧ Below W.heap.size W W' := by
  obtain ⟨x0, x1, x2, x3, x4, x5, x6, x7⟩ := (duat1 W 0 0 0 0).cells
  go_enter Try.func67, Try.ntmps67
  go_wp2
  (try simp only [Exit.inBlock, Exit.then])
  refine bodyPost_ret (results_du (by rfl) _ _ W.heap.size _ _ _ _ rfl (duat1 W _ _ _ _)) rfl ?_
  exact ⟨rfl, below1 W _⟩

theorem par_any (k : Int) (hk : (Lit.int .i64 k).wf = true) : ∃ q : Bool, (q = decide (0 ≤ k ∧ k ≤ 24)) ∧ ∀ w, Calls Try.prog 47 #[.int .i64 k] w fun e W' => e = .returned (.bool q) ∧ w = W' := by
  by_cases h : k < 0 ∨ 24 < k
  · exact ⟨false, by rw [decide_eq_false (by omega)], fun w => RrParameter_no w k hk h⟩
  · obtain ⟨m, rfl⟩ : ∃ m : Nat, k = m := ⟨k.toNat, by omega⟩
    exact ⟨true, by rw [decide_eq_true (by omega)], fun w => RrParameter_ok w m (by omega)⟩

set_option maxRecDepth 100000 in
set_option maxHeartbeats 4000000 in
theorem RdCheck_any (W : World) (a b c d : Int) (ha : (Lit.int .i64 a).wf = true) (hb : (Lit.int .i64 b).wf = true) (hc : (Lit.int .u64 c).wf = true) (hd : (Lit.int .u64 d).wf = true) (r : Int) (hr : chkD a b c d r) :
    Calls Try.prog 27 #[.agg #[.int .i64 a, .int .i64 b, .int .u64 c, .int .u64 d]] W fun e W' => e = .returned (.int .i64 r) ∧ Below W.heap.size W W' := by
  obtain ⟨p, hp, hpc⟩ := par_any a ha
  obtain ⟨q, hq, hqc⟩ := par_any b hb
  have hpc' := Go.Lib.hid hpc
  have hqc' := Go.Lib.hid hqc
  have hx := Go.Lib.hid (duat1 W a b c d)
  have bc := bounds_u64 hc
  have bd := bounds_u64 hd
  obtain ⟨x0, x1, x2, x3, x4, x5, x6, x7⟩ := hx.out.cells
  have key : (p = false ∧ r = 8) ∨ (p = true ∧ q = false ∧ r = 8) ∨ (p = true ∧ q = true ∧ 68719476735 < c ∧ r = 8) ∨ (p = true ∧ q = true ∧ ¬ 68719476735 < c ∧ 68719476735 < d ∧ r = 8) ∨ (p = true ∧ q = true ∧ ¬ 68719476735 < c ∧ ¬ 68719476735 < d ∧ r = 0) := by
    rw [hp, hq]
    unfold chkD DuOk at hr
    by_cases h1 : 0 ≤ a ∧ a ≤ 24 <;> by_cases h2 : 0 ≤ b ∧ b ≤ 24 <;> simp only [h1, h2, decide_true, decide_false, and_self, true_and, false_and, or_false, false_or, Bool.false_eq_true, Bool.true_eq_false] <;> omega
  clear hr ha hb hc hd hp hq hpc hqc
  rcases key with ⟨rfl, rfl⟩ | ⟨rfl, rfl, rfl⟩ | ⟨rfl, rfl, h1, rfl⟩ | ⟨rfl, rfl, h1, h2, rfl⟩ | ⟨rfl, rfl, h1, h2, rfl⟩
  all_goals
    go_enter Try.func27, Try.ntmps27
    go_wp2_with (first
      | (go_at_call 47; with_reducible refine (hpc'.out _).mono ?_; rintro e w1 ⟨rfl, rfl⟩)
      | (go_at_call 47; with_reducible refine (hqc'.out _).mono ?_; rintro e w1 ⟨rfl, rfl⟩))
    go_ret
    exact ⟨rfl, below1 W _⟩

set_option maxHeartbeats 2000000 in
theorem Rpair_ok (W : World) (k s v : Nat) (hk : k ≤ 24) (hs : s ≤ 68719476735) (hv : v < 4294967296) :
    Calls Try.prog 94 #[.int .i64 k, .int .u64 s, .int .u64 v] W fun e W' => e = .returned (.tuple #[.int .i64 (pairK k (sumN s v) : Nat), .int .u64 (sumN s v : Nat)]) ∧ W = W' := by
  have hn := sumN_le hs hv
  obtain ⟨n, hne⟩ : ∃ n, n = sumN s v := ⟨_, rfl⟩
  have hni : (s : Int) + v - s / 16 = n := by rw [hne]; unfold sumN; omega
  rw [← hne] at hn ⊢
  have hp4 := pow28 (show k + 4 ≤ 29 by omega)
  have hp5 := pow28 (show k + 5 ≤ 29 by omega)
  have q4 := Go.Lib.hid fun w => RdPower_ok w (k + 4) (by omega)
  have q5 := Go.Lib.hid fun w => RdPower_ok w (k + 5) (by omega)
  obtain ⟨p4, h4⟩ : ∃ p, p = 2 ^ (k + 4) := ⟨_, rfl⟩
  obtain ⟨p5, h5⟩ : ∃ p, p = 2 ^ (k + 5) := ⟨_, rfl⟩
  have hpk : pairK k n = if 0 < k ∧ n < p4 then k - 1 else if k < 24 ∧ p5 < n then k + 1 else k := by rw [h4, h5]; rfl
  rw [← h4] at hp4 q4
  rw [← h5] at hp5 q5
  obtain ⟨k4, hk4⟩ : ∃ p, p = k + 4 := ⟨_, rfl⟩
  obtain ⟨k5, hk5⟩ : ∃ p, p = k + 5 := ⟨_, rfl⟩
  rw [← hk4] at q4
  rw [← hk5] at q5
  have i4 : (k : Int) + 4 = (k4 : Int) := by omega
  have i5 : (k : Int) + 5 = (k5 : Int) := by omega
  obtain ⟨r, hr⟩ : ∃ r, r = pairK k n := ⟨_, rfl⟩
  rw [← hr] at hpk ⊢
  have key : (0 < k ∧ n < p4 ∧ r + 1 = k) ∨ (¬ 0 < k ∧ k < 24 ∧ p5 < n ∧ r = k + 1) ∨ (0 < k ∧ ¬ n < p4 ∧ k < 24 ∧ p5 < n ∧ r = k + 1) ∨ (¬ 0 < k ∧ k < 24 ∧ ¬ p5 < n ∧ r = k) ∨ (0 < k ∧ ¬ n < p4 ∧ k < 24 ∧ ¬ p5 < n ∧ r = k) ∨ (0 < k ∧ ¬ n < p4 ∧ ¬ k < 24 ∧ r = k) := by
    rw [hpk]
    by_cases a1 : 0 < k <;> by_cases a2 : n < p4 <;> by_cases a3 : k < 24 <;> by_cases a4 : p5 < n <;> simp [a1, a2, a3, a4] <;> omega
  clear hne hr hpk h4 h5 hk4 hk5
  rcases key with ⟨a1, a2, a3⟩ | ⟨a1, a2, a3, a4⟩ | ⟨a1, a2, a3, a4, a5⟩ | ⟨a1, a2, a3, a4⟩ | ⟨a1, a2, a3, a4, a5⟩ | ⟨a1, a2, a3, a4⟩
  all_goals
    go_enter Try.func94, Try.ntmps94
    go_wp2_with (first
      | (go_at_call 91; with_reducible refine (q4.out _).mono ?_; rintro e w9 ⟨rfl, rfl⟩)
      | (go_at_call 91; with_reducible refine (q5.out _).mono ?_; rintro e w9 ⟨rfl, rfl⟩))
    go_ret2
    exact ⟨by go_num, rfl⟩

theorem RLow_ok (W : World) (k : Nat) (b c d : Int) (v : Nat) (hk : k ≤ 24) (_hv : v < 4294967296) (bb : Bool) (hb : decide (v < 2 ^ k) = bb) :
    Calls Try.prog 62 #[.agg #[.int .i64 k, .int .i64 b, .int .u64 c, .int .u64 d], .int .u32 v] W fun e W' => e = .returned (.bool bb) ∧ Below W.heap.size W W' := by
  have hx := Go.Lib.hid (duat1 W k b c d)
  obtain ⟨x0, x1, x2, x3, x4, x5, x6, x7⟩ := hx.out.cells
  have hpw := Go.Lib.hid fun w => RrPower_ok w k hk
  have hp := pow24 hk
  obtain ⟨p, hpe⟩ : ∃ p, p = 2 ^ k := ⟨_, rfl⟩
  rw [← hpe] at hp hb hpw
  have d1 : decide ((v : Int) < (p : Int)) = bb := by rw [← hb]; simp
  clear hpe
  go_enter Try.func62, Try.ntmps62
  go_wp2_with (go_at_call 91; refine (hpw.out _).mono ?_; rintro e w9 ⟨rfl, rfl⟩)
  go_ret
  exact ⟨by first | rfl | (rw [← d1]; rfl) | simp, below1 W _⟩
theorem RLeft_ok (W : World) (k : Nat) (b c d : Int) (v : Nat) (hk : k ≤ 24) (hv : v < 4294967296) (h : ¬ v < 2 ^ k) :
    Calls Try.prog 64 #[.agg #[.int .i64 k, .int .i64 b, .int .u64 c, .int .u64 d], .int .u32 v] W fun e W' => e = .returned (.int .u32 (v - 2 ^ k : Nat)) ∧ Below W.heap.size W W' := by
  have hx := Go.Lib.hid (duat1 W k b c d)
  obtain ⟨x0, x1, x2, x3, x4, x5, x6, x7⟩ := hx.out.cells
  have hpw := Go.Lib.hid fun w => RrPower_ok w k hk
  have hp := pow24 hk
  obtain ⟨p, hpe⟩ : ∃ p, p = 2 ^ k := ⟨_, rfl⟩
  rw [← hpe] at hp h hpw ⊢
  clear hpe
  go_enter Try.func64, Try.ntmps64
  go_wp2_with (go_at_call 91; refine (hpw.out _).mono ?_; rintro e w9 ⟨rfl, rfl⟩)
  go_ret
  exact ⟨by go_num, below1 W _⟩
end Go.Proofs.Ythbjcjphplgobaa

/- Contracts of the reference of dual: Learnt, Learn, Length. -/
namespace Go.Proofs.Ythbjcjphplgobaa
open Go.RowKit Cad

/-- a state, one that goes out, and a copy -/
theorem ddd_boxes (W : World) (a b c d : Int) : ∃ W0, W0 = ((W.alloc (.cells #[.int .i64 a, .int .i64 b, .int .u64 c, .int .u64 d] 52)).alloc (.cells #[.int .i64 0, .int .i64 0, .int .u64 0, .int .u64 0] 52)).alloc (.cells #[.int .i64 a, .int .i64 b, .int .u64 c, .int .u64 d] 52) ∧ Below W.heap.size W W0 ∧ W0.heap.size = W.heap.size + 1 + 1 + 1 ∧
    DuAt W0 W.heap.size a b c d ∧ DuAt W0 (W.heap.size + 1) 0 0 0 0 ∧ DuAt W0 (W.heap.size + 1 + 1) a b c d := by
  obtain ⟨W1, rfl, h1, h2, h3, h4⟩ := du_boxes W a b c d
  refine ⟨_, rfl, h1.alloc h1.size _, by simp, h3.alloc _, h4.alloc _, ?_⟩
  rw [← h2]; exact duat1 _ _ _ _ _

set_option maxRecDepth 100000 in
set_option maxHeartbeats 2000000 in
theorem RLearnt_low (W : World) (k0 k1 s0 s1 v : Nat) (h0 : k0 ≤ 24) (hs0 : s0 ≤ 68719476735) (hv : v < 4294967296) (hl : v < 2 ^ k0) :
    Calls Try.prog 69 #[.agg #[.int .i64 k0, .int .i64 k1, .int .u64 s0, .int .u64 s1], .int .u32 v] W fun e W' => e = .returned (.agg #[.int .i64 (pairK k0 (sumN s0 v) : Nat), .int .i64 k1, .int .u64 (sumN s0 v : Nat), .int .u64 s1]) ∧ Below W.heap.size W W' := by
  obtain ⟨W0, hW0, hbE, hsz0, hx0, hy0, hz0⟩ := ddd_boxes W k0 k1 s0 s1
  obtain ⟨x0, x1, x2, x3, x4, x5, x6, x7⟩ := (du_boxes W k0 k1 s0 s1).choose_spec.2.2.2.1.cells
  have hlow := Go.Lib.hid fun w => RLow_ok w k0 k1 s0 s1 v h0 hv true (decide_eq_true hl)
  have hle := Go.Lib.hid fun w => Rpair_ok w k0 s0 v h0 hs0 hv
  obtain ⟨n, hn⟩ : ∃ n, n = sumN s0 v := ⟨_, rfl⟩
  rw [← hn] at hle ⊢
  obtain ⟨i, hi⟩ : ∃ i, i = pairK k0 n := ⟨_, rfl⟩
  rw [← hi] at hle ⊢
  have hx0' := Go.Lib.hid hx0
  have hy0' := Go.Lib.hid hy0
  have hz0' := Go.Lib.hid hz0
  have hbE' := Go.Lib.hid hbE
  clear hn hi hl hx0 hy0 hz0 hbE x0 x1 x2 x3 x4 x5 x6 x7
  go_enter Try.func69, Try.ntmps69
  go_wp2_with (first
    | (go_at_call 62; rw [← hW0]; clear hW0; refine (hlow.out _).mono ?_; rintro e w1 ⟨rfl, hb1⟩; obtain ⟨x0, x1, x2, x3, x4, x5, x6, x7⟩ := (hx0'.out.below hb1 (by omega)).cells; obtain ⟨y0, y1, y2, y3, y4, y5, y6, y7⟩ := (hy0'.out.below hb1 (by omega)).cells; obtain ⟨z0, z1, z2, z3, z4, z5, z6, z7⟩ := (hz0'.out.below hb1 (by omega)).cells; have hb1' := Go.Lib.hid hb1; clear hb1)
    | (go_at_call 94; refine (hle.out _).mono ?_; rintro e w2 ⟨rfl, rfl⟩))
  (try simp only [Exit.inBlock, Exit.then])
  have hy1 := hy0'.out.below hb1'.out (by omega)
  refine bodyPost_ret (results_du (by rfl) _ _ (W.heap.size + 1) _ _ _ _ rfl (((hy1.other (by simp) _).other (by simp) _).set _ _ _ _)) rfl ?_
  refine ⟨rfl, ?_⟩
  have hb := hbE'.out.trans (hb1'.out.mono (by omega))
  exact outp ((hb.setCell (by simp; omega) _).setCell (by simp; omega) _) (by omega)

set_option maxRecDepth 100000 in
set_option maxHeartbeats 4000000 in
theorem RLearnt_high (W : World) (k0 k1 s0 s1 v : Nat) (h0 : k0 ≤ 24) (h1 : k1 ≤ 24) (hs0 : s0 ≤ 68719476735) (hs1 : s1 ≤ 68719476735) (hv : v < 4294967296) (hl : ¬ v < 2 ^ k0) :
    Calls Try.prog 69 #[.agg #[.int .i64 k0, .int .i64 k1, .int .u64 s0, .int .u64 s1], .int .u32 v] W fun e W' => e = .returned (.agg #[.int .i64 (pairK k0 (sumN s0 v) : Nat), .int .i64 (pairK k1 (sumN s1 (v - 2 ^ k0)) : Nat), .int .u64 (sumN s0 v : Nat), .int .u64 (sumN s1 (v - 2 ^ k0) : Nat)]) ∧ Below W.heap.size W W' := by
  obtain ⟨W0, hW0, hbE, hsz0, hx0, hy0, hz0⟩ := ddd_boxes W k0 k1 s0 s1
  have hlow := Go.Lib.hid fun w => RLow_ok w k0 k1 s0 s1 v h0 hv false (decide_eq_false hl)
  have hlf := Go.Lib.hid fun w => RLeft_ok w k0 k1 s0 s1 v h0 hv hl
  have hle := Go.Lib.hid fun w => Rpair_ok w k0 s0 v h0 hs0 hv
  have hle1 := Go.Lib.hid fun w => Rpair_ok w k1 s1 (v - 2 ^ k0) h1 hs1 (Nat.lt_of_le_of_lt (Nat.sub_le _ _) hv)
  obtain ⟨z, hz⟩ : ∃ z, z = v - 2 ^ k0 := ⟨_, rfl⟩
  have hzv : z < 4294967296 := by rw [hz]; exact Nat.lt_of_le_of_lt (Nat.sub_le _ _) hv
  rw [← hz] at hlf hle1 ⊢
  obtain ⟨n, hn⟩ : ∃ n, n = sumN s0 v := ⟨_, rfl⟩
  rw [← hn] at hle ⊢
  obtain ⟨i, hi⟩ : ∃ i, i = pairK k0 n := ⟨_, rfl⟩
  rw [← hi] at hle ⊢
  obtain ⟨m, hm⟩ : ∃ n, n = sumN s1 z := ⟨_, rfl⟩
  rw [← hm] at hle1 ⊢
  obtain ⟨j, hj⟩ : ∃ i, i = pairK k1 m := ⟨_, rfl⟩
  rw [← hj] at hle1 ⊢
  have hx0' := Go.Lib.hid hx0
  have hy0' := Go.Lib.hid hy0
  have hz0' := Go.Lib.hid hz0
  have hbE' := Go.Lib.hid hbE
  clear hn hi hm hj hz hl hx0 hy0 hz0 hbE
  go_enter Try.func69, Try.ntmps69
  go_wp2_with (go_at_call 62; rw [← hW0]; clear hW0; refine (hlow.out _).mono ?_; rintro e w1 ⟨rfl, hb1⟩; have hx1 := Go.Lib.hid (hx0'.out.below hb1 (by omega)); have hy1 := Go.Lib.hid (hy0'.out.below hb1 (by omega)); have hz1 := Go.Lib.hid (hz0'.out.below hb1 (by omega)); have hb1' := Go.Lib.hid hb1; clear hb1)
  refine wp_region_ord (fun w' => DuAt w' W.heap.size k0 k1 s0 s1) [(0, 0), (2, 0), (5, 0), (1, 2), (3, 2), (4, 1), (6, 3), (7, 0), (8, 3), (9, 0), (10, 0), (11, 0), (12, 0), (13, 4), (14, 0), (15, 4)] (by kernel_rfl) (by kernel_rfl) ?hC0 ?_
  case hC0 => exact hx1.out.drew
  simp only [pick, nth]
  obtain ⟨x0, x1, x2, x3, x4, x5, x6, x7⟩ := hx1.out.drew.cells
  (repeat (first | (apply wpW_light; (case h => (intro wa; (first | (go_big_quiet_skip; exact wpQuiet_nil rfl) | (go_big_quiet_want; go_big_quiet_op; go_big_quiet_on; exact wpQuiet_nil rfl))))) | (apply wpW_here; (case h => (first | (go_big_quiet_skip; exact wpQuiet_nil rfl) | (go_big_quiet_want; go_big_quiet_op; go_big_quiet_on; exact wpQuiet_nil rfl)))) | (apply wpW_held; (case hC => assumption); (case h => (intro wa hCa; obtain ⟨u0, u1, u2, u3, u4, u5, u6, u7⟩ := hCa.cells; (first | (go_big_quiet_skip; exact wpQuiet_nil rfl) | (go_big_quiet_want; go_big_quiet_op; go_big_quiet_on; exact wpQuiet_nil rfl)))))))
  clear x0 x1 x2 x3 x4 x5 x6 x7
  refine wpW_act (fun QQ hQQ => ?_) (by rfl)
  go_wp2_with (go_at_call 64; refine (hlf.out _).mono ?_; rintro e w3 ⟨rfl, hb3⟩; have hx3 := Go.Lib.hid (hx1.out.drew.below hb3 hx1.out.drew.lt); have hy3 := Go.Lib.hid (hy1.out.drew.below hb3 hy1.out.drew.lt); have hz3 := Go.Lib.hid (hz1.out.drew.below hb3 hz1.out.drew.lt); have hb13 := Go.Lib.hid (hb1'.out.drew.trans (hb3.mono hb1'.out.drew.size)); clear hb3)
  (refine hQQ _ _ ?hCn ?_; (case hCn => exact hx3.out); clear hQQ QQ)
  (repeat (first | (apply wpW_light; (case h => (intro wa; (first | (go_big_quiet_skip; exact wpQuiet_nil rfl) | (go_big_quiet_want; go_big_quiet_op; go_big_quiet_on; exact wpQuiet_nil rfl))))) | (apply wpW_here; (case h => (first | (go_big_quiet_skip; exact wpQuiet_nil rfl) | (go_big_quiet_want; go_big_quiet_op; go_big_quiet_on; exact wpQuiet_nil rfl)))) | (apply wpW_held; (case hC => assumption); (case h => (intro wa hCa; simp only [] at hCa; (first | (go_big_quiet_skip; exact wpQuiet_nil rfl) | (go_big_quiet_want; go_big_quiet_op; go_big_quiet_on; exact wpQuiet_nil rfl)))))))
  refine wpW_act (fun QQ hQQ => ?_) (by rfl)
  go_wp2_with (go_at_call 94; refine (hle1.out _).mono ?_; rintro e w4 ⟨rfl, rfl⟩)
  (refine hQQ _ _ ?hCn ?_; (case hCn => exact hx3.out); clear hQQ QQ)
  (repeat (first | (apply wpW_light; (case h => (intro wa; (first | (go_big_quiet_skip; exact wpQuiet_nil rfl) | (go_big_quiet_want; go_big_quiet_op; go_big_quiet_on; exact wpQuiet_nil rfl))))) | (apply wpW_here; (case h => (first | (go_big_quiet_skip; exact wpQuiet_nil rfl) | (go_big_quiet_want; go_big_quiet_op; go_big_quiet_on; exact wpQuiet_nil rfl)))) | (apply wpW_held; (case hC => assumption); (case h => (intro wa hCa; simp only [] at hCa; (first | (go_big_quiet_skip; exact wpQuiet_nil rfl) | (go_big_quiet_want; go_big_quiet_op; go_big_quiet_on; exact wpQuiet_nil rfl)))))))
  obtain ⟨z0, z1, z2, z3, z4, z5, z6, z7⟩ := hz3.out.cells
  refine wpW_last (fun QQ hQQ => ?_) (by rfl)
  go_wp2
  (refine hQQ.out _ _ ?_; clear hQQ QQ)
  (repeat (first | (apply wpW_light; (case h => (intro wa; (first | (go_big_quiet_skip; exact wpQuiet_nil rfl) | (go_big_quiet_want; go_big_quiet_op; go_big_quiet_on; exact wpQuiet_nil rfl))))) | (apply wpW_here; (case h => (first | (go_big_quiet_skip; exact wpQuiet_nil rfl) | (go_big_quiet_want; go_big_quiet_op; go_big_quiet_on; exact wpQuiet_nil rfl)))) | (apply wpW_held; (case hC => assumption); (case h => (intro wa hCa; simp only [] at hCa; (first | (go_big_quiet_skip; exact wpQuiet_nil rfl) | (go_big_quiet_want; go_big_quiet_op; go_big_quiet_on; exact wpQuiet_nil rfl)))))))
  refine wpW_last (fun QQ hQQ => ?_) (by rfl)
  go_wp2
  (refine hQQ.out _ _ ?_; clear hQQ QQ)
  refine wpW_nil ?_
  have hz5 := Go.Lib.hid ((hz3.out.set1 j).set3 m)
  have hx5 := Go.Lib.hid ((hx3.out.other (p := ⟨W.heap.size + 1 + 1, 1, none⟩) (by simp; omega) (.int .i64 j)).other (p := ⟨W.heap.size + 1 + 1, 3, none⟩) (by simp; omega) (.int .u64 m))
  have hy5 := Go.Lib.hid ((hy3.out.other (p := ⟨W.heap.size + 1 + 1, 1, none⟩) (by simp) (.int .i64 j)).other (p := ⟨W.heap.size + 1 + 1, 3, none⟩) (by simp) (.int .u64 m))
  have hb5 := Go.Lib.hid (((hbE'.out.trans (hb13.out.mono (by omega))).setCell (p := ⟨W.heap.size + 1 + 1, 1, none⟩) (by simp; omega) (.int .i64 j)).setCell (p := ⟨W.heap.size + 1 + 1, 3, none⟩) (by simp; omega) (.int .u64 m))
  obtain ⟨w5, hw5⟩ : ∃ w5, w5 = (w3.setCell ⟨W.heap.size + 1 + 1, 1, none⟩ (.int .i64 j)).setCell ⟨W.heap.size + 1 + 1, 3, none⟩ (.int .u64 m) := ⟨_, rfl⟩
  rw [← hw5] at hx5 hy5 hz5 hb5 ⊢
  clear z0 z1 z2 z3 z4 z5 z6 z7 hw5
  obtain ⟨x0, x1, x2, x3, x4, x5, x6, x7⟩ := hx5.out.cells
  obtain ⟨y0, y1, y2, y3, y4, y5, y6, y7⟩ := hy5.out.cells
  obtain ⟨z0, z1, z2, z3, z4, z5, z6, z7⟩ := hz5.out.cells
  go_wp2_with (go_at_call 94; refine (hle.out _).mono ?_; rintro e w6 ⟨rfl, rfl⟩)
  (try simp only [Exit.inBlock, Exit.then])
  refine bodyPost_ret (results_du (by rfl) _ _ (W.heap.size + 1) _ _ _ _ rfl (((hy5.out.other (by simp) _).other (by simp) _).set _ _ _ _)) rfl ?_
  exact ⟨rfl, outp ((hb5.out.setCell (by simp; omega) _).setCell (by simp; omega) _) (by omega)⟩

theorem RLearnt_ok (W : World) (D : Du) (v : Nat) (hd : D.ok) (hv : v < 4294967296) :
    Calls Try.prog 69 #[.agg #[.int .i64 D.k0, .int .i64 D.k1, .int .u64 D.s0, .int .u64 D.s1], .int .u32 v] W fun e W' => e = .returned (.agg #[.int .i64 (learnD D v).k0, .int .i64 (learnD D v).k1, .int .u64 (learnD D v).s0, .int .u64 (learnD D v).s1]) ∧ Below W.heap.size W W' := by
  by_cases hl : v < 2 ^ D.k0
  · rw [learnD_low hl]; exact RLearnt_low W D.k0 D.k1 D.s0 D.s1 v hd.1 hd.2.2.1 hv hl
  · rw [learnD_high hl]; exact RLearnt_high W D.k0 D.k1 D.s0 D.s1 v hd.1 hd.2.1 hd.2.2.1 hd.2.2.2 hv hl

set_option maxRecDepth 100000 in
set_option maxHeartbeats 1000000 in
theorem RdLong_ok (W : World) (D : Du) (v : Nat) (hd : D.ok) (hv : v < 4294967296) :
    Calls Try.prog 68 #[.agg #[.int .i64 D.k0, .int .i64 D.k1, .int .u64 D.s0, .int .u64 D.s1], .int .u32 v] W fun e W' => e = .returned (.int .i64 (dualLen D v : Nat)) ∧ Below W.heap.size W W' := by
  have hbE' := Go.Lib.hid (below1 W (.cells #[.int .i64 D.k0, .int .i64 D.k1, .int .u64 D.s0, .int .u64 D.s1] 52))
  have hx0 := Go.Lib.hid (duat1 W D.k0 D.k1 D.s0 D.s1)
  obtain ⟨x0, x1, x2, x3, x4, x5, x6, x7⟩ := hx0.out.cells
  have k24 := hd.1
  have j24 := hd.2.1
  by_cases hl : v < 2 ^ D.k0
  · have hlow := Go.Lib.hid fun w => RLow_ok w D.k0 D.k1 D.s0 D.s1 v hd.1 hv true (decide_eq_true hl)
    rw [dualLen_low hl]
    clear hl hd
    go_enter Try.func68, Try.ntmps68
    go_wp2_with (go_at_call 62; refine (hlow.out _).mono ?_; rintro e w2 ⟨rfl, hb2⟩; have hb12 := Go.Lib.hid hb2; obtain ⟨y0, y1, y2, y3, y4, y5, y6, y7⟩ := (hx0.out.below hb12.out hx0.out.lt).cells; clear hb2)
    go_ret
    exact ⟨by go_num, hbE'.out.trans (hb12.out.mono (by simp))⟩
  · have hlow := Go.Lib.hid fun w => RLow_ok w D.k0 D.k1 D.s0 D.s1 v hd.1 hv false (decide_eq_false hl)
    have hlf := Go.Lib.hid fun w => RLeft_ok w D.k0 D.k1 D.s0 D.s1 v hd.1 hv hl
    have hle := Go.Lib.hid fun w => RrLong_ok w (v - 2 ^ D.k0) D.k1 (Nat.lt_of_le_of_lt (Nat.sub_le _ _) hv) hd.2.1
    have hrl := riceLen_le (v - 2 ^ D.k0) hd.2.1
    rw [dualLen_high hl]
    obtain ⟨z, hz⟩ : ∃ z, z = v - 2 ^ D.k0 := ⟨_, rfl⟩
    rw [← hz] at hlf hle hrl ⊢
    obtain ⟨r, hr⟩ : ∃ r, r = riceLen z D.k1 := ⟨_, rfl⟩
    rw [← hr] at hle hrl ⊢
    clear hl hd hz hr
    go_enter Try.func68, Try.ntmps68
    go_wp2_with (go_at_call 62; refine (hlow.out _).mono ?_; rintro e w2 ⟨rfl, hb2⟩; have hb12 := Go.Lib.hid hb2; have hx2 := Go.Lib.hid (hx0.out.below hb12.out hx0.out.lt); clear hb2)
    refine wp_region_ord (fun w' => DuAt w' W.heap.size D.k0 D.k1 D.s0 D.s1) [(1, 0), (3, 0), (0, 1), (4, 2), (2, 3), (5, 3), (6, 0), (7, 0)] (by kernel_rfl) (by kernel_rfl) ?hC0 ?_
    case hC0 => exact hx2.out.drew
    simp only [pick, nth]
    obtain ⟨y0, y1, y2, y3, y4, y5, y6, y7⟩ := hx2.out.drew.cells
    (repeat (first | (apply wpW_light; (case h => (intro wa; (first | (go_big_quiet_skip; exact wpQuiet_nil rfl) | (go_big_quiet_want; go_big_quiet_op; go_big_quiet_on; exact wpQuiet_nil rfl))))) | (apply wpW_here; (case h => (first | (go_big_quiet_skip; exact wpQuiet_nil rfl) | (go_big_quiet_want; go_big_quiet_op; go_big_quiet_on; exact wpQuiet_nil rfl)))) | (apply wpW_held; (case hC => assumption); (case h => (intro wa hCa; obtain ⟨u0, u1, u2, u3, u4, u5, u6, u7⟩ := hCa.cells; (first | (go_big_quiet_skip; exact wpQuiet_nil rfl) | (go_big_quiet_want; go_big_quiet_op; go_big_quiet_on; exact wpQuiet_nil rfl)))))))
    clear y0 y1 y2 y3 y4 y5 y6 y7
    refine wpW_act (fun QQ hQQ => ?_) (by rfl)
    go_wp2_with (go_at_call 64; refine (hlf.out _).mono ?_; rintro e w3 ⟨rfl, hb3⟩; have hx3 := Go.Lib.hid (hx2.out.drew.below hb3 hx2.out.drew.lt); have hb13 := Go.Lib.hid (hb12.out.drew.trans (hb3.mono hb12.out.drew.size)); clear hb3)
    (refine hQQ _ _ ?hCn ?_; (case hCn => exact hx3.out); clear hQQ QQ)
    refine wpW_act (fun QQ hQQ => ?_) (by rfl)
    go_wp2_with (go_at_call 93; refine (hle.out _).mono ?_; rintro e w4 ⟨rfl, rfl⟩)
    (refine hQQ _ _ ?hCn ?_; (case hCn => exact hx3.out); clear hQQ QQ)
    (repeat (first | (apply wpW_light; (case h => (intro wa; (first | (go_big_quiet_skip; exact wpQuiet_nil rfl) | (go_big_quiet_want; go_big_quiet_op; go_big_quiet_on; exact wpQuiet_nil rfl))))) | (apply wpW_here; (case h => (first | (go_big_quiet_skip; exact wpQuiet_nil rfl) | (go_big_quiet_want; go_big_quiet_op; go_big_quiet_on; exact wpQuiet_nil rfl)))) | (apply wpW_held; (case hC => assumption); (case h => (intro wa hCa; simp only [] at hCa; (first | (go_big_quiet_skip; exact wpQuiet_nil rfl) | (go_big_quiet_want; go_big_quiet_op; go_big_quiet_on; exact wpQuiet_nil rfl)))))))
    refine wpW_nil ?_
    go_wp2
    go_ret
    exact ⟨by go_num, hbE'.out.trans (hb13.out.mono (by simp))⟩
end Go.Proofs.Ythbjcjphplgobaa

/- Contracts of the reference of dual: Add, Write. -/
namespace Go.Proofs.Ythbjcjphplgobaa
open Go.RowKit Cad

end Go.Proofs.Ythbjcjphplgobaa

/- Contracts of the reference of dual: Got, Read. -/
namespace Go.Proofs.Ythbjcjphplgobaa
open Go.RowKit Cad

end Go.Proofs.Ythbjcjphplgobaa

/- What the statements of dual share: the chapter's examples; both sides say the same. -/
namespace Go.Proofs.Ythbjcjphplgobaa
open Go.RowKit Cad

/-- a code alone -/
theorem DWrite_alone (w : World) (D : Du) (v : Nat) (hd : D.ok) (hv : v < 4294967296) (t m : Nat) (ht : dualLen D v = t) (hm : (t + 7) / 8 = m) (l : List Int) (hl : pack (dualB D v) = l) (X : Du) (hX : learnD D v = X) :
    ResD 60 #[.agg #[.slice none 0 0, .int .i64 0], .agg #[.int .i64 D.k0, .int .i64 D.k1, .int .u64 D.s0, .int .u64 D.s1], .int .u32 v] w m l t X.k0 X.k1 X.s0 X.s1 0 := by
  have := DWrite_ok w none 0 0 [] D v (by rw [show pack [] = [] by rfl]; exact Row.nil_row _ _) (by have := dualLen_le hd.1 hd.2.1 v; simp; omega) hd hv
  rw [List.nil_append, hl, ht, hX] at this
  simp only [List.length_nil, Nat.zero_add] at this
  rw [hm] at this
  exact this
end Go.Proofs.Ythbjcjphplgobaa
