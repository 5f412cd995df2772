/- The walk of LeTwos. -/
import Derived.Test.YtgfokdnflbmafaaLeL
namespace Go.Proofs.Ytgfokdnflbmafaa
open Go.RowKit Cad

set_option maxHeartbeats 2000000 in
theorem leTwos_walk (n : Int) (x : Int) (w : Int) (w0 : (Lit.int .u64 n).wf = true) (w1 : (Lit.int .i64 x).wf = true) (_w2 : (Lit.int .i64 w).wf = true) (W : World) :
    Calls Try.prog 8 #[.int .u64 n, .int .i64 x, .int .i64 w] W fun e w' => e = .returned (.bool true) ∧ Below W.heap.size W w' := by
  have b0 := bounds_u64 w0
  have b1 := bounds_i64 w1
  clear w0 w1 _w2
  by_cases h : 1 ≤ w ∧ w ≤ 8
  · obtain ⟨h, h'⟩ := h
    have ht := top_big w h h'
    have ux := uns_bd x w h h'
    have hX : (Fits x w ∧ x < 0) ∨ (Fits x w ∧ 0 ≤ x) ∨ (¬ Fits x w ∧ top w.toNat / 2 < x) ∨ (¬ Fits x w ∧ x ≤ top w.toNat / 2 ∧ x < -(top w.toNat / 2) - 1) := by unfold Fits; omega
    by_cases hn : n ≤ top w.toNat
    · have us := uns_sgn n w h h' b0.1 hn
      have HU := Go.Lib.hid us.1
      have hN : (sgn n w < 0 ∧ top w.toNat / 2 < n) ∨ (0 ≤ sgn n w ∧ n ≤ top w.toNat / 2) := by unfold sgn; split <;> omega
      have hN' : (decide (sgn n w < 0) = true ∧ decide (top w.toNat / 2 < n) = true) ∨ (decide (sgn n w < 0) = false ∧ decide (top w.toNat / 2 < n) = false) := by
        rcases hN with ⟨n1, n2⟩ | ⟨n1, n2⟩
        · exact .inl ⟨decide_eq_true n1, decide_eq_true n2⟩
        · exact .inr ⟨decide_eq_false (by omega), decide_eq_false (by omega)⟩
      clear hN
      rcases hN' with ⟨n1, n2⟩ | ⟨n1, n2⟩
      all_goals
        rcases hX with ⟨hx, x1⟩ | ⟨hx, x1⟩ | ⟨hx, x1⟩ | ⟨hx, x1, x2⟩
        · have HS := Go.Lib.hid ((sgn_uns x w h h').2 hx)
          obtain ⟨f1, f2⟩ := hx
          go_enter Try.func8, Try.ntmps8
          go_wp2_with (first | (go_at_call 21; refine (Width_yes _ _ h h').mono ?_; rintro e w1 ⟨rfl, rfl⟩) | (go_at_call 22; refine (top_any _ _ h h').mono ?_; rintro e w1 ⟨rfl, rfl⟩) | (go_at_call 15; refine (alive_any _).mono ?_; rintro e w1 ⟨rfl, hb⟩) | (go_at_call 12; ((with_reducible refine (Signed_ok n w _ h h' b0.1 hn).mono ?_); rintro e w1 ⟨rfl, rfl⟩)) | (go_at_call 13; ((with_reducible refine (Unsigned_ok (sgn n w) w _ h h' us.2).mono ?_); rintro e w1 ⟨rfl, rfl⟩); rw [HU.out]) | (go_at_call 13; ((with_reducible refine (Unsigned_ok x w _ h h' ⟨f1, f2⟩).mono ?_); rintro e w1 ⟨rfl, rfl⟩)) | (go_at_call 12; ((with_reducible refine (Signed_ok (uns x w) w _ h h' ux.1 ux.2).mono ?_); rintro e w1 ⟨rfl, rfl⟩); rw [HS.out]))
          go_ret
          exact ⟨rfl, hb⟩
        · have HS := Go.Lib.hid ((sgn_uns x w h h').2 hx)
          have HP := uns_pos x w x1 hx.2
          have HQ : (uns x w == x) = true := by rw [HP]; simp
          obtain ⟨f1, f2⟩ := hx
          clear HP
          go_enter Try.func8, Try.ntmps8
          go_wp2_with (first | (go_at_call 21; refine (Width_yes _ _ h h').mono ?_; rintro e w1 ⟨rfl, rfl⟩) | (go_at_call 22; refine (top_any _ _ h h').mono ?_; rintro e w1 ⟨rfl, rfl⟩) | (go_at_call 15; refine (alive_any _).mono ?_; rintro e w1 ⟨rfl, hb⟩) | (go_at_call 12; ((with_reducible refine (Signed_ok n w _ h h' b0.1 hn).mono ?_); rintro e w1 ⟨rfl, rfl⟩)) | (go_at_call 13; ((with_reducible refine (Unsigned_ok (sgn n w) w _ h h' us.2).mono ?_); rintro e w1 ⟨rfl, rfl⟩); rw [HU.out]) | (go_at_call 13; ((with_reducible refine (Unsigned_ok x w _ h h' ⟨f1, f2⟩).mono ?_); rintro e w1 ⟨rfl, rfl⟩)) | (go_at_call 12; ((with_reducible refine (Signed_ok (uns x w) w _ h h' ux.1 ux.2).mono ?_); rintro e w1 ⟨rfl, rfl⟩); rw [HS.out]))
          go_ret
          exact ⟨rfl, hb⟩
        · go_enter Try.func8, Try.ntmps8
          go_wp2_with (first | (go_at_call 21; refine (Width_yes _ _ h h').mono ?_; rintro e w1 ⟨rfl, rfl⟩) | (go_at_call 22; refine (top_any _ _ h h').mono ?_; rintro e w1 ⟨rfl, rfl⟩) | (go_at_call 15; refine (alive_any _).mono ?_; rintro e w1 ⟨rfl, hb⟩) | (go_at_call 12; ((with_reducible refine (Signed_ok n w _ h h' b0.1 hn).mono ?_); rintro e w1 ⟨rfl, rfl⟩)) | (go_at_call 13; ((with_reducible refine (Unsigned_ok (sgn n w) w _ h h' us.2).mono ?_); rintro e w1 ⟨rfl, rfl⟩); rw [HU.out]) | (go_at_call 13; ((with_reducible refine (Unsigned_range x w _ h h' hx).mono ?_); rintro e w1 ⟨rfl, rfl⟩)))
          go_ret
          exact ⟨rfl, hb⟩
        · go_enter Try.func8, Try.ntmps8
          go_wp2_with (first | (go_at_call 21; refine (Width_yes _ _ h h').mono ?_; rintro e w1 ⟨rfl, rfl⟩) | (go_at_call 22; refine (top_any _ _ h h').mono ?_; rintro e w1 ⟨rfl, rfl⟩) | (go_at_call 15; refine (alive_any _).mono ?_; rintro e w1 ⟨rfl, hb⟩) | (go_at_call 12; ((with_reducible refine (Signed_ok n w _ h h' b0.1 hn).mono ?_); rintro e w1 ⟨rfl, rfl⟩)) | (go_at_call 13; ((with_reducible refine (Unsigned_ok (sgn n w) w _ h h' us.2).mono ?_); rintro e w1 ⟨rfl, rfl⟩); rw [HU.out]) | (go_at_call 13; ((with_reducible refine (Unsigned_range x w _ h h' hx).mono ?_); rintro e w1 ⟨rfl, rfl⟩)))
          go_ret
          exact ⟨rfl, hb⟩
    · have hn : top w.toNat < n := by omega
      rcases hX with ⟨hx, x1⟩ | ⟨hx, x1⟩ | ⟨hx, x1⟩ | ⟨hx, x1, x2⟩
      · have HS := Go.Lib.hid ((sgn_uns x w h h').2 hx)
        obtain ⟨f1, f2⟩ := hx
        go_enter Try.func8, Try.ntmps8
        go_wp2_with (first | (go_at_call 21; refine (Width_yes _ _ h h').mono ?_; rintro e w1 ⟨rfl, rfl⟩) | (go_at_call 22; refine (top_any _ _ h h').mono ?_; rintro e w1 ⟨rfl, rfl⟩) | (go_at_call 15; refine (alive_any _).mono ?_; rintro e w1 ⟨rfl, hb⟩) | (go_at_call 12; ((with_reducible refine (Signed_range n w _ h h' hn).mono ?_); rintro e w1 ⟨rfl, rfl⟩)) | (go_at_call 13; ((with_reducible refine (Unsigned_ok x w _ h h' ⟨f1, f2⟩).mono ?_); rintro e w1 ⟨rfl, rfl⟩)) | (go_at_call 12; ((with_reducible refine (Signed_ok (uns x w) w _ h h' ux.1 ux.2).mono ?_); rintro e w1 ⟨rfl, rfl⟩); rw [HS.out]))
        go_ret
        exact ⟨rfl, hb⟩
      · have HS := Go.Lib.hid ((sgn_uns x w h h').2 hx)
        have HP := uns_pos x w x1 hx.2
        have HQ : (uns x w == x) = true := by rw [HP]; simp
        obtain ⟨f1, f2⟩ := hx
        clear HP
        go_enter Try.func8, Try.ntmps8
        go_wp2_with (first | (go_at_call 21; refine (Width_yes _ _ h h').mono ?_; rintro e w1 ⟨rfl, rfl⟩) | (go_at_call 22; refine (top_any _ _ h h').mono ?_; rintro e w1 ⟨rfl, rfl⟩) | (go_at_call 15; refine (alive_any _).mono ?_; rintro e w1 ⟨rfl, hb⟩) | (go_at_call 12; ((with_reducible refine (Signed_range n w _ h h' hn).mono ?_); rintro e w1 ⟨rfl, rfl⟩)) | (go_at_call 13; ((with_reducible refine (Unsigned_ok x w _ h h' ⟨f1, f2⟩).mono ?_); rintro e w1 ⟨rfl, rfl⟩)) | (go_at_call 12; ((with_reducible refine (Signed_ok (uns x w) w _ h h' ux.1 ux.2).mono ?_); rintro e w1 ⟨rfl, rfl⟩); rw [HS.out]))
        go_ret
        exact ⟨rfl, hb⟩
      · go_enter Try.func8, Try.ntmps8
        go_wp2_with (first | (go_at_call 21; refine (Width_yes _ _ h h').mono ?_; rintro e w1 ⟨rfl, rfl⟩) | (go_at_call 22; refine (top_any _ _ h h').mono ?_; rintro e w1 ⟨rfl, rfl⟩) | (go_at_call 15; refine (alive_any _).mono ?_; rintro e w1 ⟨rfl, hb⟩) | (go_at_call 12; ((with_reducible refine (Signed_range n w _ h h' hn).mono ?_); rintro e w1 ⟨rfl, rfl⟩)) | (go_at_call 13; ((with_reducible refine (Unsigned_range x w _ h h' hx).mono ?_); rintro e w1 ⟨rfl, rfl⟩)))
        go_ret
        exact ⟨rfl, hb⟩
      · go_enter Try.func8, Try.ntmps8
        go_wp2_with (first | (go_at_call 21; refine (Width_yes _ _ h h').mono ?_; rintro e w1 ⟨rfl, rfl⟩) | (go_at_call 22; refine (top_any _ _ h h').mono ?_; rintro e w1 ⟨rfl, rfl⟩) | (go_at_call 15; refine (alive_any _).mono ?_; rintro e w1 ⟨rfl, hb⟩) | (go_at_call 12; ((with_reducible refine (Signed_range n w _ h h' hn).mono ?_); rintro e w1 ⟨rfl, rfl⟩)) | (go_at_call 13; ((with_reducible refine (Unsigned_range x w _ h h' hx).mono ?_); rintro e w1 ⟨rfl, rfl⟩)))
        go_ret
        exact ⟨rfl, hb⟩
  · go_enter Try.func8, Try.ntmps8
    go_wp2_with (first | (go_at_call 21; refine (Width_no _ _ h).mono ?_; rintro e w1 ⟨rfl, rfl⟩) | (go_at_call 15; refine (alive_any _).mono ?_; rintro e w1 ⟨rfl, hb⟩))
    go_ret
    exact ⟨rfl, hb⟩
end Go.Proofs.Ytgfokdnflbmafaa
