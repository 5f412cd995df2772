/- The walks of the laws of layer 1, over the contracts of le and its reference. -/
import Derived.Test.YtgfokdnflbmafaaLe
import Derived.RowKit3
namespace Go.Proofs.Ytgfokdnflbmafaa
open Go.RowKit Cad

theorem leSigns_walk (n x w : Int) (w0 : (Lit.int .u64 n).wf = true) (w1 : (Lit.int .i64 x).wf = true) (_w2 : (Lit.int .i64 w).wf = true) (W : World) :
    Calls Try.prog 5 #[.int .u64 n, .int .i64 x, .int .i64 w] W fun e w' => e = .returned (.bool true) ∧ Grown W w' := by
  have b0 := bounds_u64 w0
  have b1 := bounds_i64 w1
  by_cases h : 1 ≤ w ∧ w ≤ 8
  · obtain ⟨h, h'⟩ := h
    by_cases hn : n ≤ top w.toNat <;> by_cases hx : Fits x w
    · have u := uns_bd x w h h'
      clear w0 w1 _w2
      go_enter Try.func5, Try.ntmps5
      go_wp2_with (first | (go_at_call 12; refine (Signed_ok n w _ h h' b0.1 hn).mono ?_; rintro e w1 ⟨rfl, rfl⟩) | (go_at_call 19; refine (RSigned_ok n w _ h h' b0.1 hn).mono ?_; rintro e w1 ⟨rfl, rfl⟩) | (go_at_call 13; refine (Unsigned_ok x w _ h h' hx).mono ?_; rintro e w1 ⟨rfl, rfl⟩) | (go_at_call 20; refine (RUnsigned_ok x w _ h h' b1.1 hx).mono ?_; rintro e w1 ⟨rfl, rfl⟩))
      go_ret
      exact ⟨rfl, Grown.refl _⟩
    · clear w0 w1 _w2
      go_enter Try.func5, Try.ntmps5
      go_wp2_with (first | (go_at_call 12; refine (Signed_ok n w _ h h' b0.1 hn).mono ?_; rintro e w1 ⟨rfl, rfl⟩) | (go_at_call 19; refine (RSigned_ok n w _ h h' b0.1 hn).mono ?_; rintro e w1 ⟨rfl, rfl⟩) | (go_at_call 13; refine (Unsigned_range x w _ h h' hx).mono ?_; rintro e w1 ⟨rfl, rfl⟩) | (go_at_call 20; refine (RUnsigned_range x w _ h h' b1 hx).mono ?_; rintro e w1 ⟨rfl, rfl⟩))
      go_ret
      exact ⟨rfl, Grown.refl _⟩
    · clear w0 w1 _w2
      have hn : top w.toNat < n := by omega
      go_enter Try.func5, Try.ntmps5
      go_wp2_with (first | (go_at_call 12; refine (Signed_range n w _ h h' hn).mono ?_; rintro e w1 ⟨rfl, rfl⟩) | (go_at_call 19; refine (RSigned_range n w _ h h' hn).mono ?_; rintro e w1 ⟨rfl, rfl⟩) | (go_at_call 13; refine (Unsigned_ok x w _ h h' hx).mono ?_; rintro e w1 ⟨rfl, rfl⟩) | (go_at_call 20; refine (RUnsigned_ok x w _ h h' b1.1 hx).mono ?_; rintro e w1 ⟨rfl, rfl⟩))
      go_ret
      exact ⟨rfl, Grown.refl _⟩
    · clear w0 w1 _w2
      have hn : top w.toNat < n := by omega
      go_enter Try.func5, Try.ntmps5
      go_wp2_with (first | (go_at_call 12; refine (Signed_range n w _ h h' hn).mono ?_; rintro e w1 ⟨rfl, rfl⟩) | (go_at_call 19; refine (RSigned_range n w _ h h' hn).mono ?_; rintro e w1 ⟨rfl, rfl⟩) | (go_at_call 13; refine (Unsigned_range x w _ h h' hx).mono ?_; rintro e w1 ⟨rfl, rfl⟩) | (go_at_call 20; refine (RUnsigned_range x w _ h h' b1 hx).mono ?_; rintro e w1 ⟨rfl, rfl⟩))
      go_ret
      exact ⟨rfl, Grown.refl _⟩
  · go_enter Try.func5, Try.ntmps5
    go_wp2_with (first | (go_at_call 12; refine (Signed_no n w _ h).mono ?_; rintro e w1 ⟨rfl, rfl⟩) | (go_at_call 19; refine (RSigned_no n w _ h).mono ?_; rintro e w1 ⟨rfl, rfl⟩) | (go_at_call 13; refine (Unsigned_no x w _ h).mono ?_; rintro e w1 ⟨rfl, rfl⟩) | (go_at_call 20; refine (RUnsigned_no x w _ h).mono ?_; rintro e w1 ⟨rfl, rfl⟩))
    go_ret
    exact ⟨rfl, Grown.refl _⟩
end Go.Proofs.Ytgfokdnflbmafaa
