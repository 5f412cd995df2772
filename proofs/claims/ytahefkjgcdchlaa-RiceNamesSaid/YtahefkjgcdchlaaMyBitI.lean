/- Contracts of the package bits and of its reference: Join, refusals too. -/
import Derived.Test.YtahefkjgcdchlaaMyBitH
import Derived.Test.YtahefkjgcdchlaaBitJ
namespace Go.Proofs.Ytahefkjgcdchlaa
open Go.RowKit Cad

/-- three boxes: what came in twice, and the bits that go out -/
theorem three_boxes (W : World) (v : Value) (N : Int) (v' : Value) (N' : Int) : ∃ W0, W0 = ((W.alloc (.cells #[v, .int .i64 N] 28)).alloc (.cells #[v', .int .i64 N'] 28)).alloc (.cells #[.slice none 0 0, .int .i64 0] 28) ∧ Below W.heap.size W W0 ∧ W0.heap.size = W.heap.size + 1 + 1 + 1 ∧
    BoxAt W0 W.heap.size v N ∧ BoxAt W0 (W.heap.size + 1) v' N' ∧ BoxAt W0 (W.heap.size + 1 + 1) (.slice none 0 0) 0 := by
  refine ⟨_, rfl, (((Below.refl W.heap.size W).alloc (Nat.le_refl _) _).alloc (by simp) _).alloc (by simp; omega) _, by simp, ?_, ?_, ?_⟩
  · unfold BoxAt; rw [Below.heap_alloc _ _ _ (by simp; omega), Below.heap_alloc _ _ _ (by simp), heap_alloc_new]
  · unfold BoxAt; rw [Below.heap_alloc _ _ _ (by simp), heap_alloc2_new]
  · have := heap_alloc_new ((W.alloc (.cells #[v, .int .i64 N] 28)).alloc (.cells #[v', .int .i64 N'] 28)) (.cells #[.slice none 0 0, .int .i64 0] 28)
    rw [show ((W.alloc (.cells #[v, .int .i64 N] 28)).alloc (.cells #[v', .int .i64 N'] 28)).heap.size = W.heap.size + 1 + 1 by simp] at this
    exact this

theorem Bjoin_full (W : World) (a : Option Addr) (len cap : Nat) (A : Nat) (a' : Option Addr) (len' cap' : Nat) (B : Nat) (hA : A ≤ 330000) (hB : B ≤ 330000) (hAB : 330000 < (A : Int) + (B : Int)) :
    Calls Try.prog 33 #[.agg #[.slice a len cap, .int .i64 A], .agg #[.slice a' len' cap', .int .i64 B]] W fun e W' => e = .returned (.tuple #[.agg #[.slice none 0 0, .int .i64 0], .int .i64 18]) ∧ Below W.heap.size W W' := by
  obtain ⟨W0, hW0, hbE, hs0, hx0, hb0, hy0⟩ := three_boxes W (.slice a len cap) A (.slice a' len' cap') B
  have hbE' := Go.Lib.hid hbE
  have hy0' := Go.Lib.hid hy0
  have hW0' := Go.Lib.hid hW0
  clear hbE hy0 hx0 hb0 hs0 hW0
  go_enter Try.func33, Try.ntmps33
  go_wp2
  (try simp only [Exit.inBlock, Exit.then])
  go_returns
  exact ⟨rfl, (((Below.refl W.heap.size W).alloc (Nat.le_refl _) _).alloc (by simp) _).alloc (by simp; omega) _⟩

section
variable (W : World) (a : Option Addr) (len cap : Nat) (N : Int) (l : List Int) (hr : Row .u8 W a len cap l) (hN : (Lit.int .i64 N).wf = true)
  (a' : Option Addr) (len' cap' : Nat) (N' : Int) (l' : List Int) (hr' : Row .u8 W a' len' cap' l') (hN' : (Lit.int .i64 N').wf = true)
include hr hN hr' hN'

theorem BJoin_bad (hv : ¬ Valid l N ∨ ¬ Valid l' N') :
    Calls Try.prog 23 #[.agg #[.slice a len cap, .int .i64 N], .agg #[.slice a' len' cap', .int .i64 N']] W fun e W' => e = .returned (.tuple #[.agg #[.slice none 0 0, .int .i64 0], .int .i64 8]) ∧ Below W.heap.size W W' := by
  obtain ⟨W0, hW0, hbE, hs0, hx0, hb0, hy0⟩ := three_boxes W (.slice a len cap) N (.slice a' len' cap') N'
  have hrE := hr.below hbE (Nat.le_refl _)
  have hrE' := hr'.below hbE (Nat.le_refl _)
  have hy0' := Go.Lib.hid hy0
  have hb0' := Go.Lib.hid hb0
  have hbE' := Go.Lib.hid hbE
  by_cases h1 : Valid l N
  · have hv' : ¬ Valid l' N' := hv.resolve_left fun h => h h1
    have hck := Go.Lib.hid (BCheck_any W0 a len cap N l hrE hN 0 (.inl ⟨h1, rfl⟩))
    have hck2 : Hid (∀ w1, Below W0.heap.size W0 w1 → Calls Try.prog 28 #[.agg #[.slice a' len' cap', .int .i64 N']] w1 fun e W' => e = .returned (.int .i64 8) ∧ Below w1.heap.size w1 W') :=
      Go.Lib.hid fun w1 h1 => BCheck_any w1 a' len' cap' N' l' (hrE'.below h1 (Nat.le_refl _)) hN' 8 (.inr ⟨hv', rfl⟩)
    clear hr hr' hrE hrE' hx0 hb0 hy0 hbE hN hN' hv hv' h1
    go_enter Try.func23, Try.ntmps23
    go_wp2_with (first
      | (go_at_call 28; rw [← hW0]; refine hck.out.mono ?_; rintro e w1 ⟨rfl, hb1⟩; obtain ⟨d0, d1, g0, g1⟩ := (hb0'.out.below hb1 (by omega)).cells; have hb1' := Go.Lib.hid hb1; clear hb1 hW0)
      | (go_at_call 28; refine (hck2.out _ hb1'.out).mono ?_; rintro e w2 ⟨rfl, hb2⟩; have hb12 := hb1'.out.trans (hb2.mono hb1'.out.size); obtain ⟨e0, e1, f0, f1⟩ := (hy0'.out.below hb12 (by omega)).cells; have hb12' := Go.Lib.hid hb12; clear hb12 hb2))
    (try simp only [Exit.inBlock, Exit.then])
    refine bodyPost_ret (results_box_tmp (by rfl) _ _ (W.heap.size + 1 + 1) _ _ rfl ((hy0'.out.below hb12'.out (by omega)).set _ _)) rfl ?_
    exact ⟨rfl, ((hbE'.out.trans (hb12'.out.mono (by omega))).setCell (by simp; omega) _).setCell (by simp; omega) _⟩
  · have hck := Go.Lib.hid (BCheck_any W0 a len cap N l hrE hN 8 (.inr ⟨h1, rfl⟩))
    clear hr hr' hrE hrE' hx0 hb0 hy0 hbE hN hN' hv h1
    go_enter Try.func23, Try.ntmps23
    go_wp2_with (go_at_call 28; rw [← hW0]; refine hck.out.mono ?_; rintro e w1 ⟨rfl, hb1⟩; obtain ⟨e0, e1, f0, f1⟩ := (hy0'.out.below hb1 (by omega)).cells; have hb1' := Go.Lib.hid hb1; clear hb1 hW0)
    (try simp only [Exit.inBlock, Exit.then])
    refine bodyPost_ret (results_box_tmp (by rfl) _ _ (W.heap.size + 1 + 1) _ _ rfl ((hy0'.out.below hb1'.out (by omega)).set _ _)) rfl ?_
    exact ⟨rfl, ((hbE'.out.trans (hb1'.out.mono (by omega))).setCell (by simp; omega) _).setCell (by simp; omega) _⟩

theorem BJoin_full (h1 : Valid l N) (h2 : Valid l' N') (hf : 330000 < N + N') :
    Calls Try.prog 23 #[.agg #[.slice a len cap, .int .i64 N], .agg #[.slice a' len' cap', .int .i64 N']] W fun e W' => e = .returned (.tuple #[.agg #[.slice none 0 0, .int .i64 0], .int .i64 18]) ∧ Below W.heap.size W W' := by
  obtain ⟨W0, hW0, hbE, hs0, hx0, hb0, hy0⟩ := three_boxes W (.slice a len cap) N (.slice a' len' cap') N'
  have hrE := hr.below hbE (Nat.le_refl _)
  have hrE' := hr'.below hbE (Nat.le_refl _)
  have hx0' := Go.Lib.hid hx0
  have hy0' := Go.Lib.hid hy0
  have hb0' := Go.Lib.hid hb0
  have hbE' := Go.Lib.hid hbE
  have hck := Go.Lib.hid (BCheck_any W0 a len cap N l hrE hN 0 (.inl ⟨h1, rfl⟩))
  have hck2 : Hid (∀ w1, Below W0.heap.size W0 w1 → Calls Try.prog 28 #[.agg #[.slice a' len' cap', .int .i64 N']] w1 fun e W' => e = .returned (.int .i64 0) ∧ Below w1.heap.size w1 W') :=
    Go.Lib.hid fun w1 h1 => BCheck_any w1 a' len' cap' N' l' (hrE'.below h1 (Nat.le_refl _)) hN' 0 (.inl ⟨h2, rfl⟩)
  have n1 := h1.n
  have n2 := h2.n
  have hjo : Hid (∀ w, Calls Try.prog 33 #[.agg #[.slice a len cap, .int .i64 N], .agg #[.slice a' len' cap', .int .i64 N']] w fun e W' => e = .returned (.tuple #[.agg #[.slice none 0 0, .int .i64 0], .int .i64 18]) ∧ Below w.heap.size w W') := Go.Lib.hid (fun w => by
    have := Bjoin_full w a len cap N.toNat a' len' cap' N'.toNat (by omega) (by omega) (by omega)
    rwa [Int.toNat_of_nonneg n1.1, Int.toNat_of_nonneg n2.1] at this)
  clear hr hr' hrE hrE' hx0 hb0 hy0 hbE hN hN' h1 h2
  go_enter Try.func23, Try.ntmps23
  go_wp2_with (first
    | (go_at_call 28; rw [← hW0]; refine hck.out.mono ?_; rintro e w1 ⟨rfl, hb1⟩; obtain ⟨d0, d1, g0, g1⟩ := (hb0'.out.below hb1 (by omega)).cells; have hb1' := Go.Lib.hid hb1; clear hb1 hW0)
    | (go_at_call 28; refine (hck2.out _ hb1'.out).mono ?_; rintro e w2 ⟨rfl, hb2⟩; have hb12 := hb1'.out.trans (hb2.mono hb1'.out.size); obtain ⟨i0, i1, i2, i3⟩ := (hx0'.out.below hb12 (by omega)).cells; obtain ⟨e0, e1, f0, f1⟩ := (hb0'.out.below hb12 (by omega)).cells; have hb12' := Go.Lib.hid hb12; clear hb12 hb2)
    | (go_at_call 33; refine (hjo.out _).mono ?_; rintro e w3 ⟨rfl, hb3⟩; have hb13 := hb12'.out.trans (hb3.mono hb12'.out.size); obtain ⟨k0, k1, k2, k3⟩ := (hy0'.out.below hb13 (by omega)).cells; have hb13' := Go.Lib.hid hb13; clear hb3 hb13))
  (try simp only [Exit.inBlock, Exit.then])
  refine bodyPost_ret (results_box_tmp (by rfl) _ _ (W.heap.size + 1 + 1) _ _ rfl ((hy0'.out.below hb13'.out (by omega)).set _ _)) rfl ?_
  exact ⟨rfl, ((hbE'.out.trans (hb13'.out.mono (by omega))).setCell (by simp; omega) _).setCell (by simp; omega) _⟩

end

theorem BJoin_ok (W : World) (a : Option Addr) (len cap : Nat) (A : List Bool) (hr : Row .u8 W a len cap (pack A)) (a' : Option Addr) (len' cap' : Nat) (B : List Bool) (hr' : Row .u8 W a' len' cap' (pack B)) (hAB : A.length + B.length ≤ 330000) :
    Calls Try.prog 23 #[.agg #[.slice a len cap, .int .i64 A.length], .agg #[.slice a' len' cap', .int .i64 B.length]] W fun e W' => ∃ b c, e = .returned (.tuple #[.agg #[.slice b (((A ++ B).length + 7) / 8) c, .int .i64 ((A.length + B.length : Nat) : Int)], .int .i64 0]) ∧
      Row .u8 W' b (((A ++ B).length + 7) / 8) c (pack (A ++ B)) ∧ Below W.heap.size W W' := by
  obtain ⟨W0, hW0, hbE, hs0, hx0, hb0, hy0⟩ := three_boxes W (.slice a len cap) A.length (.slice a' len' cap') B.length
  have hrE := hr.below hbE (Nat.le_refl _)
  have hrE' := hr'.below hbE (Nat.le_refl _)
  have hx0' := Go.Lib.hid hx0
  have hy0' := Go.Lib.hid hy0
  have hb0' := Go.Lib.hid hb0
  have hbE' := Go.Lib.hid hbE
  have hck := Go.Lib.hid (BCheck_any W0 a len cap A.length (pack A) hrE (bounds_of_len (by omega)) 0 (.inl ⟨⟨A, rfl, by omega, rfl⟩, rfl⟩))
  have hck2 : Hid (∀ w1, Below W0.heap.size W0 w1 → Calls Try.prog 28 #[.agg #[.slice a' len' cap', .int .i64 B.length]] w1 fun e W' => e = .returned (.int .i64 0) ∧ Below w1.heap.size w1 W') :=
    Go.Lib.hid fun w1 h1 => BCheck_any w1 a' len' cap' B.length (pack B) (hrE'.below h1 (Nat.le_refl _)) (bounds_of_len (by omega)) 0 (.inl ⟨⟨B, rfl, by omega, rfl⟩, rfl⟩)
  obtain ⟨n, hn⟩ : ∃ n, n = A.length + B.length := ⟨_, rfl⟩
  obtain ⟨m, hm⟩ : ∃ m, m = ((A ++ B).length + 7) / 8 := ⟨_, rfl⟩
  obtain ⟨C, hC⟩ : ∃ C, C = pack (A ++ B) := ⟨_, rfl⟩
  have hjo : Hid (∀ w, Below W0.heap.size W0 w → Calls Try.prog 33 #[.agg #[.slice a len cap, .int .i64 A.length], .agg #[.slice a' len' cap', .int .i64 B.length]] w fun e W' => ∃ b c, e = .returned (.tuple #[.agg #[.slice b m c, .int .i64 n], .int .i64 0]) ∧ Row .u8 W' b m c C ∧ Below w.heap.size w W') := Go.Lib.hid (fun w hw => by
    rw [hn, hm, hC]
    exact Bjoin_ok w a len cap A (hrE.below hw (Nat.le_refl _)) a' len' cap' B (hrE'.below hw (Nat.le_refl _)) hAB)
  rw [← hn, ← hm, ← hC]
  clear hr hr' hrE hrE' hx0 hb0 hy0 hbE hn hm hC
  go_enter Try.func23, Try.ntmps23
  go_wp2_with (first
    | (go_at_call 28; rw [← hW0]; refine hck.out.mono ?_; rintro e w1 ⟨rfl, hb1⟩; obtain ⟨d0, d1, g0, g1⟩ := (hb0'.out.below hb1 (by omega)).cells; have hb1' := Go.Lib.hid hb1; clear hb1 hW0)
    | (go_at_call 28; refine (hck2.out _ hb1'.out).mono ?_; rintro e w2 ⟨rfl, hb2⟩; have hb12 := hb1'.out.trans (hb2.mono hb1'.out.size); obtain ⟨i0, i1, i2, i3⟩ := (hx0'.out.below hb12 (by omega)).cells; obtain ⟨e0, e1, f0, f1⟩ := (hb0'.out.below hb12 (by omega)).cells; have hb12' := Go.Lib.hid hb12; clear hb12 hb2)
    | (go_at_call 33; refine (hjo.out _ hb12'.out).mono ?_; rintro e w3 ⟨b3, cp3, rfl, hr3, hb3⟩; have hb13 := hb12'.out.trans (hb3.mono hb12'.out.size); obtain ⟨k0, k1, k2, k3⟩ := (hy0'.out.below hb13 (by omega)).cells; have hb13' := Go.Lib.hid hb13; have hr3' := Go.Lib.hid hr3; clear hb3 hb13 hr3))
  (try simp only [Exit.inBlock, Exit.then])
  have hy3 := hy0'.out.below hb13'.out (by omega)
  refine bodyPost_ret (results_box_tmp (by rfl) _ _ (W.heap.size + 1 + 1) _ _ rfl (hy3.set _ _)) rfl ?_
  refine ⟨b3, cp3, by simp, (hr3'.out.box hy3 0 (.slice b3 m cp3)).box (hy3.set0 _) 1 _, ?_⟩
  exact ((hbE'.out.trans (hb13'.out.mono (by omega))).setCell (by simp; omega) _).setCell (by simp; omega) _
end Go.Proofs.Ytahefkjgcdchlaa
