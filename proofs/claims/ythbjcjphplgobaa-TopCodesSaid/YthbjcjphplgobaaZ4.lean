/- Texts of the proof, one behind the other: BitJ, MyBitI, MyBitM, UnaP, RegX, UnaA, UnaB, UnaR, UnaS. -/
import Derived.Test.YthbjcjphplgobaaZ3
import Derived.Deep.RegionHeld3
import Derived.StillTail
/- Contracts of the reference's functions on bits: joined. -/
namespace Go.Proofs.Ythbjcjphplgobaa
open Go.RowKit Cad

theorem join_snoc (A B : List Bool) {k : Nat} (hk : k < B.length) : A ++ B.take (k + 1) = (A ++ B.take k) ++ [B.getD k false] := by
  rw [List.take_add_one, List.append_assoc]
  simp [List.getD, hk]
theorem join_len (A B : List Bool) {k : Nat} (hk : k ≤ B.length) : (A ++ B.take k).length = A.length + k := by simp; omega
theorem Kept.of {base : Nat} {W w : World} (h : Below W.heap.size W w) (hb : base ≤ W.heap.size) : Kept base W w := ⟨h.mono hb, fun k hk _ => h.block k hk⟩

end Go.Proofs.Ythbjcjphplgobaa

/- Contracts of the package bits and of its reference: Join, refusals too. -/
namespace Go.Proofs.Ythbjcjphplgobaa
open Go.RowKit Cad

/-- three boxes: what came in twice, and the bits that go out -/
theorem three_boxes (W : World) (v : Value) (N : Int) (v' : Value) (N' : Int) : ∃ W0, W0 = ((W.alloc (.cells #[v, .int .i64 N] 45)).alloc (.cells #[v', .int .i64 N'] 45)).alloc (.cells #[.slice none 0 0, .int .i64 0] 45) ∧ Below W.heap.size W W0 ∧ W0.heap.size = W.heap.size + 1 + 1 + 1 ∧
    BoxAt W0 W.heap.size v N ∧ BoxAt W0 (W.heap.size + 1) v' N' ∧ BoxAt W0 (W.heap.size + 1 + 1) (.slice none 0 0) 0 := by
  refine ⟨_, rfl, (((Below.refl W.heap.size W).alloc (Nat.le_refl _) _).alloc (by simp) _).alloc (by simp; omega) _, by simp, ?_, ?_, ?_⟩
  · unfold BoxAt; rw [Below.heap_alloc _ _ _ (by simp; omega), Below.heap_alloc _ _ _ (by simp), heap_alloc_new]
  · unfold BoxAt; rw [Below.heap_alloc _ _ _ (by simp), heap_alloc2_new]
  · have := heap_alloc_new ((W.alloc (.cells #[v, .int .i64 N] 45)).alloc (.cells #[v', .int .i64 N'] 45)) (.cells #[.slice none 0 0, .int .i64 0] 45)
    rw [show ((W.alloc (.cells #[v, .int .i64 N] 45)).alloc (.cells #[v', .int .i64 N'] 45)).heap.size = W.heap.size + 1 + 1 by simp] at this
    exact this

theorem Bjoin_full (W : World) (a : Option Addr) (len cap : Nat) (A : Nat) (a' : Option Addr) (len' cap' : Nat) (B : Nat) (hA : A ≤ 330000) (hB : B ≤ 330000) (hAB : 330000 < (A : Int) + (B : Int)) :
    Calls Try.prog 85 #[.agg #[.slice a len cap, .int .i64 A], .agg #[.slice a' len' cap', .int .i64 B]] W fun e W' => e = .returned (.tuple #[.agg #[.slice none 0 0, .int .i64 0], .int .i64 18]) ∧ Below W.heap.size W W' := by
  obtain ⟨W0, hW0, hbE, hs0, hx0, hb0, hy0⟩ := three_boxes W (.slice a len cap) A (.slice a' len' cap') B
  have hbE' := Go.Lib.hid hbE
  have hy0' := Go.Lib.hid hy0
  have hW0' := Go.Lib.hid hW0
  clear hbE hy0 hx0 hb0 hs0 hW0
  go_enter Try.func85, Try.ntmps85
  go_wp2
  (try simp only [Exit.inBlock, Exit.then])
  go_returns
  exact ⟨rfl, (((Below.refl W.heap.size W).alloc (Nat.le_refl _) _).alloc (by simp) _).alloc (by simp; omega) _⟩

section
variable (W : World) (a : Option Addr) (len cap : Nat) (N : Int) (l : List Int) (hr : Row .u8 W a len cap l) (hN : (Lit.int .i64 N).wf = true)
  (a' : Option Addr) (len' cap' : Nat) (N' : Int) (l' : List Int) (hr' : Row .u8 W a' len' cap' l') (hN' : (Lit.int .i64 N').wf = true)
include hr hN hr' hN'

theorem BJoin_bad (hv : ¬ Valid l N ∨ ¬ Valid l' N') :
    Calls Try.prog 58 #[.agg #[.slice a len cap, .int .i64 N], .agg #[.slice a' len' cap', .int .i64 N']] W fun e W' => e = .returned (.tuple #[.agg #[.slice none 0 0, .int .i64 0], .int .i64 8]) ∧ Below W.heap.size W W' := by
  obtain ⟨W0, hW0, hbE, hs0, hx0, hb0, hy0⟩ := three_boxes W (.slice a len cap) N (.slice a' len' cap') N'
  have hrE := hr.below hbE (Nat.le_refl _)
  have hrE' := hr'.below hbE (Nat.le_refl _)
  have hy0' := Go.Lib.hid hy0
  have hb0' := Go.Lib.hid hb0
  have hbE' := Go.Lib.hid hbE
  by_cases h1 : Valid l N
  · have hv' : ¬ Valid l' N' := hv.resolve_left fun h => h h1
    have hck := Go.Lib.hid (BCheck_any W0 a len cap N l hrE hN 0 (.inl ⟨h1, rfl⟩))
    have hck2 : Hid (∀ w1, Below W0.heap.size W0 w1 → Calls Try.prog 55 #[.agg #[.slice a' len' cap', .int .i64 N']] w1 fun e W' => e = .returned (.int .i64 8) ∧ Below w1.heap.size w1 W') :=
      Go.Lib.hid fun w1 h1 => BCheck_any w1 a' len' cap' N' l' (hrE'.below h1 (Nat.le_refl _)) hN' 8 (.inr ⟨hv', rfl⟩)
    clear hr hr' hrE hrE' hx0 hb0 hy0 hbE hN hN' hv hv' h1
    go_enter Try.func58, Try.ntmps58
    go_wp2_with (first
      | (go_at_call 55; rw [← hW0]; refine hck.out.mono ?_; rintro e w1 ⟨rfl, hb1⟩; obtain ⟨d0, d1, g0, g1⟩ := (hb0'.out.below hb1 (by omega)).cells; have hb1' := Go.Lib.hid hb1; clear hb1 hW0)
      | (go_at_call 55; refine (hck2.out _ hb1'.out).mono ?_; rintro e w2 ⟨rfl, hb2⟩; have hb12 := hb1'.out.trans (hb2.mono hb1'.out.size); obtain ⟨e0, e1, f0, f1⟩ := (hy0'.out.below hb12 (by omega)).cells; have hb12' := Go.Lib.hid hb12; clear hb12 hb2))
    (try simp only [Exit.inBlock, Exit.then])
    refine bodyPost_ret (results_box_tmp (by rfl) _ _ (W.heap.size + 1 + 1) _ _ rfl ((hy0'.out.below hb12'.out (by omega)).set _ _)) rfl ?_
    exact ⟨rfl, ((hbE'.out.trans (hb12'.out.mono (by omega))).setCell (by simp; omega) _).setCell (by simp; omega) _⟩
  · have hck := Go.Lib.hid (BCheck_any W0 a len cap N l hrE hN 8 (.inr ⟨h1, rfl⟩))
    clear hr hr' hrE hrE' hx0 hb0 hy0 hbE hN hN' hv h1
    go_enter Try.func58, Try.ntmps58
    go_wp2_with (go_at_call 55; rw [← hW0]; refine hck.out.mono ?_; rintro e w1 ⟨rfl, hb1⟩; obtain ⟨e0, e1, f0, f1⟩ := (hy0'.out.below hb1 (by omega)).cells; have hb1' := Go.Lib.hid hb1; clear hb1 hW0)
    (try simp only [Exit.inBlock, Exit.then])
    refine bodyPost_ret (results_box_tmp (by rfl) _ _ (W.heap.size + 1 + 1) _ _ rfl ((hy0'.out.below hb1'.out (by omega)).set _ _)) rfl ?_
    exact ⟨rfl, ((hbE'.out.trans (hb1'.out.mono (by omega))).setCell (by simp; omega) _).setCell (by simp; omega) _⟩

theorem BJoin_full (h1 : Valid l N) (h2 : Valid l' N') (hf : 330000 < N + N') :
    Calls Try.prog 58 #[.agg #[.slice a len cap, .int .i64 N], .agg #[.slice a' len' cap', .int .i64 N']] W fun e W' => e = .returned (.tuple #[.agg #[.slice none 0 0, .int .i64 0], .int .i64 18]) ∧ Below W.heap.size W W' := by
  obtain ⟨W0, hW0, hbE, hs0, hx0, hb0, hy0⟩ := three_boxes W (.slice a len cap) N (.slice a' len' cap') N'
  have hrE := hr.below hbE (Nat.le_refl _)
  have hrE' := hr'.below hbE (Nat.le_refl _)
  have hx0' := Go.Lib.hid hx0
  have hy0' := Go.Lib.hid hy0
  have hb0' := Go.Lib.hid hb0
  have hbE' := Go.Lib.hid hbE
  have hck := Go.Lib.hid (BCheck_any W0 a len cap N l hrE hN 0 (.inl ⟨h1, rfl⟩))
  have hck2 : Hid (∀ w1, Below W0.heap.size W0 w1 → Calls Try.prog 55 #[.agg #[.slice a' len' cap', .int .i64 N']] w1 fun e W' => e = .returned (.int .i64 0) ∧ Below w1.heap.size w1 W') :=
    Go.Lib.hid fun w1 h1 => BCheck_any w1 a' len' cap' N' l' (hrE'.below h1 (Nat.le_refl _)) hN' 0 (.inl ⟨h2, rfl⟩)
  have n1 := h1.n
  have n2 := h2.n
  have hjo : Hid (∀ w, Calls Try.prog 85 #[.agg #[.slice a len cap, .int .i64 N], .agg #[.slice a' len' cap', .int .i64 N']] w fun e W' => e = .returned (.tuple #[.agg #[.slice none 0 0, .int .i64 0], .int .i64 18]) ∧ Below w.heap.size w W') := Go.Lib.hid (fun w => by
    have := Bjoin_full w a len cap N.toNat a' len' cap' N'.toNat (by omega) (by omega) (by omega)
    rwa [Int.toNat_of_nonneg n1.1, Int.toNat_of_nonneg n2.1] at this)
  clear hr hr' hrE hrE' hx0 hb0 hy0 hbE hN hN' h1 h2
  go_enter Try.func58, Try.ntmps58
  go_wp2_with (first
    | (go_at_call 55; rw [← hW0]; refine hck.out.mono ?_; rintro e w1 ⟨rfl, hb1⟩; obtain ⟨d0, d1, g0, g1⟩ := (hb0'.out.below hb1 (by omega)).cells; have hb1' := Go.Lib.hid hb1; clear hb1 hW0)
    | (go_at_call 55; refine (hck2.out _ hb1'.out).mono ?_; rintro e w2 ⟨rfl, hb2⟩; have hb12 := hb1'.out.trans (hb2.mono hb1'.out.size); obtain ⟨i0, i1, i2, i3⟩ := (hx0'.out.below hb12 (by omega)).cells; obtain ⟨e0, e1, f0, f1⟩ := (hb0'.out.below hb12 (by omega)).cells; have hb12' := Go.Lib.hid hb12; clear hb12 hb2)
    | (go_at_call 85; refine (hjo.out _).mono ?_; rintro e w3 ⟨rfl, hb3⟩; have hb13 := hb12'.out.trans (hb3.mono hb12'.out.size); obtain ⟨k0, k1, k2, k3⟩ := (hy0'.out.below hb13 (by omega)).cells; have hb13' := Go.Lib.hid hb13; clear hb3 hb13))
  (try simp only [Exit.inBlock, Exit.then])
  refine bodyPost_ret (results_box_tmp (by rfl) _ _ (W.heap.size + 1 + 1) _ _ rfl ((hy0'.out.below hb13'.out (by omega)).set _ _)) rfl ?_
  exact ⟨rfl, ((hbE'.out.trans (hb13'.out.mono (by omega))).setCell (by simp; omega) _).setCell (by simp; omega) _⟩

end

theorem BJoin_ok (W : World) (a : Option Addr) (len cap : Nat) (A : List Bool) (hr : Row .u8 W a len cap (pack A)) (a' : Option Addr) (len' cap' : Nat) (B : List Bool) (hr' : Row .u8 W a' len' cap' (pack B)) (hAB : A.length + B.length ≤ 330000) :
    Calls Try.prog 58 #[.agg #[.slice a len cap, .int .i64 A.length], .agg #[.slice a' len' cap', .int .i64 B.length]] W fun e W' => ∃ b c, e = .returned (.tuple #[.agg #[.slice b (((A ++ B).length + 7) / 8) c, .int .i64 ((A.length + B.length : Nat) : Int)], .int .i64 0]) ∧
      Row .u8 W' b (((A ++ B).length + 7) / 8) c (pack (A ++ B)) ∧ Below W.heap.size W W' := by
  obtain ⟨W0, hW0, hbE, hs0, hx0, hb0, hy0⟩ := three_boxes W (.slice a len cap) A.length (.slice a' len' cap') B.length
  have hrE := hr.below hbE (Nat.le_refl _)
  have hrE' := hr'.below hbE (Nat.le_refl _)
  have hx0' := Go.Lib.hid hx0
  have hy0' := Go.Lib.hid hy0
  have hb0' := Go.Lib.hid hb0
  have hbE' := Go.Lib.hid hbE
  have hck := Go.Lib.hid (BCheck_any W0 a len cap A.length (pack A) hrE (bounds_of_len (by omega)) 0 (.inl ⟨⟨A, rfl, by omega, rfl⟩, rfl⟩))
  have hck2 : Hid (∀ w1, Below W0.heap.size W0 w1 → Calls Try.prog 55 #[.agg #[.slice a' len' cap', .int .i64 B.length]] w1 fun e W' => e = .returned (.int .i64 0) ∧ Below w1.heap.size w1 W') :=
    Go.Lib.hid fun w1 h1 => BCheck_any w1 a' len' cap' B.length (pack B) (hrE'.below h1 (Nat.le_refl _)) (bounds_of_len (by omega)) 0 (.inl ⟨⟨B, rfl, by omega, rfl⟩, rfl⟩)
  obtain ⟨n, hn⟩ : ∃ n, n = A.length + B.length := ⟨_, rfl⟩
  obtain ⟨m, hm⟩ : ∃ m, m = ((A ++ B).length + 7) / 8 := ⟨_, rfl⟩
  obtain ⟨C, hC⟩ : ∃ C, C = pack (A ++ B) := ⟨_, rfl⟩
  have hjo : Hid (∀ w, Below W0.heap.size W0 w → Calls Try.prog 85 #[.agg #[.slice a len cap, .int .i64 A.length], .agg #[.slice a' len' cap', .int .i64 B.length]] w fun e W' => ∃ b c, e = .returned (.tuple #[.agg #[.slice b m c, .int .i64 n], .int .i64 0]) ∧ Row .u8 W' b m c C ∧ Below w.heap.size w W') := Go.Lib.hid (fun w hw => by
    rw [hn, hm, hC]
    exact Bjoin_ok w a len cap A (hrE.below hw (Nat.le_refl _)) a' len' cap' B (hrE'.below hw (Nat.le_refl _)) hAB)
  rw [← hn, ← hm, ← hC]
  clear hr hr' hrE hrE' hx0 hb0 hy0 hbE hn hm hC
  go_enter Try.func58, Try.ntmps58
  go_wp2_with (first
    | (go_at_call 55; rw [← hW0]; refine hck.out.mono ?_; rintro e w1 ⟨rfl, hb1⟩; obtain ⟨d0, d1, g0, g1⟩ := (hb0'.out.below hb1 (by omega)).cells; have hb1' := Go.Lib.hid hb1; clear hb1 hW0)
    | (go_at_call 55; refine (hck2.out _ hb1'.out).mono ?_; rintro e w2 ⟨rfl, hb2⟩; have hb12 := hb1'.out.trans (hb2.mono hb1'.out.size); obtain ⟨i0, i1, i2, i3⟩ := (hx0'.out.below hb12 (by omega)).cells; obtain ⟨e0, e1, f0, f1⟩ := (hb0'.out.below hb12 (by omega)).cells; have hb12' := Go.Lib.hid hb12; clear hb12 hb2)
    | (go_at_call 85; refine (hjo.out _ hb12'.out).mono ?_; rintro e w3 ⟨b3, cp3, rfl, hr3, hb3⟩; have hb13 := hb12'.out.trans (hb3.mono hb12'.out.size); obtain ⟨k0, k1, k2, k3⟩ := (hy0'.out.below hb13 (by omega)).cells; have hb13' := Go.Lib.hid hb13; have hr3' := Go.Lib.hid hr3; clear hb3 hb13 hr3))
  (try simp only [Exit.inBlock, Exit.then])
  have hy3 := hy0'.out.below hb13'.out (by omega)
  refine bodyPost_ret (results_box_tmp (by rfl) _ _ (W.heap.size + 1 + 1) _ _ rfl (hy3.set _ _)) rfl ?_
  refine ⟨b3, cp3, by simp, (hr3'.out.box hy3 0 (.slice b3 m cp3)).box (hy3.set0 _) 1 _, ?_⟩
  exact ((hbE'.out.trans (hb13'.out.mono (by omega))).setCell (by simp; omega) _).setCell (by simp; omega) _
end Go.Proofs.Ythbjcjphplgobaa

/- Contracts of the package bits: Get and Put where they refuse. -/
namespace Go.Proofs.Ythbjcjphplgobaa
open Go.RowKit Cad

theorem BGet_bad (W : World) (a : Option Addr) (len cap : Nat) (N : Int) (l : List Int) (i n : Int) (hr : Row .u8 W a len cap l) (hN : (Lit.int .i64 N).wf = true) (hv : ¬ Valid l N) :
    Calls Try.prog 98 #[.agg #[.slice a len cap, .int .i64 N], .int .i64 i, .int .i64 n] W fun e W' => e = .returned (.tuple #[.int .u64 0, .int .i64 8]) ∧ Below W.heap.size W W' := by
  have hbE' := Go.Lib.hid (below1 W (.cells #[.slice a len cap, .int .i64 N] 45))
  have hck := Go.Lib.hid (BCheck_any _ a len cap N l (hr.below hbE'.out (Nat.le_refl _)) hN 8 (.inr ⟨hv, rfl⟩))
  clear hr hN hv
  go_enter Try.func98, Try.ntmps98
  go_wp2_with (go_at_call 55; refine hck.out.mono ?_; rintro e w1 ⟨rfl, hb1⟩; have hb1' := Go.Lib.hid hb1; clear hb1)
  go_ret2
  exact ⟨rfl, hbE'.out.trans (hb1'.out.mono (by simp))⟩

theorem BGet_arg (W : World) (a : Option Addr) (len cap : Nat) (N : Int) (l : List Int) (i : Int) (n : Nat) (hr : Row .u8 W a len cap l) (hN : (Lit.int .i64 N).wf = true) (hv : Valid l N) (hn : n ≤ 64) (hi : i < 0) :
    Calls Try.prog 98 #[.agg #[.slice a len cap, .int .i64 N], .int .i64 i, .int .i64 n] W fun e W' => e = .returned (.tuple #[.int .u64 0, .int .i64 2]) ∧ Below W.heap.size W W' := by
  have hbE' := Go.Lib.hid (below1 W (.cells #[.slice a len cap, .int .i64 N] 45))
  have hck := Go.Lib.hid (BCheck_any _ a len cap N l (hr.below hbE'.out (Nat.le_refl _)) hN 0 (.inl ⟨hv, rfl⟩))
  clear hr hN hv
  go_enter Try.func98, Try.ntmps98
  go_wp2_with (first
    | (go_at_call 55; refine hck.out.mono ?_; rintro e w1 ⟨rfl, hb1⟩; have hb1' := Go.Lib.hid hb1; clear hb1)
    | (go_at_call 89; refine (BisNumberSize_ok _ n hn).mono ?_; rintro e w5 ⟨rfl, rfl⟩))
  go_ret2
  exact ⟨rfl, hbE'.out.trans (hb1'.out.mono (by simp))⟩

theorem BGet_short (W : World) (a : Option Addr) (len cap : Nat) (N : Int) (l : List Int) (i : Int) (n : Nat) (hr : Row .u8 W a len cap l) (hN : (Lit.int .i64 N).wf = true) (hv : Valid l N) (hn : n ≤ 64) (hi : ¬ i < 0) (hs : N - n < i) :
    Calls Try.prog 98 #[.agg #[.slice a len cap, .int .i64 N], .int .i64 i, .int .i64 n] W fun e W' => e = .returned (.tuple #[.int .u64 0, .int .i64 24]) ∧ Below W.heap.size W W' := by
  have hbE' := Go.Lib.hid (below1 W (.cells #[.slice a len cap, .int .i64 N] 45))
  have hck := Go.Lib.hid (BCheck_any _ a len cap N l (hr.below hbE'.out (Nat.le_refl _)) hN 0 (.inl ⟨hv, rfl⟩))
  have hx0' := Go.Lib.hid (show BoxAt (W.alloc (.cells #[.slice a len cap, .int .i64 N] 45)) W.heap.size (.slice a len cap) N from heap_alloc_new _ _)
  have bN := hv.n
  clear hr hN hv
  go_enter Try.func98, Try.ntmps98
  go_wp2_with (first
    | (go_at_call 55; refine hck.out.mono ?_; rintro e w1 ⟨rfl, hb1⟩; obtain ⟨c0, c1, c2, c3⟩ := (hx0'.out.below hb1 (by simp)).cells; have hb1' := Go.Lib.hid hb1; clear hb1)
    | (go_at_call 89; refine (BisNumberSize_ok _ n hn).mono ?_; rintro e w5 ⟨rfl, rfl⟩))
  go_ret2
  exact ⟨rfl, hbE'.out.trans (hb1'.out.mono (by simp))⟩

theorem BPut_full (W : World) (a : Option Addr) (len cap : Nat) (B : List Bool) (v n : Nat) (hr : Row .u8 W a len cap (pack B)) (hB : B.length ≤ 330000) (hf : 330000 < B.length + n) (hn : n ≤ 64) (hv : v < 2 ^ n) :
    Calls Try.prog 61 #[.agg #[.slice a len cap, .int .i64 B.length], .int .u64 v, .int .i64 n] W fun e W' => e = .returned (.tuple #[.agg #[.slice none 0 0, .int .i64 0], .int .i64 18]) ∧ Below W.heap.size W W' := by
  obtain ⟨W0, hW0, hbE, hs0, hx0, hy0⟩ := two_boxes W (.slice a len cap) B.length
  have hrE := hr.below hbE (Nat.le_refl _)
  have hck := Go.Lib.hid (BCheck_any W0 a len cap B.length (pack B) hrE (bounds_of_len (by omega)) 0 (.inl ⟨⟨B, rfl, by omega, rfl⟩, rfl⟩))
  have hx0' := Go.Lib.hid hx0
  have hy0' := Go.Lib.hid hy0
  have hbE' := Go.Lib.hid hbE
  have hrE' := Go.Lib.hid hrE
  have hs0' := Go.Lib.hid hs0
  have hof : Hid (∀ w, Calls Try.prog 90 #[.int .u64 v, .int .i64 n] w fun e W' => ∃ b c, e = .returned (.agg #[.slice b ((n + 7) / 8) c, .int .i64 n]) ∧ Row .u8 W' b ((n + 7) / 8) c (pack (numB v n)) ∧ Below w.heap.size w W') :=
    Go.Lib.hid fun w => BofNumber_ok w v n hn hv
  obtain ⟨q, hq⟩ : ∃ q, q = (n + 7) / 8 := ⟨_, rfl⟩
  rw [← hq] at hof
  have hqb : q ≤ 8 := by omega
  have hjo : Hid (∀ (w : World) b c, Calls Try.prog 85 #[.agg #[.slice a len cap, .int .i64 B.length], .agg #[.slice b q c, .int .i64 n]] w fun e W' => e = .returned (.tuple #[.agg #[.slice none 0 0, .int .i64 0], .int .i64 18]) ∧ Below w.heap.size w W') := Go.Lib.hid (fun w b c =>
    Bjoin_full w a len cap B.length b q c n hB (by omega) (by omega))
  have hz : (v : Int) / 2 ^ n = 0 := by
    have : v / 2 ^ n = 0 := Nat.div_eq_of_lt hv
    have e : ((v : Int) / 2 ^ n) = ((v / 2 ^ n : Nat) : Int) := by simp
    rw [e, this]; rfl
  have hv64 : v < 18446744073709551616 := Nat.lt_of_lt_of_le hv (Nat.pow_le_pow_right (n := 2) (by decide) hn)
  clear hx0 hy0 hbE hrE hr hv hq
  go_enter Try.func61, Try.ntmps61
  go_wp2_with (first
    | (go_at_call 55; rw [← hW0]; refine hck.out.mono ?_; rintro e w1 ⟨rfl, hb1⟩; obtain ⟨c0, c1, c2, c3⟩ := (hx0'.out.below hb1 (by omega)).cells; have hb1' := Go.Lib.hid hb1; clear hb1 hW0)
    | (go_at_call 89; refine (BisNumberSize_ok _ n hn).mono ?_; rintro e w5 ⟨rfl, rfl⟩))
  go_region_held3 (fun w' => w'.cell? ⟨W.heap.size, 0, none⟩ = some (.slice a len cap) ∧ w'.cell? ⟨W.heap.size, 1, none⟩ = some (.int .i64 B.length))
    (first
      | go_keep
      | (go_split_ands
         refine ⟨?_, ?_⟩
         · first | exact ((hx0'.out.below hb13 (by omega)).cells).1 | exact ((hx0'.out.below hb12 (by omega)).cells).1
         · first | exact ((hx0'.out.below hb13 (by omega)).cells).2.1 | exact ((hx0'.out.below hb12 (by omega)).cells).2.1))
    ((first
      | (go_at_call 90; refine (hof.out _).mono ?_; rintro e w2 ⟨b2, cp2, rfl, hr2, hb2⟩; have hb12 := hb1'.out.drew.trans (hb2.mono hb1'.out.drew.size))
      | (go_at_call 85; refine (hjo.out _ _ _).mono ?_; rintro e w3 ⟨rfl, hb3⟩; have hb13 := hb12.trans (hb3.mono hb12.size); obtain ⟨e0, e1, f0, f1⟩ := (hy0'.out.below hb13 (by omega)).cells)))
  go_wp2
  (try simp only [Exit.inBlock, Exit.then])
  have hy3 := hy0'.out.below hb13 (by omega)
  refine bodyPost_ret (results_box_tmp (by rfl) _ _ (W.heap.size + 1) _ _ rfl (hy3.set _ _)) rfl ?_
  refine ⟨by simp, ?_⟩
  exact ((hbE'.out.trans (hb13.mono (by omega))).setCell (by simp) _).setCell (by simp) _
end Go.Proofs.Ythbjcjphplgobaa

/- Runs of ones, as lists of Bools: no Go function in sight. -/
namespace Cad

/-- the length of a number's run -/
def runLen (n : Nat) : Nat := if n = 48 then 48 else n + 1
/-- the run of a number -/
def runB (n : Nat) : List Bool := List.replicate n true ++ (if n < 48 then [false] else [])
theorem runB_len {n : Nat} (h : n ≤ 48) : (runB n).length = runLen n := by
  unfold runB runLen
  by_cases e : n = 48
  · subst e; simp
  · rw [if_neg e, if_pos (by omega)]; simp
theorem runLen_le {n : Nat} (h : n ≤ 48) : runLen n ≤ 48 := by unfold runLen; split <;> omega
theorem runLen_pos (n : Nat) : 1 ≤ runLen n := by unfold runLen; split <;> omega

/-- a number's run is the number 2^n - 1 in so many bits -/
theorem numB_ones (n m : Nat) (h : n ≤ m) : numB (2 ^ n - 1) m = List.replicate n true ++ List.replicate (m - n) false := by
  apply ext_getD
  · rw [numB_len]; simp; omega
  · intro i hi
    rw [numB_len] at hi
    have e : (numB (2 ^ n - 1) m).getD i false = Nat.testBit (2 ^ n - 1) i := by
      simp only [numB, List.getD, List.getElem?_map, List.getElem?_range hi, Option.map_some, Option.getD_some]
      rw [Nat.testBit_eq_decide_div_mod_eq]
      by_cases hh : (2 ^ n - 1) / 2 ^ i % 2 = 1 <;> simp [hh]
    rw [e, Nat.testBit_two_pow_sub_one]
    by_cases hin : i < n
    · simp [List.getD, List.getElem?_append_left, hin]
    · have h2 : i - n < m - n := by omega
      simp [List.getD, List.getElem?_append_right, hin, Nat.not_lt.1 hin, h2]
theorem run_num {n : Nat} (h : n ≤ 48) : numB (2 ^ n - 1) (runLen n) = runB n := by
  unfold runB runLen
  by_cases e : n = 48
  · subst e; rw [if_pos rfl, if_neg (by decide), numB_ones 48 48 (by decide)]; simp
  · rw [if_neg e, if_pos (by omega), numB_ones n (n + 1) (by omega), show n + 1 - n = 1 by omega]; rfl

/-- how many ones stand at the front, at most k -/
def lead : List Bool → Nat → Nat
  | true :: B, k + 1 => lead B k + 1
  | _, _ => 0
theorem lead_le : ∀ (B : List Bool) (k : Nat), lead B k ≤ k
  | [], k => by cases k <;> simp [lead]
  | true :: B, 0 => by simp [lead]
  | true :: B, k + 1 => by have := lead_le B k; simp only [lead]; omega
  | false :: B, k => by cases k <;> simp [lead]
theorem lead_len : ∀ (B : List Bool) (k : Nat), lead B k ≤ B.length
  | [], k => by cases k <;> simp [lead]
  | true :: B, 0 => by simp [lead]
  | true :: B, k + 1 => by have := lead_len B k; simp only [lead, List.length_cons]; omega
  | false :: B, k => by cases k <;> simp [lead]
theorem lead_one : ∀ (B : List Bool) (k i : Nat), i < lead B k → B.getD i false = true
  | [], k, i => by cases k <;> simp [lead]
  | true :: B, 0, i => by simp [lead]
  | true :: B, k + 1, 0 => by simp [List.getD]
  | true :: B, k + 1, i + 1 => by
    intro h
    simp only [lead] at h
    have := lead_one B k i (by omega)
    simpa [List.getD] using this
  | false :: B, k, i => by cases k <;> simp [lead]
theorem lead_stop : ∀ (B : List Bool) (k : Nat), lead B k < k → B.getD (lead B k) false = false
  | [], k => by cases k <;> simp [lead, List.getD]
  | true :: B, 0 => by simp [lead]
  | true :: B, k + 1 => by
    intro h
    simp only [lead] at h ⊢
    have := lead_stop B k (by omega)
    simpa [List.getD] using this
  | false :: B, k => by cases k <;> simp [lead, List.getD]
/-- what stands at the front decides -/
theorem lead_eq (B : List Bool) (k n : Nat) (hn : n ≤ k) (h1 : ∀ i, i < n → B.getD i false = true) (h2 : n < k → B.getD n false = false) (_hl : n ≤ B.length) : lead B k = n := by
  rcases Nat.lt_trichotomy (lead B k) n with h | h | h
  · have := lead_stop B k (by omega)
    rw [h1 _ h] at this; cases this
  · exact h
  · have := lead_one B k n h
    rw [h2 (by have := lead_le B k; omega)] at this; cases this
theorem drop_getD (B : List Bool) (i j : Nat) : (B.drop i).getD j false = B.getD (i + j) false := by simp [List.getD]

/-- what is read from index i on: the number, the index behind it, the error -/
def readV (B : List Bool) (i : Nat) : Nat × Nat × Nat :=
  let n := lead (B.drop i) 48
  if n = 48 then (48, i + 48, 0) else if i + n < B.length then (n, i + n + 1, 0) else (0, 0, 24)

theorem readV_full {B : List Bool} {i : Nat} (h : lead (B.drop i) 48 = 48) : readV B i = (48, i + 48, 0) := by
  unfold readV; simp [h]
theorem readV_zero {B : List Bool} {i : Nat} {n : Nat} (h : lead (B.drop i) 48 = n) (h1 : n < 48) (h2 : i + n < B.length) : readV B i = (n, i + n + 1, 0) := by
  unfold readV; simp only [h]; rw [if_neg (by omega), if_pos h2]
theorem readV_short {B : List Bool} {i : Nat} {n : Nat} (h : lead (B.drop i) 48 = n) (h1 : n < 48) (h2 : B.length ≤ i + n) : readV B i = (0, 0, 24) := by
  unfold readV; simp only [h]; rw [if_neg (by omega), if_neg (by omega)]

/-- a run behind bits is read -/
theorem read_run (A C : List Bool) {n : Nat} (hn : n ≤ 48) : readV (A ++ runB n ++ C) A.length = (n, A.length + runLen n, 0) := by
  have hd : (A ++ runB n ++ C).drop A.length = runB n ++ C := by rw [List.append_assoc, List.drop_left]
  have hl := runB_len hn
  have hlead : lead (runB n ++ C) 48 = n := by
    apply lead_eq _ _ _ hn
    · intro i hi
      unfold runB
      simp [List.getD, List.getElem?_append_left, hi]
    · intro h
      unfold runB
      simp [List.getD, h]
    · unfold runB; simp
  rw [← hd] at hlead
  by_cases e : n = 48
  · subst e; rw [readV_full hlead]; simp [runLen]
  · rw [readV_zero hlead (by omega) (by simp [hl, runLen, e]; omega)]
    simp [runLen, e]; omega
end Cad

/- A region that draws its order is walked once, in one order that is given: operations that only read and those that act (calls, stores, appends); the ones that act follow each other. No Go function in sight. -/
namespace Go.Proofs.Ythbjcjphplgobaa
open Go.RowKit

section
variable {P : Program} {ops : Array Oper} {ex : List (Nat × Nat)} {C : World → Prop} {Q : Exit → Act → World → Prop}

/-- kinds: 0 looks at no world; 1 only looks at the world as it stands; 2 looks at what C holds; 3 acts, and C holds behind it; 4 acts, and nothing looks at what C holds behind it -/
def act (k : Nat) : Bool := k == 3 || k == 4
def needs (k : Nat) : Bool := !(k == 0 || k == 1 || k == 3 || k == 4)
def cls (C : World → Prop) (w : World) (k : Nat) (wa : World) : Prop := if k = 0 then True else if k = 1 then wa = w else C wa

def Held (P : Program) (ops : Array Oper) (D : World → Prop) (o : Oper) (a : Act) (v : Value) : Prop :=
  ∀ wa, D wa → ∃ v', a.put o.dst v' = a.put o.dst v ∧ (if Region.wanted o (yielded ops a.tmps) = true then o.quietAt P a (fun w' => w' = wa) wa v' else v' = undef)

def wpW (P : Program) (ops : Array Oper) (C : World → Prop) (Q : Exit → Act → World → Prop) : List (Nat × Oper) → Act → World → Prop
  | [], a, w => Q .normal a w
  | (k, o) :: rest, a, w =>
    if k = 3 then (if Region.wanted o (yielded ops a.tmps) = true then o.wp P a w (fun a' w' => C w' ∧ wpW P ops C Q rest a' w') Q else wpW P ops C Q rest (a.put o.dst undef) w)
    else if k = 4 then (if Region.wanted o (yielded ops a.tmps) = true then o.wp P a w (fun a' w' => wpW P ops C Q rest a' w') Q else wpW P ops C Q rest (a.put o.dst undef) w)
    else ∃ v, Held P ops (cls C w k) o a v ∧ wpW P ops C Q rest (a.put o.dst v) w

def nth : List Oper → Nat → Option Oper
  | [], _ => none
  | o :: _, 0 => some o
  | _ :: l, n + 1 => nth l n
theorem nth_eq : ∀ (l : List Oper) (n : Nat), nth l n = l[n]?
  | [], n => by simp [nth]
  | o :: l, 0 => by simp [nth]
  | o :: l, n + 1 => by simp [nth, nth_eq l n]
def pick (l : List Oper) : List (Nat × Nat) → List (Nat × Oper)
  | [] => []
  | (p, k) :: r => match nth l p with
    | some o => (k, o) :: pick l r
    | none => []

/-- j waits for i, by an edge of the region or by one that was added -/
def wts (ops : Array Oper) (ex : List (Nat × Nat)) (j i : Nat) : Bool := Region.waitsFor .any ops j i || ex.any fun q => q.1 == j && q.2 == i
/-- i may come up -/
def Rdy (ops : Array Oper) (ex : List (Nat × Nat)) (listed : Array Bool) (i : Nat) : Prop := i ∈ Region.ready .any ops listed ∧ ∀ q ∈ ex, q.1 = i → listed.getD q.2 false = true
theorem Rdy.wts {ops : Array Oper} {ex : List (Nat × Nat)} {listed : Array Bool} {i m : Nat} (h : Rdy ops ex listed i) (hw : wts ops ex i m = true) : listed.getD m false = true := by
  unfold Proofs.Ythbjcjphplgobaa.wts at hw
  rw [Bool.or_eq_true] at hw
  rcases hw with hw | hw
  · obtain ⟨oj, hoj, e, he, hb, hon⟩ := Region.waitsFor_spec hw
    obtain ⟨_, o, ho, hall⟩ := mem_ready.1 h.1
    obtain rfl : o = oj := Option.some.inj (ho.symm.trans hoj)
    rw [← hon]
    exact hall e he hb
  · obtain ⟨q, hq, hqe⟩ := List.any_eq_true.1 hw
    rw [Bool.and_eq_true, beq_iff_eq, beq_iff_eq] at hqe
    rw [← hqe.2]
    exact h.2 q hq hqe.1

/-- what waits for one of acc, one behind the other -/
def blk (ops : Array Oper) (ex : List (Nat × Nat)) : List Nat → List (Nat × Nat) → List Nat
  | acc, [] => acc
  | acc, (j, _) :: post => if acc.any (fun m => wts ops ex j m) then blk ops ex (j :: acc) post else blk ops ex acc post

def okR (ops : Array Oper) (ex : List (Nat × Nat)) : List (Nat × Nat) → Bool
  | [] => true
  | (p, k) :: post =>
    (match ops[p]? with
     | none => false
     | some o => o.after.all (fun e => !Region.binds .any e || (decide (e.on < ops.size) && e.on != p && !(post.any fun q => q.1 == e.on))) &&
       ex.all (fun x => x.1 != p || (decide (x.2 < ops.size) && x.2 != p && !(post.any fun q => q.1 == x.2))) &&
       (act k || post.all fun q => wts ops ex q.1 p || (match ops[q.1]? with | some oj => o.apart ops oj | none => false))) &&
    (!act k || post.all fun q => (blk ops ex [p] post).contains q.1) &&
    (k != 1 || post.all fun q => !act q.2 || (blk ops ex [p] post).contains q.1) &&
    (!needs k || post.all fun q => q.2 != 4 || (blk ops ex [p] post).contains q.1) &&
    (k != 4 || post.all fun q => !needs q.2) &&
    !(post.any fun q => q.1 == p) && okR ops ex post

theorem blk_sub : ∀ (l : List (Nat × Nat)) (acc : List Nat) (x : Nat), x ∈ acc → x ∈ blk ops ex acc l
  | [], acc, x, h => h
  | (j, k) :: l, acc, x, h => by
    unfold blk
    split
    · exact blk_sub l _ x (List.mem_cons_of_mem _ h)
    · exact blk_sub l _ x h

/-- what is blocked cannot come up -/
theorem blk_unready {listed : Array Bool} : ∀ (l : List (Nat × Nat)) (acc : List Nat), (∀ x ∈ acc, listed.getD x true = false) → (∀ q ∈ l, listed.getD q.1 true = false) →
    ∀ x ∈ blk ops ex acc l, x ∉ acc → ¬ Rdy ops ex listed x
  | [], acc, _, _, x, hx, hn => absurd hx hn
  | (j, k) :: l, acc, ha, hl, x, hx, hn => by
    unfold blk at hx
    split at hx
    · rename_i hw
      by_cases e : x = j
      · subst e
        intro hr
        obtain ⟨m, hm, hw⟩ := List.any_eq_true.1 hw
        have h1 := hr.wts hw
        rw [getD_both (ha m hm)] at h1
        cases h1
      · exact blk_unready l (j :: acc) (fun y hy => by
          rcases List.mem_cons.1 hy with rfl | hy
          · exact hl (y, k) (List.mem_cons_self ..)
          · exact ha y hy) (fun q hq => hl q (List.mem_cons_of_mem _ hq)) x hx (fun h => by
          rcases List.mem_cons.1 h with h | h
          · exact e h
          · exact hn h)
    · exact blk_unready l acc ha (fun q hq => hl q (List.mem_cons_of_mem _ hq)) x hx hn

/-- what is not blocked may be left out -/
theorem blk_remove : ∀ (pre : List (Nat × Nat)) (i k : Nat) (post : List (Nat × Nat)) (acc : List Nat), i ∉ blk ops ex acc (pre ++ (i, k) :: post) → blk ops ex acc (pre ++ (i, k) :: post) = blk ops ex acc (pre ++ post)
  | [], i, k, post, acc, h => by
    simp only [List.nil_append] at h ⊢
    rw [blk] at h ⊢
    split
    · rename_i hw
      rw [if_pos hw] at h
      exact absurd (blk_sub post _ i (List.mem_cons_self ..)) h
    · rfl
  | (j, kj) :: pre, i, k, post, acc, h => by
    simp only [List.cons_append] at h ⊢
    rw [blk] at h ⊢
    rw [blk]
    split
    · rename_i hw
      rw [if_pos hw] at h
      exact blk_remove pre i k post _ h
    · rename_i hw
      rw [if_neg hw] at h
      exact blk_remove pre i k post _ h

structure OkAt (ops : Array Oper) (ex : List (Nat × Nat)) (p k : Nat) (post : List (Nat × Nat)) (o : Oper) : Prop where
  op : ops[p]? = some o
  deps : ∀ e ∈ o.after, Region.binds .any e = true → e.on < ops.size ∧ e.on ≠ p ∧ ∀ q ∈ post, q.1 ≠ e.on
  extra : ∀ x ∈ ex, x.1 = p → x.2 < ops.size ∧ x.2 ≠ p ∧ ∀ q ∈ post, q.1 ≠ x.2
  apart : act k = false → ∀ q ∈ post, wts ops ex q.1 p = true ∨ ∃ oj, ops[q.1]? = some oj ∧ o.apart ops oj = true
  acts : act k = true → ∀ q ∈ post, q.1 ∈ blk ops ex [p] post
  here : k = 1 → ∀ q ∈ post, act q.2 = true → q.1 ∈ blk ops ex [p] post
  keep : needs k = true → ∀ q ∈ post, q.2 = 4 → q.1 ∈ blk ops ex [p] post
  last : k = 4 → ∀ q ∈ post, needs q.2 = false
  once : ∀ q ∈ post, q.1 ≠ p
  rest : okR ops ex post = true

theorem okR_cons {p k : Nat} {post : List (Nat × Nat)} (h : okR ops ex ((p, k) :: post) = true) : ∃ o, OkAt ops ex p k post o := by
  unfold okR at h
  simp only [Bool.and_eq_true] at h
  obtain ⟨⟨⟨⟨⟨⟨h1, h2⟩, h3⟩, h6⟩, h7⟩, h4⟩, h5⟩ := h
  cases ho : ops[p]? with
  | none => rw [ho] at h1; cases h1
  | some o =>
    rw [ho] at h1
    simp only [Bool.and_eq_true, Bool.or_eq_true] at h1
    refine ⟨o, ho, ?_, ?_, ?_, ?_, ?_, ?_, ?_, ?_, h5⟩
    · intro e he hb
      have := Array.all_eq_true_iff_forall_mem.1 h1.1.1 e he
      simp only [hb, Bool.not_true, Bool.false_or, Bool.and_eq_true, decide_eq_true_eq, bne_iff_ne, ne_eq] at this
      refine ⟨this.1.1, this.1.2, fun q hq hqe => ?_⟩
      have h2 := this.2
      rw [Bool.not_eq_true', List.any_eq_false] at h2
      exact h2 q hq (by simp [hqe])
    · intro x hx hxp
      have := List.all_eq_true.1 h1.1.2 x hx
      simp only [hxp, bne_self_eq_false, Bool.false_or, Bool.and_eq_true, decide_eq_true_eq, bne_iff_ne, ne_eq] at this
      refine ⟨this.1.1, this.1.2, fun q hq hqe => ?_⟩
      have h2 := this.2
      rw [Bool.not_eq_true', List.any_eq_false] at h2
      exact h2 q hq (by simp [hqe])
    · intro hk q hq
      rcases h1.2 with h | h
      · rw [hk] at h; cases h
      · have := List.all_eq_true.1 h q hq
        rw [Bool.or_eq_true] at this
        rcases this with h | h
        · exact .inl h
        · refine .inr ?_
          cases hq1 : ops[q.1]? with
          | none => rw [hq1] at h; cases h
          | some oj => rw [hq1] at h; exact ⟨oj, rfl, h⟩
    · intro hk q hq
      rw [hk, Bool.not_true, Bool.false_or] at h2
      have := List.all_eq_true.1 h2 q hq
      simpa using this
    · intro hk q hq hq3
      subst hk
      simp only [bne_self_eq_false, Bool.false_or] at h3
      have := List.all_eq_true.1 h3 q hq
      rw [Bool.or_eq_true] at this
      rcases this with h | h
      · simp [hq3] at h
      · simpa using h
    · intro hk q hq hq4
      rw [hk, Bool.not_true, Bool.false_or] at h6
      have := List.all_eq_true.1 h6 q hq
      rw [Bool.or_eq_true] at this
      rcases this with h | h
      · simp [hq4] at h
      · simpa using h
    · intro hk q hq
      subst hk
      simp only [bne_self_eq_false, Bool.false_or] at h7
      have := List.all_eq_true.1 h7 q hq
      simpa using this
    · intro q hq e
      rw [Bool.not_eq_true', List.any_eq_false] at h4
      exact h4 q hq (by simp [e])

/-- one of the list comes up: no one ahead of it blocks it -/
theorem okR_remove : ∀ (pre : List (Nat × Nat)) (i k : Nat) (post : List (Nat × Nat)), okR ops ex (pre ++ (i, k) :: post) = true →
    (∀ l1 p kp l2, pre = l1 ++ (p, kp) :: l2 → i ∉ blk ops ex [p] (l2 ++ (i, k) :: post)) → okR ops ex (pre ++ post) = true
  | [], i, k, post, h, _ => by
    obtain ⟨o, ho⟩ := okR_cons h
    exact ho.rest
  | (p, kp) :: pre, i, k, post, h, hb => by
    simp only [List.cons_append] at h ⊢
    obtain ⟨o, ho⟩ := okR_cons h
    have hi := hb [] p kp pre rfl
    have hbk := blk_remove pre i k post [p] hi
    have hr := okR_remove pre i k post ho.rest (fun l1 p' kp' l2 e => hb ((p, kp) :: l1) p' kp' l2 (by rw [e]; rfl))
    have hsub : ∀ q, q ∈ pre ++ post → q ∈ pre ++ (i, k) :: post := fun q hq => by
      rcases List.mem_append.1 hq with h | h
      · exact List.mem_append_left _ h
      · exact List.mem_append_right _ (List.mem_cons_of_mem _ h)
    unfold okR
    rw [ho.op]
    simp only [Bool.and_eq_true, Bool.or_eq_true]
    refine ⟨⟨⟨⟨⟨⟨⟨⟨?_, ?_⟩, ?_⟩, ?_⟩, ?_⟩, ?_⟩, ?_⟩, ?_⟩, hr⟩
    · refine Array.all_eq_true_iff_forall_mem.2 fun e he => ?_
      cases hbd : Region.binds .any e with
      | false => simp
      | true =>
        obtain ⟨h1, h2, h3⟩ := ho.deps e he hbd
        simp only [Bool.not_true, Bool.false_or, Bool.and_eq_true, decide_eq_true_eq, bne_iff_ne, ne_eq]
        refine ⟨⟨h1, h2⟩, ?_⟩
        rw [Bool.not_eq_true', List.any_eq_false]
        intro q hq
        have := h3 q (hsub q hq)
        simpa using this
    · refine List.all_eq_true.2 fun x hx => ?_
      by_cases hxp : x.1 = p
      · obtain ⟨h1, h2, h3⟩ := ho.extra x hx hxp
        simp only [hxp, bne_self_eq_false, Bool.false_or, Bool.and_eq_true, decide_eq_true_eq, bne_iff_ne, ne_eq]
        refine ⟨⟨h1, h2⟩, ?_⟩
        rw [Bool.not_eq_true', List.any_eq_false]
        intro q hq
        have := h3 q (hsub q hq)
        simpa using this
      · simp [hxp]
    · cases hk : act kp with
      | true => left; rfl
      | false =>
        right
        refine List.all_eq_true.2 fun q hq => ?_
        rw [Bool.or_eq_true]
        rcases ho.apart hk q (hsub q hq) with h | ⟨oj, h1, h2⟩
        · exact .inl h
        · right; rw [h1]; exact h2
    · cases hk : act kp with
      | true =>
        right
        refine List.all_eq_true.2 fun q hq => ?_
        have := ho.acts hk q (hsub q hq)
        rw [hbk] at this
        simpa using this
      | false => left; rfl
    · by_cases hk : kp = 1
      · right
        refine List.all_eq_true.2 fun q hq => ?_
        rw [Bool.or_eq_true]
        cases h3 : act q.2 with
        | true =>
          right
          have := ho.here hk q (hsub q hq) h3
          rw [hbk] at this
          simpa using this
        | false => left; rfl
      · left; simpa using hk
    · cases hk : needs kp with
      | true =>
        right
        refine List.all_eq_true.2 fun q hq => ?_
        rw [Bool.or_eq_true]
        by_cases h4 : q.2 = 4
        · right
          have := ho.keep hk q (hsub q hq) h4
          rw [hbk] at this
          simpa using this
        · left; simpa using h4
      | false => left; rfl
    · by_cases hk : kp = 4
      · right
        refine List.all_eq_true.2 fun q hq => ?_
        rw [ho.last hk q (hsub q hq)]; rfl
      · left; simpa using hk
    · rw [Bool.not_eq_true', List.any_eq_false]
      intro q hq
      have := ho.once q (hsub q hq)
      simpa using this

/-- operation number i comes up -/
def stI (P : Program) (ops : Array Oper) (Q : Exit → Act → World → Prop) (i : Nat) (K : Act → World → Prop) (a : Act) (w : World) : Prop :=
  ∃ o, ops[i]? = some o ∧ if Region.wanted o (yielded ops a.tmps) = true then o.wp P a w K Q else K (a.put o.dst undef) w
theorem wpOp_of_stI {i : Nat} {K : Act → World → Prop} {a : Act} {w : World} (h : stI P ops Q i K a w) : wpOp P ops Q i K a w := by
  obtain ⟨o, ho, h⟩ := h
  unfold wpOp
  simp only [ho]
  split
  · rename_i hw; rw [if_pos hw] at h; exact .inl h
  · rename_i hw; rw [if_neg hw] at h; exact h
theorem stI_mono {i : Nat} {K K' : Act → World → Prop} {a : Act} {w : World} (hK : ∀ a w, K a w → K' a w) (h : stI P ops Q i K a w) : stI P ops Q i K' a w := by
  obtain ⟨o, ho, h⟩ := h
  refine ⟨o, ho, ?_⟩
  split
  · rename_i hw; rw [if_pos hw] at h; exact Oper.wp_mono hK h
  · rename_i hw; rw [if_neg hw] at h; exact hK _ _ h

/-- the walk over numbers -/
def wpI (P : Program) (ops : Array Oper) (C : World → Prop) (Q : Exit → Act → World → Prop) : List (Nat × Nat) → Act → World → Prop
  | [], a, w => Q .normal a w
  | (p, k) :: rest, a, w => ∃ o, ops[p]? = some o ∧
    (if k = 3 then (if Region.wanted o (yielded ops a.tmps) = true then o.wp P a w (fun a' w' => C w' ∧ wpI P ops C Q rest a' w') Q else wpI P ops C Q rest (a.put o.dst undef) w)
     else if k = 4 then (if Region.wanted o (yielded ops a.tmps) = true then o.wp P a w (fun a' w' => wpI P ops C Q rest a' w') Q else wpI P ops C Q rest (a.put o.dst undef) w)
     else ∃ v, Held P ops (cls C w k) o a v ∧ wpI P ops C Q rest (a.put o.dst v) w)

theorem wpI_of_pick {l : List Oper} : ∀ (R : List (Nat × Nat)) (a : Act) (w : World), okR l.toArray ex R = true → wpW P l.toArray C Q (pick l R) a w → wpI P l.toArray C Q R a w
  | [], a, w, _, h => h
  | (p, k) :: R, a, w, hR, h => by
    obtain ⟨o, ho⟩ := okR_cons hR
    have h1 : nth l p = some o := by rw [nth_eq]; simpa using ho.op
    rw [pick, h1] at h
    unfold wpW at h
    unfold wpI
    refine ⟨o, ho.op, ?_⟩
    by_cases hk : k = 3
    · rw [if_pos hk] at h ⊢
      split
      · rename_i hw
        rw [if_pos hw] at h
        exact Oper.wp_mono (fun a' w' ⟨h1, h2⟩ => ⟨h1, wpI_of_pick R a' w' ho.rest h2⟩) h
      · rename_i hw
        rw [if_neg hw] at h
        exact wpI_of_pick R _ _ ho.rest h
    · rw [if_neg hk] at h ⊢
      by_cases hk4 : k = 4
      · rw [if_pos hk4] at h ⊢
        split
        · rename_i hw
          rw [if_pos hw] at h
          exact Oper.wp_mono (fun a' w' h2 => wpI_of_pick R a' w' ho.rest h2) h
        · rename_i hw
          rw [if_neg hw] at h
          exact wpI_of_pick R _ _ ho.rest h
      · rw [if_neg hk4] at h ⊢
        obtain ⟨v, h1, h2⟩ := h
        exact ⟨v, h1, wpI_of_pick R _ _ ho.rest h2⟩

/-- what was seen stays seen while others come up -/
theorem Held.put {D : World → Prop} {o : Oper} {a : Act} {v : Value} (hs : ∀ cs b, o.op ≠ .select cs b) (h : Held P ops D o a v) {d : Option Tmp} (u : Value) (h1 : ∀ t, d = some t → t ∉ o.looksAt ops) (h2 : ∀ t, o.dst = some t → d ≠ some t) : Held P ops D o (a.put d u) v := by
  intro wa hD
  obtain ⟨v', e, h⟩ := h wa hD
  refine ⟨v', ?_, ?_⟩
  · have hc : ∀ x, (a.put d u).put o.dst x = (a.put o.dst x).put d u := fun x => Act.put_comm a u x (fun t ht ht' => h2 t ht' ht)
    rw [hc, hc, e]
  · rw [wanted_put o a d u h1]
    unfold Oper.quietAt
    rw [execOp_put o hs a d u h1]
    exact h
theorem Held.defers {D : World → Prop} {o : Oper} {a : Act} {v : Value} (h : Held P ops D o a v) (ds : List Deferred) : Held P ops D o { a with defers := ds } v := by
  intro wa hD
  obtain ⟨v', e, h⟩ := h wa hD
  refine ⟨v', ?_, h⟩
  have hc : ∀ x, ({ a with defers := ds } : Act).put o.dst x = { a.put o.dst x with defers := ds } := fun x => by cases o.dst <;> rfl
  rw [hc, hc, e]

/-- a value that is already there makes no difference -/
theorem upon_put {o : Oper} {d : Option Tmp} {v : Value} {a : Act} {K : Act → World → Prop} {Hd : Act → Prop} (hq : ∀ c a a' w, Q (.panic c) a w → Q (.panic c) a' w) (h2 : ∀ t, d = some t → o.dst ≠ some t)
    (hd : ∀ u, Hd (a.put o.dst u)) (hdd : ∀ x : Deferred, Hd ({ a with defers := x :: a.defers }.put o.dst undef)) (r : Result Next) (h : o.upon P (a.put d v) K Q r) : o.upon P a (fun a' w' => Hd a' ∧ K (a'.put d v) w') Q r := by
  have hc : ∀ u, (a.put d v).put o.dst u = (a.put o.dst u).put d v := fun u => Act.put_comm a v u h2
  cases r with
  | ok n w' =>
    cases n <;> simp only [Oper.upon] at h ⊢
    case value u => rw [hc] at h; exact ⟨hd u, h⟩
    case skip => rw [hc] at h; exact ⟨hd _, h⟩
    case defer x =>
      refine ⟨hdd x, ?_⟩
      rw [Act.put_defers, Act.put_comm _ v undef h2] at h
      exact h
    case enter f args =>
      refine Calls.mono h fun e w'' he => ?_
      cases e with
      | returned u => simp only at he ⊢; rw [hc] at he; exact ⟨hd u, he⟩
      | panicked c => exact hq _ _ _ _ he
      | outgrown => exact he
    case row f args => exact Rows.mono h fun u w'' he => by rw [hc] at he; exact ⟨hd u, he⟩
  | halt x w' =>
    cases x <;> simp only [Oper.upon] at h ⊢
    exact hq _ _ _ _ h

/-- what may come up now may be taken first -/
theorem pull (hs : Region.noSelect ops = true) (hq : ∀ c a a' w, Q (.panic c) a w → Q (.panic c) a' w) {listed : Array Bool} {i k : Nat} {post : List (Nat × Nat)} (hr : Rdy ops ex listed i) :
    ∀ (pre : List (Nat × Nat)) (a : Act) (w : World), okR ops ex (pre ++ (i, k) :: post) = true → (∀ q ∈ pre ++ (i, k) :: post, listed.getD q.1 true = false) → (needs k = true → C w) →
      wpI P ops C Q (pre ++ (i, k) :: post) a w → stI P ops Q i (fun a' w' => (k = 3 → C w' ∨ w' = w) ∧ (act k = false → w' = w) ∧ wpI P ops C Q (pre ++ post) a' w') a w
  | [], a, w, hR, hun, hC, h => by
    obtain ⟨o, ho⟩ := okR_cons hR
    simp only [List.nil_append] at h ⊢
    unfold wpI at h
    obtain ⟨o', ho', h⟩ := h
    obtain rfl : o = o' := Option.some.inj (ho.op.symm.trans ho')
    refine ⟨o, ho.op, ?_⟩
    by_cases hk : k = 3
    · rw [if_pos hk] at h
      split
      · rename_i hw; rw [if_pos hw] at h; exact Oper.wp_mono (fun a' w' ⟨h1, h2⟩ => ⟨fun _ => .inl h1, fun hn => (by rw [hk] at hn; cases hn), h2⟩) h
      · rename_i hw; rw [if_neg hw] at h; exact ⟨fun _ => .inr rfl, fun _ => rfl, h⟩
    · rw [if_neg hk] at h
      by_cases hk4 : k = 4
      · rw [if_pos hk4] at h
        split
        · rename_i hw; rw [if_pos hw] at h; exact Oper.wp_mono (fun a' w' h2 => ⟨fun e => absurd e hk, fun hn => (by rw [hk4] at hn; cases hn), h2⟩) h
        · rename_i hw; rw [if_neg hw] at h; exact ⟨fun _ => .inr rfl, fun _ => rfl, h⟩
      rw [if_neg hk4] at h
      obtain ⟨v, h1, h2⟩ := h
      obtain ⟨v', e, h1⟩ := h1 w (by unfold cls; split; · trivial
                                     split; · rfl
                                     rename_i hk0 hk1
                                     exact hC (by unfold needs; simp [hk, hk4, hk0, hk1]))
      have hn3 : ∀ w', k = 3 → C w' ∨ w' = w := fun _ e => absurd e hk
      rw [← e] at h2
      split
      · rename_i hw
        rw [if_pos hw] at h1
        unfold Oper.quietAt at h1
        unfold Oper.wp
        generalize (execOp a.eval o).run P w = r at *
        cases r with
        | ok n w' =>
          cases n <;> simp only [Oper.quietUpon] at h1 <;> simp only [Oper.upon]
          case value u =>
            obtain ⟨rfl, rfl⟩ := h1
            exact ⟨hn3 _, fun _ => rfl, h2⟩
          case skip =>
            obtain ⟨rfl, rfl⟩ := h1
            exact ⟨hn3 _, fun _ => rfl, h2⟩
          case enter f args =>
            obtain ⟨rfl, h1⟩ := h1
            refine h1.mono fun e w'' ⟨he, hw''⟩ => ?_
            subst he
            subst hw''
            exact ⟨hn3 _, fun _ => rfl, h2⟩
        | halt x w' => simp only [Oper.quietUpon] at h1
      · rename_i hw
        rw [if_neg hw] at h1
        subst h1
        exact ⟨hn3 _, fun _ => rfl, h2⟩
  | (p, kp) :: pre, a, w, hR, hun, hC, h => by
    simp only [List.cons_append] at h hR hun ⊢
    obtain ⟨o, ho⟩ := okR_cons hR
    have hip : (i, k) ∈ pre ++ (i, k) :: post := List.mem_append_right _ (List.mem_cons_self ..)
    have hnb : i ∉ blk ops ex [p] (pre ++ (i, k) :: post) := fun hb =>
      blk_unready (ops := ops) (ex := ex) (listed := listed) (pre ++ (i, k) :: post) [p] (fun x hx => by
        rw [List.mem_singleton] at hx
        subst hx
        exact hun (x, kp) (List.mem_cons_self ..)) (fun q hq => hun q (List.mem_cons_of_mem _ hq)) i hb (fun hx => by
        rw [List.mem_singleton] at hx
        exact ho.once (i, k) hip hx) hr
    have hka : act kp = false := by
      cases e : act kp with
      | true => exact absurd (ho.acts e (i, k) hip) hnb
      | false => rfl
    have hk3 : kp ≠ 3 := fun e => by rw [e] at hka; cases hka
    have hk4 : kp ≠ 4 := fun e => by rw [e] at hka; cases hka
    unfold wpI at h
    obtain ⟨o', ho', h⟩ := h
    obtain rfl : o = o' := Option.some.inj (ho.op.symm.trans ho')
    rw [if_neg hk3, if_neg hk4] at h
    obtain ⟨v, h1, h2⟩ := h
    have ih := pull hs hq hr pre (a.put o.dst v) w ho.rest (fun q hq => hun q (List.mem_cons_of_mem _ hq)) hC h2
    obtain ⟨oi, hoi, ih⟩ := ih
    have hap : o.apart ops oi = true := by
      rcases ho.apart hka (i, k) hip with hw | ⟨oj, h3, h4⟩
      · have h5 := hr.wts hw
        rw [getD_both (hun (p, kp) (List.mem_cons_self ..))] at h5
        cases h5
      · obtain rfl : oi = oj := Option.some.inj (hoi.symm.trans h3)
        exact h4
    obtain ⟨a1, a2, a3⟩ := Oper.apart_spec hap
    have hso := fun cs b => Region.noSelect_spec hs p o cs b ho.op
    have hsi := fun cs b => Region.noSelect_spec hs i oi cs b hoi
    refine ⟨oi, hoi, ?_⟩
    have hkeep : ∀ (a' : Act), Held P ops (cls C w kp) o a' v → ∀ u, Held P ops (cls C w kp) o (a'.put oi.dst u) v := fun a' h' u =>
      h'.put hso u a3 (fun t ht e => a2 t ht e)
    rw [wanted_put oi a o.dst v a1] at ih
    by_cases hw : Region.wanted oi (yielded ops a.tmps) = true
    · rw [if_pos hw] at ih ⊢
      unfold Oper.wp at ih ⊢
      rw [execOp_put oi hsi a o.dst v a1] at ih
      have hcore := upon_put (P := P) (o := oi) (d := o.dst) (v := v) (a := a) (Hd := fun a' => Held P ops (cls C w kp) o a' v) hq a2 (fun u => hkeep a h1 u) (fun x => hkeep _ (h1.defers _) _) _ ih
      refine Oper.wp_mono (o := oi) (a := a) (w := w) ?_ hcore
      rintro a' w' ⟨hh, hC', hww, hrest⟩
      refine ⟨hC', hww, ?_⟩
      unfold wpI
      refine ⟨o, ho.op, ?_⟩
      rw [if_neg hk3, if_neg hk4]
      refine ⟨v, ?_, hrest⟩
      intro wa hD
      refine hh wa ?_
      by_cases hk1 : kp = 1
      · have hki : act k = false := by
          cases e : act k with
          | true => exact absurd (ho.here hk1 (i, k) hip e) hnb
          | false => rfl
        rw [hww hki] at hD
        exact hD
      · unfold cls at hD ⊢
        rw [if_neg hk1] at hD ⊢
        exact hD
    · rw [if_neg hw] at ih ⊢
      obtain ⟨hC', hww, hrest⟩ := ih
      refine ⟨hC', hww, ?_⟩
      unfold wpI
      refine ⟨o, ho.op, ?_⟩
      rw [if_neg hk3, if_neg hk4]
      refine ⟨v, hkeep a h1 _, ?_⟩
      rw [Act.put_comm a undef v (fun t ht e => a2 t e ht)]
      exact hrest

theorem okR_suffix : ∀ (l1 : List (Nat × Nat)) {R : List (Nat × Nat)}, okR ops ex (l1 ++ R) = true → okR ops ex R = true
  | [], _, h => h
  | q :: l1, _, h => by
    obtain ⟨o, ho⟩ := okR_cons (p := q.1) (k := q.2) (by simpa using h)
    exact okR_suffix l1 ho.rest

/-- an order of what is left -/
def Lin (ops : Array Oper) (ex : List (Nat × Nat)) : List Nat → Array Bool → Prop
  | [], listed => ∀ i, ¬ Rdy ops ex listed i
  | i :: r, listed => Rdy ops ex listed i ∧ Lin ops ex r (listed.setIfInBounds i true)

theorem wpOps_of_wpI (hs : Region.noSelect ops = true) (hq : ∀ c a a' w, Q (.panic c) a w → Q (.panic c) a' w) : ∀ (r : List Nat) (R : List (Nat × Nat)) (listed : Array Bool) (a : Act) (w : World), Lin ops ex r listed → okR ops ex R = true → listed.size = ops.size →
    (∀ j, listed.getD j true = false ↔ ∃ k, (j, k) ∈ R) → ((∃ q ∈ R, needs q.2 = true) → C w) → wpI P ops C Q R a w → wpOps P ops Q r a w
  | [], R, listed, a, w, hL, hR, hsz, hun, hC, h => by
    match R, hR, hun, h with
    | [], hR, hun, h => simpa [wpOps, wpI] using h
    | (p, k) :: post, hR, hun, h =>
      exfalso
      obtain ⟨o, ho⟩ := okR_cons hR
      have hlisted : ∀ m, m < ops.size → m ≠ p → (∀ q ∈ post, q.1 ≠ m) → listed.getD m false = true := fun m h1 h2 h3 => by
        have hl : ¬ listed.getD m true = false := fun hf => by
          obtain ⟨k', hk'⟩ := (hun m).1 hf
          rcases List.mem_cons.1 hk' with h | h
          · exact h2 (by simpa using congrArg Prod.fst h)
          · exact h3 _ h rfl
        have hlt : m < listed.size := by rw [hsz]; exact h1
        simp [hlt] at hl ⊢
        exact hl
      refine hL p ⟨mem_ready.2 ⟨(hun p).2 ⟨k, List.mem_cons_self ..⟩, o, ho.op, fun e he hb => ?_⟩, fun q hq hqp => ?_⟩
      · obtain ⟨h1, h2, h3⟩ := ho.deps e he hb
        exact hlisted _ h1 h2 h3
      · obtain ⟨h1, h2, h3⟩ := ho.extra q hq hqp
        exact hlisted _ h1 h2 h3
  | i :: r, R, listed, a, w, hL, hR, hsz, hun, hC, h => by
    obtain ⟨hi, hL⟩ := hL
    rw [wpOps_cons]
    obtain ⟨k, hk⟩ := (hun i).1 (mem_ready.1 hi.1).1
    obtain ⟨pre, post, rfl⟩ := List.append_of_mem hk
    have hall : ∀ q ∈ pre ++ (i, k) :: post, listed.getD q.1 true = false := fun q hq => (hun q.1).2 ⟨q.2, hq⟩
    have hnone : ∀ l1 p kp l2, pre = l1 ++ (p, kp) :: l2 → i ∉ blk ops ex [p] (l2 ++ (i, k) :: post) := by
      intro l1 p kp l2 e hb
      subst e
      have hp : ∀ q, q ∈ (p, kp) :: (l2 ++ (i, k) :: post) → listed.getD q.1 true = false := fun q hq => hall q (by
        simp only [List.append_assoc, List.cons_append]
        exact List.mem_append_right _ hq)
      have hpi : i ≠ p := by
        have : ∀ l1 : List (Nat × Nat), okR ops ex (l1 ++ (p, kp) :: (l2 ++ (i, k) :: post)) = true → i ≠ p := by
          intro l1
          induction l1 with
          | nil => intro hR; obtain ⟨o, ho⟩ := okR_cons hR; exact ho.once (i, k) (List.mem_append_right _ (List.mem_cons_self ..))
          | cons q l1 ih => intro hR; obtain ⟨o, ho⟩ := okR_cons (p := q.1) (k := q.2) hR; exact ih ho.rest
        exact this l1 (by simpa using hR)
      exact blk_unready (ops := ops) (ex := ex) (listed := listed) _ [p] (fun x hx => by
        rw [List.mem_singleton] at hx
        subst hx
        exact hp (x, kp) (List.mem_cons_self ..)) (fun q hq => hp q (List.mem_cons_of_mem _ hq)) i hb (fun hx => hpi (List.mem_singleton.1 hx)) hi
    have hR' := okR_remove pre i k post hR hnone
    have hp := pull (C := C) hs hq hi pre a w hR hall (fun hn => hC ⟨(i, k), List.mem_append_right _ (List.mem_cons_self ..), hn⟩) h
    have hilt : i < listed.size := by
      have := (mem_ready.1 hi.1).1
      apply Classical.byContradiction
      intro hx
      simp [Array.getElem?_eq_none (Nat.not_lt.1 hx)] at this
    refine wpOp_of_stI (stI_mono ?_ hp)
    rintro a' w' ⟨hC3, hww, h'⟩
    have hC' : (∃ q ∈ pre ++ post, needs q.2 = true) → C w' := by
      rintro ⟨q, hq, hn⟩
      have hq' : q ∈ pre ++ (i, k) :: post := by
        rcases List.mem_append.1 hq with h | h
        · exact List.mem_append_left _ h
        · exact List.mem_append_right _ (List.mem_cons_of_mem _ h)
      by_cases h3 : k = 3
      · rcases hC3 h3 with h | rfl
        · exact h
        · exact hC ⟨q, hq', hn⟩
      · by_cases h4 : k = 4
        · exfalso
          rcases List.mem_append.1 hq with h | h
          · obtain ⟨l1, l2, e⟩ := List.append_of_mem h
            subst e
            have hR2 := okR_suffix l1 (R := q :: (l2 ++ (i, k) :: post)) (by simpa using hR)
            obtain ⟨o, ho⟩ := okR_cons (p := q.1) (k := q.2) hR2
            exact hnone l1 q.1 q.2 l2 rfl (ho.keep hn (i, k) (List.mem_append_right _ (List.mem_cons_self ..)) h4)
          · obtain ⟨o, ho⟩ := okR_cons (okR_suffix pre hR)
            have := ho.last h4 q h
            rw [hn] at this; cases this
        · rw [hww (by unfold act; simp [h3, h4])]
          exact hC ⟨q, hq', hn⟩
    refine wpOps_of_wpI hs hq r (pre ++ post) _ a' w' hL hR' (by simpa using hsz) (fun j => ?_) hC' h'
    by_cases hji : j = i
    · subst hji
      constructor
      · intro hf
        simp [hilt] at hf
      · rintro ⟨k', hk'⟩
        exfalso
        -- j stands once in the list
        have : ∀ l1 : List (Nat × Nat), okR ops ex (l1 ++ (j, k) :: post) = true → (j, k') ∉ l1 ++ post := by
          intro l1
          induction l1 with
          | nil => intro hR hm; obtain ⟨o, ho⟩ := okR_cons hR; exact ho.once _ hm rfl
          | cons q l1 ih =>
            intro hR hm
            obtain ⟨o, ho⟩ := okR_cons (p := q.1) (k := q.2) hR
            rcases List.mem_cons.1 hm with h | h
            · exact ho.once (j, k) (List.mem_append_right _ (List.mem_cons_self ..)) (by rw [← h])
            · exact ih ho.rest h
        exact this pre hR hk'
    · rw [getD_set_ne true (Ne.symm hji), hun j]
      constructor
      · rintro ⟨k', hk'⟩
        refine ⟨k', ?_⟩
        rcases List.mem_append.1 hk' with h | h
        · exact List.mem_append_left _ h
        · rcases List.mem_cons.1 h with h | h
          · exact absurd (by simpa using congrArg Prod.fst h) hji
          · exact List.mem_append_right _ h
      · rintro ⟨k', hk'⟩
        refine ⟨k', ?_⟩
        rcases List.mem_append.1 hk' with h | h
        · exact List.mem_append_left _ h
        · exact List.mem_append_right _ (List.mem_cons_of_mem _ h)


theorem lin_go : ∀ (fuel t : Nat) (listed : Array Bool), listed.size = ops.size → ((List.range ops.size).filter fun j => !listed.getD j true).length ≤ fuel → Lin ops [] (Region.linearise.go .any ops fuel t listed []) listed := by
  intro fuel
  induction fuel with
  | zero =>
    intro t listed hsz hn
    simp only [Region.linearise.go]
    intro i hi
    have h0 := List.eq_nil_of_length_eq_zero (Nat.le_zero.1 hn)
    have h1 := (mem_ready.1 hi.1).1
    have h2 : i ∈ (List.range ops.size).filter fun j => !listed.getD j true := by
      rw [List.mem_filter, List.mem_range]
      obtain ⟨_, o, ho, _⟩ := mem_ready.1 hi.1
      exact ⟨(Array.getElem?_eq_some_iff.1 ho).1, by rw [h1]; rfl⟩
    rw [h0] at h2
    cases h2
  | succ fuel ih =>
    intro t listed hsz hn
    simp only [Region.linearise.go]
    change Lin ops [] (match (Region.ready .any ops listed)[t % (Region.ready .any ops listed).length]? with
      | some i => Region.linearise.go .any ops fuel (t / (Region.ready .any ops listed).length) (listed.setIfInBounds i true) [i]
      | none => [].reverse) listed
    cases hi : (Region.ready .any ops listed)[t % (Region.ready .any ops listed).length]? with
    | none =>
      have hnil : Region.ready .any ops listed = [] := by
        cases hr : Region.ready .any ops listed with
        | nil => rfl
        | cons x xs =>
          rw [hr] at hi
          have hlt : t % (x :: xs).length < (x :: xs).length := Nat.mod_lt _ (by simp)
          simp at hi
          simp at hlt
          omega
      intro i hr
      have hr1 := hr.1
      rw [hnil] at hr1
      cases hr1
    | some i =>
      simp only []
      rw [linearise_go_acc, List.reverse_singleton, List.singleton_append]
      have hm := List.mem_of_getElem? hi
      refine ⟨⟨hm, fun q hq => by cases hq⟩, ih _ _ (by simpa using hsz) ?_⟩
      obtain ⟨h1, o, ho, _⟩ := mem_ready.1 hm
      have hlt : i < ops.size := (Array.getElem?_eq_some_iff.1 ho).1
      have hsub : ((List.range ops.size).filter fun j => !(listed.setIfInBounds i true).getD j true) = ((List.range ops.size).filter fun j => !listed.getD j true).erase i := by
        rw [List.Nodup.erase_eq_filter (List.Pairwise.filter _ List.nodup_range), List.filter_filter]
        apply List.filter_congr
        intro j hj
        by_cases e : j = i
        · subst e
          have : j < listed.size := by rw [hsz]; exact hlt
          simp [this]
        · rw [getD_set_ne true (Ne.symm e)]
          simp [e]
      rw [hsub, List.length_erase_of_mem (by rw [List.mem_filter, List.mem_range]; exact ⟨hlt, by rw [h1]; rfl⟩)]
      omega

/-- of two that are not ordered one comes first -/
theorem lin_split {x y : Nat} (hxy : x ≠ y) : ∀ (r : List Nat) (listed : Array Bool), listed.size = ops.size → x < ops.size → y < ops.size → Lin ops ex r listed → Lin ops ((y, x) :: ex) r listed ∨ Lin ops ((x, y) :: ex) r listed
  | [], listed, hsz, hx, hy, h => .inl fun i hi => h i ⟨hi.1, fun q hq => hi.2 q (List.mem_cons_of_mem _ hq)⟩
  | i :: r, listed, hsz, hx, hy, h => by
    obtain ⟨hi, hr⟩ := h
    have up : ∀ (z u : Nat), u < listed.size → (i = z → listed.getD u false = true) → Rdy ops ((z, u) :: ex) listed i := fun z u _ hz => ⟨hi.1, fun q hq hqi => by
      rcases List.mem_cons.1 hq with rfl | hq
      · exact hz hqi.symm
      · exact hi.2 q hq hqi⟩
    -- once it is listed, the added edge says nothing
    have free : ∀ (z u : Nat) (r : List Nat) (listed : Array Bool), listed.getD u false = true → Lin ops ex r listed → Lin ops ((z, u) :: ex) r listed := by
      intro z u r
      induction r with
      | nil => exact fun listed hu h j hj => h j ⟨hj.1, fun q hq => hj.2 q (List.mem_cons_of_mem _ hq)⟩
      | cons j r ih =>
        intro listed hu h
        refine ⟨⟨h.1.1, fun q hq hqj => ?_⟩, ih _ (getD_set_true hu) h.2⟩
        rcases List.mem_cons.1 hq with rfl | hq
        · exact hu
        · exact h.1.2 q hq hqj
    by_cases hix : i = x
    · subst hix
      left
      refine ⟨up _ _ (by omega) (fun e => absurd e hxy), free _ _ _ _ ?_ hr⟩
      have : i < listed.size := by omega
      simp [this]
    · by_cases hiy : i = y
      · subst hiy
        right
        refine ⟨up _ _ (by omega) (fun e => absurd e.symm hxy), free _ _ _ _ ?_ hr⟩
        have : i < listed.size := by omega
        simp [this]
      · rcases lin_split hxy r (listed.setIfInBounds i true) (by simpa using hsz) hx hy hr with h | h
        · exact .inl ⟨up _ _ (by omega) (fun e => absurd e hiy), h⟩
        · exact .inr ⟨up _ _ (by omega) (fun e => absurd e hix), h⟩

/-- the numbers of R are all numbers there are -/
def allR (n : Nat) (R : List (Nat × Nat)) : Bool := R.length == n && (List.range n).all (fun j => R.any fun q => q.1 == j) && R.all fun q => decide (q.1 < n)
def ordB (l : List Oper) (ex : List (Nat × Nat)) (R : List (Nat × Nat)) : Bool := Region.noSelect l.toArray && allR l.length R && okR l.toArray ex R

theorem wpOps_of_ord {l : List Oper} {a : Act} {w : World} (R : List (Nat × Nat)) (hB : ordB l ex R = true) (hC : C w) (r : List Nat) (hr : Lin l.toArray ex r (Array.replicate l.toArray.size false))
    (h : wpW P l.toArray C (NoPanic Q) (pick l R) a w) : wpOps P l.toArray (NoPanic Q) r a w := by
  unfold ordB allR at hB
  simp only [Bool.and_eq_true, beq_iff_eq] at hB
  obtain ⟨⟨hs, ⟨hlen, hall⟩, hlt⟩, hR⟩ := hB
  refine wpOps_of_wpI (P := P) (C := C) (Q := NoPanic Q) hs (fun c a a' w hp => hp) r R (Array.replicate l.toArray.size false) a w hr hR (by simp) (fun j => ?_) (fun _ => hC) (wpI_of_pick R a _ hR h)
  constructor
  · intro hf
    have hj : j < l.length := by
      apply Classical.byContradiction
      intro hx
      simp [Nat.not_lt.1 hx] at hf
    have := List.all_eq_true.1 hall j (List.mem_range.2 hj)
    obtain ⟨q, hq, hqe⟩ := List.any_eq_true.1 this
    rw [beq_iff_eq] at hqe
    exact ⟨q.2, by rw [← hqe]; exact hq⟩
  · rintro ⟨k, hk⟩
    have := List.all_eq_true.1 hlt _ hk
    have : j < l.length := by simpa using this
    simp [this]

theorem lin_all {l : List Oper} (t : Nat) : Lin l.toArray [] (Region.linearise.go .any l.toArray l.toArray.size t (Array.replicate l.toArray.size false) []) (Array.replicate l.toArray.size false) := by
  refine lin_go _ _ _ (by simp) ?_
  refine Nat.le_trans (List.length_filter_le _ _) (by simp)

theorem wp_region_ord {id : Nat} {l : List Oper} {a : Act} {w : World} (C : World → Prop) (R : List (Nat × Nat)) (hm : P.follows .mixedOrders = true) (hB : ordB l [] R = true) (hC : C w.drew)
    (h : wpW P l.toArray C (NoPanic Q) (pick l R) a w.drew) : (Code.region id l.toArray true).wp P Q a w := by
  refine wp_region_noPanic (wp_region_draw fun t => ?_)
  simp only [Region.schedule, hm, Bool.true_or, if_true]
  exact wpOps_of_ord R hB hC _ (lin_all t) h

/-- two that act, x and y, are not ordered: both orders -/
theorem wp_region_ord2 {id : Nat} {l : List Oper} {a : Act} {w : World} (C : World → Prop) (x y : Nat) (R R' : List (Nat × Nat)) (hm : P.follows .mixedOrders = true) (hxy : x ≠ y ∧ x < l.length ∧ y < l.length) (hB : ordB l [(y, x)] R = true) (hB' : ordB l [(x, y)] R' = true) (hC : C w.drew)
    (h : wpW P l.toArray C (NoPanic Q) (pick l R) a w.drew) (h' : wpW P l.toArray C (NoPanic Q) (pick l R') a w.drew) : (Code.region id l.toArray true).wp P Q a w := by
  refine wp_region_noPanic (wp_region_draw fun t => ?_)
  simp only [Region.schedule, hm, Bool.true_or, if_true]
  rcases lin_split (ops := l.toArray) hxy.1 _ _ (by simp) (by simpa using hxy.2.1) (by simpa using hxy.2.2) (lin_all t) with hl | hl
  · exact wpOps_of_ord R hB hC _ hl h
  · exact wpOps_of_ord R' hB' hC _ hl h'

/-! ### the steps of the walk -/
theorem wpW_nil {a : Act} {w : World} (h : Q .normal a w) : wpW P ops C (NoPanic Q) [] a w := h
theorem held_of {D : World → Prop} {o : Oper} {a a' : Act} (w0 : World) (h0 : D w0) (h : ∀ wa, D wa → wpQuiet P ops (fun w' => w' = wa) (fun a'' => a'' = a') [o] a) : ∃ v, Held P ops D o a v ∧ a' = a.put o.dst v := by
  have key : ∀ wa, D wa → ∃ v', a.put o.dst v' = a' ∧ (if Region.wanted o (yielded ops a.tmps) = true then o.quietAt P a (fun w' => w' = wa) wa v' else v' = undef) := by
    intro wa hD
    have h1 := h wa hD
    unfold wpQuiet at h1
    by_cases hw : Region.wanted o (yielded ops a.tmps) = true
    · rw [if_pos hw] at h1
      obtain ⟨v, h1, h2⟩ := h1
      unfold wpQuiet at h2
      exact ⟨v, h2, by rw [if_pos hw]; exact h1 wa rfl⟩
    · rw [if_neg hw] at h1
      unfold wpQuiet at h1
      exact ⟨undef, h1, by rw [if_neg hw]⟩
  obtain ⟨v, h1, h2⟩ := key w0 h0
  refine ⟨v, fun wa hD => ?_, h1.symm⟩
  obtain ⟨v', h3, h4⟩ := key wa hD
  exact ⟨v', by rw [h3, h1], h4⟩
/-- an operation that looks at no world -/
theorem wpW_light {o : Oper} {rest : List (Nat × Oper)} {a : Act} {w : World} (a' : Act) (h : ∀ wa, wpQuiet P ops (fun w' => w' = wa) (fun a'' => a'' = a') [o] a) (hr : wpW P ops C Q rest a' w) : wpW P ops C Q ((0, o) :: rest) a w := by
  obtain ⟨v, h1, rfl⟩ := held_of (D := cls C w 0) w trivial (fun wa _ => h wa)
  unfold wpW
  rw [if_neg (by decide), if_neg (by decide)]
  exact ⟨v, h1, hr⟩
/-- one that looks at the world as it stands -/
theorem wpW_here {o : Oper} {rest : List (Nat × Oper)} {a : Act} {w : World} (a' : Act) (h : wpQuiet P ops (fun w' => w' = w) (fun a'' => a'' = a') [o] a) (hr : wpW P ops C Q rest a' w) : wpW P ops C Q ((1, o) :: rest) a w := by
  obtain ⟨v, h1, rfl⟩ := held_of (D := cls C w 1) w rfl (fun wa (e : wa = w) => by rw [e]; exact h)
  unfold wpW
  rw [if_neg (by decide), if_neg (by decide)]
  exact ⟨v, h1, hr⟩
/-- one that looks at what C holds -/
theorem wpW_held {o : Oper} {rest : List (Nat × Oper)} {a : Act} {w : World} (hC : C w) (a' : Act) (h : ∀ wa, C wa → wpQuiet P ops (fun w' => w' = wa) (fun a'' => a'' = a') [o] a) (hr : wpW P ops C Q rest a' w) : wpW P ops C Q ((2, o) :: rest) a w := by
  obtain ⟨v, h1, rfl⟩ := held_of (D := cls C w 2) w hC h
  unfold wpW
  rw [if_neg (by decide), if_neg (by decide)]
  exact ⟨v, h1, hr⟩
/-- one that acts: run by the walk's own steps; the goal behind it is 'QQ .normal a' w'' -/
theorem wpW_act {o : Oper} {rest : List (Nat × Oper)} {a : Act} {w : World} (h : ∀ QQ : Exit → Act → World → Prop, (∀ a' w', C w' → wpW P ops C Q rest a' w' → QQ .normal a' w') → wpList P ops QQ [o] a w) (hg : o.guard = none) : wpW P ops C Q ((3, o) :: rest) a w := by
  have h1 := h (fun e a' w' => e = .normal ∧ C w' ∧ wpW P ops C Q rest a' w') (fun a' w' h1 h2 => ⟨rfl, h1, h2⟩)
  have hw : Region.wanted o (yielded ops a.tmps) = true := by simp [Region.wanted, hg]
  unfold wpW
  rw [if_pos rfl, if_pos hw]
  unfold wpList at h1
  rw [if_pos hw] at h1
  have hno : ¬ LetsOut (fun (e : Exit) a' w' => e = .normal ∧ C w' ∧ wpW P ops C Q rest a' w') := by
    rintro ⟨a', w', h, _⟩
    cases h
  rcases h1 with h1 | ⟨_, h1⟩
  · unfold Oper.wp at h1 ⊢
    generalize (execOp a.eval o).run P w = r at *
    cases r with
    | ok n w' =>
      cases n <;> simp only [Oper.upon] at h1 ⊢
      case value u => exact h1.2
      case skip => exact h1.2
      case defer x => exact h1.2
      case enter f args =>
        refine Calls.mono h1 fun e w'' he => ?_
        cases e with
        | returned u => exact he.2
        | panicked c => cases he.1
        | outgrown => exact absurd he hno
      case row f args => exact Rows.mono h1 fun u w'' he => he.2
    | halt x w' =>
      cases x <;> simp only [Oper.upon] at h1 ⊢
      cases h1.1
  · exact absurd h1 hno
/-- one that acts, with a guard that is met: run by the walk's own steps; the goal behind it is 'QQ .normal a' w'' -/
theorem wpW_actg {o : Oper} {rest : List (Nat × Oper)} {a : Act} {w : World} (h : ∀ QQ : Exit → Act → World → Prop, (∀ a' w', C w' → wpW P ops C Q rest a' w' → QQ .normal a' w') → wpList P ops QQ [o] a w) (hw : Region.wanted o (yielded ops a.tmps) = true) : wpW P ops C Q ((3, o) :: rest) a w := by
  have h1 := h (fun e a' w' => e = .normal ∧ C w' ∧ wpW P ops C Q rest a' w') (fun a' w' h1 h2 => ⟨rfl, h1, h2⟩)
  unfold wpW
  rw [if_pos rfl, if_pos hw]
  unfold wpList at h1
  rw [if_pos hw] at h1
  have hno : ¬ LetsOut (fun (e : Exit) a' w' => e = .normal ∧ C w' ∧ wpW P ops C Q rest a' w') := by
    rintro ⟨a', w', h, _⟩
    cases h
  rcases h1 with h1 | ⟨_, h1⟩
  · unfold Oper.wp at h1 ⊢
    generalize (execOp a.eval o).run P w = r at *
    cases r with
    | ok n w' =>
      cases n <;> simp only [Oper.upon] at h1 ⊢
      case value u => exact h1.2
      case skip => exact h1.2
      case defer x => exact h1.2
      case enter f args =>
        refine Calls.mono h1 fun e w'' he => ?_
        cases e with
        | returned u => exact he.2
        | panicked c => cases he.1
        | outgrown => exact absurd he hno
      case row f args => exact Rows.mono h1 fun u w'' he => he.2
    | halt x w' =>
      cases x <;> simp only [Oper.upon] at h1 ⊢
      cases h1.1
  · exact absurd h1 hno
/-- one that acts, the last that C's worlds are wanted for: run by the walk's own steps; the goal behind it is 'QQ .normal a' w'' -/
theorem wpW_last {o : Oper} {rest : List (Nat × Oper)} {a : Act} {w : World} (h : ∀ QQ : Exit → Act → World → Prop, Shut (∀ a' w', wpW P ops C Q rest a' w' → QQ .normal a' w') → wpList P ops QQ [o] a w) (hg : o.guard = none) : wpW P ops C Q ((4, o) :: rest) a w := by
  have h1 := h (fun e a' w' => e = .normal ∧ wpW P ops C Q rest a' w') (fun a' w' h1 => ⟨rfl, h1⟩)
  have hw : Region.wanted o (yielded ops a.tmps) = true := by simp [Region.wanted, hg]
  unfold wpW
  rw [if_neg (by decide), if_pos rfl, if_pos hw]
  unfold wpList at h1
  rw [if_pos hw] at h1
  have hno : ¬ LetsOut (fun (e : Exit) a' w' => e = .normal ∧ wpW P ops C Q rest a' w') := by
    rintro ⟨a', w', h, _⟩
    cases h
  rcases h1 with h1 | ⟨_, h1⟩
  · unfold Oper.wp at h1 ⊢
    generalize (execOp a.eval o).run P w = r at *
    cases r with
    | ok n w' =>
      cases n <;> simp only [Oper.upon] at h1 ⊢
      case value u => exact h1.2
      case skip => exact h1.2
      case defer x => exact h1.2
      case enter f args =>
        refine Calls.mono h1 fun e w'' he => ?_
        cases e with
        | returned u => exact he.2
        | panicked c => cases he.1
        | outgrown => exact absurd he hno
      case row f args => exact Rows.mono h1 fun u w'' he => he.2
    | halt x w' =>
      cases x <;> simp only [Oper.upon] at h1 ⊢
      cases h1.1
  · exact absurd h1 hno
end
end Go.Proofs.Ythbjcjphplgobaa

/- Contracts of the package unary. -/
namespace Go.Proofs.Ythbjcjphplgobaa
open Go.RowKit Cad

theorem ULength_ok (W : World) (n : Nat) (h : n ≤ 48) :
    Calls Try.prog 78 #[.int .i64 n] W fun e W' => e = .returned (.tuple #[.int .i64 (runLen n : Nat), .int .i64 0]) ∧ W = W' := by
  unfold runLen
  by_cases e : n = 48
  · subst e
    go_enter Try.func78, Try.ntmps78
    go_wp2
    go_ret2
    exact ⟨rfl, rfl⟩
  · rw [if_neg e]
    have h1 : (n : Int) < 48 := by omega
    go_enter Try.func78, Try.ntmps78
    go_wp2
    go_ret2
    exact ⟨by go_num, rfl⟩
theorem ULength_arg (W : World) (n : Int) (hn : (Lit.int .i64 n).wf = true) (h : n < 0 ∨ 48 < n) :
    Calls Try.prog 78 #[.int .i64 n] W fun e W' => e = .returned (.tuple #[.int .i64 0, .int .i64 2]) ∧ W = W' := by
  have bn := bounds_i64 hn
  have key : n < 0 ∨ (¬ n < 0 ∧ 48 < n) := by omega
  rcases key with h | ⟨h, h'⟩
  all_goals
    go_enter Try.func78, Try.ntmps78
    go_wp2
    go_ret2
    exact ⟨rfl, rfl⟩

theorem UWrite_bad (W : World) (a : Option Addr) (len cap : Nat) (N : Int) (l : List Int) (n : Int) (hr : Row .u8 W a len cap l) (hN : (Lit.int .i64 N).wf = true) (hv : ¬ Valid l N) :
    Calls Try.prog 92 #[.agg #[.slice a len cap, .int .i64 N], .int .i64 n] W fun e W' => e = .returned (.tuple #[.agg #[.slice none 0 0, .int .i64 0], .int .i64 8]) ∧ Below W.heap.size W W' := by
  obtain ⟨W0, hW0, hbE, hs0, hx0, hy0⟩ := two_boxes W (.slice a len cap) N
  have hrE := hr.below hbE (Nat.le_refl _)
  have hck := Go.Lib.hid (BCheck_any W0 a len cap N l hrE hN 8 (.inr ⟨hv, rfl⟩))
  have hy0' := Go.Lib.hid hy0
  have hbE' := Go.Lib.hid hbE
  clear hr hrE hx0 hy0 hbE hN
  go_enter Try.func92, Try.ntmps92
  go_wp2_with (go_at_call 55; rw [← hW0]; refine hck.out.mono ?_; rintro e w1 ⟨rfl, hb1⟩; obtain ⟨e0, e1, f0, f1⟩ := (hy0'.out.below hb1 (by omega)).cells; have hb1' := Go.Lib.hid hb1; clear hb1 hW0)
  (try simp only [Exit.inBlock, Exit.then])
  refine bodyPost_ret (results_box_tmp (by rfl) _ _ (W.heap.size + 1) _ _ rfl ((hy0'.out.below hb1'.out (by omega)).set _ _)) rfl ?_
  exact ⟨rfl, ((hbE'.out.trans (hb1'.out.mono (by omega))).setCell (by simp) _).setCell (by simp) _⟩

theorem UWrite_arg (W : World) (a : Option Addr) (len cap : Nat) (N : Int) (l : List Int) (n : Int) (hr : Row .u8 W a len cap l) (hN : (Lit.int .i64 N).wf = true) (hv : Valid l N) (hn : (Lit.int .i64 n).wf = true) (h : n < 0 ∨ 48 < n) :
    Calls Try.prog 92 #[.agg #[.slice a len cap, .int .i64 N], .int .i64 n] W fun e W' => e = .returned (.tuple #[.agg #[.slice none 0 0, .int .i64 0], .int .i64 2]) ∧ Below W.heap.size W W' := by
  obtain ⟨W0, hW0, hbE, hs0, hx0, hy0⟩ := two_boxes W (.slice a len cap) N
  have hrE := hr.below hbE (Nat.le_refl _)
  have hck := Go.Lib.hid (BCheck_any W0 a len cap N l hrE hN 0 (.inl ⟨hv, rfl⟩))
  have hle := Go.Lib.hid (fun w => ULength_arg w n hn h)
  have hy0' := Go.Lib.hid hy0
  have hbE' := Go.Lib.hid hbE
  clear hr hrE hx0 hy0 hbE hN hn h
  go_enter Try.func92, Try.ntmps92
  go_wp2_with (first
    | (go_at_call 55; rw [← hW0]; refine hck.out.mono ?_; rintro e w1 ⟨rfl, hb1⟩; obtain ⟨e0, e1, f0, f1⟩ := (hy0'.out.below hb1 (by omega)).cells; have hb1' := Go.Lib.hid hb1; clear hb1 hW0)
    | (go_at_call 78; refine (hle.out _).mono ?_; rintro e w2 ⟨rfl, rfl⟩))
  (try simp only [Exit.inBlock, Exit.then])
  refine bodyPost_ret (results_box_tmp (by rfl) _ _ (W.heap.size + 1) _ _ rfl ((hy0'.out.below hb1'.out (by omega)).set _ _)) rfl ?_
  exact ⟨rfl, ((hbE'.out.trans (hb1'.out.mono (by omega))).setCell (by simp) _).setCell (by simp) _⟩

set_option maxRecDepth 100000 in
/-- what Put does, whether it is full or not: results as a slice and a count, an error -/
theorem UWrite_put (W : World) (a : Option Addr) (len cap : Nat) (B : List Bool) (n : Nat) (hr : Row .u8 W a len cap (pack B)) (hB : B.length ≤ 330000) (hn : n ≤ 48) (P : Option Addr → Nat → Nat → Nat → Nat → World → Prop)
    (hput : ∀ w, Row .u8 w a len cap (pack B) → Calls Try.prog 61 #[.agg #[.slice a len cap, .int .i64 B.length], .int .u64 (2 ^ n - 1 : Nat), .int .i64 (runLen n : Nat)] w fun e W' => ∃ b m c k x, e = .returned (.tuple #[.agg #[.slice b m c, .int .i64 (k : Nat)], .int .i64 (x : Nat)]) ∧ P b m c k x W' ∧ Below w.heap.size w W')
    (hP : ∀ b m c k x w y N N', P b m c k x w → BoxAt w y (.slice none 0 0) N → P b m c k x ((w.setCell ⟨y, 0, none⟩ (.slice b m c)).setCell ⟨y, 1, none⟩ (.int .i64 N'))) :
    Calls Try.prog 92 #[.agg #[.slice a len cap, .int .i64 B.length], .int .i64 n] W fun e W' => ∃ b m c k x, e = .returned (.tuple #[.agg #[.slice b m c, .int .i64 (k : Nat)], .int .i64 (x : Nat)]) ∧ P b m c k x W' ∧ Below W.heap.size W W' := by
  obtain ⟨W0, hW0, hbE, hs0, hx0, hy0⟩ := two_boxes W (.slice a len cap) B.length
  have hrE := hr.below hbE (Nat.le_refl _)
  have hck := Go.Lib.hid (BCheck_any W0 a len cap B.length (pack B) hrE (bounds_of_len (by omega)) 0 (.inl ⟨⟨B, rfl, by omega, rfl⟩, rfl⟩))
  have hle := Go.Lib.hid (fun w => ULength_ok w n hn)
  have hx0' := Go.Lib.hid hx0
  have hy0' := Go.Lib.hid hy0
  have hbE' := Go.Lib.hid hbE
  have hrE' := Go.Lib.hid hrE
  have hs0' := Go.Lib.hid hs0
  have hpu := Go.Lib.hid hput
  have hP' := Go.Lib.hid hP
  have hp48 : 2 ^ n ≤ 281474976710656 := Nat.le_trans (Nat.pow_le_pow_right (n := 2) (by decide) hn) (by decide)
  have hp0 : 0 < 2 ^ n := Nat.pow_pos (by decide)
  obtain ⟨p, hp⟩ : ∃ p, p = 2 ^ n := ⟨_, rfl⟩
  have e1 : (1 : Int) * 2 ^ n = (p : Int) := by rw [hp]; simp
  have e2 : (2 : Int) ^ n = (p : Int) := by rw [hp]; simp
  rw [← hp] at hpu hp48 hp0
  have e3 : Hid (((p - 1 : Nat) : Int) = (p : Int) - 1) := Go.Lib.hid (by omega)
  rw [e3.out] at hpu
  obtain ⟨q, hq⟩ : ∃ q, q = runLen n := ⟨_, rfl⟩
  rw [← hq] at hpu hle
  clear hx0 hy0 hbE hrE hr hput hP hp hq
  go_enter Try.func92, Try.ntmps92
  go_wp2_with (first
    | (go_at_call 55; rw [← hW0]; refine hck.out.mono ?_; rintro e w1 ⟨rfl, hb1⟩; obtain ⟨c0, c1, c2, c3⟩ := (hx0'.out.below hb1 (by omega)).cells; have hb1' := Go.Lib.hid hb1; clear hb1 hW0)
    | (go_at_call 78; refine (hle.out _).mono ?_; rintro e w2 ⟨rfl, rfl⟩))
  refine wp_region_ord (fun _ => True) [(0, 1), (1, 0), (2, 0), (3, 0), (4, 0), (5, 3), (6, 0), (7, 0), (8, 3), (9, 0)] (by kernel_rfl) (by kernel_rfl) ?hC0 ?_
  case hC0 => trivial
  simp only [pick, nth]
  (repeat (first | (apply wpW_light; (case h => (intro wa; (first | (go_big_quiet_skip; exact wpQuiet_nil rfl) | (go_big_quiet_want; go_big_quiet_op; go_big_quiet_on; exact wpQuiet_nil rfl))))) | (apply wpW_here; (case h => (first | (go_big_quiet_skip; exact wpQuiet_nil rfl) | (go_big_quiet_want; go_big_quiet_op; go_big_quiet_on; exact wpQuiet_nil rfl)))) | (apply wpW_held; (case hC => assumption); (case h => (intro wa hCa; simp only [] at hCa; (first | (go_big_quiet_skip; exact wpQuiet_nil rfl) | (go_big_quiet_want; go_big_quiet_op; go_big_quiet_on; exact wpQuiet_nil rfl)))))))
  refine wpW_act (fun QQ hQQ => ?_) (by rfl)
  go_wp2_with (go_at_call 61; refine (hpu.out _ (hrE'.out.below hb1'.out.drew (Nat.le_refl _))).mono ?_; rintro e w3 ⟨b3, m3, cp3, k3, x3, rfl, hp3, hb3⟩; have hb13 := hb1'.out.drew.trans (hb3.mono hb1'.out.drew.size); obtain ⟨e0, e1, f0, f1⟩ := (hy0'.out.below hb13 (by omega)).cells)
  refine hQQ _ _ trivial ?_
  (repeat (first | (apply wpW_light; (case h => (intro wa; (first | (go_big_quiet_skip; exact wpQuiet_nil rfl) | (go_big_quiet_want; go_big_quiet_op; go_big_quiet_on; exact wpQuiet_nil rfl))))) | (apply wpW_here; (case h => (first | (go_big_quiet_skip; exact wpQuiet_nil rfl) | (go_big_quiet_want; go_big_quiet_op; go_big_quiet_on; exact wpQuiet_nil rfl)))) | (apply wpW_held; (case hC => assumption); (case h => (intro wa hCa; simp only [] at hCa; (first | (go_big_quiet_skip; exact wpQuiet_nil rfl) | (go_big_quiet_want; go_big_quiet_op; go_big_quiet_on; exact wpQuiet_nil rfl)))))))
  refine wpW_act (fun QQ hQQ => ?_) (by rfl)
  go_wp2
  refine hQQ _ _ trivial ?_
  (repeat (first | (apply wpW_light; (case h => (intro wa; (first | (go_big_quiet_skip; exact wpQuiet_nil rfl) | (go_big_quiet_want; go_big_quiet_op; go_big_quiet_on; exact wpQuiet_nil rfl))))) | (apply wpW_here; (case h => (first | (go_big_quiet_skip; exact wpQuiet_nil rfl) | (go_big_quiet_want; go_big_quiet_op; go_big_quiet_on; exact wpQuiet_nil rfl)))) | (apply wpW_held; (case hC => assumption); (case h => (intro wa hCa; simp only [] at hCa; (first | (go_big_quiet_skip; exact wpQuiet_nil rfl) | (go_big_quiet_want; go_big_quiet_op; go_big_quiet_on; exact wpQuiet_nil rfl)))))))
  refine wpW_nil ?_
  go_wp2
  (try simp only [Exit.inBlock, Exit.then])
  have hy3 := hy0'.out.below hb13 (by omega)
  refine bodyPost_ret (results_box_tmp (by rfl) _ _ (W.heap.size + 1) _ _ rfl (hy3.set _ _)) rfl ?_
  refine ⟨b3, m3, cp3, k3, x3, by simp, hP'.out _ _ _ _ _ _ _ _ _ hp3 hy3, ?_⟩
  exact ((hbE'.out.trans (hb13.mono (by omega))).setCell (by simp) _).setCell (by simp) _

theorem UWrite_ok (W : World) (a : Option Addr) (len cap : Nat) (B : List Bool) (n : Nat) (hr : Row .u8 W a len cap (pack B)) (hB : B.length + runLen n ≤ 330000) (hn : n ≤ 48) :
    Calls Try.prog 92 #[.agg #[.slice a len cap, .int .i64 B.length], .int .i64 n] W fun e W' => ∃ b c, e = .returned (.tuple #[.agg #[.slice b ((B.length + runLen n + 7) / 8) c, .int .i64 ((B.length + runLen n : Nat) : Int)], .int .i64 0]) ∧
      Row .u8 W' b ((B.length + runLen n + 7) / 8) c (pack (B ++ runB n)) ∧ Below W.heap.size W W' := by
  refine (UWrite_put W a len cap B n hr (by omega) hn (fun b m c k x w => k = B.length + runLen n ∧ x = 0 ∧ m = (B.length + runLen n + 7) / 8 ∧ Row .u8 w b m c (pack (B ++ runB n))) ?_ ?_).mono ?_
  · intro w hw
    have hl := runLen_le hn
    have hlt : 2 ^ n - 1 < 2 ^ runLen n := by
      have h1 : 2 ^ n ≤ 2 ^ runLen n := Nat.pow_le_pow_right (by decide) (by unfold runLen; split <;> omega)
      have h0 : 0 < 2 ^ n := Nat.pow_pos (by decide)
      omega
    refine (BPut_ok w a len cap B (2 ^ n - 1) (runLen n) hw hB (by omega) hlt).mono ?_
    rintro e w1 ⟨b, c, rfl, h1, h2⟩
    rw [run_num hn] at h1
    exact ⟨b, _, c, _, 0, rfl, ⟨rfl, rfl, rfl, h1⟩, h2⟩
  · rintro b m c k x w y N N' ⟨h1, h2, h3, h4⟩ hx
    exact ⟨h1, h2, h3, (h4.box hx 0 _).box (hx.set0 _) 1 _⟩
  · rintro e w1 ⟨b, m, c, k, x, rfl, ⟨rfl, rfl, rfl, h4⟩, h2⟩
    exact ⟨b, c, rfl, h4, h2⟩

theorem UWrite_full (W : World) (a : Option Addr) (len cap : Nat) (B : List Bool) (n : Nat) (hr : Row .u8 W a len cap (pack B)) (hB : B.length ≤ 330000) (hf : 330000 < B.length + runLen n) (hn : n ≤ 48) :
    Calls Try.prog 92 #[.agg #[.slice a len cap, .int .i64 B.length], .int .i64 n] W fun e W' => e = .returned (.tuple #[.agg #[.slice none 0 0, .int .i64 0], .int .i64 18]) ∧ Below W.heap.size W W' := by
  refine (UWrite_put W a len cap B n hr (by omega) hn (fun b m c k x w => k = 0 ∧ x = 18 ∧ m = 0 ∧ b = none ∧ c = 0) ?_ ?_).mono ?_
  · intro w hw
    have hl := runLen_le hn
    have hlt : 2 ^ n - 1 < 2 ^ runLen n := by
      have h1 : 2 ^ n ≤ 2 ^ runLen n := Nat.pow_le_pow_right (by decide) (by unfold runLen; split <;> omega)
      have h0 : 0 < 2 ^ n := Nat.pow_pos (by decide)
      omega
    refine (BPut_full w a len cap B (2 ^ n - 1) (runLen n) hw hB hf (by omega) hlt).mono ?_
    rintro e w1 ⟨rfl, h2⟩
    exact ⟨none, 0, 0, 0, 18, rfl, ⟨rfl, rfl, rfl, rfl, rfl⟩, h2⟩
  · intro b m c k x w y N N' h _
    exact h
  · rintro e w1 ⟨b, m, c, k, x, rfl, ⟨rfl, rfl, rfl, rfl, rfl⟩, h2⟩
    exact ⟨rfl, h2⟩
end Go.Proofs.Ythbjcjphplgobaa

/- Contracts of the package unary: Read. -/
namespace Go.Proofs.Ythbjcjphplgobaa
open Go.RowKit Cad

/-- a variable that holds an int: its block -/
def IntAt (w : World) (y : Nat) (n : Int) : Prop := w.heap[y]? = some (.cells #[.int .i64 n] 3)
theorem IntAt.cell {w : World} {y : Nat} {n : Int} (h : IntAt w y n) : w.cell? ⟨y, 0, none⟩ = some (.int .i64 n) ∧ w.frozen? ⟨y, 0, none⟩ = false := by
  unfold IntAt at h
  refine ⟨?_, ?_⟩
  · unfold World.cell?; rw [h]; rfl
  · unfold World.frozen?; rw [h]; simp
theorem IntAt.below {w w' : World} {y B : Nat} {n : Int} (h : IntAt w y n) (hb : Below B w w') (hy : y < B) : IntAt w' y n := by
  unfold IntAt at h ⊢
  rw [hb.block y hy, h]

theorem URbit (W : World) (x y : Nat) (v : Value) (N at_ : Int) (k : Int) (hx : BoxAt W x v N) (hy : IntAt W y at_) (r s er : Int) (s64 : at_ + k = s)
    (hb : -9223372036854775808 ≤ s ∧ s ≤ 9223372036854775807)
    (hg : Hid (Calls Try.prog 98 #[.agg #[v, .int .i64 N], .int .i64 s, .int .i64 1] W fun e W' => e = .returned (.tuple #[.int .u64 r, .int .i64 er]) ∧ Below W.heap.size W W')) :
    Calls Try.prog 108 #[.int .i64 k, .pointer (some ⟨x, 0, none⟩), .pointer (some ⟨y, 0, none⟩)] W fun e W' => e = .returned (.tuple #[.int .u64 r, .int .i64 er]) ∧ Below W.heap.size W W' := by
  obtain ⟨x0, x1, x2, x3⟩ := hx.cells
  obtain ⟨y0, y1⟩ := hy.cell
  clear hx hy
  go_enter Try.func108, Try.ntmps108
  go_wp2_with (go_at_call 98; refine hg.out.mono ?_; rintro e w1 ⟨rfl, hb1⟩)
  go_ret2
  exact ⟨rfl, hb1⟩

/-- the two variables of Read: the bits, the index -/
theorem read_boxes (W : World) (v : Value) (N at_ : Int) : ∃ W0, W0 = (W.alloc (.cells #[v, .int .i64 N] 45)).alloc (.cells #[.int .i64 at_] 3) ∧ Below W.heap.size W W0 ∧ W0.heap.size = W.heap.size + 1 + 1 ∧
    BoxAt W0 W.heap.size v N ∧ IntAt W0 (W.heap.size + 1) at_ := by
  refine ⟨_, rfl, ((Below.refl W.heap.size W).alloc (Nat.le_refl _) _).alloc (by simp) _, by simp, ?_, ?_⟩
  · unfold BoxAt; rw [Below.heap_alloc _ _ _ (by simp), heap_alloc_new]
  · unfold IntAt; rw [heap_alloc2_new]

/-- the first bit is not got -/
theorem URead_no (W : World) (a : Option Addr) (len cap : Nat) (N at_ er : Int) (hat : (Lit.int .i64 at_).wf = true) (her : er = 8 ∨ er = 2 ∨ er = 24)
    (hg : ∀ w, Below W.heap.size W w → Calls Try.prog 98 #[.agg #[.slice a len cap, .int .i64 N], .int .i64 at_, .int .i64 1] w fun e W' => e = .returned (.tuple #[.int .u64 0, .int .i64 er]) ∧ Below w.heap.size w W') :
    Calls Try.prog 105 #[.agg #[.slice a len cap, .int .i64 N], .int .i64 at_] W fun e W' => e = .returned (.tuple #[.int .i64 0, .int .i64 0, .int .i64 er]) ∧ Below W.heap.size W W' := by
  have hmf : ∀ (fn : Fn) (first cap : Array Value) (w : World), (Instr.makeFunc fn first cap).run Try.prog w = .ok (.func fn first cap) w := fun _ _ _ _ => rfl
  obtain ⟨W0, hW0, hbE, hs0, hx0, hy0⟩ := read_boxes W (.slice a len cap) N at_
  have bat := bounds_i64 hat
  have hc : Hid (Calls Try.prog 108 #[.int .i64 0, .pointer (some ⟨W.heap.size, 0, none⟩), .pointer (some ⟨W.heap.size + 1, 0, none⟩)] W0 fun e W' => e = .returned (.tuple #[.int .u64 0, .int .i64 er]) ∧ Below W0.heap.size W0 W') :=
    Go.Lib.hid (URbit W0 _ _ _ N at_ 0 hx0 hy0 0 at_ er (by omega) bat (Go.Lib.hid (hg W0 hbE)))
  have hbE' := Go.Lib.hid hbE
  have hne : er ≠ 0 := by omega
  have hne' : (er != 0) = true := by simpa using hne
  clear hx0 hy0 hbE hg her hat
  go_enter Try.func105, Try.ntmps105
  go_wp2
  refine wp_loop_once ?_
  go_wp2_with (go_at_call 108; rw [← hW0]; refine hc.out.mono ?_; rintro e w1 ⟨rfl, hb1⟩)
  go_ret3
  exact ⟨rfl, hbE'.out.trans (hb1.mono (by omega))⟩

theorem bit_one (B : List Bool) (i : Nat) (h : i < B.length) : natB (midB B i (i + 1)) = (B.getD i false).toNat := by
  have e : midB B i (i + 1) = [B.getD i false] := by
    unfold midB
    rw [List.drop_eq_getElem_cons h, show i + 1 - i = 1 by omega, List.take_succ_cons, List.take_zero]
    simp [List.getD, h]
  rw [e]; simp [natB]

theorem URead_in (W : World) (a : Option Addr) (len cap : Nat) (B : List Bool) (i : Nat) (hr : Row .u8 W a len cap (pack B)) (hB : B.length ≤ 330000) (hi : i < B.length) (p q er : Nat) (hv : readV B i = (p, q, er)) :
    Calls Try.prog 105 #[.agg #[.slice a len cap, .int .i64 B.length], .int .i64 i] W fun e W' => e = .returned (.tuple #[.int .i64 p, .int .i64 q, .int .i64 er]) ∧ Below W.heap.size W W' := by
  have hmf : ∀ (fn : Fn) (first cap : Array Value) (w : World), (Instr.makeFunc fn first cap).run Try.prog w = .ok (.func fn first cap) w := fun _ _ _ _ => rfl
  obtain ⟨W0, hW0, hbE, hs0, hx0, hy0⟩ := read_boxes W (.slice a len cap) B.length i
  have hrE := Go.Lib.hid (hr.below hbE (Nat.le_refl _))
  have hx0' := Go.Lib.hid hx0
  have hy0' := Go.Lib.hid hy0
  have hbE' := Go.Lib.hid hbE
  have hs0' := Go.Lib.hid hs0
  have hv' := Go.Lib.hid hv
  have hone := Go.Lib.hid (bit_one B)
  clear hx0 hy0 hbE hr hv
  go_enter Try.func105, Try.ntmps105
  go_wp2
  rw [← hW0]
  clear hW0
  go_loopw [4] (fun n wr => ∃ k : Nat, k ≤ 48 ∧ i + k ≤ B.length ∧ n = .int .i64 k ∧ (∀ j, j < k → (B.drop i).getD j false = true) ∧ Below W0.heap.size W0 wr) (fun n _ => 48 - (intOf n).toNat)
  case atStart => exact ⟨0, by omega, by omega, rfl, fun j h => by omega, Below.refl _ _⟩
  case round =>
    obtain ⟨k, hk, hik, rfl, hones, hb⟩ := hrel
    have hones' := Go.Lib.hid hones
    have hxr := hx0'.out.below hb (by omega)
    have hyr := hy0'.out.below hb (by omega)
    have hrr := hrE.out.below hb (Nat.le_refl _)
    obtain ⟨y0, y1⟩ := hyr.cell
    have hb' := Go.Lib.hid hb
    have hlen : (B.drop i).length = B.length - i := by simp
    clear hones
    by_cases hlt : k < 48
    · have hlt' : (k : Int) < 48 := by omega
      by_cases hin : i + k < B.length
      · have hg := BGet_ok wr a len cap B (i + k) 1 hrr hB (by omega) (by omega)
        rw [hone.out _ hin] at hg
        have hc := URbit wr _ _ _ B.length i k hxr hyr _ ((i + k : Nat) : Int) 0 (by omega) (by omega) (Go.Lib.hid hg)
        have hdg := drop_getD B i k
        cases hbit : B.getD (i + k) false with
        | true =>
          rw [hbit] at hc hdg
          have hc' := Go.Lib.hid hc
          clear hc hg hb hxr hyr hrr
          go_wp2_with (go_at_call 108; refine hc'.out.mono ?_; rintro e w1 ⟨rfl, hb1⟩; have hb1' := Go.Lib.hid (hb'.out.trans (hb1.mono hb'.out.size)); clear hb1)
          go_roundw
          case rel => exact ⟨k + 1, by omega, by omega, by go_num, fun j hj => by
            by_cases e : j = k
            · subst e; exact hdg
            · exact hones'.out j (by omega), hb1'.out⟩
          case measure => (simp [intOf] <;> omega)
        | false =>
          rw [hbit] at hc hdg
          have hc' := Go.Lib.hid hc
          have hl := lead_eq (B.drop i) 48 k hk hones'.out (fun _ => hdg) (by omega)
          have hz := readV_zero hl hlt hin
          rw [hv'.out] at hz
          cases hz
          clear hc hg hb hxr hyr hrr
          go_wp2_with (go_at_call 108; refine hc'.out.mono ?_; rintro e w1 ⟨rfl, hb1⟩; have hb1' := Go.Lib.hid (hb'.out.trans (hb1.mono hb'.out.size)); obtain ⟨z0, z1⟩ := (hy0'.out.below hb1'.out (by omega)).cell; clear hb1)
          go_quiet (fail)
          go_wp2
          go_ret3
          exact ⟨by go_num, Below.drewN (hbE'.out.trans (hb1'.out.mono (by omega))) _⟩
      · have hv : Valid (pack B) B.length := ⟨B, rfl, hB, rfl⟩
        have hg := BGet_short wr a len cap B.length (pack B) ((i + k : Nat) : Int) 1 hrr (bounds_of_len (by omega)) hv (by omega) (by omega) (by omega)
        have hc := URbit wr _ _ _ B.length i k hxr hyr _ ((i + k : Nat) : Int) 24 (by omega) (by omega) (Go.Lib.hid hg)
        have hc' := Go.Lib.hid hc
        have hl := lead_eq (B.drop i) 48 k hk hones'.out (fun _ => getD_ge _ _ (by omega)) (by omega)
        have hz := readV_short hl hlt (by omega)
        rw [hv'.out] at hz
        cases hz
        clear hc hg hb hxr hyr hrr hv
        go_wp2_with (go_at_call 108; refine hc'.out.mono ?_; rintro e w1 ⟨rfl, hb1⟩; have hb1' := Go.Lib.hid (hb'.out.trans (hb1.mono hb'.out.size)); clear hb1)
        go_ret3
        exact ⟨rfl, hbE'.out.trans (hb1'.out.mono (by omega))⟩
    · obtain rfl : k = 48 := by omega
      have hl := lead_eq (B.drop i) 48 48 hk hones'.out (fun h => absurd h (by omega)) (by omega)
      have hz := readV_full hl
      rw [hv'.out] at hz
      cases hz
      clear hb hxr hyr hrr
      go_wp2
      go_quiet (fail)
      go_wp2
      go_ret3
      exact ⟨by go_num, Below.drewN (hbE'.out.trans (hb'.out.mono (by omega))) _⟩
end Go.Proofs.Ythbjcjphplgobaa

/- Contracts of the reference of unary. -/
namespace Go.Proofs.Ythbjcjphplgobaa
open Go.RowKit Cad

end Go.Proofs.Ythbjcjphplgobaa

/- Contracts of the reference of unary: Write and Read. -/
namespace Go.Proofs.Ythbjcjphplgobaa
open Go.RowKit Cad

/-- what Got says: the number and the index behind it, or -1 and 0 -/
def gotV (B : List Bool) (i : Nat) : Int × Nat :=
  let n := lead (B.drop i) 48
  if n = 48 then (48, i + 48) else if i + n < B.length then ((n : Int), i + n + 1) else (-1, 0)
theorem gotV_read {B : List Bool} {i : Nat} {g : Int} {m : Nat} (h : gotV B i = (g, m)) : (g < 0 ∧ m = 0 ∧ readV B i = (0, 0, 24)) ∨ ∃ p : Nat, g = p ∧ readV B i = (p, m, 0) := by
  unfold gotV at h
  unfold readV
  simp only at h ⊢
  split at h
  · rename_i e
    cases h
    right; exact ⟨48, rfl, by rw [if_pos e]⟩
  · rename_i e
    rw [if_neg e]
    split at h
    · rename_i e2
      cases h
      right; exact ⟨_, rfl, by rw [if_pos e2]⟩
    · rename_i e2
      cases h
      left; exact ⟨by decide, rfl, by rw [if_neg e2]⟩

end Go.Proofs.Ythbjcjphplgobaa
