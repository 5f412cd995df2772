/- Contracts of the package bits: Cut. -/
import Derived.Test.YtahefkjgcdchlaaMyBitG
namespace Go.Proofs.Ytahefkjgcdchlaa
open Go.RowKit Cad

theorem BCut_bad (W : World) (a : Option Addr) (len cap : Nat) (N : Int) (l : List Int) (i t : Int) (hr : Row .u8 W a len cap l) (hN : (Lit.int .i64 N).wf = true) (hv : ¬ Valid l N) :
    Calls Try.prog 22 #[.agg #[.slice a len cap, .int .i64 N], .int .i64 i, .int .i64 t] W fun e W' => e = .returned (.tuple #[.agg #[.slice none 0 0, .int .i64 0], .int .i64 8]) ∧ Below W.heap.size W W' := by
  obtain ⟨W0, hW0, hbE, hs0, hx0, hy0⟩ := two_boxes W (.slice a len cap) N
  have hrE := hr.below hbE (Nat.le_refl _)
  have hck := Go.Lib.hid (BCheck_any W0 a len cap N l hrE hN 8 (.inr ⟨hv, rfl⟩))
  have hy0' := Go.Lib.hid hy0
  have hbE' := Go.Lib.hid hbE
  clear hr hrE hx0 hy0 hbE hN
  go_enter Try.func22, Try.ntmps22
  go_wp2_with (go_at_call 28; rw [← hW0]; refine hck.out.mono ?_; rintro e w1 ⟨rfl, hb1⟩; obtain ⟨e0, e1, f0, f1⟩ := (hy0'.out.below hb1 (by omega)).cells; have hb1' := Go.Lib.hid hb1; clear hb1 hW0)
  (try simp only [Exit.inBlock, Exit.then])
  refine bodyPost_ret (results_box_tmp (by rfl) _ _ (W.heap.size + 1) _ _ rfl ((hy0'.out.below hb1'.out (by omega)).set _ _)) rfl ?_
  exact ⟨rfl, ((hbE'.out.trans (hb1'.out.mono (by omega))).setCell (by simp) _).setCell (by simp) _⟩

theorem BCut_arg (W : World) (a : Option Addr) (len cap : Nat) (N : Int) (l : List Int) (i t : Int) (hr : Row .u8 W a len cap l) (hN : (Lit.int .i64 N).wf = true) (hv : Valid l N) (hi : i < 0 ∨ N < t ∨ t < i) :
    Calls Try.prog 22 #[.agg #[.slice a len cap, .int .i64 N], .int .i64 i, .int .i64 t] W fun e W' => e = .returned (.tuple #[.agg #[.slice none 0 0, .int .i64 0], .int .i64 2]) ∧ Below W.heap.size W W' := by
  obtain ⟨W0, hW0, hbE, hs0, hx0, hy0⟩ := two_boxes W (.slice a len cap) N
  have hrE := hr.below hbE (Nat.le_refl _)
  have hck := Go.Lib.hid (BCheck_any W0 a len cap N l hrE hN 0 (.inl ⟨hv, rfl⟩))
  have hx0' := Go.Lib.hid hx0
  have hy0' := Go.Lib.hid hy0
  have hbE' := Go.Lib.hid hbE
  clear hr hrE hx0 hy0 hbE hN
  have key : (i < 0) ∨ (¬ i < 0 ∧ N < t) ∨ (¬ i < 0 ∧ ¬ N < t ∧ t < i) := by omega
  rcases key with h | ⟨h, h'⟩ | ⟨h, h', h''⟩
  all_goals
    clear hi
    go_enter Try.func22, Try.ntmps22
    go_wp2_with (go_at_call 28; rw [← hW0]; refine hck.out.mono ?_; rintro e w1 ⟨rfl, hb1⟩; obtain ⟨d0, d1, g0, g1⟩ := (hx0'.out.below hb1 (by omega)).cells; obtain ⟨e0, e1, f0, f1⟩ := (hy0'.out.below hb1 (by omega)).cells; have hb1' := Go.Lib.hid hb1; clear hb1 hW0)
    (try simp only [Exit.inBlock, Exit.then])
    refine bodyPost_ret (results_box_tmp (by rfl) _ _ (W.heap.size + 1) _ _ rfl ((hy0'.out.below hb1'.out (by omega)).set _ _)) rfl ?_
    exact ⟨rfl, ((hbE'.out.trans (hb1'.out.mono (by omega))).setCell (by simp) _).setCell (by simp) _⟩

theorem BCut_ok (W : World) (a : Option Addr) (len cap : Nat) (B : List Bool) (i t : Nat) (hr : Row .u8 W a len cap (pack B)) (hB : B.length ≤ 330000) (h1 : i ≤ t) (h2 : t ≤ B.length) :
    Calls Try.prog 22 #[.agg #[.slice a len cap, .int .i64 B.length], .int .i64 i, .int .i64 t] W fun e W' => ∃ b c, e = .returned (.tuple #[.agg #[.slice b (((midB B i t).length + 7) / 8) c, .int .i64 ((t - i : Nat) : Int)], .int .i64 0]) ∧
      Row .u8 W' b (((midB B i t).length + 7) / 8) c (pack (midB B i t)) ∧ Below W.heap.size W W' := by
  obtain ⟨W0, hW0, hbE, hs0, hx0, hy0⟩ := two_boxes W (.slice a len cap) B.length
  have hrE := hr.below hbE (Nat.le_refl _)
  have hck := Go.Lib.hid (BCheck_any W0 a len cap B.length (pack B) hrE (bounds_of_len (by omega)) 0 (.inl ⟨⟨B, rfl, hB, rfl⟩, rfl⟩))
  have hx0' := Go.Lib.hid hx0
  have hy0' := Go.Lib.hid hy0
  have hbE' := Go.Lib.hid hbE
  obtain ⟨n, hn⟩ : ∃ n, n = t - i := ⟨_, rfl⟩
  obtain ⟨m, hm⟩ : ∃ m, m = ((midB B i t).length + 7) / 8 := ⟨_, rfl⟩
  obtain ⟨C, hC⟩ : ∃ C, C = pack (midB B i t) := ⟨_, rfl⟩
  have hcut : Hid (∀ w, Below W0.heap.size W0 w → Calls Try.prog 41 #[.agg #[.slice a len cap, .int .i64 B.length], .int .i64 i, .int .i64 t] w fun e W' => ∃ b c, e = .returned (.agg #[.slice b m c, .int .i64 n]) ∧ Row .u8 W' b m c C ∧ Below w.heap.size w W') := Go.Lib.hid (fun w hw => by
    rw [hn, hm, hC]
    exact Bcut_ok w a len cap B i t (hrE.below hw (Nat.le_refl _)) hB h1 h2)
  rw [← hn, ← hm, ← hC]
  clear hx0 hy0 hbE hrE hr hn hm hC
  go_enter Try.func22, Try.ntmps22
  go_wp2_with (first
    | (go_at_call 28; rw [← hW0]; refine hck.out.mono ?_; rintro e w1 ⟨rfl, hb1⟩; obtain ⟨d0, d1, g0, g1⟩ := (hx0'.out.below hb1 (by omega)).cells; have hb1' := Go.Lib.hid hb1; clear hb1 hW0)
    | (go_at_call 41; refine (hcut.out _ hb1'.out).mono ?_; rintro e w2 ⟨b2, cp2, rfl, hr2, hb2⟩; have hb12 := hb1'.out.trans (hb2.mono hb1'.out.size); obtain ⟨e0, e1, f0, f1⟩ := (hy0'.out.below hb12 (by omega)).cells; have hb12' := Go.Lib.hid hb12; have hr2' := Go.Lib.hid hr2; clear hb2 hb12 hr2))
  (try simp only [Exit.inBlock, Exit.then])
  have hy2 := hy0'.out.below hb12'.out (by omega)
  refine bodyPost_ret (results_box_tmp (by rfl) _ _ (W.heap.size + 1) _ _ rfl (hy2.set _ _)) rfl ?_
  refine ⟨b2, cp2, by simp, (hr2'.out.box hy2 0 (.slice b2 m cp2)).box (hy2.set0 _) 1 _, ?_⟩
  exact ((hbE'.out.trans (hb12'.out.mono (by omega))).setCell (by simp) _).setCell (by simp) _
end Go.Proofs.Ytahefkjgcdchlaa
