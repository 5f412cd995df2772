/- Contracts of the package bits: Get and Put where they refuse. -/
import Derived.Test.YtahefkjgcdchlaaMyBitI
namespace Go.Proofs.Ytahefkjgcdchlaa
open Go.RowKit Cad

theorem BGet_bad (W : World) (a : Option Addr) (len cap : Nat) (N : Int) (l : List Int) (i n : Int) (hr : Row .u8 W a len cap l) (hN : (Lit.int .i64 N).wf = true) (hv : ¬ Valid l N) :
    Calls Try.prog 31 #[.agg #[.slice a len cap, .int .i64 N], .int .i64 i, .int .i64 n] W fun e W' => e = .returned (.tuple #[.int .u64 0, .int .i64 8]) ∧ Below W.heap.size W W' := by
  have hbE' := Go.Lib.hid (below1 W (.cells #[.slice a len cap, .int .i64 N] 28))
  have hck := Go.Lib.hid (BCheck_any _ a len cap N l (hr.below hbE'.out (Nat.le_refl _)) hN 8 (.inr ⟨hv, rfl⟩))
  clear hr hN hv
  go_enter Try.func31, Try.ntmps31
  go_wp2_with (go_at_call 28; refine hck.out.mono ?_; rintro e w1 ⟨rfl, hb1⟩; have hb1' := Go.Lib.hid hb1; clear hb1)
  go_ret2
  exact ⟨rfl, hbE'.out.trans (hb1'.out.mono (by simp))⟩

theorem BGet_arg (W : World) (a : Option Addr) (len cap : Nat) (N : Int) (l : List Int) (i : Int) (n : Nat) (hr : Row .u8 W a len cap l) (hN : (Lit.int .i64 N).wf = true) (hv : Valid l N) (hn : n ≤ 64) (hi : i < 0) :
    Calls Try.prog 31 #[.agg #[.slice a len cap, .int .i64 N], .int .i64 i, .int .i64 n] W fun e W' => e = .returned (.tuple #[.int .u64 0, .int .i64 2]) ∧ Below W.heap.size W W' := by
  have hbE' := Go.Lib.hid (below1 W (.cells #[.slice a len cap, .int .i64 N] 28))
  have hck := Go.Lib.hid (BCheck_any _ a len cap N l (hr.below hbE'.out (Nat.le_refl _)) hN 0 (.inl ⟨hv, rfl⟩))
  clear hr hN hv
  go_enter Try.func31, Try.ntmps31
  go_wp2_with (first
    | (go_at_call 28; refine hck.out.mono ?_; rintro e w1 ⟨rfl, hb1⟩; have hb1' := Go.Lib.hid hb1; clear hb1)
    | (go_at_call 32; refine (BisNumberSize_ok _ n hn).mono ?_; rintro e w5 ⟨rfl, rfl⟩))
  go_ret2
  exact ⟨rfl, hbE'.out.trans (hb1'.out.mono (by simp))⟩

theorem BGet_short (W : World) (a : Option Addr) (len cap : Nat) (N : Int) (l : List Int) (i : Int) (n : Nat) (hr : Row .u8 W a len cap l) (hN : (Lit.int .i64 N).wf = true) (hv : Valid l N) (hn : n ≤ 64) (hi : ¬ i < 0) (hs : N - n < i) :
    Calls Try.prog 31 #[.agg #[.slice a len cap, .int .i64 N], .int .i64 i, .int .i64 n] W fun e W' => e = .returned (.tuple #[.int .u64 0, .int .i64 24]) ∧ Below W.heap.size W W' := by
  have hbE' := Go.Lib.hid (below1 W (.cells #[.slice a len cap, .int .i64 N] 28))
  have hck := Go.Lib.hid (BCheck_any _ a len cap N l (hr.below hbE'.out (Nat.le_refl _)) hN 0 (.inl ⟨hv, rfl⟩))
  have hx0' := Go.Lib.hid (show BoxAt (W.alloc (.cells #[.slice a len cap, .int .i64 N] 28)) W.heap.size (.slice a len cap) N from heap_alloc_new _ _)
  have bN := hv.n
  clear hr hN hv
  go_enter Try.func31, Try.ntmps31
  go_wp2_with (first
    | (go_at_call 28; refine hck.out.mono ?_; rintro e w1 ⟨rfl, hb1⟩; obtain ⟨c0, c1, c2, c3⟩ := (hx0'.out.below hb1 (by simp)).cells; have hb1' := Go.Lib.hid hb1; clear hb1)
    | (go_at_call 32; refine (BisNumberSize_ok _ n hn).mono ?_; rintro e w5 ⟨rfl, rfl⟩))
  go_ret2
  exact ⟨rfl, hbE'.out.trans (hb1'.out.mono (by simp))⟩

theorem BPut_full (W : World) (a : Option Addr) (len cap : Nat) (B : List Bool) (v n : Nat) (hr : Row .u8 W a len cap (pack B)) (hB : B.length ≤ 330000) (hf : 330000 < B.length + n) (hn : n ≤ 64) (hv : v < 2 ^ n) :
    Calls Try.prog 12 #[.agg #[.slice a len cap, .int .i64 B.length], .int .u64 v, .int .i64 n] W fun e W' => e = .returned (.tuple #[.agg #[.slice none 0 0, .int .i64 0], .int .i64 18]) ∧ Below W.heap.size W W' := by
  obtain ⟨W0, hW0, hbE, hs0, hx0, hy0⟩ := two_boxes W (.slice a len cap) B.length
  have hrE := hr.below hbE (Nat.le_refl _)
  have hck := Go.Lib.hid (BCheck_any W0 a len cap B.length (pack B) hrE (bounds_of_len (by omega)) 0 (.inl ⟨⟨B, rfl, by omega, rfl⟩, rfl⟩))
  have hx0' := Go.Lib.hid hx0
  have hy0' := Go.Lib.hid hy0
  have hbE' := Go.Lib.hid hbE
  have hrE' := Go.Lib.hid hrE
  have hs0' := Go.Lib.hid hs0
  have hof : Hid (∀ w, Calls Try.prog 34 #[.int .u64 v, .int .i64 n] w fun e W' => ∃ b c, e = .returned (.agg #[.slice b ((n + 7) / 8) c, .int .i64 n]) ∧ Row .u8 W' b ((n + 7) / 8) c (pack (numB v n)) ∧ Below w.heap.size w W') :=
    Go.Lib.hid fun w => BofNumber_ok w v n hn hv
  obtain ⟨q, hq⟩ : ∃ q, q = (n + 7) / 8 := ⟨_, rfl⟩
  rw [← hq] at hof
  have hqb : q ≤ 8 := by omega
  have hjo : Hid (∀ (w : World) b c, Calls Try.prog 33 #[.agg #[.slice a len cap, .int .i64 B.length], .agg #[.slice b q c, .int .i64 n]] w fun e W' => e = .returned (.tuple #[.agg #[.slice none 0 0, .int .i64 0], .int .i64 18]) ∧ Below w.heap.size w W') := Go.Lib.hid (fun w b c =>
    Bjoin_full w a len cap B.length b q c n hB (by omega) (by omega))
  have hz : (v : Int) / 2 ^ n = 0 := by
    have : v / 2 ^ n = 0 := Nat.div_eq_of_lt hv
    have e : ((v : Int) / 2 ^ n) = ((v / 2 ^ n : Nat) : Int) := by simp
    rw [e, this]; rfl
  have hv64 : v < 18446744073709551616 := Nat.lt_of_lt_of_le hv (Nat.pow_le_pow_right (n := 2) (by decide) hn)
  clear hx0 hy0 hbE hrE hr hv hq
  go_enter Try.func12, Try.ntmps12
  go_wp2_with (first
    | (go_at_call 28; rw [← hW0]; refine hck.out.mono ?_; rintro e w1 ⟨rfl, hb1⟩; obtain ⟨c0, c1, c2, c3⟩ := (hx0'.out.below hb1 (by omega)).cells; have hb1' := Go.Lib.hid hb1; clear hb1 hW0)
    | (go_at_call 32; refine (BisNumberSize_ok _ n hn).mono ?_; rintro e w5 ⟨rfl, rfl⟩))
  go_region_held3 (fun w' => w'.cell? ⟨W.heap.size, 0, none⟩ = some (.slice a len cap) ∧ w'.cell? ⟨W.heap.size, 1, none⟩ = some (.int .i64 B.length))
    (first
      | go_keep
      | (go_split_ands
         refine ⟨?_, ?_⟩
         · first | exact ((hx0'.out.below hb13 (by omega)).cells).1 | exact ((hx0'.out.below hb12 (by omega)).cells).1
         · first | exact ((hx0'.out.below hb13 (by omega)).cells).2.1 | exact ((hx0'.out.below hb12 (by omega)).cells).2.1))
    ((first
      | (go_at_call 34; refine (hof.out _).mono ?_; rintro e w2 ⟨b2, cp2, rfl, hr2, hb2⟩; have hb12 := hb1'.out.drew.trans (hb2.mono hb1'.out.drew.size))
      | (go_at_call 33; refine (hjo.out _ _ _).mono ?_; rintro e w3 ⟨rfl, hb3⟩; have hb13 := hb12.trans (hb3.mono hb12.size); obtain ⟨e0, e1, f0, f1⟩ := (hy0'.out.below hb13 (by omega)).cells)))
  go_wp2
  (try simp only [Exit.inBlock, Exit.then])
  have hy3 := hy0'.out.below hb13 (by omega)
  refine bodyPost_ret (results_box_tmp (by rfl) _ _ (W.heap.size + 1) _ _ rfl (hy3.set _ _)) rfl ?_
  refine ⟨by simp, ?_⟩
  exact ((hbE'.out.trans (hb13.mono (by omega))).setCell (by simp) _).setCell (by simp) _
end Go.Proofs.Ytahefkjgcdchlaa
