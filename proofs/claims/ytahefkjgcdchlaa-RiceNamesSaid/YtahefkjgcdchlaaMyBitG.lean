/- Contracts of the package bits: Get and Put. -/
import Derived.Test.YtahefkjgcdchlaaMyBitN
namespace Go.Proofs.Ytahefkjgcdchlaa
open Go.RowKit Cad

theorem bounds_of_len {n : Nat} (h : n ≤ 1000000000) : (Lit.int .i64 (n : Int)).wf = true := WalkArith.wf_i64 (by omega)

/-- bytes stay where a variable that holds bits is written -/
theorem Row.box {w : World} {a a' : Option Addr} {len cap n' c' : Nat} {l : List Int} {x : Nat} {N : Int} (h : Row .u8 w a len cap l) (hx : BoxAt w x (.slice a' n' c') N) (o : Nat) (u : Value) : Row .u8 (w.setCell ⟨x, o, none⟩ u) a len cap l := by
  refine ⟨h.hlen, h.hcap, h.hmax, h.wf, fun hp => ?_, h.nil⟩
  obtain ⟨b, off, rfl, hlt, hc⟩ := h.cells hp
  have hne : b ≠ x := by
    rintro rfl
    have h0 := hc 0 hp
    unfold World.cell? at h0
    unfold BoxAt at hx
    rw [hx] at h0
    match off, h0 with
    | 0, h0 => simp at h0
    | 1, h0 => simp at h0
    | off + 2, h0 => simp at h0
  refine ⟨b, off, rfl, by simpa using hlt, fun i hi => ?_⟩
  rw [← hc i hi]
  unfold World.cell?
  rw [Below.heap_setCell _ _ _ _ (by simpa using hne)]
theorem BoxAt.set0 {w : World} {x : Nat} {v : Value} {N : Int} (h : BoxAt w x v N) (v' : Value) : BoxAt (w.setCell ⟨x, 0, none⟩ v') x v' N := by
  unfold BoxAt at h ⊢
  exact heap_setCell_same _ _ 0 _ _ v' h

/-- two boxes: the bits that came in, and the bits that go out -/
theorem two_boxes (W : World) (v : Value) (N : Int) : ∃ W0, W0 = (W.alloc (.cells #[v, .int .i64 N] 28)).alloc (.cells #[.slice none 0 0, .int .i64 0] 28) ∧ Below W.heap.size W W0 ∧ W0.heap.size = W.heap.size + 1 + 1 ∧
    BoxAt W0 W.heap.size v N ∧ BoxAt W0 (W.heap.size + 1) (.slice none 0 0) 0 := by
  refine ⟨_, rfl, ((Below.refl W.heap.size W).alloc (Nat.le_refl _) _).alloc (by simp) _, by simp, ?_, ?_⟩
  · unfold BoxAt; rw [Below.heap_alloc _ _ _ (by simp), heap_alloc_new]
  · unfold BoxAt; rw [heap_alloc2_new]

theorem BGet_ok (W : World) (a : Option Addr) (len cap : Nat) (B : List Bool) (i n : Nat) (hr : Row .u8 W a len cap (pack B)) (hB : B.length ≤ 330000) (hn : n ≤ 64) (hi : i + n ≤ B.length) :
    Calls Try.prog 31 #[.agg #[.slice a len cap, .int .i64 B.length], .int .i64 i, .int .i64 n] W fun e W' => e = .returned (.tuple #[.int .u64 (natB (midB B i (i + n)) : Nat), .int .i64 0]) ∧ Below W.heap.size W W' := by
  have hbE := (Below.refl W.heap.size W).alloc (Nat.le_refl _) (.cells #[.slice a len cap, .int .i64 B.length] 28)
  have hrE := hr.below hbE (Nat.le_refl _)
  have hx0 : BoxAt (W.alloc (.cells #[.slice a len cap, .int .i64 B.length] 28)) W.heap.size (.slice a len cap) B.length := by
    unfold BoxAt; rw [heap_alloc_new]
  have hck := Go.Lib.hid (BCheck_any _ a len cap B.length (pack B) hrE (bounds_of_len (by omega)) 0 (.inl ⟨⟨B, rfl, hB, rfl⟩, rfl⟩))
  have hx0' := Go.Lib.hid hx0
  have hbE' := Go.Lib.hid hbE
  have hrE' := Go.Lib.hid hrE
  have hml := midB_len B (show i ≤ i + n by omega) hi
  have hml' := Go.Lib.hid (show (midB B i (i + n)).length = n by omega)
  obtain ⟨C, hC⟩ : ∃ C, C = midB B i (i + n) := ⟨_, rfl⟩
  have hcut : Hid (∀ w, Below (W.alloc (.cells #[.slice a len cap, .int .i64 B.length] 28)).heap.size (W.alloc (.cells #[.slice a len cap, .int .i64 B.length] 28)) w →
      Calls Try.prog 41 #[.agg #[.slice a len cap, .int .i64 B.length], .int .i64 i, .int .i64 ((i : Int) + (n : Int))] w fun e W' => ∃ b c, e = .returned (.agg #[.slice b ((C.length + 7) / 8) c, .int .i64 (C.length : Nat)]) ∧ Row .u8 W' b ((C.length + 7) / 8) c (pack C) ∧ Below w.heap.size w W') := Go.Lib.hid (fun w hw => by
    have := Bcut_ok w a len cap B i (i + n) (hrE.below hw (Nat.le_refl _)) hB (by omega) hi
    rw [← hml, ← hC] at this
    push_cast at this
    exact this)
  have hnum : Hid (∀ (w : World) b c, Row .u8 w b ((C.length + 7) / 8) c (pack C) → Calls Try.prog 45 #[.agg #[.slice b ((C.length + 7) / 8) c, .int .i64 (C.length : Nat)]] w fun e W' => e = .returned (.int .u64 (natB C : Nat)) ∧ Below w.heap.size w W') :=
    Go.Lib.hid fun w b c h => Bnumber_ok w b _ c C h (by rw [hC, hml]; omega)
  rw [← hC] at hml' ⊢
  have hiI : (i : Int) ≤ (B.length : Int) - (n : Int) := by omega
  obtain ⟨y, hy⟩ : ∃ y, y = (natB C : Nat) := ⟨_, rfl⟩
  rw [← hy] at hnum ⊢
  clear hx0 hbE hrE hml hC hr hy
  go_enter Try.func31, Try.ntmps31
  go_wp2_with (first
    | (go_at_call 28; refine hck.out.mono ?_; rintro e w1 ⟨rfl, hb1⟩; obtain ⟨c0, c1, c2, c3⟩ := (hx0'.out.below hb1 (by simp)).cells; have hb1' := Go.Lib.hid hb1; clear hb1)
    | (go_at_call 32; refine (BisNumberSize_ok _ n hn).mono ?_; rintro e w5 ⟨rfl, rfl⟩)
    | (go_at_call 41; refine (hcut.out _ hb1'.out).mono ?_; rintro e w2 ⟨b2, cp2, rfl, hr2, hb2⟩; have hb12 := Go.Lib.hid (hb1'.out.trans (hb2.mono hb1'.out.size)); have hr2' := Go.Lib.hid hr2; clear hr2 hb2)
    | (go_at_call 45; refine (hnum.out _ _ _ hr2'.out).mono ?_; rintro e w3 ⟨rfl, hb3⟩))
  go_ret2
  exact ⟨rfl, hbE'.out.trans ((hb12.out.trans (hb3.mono hb12.out.size)).mono (by simp))⟩

theorem BPut_ok (W : World) (a : Option Addr) (len cap : Nat) (B : List Bool) (v n : Nat) (hr : Row .u8 W a len cap (pack B)) (hB : B.length + n ≤ 330000) (hn : n ≤ 64) (hv : v < 2 ^ n) :
    Calls Try.prog 12 #[.agg #[.slice a len cap, .int .i64 B.length], .int .u64 v, .int .i64 n] W fun e W' => ∃ b c, e = .returned (.tuple #[.agg #[.slice b ((B.length + n + 7) / 8) c, .int .i64 ((B.length + n : Nat) : Int)], .int .i64 0]) ∧
      Row .u8 W' b ((B.length + n + 7) / 8) c (pack (B ++ numB v n)) ∧ Below W.heap.size W W' := by
  have hmx := hr.hmax
  have hcp := hr.hcap
  unfold maxLen at hmx
  obtain ⟨W0, hW0, hbE, hs0, hx0, hy0⟩ := two_boxes W (.slice a len cap) B.length
  have hrE := hr.below hbE (Nat.le_refl _)
  have hck := Go.Lib.hid (BCheck_any W0 a len cap B.length (pack B) hrE (bounds_of_len (by omega)) 0 (.inl ⟨⟨B, rfl, by omega, rfl⟩, rfl⟩))
  have hx0' := Go.Lib.hid hx0
  have hy0' := Go.Lib.hid hy0
  have hbE' := Go.Lib.hid hbE
  have hrE' := Go.Lib.hid hrE
  have hs0' := Go.Lib.hid hs0
  have hof : Hid (∀ w, Calls Try.prog 34 #[.int .u64 v, .int .i64 n] w fun e W' => ∃ b c, e = .returned (.agg #[.slice b ((n + 7) / 8) c, .int .i64 n]) ∧ Row .u8 W' b ((n + 7) / 8) c (pack (numB v n)) ∧ Below w.heap.size w W') :=
    Go.Lib.hid fun w => BofNumber_ok w v n hn hv
  obtain ⟨q, hq⟩ : ∃ q, q = (n + 7) / 8 := ⟨_, rfl⟩
  rw [← hq] at hof
  have hqb : q ≤ 8 := by omega
  obtain ⟨m, hm⟩ : ∃ m, m = (B.length + n + 7) / 8 := ⟨_, rfl⟩
  rw [← hm]
  obtain ⟨N, hN⟩ : ∃ N, N = B.length + n := ⟨_, rfl⟩
  rw [← hN]
  have hjo : Hid (∀ (w : World) b c, Row .u8 w a len cap (pack B) → Row .u8 w b q c (pack (numB v n)) → Calls Try.prog 33 #[.agg #[.slice a len cap, .int .i64 B.length], .agg #[.slice b q c, .int .i64 n]] w fun e W' => ∃ b c, e = .returned (.tuple #[.agg #[.slice b m c, .int .i64 N], .int .i64 0]) ∧
      Row .u8 W' b m c (pack (B ++ numB v n)) ∧ Below w.heap.size w W') := Go.Lib.hid (fun w b c h1 h2 => by
    have := Bjoin_ok w a len cap B h1 b q c (numB v n) h2 (by rw [numB_len]; omega)
    rw [List.length_append, numB_len, ← hN] at this
    rw [hm, ← hN]
    exact this)
  have hz : (v : Int) / 2 ^ n = 0 := by
    have : v / 2 ^ n = 0 := Nat.div_eq_of_lt hv
    have e : ((v : Int) / 2 ^ n) = ((v / 2 ^ n : Nat) : Int) := by simp
    rw [e, this]; rfl
  have hv64 : v < 18446744073709551616 := Nat.lt_of_lt_of_le hv (Nat.pow_le_pow_right (n := 2) (by decide) hn)
  clear hx0 hy0 hbE hrE hr hv hq hm hN hmx hcp
  go_enter Try.func12, Try.ntmps12
  go_wp2_with (first
    | (go_at_call 28; rw [← hW0]; refine hck.out.mono ?_; rintro e w1 ⟨rfl, hb1⟩; obtain ⟨c0, c1, c2, c3⟩ := (hx0'.out.below hb1 (by omega)).cells; have hb1' := Go.Lib.hid hb1; clear hb1 hW0)
    | (go_at_call 32; refine (BisNumberSize_ok _ n hn).mono ?_; rintro e w5 ⟨rfl, rfl⟩))
  go_region_held3 (fun w' => w'.cell? ⟨W.heap.size, 0, none⟩ = some (.slice a len cap) ∧ w'.cell? ⟨W.heap.size, 1, none⟩ = some (.int .i64 B.length))
    (first
      | go_keep
      | (go_split_ands
         refine ⟨?_, ?_⟩
         · first | exact ((hx0'.out.below hb13 (by omega)).cells).1 | exact ((hx0'.out.below hb12 (by omega)).cells).1
         · first | exact ((hx0'.out.below hb13 (by omega)).cells).2.1 | exact ((hx0'.out.below hb12 (by omega)).cells).2.1))
    ((first
      | (go_at_call 34; refine (hof.out _).mono ?_; rintro e w2 ⟨b2, cp2, rfl, hr2, hb2⟩; have hb12 := hb1'.out.drew.trans (hb2.mono hb1'.out.drew.size))
      | (go_at_call 33; refine (hjo.out _ _ _ (hrE'.out.below hb12 (Nat.le_refl _)) hr2).mono ?_; rintro e w3 ⟨b3, cp3, rfl, hr3, hb3⟩; have hb13 := hb12.trans (hb3.mono hb12.size); obtain ⟨e0, e1, f0, f1⟩ := (hy0'.out.below hb13 (by omega)).cells)))
  go_wp2
  (try simp only [Exit.inBlock, Exit.then])
  have hy3 := hy0'.out.below hb13 (by omega)
  refine bodyPost_ret (results_box_tmp (by rfl) _ _ (W.heap.size + 1) _ _ rfl (hy3.set _ _)) rfl ?_
  refine ⟨b3, cp3, by simp, (hr3.box hy3 0 (.slice b3 m cp3)).box (hy3.set0 _) 1 _, ?_⟩
  exact ((hbE'.out.trans (hb13.mono (by omega))).setCell (by simp) _).setCell (by simp) _
end Go.Proofs.Ytahefkjgcdchlaa
