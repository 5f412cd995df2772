/- ResumeNames: the chapter's examples, states that are none, limits, errors. -/
import Derived.Test.YtcodofmghbgoeaaZ11
import Derived.Test.YtcodofmghbgoeaaResPiecesWZ

namespace Go.Proofs.Ytcodofmghbgoeaa
open Go.RowKit Cad

theorem ok_0 : ResOkN 0 dStart [] := ⟨by decide, dStart_ok, by decide, fun _ => by decide, fun h => absurd rfl h⟩
theorem fed_d : fed 0 ([] ++ bytesB [0]) dStart = fedE 38 := fed_more _ (by decide)
theorem fed_e : fed 0 ([] ++ bytesB []) dStart = ⟨[], [], 0, dStart, 0⟩ := fed_none _ (by decide)
theorem fed_f : fed 4000 ([] ++ bytesB []) dStart = ⟨[], [], 4000, dStart, 0⟩ := fed_self (ok_start 4000 (by decide))
def ry5 : List Bool := ([] ++ bytesB [0, 0]).drop 11
theorem ry5_len : ry5.length = 5 := by decide +kernel
theorem fed_g : fed 1 ([] ++ bytesB [0, 0]) dStart = ⟨[0], ry5, 0, ⟨9, 10, 15360, 16384⟩, 0⟩ := by
  have h : readD ([] ++ bytesB [0, 0]) 0 dStart = (0, 11, 0) := by decide +kernel
  have e : learnD dStart 0 = ⟨9, 10, 15360, 16384⟩ := by rfl
  have e5 : ([] ++ bytesB [0, 0] : List Bool).drop 11 = ry5 := rfl
  rw [fed_next h, e, e5, fed_none _ (by rw [ry5_len]; decide), glueF_ok]
  rfl
theorem fed_h : fed 1 ([] ++ bytesB [0, 0, 0]) dStart = fedE 38 := by
  have h : readD ([] ++ bytesB [0, 0, 0]) 0 dStart = (0, 11, 0) := by decide +kernel
  rw [fed_next h, fed_more _ (by decide +kernel), glueF_E _ (by decide)]
theorem fed_i : fed 1 ([] ++ bytesB [255, 255, 255, 255, 255, 255, 1, 0, 0, 0, 0]) dStart = fedE 12 := by
  have h : ∃ v p, readD ([] ++ bytesB [255, 255, 255, 255, 255, 255, 1, 0, 0, 0, 0]) 0 dStart = (v, p, 12) := ⟨0, 0, by decide +kernel⟩
  obtain ⟨v, p, h⟩ := h
  exact fed_er h (by decide) (by decide)
def rz80 : List Bool := [] ++ bytesB [255, 255, 255, 255, 255, 255, 1, 0, 0, 0]
theorem rz80_len : rz80.length = 80 := by decide +kernel
theorem fed_j : fed 1 ([] ++ bytesB [255, 255, 255, 255, 255, 255, 1, 0, 0, 0]) dStart = ⟨[], rz80, 1, dStart, 0⟩ := by
  have h : readD ([] ++ bytesB [255, 255, 255, 255, 255, 255, 1, 0, 0, 0]) 0 dStart = (0, 0, 24) := by decide +kernel
  rw [fed_wait h]
  rfl

/-- seven cells that hold a state, in a row of states -/
structure Cells7 (w : World) (bk o : Nat) (n a b c d : Int) (v : Value) (N : Int) : Prop where
  c0 : w.cell? ⟨bk, o, none⟩ = some (.int .i64 n)
  c1 : w.cell? ⟨bk, o + 1, none⟩ = some (.int .i64 a)
  c2 : w.cell? ⟨bk, o + 2, none⟩ = some (.int .i64 b)
  c3 : w.cell? ⟨bk, o + 3, none⟩ = some (.int .u64 c)
  c4 : w.cell? ⟨bk, o + 4, none⟩ = some (.int .u64 d)
  c5 : w.cell? ⟨bk, o + 5, none⟩ = some v
  c6 : w.cell? ⟨bk, o + 6, none⟩ = some (.int .i64 N)
theorem Cells7.below {w w' : World} {bk o B : Nat} {n a b c d : Int} {v : Value} {N : Int} (h : Cells7 w bk o n a b c d v N) (hb : Below B w w') (hB : bk < B) : Cells7 w' bk o n a b c d v N :=
  ⟨(Below.cell hb (p := ⟨bk, o, none⟩) hB).trans h.c0, (Below.cell hb (p := ⟨bk, o + 1, none⟩) hB).trans h.c1, (Below.cell hb (p := ⟨bk, o + 2, none⟩) hB).trans h.c2, (Below.cell hb (p := ⟨bk, o + 3, none⟩) hB).trans h.c3, (Below.cell hb (p := ⟨bk, o + 4, none⟩) hB).trans h.c4, (Below.cell hb (p := ⟨bk, o + 5, none⟩) hB).trans h.c5, (Below.cell hb (p := ⟨bk, o + 6, none⟩) hB).trans h.c6⟩
theorem pack_one {B : List Bool} (h : B.length = 1) (hp : pack B = [0]) : B = [false] := by
  match B, h with
  | [false], _ => rfl
  | [true], _ => exact absurd hp (by decide)
theorem bad7 {w : World} {bk x8 x0 : Nat} (h : w.heap[bk]? = some (.cells #[.int .i64 (-1), .int .i64 0, .int .i64 0, .int .u64 0, .int .u64 0, (.slice none 0 0), .int .i64 0, .int .i64 4001, .int .i64 0, .int .i64 0, .int .u64 0, .int .u64 0, (.slice none 0 0), .int .i64 0, .int .i64 1, .int .i64 25, .int .i64 0, .int .u64 0, .int .u64 0, (.slice none 0 0), .int .i64 0, .int .i64 1, .int .i64 0, .int .i64 0, .int .u64 0, .int .u64 0, (.slice none 0 0), .int .i64 1, .int .i64 0, .int .i64 0, .int .i64 0, .int .u64 0, .int .u64 0, .slice (some ⟨x8, 0, none⟩) 1 1, .int .i64 8, .int .i64 1, .int .i64 0, .int .i64 0, .int .u64 0, .int .u64 0, .slice (some ⟨x0, 0, none⟩) 1 1, .int .i64 1] 29)) (r8 : Row .u8 w (some ⟨x8, 0, none⟩) 1 1 [1]) (r0 : Row .u8 w (some ⟨x0, 0, none⟩) 1 1 [0]) (k : Nat) (hk : k < 6) :
    ∃ (n a b c d : Int) (aa : Option Addr) (len cap : Nat) (N : Int) (l : List Int), (Lit.int .i64 N).wf = true ∧ (Lit.int .i64 a).wf = true ∧ (Lit.int .i64 b).wf = true ∧ (Lit.int .u64 c).wf = true ∧ (Lit.int .u64 d).wf = true ∧ ¬ ResOk n a b c d l N ∧ Row .u8 w aa len cap l ∧ Cells7 w bk (k * 7) n a b c d (.slice aa len cap) N := by
  have key : k = 0 ∨ k = 1 ∨ k = 2 ∨ k = 3 ∨ k = 4 ∨ k = 5 := by omega
  rcases key with rfl | rfl | rfl | rfl | rfl | rfl
  · refine ⟨(-1), 0, 0, 0, 0, none, 0, 0, 0, [], by decide, by decide, by decide, by decide, by decide, ?_, Row.nil_row _ _, by unfold World.cell?; rw [h]; rfl, by unfold World.cell?; rw [h]; rfl, by unfold World.cell?; rw [h]; rfl, by unfold World.cell?; rw [h]; rfl, by unfold World.cell?; rw [h]; rfl, by unfold World.cell?; rw [h]; rfl, by unfold World.cell?; rw [h]; rfl⟩
    rintro ⟨m, D, B, hok, e1, e2, e3, e4, e5, e6, e7⟩
    omega
  · refine ⟨4001, 0, 0, 0, 0, none, 0, 0, 0, [], by decide, by decide, by decide, by decide, by decide, ?_, Row.nil_row _ _, by unfold World.cell?; rw [h]; rfl, by unfold World.cell?; rw [h]; rfl, by unfold World.cell?; rw [h]; rfl, by unfold World.cell?; rw [h]; rfl, by unfold World.cell?; rw [h]; rfl, by unfold World.cell?; rw [h]; rfl, by unfold World.cell?; rw [h]; rfl⟩
    rintro ⟨m, D, B, hok, e1, e2, e3, e4, e5, e6, e7⟩
    have := hok.n4; omega
  · refine ⟨1, 25, 0, 0, 0, none, 0, 0, 0, [], by decide, by decide, by decide, by decide, by decide, ?_, Row.nil_row _ _, by unfold World.cell?; rw [h]; rfl, by unfold World.cell?; rw [h]; rfl, by unfold World.cell?; rw [h]; rfl, by unfold World.cell?; rw [h]; rfl, by unfold World.cell?; rw [h]; rfl, by unfold World.cell?; rw [h]; rfl, by unfold World.cell?; rw [h]; rfl⟩
    rintro ⟨m, D, B, hok, e1, e2, e3, e4, e5, e6, e7⟩
    have := hok.d.1; omega
  · refine ⟨1, 0, 0, 0, 0, none, 0, 0, 1, [], by decide, by decide, by decide, by decide, by decide, ?_, Row.nil_row _ _, by unfold World.cell?; rw [h]; rfl, by unfold World.cell?; rw [h]; rfl, by unfold World.cell?; rw [h]; rfl, by unfold World.cell?; rw [h]; rfl, by unfold World.cell?; rw [h]; rfl, by unfold World.cell?; rw [h]; rfl, by unfold World.cell?; rw [h]; rfl⟩
    rintro ⟨m, D, B, hok, e1, e2, e3, e4, e5, e6, e7⟩
    have h := congrArg List.length e6; rw [pack_len] at h; simp at h; omega
  · refine ⟨0, 0, 0, 0, 0, (some ⟨x8, 0, none⟩), 1, 1, 8, [1], by decide, by decide, by decide, by decide, by decide, ?_, r8, by unfold World.cell?; rw [h]; rfl, by unfold World.cell?; rw [h]; rfl, by unfold World.cell?; rw [h]; rfl, by unfold World.cell?; rw [h]; rfl, by unfold World.cell?; rw [h]; rfl, by unfold World.cell?; rw [h]; rfl, by unfold World.cell?; rw [h]; rfl⟩
    rintro ⟨m, D, B, hok, e1, e2, e3, e4, e5, e6, e7⟩
    have := hok.zero (by omega); omega
  · refine ⟨1, 0, 0, 0, 0, (some ⟨x0, 0, none⟩), 1, 1, 1, [0], by decide, by decide, by decide, by decide, by decide, ?_, r0, by unfold World.cell?; rw [h]; rfl, by unfold World.cell?; rw [h]; rfl, by unfold World.cell?; rw [h]; rfl, by unfold World.cell?; rw [h]; rfl, by unfold World.cell?; rw [h]; rfl, by unfold World.cell?; rw [h]; rfl, by unfold World.cell?; rw [h]; rfl⟩
    rintro ⟨m, D, B, hok, e1, e2, e3, e4, e5, e6, e7⟩
    have hB : B = [false] := pack_one (by omega) e6.symm
    subst hB
    have hD : D = ⟨0, 0, 0, 0⟩ := by cases D; simp only [Du.mk.injEq]; simp only at e2 e3 e4 e5; omega
    have h := hok.wait (by omega)
    rw [hD] at h
    exact absurd h (by decide)

set_option maxRecDepth 100000 in
set_option maxHeartbeats 40000000 in
theorem resumeNames_in (W : World) (n41 : Nat) (hn41 : (41001 : Int) = n41) :
    Calls Try.prog 3 #[] W fun e w' => e = .returned (.bool true) ∧ Below W.heap.size W w' := by
  have hnb : n41 ≤ 17592186044416 := by omega
  have hn1 : 41000 < n41 := by omega
  have hnil : pack [] = [] := rfl
  have hok4 := ok_start 4000 (by decide)
  have hzw : Hid (∀ x ∈ List.replicate n41 (0 : Int), (Lit.int .u8 x).wf = true) := Go.Lib.hid (u8_wf fun x hx => by rw [List.eq_of_mem_replicate hx]; omega)
  have t1 : Hid (∀ w, Calls Try.prog 9 #[.int .i64 (-1)] w fun e W' => e = .returned (.tuple #[.agg #[.int .i64 0, .int .i64 0, .int .i64 0, .int .u64 0, .int .u64 0, (.slice none 0 0), .int .i64 0], .int .i64 2]) ∧ Below w.heap.size w W') := Go.Lib.hid fun w => PsStart_arg w (-1) (by decide)
  have t2 : Hid (∀ w, Calls Try.prog 9 #[.int .i64 4001] w fun e W' => e = .returned (.tuple #[.agg #[.int .i64 0, .int .i64 0, .int .i64 0, .int .u64 0, .int .u64 0, (.slice none 0 0), .int .i64 0], .int .i64 4]) ∧ Below w.heap.size w W') := Go.Lib.hid fun w => PsStart_many w 4001 (by decide)
  have t3 : Hid (∀ w, Calls Try.prog 9 #[.int .i64 4000] w fun e W' => e = .returned (.tuple #[.agg #[.int .i64 4000, .int .i64 10, .int .i64 10, .int .u64 16384, .int .u64 16384, (.slice none 0 0), .int .i64 0], .int .i64 0]) ∧ Below w.heap.size w W') := Go.Lib.hid fun w => PsStart_ok w 4000 (by decide)
  have t4 : Hid (∀ w, Calls Try.prog 9 #[.int .i64 0] w fun e W' => e = .returned (.tuple #[.agg #[.int .i64 0, .int .i64 10, .int .i64 10, .int .u64 16384, .int .u64 16384, (.slice none 0 0), .int .i64 0], .int .i64 0]) ∧ Below w.heap.size w W') := Go.Lib.hid fun w => PsStart_ok w 0 (by decide)
  have t5 : Hid (∀ w, Calls Try.prog 9 #[.int .i64 1] w fun e W' => e = .returned (.tuple #[.agg #[.int .i64 1, .int .i64 10, .int .i64 10, .int .u64 16384, .int .u64 16384, (.slice none 0 0), .int .i64 0], .int .i64 0]) ∧ Below w.heap.size w W') := Go.Lib.hid fun w => PsStart_ok w 1 (by decide)
  have f13 : Hid (∀ w ma mc, Row .u8 w ma n41 mc (List.replicate n41 0) → Calls Try.prog 10 #[.agg #[.int .i64 4000, .int .i64 10, .int .i64 10, .int .u64 16384, .int .u64 16384, (.slice none 0 0), .int .i64 0], .slice ma n41 mc] w fun e W' => ∃ bb cc a q c, e = .returned (.tuple #[.agg #[.int .i64 0, .int .i64 0, .int .i64 0, .int .u64 0, .int .u64 0, .slice bb 0 cc, .int .i64 0], .slice a q c, .int .i64 4]) ∧ Below w.heap.size w W') := Go.Lib.hid fun w ma mc h => by
    have := PsFeed_many w none 0 0 4000 dStart [] ma n41 mc _ (by rw [hnil]; exact Row.nil_row _ _) h hok4 hn1 (by omega)
    unfold ResF at this
    refine this.mono ?_
    rintro e w' ⟨bb, cc, a, q, c, rfl, g1, g2, g3⟩
    exact ⟨bb, cc, a, q, c, by simp [fedE], g3⟩
  have g14 : Hid (∀ (w : World), Calls Try.prog 10 #[.agg #[.int .i64 4000, .int .i64 10, .int .i64 10, .int .u64 16384, .int .u64 16384, (.slice none 0 0), .int .i64 0], .slice none 0 0] w fun e W' => ∃ bb cc a c, e = .returned (.tuple #[.agg #[.int .i64 4000, .int .i64 10, .int .i64 10, .int .u64 16384, .int .u64 16384, .slice bb 0 cc, .int .i64 0], .slice a 0 c, .int .i64 0]) ∧ Row .u8 W' bb 0 cc [] ∧ Below w.heap.size w W') := Go.Lib.hid fun w => by
    have := PsFeed_ok w none 0 0 4000 dStart [] none 0 0 [] (by rw [hnil]; exact Row.nil_row _ _) hok4 (Row.nil_row _ _) rfl (by decide) (by decide)
    unfold ResF at this
    rw [fed_f] at this
    refine this.mono ?_
    rintro e w' ⟨bb, cc, a, q, c, rfl, g1, g2, g3⟩
    obtain rfl : q = 0 := g2.hlen.symm
    exact ⟨bb, cc, a, c, rfl, by rw [← hnil]; exact g1, g3⟩
  have g15 : Hid (∀ (w : World) (x : Nat), x = w.heap.size → Calls Try.prog 10 #[.agg #[.int .i64 0, .int .i64 10, .int .i64 10, .int .u64 16384, .int .u64 16384, (.slice none 0 0), .int .i64 0], .slice (some ⟨x, 0, none⟩) 1 1] (w.alloc (.cells #[.int .u8 0] 5)) fun e W' => ∃ bb cc a q c, e = .returned (.tuple #[.agg #[.int .i64 0, .int .i64 0, .int .i64 0, .int .u64 0, .int .u64 0, .slice bb 0 cc, .int .i64 0], .slice a q c, .int .i64 38]) ∧ Below w.heap.size w W') := Go.Lib.hid fun w x hx => by
    subst hx
    have := PsFeed_ok (w.alloc (.cells #[.int .u8 0] 5)) none 0 0 0 dStart [] (some ⟨w.heap.size, 0, none⟩) 1 1 [0] (by rw [hnil]; exact Row.nil_row _ _) ok_0 (lit_row w [0] 1 (0, 0) rfl (by decide) (by decide)) rfl (by decide) (by decide)
    unfold ResF at this
    rw [fed_d] at this
    refine this.mono ?_
    rintro e w' ⟨bb, cc, a, q, c, rfl, g1, g2, g3⟩
    exact ⟨bb, cc, a, q, c, by simp [fedE], (below1 w _).trans (g3.mono (by simp))⟩
  have g16 : Hid (∀ (w : World), Calls Try.prog 10 #[.agg #[.int .i64 0, .int .i64 10, .int .i64 10, .int .u64 16384, .int .u64 16384, (.slice none 0 0), .int .i64 0], .slice none 0 0] w fun e W' => ∃ bb cc a q c, e = .returned (.tuple #[.agg #[.int .i64 0, .int .i64 10, .int .i64 10, .int .u64 16384, .int .u64 16384, .slice bb 0 cc, .int .i64 0], .slice a q c, .int .i64 0]) ∧ Below w.heap.size w W') := Go.Lib.hid fun w => by
    have := PsFeed_ok w none 0 0 0 dStart [] none 0 0 [] (by rw [hnil]; exact Row.nil_row _ _) ok_0 (Row.nil_row _ _) rfl (by decide) (by decide)
    unfold ResF at this
    rw [fed_e] at this
    refine this.mono ?_
    rintro e w' ⟨bb, cc, a, q, c, rfl, g1, g2, g3⟩
    exact ⟨bb, cc, a, q, c, rfl, g3⟩
  have g18 : Hid (∀ (w : World) (x : Nat), x = w.heap.size → Calls Try.prog 10 #[.agg #[.int .i64 1, .int .i64 10, .int .i64 10, .int .u64 16384, .int .u64 16384, (.slice none 0 0), .int .i64 0], .slice (some ⟨x, 0, none⟩) 2 2] (w.alloc (.cells #[.int .u8 0, .int .u8 0] 5)) fun e W' => ∃ bb cc a c, e = .returned (.tuple #[.agg #[.int .i64 0, .int .i64 9, .int .i64 10, .int .u64 15360, .int .u64 16384, .slice bb 1 cc, .int .i64 5], .slice a 1 c, .int .i64 0]) ∧ Row .u32 W' a 1 c [0] ∧ Below w.heap.size w W') := Go.Lib.hid fun w x hx => by
    subst hx
    have := PsFeed_ok (w.alloc (.cells #[.int .u8 0, .int .u8 0] 5)) none 0 0 1 dStart [] (some ⟨w.heap.size, 0, none⟩) 2 2 [0, 0] (by rw [hnil]; exact Row.nil_row _ _) ok_a (lit_row w [0, 0] 2 (0, 0) rfl (by decide) (by decide)) rfl (by decide) (by decide)
    unfold ResF at this
    rw [fed_g] at this
    simp only [ry5_len] at this
    refine this.mono ?_
    rintro e w' ⟨bb, cc, a, q, c, rfl, g1, g2, g3⟩
    obtain rfl : q = 1 := g2.hlen.symm
    exact ⟨bb, cc, a, c, rfl, g2, (below1 w _).trans (g3.mono (by simp))⟩
  have g19 : Hid (∀ (w : World) (x : Nat), x = w.heap.size → Calls Try.prog 10 #[.agg #[.int .i64 1, .int .i64 10, .int .i64 10, .int .u64 16384, .int .u64 16384, (.slice none 0 0), .int .i64 0], .slice (some ⟨x, 0, none⟩) 3 3] (w.alloc (.cells #[.int .u8 0, .int .u8 0, .int .u8 0] 5)) fun e W' => ∃ bb cc a q c, e = .returned (.tuple #[.agg #[.int .i64 0, .int .i64 0, .int .i64 0, .int .u64 0, .int .u64 0, .slice bb 0 cc, .int .i64 0], .slice a q c, .int .i64 38]) ∧ Below w.heap.size w W') := Go.Lib.hid fun w x hx => by
    subst hx
    have := PsFeed_ok (w.alloc (.cells #[.int .u8 0, .int .u8 0, .int .u8 0] 5)) none 0 0 1 dStart [] (some ⟨w.heap.size, 0, none⟩) 3 3 [0, 0, 0] (by rw [hnil]; exact Row.nil_row _ _) ok_a (lit_row w [0, 0, 0] 3 (0, 0) rfl (by decide) (by decide)) rfl (by decide) (by decide)
    unfold ResF at this
    rw [fed_h] at this
    refine this.mono ?_
    rintro e w' ⟨bb, cc, a, q, c, rfl, g1, g2, g3⟩
    exact ⟨bb, cc, a, q, c, by simp [fedE], (below1 w _).trans (g3.mono (by simp))⟩
  have g20 : Hid (∀ (w : World) (x : Nat), x = w.heap.size → Calls Try.prog 10 #[.agg #[.int .i64 1, .int .i64 10, .int .i64 10, .int .u64 16384, .int .u64 16384, (.slice none 0 0), .int .i64 0], .slice (some ⟨x, 0, none⟩) 11 11] (w.alloc (.cells #[.int .u8 255, .int .u8 255, .int .u8 255, .int .u8 255, .int .u8 255, .int .u8 255, .int .u8 1, .int .u8 0, .int .u8 0, .int .u8 0, .int .u8 0] 5)) fun e W' => ∃ bb cc a q c, e = .returned (.tuple #[.agg #[.int .i64 0, .int .i64 0, .int .i64 0, .int .u64 0, .int .u64 0, .slice bb 0 cc, .int .i64 0], .slice a q c, .int .i64 12]) ∧ Below w.heap.size w W') := Go.Lib.hid fun w x hx => by
    subst hx
    have := PsFeed_ok (w.alloc (.cells #[.int .u8 255, .int .u8 255, .int .u8 255, .int .u8 255, .int .u8 255, .int .u8 255, .int .u8 1, .int .u8 0, .int .u8 0, .int .u8 0, .int .u8 0] 5)) none 0 0 1 dStart [] (some ⟨w.heap.size, 0, none⟩) 11 11 [255, 255, 255, 255, 255, 255, 1, 0, 0, 0, 0] (by rw [hnil]; exact Row.nil_row _ _) ok_a (lit_row w [255, 255, 255, 255, 255, 255, 1, 0, 0, 0, 0] 11 (0, 0) rfl (by decide) (by decide)) rfl (by decide) (by decide)
    unfold ResF at this
    rw [fed_i] at this
    refine this.mono ?_
    rintro e w' ⟨bb, cc, a, q, c, rfl, g1, g2, g3⟩
    exact ⟨bb, cc, a, q, c, by simp [fedE], (below1 w _).trans (g3.mono (by simp))⟩
  have g21 : Hid (∀ (w : World) (x : Nat), x = w.heap.size → Calls Try.prog 10 #[.agg #[.int .i64 1, .int .i64 10, .int .i64 10, .int .u64 16384, .int .u64 16384, (.slice none 0 0), .int .i64 0], .slice (some ⟨x, 0, none⟩) 10 10] (w.alloc (.cells #[.int .u8 255, .int .u8 255, .int .u8 255, .int .u8 255, .int .u8 255, .int .u8 255, .int .u8 1, .int .u8 0, .int .u8 0, .int .u8 0] 5)) fun e W' => ∃ bb cc a q c, e = .returned (.tuple #[.agg #[.int .i64 1, .int .i64 10, .int .i64 10, .int .u64 16384, .int .u64 16384, .slice bb 10 cc, .int .i64 80], .slice a q c, .int .i64 0]) ∧ Below w.heap.size w W') := Go.Lib.hid fun w x hx => by
    subst hx
    have := PsFeed_ok (w.alloc (.cells #[.int .u8 255, .int .u8 255, .int .u8 255, .int .u8 255, .int .u8 255, .int .u8 255, .int .u8 1, .int .u8 0, .int .u8 0, .int .u8 0] 5)) none 0 0 1 dStart [] (some ⟨w.heap.size, 0, none⟩) 10 10 [255, 255, 255, 255, 255, 255, 1, 0, 0, 0] (by rw [hnil]; exact Row.nil_row _ _) ok_a (lit_row w [255, 255, 255, 255, 255, 255, 1, 0, 0, 0] 10 (0, 0) rfl (by decide) (by decide)) rfl (by decide) (by decide)
    unfold ResF at this
    rw [fed_j] at this
    simp only [rz80_len] at this
    refine this.mono ?_
    rintro e w' ⟨bb, cc, a, q, c, rfl, g1, g2, g3⟩
    exact ⟨bb, cc, a, q, c, rfl, (below1 w _).trans (g3.mono (by simp))⟩
  have sm : Hid (∀ w b c, Row .u8 w b 0 c [] → Calls Try.prog 12 #[.agg #[.int .i64 4000, .int .i64 10, .int .i64 10, .int .u64 16384, .int .u64 16384, .slice b 0 c, .int .i64 0], .agg #[.int .i64 4000, .int .i64 10, .int .i64 10, .int .u64 16384, .int .u64 16384, (.slice none 0 0), .int .i64 0]] w fun e W' => e = .returned (.bool true) ∧ Below w.heap.size w W') := Go.Lib.hid fun w b c h => by
    have := RsSame_ok w 4000 10 10 16384 16384 0 4000 10 10 16384 16384 0 b 0 c _ none 0 0 _ h (Row.nil_row _ _)
    rw [sameD_self] at this
    simpa using this
  have s3 : Hid (∀ (w : World) (x : Nat) a c, x = w.heap.size → Row .u32 w a 1 c [0] → Calls Try.prog 13 #[.slice a 1 c, .slice (some ⟨x, 0, none⟩) 1 1] (w.alloc (.cells #[.int .u32 0] 40)) fun e W' => e = .returned (.bool true) ∧ Below w.heap.size w W') := Go.Lib.hid fun w x a c hx hr => by
    subst hx
    have := CSame_ok _ a 1 c [0] (hr.below (below1 w _) (Nat.le_refl _)) _ 1 1 [0] (lit_rowK .u32 40 w [0] 1 (0, 0) rfl (by decide) (by decide))
    refine this.mono ?_
    rintro e w' ⟨h1, h2⟩
    exact ⟨by rw [h1]; rfl, (below1 w _).trans (h2.mono (by simp))⟩
  clear hnil hok4
  have hWE0 := Go.Lib.hid (Below.refl W.heap.size W)
  go_enter Try.func3, Try.ntmps3
  go_wp2_with (first
    | (go_at_call 9; ((with_reducible refine (t1.out _).mono ?_)); rintro e w1 ⟨rfl, hb1⟩; have hWE1 := Go.Lib.hid hWE0.out; have hW1 := Go.Lib.hid (hWE1.out.trans (hb1.mono hWE1.out.size)); clear hb1)
    | (go_at_call 9; ((with_reducible refine (t2.out _).mono ?_)); rintro e w2 ⟨rfl, hb2⟩; have hWE2 := Go.Lib.hid (hW1.out.alloc hW1.out.size (.cells #[.int .i64 0, .int .i64 0, .int .i64 0, .int .u64 0, .int .u64 0, (.slice none 0 0), .int .i64 0] 29)); have hW2 := Go.Lib.hid (hWE2.out.trans (hb2.mono hWE2.out.size)); clear hb2)
    | (go_at_call 9; ((with_reducible refine (t3.out _).mono ?_)); rintro e w3 ⟨rfl, hb3⟩; have hWE3 := Go.Lib.hid (hW2.out.alloc hW2.out.size (.cells #[.int .i64 0, .int .i64 0, .int .i64 0, .int .u64 0, .int .u64 0, (.slice none 0 0), .int .i64 0] 29)); have hW3 := Go.Lib.hid (hWE3.out.trans (hb3.mono hWE3.out.size)); clear hb3)
    | (go_at_call 9; ((with_reducible refine (t4.out _).mono ?_)); rintro e w4 ⟨rfl, hb4⟩; have hWE4 := Go.Lib.hid (hW3.out.alloc hW3.out.size (.cells #[.int .i64 4000, .int .i64 10, .int .i64 10, .int .u64 16384, .int .u64 16384, (.slice none 0 0), .int .i64 0] 29)); have hW4 := Go.Lib.hid (hWE4.out.trans (hb4.mono hWE4.out.size)); have BE4_m := Go.Lib.hid (resat1 w3 4000 10 10 16384 16384 (.slice none 0 0) 0); have B4_m := Go.Lib.hid (BE4_m.out.below hb4 BE4_m.out.lt); obtain ⟨k4m0, k4m1, k4m2, k4m3, k4m4, k4m5, k4m6, k4m7, k4m8, k4m9, k4m10, k4m11, k4m12, k4m13⟩ := B4_m.out.cells; have l4m := B4_m.out.lt; have n4m : w3.heap.size ≠ w4.heap.size := (by omega); clear hb4))
  obtain ⟨wl, hwl⟩ : ∃ w, w = ((((w4.alloc (.cells #[.int .i64 0, .int .i64 10, .int .i64 10, .int .u64 16384, .int .u64 16384, (.slice none 0 0), .int .i64 0] 29)).alloc (.cells #[.int .u8 1] 5)).alloc (.cells #[.slice (some ⟨w4.heap.size + 1, 0, none⟩) 1 1, .int .i64 8] 27)).alloc (.cells #[.int .u8 0] 5)).alloc (.cells #[.int .i64 (-1), .int .i64 0, .int .i64 0, .int .u64 0, .int .u64 0, (.slice none 0 0), .int .i64 0, .int .i64 4001, .int .i64 0, .int .i64 0, .int .u64 0, .int .u64 0, (.slice none 0 0), .int .i64 0, .int .i64 1, .int .i64 25, .int .i64 0, .int .u64 0, .int .u64 0, (.slice none 0 0), .int .i64 0, .int .i64 1, .int .i64 0, .int .i64 0, .int .u64 0, .int .u64 0, (.slice none 0 0), .int .i64 1, .int .i64 0, .int .i64 0, .int .i64 0, .int .u64 0, .int .u64 0, .slice (some ⟨w4.heap.size + 1, 0, none⟩) 1 1, .int .i64 8, .int .i64 1, .int .i64 0, .int .i64 0, .int .u64 0, .int .u64 0, .slice (some ⟨w4.heap.size + 1 + 1 + 1, 0, none⟩) 1 1, .int .i64 1] 29) := ⟨_, rfl⟩
  have hWl : Below W.heap.size W wl := by rw [hwl]; have h := (hW4.out.alloc hW4.out.size (.cells #[.int .i64 0, .int .i64 10, .int .i64 10, .int .u64 16384, .int .u64 16384, (.slice none 0 0), .int .i64 0] 29)); have h1 := h.alloc h.size (.cells #[.int .u8 1] 5); have h2 := h1.alloc h1.size (.cells #[.slice (some ⟨w4.heap.size + 1, 0, none⟩) 1 1, .int .i64 8] 27); have h3 := h2.alloc h2.size (.cells #[.int .u8 0] 5); exact h3.alloc h3.size _
  have hbad : wl.heap[w4.heap.size + 1 + 1 + 1 + 1]? = some (.cells #[.int .i64 (-1), .int .i64 0, .int .i64 0, .int .u64 0, .int .u64 0, (.slice none 0 0), .int .i64 0, .int .i64 4001, .int .i64 0, .int .i64 0, .int .u64 0, .int .u64 0, (.slice none 0 0), .int .i64 0, .int .i64 1, .int .i64 25, .int .i64 0, .int .u64 0, .int .u64 0, (.slice none 0 0), .int .i64 0, .int .i64 1, .int .i64 0, .int .i64 0, .int .u64 0, .int .u64 0, (.slice none 0 0), .int .i64 1, .int .i64 0, .int .i64 0, .int .i64 0, .int .u64 0, .int .u64 0, .slice (some ⟨w4.heap.size + 1, 0, none⟩) 1 1, .int .i64 8, .int .i64 1, .int .i64 0, .int .i64 0, .int .u64 0, .int .u64 0, .slice (some ⟨w4.heap.size + 1 + 1 + 1, 0, none⟩) 1 1, .int .i64 1] 29) := by rw [hwl]; have h := heap_alloc_new ((((w4.alloc (.cells #[.int .i64 0, .int .i64 10, .int .i64 10, .int .u64 16384, .int .u64 16384, (.slice none 0 0), .int .i64 0] 29)).alloc (.cells #[.int .u8 1] 5)).alloc (.cells #[.slice (some ⟨w4.heap.size + 1, 0, none⟩) 1 1, .int .i64 8] 27)).alloc (.cells #[.int .u8 0] 5)) (.cells #[.int .i64 (-1), .int .i64 0, .int .i64 0, .int .u64 0, .int .u64 0, (.slice none 0 0), .int .i64 0, .int .i64 4001, .int .i64 0, .int .i64 0, .int .u64 0, .int .u64 0, (.slice none 0 0), .int .i64 0, .int .i64 1, .int .i64 25, .int .i64 0, .int .u64 0, .int .u64 0, (.slice none 0 0), .int .i64 0, .int .i64 1, .int .i64 0, .int .i64 0, .int .u64 0, .int .u64 0, (.slice none 0 0), .int .i64 1, .int .i64 0, .int .i64 0, .int .i64 0, .int .u64 0, .int .u64 0, .slice (some ⟨w4.heap.size + 1, 0, none⟩) 1 1, .int .i64 8, .int .i64 1, .int .i64 0, .int .i64 0, .int .u64 0, .int .u64 0, .slice (some ⟨w4.heap.size + 1 + 1 + 1, 0, none⟩) 1 1, .int .i64 1] 29); simp only [World.size_alloc] at h; exact h
  have hR8 : Row .u8 wl (some ⟨w4.heap.size + 1, 0, none⟩) 1 1 [1] := by rw [hwl]; have h := lit_row (w4.alloc (.cells #[.int .i64 0, .int .i64 10, .int .i64 10, .int .u64 16384, .int .u64 16384, (.slice none 0 0), .int .i64 0] 29)) [1] 1 (0, 0) rfl (by decide) (by decide); simp only [World.size_alloc] at h; exact (((h.below (below1 ((w4.alloc (.cells #[.int .i64 0, .int .i64 10, .int .i64 10, .int .u64 16384, .int .u64 16384, (.slice none 0 0), .int .i64 0] 29)).alloc (.cells #[.int .u8 1] 5)) (.cells #[.slice (some ⟨w4.heap.size + 1, 0, none⟩) 1 1, .int .i64 8] 27)) (Nat.le_refl _)).below (below1 (((w4.alloc (.cells #[.int .i64 0, .int .i64 10, .int .i64 10, .int .u64 16384, .int .u64 16384, (.slice none 0 0), .int .i64 0] 29)).alloc (.cells #[.int .u8 1] 5)).alloc (.cells #[.slice (some ⟨w4.heap.size + 1, 0, none⟩) 1 1, .int .i64 8] 27)) (.cells #[.int .u8 0] 5)) (Nat.le_refl _)).below (below1 ((((w4.alloc (.cells #[.int .i64 0, .int .i64 10, .int .i64 10, .int .u64 16384, .int .u64 16384, (.slice none 0 0), .int .i64 0] 29)).alloc (.cells #[.int .u8 1] 5)).alloc (.cells #[.slice (some ⟨w4.heap.size + 1, 0, none⟩) 1 1, .int .i64 8] 27)).alloc (.cells #[.int .u8 0] 5)) (.cells #[.int .i64 (-1), .int .i64 0, .int .i64 0, .int .u64 0, .int .u64 0, (.slice none 0 0), .int .i64 0, .int .i64 4001, .int .i64 0, .int .i64 0, .int .u64 0, .int .u64 0, (.slice none 0 0), .int .i64 0, .int .i64 1, .int .i64 25, .int .i64 0, .int .u64 0, .int .u64 0, (.slice none 0 0), .int .i64 0, .int .i64 1, .int .i64 0, .int .i64 0, .int .u64 0, .int .u64 0, (.slice none 0 0), .int .i64 1, .int .i64 0, .int .i64 0, .int .i64 0, .int .u64 0, .int .u64 0, .slice (some ⟨w4.heap.size + 1, 0, none⟩) 1 1, .int .i64 8, .int .i64 1, .int .i64 0, .int .i64 0, .int .u64 0, .int .u64 0, .slice (some ⟨w4.heap.size + 1 + 1 + 1, 0, none⟩) 1 1, .int .i64 1] 29)) (Nat.le_refl _))
  have hR0 : Row .u8 wl (some ⟨w4.heap.size + 1 + 1 + 1, 0, none⟩) 1 1 [0] := by rw [hwl]; have h := lit_row (((w4.alloc (.cells #[.int .i64 0, .int .i64 10, .int .i64 10, .int .u64 16384, .int .u64 16384, (.slice none 0 0), .int .i64 0] 29)).alloc (.cells #[.int .u8 1] 5)).alloc (.cells #[.slice (some ⟨w4.heap.size + 1, 0, none⟩) 1 1, .int .i64 8] 27)) [0] 1 (0, 0) rfl (by decide) (by decide); simp only [World.size_alloc] at h; exact (h.below (below1 ((((w4.alloc (.cells #[.int .i64 0, .int .i64 10, .int .i64 10, .int .u64 16384, .int .u64 16384, (.slice none 0 0), .int .i64 0] 29)).alloc (.cells #[.int .u8 1] 5)).alloc (.cells #[.slice (some ⟨w4.heap.size + 1, 0, none⟩) 1 1, .int .i64 8] 27)).alloc (.cells #[.int .u8 0] 5)) (.cells #[.int .i64 (-1), .int .i64 0, .int .i64 0, .int .u64 0, .int .u64 0, (.slice none 0 0), .int .i64 0, .int .i64 4001, .int .i64 0, .int .i64 0, .int .u64 0, .int .u64 0, (.slice none 0 0), .int .i64 0, .int .i64 1, .int .i64 25, .int .i64 0, .int .u64 0, .int .u64 0, (.slice none 0 0), .int .i64 0, .int .i64 1, .int .i64 0, .int .i64 0, .int .u64 0, .int .u64 0, (.slice none 0 0), .int .i64 1, .int .i64 0, .int .i64 0, .int .i64 0, .int .u64 0, .int .u64 0, .slice (some ⟨w4.heap.size + 1, 0, none⟩) 1 1, .int .i64 8, .int .i64 1, .int .i64 0, .int .i64 0, .int .u64 0, .int .u64 0, .slice (some ⟨w4.heap.size + 1 + 1 + 1, 0, none⟩) 1 1, .int .i64 1] 29)) (Nat.le_refl _))
  have hBm : ResAt wl w3.heap.size 4000 10 10 16384 16384 (.slice none 0 0) 0 := by rw [hwl]; exact (((((B4_m.out.alloc (.cells #[.int .i64 0, .int .i64 10, .int .i64 10, .int .u64 16384, .int .u64 16384, (.slice none 0 0), .int .i64 0] 29)).alloc (.cells #[.int .u8 1] 5)).alloc (.cells #[.slice (some ⟨w4.heap.size + 1, 0, none⟩) 1 1, .int .i64 8] 27)).alloc (.cells #[.int .u8 0] 5)).alloc (.cells #[.int .i64 (-1), .int .i64 0, .int .i64 0, .int .u64 0, .int .u64 0, (.slice none 0 0), .int .i64 0, .int .i64 4001, .int .i64 0, .int .i64 0, .int .u64 0, .int .u64 0, (.slice none 0 0), .int .i64 0, .int .i64 1, .int .i64 25, .int .i64 0, .int .u64 0, .int .u64 0, (.slice none 0 0), .int .i64 0, .int .i64 1, .int .i64 0, .int .i64 0, .int .u64 0, .int .u64 0, (.slice none 0 0), .int .i64 1, .int .i64 0, .int .i64 0, .int .i64 0, .int .u64 0, .int .u64 0, .slice (some ⟨w4.heap.size + 1, 0, none⟩) 1 1, .int .i64 8, .int .i64 1, .int .i64 0, .int .i64 0, .int .u64 0, .int .u64 0, .slice (some ⟨w4.heap.size + 1 + 1 + 1, 0, none⟩) 1 1, .int .i64 1] 29))
  have hBn : ResAt wl w4.heap.size 0 10 10 16384 16384 (.slice none 0 0) 0 := by rw [hwl]; exact (((((resat1 w4 0 10 10 16384 16384 (.slice none 0 0) 0).alloc (.cells #[.int .u8 1] 5)).alloc (.cells #[.slice (some ⟨w4.heap.size + 1, 0, none⟩) 1 1, .int .i64 8] 27)).alloc (.cells #[.int .u8 0] 5)).alloc (.cells #[.int .i64 (-1), .int .i64 0, .int .i64 0, .int .u64 0, .int .u64 0, (.slice none 0 0), .int .i64 0, .int .i64 4001, .int .i64 0, .int .i64 0, .int .u64 0, .int .u64 0, (.slice none 0 0), .int .i64 0, .int .i64 1, .int .i64 25, .int .i64 0, .int .u64 0, .int .u64 0, (.slice none 0 0), .int .i64 0, .int .i64 1, .int .i64 0, .int .i64 0, .int .u64 0, .int .u64 0, (.slice none 0 0), .int .i64 1, .int .i64 0, .int .i64 0, .int .i64 0, .int .u64 0, .int .u64 0, .slice (some ⟨w4.heap.size + 1, 0, none⟩) 1 1, .int .i64 8, .int .i64 1, .int .i64 0, .int .i64 0, .int .u64 0, .int .u64 0, .slice (some ⟨w4.heap.size + 1 + 1 + 1, 0, none⟩) 1 1, .int .i64 1] 29))
  have hxb : w4.heap.size + 1 + 1 + 1 + 1 < wl.heap.size := by rw [hwl]; simp
  rw [← hwl]
  obtain ⟨x8, hx8⟩ : ∃ x, x = w4.heap.size + 1 := ⟨_, rfl⟩
  rw [← hx8] at hbad hR8 hR0 hxb
  try rw [← hx8]
  obtain ⟨x0, hx0⟩ : ∃ x, x = x8 + 1 + 1 := ⟨_, rfl⟩
  rw [← hx0] at hbad hR0 hxb
  try rw [← hx0]
  obtain ⟨xb, hxbe⟩ : ∃ x, x = x0 + 1 := ⟨_, rfl⟩
  rw [← hxbe] at hbad hxb
  try rw [← hxbe]
  obtain ⟨xm, hxm⟩ : ∃ x, x = w3.heap.size := ⟨_, rfl⟩
  rw [← hxm] at hBm
  try rw [← hxm]
  obtain ⟨xn, hxn⟩ : ∃ x, x = w4.heap.size := ⟨_, rfl⟩
  rw [← hxn] at hBn
  try rw [← hxn]
  have lxm := hBm.lt
  have lxn := hBn.lt
  have hBm' := Go.Lib.hid hBm
  have hBn' := Go.Lib.hid hBn
  have hbad' := Go.Lib.hid hbad
  have hR8' := Go.Lib.hid hR8
  have hR0' := Go.Lib.hid hR0
  have hWl' := Go.Lib.hid hWl
  clear hBm hBn hbad hR8 hR0 hWl hwl hx8 hx0 hxbe hxm hxn k4m0 k4m1 k4m2 k4m3 k4m4 k4m5 k4m6 k4m7 k4m8 k4m9 k4m10 k4m11 k4m12 k4m13
  go_loopg [11] 6 (fun g i wx => ∃ k : Nat, k ≤ 6 ∧ g = 6 - k ∧ i = .int .i64 k ∧ Below wl.heap.size wl wx)
  case atStart => exact ⟨0, by decide, rfl, rfl, Below.refl _ _⟩
  case round =>
  obtain ⟨k, hk, hg, rfl, hB⟩ := hrel
  have hgo := Go.Lib.hid hg
  clear hg
  by_cases hlt : k < 6
  · have hltI : (k : Int) < 6 := by omega
    obtain ⟨n, a, b, c, d, aa, len, cap, N, l, wN, wa, wb, wc', wd, hbd, hrw, h7⟩ := bad7 hbad'.out hR8'.out hR0'.out k hlt
    have fd : Hid (∀ w ma mc, Row .u8 w aa len cap l → Row .u8 w ma n41 mc (List.replicate n41 0) → Calls Try.prog 10 #[.agg #[.int .i64 n, .int .i64 a, .int .i64 b, .int .u64 c, .int .u64 d, .slice aa len cap, .int .i64 N], .slice ma n41 mc] w fun e W' => ∃ bb cc a q c, e = .returned (.tuple #[.agg #[.int .i64 0, .int .i64 0, .int .i64 0, .int .u64 0, .int .u64 0, .slice bb 0 cc, .int .i64 0], .slice a q c, .int .i64 8]) ∧ Below w.heap.size w W') := Go.Lib.hid fun w ma mc h h' => by
      have := PsFeed_bad w aa len cap n a b c d N l ma n41 mc _ h h' wN wa wb wc' wd hbd
      unfold ResF at this
      refine this.mono ?_
      rintro e w' ⟨bb, cc, a, q, c, rfl, g1, g2, g3⟩
      exact ⟨bb, cc, a, q, c, by simp [fedE], g3⟩
    have ck : Hid (∀ w, Row .u8 w aa len cap l → Calls Try.prog 11 #[.agg #[.int .i64 n, .int .i64 a, .int .i64 b, .int .u64 c, .int .u64 d, .slice aa len cap, .int .i64 N]] w fun e W' => e = .returned (.int .i64 8) ∧ Below w.heap.size w W') := Go.Lib.hid fun w h => PsCheck_any w aa len cap n a b c d N l h wN wa wb wc' wd 8 (.inr ⟨hbd, rfl⟩)
    have h7' := Go.Lib.hid h7
    have hB' := Go.Lib.hid hB
    have hrw' := Go.Lib.hid (hrw.below hB (Nat.le_refl _))
    have hC7 := Go.Lib.hid (h7.below hB hxb)
    clear wN wa wb wc' wd hbd hrw h7
    obtain ⟨p0, hp0⟩ : ∃ p, p = wr := ⟨_, rfl⟩
    subst hp0
    have hlp : xb < p0.heap.size := Nat.lt_of_lt_of_le hxb hB.size
    clear hB
    go_upto_region 10 with (fail)
    go_cut [14] (fun s14 wx => s14 = .int .i64 8 ∧ Below p0.heap.size p0 wx)
    case first =>
      refine wp_region_ord3 (fun w' => Below p0.heap.size p0 w') 4 5 10 [(0, 0), (1, 0), (2, 0), (3, 2), (4, 3), (5, 3), (6, 0), (7, 0), (8, 0), (9, 0), (10, 3), (11, 4), (12, 0), (13, 0)] [(0, 0), (1, 0), (2, 0), (3, 2), (4, 3), (10, 3), (5, 3), (6, 0), (7, 0), (8, 0), (9, 0), (11, 4), (12, 0), (13, 0)] [(0, 0), (1, 0), (2, 0), (3, 2), (10, 3), (4, 3), (5, 3), (6, 0), (7, 0), (8, 0), (9, 0), (11, 4), (12, 0), (13, 0)] (by kernel_rfl) (by decide) (by kernel_rfl) (by kernel_rfl) (by kernel_rfl) ?hC0 ?_ ?_ ?_
      case hC0 => exact (Below.refl _ _).drew
      · simp only [pick, nth]
        refine wpW_name ?_
        intro q0 hq0
        have H0 : Below p0.heap.size p0 q0 := by rw [hq0]; exact (Below.refl _ _).drew
        clear hq0
        (repeat (first | (apply wpW_light; (case h => (intro wa; (first | (go_big_quiet_skip; exact wpQuiet_nil rfl) | (go_big_quiet_want; go_big_quiet_op; go_big_quiet_on; exact wpQuiet_nil rfl))))) | (apply wpW_here; (case h => (first | (go_big_quiet_skip; exact wpQuiet_nil rfl) | (go_big_quiet_want; go_big_quiet_op; go_big_quiet_on; exact wpQuiet_nil rfl)))) | (apply wpW_held; (case hC => assumption); (case h => (intro wa hCa; (obtain ⟨u0, u1, u2, u3, u4, u5, u6⟩ := hC7.out.below hCa hlp; clear hCa); (first | (go_big_quiet_skip; exact wpQuiet_nil rfl) | (go_big_quiet_want; go_big_quiet_op; go_big_quiet_on; exact wpQuiet_nil rfl)))))))
        refine wpW_act (fun QQ hQQ => ?_) (by rfl)
        go_wp2_with (at_make; refine law_make elU8 q0 rfl _ _ rfl .i64 .i64 41001 41001 n41 rfl rfl hn41 hn41 hnb ?_; intro q1 om hs hsz)
        have H1 := H0.trans (hs.mono H0.size)
        (refine hQQ _ _ ?hCn ?_; (case hCn => exact H1); clear hQQ QQ)
        have z1 := Row.of_own om hzw.out
        obtain ⟨ym, hym⟩ : ∃ x, x = q0.heap.size := ⟨_, rfl⟩
        rw [← hym] at z1 ⊢
        clear hs om hsz hym
        (repeat (first | (apply wpW_light; (case h => (intro wa; (first | (go_big_quiet_skip; exact wpQuiet_nil rfl) | (go_big_quiet_want; go_big_quiet_op; go_big_quiet_on; exact wpQuiet_nil rfl))))) | (apply wpW_here; (case h => (first | (go_big_quiet_skip; exact wpQuiet_nil rfl) | (go_big_quiet_want; go_big_quiet_op; go_big_quiet_on; exact wpQuiet_nil rfl)))) | (apply wpW_held; (case hC => assumption); (case h => (intro wa hCa; simp only [] at hCa; (first | (go_big_quiet_skip; exact wpQuiet_nil rfl) | (go_big_quiet_want; go_big_quiet_op; go_big_quiet_on; exact wpQuiet_nil rfl)))))))
        refine wpW_act (fun QQ hQQ => ?_) (by rfl)
        go_wp2_with (go_at_call 10; with_reducible refine (fd.out _ _ _ (hrw'.out.below H1 (Nat.le_refl _)) z1).mono ?_; rintro e q2 ⟨b4, c4, a4, d4, e4, rfl, hs⟩)
        have H2 := H1.trans (hs.mono H1.size)
        (refine hQQ _ _ ?hCn ?_; (case hCn => exact H2); clear hQQ QQ)
        clear hs
        (repeat (first | (apply wpW_light; (case h => (intro wa; (first | (go_big_quiet_skip; exact wpQuiet_nil rfl) | (go_big_quiet_want; go_big_quiet_op; go_big_quiet_on; exact wpQuiet_nil rfl))))) | (apply wpW_here; (case h => (first | (go_big_quiet_skip; exact wpQuiet_nil rfl) | (go_big_quiet_want; go_big_quiet_op; go_big_quiet_on; exact wpQuiet_nil rfl)))) | (apply wpW_held; (case hC => assumption); (case h => (intro wa hCa; simp only [] at hCa; (first | (go_big_quiet_skip; exact wpQuiet_nil rfl) | (go_big_quiet_want; go_big_quiet_op; go_big_quiet_on; exact wpQuiet_nil rfl)))))))
        refine wpW_act (fun QQ hQQ => ?_) (by rfl)
        go_wp2
        (refine hQQ _ _ ?hCn ?_; (case hCn => exact H2.alloc H2.size _); clear hQQ QQ)
        (repeat (first | (apply wpW_light; (case h => (intro wa; (first | (go_big_quiet_skip; exact wpQuiet_nil rfl) | (go_big_quiet_want; go_big_quiet_op; go_big_quiet_on; exact wpQuiet_nil rfl))))) | (apply wpW_here; (case h => (first | (go_big_quiet_skip; exact wpQuiet_nil rfl) | (go_big_quiet_want; go_big_quiet_op; go_big_quiet_on; exact wpQuiet_nil rfl)))) | (apply wpW_held; (case hC => assumption); (case h => (intro wa hCa; simp only [] at hCa; (first | (go_big_quiet_skip; exact wpQuiet_nil rfl) | (go_big_quiet_want; go_big_quiet_op; go_big_quiet_on; exact wpQuiet_nil rfl)))))))
        refine wpW_name ?_
        intro q3 hq
        have H3 : Below p0.heap.size p0 q3 := by rw [hq]; exact H2.alloc H2.size _
        have hs : Below q2.heap.size q2 q3 := by rw [hq]; exact below1 q2 _
        have x3 : ResAt q3 q2.heap.size 0 0 0 0 0 (.slice none 0 0) 0 := by rw [hq]; exact resat1 q2 0 0 0 0 0 _ 0
        have gx : p0.heap.size ≤ q2.heap.size := H2.size
        obtain ⟨xa, hxa⟩ : ∃ x, x = q2.heap.size := ⟨_, rfl⟩
        rw [← hxa] at x3 gx ⊢
        clear hq hs hxa
        obtain ⟨y0, y1, y2, y3, y4, y5, y6, y7, y8, y9, y10, y11, y12, y13⟩ := x3.cells
        refine wpW_last (fun QQ hQQ => ?_) (by rfl)
        go_wp2
        (refine hQQ.out _ _ ?_; clear hQQ QQ)
        (repeat (first | (apply wpW_light; (case h => (intro wa; (first | (go_big_quiet_skip; exact wpQuiet_nil rfl) | (go_big_quiet_want; go_big_quiet_op; go_big_quiet_on; exact wpQuiet_nil rfl))))) | (apply wpW_here; (case h => (first | (go_big_quiet_skip; exact wpQuiet_nil rfl) | (go_big_quiet_want; go_big_quiet_op; go_big_quiet_on; exact wpQuiet_nil rfl)))) | (apply wpW_held; (case hC => assumption); (case h => (intro wa hCa; simp only [] at hCa; (first | (go_big_quiet_skip; exact wpQuiet_nil rfl) | (go_big_quiet_want; go_big_quiet_op; go_big_quiet_on; exact wpQuiet_nil rfl)))))))
        refine wpW_nil ?_
        go_wp2_with (fail)
        go_meet
        exact ⟨rfl, below7 H3 gx⟩
      · simp only [pick, nth]
        refine wpW_name ?_
        intro q0 hq0
        have H0 : Below p0.heap.size p0 q0 := by rw [hq0]; exact (Below.refl _ _).drew
        clear hq0
        (repeat (first | (apply wpW_light; (case h => (intro wa; (first | (go_big_quiet_skip; exact wpQuiet_nil rfl) | (go_big_quiet_want; go_big_quiet_op; go_big_quiet_on; exact wpQuiet_nil rfl))))) | (apply wpW_here; (case h => (first | (go_big_quiet_skip; exact wpQuiet_nil rfl) | (go_big_quiet_want; go_big_quiet_op; go_big_quiet_on; exact wpQuiet_nil rfl)))) | (apply wpW_held; (case hC => assumption); (case h => (intro wa hCa; (obtain ⟨u0, u1, u2, u3, u4, u5, u6⟩ := hC7.out.below hCa hlp; clear hCa); (first | (go_big_quiet_skip; exact wpQuiet_nil rfl) | (go_big_quiet_want; go_big_quiet_op; go_big_quiet_on; exact wpQuiet_nil rfl)))))))
        refine wpW_act (fun QQ hQQ => ?_) (by rfl)
        go_wp2_with (at_make; refine law_make elU8 q0 rfl _ _ rfl .i64 .i64 41001 41001 n41 rfl rfl hn41 hn41 hnb ?_; intro q1 om hs hsz)
        have H1 := H0.trans (hs.mono H0.size)
        (refine hQQ _ _ ?hCn ?_; (case hCn => exact H1); clear hQQ QQ)
        have z1 := Row.of_own om hzw.out
        obtain ⟨ym, hym⟩ : ∃ x, x = q0.heap.size := ⟨_, rfl⟩
        rw [← hym] at z1 ⊢
        clear hs om hsz hym
        (repeat (first | (apply wpW_light; (case h => (intro wa; (first | (go_big_quiet_skip; exact wpQuiet_nil rfl) | (go_big_quiet_want; go_big_quiet_op; go_big_quiet_on; exact wpQuiet_nil rfl))))) | (apply wpW_here; (case h => (first | (go_big_quiet_skip; exact wpQuiet_nil rfl) | (go_big_quiet_want; go_big_quiet_op; go_big_quiet_on; exact wpQuiet_nil rfl)))) | (apply wpW_held; (case hC => assumption); (case h => (intro wa hCa; simp only [] at hCa; (first | (go_big_quiet_skip; exact wpQuiet_nil rfl) | (go_big_quiet_want; go_big_quiet_op; go_big_quiet_on; exact wpQuiet_nil rfl)))))))
        refine wpW_act (fun QQ hQQ => ?_) (by rfl)
        go_wp2
        (refine hQQ _ _ ?hCn ?_; (case hCn => exact H1.alloc H1.size _); clear hQQ QQ)
        (repeat (first | (apply wpW_light; (case h => (intro wa; (first | (go_big_quiet_skip; exact wpQuiet_nil rfl) | (go_big_quiet_want; go_big_quiet_op; go_big_quiet_on; exact wpQuiet_nil rfl))))) | (apply wpW_here; (case h => (first | (go_big_quiet_skip; exact wpQuiet_nil rfl) | (go_big_quiet_want; go_big_quiet_op; go_big_quiet_on; exact wpQuiet_nil rfl)))) | (apply wpW_held; (case hC => assumption); (case h => (intro wa hCa; simp only [] at hCa; (first | (go_big_quiet_skip; exact wpQuiet_nil rfl) | (go_big_quiet_want; go_big_quiet_op; go_big_quiet_on; exact wpQuiet_nil rfl)))))))
        refine wpW_name ?_
        intro q2 hq
        have H2 : Below p0.heap.size p0 q2 := by rw [hq]; exact H1.alloc H1.size _
        have hs : Below q1.heap.size q1 q2 := by rw [hq]; exact below1 q1 _
        have z2 := z1.below hs (Nat.le_refl _)
        have x2 : ResAt q2 q1.heap.size 0 0 0 0 0 (.slice none 0 0) 0 := by rw [hq]; exact resat1 q1 0 0 0 0 0 _ 0
        have gx : p0.heap.size ≤ q1.heap.size := H1.size
        obtain ⟨xa, hxa⟩ : ∃ x, x = q1.heap.size := ⟨_, rfl⟩
        rw [← hxa] at x2 gx ⊢
        clear hq hs hxa
        refine wpW_act (fun QQ hQQ => ?_) (by rfl)
        go_wp2_with (go_at_call 10; with_reducible refine (fd.out _ _ _ (hrw'.out.below H2 (Nat.le_refl _)) z2).mono ?_; rintro e q3 ⟨b4, c4, a4, d4, e4, rfl, hs⟩)
        have H3 := H2.trans (hs.mono H2.size)
        (refine hQQ _ _ ?hCn ?_; (case hCn => exact H3); clear hQQ QQ)
        have x3 := x2.below hs x2.lt
        clear hs
        (repeat (first | (apply wpW_light; (case h => (intro wa; (first | (go_big_quiet_skip; exact wpQuiet_nil rfl) | (go_big_quiet_want; go_big_quiet_op; go_big_quiet_on; exact wpQuiet_nil rfl))))) | (apply wpW_here; (case h => (first | (go_big_quiet_skip; exact wpQuiet_nil rfl) | (go_big_quiet_want; go_big_quiet_op; go_big_quiet_on; exact wpQuiet_nil rfl)))) | (apply wpW_held; (case hC => assumption); (case h => (intro wa hCa; simp only [] at hCa; (first | (go_big_quiet_skip; exact wpQuiet_nil rfl) | (go_big_quiet_want; go_big_quiet_op; go_big_quiet_on; exact wpQuiet_nil rfl)))))))
        obtain ⟨y0, y1, y2, y3, y4, y5, y6, y7, y8, y9, y10, y11, y12, y13⟩ := x3.cells
        refine wpW_last (fun QQ hQQ => ?_) (by rfl)
        go_wp2
        (refine hQQ.out _ _ ?_; clear hQQ QQ)
        (repeat (first | (apply wpW_light; (case h => (intro wa; (first | (go_big_quiet_skip; exact wpQuiet_nil rfl) | (go_big_quiet_want; go_big_quiet_op; go_big_quiet_on; exact wpQuiet_nil rfl))))) | (apply wpW_here; (case h => (first | (go_big_quiet_skip; exact wpQuiet_nil rfl) | (go_big_quiet_want; go_big_quiet_op; go_big_quiet_on; exact wpQuiet_nil rfl)))) | (apply wpW_held; (case hC => assumption); (case h => (intro wa hCa; simp only [] at hCa; (first | (go_big_quiet_skip; exact wpQuiet_nil rfl) | (go_big_quiet_want; go_big_quiet_op; go_big_quiet_on; exact wpQuiet_nil rfl)))))))
        refine wpW_nil ?_
        go_wp2_with (fail)
        go_meet
        exact ⟨rfl, below7 H3 gx⟩
      · simp only [pick, nth]
        refine wpW_name ?_
        intro q0 hq0
        have H0 : Below p0.heap.size p0 q0 := by rw [hq0]; exact (Below.refl _ _).drew
        clear hq0
        (repeat (first | (apply wpW_light; (case h => (intro wa; (first | (go_big_quiet_skip; exact wpQuiet_nil rfl) | (go_big_quiet_want; go_big_quiet_op; go_big_quiet_on; exact wpQuiet_nil rfl))))) | (apply wpW_here; (case h => (first | (go_big_quiet_skip; exact wpQuiet_nil rfl) | (go_big_quiet_want; go_big_quiet_op; go_big_quiet_on; exact wpQuiet_nil rfl)))) | (apply wpW_held; (case hC => assumption); (case h => (intro wa hCa; (obtain ⟨u0, u1, u2, u3, u4, u5, u6⟩ := hC7.out.below hCa hlp; clear hCa); (first | (go_big_quiet_skip; exact wpQuiet_nil rfl) | (go_big_quiet_want; go_big_quiet_op; go_big_quiet_on; exact wpQuiet_nil rfl)))))))
        refine wpW_act (fun QQ hQQ => ?_) (by rfl)
        go_wp2
        (refine hQQ _ _ ?hCn ?_; (case hCn => exact H0.alloc H0.size _); clear hQQ QQ)
        (repeat (first | (apply wpW_light; (case h => (intro wa; (first | (go_big_quiet_skip; exact wpQuiet_nil rfl) | (go_big_quiet_want; go_big_quiet_op; go_big_quiet_on; exact wpQuiet_nil rfl))))) | (apply wpW_here; (case h => (first | (go_big_quiet_skip; exact wpQuiet_nil rfl) | (go_big_quiet_want; go_big_quiet_op; go_big_quiet_on; exact wpQuiet_nil rfl)))) | (apply wpW_held; (case hC => assumption); (case h => (intro wa hCa; simp only [] at hCa; (first | (go_big_quiet_skip; exact wpQuiet_nil rfl) | (go_big_quiet_want; go_big_quiet_op; go_big_quiet_on; exact wpQuiet_nil rfl)))))))
        refine wpW_name ?_
        intro q1 hq
        have H1 : Below p0.heap.size p0 q1 := by rw [hq]; exact H0.alloc H0.size _
        have hs : Below q0.heap.size q0 q1 := by rw [hq]; exact below1 q0 _
        have x1 : ResAt q1 q0.heap.size 0 0 0 0 0 (.slice none 0 0) 0 := by rw [hq]; exact resat1 q0 0 0 0 0 0 _ 0
        have gx : p0.heap.size ≤ q0.heap.size := H0.size
        obtain ⟨xa, hxa⟩ : ∃ x, x = q0.heap.size := ⟨_, rfl⟩
        rw [← hxa] at x1 gx ⊢
        clear hq hs hxa
        refine wpW_act (fun QQ hQQ => ?_) (by rfl)
        go_wp2_with (at_make; refine law_make elU8 q1 rfl _ _ rfl .i64 .i64 41001 41001 n41 rfl rfl hn41 hn41 hnb ?_; intro q2 om hs hsz)
        have H2 := H1.trans (hs.mono H1.size)
        (refine hQQ _ _ ?hCn ?_; (case hCn => exact H2); clear hQQ QQ)
        have x2 := x1.below hs x1.lt
        have z2 := Row.of_own om hzw.out
        obtain ⟨ym, hym⟩ : ∃ x, x = q1.heap.size := ⟨_, rfl⟩
        rw [← hym] at z2 ⊢
        clear hs om hsz hym
        (repeat (first | (apply wpW_light; (case h => (intro wa; (first | (go_big_quiet_skip; exact wpQuiet_nil rfl) | (go_big_quiet_want; go_big_quiet_op; go_big_quiet_on; exact wpQuiet_nil rfl))))) | (apply wpW_here; (case h => (first | (go_big_quiet_skip; exact wpQuiet_nil rfl) | (go_big_quiet_want; go_big_quiet_op; go_big_quiet_on; exact wpQuiet_nil rfl)))) | (apply wpW_held; (case hC => assumption); (case h => (intro wa hCa; simp only [] at hCa; (first | (go_big_quiet_skip; exact wpQuiet_nil rfl) | (go_big_quiet_want; go_big_quiet_op; go_big_quiet_on; exact wpQuiet_nil rfl)))))))
        refine wpW_act (fun QQ hQQ => ?_) (by rfl)
        go_wp2_with (go_at_call 10; with_reducible refine (fd.out _ _ _ (hrw'.out.below H2 (Nat.le_refl _)) z2).mono ?_; rintro e q3 ⟨b4, c4, a4, d4, e4, rfl, hs⟩)
        have H3 := H2.trans (hs.mono H2.size)
        (refine hQQ _ _ ?hCn ?_; (case hCn => exact H3); clear hQQ QQ)
        have x3 := x2.below hs x2.lt
        clear hs
        (repeat (first | (apply wpW_light; (case h => (intro wa; (first | (go_big_quiet_skip; exact wpQuiet_nil rfl) | (go_big_quiet_want; go_big_quiet_op; go_big_quiet_on; exact wpQuiet_nil rfl))))) | (apply wpW_here; (case h => (first | (go_big_quiet_skip; exact wpQuiet_nil rfl) | (go_big_quiet_want; go_big_quiet_op; go_big_quiet_on; exact wpQuiet_nil rfl)))) | (apply wpW_held; (case hC => assumption); (case h => (intro wa hCa; simp only [] at hCa; (first | (go_big_quiet_skip; exact wpQuiet_nil rfl) | (go_big_quiet_want; go_big_quiet_op; go_big_quiet_on; exact wpQuiet_nil rfl)))))))
        obtain ⟨y0, y1, y2, y3, y4, y5, y6, y7, y8, y9, y10, y11, y12, y13⟩ := x3.cells
        refine wpW_last (fun QQ hQQ => ?_) (by rfl)
        go_wp2
        (refine hQQ.out _ _ ?_; clear hQQ QQ)
        (repeat (first | (apply wpW_light; (case h => (intro wa; (first | (go_big_quiet_skip; exact wpQuiet_nil rfl) | (go_big_quiet_want; go_big_quiet_op; go_big_quiet_on; exact wpQuiet_nil rfl))))) | (apply wpW_here; (case h => (first | (go_big_quiet_skip; exact wpQuiet_nil rfl) | (go_big_quiet_want; go_big_quiet_op; go_big_quiet_on; exact wpQuiet_nil rfl)))) | (apply wpW_held; (case hC => assumption); (case h => (intro wa hCa; simp only [] at hCa; (first | (go_big_quiet_skip; exact wpQuiet_nil rfl) | (go_big_quiet_want; go_big_quiet_op; go_big_quiet_on; exact wpQuiet_nil rfl)))))))
        refine wpW_nil ?_
        go_wp2_with (fail)
        go_meet
        exact ⟨rfl, below7 H3 gx⟩
    case rest =>
    obtain ⟨rfl, hB2⟩ := hcut
    obtain ⟨p1, hw⟩ : ∃ w, w = wc := ⟨_, rfl⟩
    subst hw
    have hP1 := Go.Lib.hid (hB'.out.trans (hB2.mono hB'.out.size))
    have hr2 := Go.Lib.hid (hrw'.out.below hB2 (Nat.le_refl _))
    obtain ⟨u0, u1, u2, u3, u4, u5, u6⟩ := hC7.out.below hB2 hlp
    clear hB2
    go_wp2_with (go_at_call 11; with_reducible refine (ck.out _ hr2.out).mono ?_; rintro e p5 ⟨rfl, hp5⟩; have hP5 := Go.Lib.hid (hP1.out.trans (hp5.mono hP1.out.size)); clear hp5)
    go_roundg (6 - (k + 1))
    case measure => (have hgk := hgo.out; omega)
    case rel => exact ⟨k + 1, by omega, rfl, by go_num, hP5.out⟩
  · obtain rfl : k = 6 := by omega
    obtain ⟨p0, hw⟩ : ∃ w, w = wr := ⟨_, rfl⟩
    subst hw
    have hW0 := Go.Lib.hid (hWl'.out.trans (hB.mono hWl'.out.size))
    have hBm := Go.Lib.hid (hBm'.out.below hB lxm)
    have hBn := Go.Lib.hid (hBn'.out.below hB lxn)
    have lm0 := hBm.out.lt
    have ln0 := hBn.out.lt
    clear hB hBm' hBn' hWl' hR8' hR0' hbad' lxm lxn hxb
    go_upto_region 13 with (fail)
    go_cut [17] (fun s17 wx => s17 = .int .i64 4 ∧ Below p0.heap.size p0 wx)
    case first =>
      refine wp_region_ord3 (fun w' => Below p0.heap.size p0 w') 1 2 7 [(0, 2), (1, 3), (2, 3), (3, 0), (4, 0), (5, 0), (6, 0), (7, 3), (8, 4), (9, 0), (10, 0)] [(0, 2), (1, 3), (7, 3), (2, 3), (3, 0), (4, 0), (5, 0), (6, 0), (8, 4), (9, 0), (10, 0)] [(0, 2), (7, 3), (1, 3), (2, 3), (3, 0), (4, 0), (5, 0), (6, 0), (8, 4), (9, 0), (10, 0)] (by kernel_rfl) (by decide) (by kernel_rfl) (by kernel_rfl) (by kernel_rfl) ?hC0 ?_ ?_ ?_
      case hC0 => exact (Below.refl _ _).drew
      · simp only [pick, nth]
        refine wpW_name ?_
        intro q0 hq0
        have H0 : Below p0.heap.size p0 q0 := by rw [hq0]; exact (Below.refl _ _).drew
        clear hq0
        (repeat (first | (apply wpW_light; (case h => (intro wa; (first | (go_big_quiet_skip; exact wpQuiet_nil rfl) | (go_big_quiet_want; go_big_quiet_op; go_big_quiet_on; exact wpQuiet_nil rfl))))) | (apply wpW_here; (case h => (first | (go_big_quiet_skip; exact wpQuiet_nil rfl) | (go_big_quiet_want; go_big_quiet_op; go_big_quiet_on; exact wpQuiet_nil rfl)))) | (apply wpW_held; (case hC => assumption); (case h => (intro wa hCa; (obtain ⟨u0, u1, u2, u3, u4, u5, u6, u7, u8, u9, u10, u11, u12, u13⟩ := (hBm.out.below hCa lm0).cells; clear hCa); (first | (go_big_quiet_skip; exact wpQuiet_nil rfl) | (go_big_quiet_want; go_big_quiet_op; go_big_quiet_on; exact wpQuiet_nil rfl)))))))
        refine wpW_act (fun QQ hQQ => ?_) (by rfl)
        go_wp2_with (at_make; refine law_make elU8 q0 rfl _ _ rfl .i64 .i64 41001 41001 n41 rfl rfl hn41 hn41 hnb ?_; intro q1 om hs hsz)
        have H1 := H0.trans (hs.mono H0.size)
        (refine hQQ _ _ ?hCn ?_; (case hCn => exact H1); clear hQQ QQ)
        have z1 := Row.of_own om hzw.out
        obtain ⟨ym, hym⟩ : ∃ x, x = q0.heap.size := ⟨_, rfl⟩
        rw [← hym] at z1 ⊢
        clear hs om hsz hym
        (repeat (first | (apply wpW_light; (case h => (intro wa; (first | (go_big_quiet_skip; exact wpQuiet_nil rfl) | (go_big_quiet_want; go_big_quiet_op; go_big_quiet_on; exact wpQuiet_nil rfl))))) | (apply wpW_here; (case h => (first | (go_big_quiet_skip; exact wpQuiet_nil rfl) | (go_big_quiet_want; go_big_quiet_op; go_big_quiet_on; exact wpQuiet_nil rfl)))) | (apply wpW_held; (case hC => assumption); (case h => (intro wa hCa; simp only [] at hCa; (first | (go_big_quiet_skip; exact wpQuiet_nil rfl) | (go_big_quiet_want; go_big_quiet_op; go_big_quiet_on; exact wpQuiet_nil rfl)))))))
        refine wpW_act (fun QQ hQQ => ?_) (by rfl)
        go_wp2_with (go_at_call 10; with_reducible refine (f13.out _ _ _ z1).mono ?_; rintro e q2 ⟨b4, c4, a4, d4, e4, rfl, hs⟩)
        have H2 := H1.trans (hs.mono H1.size)
        (refine hQQ _ _ ?hCn ?_; (case hCn => exact H2); clear hQQ QQ)
        clear hs
        (repeat (first | (apply wpW_light; (case h => (intro wa; (first | (go_big_quiet_skip; exact wpQuiet_nil rfl) | (go_big_quiet_want; go_big_quiet_op; go_big_quiet_on; exact wpQuiet_nil rfl))))) | (apply wpW_here; (case h => (first | (go_big_quiet_skip; exact wpQuiet_nil rfl) | (go_big_quiet_want; go_big_quiet_op; go_big_quiet_on; exact wpQuiet_nil rfl)))) | (apply wpW_held; (case hC => assumption); (case h => (intro wa hCa; simp only [] at hCa; (first | (go_big_quiet_skip; exact wpQuiet_nil rfl) | (go_big_quiet_want; go_big_quiet_op; go_big_quiet_on; exact wpQuiet_nil rfl)))))))
        refine wpW_act (fun QQ hQQ => ?_) (by rfl)
        go_wp2
        (refine hQQ _ _ ?hCn ?_; (case hCn => exact H2.alloc H2.size _); clear hQQ QQ)
        (repeat (first | (apply wpW_light; (case h => (intro wa; (first | (go_big_quiet_skip; exact wpQuiet_nil rfl) | (go_big_quiet_want; go_big_quiet_op; go_big_quiet_on; exact wpQuiet_nil rfl))))) | (apply wpW_here; (case h => (first | (go_big_quiet_skip; exact wpQuiet_nil rfl) | (go_big_quiet_want; go_big_quiet_op; go_big_quiet_on; exact wpQuiet_nil rfl)))) | (apply wpW_held; (case hC => assumption); (case h => (intro wa hCa; simp only [] at hCa; (first | (go_big_quiet_skip; exact wpQuiet_nil rfl) | (go_big_quiet_want; go_big_quiet_op; go_big_quiet_on; exact wpQuiet_nil rfl)))))))
        refine wpW_name ?_
        intro q3 hq
        have H3 : Below p0.heap.size p0 q3 := by rw [hq]; exact H2.alloc H2.size _
        have hs : Below q2.heap.size q2 q3 := by rw [hq]; exact below1 q2 _
        have x3 : ResAt q3 q2.heap.size 0 0 0 0 0 (.slice none 0 0) 0 := by rw [hq]; exact resat1 q2 0 0 0 0 0 _ 0
        have gx : p0.heap.size ≤ q2.heap.size := H2.size
        obtain ⟨xa, hxa⟩ : ∃ x, x = q2.heap.size := ⟨_, rfl⟩
        rw [← hxa] at x3 gx ⊢
        clear hq hs hxa
        obtain ⟨y0, y1, y2, y3, y4, y5, y6, y7, y8, y9, y10, y11, y12, y13⟩ := x3.cells
        refine wpW_last (fun QQ hQQ => ?_) (by rfl)
        go_wp2
        (refine hQQ.out _ _ ?_; clear hQQ QQ)
        (repeat (first | (apply wpW_light; (case h => (intro wa; (first | (go_big_quiet_skip; exact wpQuiet_nil rfl) | (go_big_quiet_want; go_big_quiet_op; go_big_quiet_on; exact wpQuiet_nil rfl))))) | (apply wpW_here; (case h => (first | (go_big_quiet_skip; exact wpQuiet_nil rfl) | (go_big_quiet_want; go_big_quiet_op; go_big_quiet_on; exact wpQuiet_nil rfl)))) | (apply wpW_held; (case hC => assumption); (case h => (intro wa hCa; simp only [] at hCa; (first | (go_big_quiet_skip; exact wpQuiet_nil rfl) | (go_big_quiet_want; go_big_quiet_op; go_big_quiet_on; exact wpQuiet_nil rfl)))))))
        refine wpW_nil ?_
        go_wp2_with (fail)
        go_meet
        exact ⟨rfl, below7 H3 gx⟩
      · simp only [pick, nth]
        refine wpW_name ?_
        intro q0 hq0
        have H0 : Below p0.heap.size p0 q0 := by rw [hq0]; exact (Below.refl _ _).drew
        clear hq0
        (repeat (first | (apply wpW_light; (case h => (intro wa; (first | (go_big_quiet_skip; exact wpQuiet_nil rfl) | (go_big_quiet_want; go_big_quiet_op; go_big_quiet_on; exact wpQuiet_nil rfl))))) | (apply wpW_here; (case h => (first | (go_big_quiet_skip; exact wpQuiet_nil rfl) | (go_big_quiet_want; go_big_quiet_op; go_big_quiet_on; exact wpQuiet_nil rfl)))) | (apply wpW_held; (case hC => assumption); (case h => (intro wa hCa; (obtain ⟨u0, u1, u2, u3, u4, u5, u6, u7, u8, u9, u10, u11, u12, u13⟩ := (hBm.out.below hCa lm0).cells; clear hCa); (first | (go_big_quiet_skip; exact wpQuiet_nil rfl) | (go_big_quiet_want; go_big_quiet_op; go_big_quiet_on; exact wpQuiet_nil rfl)))))))
        refine wpW_act (fun QQ hQQ => ?_) (by rfl)
        go_wp2_with (at_make; refine law_make elU8 q0 rfl _ _ rfl .i64 .i64 41001 41001 n41 rfl rfl hn41 hn41 hnb ?_; intro q1 om hs hsz)
        have H1 := H0.trans (hs.mono H0.size)
        (refine hQQ _ _ ?hCn ?_; (case hCn => exact H1); clear hQQ QQ)
        have z1 := Row.of_own om hzw.out
        obtain ⟨ym, hym⟩ : ∃ x, x = q0.heap.size := ⟨_, rfl⟩
        rw [← hym] at z1 ⊢
        clear hs om hsz hym
        (repeat (first | (apply wpW_light; (case h => (intro wa; (first | (go_big_quiet_skip; exact wpQuiet_nil rfl) | (go_big_quiet_want; go_big_quiet_op; go_big_quiet_on; exact wpQuiet_nil rfl))))) | (apply wpW_here; (case h => (first | (go_big_quiet_skip; exact wpQuiet_nil rfl) | (go_big_quiet_want; go_big_quiet_op; go_big_quiet_on; exact wpQuiet_nil rfl)))) | (apply wpW_held; (case hC => assumption); (case h => (intro wa hCa; simp only [] at hCa; (first | (go_big_quiet_skip; exact wpQuiet_nil rfl) | (go_big_quiet_want; go_big_quiet_op; go_big_quiet_on; exact wpQuiet_nil rfl)))))))
        refine wpW_act (fun QQ hQQ => ?_) (by rfl)
        go_wp2
        (refine hQQ _ _ ?hCn ?_; (case hCn => exact H1.alloc H1.size _); clear hQQ QQ)
        (repeat (first | (apply wpW_light; (case h => (intro wa; (first | (go_big_quiet_skip; exact wpQuiet_nil rfl) | (go_big_quiet_want; go_big_quiet_op; go_big_quiet_on; exact wpQuiet_nil rfl))))) | (apply wpW_here; (case h => (first | (go_big_quiet_skip; exact wpQuiet_nil rfl) | (go_big_quiet_want; go_big_quiet_op; go_big_quiet_on; exact wpQuiet_nil rfl)))) | (apply wpW_held; (case hC => assumption); (case h => (intro wa hCa; simp only [] at hCa; (first | (go_big_quiet_skip; exact wpQuiet_nil rfl) | (go_big_quiet_want; go_big_quiet_op; go_big_quiet_on; exact wpQuiet_nil rfl)))))))
        refine wpW_name ?_
        intro q2 hq
        have H2 : Below p0.heap.size p0 q2 := by rw [hq]; exact H1.alloc H1.size _
        have hs : Below q1.heap.size q1 q2 := by rw [hq]; exact below1 q1 _
        have z2 := z1.below hs (Nat.le_refl _)
        have x2 : ResAt q2 q1.heap.size 0 0 0 0 0 (.slice none 0 0) 0 := by rw [hq]; exact resat1 q1 0 0 0 0 0 _ 0
        have gx : p0.heap.size ≤ q1.heap.size := H1.size
        obtain ⟨xa, hxa⟩ : ∃ x, x = q1.heap.size := ⟨_, rfl⟩
        rw [← hxa] at x2 gx ⊢
        clear hq hs hxa
        refine wpW_act (fun QQ hQQ => ?_) (by rfl)
        go_wp2_with (go_at_call 10; with_reducible refine (f13.out _ _ _ z2).mono ?_; rintro e q3 ⟨b4, c4, a4, d4, e4, rfl, hs⟩)
        have H3 := H2.trans (hs.mono H2.size)
        (refine hQQ _ _ ?hCn ?_; (case hCn => exact H3); clear hQQ QQ)
        have x3 := x2.below hs x2.lt
        clear hs
        (repeat (first | (apply wpW_light; (case h => (intro wa; (first | (go_big_quiet_skip; exact wpQuiet_nil rfl) | (go_big_quiet_want; go_big_quiet_op; go_big_quiet_on; exact wpQuiet_nil rfl))))) | (apply wpW_here; (case h => (first | (go_big_quiet_skip; exact wpQuiet_nil rfl) | (go_big_quiet_want; go_big_quiet_op; go_big_quiet_on; exact wpQuiet_nil rfl)))) | (apply wpW_held; (case hC => assumption); (case h => (intro wa hCa; simp only [] at hCa; (first | (go_big_quiet_skip; exact wpQuiet_nil rfl) | (go_big_quiet_want; go_big_quiet_op; go_big_quiet_on; exact wpQuiet_nil rfl)))))))
        obtain ⟨y0, y1, y2, y3, y4, y5, y6, y7, y8, y9, y10, y11, y12, y13⟩ := x3.cells
        refine wpW_last (fun QQ hQQ => ?_) (by rfl)
        go_wp2
        (refine hQQ.out _ _ ?_; clear hQQ QQ)
        (repeat (first | (apply wpW_light; (case h => (intro wa; (first | (go_big_quiet_skip; exact wpQuiet_nil rfl) | (go_big_quiet_want; go_big_quiet_op; go_big_quiet_on; exact wpQuiet_nil rfl))))) | (apply wpW_here; (case h => (first | (go_big_quiet_skip; exact wpQuiet_nil rfl) | (go_big_quiet_want; go_big_quiet_op; go_big_quiet_on; exact wpQuiet_nil rfl)))) | (apply wpW_held; (case hC => assumption); (case h => (intro wa hCa; simp only [] at hCa; (first | (go_big_quiet_skip; exact wpQuiet_nil rfl) | (go_big_quiet_want; go_big_quiet_op; go_big_quiet_on; exact wpQuiet_nil rfl)))))))
        refine wpW_nil ?_
        go_wp2_with (fail)
        go_meet
        exact ⟨rfl, below7 H3 gx⟩
      · simp only [pick, nth]
        refine wpW_name ?_
        intro q0 hq0
        have H0 : Below p0.heap.size p0 q0 := by rw [hq0]; exact (Below.refl _ _).drew
        clear hq0
        (repeat (first | (apply wpW_light; (case h => (intro wa; (first | (go_big_quiet_skip; exact wpQuiet_nil rfl) | (go_big_quiet_want; go_big_quiet_op; go_big_quiet_on; exact wpQuiet_nil rfl))))) | (apply wpW_here; (case h => (first | (go_big_quiet_skip; exact wpQuiet_nil rfl) | (go_big_quiet_want; go_big_quiet_op; go_big_quiet_on; exact wpQuiet_nil rfl)))) | (apply wpW_held; (case hC => assumption); (case h => (intro wa hCa; (obtain ⟨u0, u1, u2, u3, u4, u5, u6, u7, u8, u9, u10, u11, u12, u13⟩ := (hBm.out.below hCa lm0).cells; clear hCa); (first | (go_big_quiet_skip; exact wpQuiet_nil rfl) | (go_big_quiet_want; go_big_quiet_op; go_big_quiet_on; exact wpQuiet_nil rfl)))))))
        refine wpW_act (fun QQ hQQ => ?_) (by rfl)
        go_wp2
        (refine hQQ _ _ ?hCn ?_; (case hCn => exact H0.alloc H0.size _); clear hQQ QQ)
        (repeat (first | (apply wpW_light; (case h => (intro wa; (first | (go_big_quiet_skip; exact wpQuiet_nil rfl) | (go_big_quiet_want; go_big_quiet_op; go_big_quiet_on; exact wpQuiet_nil rfl))))) | (apply wpW_here; (case h => (first | (go_big_quiet_skip; exact wpQuiet_nil rfl) | (go_big_quiet_want; go_big_quiet_op; go_big_quiet_on; exact wpQuiet_nil rfl)))) | (apply wpW_held; (case hC => assumption); (case h => (intro wa hCa; simp only [] at hCa; (first | (go_big_quiet_skip; exact wpQuiet_nil rfl) | (go_big_quiet_want; go_big_quiet_op; go_big_quiet_on; exact wpQuiet_nil rfl)))))))
        refine wpW_name ?_
        intro q1 hq
        have H1 : Below p0.heap.size p0 q1 := by rw [hq]; exact H0.alloc H0.size _
        have hs : Below q0.heap.size q0 q1 := by rw [hq]; exact below1 q0 _
        have x1 : ResAt q1 q0.heap.size 0 0 0 0 0 (.slice none 0 0) 0 := by rw [hq]; exact resat1 q0 0 0 0 0 0 _ 0
        have gx : p0.heap.size ≤ q0.heap.size := H0.size
        obtain ⟨xa, hxa⟩ : ∃ x, x = q0.heap.size := ⟨_, rfl⟩
        rw [← hxa] at x1 gx ⊢
        clear hq hs hxa
        refine wpW_act (fun QQ hQQ => ?_) (by rfl)
        go_wp2_with (at_make; refine law_make elU8 q1 rfl _ _ rfl .i64 .i64 41001 41001 n41 rfl rfl hn41 hn41 hnb ?_; intro q2 om hs hsz)
        have H2 := H1.trans (hs.mono H1.size)
        (refine hQQ _ _ ?hCn ?_; (case hCn => exact H2); clear hQQ QQ)
        have x2 := x1.below hs x1.lt
        have z2 := Row.of_own om hzw.out
        obtain ⟨ym, hym⟩ : ∃ x, x = q1.heap.size := ⟨_, rfl⟩
        rw [← hym] at z2 ⊢
        clear hs om hsz hym
        (repeat (first | (apply wpW_light; (case h => (intro wa; (first | (go_big_quiet_skip; exact wpQuiet_nil rfl) | (go_big_quiet_want; go_big_quiet_op; go_big_quiet_on; exact wpQuiet_nil rfl))))) | (apply wpW_here; (case h => (first | (go_big_quiet_skip; exact wpQuiet_nil rfl) | (go_big_quiet_want; go_big_quiet_op; go_big_quiet_on; exact wpQuiet_nil rfl)))) | (apply wpW_held; (case hC => assumption); (case h => (intro wa hCa; simp only [] at hCa; (first | (go_big_quiet_skip; exact wpQuiet_nil rfl) | (go_big_quiet_want; go_big_quiet_op; go_big_quiet_on; exact wpQuiet_nil rfl)))))))
        refine wpW_act (fun QQ hQQ => ?_) (by rfl)
        go_wp2_with (go_at_call 10; with_reducible refine (f13.out _ _ _ z2).mono ?_; rintro e q3 ⟨b4, c4, a4, d4, e4, rfl, hs⟩)
        have H3 := H2.trans (hs.mono H2.size)
        (refine hQQ _ _ ?hCn ?_; (case hCn => exact H3); clear hQQ QQ)
        have x3 := x2.below hs x2.lt
        clear hs
        (repeat (first | (apply wpW_light; (case h => (intro wa; (first | (go_big_quiet_skip; exact wpQuiet_nil rfl) | (go_big_quiet_want; go_big_quiet_op; go_big_quiet_on; exact wpQuiet_nil rfl))))) | (apply wpW_here; (case h => (first | (go_big_quiet_skip; exact wpQuiet_nil rfl) | (go_big_quiet_want; go_big_quiet_op; go_big_quiet_on; exact wpQuiet_nil rfl)))) | (apply wpW_held; (case hC => assumption); (case h => (intro wa hCa; simp only [] at hCa; (first | (go_big_quiet_skip; exact wpQuiet_nil rfl) | (go_big_quiet_want; go_big_quiet_op; go_big_quiet_on; exact wpQuiet_nil rfl)))))))
        obtain ⟨y0, y1, y2, y3, y4, y5, y6, y7, y8, y9, y10, y11, y12, y13⟩ := x3.cells
        refine wpW_last (fun QQ hQQ => ?_) (by rfl)
        go_wp2
        (refine hQQ.out _ _ ?_; clear hQQ QQ)
        (repeat (first | (apply wpW_light; (case h => (intro wa; (first | (go_big_quiet_skip; exact wpQuiet_nil rfl) | (go_big_quiet_want; go_big_quiet_op; go_big_quiet_on; exact wpQuiet_nil rfl))))) | (apply wpW_here; (case h => (first | (go_big_quiet_skip; exact wpQuiet_nil rfl) | (go_big_quiet_want; go_big_quiet_op; go_big_quiet_on; exact wpQuiet_nil rfl)))) | (apply wpW_held; (case hC => assumption); (case h => (intro wa hCa; simp only [] at hCa; (first | (go_big_quiet_skip; exact wpQuiet_nil rfl) | (go_big_quiet_want; go_big_quiet_op; go_big_quiet_on; exact wpQuiet_nil rfl)))))))
        refine wpW_nil ?_
        go_wp2_with (fail)
        go_meet
        exact ⟨rfl, below7 H3 gx⟩
    case rest =>
    obtain ⟨rfl, hB2⟩ := hcut
    have hW30 := Go.Lib.hid (hW0.out.trans (hB2.mono hW0.out.size))
    have B30_m := Go.Lib.hid (hBm.out.below hB2 lm0)
    have B30_n := Go.Lib.hid (hBn.out.below hB2 ln0)
    obtain ⟨w30, hw⟩ : ∃ w, w = wc := ⟨_, rfl⟩
    subst hw
    obtain ⟨y0, y1, y2, y3, y4, y5, y6, y7, y8, y9, y10, y11, y12, y13⟩ := B30_m.out.cells
    obtain ⟨z0, z1, z2, z3, z4, z5, z6, z7, z8, z9, z10, z11, z12, z13⟩ := B30_n.out.cells
    clear hB2 hW0 hBm hBn lm0 ln0
    go_wp2_with (first
      | (go_at_call 10; ((with_reducible refine (g14.out _).mono ?_)); rintro e w31 ⟨b31, cp31, a31, ca31, rfl, hr31, hb31⟩; have hWE31 := Go.Lib.hid hW30.out; have hW31 := Go.Lib.hid (hWE31.out.trans (hb31.mono hWE31.out.size)); have R31_e := Go.Lib.hid hr31; clear hr31; have BE31_m := Go.Lib.hid B30_m.out; have B31_m := Go.Lib.hid (BE31_m.out.below hb31 BE31_m.out.lt); obtain ⟨k31m0, k31m1, k31m2, k31m3, k31m4, k31m5, k31m6, k31m7, k31m8, k31m9, k31m10, k31m11, k31m12, k31m13⟩ := B31_m.out.cells; have BE31_n := Go.Lib.hid B30_n.out; have B31_n := Go.Lib.hid (BE31_n.out.below hb31 BE31_n.out.lt); obtain ⟨k31n0, k31n1, k31n2, k31n3, k31n4, k31n5, k31n6, k31n7, k31n8, k31n9, k31n10, k31n11, k31n12, k31n13⟩ := B31_n.out.cells; have l31m := B31_m.out.lt; have n31m : xm ≠ w31.heap.size := (by omega); have l31n := B31_n.out.lt; have n31n : xn ≠ w31.heap.size := (by omega); clear hb31)
      | (go_at_call 10; ((with_reducible refine (g15.out _ _ ?hx).mono ?_)); (case hx => simp); rintro e w32 ⟨b32, cp32, a32, n32, ca32, rfl, hb32⟩; have hWE32 := Go.Lib.hid (hW31.out.alloc hW31.out.size (.cells #[.int .i64 4000, .int .i64 10, .int .i64 10, .int .u64 16384, .int .u64 16384, (.slice b31 0 cp31), .int .i64 0] 29)); have hW32 := Go.Lib.hid (hWE32.out.trans (hb32.mono hWE32.out.size)); have R32_e := Go.Lib.hid ((R31_e.out.below (below1 w31 (.cells #[.int .i64 4000, .int .i64 10, .int .i64 10, .int .u64 16384, .int .u64 16384, (.slice b31 0 cp31), .int .i64 0] 29)) (Nat.le_refl _)).below hb32 (Nat.le_refl _)); have BE32_m := Go.Lib.hid (B31_m.out.alloc (.cells #[.int .i64 4000, .int .i64 10, .int .i64 10, .int .u64 16384, .int .u64 16384, (.slice b31 0 cp31), .int .i64 0] 29)); have B32_m := Go.Lib.hid (BE32_m.out.below hb32 BE32_m.out.lt); obtain ⟨k32m0, k32m1, k32m2, k32m3, k32m4, k32m5, k32m6, k32m7, k32m8, k32m9, k32m10, k32m11, k32m12, k32m13⟩ := B32_m.out.cells; have BE32_n := Go.Lib.hid (B31_n.out.alloc (.cells #[.int .i64 4000, .int .i64 10, .int .i64 10, .int .u64 16384, .int .u64 16384, (.slice b31 0 cp31), .int .i64 0] 29)); have B32_n := Go.Lib.hid (BE32_n.out.below hb32 BE32_n.out.lt); obtain ⟨k32n0, k32n1, k32n2, k32n3, k32n4, k32n5, k32n6, k32n7, k32n8, k32n9, k32n10, k32n11, k32n12, k32n13⟩ := B32_n.out.cells; have BE32_e := Go.Lib.hid (resat1 w31 4000 10 10 16384 16384 (.slice b31 0 cp31) 0); have B32_e := Go.Lib.hid (BE32_e.out.below hb32 BE32_e.out.lt); obtain ⟨k32e0, k32e1, k32e2, k32e3, k32e4, k32e5, k32e6, k32e7, k32e8, k32e9, k32e10, k32e11, k32e12, k32e13⟩ := B32_e.out.cells; have l32m := B32_m.out.lt; have n32m : xm ≠ w32.heap.size := (by omega); have l32n := B32_n.out.lt; have n32n : xn ≠ w32.heap.size := (by omega); have l32e := B32_e.out.lt; have n32e : w31.heap.size ≠ w32.heap.size := (by omega); clear hb32)
      | (go_at_call 10; ((with_reducible refine (g16.out _).mono ?_)); rintro e w33 ⟨b33, cp33, a33, n33, ca33, rfl, hb33⟩; have hWE33 := Go.Lib.hid (hW32.out.alloc hW32.out.size (.cells #[.int .i64 0, .int .i64 0, .int .i64 0, .int .u64 0, .int .u64 0, (.slice b32 0 cp32), .int .i64 0] 29)); have hW33 := Go.Lib.hid (hWE33.out.trans (hb33.mono hWE33.out.size)); have R33_e := Go.Lib.hid ((R32_e.out.below (below1 w32 (.cells #[.int .i64 0, .int .i64 0, .int .i64 0, .int .u64 0, .int .u64 0, (.slice b32 0 cp32), .int .i64 0] 29)) (Nat.le_refl _)).below hb33 (Nat.le_refl _)); have BE33_m := Go.Lib.hid (B32_m.out.alloc (.cells #[.int .i64 0, .int .i64 0, .int .i64 0, .int .u64 0, .int .u64 0, (.slice b32 0 cp32), .int .i64 0] 29)); have B33_m := Go.Lib.hid (BE33_m.out.below hb33 BE33_m.out.lt); obtain ⟨k33m0, k33m1, k33m2, k33m3, k33m4, k33m5, k33m6, k33m7, k33m8, k33m9, k33m10, k33m11, k33m12, k33m13⟩ := B33_m.out.cells; have BE33_n := Go.Lib.hid (B32_n.out.alloc (.cells #[.int .i64 0, .int .i64 0, .int .i64 0, .int .u64 0, .int .u64 0, (.slice b32 0 cp32), .int .i64 0] 29)); have B33_n := Go.Lib.hid (BE33_n.out.below hb33 BE33_n.out.lt); obtain ⟨k33n0, k33n1, k33n2, k33n3, k33n4, k33n5, k33n6, k33n7, k33n8, k33n9, k33n10, k33n11, k33n12, k33n13⟩ := B33_n.out.cells; have BE33_e := Go.Lib.hid (B32_e.out.alloc (.cells #[.int .i64 0, .int .i64 0, .int .i64 0, .int .u64 0, .int .u64 0, (.slice b32 0 cp32), .int .i64 0] 29)); have B33_e := Go.Lib.hid (BE33_e.out.below hb33 BE33_e.out.lt); obtain ⟨k33e0, k33e1, k33e2, k33e3, k33e4, k33e5, k33e6, k33e7, k33e8, k33e9, k33e10, k33e11, k33e12, k33e13⟩ := B33_e.out.cells; have l33m := B33_m.out.lt; have n33m : xm ≠ w33.heap.size := (by omega); have l33n := B33_n.out.lt; have n33n : xn ≠ w33.heap.size := (by omega); have l33e := B33_e.out.lt; have n33e : w31.heap.size ≠ w33.heap.size := (by omega); clear hb33)
      | (go_at_call 9; ((with_reducible refine (t5.out _).mono ?_)); rintro e w34 ⟨rfl, hb34⟩; have hWE34 := Go.Lib.hid (hW33.out.alloc hW33.out.size (.cells #[.int .i64 0, .int .i64 10, .int .i64 10, .int .u64 16384, .int .u64 16384, (.slice b33 0 cp33), .int .i64 0] 29)); have hW34 := Go.Lib.hid (hWE34.out.trans (hb34.mono hWE34.out.size)); have R34_e := Go.Lib.hid ((R33_e.out.below (below1 w33 (.cells #[.int .i64 0, .int .i64 10, .int .i64 10, .int .u64 16384, .int .u64 16384, (.slice b33 0 cp33), .int .i64 0] 29)) (Nat.le_refl _)).below hb34 (Nat.le_refl _)); have BE34_m := Go.Lib.hid (B33_m.out.alloc (.cells #[.int .i64 0, .int .i64 10, .int .i64 10, .int .u64 16384, .int .u64 16384, (.slice b33 0 cp33), .int .i64 0] 29)); have B34_m := Go.Lib.hid (BE34_m.out.below hb34 BE34_m.out.lt); obtain ⟨k34m0, k34m1, k34m2, k34m3, k34m4, k34m5, k34m6, k34m7, k34m8, k34m9, k34m10, k34m11, k34m12, k34m13⟩ := B34_m.out.cells; have BE34_e := Go.Lib.hid (B33_e.out.alloc (.cells #[.int .i64 0, .int .i64 10, .int .i64 10, .int .u64 16384, .int .u64 16384, (.slice b33 0 cp33), .int .i64 0] 29)); have B34_e := Go.Lib.hid (BE34_e.out.below hb34 BE34_e.out.lt); obtain ⟨k34e0, k34e1, k34e2, k34e3, k34e4, k34e5, k34e6, k34e7, k34e8, k34e9, k34e10, k34e11, k34e12, k34e13⟩ := B34_e.out.cells; have l34m := B34_m.out.lt; have n34m : xm ≠ w34.heap.size := (by omega); have l34e := B34_e.out.lt; have n34e : w31.heap.size ≠ w34.heap.size := (by omega); clear hb34)
      | (go_at_call 10; ((with_reducible refine (g18.out _ _ ?hx).mono ?_)); (case hx => simp); rintro e w35 ⟨b35, cp35, a35, ca35, rfl, hr35, hb35⟩; have hWE35 := Go.Lib.hid (hW34.out.alloc hW34.out.size (.cells #[.int .i64 1, .int .i64 10, .int .i64 10, .int .u64 16384, .int .u64 16384, (.slice none 0 0), .int .i64 0] 29)); have hW35 := Go.Lib.hid (hWE35.out.trans (hb35.mono hWE35.out.size)); have R35_e := Go.Lib.hid ((R34_e.out.below (below1 w34 (.cells #[.int .i64 1, .int .i64 10, .int .i64 10, .int .u64 16384, .int .u64 16384, (.slice none 0 0), .int .i64 0] 29)) (Nat.le_refl _)).below hb35 (Nat.le_refl _)); have R35_l := Go.Lib.hid hr35; clear hr35; have BE35_m := Go.Lib.hid (B34_m.out.alloc (.cells #[.int .i64 1, .int .i64 10, .int .i64 10, .int .u64 16384, .int .u64 16384, (.slice none 0 0), .int .i64 0] 29)); have B35_m := Go.Lib.hid (BE35_m.out.below hb35 BE35_m.out.lt); obtain ⟨k35m0, k35m1, k35m2, k35m3, k35m4, k35m5, k35m6, k35m7, k35m8, k35m9, k35m10, k35m11, k35m12, k35m13⟩ := B35_m.out.cells; have BE35_e := Go.Lib.hid (B34_e.out.alloc (.cells #[.int .i64 1, .int .i64 10, .int .i64 10, .int .u64 16384, .int .u64 16384, (.slice none 0 0), .int .i64 0] 29)); have B35_e := Go.Lib.hid (BE35_e.out.below hb35 BE35_e.out.lt); obtain ⟨k35e0, k35e1, k35e2, k35e3, k35e4, k35e5, k35e6, k35e7, k35e8, k35e9, k35e10, k35e11, k35e12, k35e13⟩ := B35_e.out.cells; have BE35_q := Go.Lib.hid (resat1 w34 1 10 10 16384 16384 (.slice none 0 0) 0); have B35_q := Go.Lib.hid (BE35_q.out.below hb35 BE35_q.out.lt); obtain ⟨k35q0, k35q1, k35q2, k35q3, k35q4, k35q5, k35q6, k35q7, k35q8, k35q9, k35q10, k35q11, k35q12, k35q13⟩ := B35_q.out.cells; have l35m := B35_m.out.lt; have n35m : xm ≠ w35.heap.size := (by omega); have l35e := B35_e.out.lt; have n35e : w31.heap.size ≠ w35.heap.size := (by omega); have l35q := B35_q.out.lt; have n35q : w34.heap.size ≠ w35.heap.size := (by omega); clear hb35)
      | (go_at_call 10; ((with_reducible refine (g19.out _ _ ?hx).mono ?_)); (case hx => simp); rintro e w36 ⟨b36, cp36, a36, n36, ca36, rfl, hb36⟩; have hWE36 := Go.Lib.hid (hW35.out.alloc hW35.out.size (.cells #[.int .i64 0, .int .i64 9, .int .i64 10, .int .u64 15360, .int .u64 16384, (.slice b35 1 cp35), .int .i64 5] 29)); have hW36 := Go.Lib.hid (hWE36.out.trans (hb36.mono hWE36.out.size)); have R36_e := Go.Lib.hid ((R35_e.out.below (below1 w35 (.cells #[.int .i64 0, .int .i64 9, .int .i64 10, .int .u64 15360, .int .u64 16384, (.slice b35 1 cp35), .int .i64 5] 29)) (Nat.le_refl _)).below hb36 (Nat.le_refl _)); have R36_l := Go.Lib.hid ((R35_l.out.below (below1 w35 (.cells #[.int .i64 0, .int .i64 9, .int .i64 10, .int .u64 15360, .int .u64 16384, (.slice b35 1 cp35), .int .i64 5] 29)) (Nat.le_refl _)).below hb36 (Nat.le_refl _)); have BE36_m := Go.Lib.hid (B35_m.out.alloc (.cells #[.int .i64 0, .int .i64 9, .int .i64 10, .int .u64 15360, .int .u64 16384, (.slice b35 1 cp35), .int .i64 5] 29)); have B36_m := Go.Lib.hid (BE36_m.out.below hb36 BE36_m.out.lt); obtain ⟨k36m0, k36m1, k36m2, k36m3, k36m4, k36m5, k36m6, k36m7, k36m8, k36m9, k36m10, k36m11, k36m12, k36m13⟩ := B36_m.out.cells; have BE36_e := Go.Lib.hid (B35_e.out.alloc (.cells #[.int .i64 0, .int .i64 9, .int .i64 10, .int .u64 15360, .int .u64 16384, (.slice b35 1 cp35), .int .i64 5] 29)); have B36_e := Go.Lib.hid (BE36_e.out.below hb36 BE36_e.out.lt); obtain ⟨k36e0, k36e1, k36e2, k36e3, k36e4, k36e5, k36e6, k36e7, k36e8, k36e9, k36e10, k36e11, k36e12, k36e13⟩ := B36_e.out.cells; have BE36_q := Go.Lib.hid (B35_q.out.alloc (.cells #[.int .i64 0, .int .i64 9, .int .i64 10, .int .u64 15360, .int .u64 16384, (.slice b35 1 cp35), .int .i64 5] 29)); have B36_q := Go.Lib.hid (BE36_q.out.below hb36 BE36_q.out.lt); obtain ⟨k36q0, k36q1, k36q2, k36q3, k36q4, k36q5, k36q6, k36q7, k36q8, k36q9, k36q10, k36q11, k36q12, k36q13⟩ := B36_q.out.cells; have l36m := B36_m.out.lt; have n36m : xm ≠ w36.heap.size := (by omega); have l36e := B36_e.out.lt; have n36e : w31.heap.size ≠ w36.heap.size := (by omega); have l36q := B36_q.out.lt; have n36q : w34.heap.size ≠ w36.heap.size := (by omega); clear hb36)
      | (go_at_call 10; ((with_reducible refine (g20.out _ _ ?hx).mono ?_)); (case hx => simp); rintro e w37 ⟨b37, cp37, a37, n37, ca37, rfl, hb37⟩; have hWE37 := Go.Lib.hid (hW36.out.alloc hW36.out.size (.cells #[.int .i64 0, .int .i64 0, .int .i64 0, .int .u64 0, .int .u64 0, (.slice b36 0 cp36), .int .i64 0] 29)); have hW37 := Go.Lib.hid (hWE37.out.trans (hb37.mono hWE37.out.size)); have R37_e := Go.Lib.hid ((R36_e.out.below (below1 w36 (.cells #[.int .i64 0, .int .i64 0, .int .i64 0, .int .u64 0, .int .u64 0, (.slice b36 0 cp36), .int .i64 0] 29)) (Nat.le_refl _)).below hb37 (Nat.le_refl _)); have R37_l := Go.Lib.hid ((R36_l.out.below (below1 w36 (.cells #[.int .i64 0, .int .i64 0, .int .i64 0, .int .u64 0, .int .u64 0, (.slice b36 0 cp36), .int .i64 0] 29)) (Nat.le_refl _)).below hb37 (Nat.le_refl _)); have BE37_m := Go.Lib.hid (B36_m.out.alloc (.cells #[.int .i64 0, .int .i64 0, .int .i64 0, .int .u64 0, .int .u64 0, (.slice b36 0 cp36), .int .i64 0] 29)); have B37_m := Go.Lib.hid (BE37_m.out.below hb37 BE37_m.out.lt); obtain ⟨k37m0, k37m1, k37m2, k37m3, k37m4, k37m5, k37m6, k37m7, k37m8, k37m9, k37m10, k37m11, k37m12, k37m13⟩ := B37_m.out.cells; have BE37_e := Go.Lib.hid (B36_e.out.alloc (.cells #[.int .i64 0, .int .i64 0, .int .i64 0, .int .u64 0, .int .u64 0, (.slice b36 0 cp36), .int .i64 0] 29)); have B37_e := Go.Lib.hid (BE37_e.out.below hb37 BE37_e.out.lt); obtain ⟨k37e0, k37e1, k37e2, k37e3, k37e4, k37e5, k37e6, k37e7, k37e8, k37e9, k37e10, k37e11, k37e12, k37e13⟩ := B37_e.out.cells; have BE37_q := Go.Lib.hid (B36_q.out.alloc (.cells #[.int .i64 0, .int .i64 0, .int .i64 0, .int .u64 0, .int .u64 0, (.slice b36 0 cp36), .int .i64 0] 29)); have B37_q := Go.Lib.hid (BE37_q.out.below hb37 BE37_q.out.lt); obtain ⟨k37q0, k37q1, k37q2, k37q3, k37q4, k37q5, k37q6, k37q7, k37q8, k37q9, k37q10, k37q11, k37q12, k37q13⟩ := B37_q.out.cells; have l37m := B37_m.out.lt; have n37m : xm ≠ w37.heap.size := (by omega); have l37e := B37_e.out.lt; have n37e : w31.heap.size ≠ w37.heap.size := (by omega); have l37q := B37_q.out.lt; have n37q : w34.heap.size ≠ w37.heap.size := (by omega); clear hb37)
      | (go_at_call 10; ((with_reducible refine (g21.out _ _ ?hx).mono ?_)); (case hx => simp); rintro e w38 ⟨b38, cp38, a38, n38, ca38, rfl, hb38⟩; have hWE38 := Go.Lib.hid (hW37.out.alloc hW37.out.size (.cells #[.int .i64 0, .int .i64 0, .int .i64 0, .int .u64 0, .int .u64 0, (.slice b37 0 cp37), .int .i64 0] 29)); have hW38 := Go.Lib.hid (hWE38.out.trans (hb38.mono hWE38.out.size)); have R38_e := Go.Lib.hid ((R37_e.out.below (below1 w37 (.cells #[.int .i64 0, .int .i64 0, .int .i64 0, .int .u64 0, .int .u64 0, (.slice b37 0 cp37), .int .i64 0] 29)) (Nat.le_refl _)).below hb38 (Nat.le_refl _)); have R38_l := Go.Lib.hid ((R37_l.out.below (below1 w37 (.cells #[.int .i64 0, .int .i64 0, .int .i64 0, .int .u64 0, .int .u64 0, (.slice b37 0 cp37), .int .i64 0] 29)) (Nat.le_refl _)).below hb38 (Nat.le_refl _)); have BE38_m := Go.Lib.hid (B37_m.out.alloc (.cells #[.int .i64 0, .int .i64 0, .int .i64 0, .int .u64 0, .int .u64 0, (.slice b37 0 cp37), .int .i64 0] 29)); have B38_m := Go.Lib.hid (BE38_m.out.below hb38 BE38_m.out.lt); obtain ⟨k38m0, k38m1, k38m2, k38m3, k38m4, k38m5, k38m6, k38m7, k38m8, k38m9, k38m10, k38m11, k38m12, k38m13⟩ := B38_m.out.cells; have BE38_e := Go.Lib.hid (B37_e.out.alloc (.cells #[.int .i64 0, .int .i64 0, .int .i64 0, .int .u64 0, .int .u64 0, (.slice b37 0 cp37), .int .i64 0] 29)); have B38_e := Go.Lib.hid (BE38_e.out.below hb38 BE38_e.out.lt); obtain ⟨k38e0, k38e1, k38e2, k38e3, k38e4, k38e5, k38e6, k38e7, k38e8, k38e9, k38e10, k38e11, k38e12, k38e13⟩ := B38_e.out.cells; have BE38_q := Go.Lib.hid (B37_q.out.alloc (.cells #[.int .i64 0, .int .i64 0, .int .i64 0, .int .u64 0, .int .u64 0, (.slice b37 0 cp37), .int .i64 0] 29)); have B38_q := Go.Lib.hid (BE38_q.out.below hb38 BE38_q.out.lt); obtain ⟨k38q0, k38q1, k38q2, k38q3, k38q4, k38q5, k38q6, k38q7, k38q8, k38q9, k38q10, k38q11, k38q12, k38q13⟩ := B38_q.out.cells; have l38m := B38_m.out.lt; have n38m : xm ≠ w38.heap.size := (by omega); have l38e := B38_e.out.lt; have n38e : w31.heap.size ≠ w38.heap.size := (by omega); have l38q := B38_q.out.lt; have n38q : w34.heap.size ≠ w38.heap.size := (by omega); clear hb38)
      | (go_at_call 12; ((with_reducible refine (sm.out _ _ _ ?h1).mono ?_)); (case h1 => exact (R38_e.out.below (below1 w38 (.cells #[.int .i64 1, .int .i64 10, .int .i64 10, .int .u64 16384, .int .u64 16384, (.slice b38 10 cp38), .int .i64 80] 29)) (Nat.le_refl _))); rintro e w39 ⟨rfl, hb39⟩; have hWE39 := Go.Lib.hid (hW38.out.alloc hW38.out.size (.cells #[.int .i64 1, .int .i64 10, .int .i64 10, .int .u64 16384, .int .u64 16384, (.slice b38 10 cp38), .int .i64 80] 29)); have hW39 := Go.Lib.hid (hWE39.out.trans (hb39.mono hWE39.out.size)); have R39_e := Go.Lib.hid ((R38_e.out.below (below1 w38 (.cells #[.int .i64 1, .int .i64 10, .int .i64 10, .int .u64 16384, .int .u64 16384, (.slice b38 10 cp38), .int .i64 80] 29)) (Nat.le_refl _)).below hb39 (Nat.le_refl _)); have R39_l := Go.Lib.hid ((R38_l.out.below (below1 w38 (.cells #[.int .i64 1, .int .i64 10, .int .i64 10, .int .u64 16384, .int .u64 16384, (.slice b38 10 cp38), .int .i64 80] 29)) (Nat.le_refl _)).below hb39 (Nat.le_refl _)); have BE39_m := Go.Lib.hid (B38_m.out.alloc (.cells #[.int .i64 1, .int .i64 10, .int .i64 10, .int .u64 16384, .int .u64 16384, (.slice b38 10 cp38), .int .i64 80] 29)); have B39_m := Go.Lib.hid (BE39_m.out.below hb39 BE39_m.out.lt); obtain ⟨k39m0, k39m1, k39m2, k39m3, k39m4, k39m5, k39m6, k39m7, k39m8, k39m9, k39m10, k39m11, k39m12, k39m13⟩ := B39_m.out.cells; have BE39_e := Go.Lib.hid (B38_e.out.alloc (.cells #[.int .i64 1, .int .i64 10, .int .i64 10, .int .u64 16384, .int .u64 16384, (.slice b38 10 cp38), .int .i64 80] 29)); have B39_e := Go.Lib.hid (BE39_e.out.below hb39 BE39_e.out.lt); obtain ⟨k39e0, k39e1, k39e2, k39e3, k39e4, k39e5, k39e6, k39e7, k39e8, k39e9, k39e10, k39e11, k39e12, k39e13⟩ := B39_e.out.cells; clear hb39)
      | (go_at_call 13; ((with_reducible refine (s3.out _ _ _ _ ?hx ?h1).mono ?_)); (case hx => simp); (case h1 => exact R39_l.out); rintro e w40 ⟨rfl, hb40⟩; have hWE40 := Go.Lib.hid hW39.out; have hW40 := Go.Lib.hid (hWE40.out.trans (hb40.mono hWE40.out.size)); have R40_e := Go.Lib.hid (R39_e.out.below hb40 (Nat.le_refl _)); have R40_l := Go.Lib.hid (R39_l.out.below hb40 (Nat.le_refl _)); have BE40_m := Go.Lib.hid B39_m.out; have B40_m := Go.Lib.hid (BE40_m.out.below hb40 BE40_m.out.lt); obtain ⟨k40m0, k40m1, k40m2, k40m3, k40m4, k40m5, k40m6, k40m7, k40m8, k40m9, k40m10, k40m11, k40m12, k40m13⟩ := B40_m.out.cells; have BE40_e := Go.Lib.hid B39_e.out; have B40_e := Go.Lib.hid (BE40_e.out.below hb40 BE40_e.out.lt); obtain ⟨k40e0, k40e1, k40e2, k40e3, k40e4, k40e5, k40e6, k40e7, k40e8, k40e9, k40e10, k40e11, k40e12, k40e13⟩ := B40_e.out.cells; clear hb40)
      | (go_at_call 14; refine (alive10_ok _).mono ?_; rintro e w41 ⟨rfl, hb41⟩; have hWE41 := Go.Lib.hid hW40.out; have hW41 := Go.Lib.hid (hWE41.out.trans (hb41.mono hWE41.out.size)); clear hb41))
    go_ret
    exact ⟨rfl, hW41.out⟩

theorem resumeNames_walk (W : World) :
    Calls Try.prog 3 #[] W fun e w' => e = .returned (.bool true) ∧ Below W.heap.size W w' :=
  resumeNames_in W 41001 rfl
end Go.Proofs.Ytcodofmghbgoeaa

