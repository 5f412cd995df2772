/- Texts of the proof, one behind the other: DuaM, RegY, DuaN. -/
import Derived.Test.YtenkhnlhoeahkaaZ7
import Derived.Deep.DeepCutAuto
/- The chapter's examples of dual. -/
namespace Go.Proofs.Ytenkhnlhoeahkaa
open Go.RowKit Cad

theorem duat2 (w : World) (o : Obj) (a b c d : Int) : DuAt ((w.alloc o).alloc (.cells #[.int .i64 a, .int .i64 b, .int .u64 c, .int .u64 d] 30)) (w.heap.size + 1) a b c d := by
  unfold DuAt; rw [heap_alloc2_new]
def D8 : Du := ⟨10, 10, 16384, 16384⟩
theorem d8_ok : D8.ok := ⟨by decide, by decide, by decide, by decide⟩

set_option maxRecDepth 100000 in
set_option maxHeartbeats 1000000 in
theorem alive8_ok (W : World) : Calls Try.prog 17 #[] W fun e W' => e = .returned (.bool true) ∧ Below W.heap.size W W' := by
  have t0 : strOfNums [65, 15] = ⟨#[65, 15]⟩ := rfl
  have st := Go.Lib.hid fun w => Dstart_ok w
  have ln : Hid (∀ w, Calls Try.prog 12 #[.agg #[.int .i64 10, .int .i64 10, .int .u64 16384, .int .u64 16384], .int .u32 5] w fun e W' => e = .returned (.tuple #[.int .i64 11, .int .i64 0]) ∧ Below w.heap.size w W') := Go.Lib.hid fun w => DLength_ok w D8 5 d8_ok (by decide)
  have le : Hid (∀ w, Calls Try.prog 11 #[.agg #[.int .i64 10, .int .i64 10, .int .u64 16384, .int .u64 16384], .int .u32 5] w fun e W' => e = .returned (.tuple #[.agg #[.int .i64 9, .int .i64 10, .int .u64 15365, .int .u64 16384], .int .i64 0]) ∧ Below w.heap.size w W') := Go.Lib.hid fun w => DLearn_ok w D8 5 d8_ok (by decide)
  have wr : Hid (∀ w, ResD 13 #[.agg #[.slice none 0 0, .int .i64 0], .agg #[.int .i64 10, .int .i64 10, .int .u64 16384, .int .u64 16384], .int .u32 2000] w 2 [65, 15] 12 10 9 17360 16336 0) := Go.Lib.hid fun w =>
    DWrite_alone w D8 2000 d8_ok (by decide) 12 2 (by decide) (by decide) [65, 15] (by rfl) ⟨10, 9, 17360, 16336⟩ (by rfl)
  unfold ResD at wr
  have q1 := sameD_self 9 10 15365 16384
  have q2 := sameD_self 10 9 17360 16336
  have hWE0 := Go.Lib.hid (Below.refl W.heap.size W)
  go_enter Try.func17, Try.ntmps17
  go_wp2_with (first
    | (go_at_call 23; ((with_reducible refine (st.out _).mono ?_)); rintro e w1 ⟨rfl, hb1⟩; have hWE1 := Go.Lib.hid hWE0.out; have hW1 := Go.Lib.hid (hWE1.out.trans (hb1.mono hWE1.out.size)); clear hb1)
    | (go_at_call 12; ((with_reducible refine (ln.out _).mono ?_)); rintro e w2 ⟨rfl, hb2⟩; have hWE2 := Go.Lib.hid (hW1.out.alloc hW1.out.size (.cells #[.int .i64 10, .int .i64 10, .int .u64 16384, .int .u64 16384] 30)); have hW2 := Go.Lib.hid (hWE2.out.trans (hb2.mono hWE2.out.size)); have BE2_d := Go.Lib.hid (duat1 w1 10 10 16384 16384); have B2_d := Go.Lib.hid (BE2_d.out.below hb2 BE2_d.out.lt); obtain ⟨k2d0, k2d1, k2d2, k2d3, k2d4, k2d5, k2d6, k2d7⟩ := B2_d.out.cells; clear hb2)
    | (go_at_call 11; ((with_reducible refine (le.out _).mono ?_)); rintro e w3 ⟨rfl, hb3⟩; have hWE3 := Go.Lib.hid hW2.out; have hW3 := Go.Lib.hid (hWE3.out.trans (hb3.mono hWE3.out.size)); have BE3_d := Go.Lib.hid B2_d.out; have B3_d := Go.Lib.hid (BE3_d.out.below hb3 BE3_d.out.lt); obtain ⟨k3d0, k3d1, k3d2, k3d3, k3d4, k3d5, k3d6, k3d7⟩ := B3_d.out.cells; have l3d := B3_d.out.lt; have n3d : w1.heap.size ≠ w3.heap.size := (by omega); clear hb3)
    | (go_at_call 13; ((with_reducible refine (wr.out _).mono ?_)); rintro e w4 ⟨b4, cp4, rfl, hr4, hb4⟩; have hWE4 := Go.Lib.hid (hW3.out.alloc hW3.out.size (.cells #[.int .i64 9, .int .i64 10, .int .u64 15365, .int .u64 16384] 30)); have hW4 := Go.Lib.hid (hWE4.out.trans (hb4.mono hWE4.out.size)); have R4_b := Go.Lib.hid hr4; clear hr4; have BE4_d := Go.Lib.hid (B3_d.out.alloc (.cells #[.int .i64 9, .int .i64 10, .int .u64 15365, .int .u64 16384] 30)); have B4_d := Go.Lib.hid (BE4_d.out.below hb4 BE4_d.out.lt); obtain ⟨k4d0, k4d1, k4d2, k4d3, k4d4, k4d5, k4d6, k4d7⟩ := B4_d.out.cells; have BE4_x := Go.Lib.hid (duat1 w3 9 10 15365 16384); have B4_x := Go.Lib.hid (BE4_x.out.below hb4 BE4_x.out.lt); obtain ⟨k4x0, k4x1, k4x2, k4x3, k4x4, k4x5, k4x6, k4x7⟩ := B4_x.out.cells; have l4d := B4_d.out.lt; have n4d : w1.heap.size ≠ w4.heap.size := (by omega); have o4d : w1.heap.size ≠ w4.heap.size + 1 := (by omega); have l4x := B4_x.out.lt; have n4x : w3.heap.size ≠ w4.heap.size := (by omega); have o4x : w3.heap.size ≠ w4.heap.size + 1 := (by omega); have sx := (R4_b.out.below ((below1 w4 (.cells #[.slice b4 2 cp4, .int .i64 12] 24)).alloc (below1 w4 (.cells #[.slice b4 2 cp4, .int .i64 12] 24)).size (.cells #[.int .i64 10, .int .i64 9, .int .u64 17360, .int .u64 16336] 30)) (Nat.le_refl _)).str (P := Try.prog) Try.underlying22 Try.underlying5 Try.underlying9; rw [t0] at sx; clear hb4))
  go_ret
  exact ⟨rfl, ((hW4.out.alloc hW4.out.size (.cells #[(.slice b4 2 cp4), .int .i64 12] 24)).alloc (hW4.out.alloc hW4.out.size (.cells #[(.slice b4 2 cp4), .int .i64 12] 24)).size (.cells #[.int .i64 10, .int .i64 9, .int .u64 17360, .int .u64 16336] 30))⟩
end Go.Proofs.Ytenkhnlhoeahkaa

/- A region that draws its order: three that act and are not ordered; the world behind an act by a name. No Go function in sight. -/
namespace Go.Proofs.Ytenkhnlhoeahkaa
open Go.RowKit

section
variable {P : Program} {ops : Array Oper} {C : World → Prop} {Q : Exit → Act → World → Prop}

theorem wpW_name {R : List (Nat × Oper)} {a : Act} {w : World} (h : ∀ w', w' = w → wpW P ops C Q R a w') : wpW P ops C Q R a w := h w rfl

/-- three that act, x, y and z, are not ordered: six orders: xyz, xzy, zxy, yxz, yzx, zyx -/
theorem wp_region_ord6 {id : Nat} {l : List Oper} {a : Act} {w : World} (C : World → Prop) (x y z : Nat) (R1 R2 R3 R4 R5 R6 : List (Nat × Nat)) (hm : P.follows .mixedOrders = true) (hxy : x ≠ y ∧ y ≠ z ∧ x ≠ z ∧ x < l.length ∧ y < l.length ∧ z < l.length)
    (h1 : ordB l [(z, y), (y, x)] R1 = true) (h2 : ordB l [(z, x), (y, z), (y, x)] R2 = true) (h3 : ordB l [(x, z), (y, z), (y, x)] R3 = true)
    (h4 : ordB l [(z, x), (x, y)] R4 = true) (h5 : ordB l [(z, y), (x, z), (x, y)] R5 = true) (h6 : ordB l [(y, z), (x, z), (x, y)] R6 = true) (hC : C w.drew)
    (g1 : wpW P l.toArray C (NoPanic Q) (pick l R1) a w.drew) (g2 : wpW P l.toArray C (NoPanic Q) (pick l R2) a w.drew) (g3 : wpW P l.toArray C (NoPanic Q) (pick l R3) a w.drew)
    (g4 : wpW P l.toArray C (NoPanic Q) (pick l R4) a w.drew) (g5 : wpW P l.toArray C (NoPanic Q) (pick l R5) a w.drew) (g6 : wpW P l.toArray C (NoPanic Q) (pick l R6) a w.drew) : (Code.region id l.toArray true).wp P Q a w := by
  refine wp_region_noPanic (wp_region_draw fun t => ?_)
  simp only [Region.schedule, hm, Bool.true_or, if_true]
  obtain ⟨n1, n2, n3, l1, l2, l3⟩ := hxy
  have sz : (Array.replicate l.toArray.size false).size = l.toArray.size := by simp
  have b1 : x < l.toArray.size := by simpa using l1
  have b2 : y < l.toArray.size := by simpa using l2
  have b3 : z < l.toArray.size := by simpa using l3
  rcases lin_split (ops := l.toArray) n1 _ _ sz b1 b2 (lin_all t) with hA | hB
  · rcases lin_split (ops := l.toArray) n2 _ _ sz b2 b3 hA with h | h
    · exact wpOps_of_ord R1 h1 hC _ h g1
    · rcases lin_split (ops := l.toArray) n3 _ _ sz b1 b3 h with h | h
      · exact wpOps_of_ord R2 h2 hC _ h g2
      · exact wpOps_of_ord R3 h3 hC _ h g3
  · rcases lin_split (ops := l.toArray) n3 _ _ sz b1 b3 hB with h | h
    · exact wpOps_of_ord R4 h4 hC _ h g4
    · rcases lin_split (ops := l.toArray) n2 _ _ sz b2 b3 h with h | h
      · exact wpOps_of_ord R5 h5 hC _ h g5
      · exact wpOps_of_ord R6 h6 hC _ h g6
end
end Go.Proofs.Ytenkhnlhoeahkaa

/- What a world holds while codes of dual are written behind each other. -/
namespace Go.Proofs.Ytenkhnlhoeahkaa
open Go.RowKit Cad

/-- numbers stay where a variable that holds bits is written -/
theorem Row.boxU {w : World} {a a' : Option Addr} {len cap n' c' : Nat} {l : List Int} {x : Nat} {N : Int} (h : Row .u32 w a len cap l) (hx : BoxAt w x (.slice a' n' c') N) (o : Nat) (u : Value) : Row .u32 (w.setCell ⟨x, o, none⟩ u) a len cap l := by
  refine ⟨h.hlen, h.hcap, h.hmax, h.wf, fun hp => ?_, h.nil⟩
  obtain ⟨b, off, rfl, hlt, hc⟩ := h.cells hp
  have hne : b ≠ x := by
    rintro rfl
    have h0 := hc 0 hp
    unfold World.cell? at h0
    unfold BoxAt at hx
    rw [hx] at h0
    match off, h0 with
    | 0, h0 => simp at h0
    | 1, h0 => simp at h0
    | off + 2, h0 => simp at h0
  refine ⟨b, off, rfl, by simpa using hlt, fun i hi => ?_⟩
  rw [← hc i hi]
  unfold World.cell?
  rw [Below.heap_setCell _ _ _ _ (by simpa using hne)]

structure SidesAt (W : World) (aa : Option Addr) (len cap : Nat) (N : Int) (D : Du) (al : Option Addr) (ll cl : Nat) (l : List Int) (xb xn : Nat) (w : World) (au : Option Addr) (L cu : Nat) (M : Int) (X : List Bool) (E : Du) : Prop where
  f : BoxAt w W.heap.size (.slice aa len cap) N
  d : DuAt w (W.heap.size + 1) D.k0 D.k1 D.s0 D.s1
  b : BoxAt w xb (.slice au L cu) M
  n : DuAt w xn E.k0 E.k1 E.s0 E.s1
  r : Row .u8 w au L cu (pack X)
  l : Row .u32 w al ll cl l
  w : Below W.heap.size W w
section
variable {W : World} {aa : Option Addr} {len cap : Nat} {N : Int} {D : Du} {al : Option Addr} {ll cl : Nat} {l : List Int} {xb xn : Nat} {w w' : World} {au : Option Addr} {L cu : Nat} {M : Int} {X : List Bool} {E : Du}
theorem SidesAt.below (h : SidesAt W aa len cap N D al ll cl l xb xn w au L cu M X E) (hb : Below w.heap.size w w') : SidesAt W aa len cap N D al ll cl l xb xn w' au L cu M X E :=
  ⟨h.f.below hb h.f.lt, h.d.below hb h.d.lt, h.b.below hb h.b.lt, h.n.below hb h.n.lt, h.r.below hb (Nat.le_refl _), h.l.below hb (Nat.le_refl _), h.w.trans (hb.mono h.w.size)⟩
/-- both variables are written -/
theorem SidesAt.next (h : SidesAt W aa len cap N D al ll cl l xb xn w au L cu M X E) (h1 : W.heap.size + 1 < xb) (h2 : W.heap.size + 1 < xn) (hne : xb ≠ xn) {b' : Option Addr} {L' c' : Nat} {M' : Int} {X' : List Bool} (E' : Du) (hr : Row .u8 w b' L' c' (pack X')) :
    SidesAt W aa len cap N D al ll cl l xb xn ((((((w.setCell ⟨xb, 0, none⟩ (.slice b' L' c')).setCell ⟨xb, 1, none⟩ (.int .i64 M')).setCell ⟨xn, 0, none⟩ (.int .i64 E'.k0)).setCell ⟨xn, 1, none⟩ (.int .i64 E'.k1)).setCell ⟨xn, 2, none⟩ (.int .u64 E'.s0)).setCell ⟨xn, 3, none⟩ (.int .u64 E'.s1)) b' L' c' M' X' E' := by
  obtain ⟨o1, o2, o3, o4⟩ := outs h.b h.n hne b' L' c' M' E'.k0 E'.k1 E'.s0 E'.s1
  have hp2 := (h.n.other (p := ⟨xb, 0, none⟩) hne.symm (.slice b' L' c')).other (p := ⟨xb, 1, none⟩) hne.symm (.int .i64 M')
  refine ⟨?_, ?_, o1, o2, o4 hr, ?_, o3 h.w (by omega) (by omega)⟩
  · exact (((((h.f.other (by simp; omega) _).other (by simp; omega) _).other (by simp; omega) _).other (by simp; omega) _).other (by simp; omega) _).other (by simp; omega) _
  · exact (((((h.d.other (by simp; omega) _).other (by simp; omega) _).other (by simp; omega) _).other (by simp; omega) _).other (by simp; omega) _).other (by simp; omega) _
  · have r1 := (h.l.boxU h.b 0 (.slice b' L' c')).boxU (h.b.set0 _) 1 (.int .i64 M')
    exact (((r1.boxD (.inr rfl) hp2 0 _).boxD (.inr rfl) (hp2.set0 _) 1 _).boxD (.inr rfl) ((hp2.set0 _).set1 _) 2 _).boxD (.inr rfl) (((hp2.set0 _).set1 _).set2 _) 3 _
end
end Go.Proofs.Ytenkhnlhoeahkaa
