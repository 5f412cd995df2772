/-
  The law 'cadenza/cadenzalaw10.ResumeBytes' returns true for every input, and every argument reads behind the call as it read before.
  The walk: 'resumeBytes_walk'.
-/
import Derived.Test.YtcodofmghbgoeaaRows
import Derived.WalkKit
import Derived.ProofKit
import Derived.OpenShut
import Derived.ShutString
import Derived.ChangeOld
import Derived.Below
import Derived.Lib.SmallJoins
import Derived.Carry
import Derived.Test.YtcodofmghbgoeaaResBytesWZ
namespace Go.Proofs.Ytcodofmghbgoeaa.resumeBytes
open Go.ChangeShapes Go.WideShapes Go.ChangeAt Go.RowKit
open Go.ChangeMaps (open_string shut_string)
set_option linter.unusedVariables false

theorem own : ownKnob Try.prog.godebug = none := by kernel_rfl
theorem laidOut : laidOutB Try.prog = true := by kernel_rfl
theorem array7 {α : Type} {cs : Array α} (h : cs.size = 7) : ∃ c0 c1 c2 c3 c4 c5 c6, cs = #[c0, c1, c2, c3, c4, c5, c6] := by
  obtain ⟨l⟩ := cs
  match l, h with
  | [c0, c1, c2, c3, c4, c5, c6], _ => exact ⟨c0, c1, c2, c3, c4, c5, c6, rfl⟩
theorem cells3 : Try.prog.cellsOf 3 = 1 := by kernel_rfl
theorem cells22 : Try.prog.cellsOf 22 = 1 := by kernel_rfl
theorem cells24 : Try.prog.cellsOf 24 = 4 := by kernel_rfl
theorem cells25 : Try.prog.cellsOf 25 = 1 := by kernel_rfl
theorem cells27 : Try.prog.cellsOf 27 = 2 := by kernel_rfl
theorem cells29 : Try.prog.cellsOf 29 = 7 := by kernel_rfl

theorem walk (x0_0 : Int) (x0_1 : Int) (x0_2 : Int) (x0_3 : Int) (x0_4 : Int) (ax0_5 : Option Addr) (lenx0_5 capx0_5 : Nat) (zx0_5 : List Int) (x0_6 : Int) (ax1 : Option Addr) (lenx1 capx1 : Nat) (zx1 : List Int) (W : World) (wx0_0 : (Lit.int .i64 x0_0).wf = true) (wx0_1 : (Lit.int .i64 x0_1).wf = true) (wx0_2 : (Lit.int .i64 x0_2).wf = true) (wx0_3 : (Lit.int .u64 x0_3).wf = true) (wx0_4 : (Lit.int .u64 x0_4).wf = true) (wx0_5 : IsRow .u8 W ax0_5 lenx0_5 capx0_5 zx0_5) (wx0_6 : (Lit.int .i64 x0_6).wf = true) (wx1 : IsRow .u8 W ax1 lenx1 capx1 zx1) :
    Calls Try.prog 6 #[.agg #[.int .i64 x0_0, .int .i64 x0_1, .int .i64 x0_2, .int .u64 x0_3, .int .u64 x0_4, .slice ax0_5 lenx0_5 capx0_5, .int .i64 x0_6], .slice ax1 lenx1 capx1] W fun e w' => e = .returned (.bool true) ∧ Below W.heap.size W w' :=
  resumeBytes_walk x0_0 x0_1 x0_2 x0_3 x0_4 ax0_5 lenx0_5 capx0_5 zx0_5 x0_6 ax1 lenx1 capx1 zx1 W wx0_0 wx0_1 wx0_2 wx0_3 wx0_4 wx0_5 wx0_6 wx1

set_option maxRecDepth 100000 in
theorem lifted (os : Os) (started : os.Started) (H : Type) (enc : TypeId × Value → H) :
    ReturnsInHanded {} Try.checked os 6 .any (Rows.resumeBytesSpec.pre6 enc Try.prog Try.f6 Rows.resumeBytesRow.domain false) (Rows.resumeBytesSpec.post enc Try.prog Try.f6 false true false false) := by
  refine returnsInHanded_of_change (C := Try.checked) own started (by kernel_rfl) Try.func6
    (ChangeSpec.witness6 (enc := enc) (C := Try.checked) false ⟨#[], #[.agg #[.int .i64 0, .int .i64 0, .int .i64 0, .int .u64 0, .int .u64 0, .slice none 0 0, .int .i64 0], .slice none 0 0], []⟩ 8 (by kernel_rfl) (by kernel_rfl) (by kernel_rfl) (by kernel_rfl)) ?_
  intro W base args ds gs before hval0 hW hcnd _
  have hval : ∀ (j : Nat) t v, Try.f6.params[j]? = some t → args[j]? = some v → Value.okWide Try.prog W .any base t v := hval0
  have hW' := hW
  obtain ⟨p, q, hA0, hV, rfl, hfz, hnd⟩ := hW
  have hA : DataW.TrodAll enc Try.prog W 0 (fun _ => true) true Try.f6.params.toList args.toList ds p := hA0
  rw [Try.params6] at hA hval
  obtain ⟨v0, vs0, d0, ds0, p0, q0, hargs, rfl, rfl, h0, r0⟩ := trodAll_cons hA
  obtain ⟨v1, vs1, d1, ds1, p1, q1, rfl, rfl, rfl, h1, r1⟩ := trodAll_cons r0
  obtain ⟨rfl, rfl, rfl⟩ := trodAll_nil r1
  obtain rfl : args = #[v0, v1] := by cases args; simp_all
  obtain ⟨rfl, rfl⟩ := trodVars_none hV
  have k0 := h0
  have lt0 : ∀ x ∈ p0, x.block < W.heap.size := by obtain ⟨m, hm⟩ := k0; exact DataW.trod_lt m _ _ _ hm
  obtain ⟨cs0, rfl, hsz0⟩ := okWide_struct Try.underlying29 (hval 0 29 v0 rfl rfl)
  obtain ⟨c0_0, c0_1, c0_2, c0_3, c0_4, c0_5, c0_6, rfl⟩ := array7 (hsz0.trans cells29)
  obtain ⟨fuel0, hf0⟩ := h0
  obtain ⟨y0_0, y0_1, y0_2, n0_, hx0_, -, g0_0, g0_1, g0_2⟩ := Go.Deep.trod_struct3 Try.underlying29 hf0
  simp [Value.cells, cells3] at g0_0
  simp [Value.cells, cells24] at g0_1
  obtain ⟨y0_1_0, y0_1_1, y0_1_2, y0_1_3, n0_1_, hx0_1_, -, g0_1_0, g0_1_1, g0_1_2, g0_1_3⟩ := Joins.trod_struct4 Try.underlying24 g0_1
  simp [cells3] at g0_1_0
  simp [cells3] at g0_1_1
  simp [cells22] at g0_1_2
  simp [cells22] at g0_1_3
  simp [Value.cells, cells27] at g0_2
  obtain ⟨y0_2_0, y0_2_1, n0_2_, hx0_2_, -, g0_2_0, g0_2_1⟩ := trod_struct2 Try.underlying27 g0_2
  simp [cells25] at g0_2_0
  simp [cells3] at g0_2_1
  obtain ⟨x0_0, ex0_0, -, wx0_0⟩ := DataW.trod_int Try.underlying3 g0_0
  simp at ex0_0
  subst ex0_0
  obtain ⟨x0_1, ex0_1, -, wx0_1⟩ := DataW.trod_int Try.underlying3 g0_1_0
  simp at ex0_1
  subst ex0_1
  obtain ⟨x0_2, ex0_2, -, wx0_2⟩ := DataW.trod_int Try.underlying3 g0_1_1
  simp at ex0_2
  subst ex0_2
  obtain ⟨x0_3, ex0_3, -, wx0_3⟩ := DataW.trod_int Try.underlying22 g0_1_2
  simp at ex0_3
  subst ex0_3
  obtain ⟨x0_4, ex0_4, -, wx0_4⟩ := DataW.trod_int Try.underlying22 g0_1_3
  simp at ex0_4
  subst ex0_4
  obtain ⟨ax0_5, lenx0_5, capx0_5, ex0_5⟩ := Joins.slice_form Try.underlying25 g0_2_0
  simp at ex0_5
  subst ex0_5
  obtain ⟨zx0_5, wx0_5⟩ : ∃ zs, IsRow .u8 W ax0_5 lenx0_5 capx0_5 zs := by
    rcases open_ints Try.underlying25 Try.underlying5 (by kernel_rfl) g0_2_0 with ⟨hcs, _⟩ | ⟨x, l, c, zs, hcs, _, hl, hm, hz, _, hcell, hwz⟩
    · simp at hcs
      obtain ⟨rfl, rfl, rfl⟩ := hcs
      exact ⟨[], .inl ⟨rfl, rfl, rfl, rfl⟩⟩
    · simp at hcs
      obtain ⟨rfl, rfl, rfl⟩ := hcs
      exact ⟨zs, .inr ⟨_, rfl, hl, hm, by simpa using hz, hcell, hwz⟩⟩
  obtain ⟨x0_6, ex0_6, -, wx0_6⟩ := DataW.trod_int Try.underlying3 g0_2_1
  simp at ex0_6
  subst ex0_6
  obtain ⟨ax1, lenx1, capx1, rfl⟩ := okWide_slice Try.underlying25 (hval 1 25 v1 rfl rfl)
  have k1 := h1
  have lt1 : ∀ x ∈ p1, x.block < W.heap.size := by obtain ⟨m, hm⟩ := k1; exact DataW.trod_lt m _ _ _ hm
  obtain ⟨zx1, wx1⟩ : ∃ zs, IsRow .u8 W ax1 lenx1 capx1 zs := by
    obtain ⟨fuel, hf⟩ := h1
    rcases open_ints Try.underlying25 Try.underlying5 (by kernel_rfl) hf with ⟨hcs, _⟩ | ⟨x, l, c, zs, hcs, _, hl, hm, hz, _, hcell, hwz⟩
    · simp [Value.cells] at hcs
      obtain ⟨rfl, rfl, rfl⟩ := hcs
      exact ⟨[], .inl ⟨rfl, rfl, rfl, rfl⟩⟩
    · simp [Value.cells] at hcs
      obtain ⟨rfl, rfl, rfl⟩ := hcs
      exact ⟨zs, .inr ⟨_, rfl, hl, hm, by simpa using hz, hcell, hwz⟩⟩
  clear hA0 hval0
  refine (walk x0_0 x0_1 x0_2 x0_3 x0_4 ax0_5 lenx0_5 capx0_5 zx0_5 x0_6 ax1 lenx1 capx1 zx1 W wx0_0 wx0_1 wx0_2 wx0_3 wx0_4 wx0_5 wx0_6 wx1).mono fun e W' ⟨he, bel⟩ => ?_
  subst he
  exact ⟨_, rfl, _, _, _, [], _, [], hW', trodAll_mk1 (shut_bool Try.underlying4 _), (trodAll_cons_mk (Below.trod laidOut (by kernel_rfl) (of_decide_eq_true (by kernel_rfl)) k0 bel lt0) (trodAll_cons_mk (Below.trod laidOut (by kernel_rfl) (of_decide_eq_true (by kernel_rfl)) k1 bel lt1) trodAll_mk0)), rfl, bel.frame _, fun h => by cases h⟩

theorem over : Rows.resumeBytesRow.holds Try.pinned (OpenSpec.ofChange Rows.resumeBytesSpec) :=
  OpenClaim.holds_of_wide 6 Try.f6 rfl rfl rfl rfl rfl rfl rfl ⟨rfl, rfl, rfl, rfl, rfl⟩ rfl rfl rfl rfl rfl (by kernel_rfl) Try.func6 (by kernel_rfl)
    (of_decide_eq_true (by kernel_rfl)) (by unfold Func.isWrapper; first | (rw [if_pos (by decide +kernel)]; kernel_rfl) | (rw [if_neg (by decide +kernel)]; exact ⟨rfl, rfl⟩))
    (fun os started H enc _ => lifted os started H enc)

/-- ████ THE STATEMENT ████ -/
theorem proved : Rows.ResumeBytesSaid := over
#print axioms proved
end Go.Proofs.Ytcodofmghbgoeaa.resumeBytes
