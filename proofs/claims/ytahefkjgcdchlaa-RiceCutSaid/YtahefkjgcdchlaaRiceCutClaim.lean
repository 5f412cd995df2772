/-
  The law 'cadenza/cadenzalaw07.RiceCut' returns true for every input, and every argument reads behind the call as it read before.
  The walk: 'riceCut_walk'.
-/
import Derived.Test.YtahefkjgcdchlaaRows
import Derived.WalkKit
import Derived.ProofKit
import Derived.OpenShut
import Derived.ShutString
import Derived.ChangeOld
import Derived.Below
import Derived.Lib.SmallJoins
import Derived.Carry
import Derived.Test.YtahefkjgcdchlaaRicCutW
namespace Go.Proofs.Ytahefkjgcdchlaa.riceCut
open Go.ChangeShapes Go.WideShapes Go.ChangeAt Go.RowKit
open Go.ChangeMaps (open_string shut_string)
set_option linter.unusedVariables false

theorem own : ownKnob Try.prog.godebug = none := by kernel_rfl
theorem laidOut : laidOutB Try.prog = true := by kernel_rfl
theorem Try.cells28 : Try.prog.cellsOf 28 = 2 := by kernel_rfl

theorem walk (x0 : Int) (x1 : Int) (x2 : Int) (ax3_0 : Option Addr) (lenx3_0 capx3_0 : Nat) (zx3_0 : List Int) (x3_1 : Int) (W : World) (wx0 : (Lit.int .u32 x0).wf = true) (wx1 : (Lit.int .i64 x1).wf = true) (wx2 : (Lit.int .i64 x2).wf = true) (wx3_0 : IsRow .u8 W ax3_0 lenx3_0 capx3_0 zx3_0) (wx3_1 : (Lit.int .i64 x3_1).wf = true) :
    Calls Try.prog 8 #[.int .u32 x0, .int .i64 x1, .int .i64 x2, .agg #[.slice ax3_0 lenx3_0 capx3_0, .int .i64 x3_1]] W fun e w' => e = .returned (.bool true) ∧ Below W.heap.size W w' :=
  riceCut_walk x0 x1 x2 ax3_0 lenx3_0 capx3_0 zx3_0 x3_1 W wx0 wx1 wx2 wx3_0 wx3_1

set_option maxRecDepth 100000 in
theorem lifted (os : Os) (started : os.Started) (H : Type) (enc : TypeId × Value → H) :
    ReturnsInHanded {} Try.checked os 8 .any (Rows.riceCutSpec.pre6 enc Try.prog Try.f8 Rows.riceCutRow.domain false) (Rows.riceCutSpec.post enc Try.prog Try.f8 false true false false) := by
  refine returnsInHanded_of_change (C := Try.checked) own started (by kernel_rfl) Try.func8
    (ChangeSpec.witness6 (enc := enc) (C := Try.checked) false ⟨#[], #[.int .u32 0, .int .i64 0, .int .i64 0, .agg #[.slice none 0 0, .int .i64 0]], []⟩ 8 (by kernel_rfl) (by kernel_rfl) (by kernel_rfl) (by kernel_rfl)) ?_
  intro W base args ds gs before hval0 hW hcnd _
  have hval : ∀ (j : Nat) t v, Try.f8.params[j]? = some t → args[j]? = some v → Value.okWide Try.prog W .any base t v := hval0
  have hW' := hW
  obtain ⟨p, q, hA0, hV, rfl, hfz, hnd⟩ := hW
  have hA : DataW.TrodAll enc Try.prog W 0 (fun _ => true) true Try.f8.params.toList args.toList ds p := hA0
  rw [Try.params8] at hA hval
  obtain ⟨v0, vs0, d0, ds0, p0, q0, hargs, rfl, rfl, h0, r0⟩ := trodAll_cons hA
  obtain ⟨v1, vs1, d1, ds1, p1, q1, rfl, rfl, rfl, h1, r1⟩ := trodAll_cons r0
  obtain ⟨v2, vs2, d2, ds2, p2, q2, rfl, rfl, rfl, h2, r2⟩ := trodAll_cons r1
  obtain ⟨v3, vs3, d3, ds3, p3, q3, rfl, rfl, rfl, h3, r3⟩ := trodAll_cons r2
  obtain ⟨rfl, rfl, rfl⟩ := trodAll_nil r3
  obtain rfl : args = #[v0, v1, v2, v3] := by cases args; simp_all
  obtain ⟨rfl, rfl⟩ := trodVars_none hV
  obtain ⟨x0, rfl, rfl, rfl, wx0⟩ := open_int Try.underlying22 (hval 0 22 v0 rfl rfl) h0
  obtain ⟨x1, rfl, rfl, rfl, wx1⟩ := open_int Try.underlying3 (hval 1 3 v1 rfl rfl) h1
  obtain ⟨x2, rfl, rfl, rfl, wx2⟩ := open_int Try.underlying3 (hval 2 3 v2 rfl rfl) h2
  have k3 := h3
  have lt3 : ∀ x ∈ p3, x.block < W.heap.size := by obtain ⟨m, hm⟩ := k3; exact DataW.trod_lt m _ _ _ hm
  obtain ⟨c3_0, c3_1, y3_0, y3_1, m3, hag3, hd3, hp3, hy3_0, hy3_1⟩ := Joins.open_agg2 Try.underlying28 (by kernel_rfl) Try.cells28 (hval 3 28 v3 rfl rfl) h3
  obtain ⟨ax3_0, lenx3_0, capx3_0, ex3_0⟩ := Joins.slice_form Try.underlying26 hy3_0
  simp at ex3_0
  subst ex3_0
  obtain ⟨zx3_0, wx3_0⟩ : ∃ zs, IsRow .u8 W ax3_0 lenx3_0 capx3_0 zs := by
    rcases open_ints Try.underlying26 Try.underlying5 (by kernel_rfl) hy3_0 with ⟨hcs, _⟩ | ⟨x, l, c, zs, hcs, _, hl, hm, hz, _, hcell, hwz⟩
    · simp at hcs
      obtain ⟨rfl, rfl, rfl⟩ := hcs
      exact ⟨[], .inl ⟨rfl, rfl, rfl, rfl⟩⟩
    · simp at hcs
      obtain ⟨rfl, rfl, rfl⟩ := hcs
      exact ⟨zs, .inr ⟨_, rfl, hl, hm, by simpa using hz, hcell, hwz⟩⟩
  obtain ⟨x3_1, ex3_1, -, wx3_1⟩ := DataW.trod_int Try.underlying3 hy3_1
  simp at ex3_1
  subst ex3_1
  subst hag3
  clear hA0 hval0
  refine (walk x0 x1 x2 ax3_0 lenx3_0 capx3_0 zx3_0 x3_1 W wx0 wx1 wx2 wx3_0 wx3_1).mono fun e W' ⟨he, bel⟩ => ?_
  subst he
  exact ⟨_, rfl, _, _, _, [], _, [], hW', trodAll_mk1 (shut_bool Try.underlying4 _), (trodAll_cons_mk (shut_int Try.underlying22 wx0) (trodAll_cons_mk (shut_int Try.underlying3 wx1) (trodAll_cons_mk (shut_int Try.underlying3 wx2) (trodAll_cons_mk (Below.trod laidOut (by kernel_rfl) (of_decide_eq_true (by kernel_rfl)) k3 bel lt3) trodAll_mk0)))), rfl, bel.frame _, fun h => by cases h⟩

theorem over : Rows.riceCutRow.holds Try.pinned (OpenSpec.ofChange Rows.riceCutSpec) :=
  OpenClaim.holds_of_wide 8 Try.f8 rfl rfl rfl rfl rfl rfl rfl ⟨rfl, rfl, rfl, rfl, rfl⟩ rfl rfl rfl rfl rfl (by kernel_rfl) Try.func8 (by kernel_rfl)
    (of_decide_eq_true (by kernel_rfl)) (by unfold Func.isWrapper; first | (rw [if_pos (by decide +kernel)]; kernel_rfl) | (rw [if_neg (by decide +kernel)]; exact ⟨rfl, rfl⟩))
    (fun os started H enc _ => lifted os started H enc)

/-- ████ THE STATEMENT ████ -/
theorem proved : Rows.RiceCutSaid := over
#print axioms proved
end Go.Proofs.Ytahefkjgcdchlaa.riceCut
