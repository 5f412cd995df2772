/- The closed law 'cadenza/cadenzalaw01.LeNames': run by the evaluator, which is sound (XEvGo). -/
import Derived.Test.YtgfokdnflbmafaaEvGo
namespace Go.Proofs.Ytgfokdnflbmafaa.Ev
open Go Go.RowKit Go.Proofs
/-- the functions that it reaches -/
noncomputable def tableLeNames : Table := [(3, Try.f3), (10, Try.f10), (11, Try.f11), (12, Try.f12), (13, Try.f13), (14, Try.f14), (15, Try.f15), (23, Try.f23), (24, Try.f24), (25, Try.f25), (26, Try.f26), (27, Try.f27)]
theorem tableLeNames_ok : TableOk Try.prog tableLeNames := by
  unfold tableLeNames
  refine TableOk.cons ?_ Try.func3 (by kernel_rfl)
  refine TableOk.cons ?_ Try.func10 (by kernel_rfl)
  refine TableOk.cons ?_ Try.func11 (by kernel_rfl)
  refine TableOk.cons ?_ Try.func12 (by kernel_rfl)
  refine TableOk.cons ?_ Try.func13 (by kernel_rfl)
  refine TableOk.cons ?_ Try.func14 (by kernel_rfl)
  refine TableOk.cons ?_ Try.func15 (by kernel_rfl)
  refine TableOk.cons ?_ Try.func23 (by kernel_rfl)
  refine TableOk.cons ?_ Try.func24 (by kernel_rfl)
  refine TableOk.cons ?_ Try.func25 (by kernel_rfl)
  refine TableOk.cons ?_ Try.func26 (by kernel_rfl)
  refine TableOk.cons ?_ Try.func27 (by kernel_rfl)
  exact TableOk.nil _
theorem leNames_runs : runs Try.prog tableLeNames 1000000 40 3 = true := by kernel_rfl
end Go.Proofs.Ytgfokdnflbmafaa.Ev
namespace Go.Proofs.Ytgfokdnflbmafaa
open Go Go.RowKit Go.Proofs
theorem leNames_walk (W : World) : Calls Try.prog 3 #[] W fun e w' => e = .returned (.bool true) ∧ Below W.heap.size W w' := by
  refine (Ev.runs_ok Ev.tableLeNames_ok Ev.leNames_runs W).mono ?_
  intro e w'
  cases e with
  | returned v => rintro ⟨rfl, h⟩; exact ⟨rfl, h⟩
  | panicked _ => exact fun h => h.elim
  | outgrown => exact fun h => h.elim
end Go.Proofs.Ytgfokdnflbmafaa
