/- Contracts of the reference's functions on bits: bits of bytes. -/
import Derived.Test.YtahefkjgcdchlaaBitN
namespace Go.Proofs.Ytahefkjgcdchlaa
open Go.RowKit Cad

/-- a struct result in a cell, and a number beside it -/
theorem results_box_tmp {fn : Func} {p u : Tmp} (h : fn.results = #[.cell p 28, .tmp u]) (tmps : Array Value) (w : World) (x : Nat) (v : Value) (N : Int) (hp : tmps.getD p undef = .pointer (some ⟨x, 0, none⟩)) (hx : BoxAt w x v N) :
    (results fn tmps).run Try.prog w = .ok (.tuple #[.agg #[v, .int .i64 N], tmps.getD u undef]) w := by
  rw [results_cell_tmp h, hp]
  have := run_loadVar_row (P := Try.prog) w x _ 28 _ _ _ hx Try.underlying28 rfl (by kernel_rfl)
  simp [asAddr, Sem.run_pure, this]

end Go.Proofs.Ytahefkjgcdchlaa
