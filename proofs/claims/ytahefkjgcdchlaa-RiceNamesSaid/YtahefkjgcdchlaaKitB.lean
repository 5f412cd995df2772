/- What all walks share beyond Kit: rows of a call's own, copies, appends. No Go function in sight. -/
import Derived.Test.YtahefkjgcdchlaaKitG
namespace Go.Proofs.Ytahefkjgcdchlaa
open Go.RowKit

theorem elU8 : Elem Try.prog 26 5 .u8 := ⟨Try.underlying26, 1, by decide, by kernel_rfl⟩

theorem elU32 : Elem Try.prog 47 22 .u32 := ⟨Try.underlying47, 4, by decide, by kernel_rfl⟩

theorem lit_row (w : World) (l : List Int) (n : Nat) (fr : Nat × Nat) (hn : l.length = n) (hn2 : n ≤ 1000) (hl : ∀ x ∈ l, 0 ≤ x ∧ x ≤ 255) : Row .u8 (w.alloc (.cells (nums .u8 l).toArray 5 fr)) (some ⟨w.heap.size, 0, none⟩) n n l := by
  refine ⟨hn, Nat.le_refl _, by unfold maxLen; omega, u8_wf hl, fun hp => ⟨w.heap.size, 0, rfl, by simp, fun i hi => ?_⟩, fun h => by cases h⟩
  unfold World.cell?
  rw [heap_alloc_new]
  simp [nums, List.getD, show i < l.length by omega]
end Go.Proofs.Ytahefkjgcdchlaa
