/- Plain mathematics of layer 5 (no Go in sight): signs folded. -/
import Derived.Test.YtocobnjgegokaaaKitG
import Derived.Laws.BitsAllLaws
import Derived.WalkArith
namespace Go.Proofs.Ytocobnjgegokaaa.Cad
open Go.RowKit

/-- a signed number, folded -/
def zig (x : Int) : Int := if 0 ≤ x then 2 * x else -2 * x - 1
/-- a number, unfolded -/
def zag (n : Int) : Int := if n % 2 = 0 then n / 2 else -((n + 1) / 2)

theorem zig_bd {x : Int} (h : -2147483648 ≤ x ∧ x ≤ 2147483647) : 0 ≤ zig x ∧ zig x ≤ 4294967295 := by unfold zig; split <;> omega
theorem zag_bd {n : Int} (h : 0 ≤ n ∧ n ≤ 4294967295) : -2147483648 ≤ zag n ∧ zag n ≤ 2147483647 := by unfold zag; split <;> omega
theorem zag_zig (x : Int) : zag (zig x) = x := by unfold zig zag; split <;> split <;> omega
theorem zig_zag {n : Int} (h : 0 ≤ n) : zig (zag n) = n := by unfold zig zag; split <;> split <;> omega

theorem i32_not (a : Nat) (ha : a < 2147483648) : bits .xor .i32 (-1) (a : Int) = -1 - (a : Int) := by
  show IntKind.i32.wrap ((BitVec.ofInt 32 (-1) ^^^ BitVec.ofInt 32 (a : Int)).toNat : Int) = _
  have h1 : BitVec.ofInt 32 (-1) = BitVec.allOnes 32 := by decide
  rw [h1, BitVec.allOnes_xor, BitVec.toNat_not, ofInt_u32 a (by omega), IntKind.wrap_i32]
  omega
theorem u32_not (a : Nat) (ha : a < 4294967296) : bits .xor .u32 IntKind.u32.max (a : Int) = 4294967295 - (a : Int) := by
  show IntKind.u32.wrap ((BitVec.ofInt 32 4294967295 ^^^ BitVec.ofInt 32 (a : Int)).toNat : Int) = _
  have h1 : BitVec.ofInt 32 4294967295 = BitVec.allOnes 32 := by decide
  rw [h1, BitVec.allOnes_xor, BitVec.toNat_not, ofInt_u32 a (by omega), IntKind.wrap_u32]
  omega

theorem i32_wf {x : Int} (h : -2147483648 ≤ x ∧ x ≤ 2147483647) : (Lit.int .i32 x).wf = true := WalkArith.wf_i32 h
theorem u32_wf {x : Int} (h : 0 ≤ x ∧ x ≤ 4294967295) : (Lit.int .u32 x).wf = true := WalkArith.wf_u32 h
theorem i32_bd {x : Int} (h : (Lit.int .i32 x).wf = true) : -2147483648 ≤ x ∧ x ≤ 2147483647 := bounds_i32 h
theorem u32_bd {x : Int} (h : (Lit.int .u32 x).wf = true) : 0 ≤ x ∧ x ≤ 4294967295 := bounds_u32 h
theorem zig_wfs {l : List Int} (h : ∀ x ∈ l, (Lit.int .i32 x).wf = true) : ∀ x ∈ l.map zig, (Lit.int .u32 x).wf = true := by
  intro x hx
  obtain ⟨y, hy, rfl⟩ := List.mem_map.1 hx
  exact u32_wf (zig_bd (i32_bd (h y hy)))
theorem zag_wfs {l : List Int} (h : ∀ x ∈ l, (Lit.int .u32 x).wf = true) : ∀ x ∈ l.map zag, (Lit.int .i32 x).wf = true := by
  intro x hx
  obtain ⟨y, hy, rfl⟩ := List.mem_map.1 hx
  exact i32_wf (zag_bd (u32_bd (h y hy)))
theorem zag_zigs (l : List Int) : (l.map zig).map zag = l := by
  rw [List.map_map]; exact (List.map_congr_left fun x _ => zag_zig x).trans (List.map_id l)
theorem zig_zags {l : List Int} (h : ∀ x ∈ l, (Lit.int .u32 x).wf = true) : (l.map zag).map zig = l := by
  rw [List.map_map]; exact (List.map_congr_left fun x hx => zig_zag (u32_bd (h x hx)).1).trans (List.map_id l)
end Go.Proofs.Ytocobnjgegokaaa.Cad
