/- Contracts of the functions of fold, and of its reference: one number. -/
import Derived.Test.YtocobnjgegokaaaFolP
namespace Go.Proofs.Ytocobnjgegokaaa
open Go.RowKit Cad

theorem FFold_ok (x : Int) (W : World) (h : -2147483648 ≤ x ∧ x ≤ 2147483647) :
    Calls Try.prog 13 #[.int .i32 x] W fun e W' => e = .returned (.int .u32 (zig x)) ∧ W = W' := by
  by_cases hx : x < 0
  · have e : Hid (bits .xor .u32 IntKind.u32.max (IntKind.u32.wrap (IntKind.u32.wrap x * 2)) = zig x) := Go.Lib.hid (by
      have e1 : IntKind.u32.wrap (IntKind.u32.wrap x * 2) = (((2 * x + 4294967296).toNat : Nat) : Int) := by
        rw [IntKind.wrap_u32, IntKind.wrap_u32]; omega
      rw [e1, u32_not _ (by omega)]
      unfold zig; rw [if_neg (by omega)]; omega)
    go_enter Try.func13, Try.ntmps13
    go_wp2
    go_ret
    exact ⟨ret_int e.out, rfl⟩
  · have e : Hid (x * 2 = zig x) := Go.Lib.hid (by unfold zig; rw [if_pos (by omega)]; omega)
    go_enter Try.func13, Try.ntmps13
    go_wp2
    go_ret
    exact ⟨ret_int e.out, rfl⟩

theorem FBack_ok (n : Int) (W : World) (h : 0 ≤ n ∧ n ≤ 4294967295) :
    Calls Try.prog 15 #[.int .u32 n] W fun e W' => e = .returned (.int .i32 (zag n)) ∧ W = W' := by
  rcases (show n % 2 = 0 ∨ n % 2 = 1 by omega) with hm | hm
  · have e : Hid (n / 2 = zag n) := Go.Lib.hid (by unfold zag; rw [if_pos hm])
    go_enter Try.func15, Try.ntmps15
    go_wp2
    go_ret
    exact ⟨ret_int e.out, rfl⟩
  · have e : Hid (bits .xor .i32 (-1) (n / 2) = zag n) := Go.Lib.hid (by
      rw [show n / 2 = (((n / 2).toNat : Nat) : Int) by omega, i32_not _ (by omega)]
      unfold zag; rw [if_neg (by omega)]; omega)
    go_enter Try.func15, Try.ntmps15
    go_wp2
    go_ret
    exact ⟨ret_int e.out, rfl⟩

theorem FRFold_ok (x : Int) (W : World) (h : -2147483648 ≤ x ∧ x ≤ 2147483647) :
    Calls Try.prog 14 #[.int .i32 x] W fun e W' => e = .returned (.int .u32 (zig x)) ∧ W = W' := by
  by_cases hx : 0 ≤ x
  · have e : Hid (2 * x = zig x) := Go.Lib.hid (by unfold zig; rw [if_pos hx])
    go_enter Try.func14, Try.ntmps14
    go_wp2
    go_ret
    exact ⟨ret_int e.out, rfl⟩
  · have e : Hid (-2 * x - 1 = zig x) := Go.Lib.hid (by unfold zig; rw [if_neg hx])
    go_enter Try.func14, Try.ntmps14
    go_wp2
    go_ret
    exact ⟨ret_int e.out, rfl⟩

theorem FRBack_ok (n : Int) (W : World) (h : 0 ≤ n ∧ n ≤ 4294967295) :
    Calls Try.prog 16 #[.int .u32 n] W fun e W' => e = .returned (.int .i32 (zag n)) ∧ W = W' := by
  rcases (show n % 2 = 0 ∨ n % 2 = 1 by omega) with hm | hm
  · have e : Hid (n / 2 = zag n) := Go.Lib.hid (by unfold zag; rw [if_pos hm])
    go_enter Try.func16, Try.ntmps16
    go_wp2
    go_ret
    exact ⟨ret_int e.out, rfl⟩
  · have e : Hid (wrap32 (wrap64 (-(n + 1).tdiv 2)) = zag n) := Go.Lib.hid (by
      rw [Int.tdiv_eq_ediv_of_nonneg (by omega)]
      unfold zag wrap32 wrap64; rw [if_neg (by omega)]; omega)
    go_enter Try.func16, Try.ntmps16
    go_wp2
    go_ret
    exact ⟨ret_int e.out, rfl⟩
end Go.Proofs.Ytocobnjgegokaaa
