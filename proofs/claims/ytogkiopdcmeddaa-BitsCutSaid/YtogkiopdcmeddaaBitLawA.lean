/- What the statements of bits share: the chapter's examples, and a number's lowest bits. -/
import Derived.Test.YtogkiopdcmeddaaMyBitI
namespace Go.Proofs.Ytogkiopdcmeddaa
open Go.RowKit Cad

theorem two_sub (v n : Nat) : v &&& (2 ^ n - 1) = v % 2 ^ n := Nat.and_two_pow_sub_one_eq_mod v n
theorem Lcut_ok (W : World) (v n : Nat) (hn : n ≤ 64) (hv : v < 18446744073709551616) :
    Calls Try.prog 20 #[.int .u64 v, .int .i64 n] W fun e W' => e = .returned (.int .u64 ((v % 2 ^ n : Nat) : Int)) ∧ W = W' := by
  by_cases h : (64 : Int) ≤ n
  · obtain rfl : n = 64 := by omega
    rw [Nat.mod_eq_of_lt hv]
    go_enter Try.func20, Try.ntmps20
    go_wp2
    go_ret
    exact ⟨rfl, rfl⟩
  · rw [← two_sub]
    have hp : 2 ^ n ≤ 2 ^ 63 := Nat.pow_le_pow_right (n := 2) (by decide) (by omega)
    have hp0 : 0 < 2 ^ n := Nat.pow_pos (by decide)
    obtain ⟨x, hx⟩ : ∃ x, x = 2 ^ n := ⟨_, rfl⟩
    rw [← hx] at hp hp0 ⊢
    have e1 : (1 : Int) * 2 ^ n = (x : Int) := by rw [hx]; simp
    have e2 : (2 : Int) ^ n = (x : Int) := by rw [hx]; simp
    have o1 := Go.u64_and_nat v (x - 1) hv (by omega)
    clear hx
    go_enter Try.func20, Try.ntmps20
    go_wp2
    go_ret
    exact ⟨ret_int (by rw [show (x : Int) - 1 = ((x - 1 : Nat) : Int) by omega]; exact o1), rfl⟩

theorem pk1 : pack ([] ++ numB 5 3) = [5] := by rfl
theorem pk1' : pack (numB 5 3) = [5] := by rfl
theorem pk2 : pack (numB 5 3 ++ numB 6 4) = [53] := by rfl
theorem nb3 : natB (midB (numB 5 3 ++ numB 6 4) 2 (2 + 4)) = 13 := by rfl
theorem al1 (w : World) : Calls Try.prog 21 #[.agg #[.slice none 0 0, .int .i64 0], .int .u64 5, .int .i64 3] w fun e W' => ∃ b c, e = .returned (.tuple #[.agg #[.slice b 1 c, .int .i64 3], .int .i64 0]) ∧ Row .u8 W' b 1 c [5] ∧ Below w.heap.size w W' := by
  have := BPut_ok w none 0 0 [] 5 3 (by rw [show pack [] = [] by rfl]; exact Row.nil_row _ _) (by simp) (by omega) (by omega)
  rw [pk1] at this
  exact this
theorem al2 (w : World) (b : Option Addr) (c : Nat) (h : Row .u8 w b 1 c [5]) : Calls Try.prog 21 #[.agg #[.slice b 1 c, .int .i64 3], .int .u64 6, .int .i64 4] w fun e W' => ∃ b c, e = .returned (.tuple #[.agg #[.slice b 1 c, .int .i64 7], .int .i64 0]) ∧ Row .u8 W' b 1 c [53] ∧ Below w.heap.size w W' := by
  have := BPut_ok w b 1 c (numB 5 3) 6 4 (by rw [pk1']; exact h) (by rw [numB_len]; omega) (by omega) (by omega)
  rw [pk2, numB_len] at this
  exact this
theorem al3 (w : World) (b : Option Addr) (c : Nat) (h : Row .u8 w b 1 c [53]) : Calls Try.prog 22 #[.agg #[.slice b 1 c, .int .i64 7], .int .i64 2, .int .i64 4] w fun e W' => e = .returned (.tuple #[.int .u64 13, .int .i64 0]) ∧ Below w.heap.size w W' := by
  have := BGet_ok w b 1 c (numB 5 3 ++ numB 6 4) 2 4 (by rw [pk2]; exact h) (by rw [List.length_append, numB_len, numB_len]; omega) (by omega) (by rw [List.length_append, numB_len, numB_len]; omega)
  rw [nb3, List.length_append, numB_len, numB_len] at this
  exact this

theorem alive_ok (W : World) : Calls Try.prog 19 #[] W fun e W' => e = .returned (.bool true) ∧ Below W.heap.size W W' := by
  have hstr : strOfNums [53] = ⟨#[53]⟩ := rfl
  go_enter Try.func19, Try.ntmps19
  go_wp2_with (first
    | (go_at_call 21; ((with_reducible refine (al1 _).mono ?_)); rintro e w1 ⟨b1, cp1, rfl, hr1, hb1⟩; have hr1' := Go.Lib.hid hr1; have hb1' := Go.Lib.hid hb1; clear hr1 hb1)
    | (go_at_call 21; ((with_reducible refine (al2 _ _ _ ?hrow).mono ?_)); (case hrow => exact (hr1'.out.below ((Below.refl w1.heap.size w1).alloc (Nat.le_refl _) _) (Nat.le_refl _))); rintro e w2 ⟨b2, cp2, rfl, hr2, hb2⟩; have hr2' := Go.Lib.hid hr2; have hb2' := Go.Lib.hid (((Below.refl w1.heap.size w1).alloc (Nat.le_refl _) _).trans (hb2.mono (by simp))); clear hr2 hb2)
    | (go_at_call 22; ((with_reducible refine (al3 _ _ _ ?hrow).mono ?_)); (case hrow => exact (hr2'.out.below ((Below.refl w2.heap.size w2).alloc (Nat.le_refl _) _) (Nat.le_refl _))); rintro e w3 ⟨rfl, hb3⟩; obtain ⟨z0, z1, z2, z3⟩ := (BoxAt.below (show BoxAt (w2.alloc (.cells #[.slice b2 1 cp2, .int .i64 7] 24)) w2.heap.size (.slice b2 1 cp2) 7 from heap_alloc_new _ _) hb3 (by simp)).cells; have hcv := ((hr2'.out.below ((Below.refl w2.heap.size w2).alloc (Nat.le_refl _) _) (Nat.le_refl _)).below hb3 (Nat.le_refl _)).str (P := Try.prog) Try.underlying22 Try.underlying5 Try.underlying9; rw [hstr] at hcv; have hb3' := Go.Lib.hid (((Below.refl w2.heap.size w2).alloc (Nat.le_refl _) _).trans (hb3.mono (by simp))); clear hb3))
  go_ret
  exact ⟨rfl, (hb1'.out.trans (hb2'.out.mono hb1'.out.size)).trans (hb3'.out.mono (Nat.le_trans hb1'.out.size hb2'.out.size))⟩
end Go.Proofs.Ytogkiopdcmeddaa
