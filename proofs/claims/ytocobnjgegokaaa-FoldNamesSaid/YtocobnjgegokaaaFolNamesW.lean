/- FoldNames: the chapter's examples, limits, errors. -/
import Derived.Test.YtocobnjgegokaaaFolL
namespace Go.Proofs.Ytocobnjgegokaaa
open Go.RowKit Cad

def fx4 : List Int := [4294967295, 4294967294, 1, 0]
def fx4s : List Int := [-2147483648, 2147483647, -1, 0]
theorem fx_undo : undoS fx4 = (fx4s, 0) := by decide

set_option maxHeartbeats 1000000 in
theorem foldNames_walk (W : World) :
    Calls Try.prog 3 #[] W fun e w' => e = .returned (.bool true) ∧ Below W.heap.size W w' := by
  obtain ⟨n1, hn1⟩ : ∃ n : Nat, n = 4001 := ⟨_, rfl⟩
  obtain ⟨n0, hn0⟩ : ∃ n : Nat, n = 4000 := ⟨_, rfl⟩
  have e1 := Go.Lib.hid (show (4001 : Int) = (n1 : Int) by omega)
  have e0 := Go.Lib.hid (show (4000 : Int) = (n0 : Int) by omega)
  have b1 : n1 ≤ 17592186044416 := by omega
  have b0 : n0 ≤ 17592186044416 := by omega
  have q0 : ((n0 : Int) == 4000) = true := by rw [← e0.out]; rfl
  have f1 : Hid (∀ (w : World) a c, Row .i32 w a n1 c (List.replicate n1 0) → Calls Try.prog 9 #[.slice a n1 c] w fun e W' => e = .returned (.tuple #[.slice none 0 0, .int .i64 4]) ∧ Below w.heap.size w W') := Go.Lib.hid fun w a c h => FAll_many w a n1 c h (by omega)
  have f2 : Hid (∀ (w : World) a c, Row .u32 w a n1 c (List.replicate n1 0) → Calls Try.prog 10 #[.slice a n1 c] w fun e W' => e = .returned (.tuple #[.slice none 0 0, .int .i64 4]) ∧ Below w.heap.size w W') := Go.Lib.hid fun w a c h => FUndo_many w a n1 c h (by omega)
  have f3 : Hid (∀ (w : World) a c, Row .i32 w a n0 c (List.replicate n0 0) → Calls Try.prog 9 #[.slice a n0 c] w fun e W' => ∃ a' c', e = .returned (.tuple #[.slice a' n0 c', .int .i64 0]) ∧ Below w.heap.size w W') := Go.Lib.hid fun w a c h => FAll_len w a n0 c _ h (by omega)
  have f4 : Hid (∀ w : World, Calls Try.prog 10 #[.slice (some ⟨w.heap.size, 0, none⟩) 4 4] (w.alloc (.cells #[.int .u32 4294967295, .int .u32 4294967294, .int .u32 1, .int .u32 0] 29)) fun e W' => ∃ a' n' c', e = .returned (.tuple #[.slice a' n' c', .int .i64 0]) ∧ Row .i32 W' a' n' c' fx4s ∧ Below w.heap.size w W') := Go.Lib.hid fun w => by
    have := FUndo_any _ _ 4 4 fx4 (lit_rowK .u32 29 w fx4 4 (0, 0) rfl (by decide) (by decide))
    rw [fx_undo] at this
    refine this.mono ?_
    rintro e w' ⟨a', n', c', h1, h2, h3⟩
    exact ⟨a', n', c', h1, h2, (below1 w _).trans (h3.mono (by simp))⟩
  have f5 : Hid (∀ w : World, Calls Try.prog 9 #[.slice none 0 0] w fun e W' => ∃ a' c', e = .returned (.tuple #[.slice a' 0 c', .int .i64 0]) ∧ Below w.heap.size w W') := Go.Lib.hid fun w => FAll_len w none 0 0 [] (Row.nil_row _ _) (by omega)
  have s2 : Hid (∀ (w : World) a n c, Row .i32 w a n c fx4s → Calls Try.prog 11 #[.slice a n c, .slice (some ⟨w.heap.size, 0, none⟩) 4 4] (w.alloc (.cells #[.int .i32 (-2147483648), .int .i32 2147483647, .int .i32 (-1), .int .i32 0] 21)) fun e W' => e = .returned (.bool true) ∧ Below w.heap.size w W') := Go.Lib.hid fun w a n c hr => by
    have := FSameS_ok _ a n c fx4s (hr.below (below1 w _) (Nat.le_refl _)) _ 4 4 fx4s (lit_rowK .i32 21 w fx4s 4 (0, 0) rfl (by decide) (by decide))
    refine this.mono ?_
    rintro e w' ⟨h1, h2⟩
    exact ⟨by rw [h1]; rfl, (below1 w _).trans (h2.mono (by simp))⟩
  have hal := Go.Lib.hid alive5_ok
  have hWE0 := Go.Lib.hid (Below.refl W.heap.size W)
  clear hn1 hn0
  go_enter Try.func3, Try.ntmps3
  go_wp2_with (first
    | (at_make; refine law_make elI32 W rfl _ _ rfl .i64 .i64 4001 4001 n1 rfl rfl e1.out e1.out b1 ?_; intro w1 hown1 hb1 hs1; have hW1 := Go.Lib.hid (hWE0.out.trans (hb1.mono hWE0.out.size)); have R1_p := Go.Lib.hid (Row.of_own hown1 (fun x hx => by rw [List.eq_of_mem_replicate hx]; decide)); have O1_p := Go.Lib.hid (own_base hown1 hWE0.out.size); clear hown1 hb1 hs1)
    | (go_at_call 9; ((with_reducible refine (f1.out _ _ _ ?h1).mono ?_)); (case h1 => exact R1_p.out); rintro e w2 ⟨rfl, hb2⟩; have hWE2 := Go.Lib.hid hW1.out; have hW2 := Go.Lib.hid (hWE2.out.trans (hb2.mono hWE2.out.size)); have R2_p := Go.Lib.hid (R1_p.out.below hb2 (Nat.le_refl _)); clear hb2)
    | (at_make; refine law_make elU32 w2 rfl _ _ rfl .i64 .i64 4001 4001 n1 rfl rfl e1.out e1.out b1 ?_; intro w3 hown3 hb3 hs3; have hW3 := Go.Lib.hid (hW2.out.trans (hb3.mono hW2.out.size)); have R3_q := Go.Lib.hid (Row.of_own hown3 (fun x hx => by rw [List.eq_of_mem_replicate hx]; decide)); have O3_q := Go.Lib.hid (own_base hown3 hW2.out.size); clear hown3 hb3 hs3)
    | (go_at_call 10; ((with_reducible refine (f2.out _ _ _ ?h1).mono ?_)); (case h1 => exact R3_q.out); rintro e w4 ⟨rfl, hb4⟩; have hWE4 := Go.Lib.hid hW3.out; have hW4 := Go.Lib.hid (hWE4.out.trans (hb4.mono hWE4.out.size)); have R4_q := Go.Lib.hid (R3_q.out.below hb4 (Nat.le_refl _)); clear hb4)
    | (at_make; refine law_make elI32 w4 rfl _ _ rfl .i64 .i64 4000 4000 n0 rfl rfl e0.out e0.out b0 ?_; intro w5 hown5 hb5 hs5; have hW5 := Go.Lib.hid (hW4.out.trans (hb5.mono hW4.out.size)); have R5_r := Go.Lib.hid (Row.of_own hown5 (fun x hx => by rw [List.eq_of_mem_replicate hx]; decide)); have O5_r := Go.Lib.hid (own_base hown5 hW4.out.size); clear hown5 hb5 hs5)
    | (go_at_call 9; ((with_reducible refine (f3.out _ _ _ ?h1).mono ?_)); (case h1 => exact R5_r.out); rintro e w6 ⟨ar, cr, rfl, hb6⟩; have hWE6 := Go.Lib.hid hW5.out; have hW6 := Go.Lib.hid (hWE6.out.trans (hb6.mono hWE6.out.size)); have R6_r := Go.Lib.hid (R5_r.out.below hb6 (Nat.le_refl _)); clear hb6)
    | (go_at_call 10; ((with_reducible refine (f4.out _).mono ?_)); rintro e w7 ⟨ab, nb, cb, rfl, hr7, hb7⟩; have hWE7 := Go.Lib.hid hW6.out; have hW7 := Go.Lib.hid (hWE7.out.trans (hb7.mono hWE7.out.size)); have R7_b := Go.Lib.hid hr7; clear hr7; clear hb7)
    | (go_at_call 9; ((with_reducible refine (f5.out _).mono ?_)); rintro e w8 ⟨ac, cc, rfl, hb8⟩; have hWE8 := Go.Lib.hid hW7.out; have hW8 := Go.Lib.hid (hWE8.out.trans (hb8.mono hWE8.out.size)); have R8_b := Go.Lib.hid (R7_b.out.below hb8 (Nat.le_refl _)); clear hb8)
    | (go_at_call 11; ((with_reducible refine (s2.out _ _ _ _ ?h1).mono ?_)); (case h1 => exact R8_b.out); rintro e w9 ⟨rfl, hb9⟩; have hWE9 := Go.Lib.hid hW8.out; have hW9 := Go.Lib.hid (hWE9.out.trans (hb9.mono hWE9.out.size)); have R9_b := Go.Lib.hid (R8_b.out.below hb9 (Nat.le_refl _)); clear hb9)
    | (go_at_call 12; refine (hal.out _).mono ?_; rintro e w10 ⟨rfl, hb10⟩; have hWE10 := Go.Lib.hid hW9.out; have hW10 := Go.Lib.hid (hWE10.out.trans (hb10.mono hWE10.out.size)); clear hb10))
  go_ret
  exact ⟨rfl, hW10.out⟩
end Go.Proofs.Ytocobnjgegokaaa
