/- What the statements of crc32 share: the chapter's examples. -/
import Derived.Test.YtlneafhihbnphaaMyCrc
import Derived.Lib.SlBytesConst
namespace Go.Proofs.Ytlneafhihbnphaa
open Go.RowKit Cad

def nine : List Int := [49, 50, 51, 52, 53, 54, 55, 56, 57]
theorem sum_none : crcSum [] = 0 := by kernel_rfl
theorem sum_nine : crcSum nine = 3421780262 := by kernel_rfl
theorem byte1 : crcByte 0 1 = 1996959894 := by kernel_rfl
theorem byte2 : crcByte 0 2 = 3993919788 := by kernel_rfl
theorem byte0 : crcByte 0 0 = 0 := by kernel_rfl

theorem tab_cell {w : World} {g c : Nat} {base : Nat} (h : w.ownsRow base 24 1 (.slice (some ⟨g, 0, none⟩) 256 c) 256 (nums .u32 crcTab)) (i : Nat) (hi : i < 256) : w.cell? ⟨g, i, none⟩ = some (.int .u32 (crcByte 0 i : Nat)) := by
  rw [h.cellAt i (by omega), ← crcTab_getD hi]
  simp [nums, List.getD, crcTab_len, hi]

theorem alive3_ok (W : World) : Calls Try.prog 12 #[] W fun e W' => e = .returned (.bool true) ∧ Below W.heap.size W W' := by
  have s1 : Hid (∀ w, Calls Try.prog 10 #[.slice none 0 0] w fun e W' => e = .returned (.tuple #[.int .u32 0, .int .i64 0]) ∧ Below w.heap.size w W') := Go.Lib.hid fun w => by
    have := CSum_ok w none 0 0 [] (Row.nil_row _ _) (by decide)
    rwa [sum_none] at this
  have s2 : Hid (∀ w : World, Calls Try.prog 10 #[.slice (some ⟨w.heap.size, 0, none⟩) 9 9] (w.alloc (.cells #[.int .u8 49, .int .u8 50, .int .u8 51, .int .u8 52, .int .u8 53, .int .u8 54, .int .u8 55, .int .u8 56, .int .u8 57] 5 (9, 10))) fun e W' => e = .returned (.tuple #[.int .u32 3421780262, .int .i64 0]) ∧ Below w.heap.size w W') := Go.Lib.hid fun w => by
    have := CSum_ok _ _ 9 9 nine (lit_row w nine 9 (9, 10) rfl (by decide) (by decide)) (by decide)
    rw [sum_nine] at this
    refine this.mono ?_
    rintro e w' ⟨h1, h2⟩
    exact ⟨h1, (below1 w _).trans (h2.mono (by simp))⟩
  have kc := fun (w : World) (C : Array Value) (n c : Nat) => Go.Lib.run_convert_bytes_const (P := Try.prog) w 28 5 C n c Try.underlying28 Try.underlying5
  go_enter Try.func12, Try.ntmps12
  go_wp2_with (first
    | (go_at_call 10; ((with_reducible refine (s1.out _).mono ?_)); rintro e w1 ⟨rfl, hb1⟩; have g1 := Go.Lib.hid hb1; clear hb1)
    | (go_at_call 10; ((with_reducible refine (s2.out _).mono ?_)); rintro e w2 ⟨rfl, hb2⟩; have g2 := Go.Lib.hid (g1.out.trans (hb2.mono g1.out.size)); clear hb2)
    | (go_at_call 9; ((with_reducible refine (CTable_ok _).mono ?_)); rintro e w3 ⟨v3, rfl, hown3, hb3⟩; obtain ⟨g, c, rfl, hg1, hg2⟩ := own_pos hown3 (by decide); have t0 := tab_cell hown3 0 (by decide); have t1 := tab_cell hown3 1 (by decide); have t2 := tab_cell hown3 2 (by decide); rw [byte0] at t0; rw [byte1] at t1; rw [byte2] at t2; have g3 := Go.Lib.hid (g2.out.trans (hb3.mono g2.out.size)); clear hown3 hb3))
  go_ret
  exact ⟨rfl, g3.out⟩
end Go.Proofs.Ytlneafhihbnphaa
