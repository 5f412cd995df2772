/- What the statements of crc64 share: the chapter's examples. -/
import Derived.Test.YtgffegcflibclaaMyCsf
import Derived.Lib.SlBytesConst
namespace Go.Proofs.Ytgffegcflibclaa
open Go.RowKit Cad

def nineS : List Int := [49, 50, 51, 52, 53, 54, 55, 56, 57]
theorem csf_nine : csfB 0 nineS = 0x6c40df5f0b497347 := by kernel_rfl
theorem csf_one : csfB 0 [1] = 0x42f0e1eba9ea3693 := by kernel_rfl

theorem tab_cell4 {w : World} {g c : Nat} {base : Nat} (h : w.ownsRow base 24 1 (.slice (some ⟨g, 0, none⟩) 256 c) 256 (nums .u64 csfTab)) (i : Nat) (hi : i < 256) : w.cell? ⟨g, i, none⟩ = some (.int .u64 (csfByte 0 i : Nat)) := by
  rw [h.cellAt i (by omega), ← csfTab_getD hi]
  simp [nums, List.getD, csfTab_len, hi]

theorem alive4_ok (W : World) : Calls Try.prog 12 #[] W fun e W' => e = .returned (.bool true) ∧ Below W.heap.size W W' := by
  have s1 : Hid (∀ w, Calls Try.prog 10 #[.slice none 0 0] w fun e W' => e = .returned (.tuple #[.int .u64 0, .int .i64 0]) ∧ Below w.heap.size w W') := Go.Lib.hid fun w => SSum_ok w none 0 0 [] (Row.nil_row _ _) (by decide)
  have s0 : Hid (∀ w : World, Calls Try.prog 10 #[.slice (some ⟨w.heap.size, 0, none⟩) 1 1] (w.alloc (.cells #[.int .u8 1] 5)) fun e W' => e = .returned (.tuple #[.int .u64 4823603603198064275, .int .i64 0]) ∧ Below w.heap.size w W') := Go.Lib.hid fun w => by
    have := SSum_ok _ _ 1 1 [1] (lit_row w [1] 1 (0, 0) rfl (by decide) (by decide)) (by decide)
    rw [csf_one] at this
    exact this.mono fun e w' ⟨h1, h2⟩ => ⟨h1, (below1 w _).trans (h2.mono (by simp))⟩
  have s2 : Hid (∀ w : World, Calls Try.prog 10 #[.slice (some ⟨w.heap.size, 0, none⟩) 9 9] (w.alloc (.cells #[.int .u8 49, .int .u8 50, .int .u8 51, .int .u8 52, .int .u8 53, .int .u8 54, .int .u8 55, .int .u8 56, .int .u8 57] 5 (9, 10))) fun e W' => e = .returned (.tuple #[.int .u64 7800480153909949255, .int .i64 0]) ∧ Below w.heap.size w W') := Go.Lib.hid fun w => by
    have := SSum_ok _ _ 9 9 nineS (lit_row w nineS 9 (9, 10) rfl (by decide) (by decide)) (by decide)
    rw [csf_nine] at this
    exact this.mono fun e w' ⟨h1, h2⟩ => ⟨h1, (below1 w _).trans (h2.mono (by simp))⟩
  have kc := fun (w : World) (C : Array Value) (n c : Nat) => Go.Lib.run_convert_bytes_const (P := Try.prog) w 28 5 C n c Try.underlying28 Try.underlying5
  go_enter Try.func12, Try.ntmps12
  go_wp2_with (first
    | (go_at_call 10; ((with_reducible refine (s1.out _).mono ?_)); rintro e w1 ⟨rfl, hb1⟩; have g1 := Go.Lib.hid hb1; clear hb1)
    | (go_at_call 10; ((with_reducible refine (s0.out _).mono ?_)); rintro e w2 ⟨rfl, hb2⟩; have g2 := Go.Lib.hid (g1.out.trans (hb2.mono g1.out.size)); clear hb2)
    | (go_at_call 10; ((with_reducible refine (s2.out _).mono ?_)); rintro e w3 ⟨rfl, hb3⟩; have g3 := Go.Lib.hid (g2.out.trans (hb3.mono g2.out.size)); clear hb3))
  go_ret
  exact ⟨rfl, g3.out⟩
end Go.Proofs.Ytgffegcflibclaa
