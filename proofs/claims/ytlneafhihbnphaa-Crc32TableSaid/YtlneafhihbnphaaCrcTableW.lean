/- Crc32Table: the state behind a byte is told by the table. -/
import Derived.Test.YtlneafhihbnphaaCrcLawA
namespace Go.Proofs.Ytlneafhihbnphaa
open Go.RowKit Cad

theorem crc32Table_walk (x0 : Int) (x1 : Int) (wx0 : (Lit.int .u32 x0).wf = true) (wx1 : (Lit.int .u8 x1).wf = true) (W : World) :
    Calls Try.prog 8 #[.int .u32 x0, .int .u8 x1] W fun e w' => e = .returned (.bool true) ∧ Below W.heap.size W w' := by
  have b0 := bounds_u32 wx0
  have b1 := bounds_u8 wx1
  obtain ⟨s, rfl⟩ : ∃ n : Nat, x0 = n := ⟨x0.toNat, by omega⟩
  obtain ⟨c, rfl⟩ : ∃ n : Nat, x1 = n := ⟨x1.toNat, by omega⟩
  have hs : s < 4294967296 := by omega
  have hc : c < 256 := by omega
  have hm : s % 256 ^^^ c < 256 := Nat.xor_lt_two_pow (n := 8) (Nat.mod_lt _ (by decide)) hc
  have ht := crcByte_table s c hc
  have o1 := Go.u8_xor_nat (s % 256) c (Nat.mod_lt _ (by decide)) hc
  have hel := crcByte_lt (s := 0) (by decide) (s % 256 ^^^ c)
  have o2 := Go.u32_xor_nat (s / 256) (crcByte 0 (s % 256 ^^^ c)) (by omega) hel
  rw [← ht] at o2
  have n1 : Hid (∀ w : World, Calls Try.prog 11 #[.int .u32 s, .slice (some ⟨w.heap.size, 0, none⟩) 1 1] (w.alloc (.cells #[.int .u8 c] 5)) fun r W' => r = .returned (.tuple #[.int .u32 (crcByte s c : Nat), .int .i64 0]) ∧ Below w.heap.size w W') := Go.Lib.hid fun w => by
    have := CNext_ok _ s _ 1 1 [(c : Int)] (lit_row w [(c : Int)] 1 (0, 0) rfl (by omega) (by intro x hx; simp at hx; omega)) hs (by decide)
    refine this.mono ?_
    rintro e w' ⟨h1, h2⟩
    exact ⟨by rw [h1]; simp [crcB], (below1 w _).trans (h2.mono (by simp))⟩
  have hbl := crcByte_lt hs c
  obtain ⟨k, hk⟩ : ∃ k, k = s % 256 ^^^ c := ⟨_, rfl⟩
  obtain ⟨y, hy⟩ : ∃ y, y = crcByte s c := ⟨_, rfl⟩
  rw [← hk] at hm o1 o2 hel
  rw [← hy] at n1 o2 hbl
  have o1' : Go.bits .xor .u8 ((s : Int) % 256) (c : Int) = (k : Int) := by simpa using o1
  have o2' : Hid (∀ z : Int, z = (crcByte 0 k : Nat) → Go.bits .xor .u32 ((s : Int) / 256) z = (y : Int)) := Go.Lib.hid (by rintro z rfl; simpa using o2)
  obtain ⟨e, he⟩ : ∃ e, e = crcByte 0 k := ⟨_, rfl⟩
  rw [← he] at hel o2'
  have o2'' := o2'.out (e : Int) rfl
  have he' := Go.Lib.hid he
  clear ht o1 o2 hk hy b0 b1 wx0 wx1 o2' he
  go_enter Try.func8, Try.ntmps8
  go_wp2_with (first
    | (go_at_call 9; ((with_reducible refine (CTable_ok _).mono ?_)); rintro e' w1 ⟨v1, rfl, hown1, hb1⟩; obtain ⟨g, cp, rfl, hg1, hg2⟩ := own_pos hown1 (by decide); have g1 := Go.Lib.hid hb1; have t1 := Go.Lib.hid (tab_cell hown1 k hm); have hg2' := hg2; clear hown1 hb1)
    | (go_at_call 11; ((with_reducible refine (n1.out _).mono ?_)); rintro e' w2 ⟨rfl, hb2⟩; have g2 := Go.Lib.hid (g1.out.trans (hb2.mono g1.out.size)); have t2 := (hb2.cell (p := ⟨g, k, none⟩) hg2').trans t1.out; rw [← he'.out] at t2; clear hb2)
    | (go_at_call 12; refine (alive3_ok _).mono ?_; rintro e' w3 ⟨rfl, hb3⟩))
  go_ret
  exact ⟨rfl, g2.out.trans (hb3.mono g2.out.size)⟩
end Go.Proofs.Ytlneafhihbnphaa
