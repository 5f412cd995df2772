/- Crc64Table: the state behind a byte is told by the table. -/
import Derived.Test.YtgffegcflibclaaCsfLawA
namespace Go.Proofs.Ytgffegcflibclaa
open Go.RowKit Cad

theorem csfB_one (s c : Nat) : csfB s [(c : Int)] = csfByte s c := by
  simp only [csfB, List.foldl_cons, List.foldl_nil, Int.toNat_natCast]

theorem crc64Table_walk (x0 : Int) (x1 : Int) (wx0 : (Lit.int .u64 x0).wf = true) (wx1 : (Lit.int .u8 x1).wf = true) (W : World) :
    Calls Try.prog 8 #[.int .u64 x0, .int .u8 x1] W fun e w' => e = .returned (.bool true) ∧ Below W.heap.size W w' := by
  have b0 := bounds_u64 wx0
  have b1 := bounds_u8 wx1
  obtain ⟨s, rfl⟩ : ∃ n : Nat, x0 = n := ⟨x0.toNat, by omega⟩
  obtain ⟨c, rfl⟩ : ∃ n : Nat, x1 = n := ⟨x1.toNat, by omega⟩
  have hs : s < 18446744073709551616 := by omega
  have hc : c < 256 := by omega
  have hcb : ∀ x ∈ [(c : Int)], 0 ≤ x ∧ x ≤ 255 := by intro x hx; simp at hx; omega
  have q1 := csfB_one s c
  have q2 := csfB_one 0 c
  have hw0 : IntKind.u64.wrap (256 * (s : Int)) = (((256 * s) % 18446744073709551616 : Nat) : Int) := by rw [IntKind.wrap_u64]; omega
  have hw3 : (s : Int) / 72057594037927936 = ((s / 72057594037927936 : Nat) : Int) := by omega
  have hh : s / 72057594037927936 < 256 := by omega
  have hm : s / 72057594037927936 ^^^ c < 256 := Nat.xor_lt_two_pow (n := 8) hh hc
  have ht := csfByte_table hs hc
  have o1 := Go.u8_xor_nat (s / 72057594037927936) c hh hc
  have hel := csfByte_lt (s := 0) (by decide) (s / 72057594037927936 ^^^ c)
  have hmm : (256 * s) % 18446744073709551616 < 18446744073709551616 := Nat.mod_lt _ (by decide)
  have o2 := Go.u64_xor_nat ((256 * s) % 18446744073709551616) (csfByte 0 (s / 72057594037927936 ^^^ c)) hmm hel
  rw [← ht] at o2
  have n1 : Hid (∀ w : World, Calls Try.prog 11 #[.int .u64 s, .slice (some ⟨w.heap.size, 0, none⟩) 1 1] (w.alloc (.cells #[.int .u8 c] 5)) fun r W' => r = .returned (.tuple #[.int .u64 (csfByte s c : Nat), .int .i64 0]) ∧ Below w.heap.size w W') := Go.Lib.hid fun w => by
    have := SNext_ok _ s _ 1 1 [(c : Int)] (lit_row w [(c : Int)] 1 (0, 0) rfl (by decide) hcb) hs (by decide)
    rw [q1] at this
    exact this.mono fun e w' ⟨h1, h2⟩ => ⟨h1, (below1 w _).trans (h2.mono (by simp))⟩
  have n2 : Hid (∀ w : World, Calls Try.prog 10 #[.slice (some ⟨w.heap.size, 0, none⟩) 1 1] (w.alloc (.cells #[.int .u8 c] 5)) fun r W' => r = .returned (.tuple #[.int .u64 (csfByte 0 c : Nat), .int .i64 0]) ∧ Below w.heap.size w W') := Go.Lib.hid fun w => by
    have := SSum_ok _ _ 1 1 [(c : Int)] (lit_row w [(c : Int)] 1 (0, 0) rfl (by decide) hcb) (by decide)
    rw [q2] at this
    exact this.mono fun e w' ⟨h1, h2⟩ => ⟨h1, (below1 w _).trans (h2.mono (by simp))⟩
  have hbl := csfByte_lt hs c
  have hcl := csfByte_lt (s := 0) (by decide) c
  obtain ⟨m, hmd⟩ : ∃ m, m = (256 * s) % 18446744073709551616 := ⟨_, rfl⟩
  obtain ⟨h, hhd⟩ : ∃ h, h = s / 72057594037927936 := ⟨_, rfl⟩
  rw [← hmd] at o2 hmm hw0
  rw [← hhd] at o1 o2 hm hel hh hw3
  obtain ⟨k, hk⟩ : ∃ k, k = h ^^^ c := ⟨_, rfl⟩
  obtain ⟨y, hy⟩ : ∃ y, y = csfByte s c := ⟨_, rfl⟩
  obtain ⟨z, hz⟩ : ∃ z, z = csfByte 0 c := ⟨_, rfl⟩
  rw [← hk] at hm o1 o2 hel
  rw [← hy] at n1 o2 hbl
  rw [← hz] at n2 hcl
  obtain ⟨e, he⟩ : ∃ e, e = csfByte 0 k := ⟨_, rfl⟩
  rw [← he] at hel o2
  have he' := Go.Lib.hid he
  have hz' := Go.Lib.hid hz
  clear ht hk hy b0 b1 wx0 wx1 he hz hmd hhd hcb q1 q2
  go_enter Try.func8, Try.ntmps8
  go_wp2_with (first
    | (go_at_call 9; ((with_reducible refine (STable_ok _).mono ?_)); rintro e' w1 ⟨v1, rfl, hown1, hb1⟩; obtain ⟨g, cp, rfl, hg1, hg2⟩ := own_pos hown1 (by decide); have g1 := Go.Lib.hid hb1; have t1 := Go.Lib.hid (tab_cell4 hown1 k hm); have t2 := Go.Lib.hid (tab_cell4 hown1 c hc); have hg2' := hg2; clear hown1 hb1)
    | (go_at_call 11; ((with_reducible refine (n1.out _).mono ?_)); rintro e' w2 ⟨rfl, hb2⟩; have g2 := Go.Lib.hid hb2; clear hb2)
    | (go_at_call 10; ((with_reducible refine (n2.out _).mono ?_)); rintro e' w3 ⟨rfl, hb3⟩; have g3 := Go.Lib.hid (g2.out.trans (hb3.mono g2.out.size)); have u1 := (g3.out.cell (p := ⟨g, k, none⟩) hg2').trans t1.out; have u2 := (g3.out.cell (p := ⟨g, c, none⟩) hg2').trans t2.out; rw [← he'.out] at u1; rw [← hz'.out] at u2; clear hb3)
    | (go_at_call 12; refine (alive4_ok _).mono ?_; rintro e' w4 ⟨rfl, hb4⟩; have g4 := Go.Lib.hid ((g1.out.trans (g3.out.mono g1.out.size)).trans (hb4.mono (Nat.le_trans g1.out.size g3.out.size))); clear hb4))
  go_ret
  exact ⟨rfl, g4.out⟩
end Go.Proofs.Ytgffegcflibclaa
