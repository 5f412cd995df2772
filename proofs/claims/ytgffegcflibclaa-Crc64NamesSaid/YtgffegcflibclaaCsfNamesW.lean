/- Crc64Names: the examples, known sums, limits, and that tables are new. -/
import Derived.Test.YtgffegcflibclaaCsfPartsW
namespace Go.Proofs.Ytgffegcflibclaa
open Go.RowKit Cad

theorem sum_2 : csfB 0 [2] = 9647207206396128550 := by kernel_rfl
theorem csf_byte1 : csfByte 0 1 = 4823603603198064275 := by kernel_rfl
theorem csf_byte2 : csfByte 0 2 = 9647207206396128550 := by kernel_rfl

set_option maxRecDepth 100000 in
set_option maxHeartbeats 2000000 in
theorem crc64Names_walk (W : World) :
    Calls Try.prog 3 #[] W fun e w' => e = .returned (.bool true) ∧ Below W.heap.size W w' := by
  obtain ⟨n, hn⟩ : ∃ n : Nat, n = 100001 := ⟨_, rfl⟩
  obtain ⟨m, hm⟩ : ∃ m : Nat, m = 100000 := ⟨_, rfl⟩
  have hnI : (100001 : Int) = (n : Int) := by omega
  have hmI : (100000 : Int) = (m : Int) := by omega
  have many1 : Hid (∀ w a c, Calls Try.prog 10 #[.slice a n c] w fun r W' => r = .returned (.tuple #[.int .u64 0, .int .i64 4]) ∧ Below w.heap.size w W') := Go.Lib.hid fun w a c => SSum_many w a n c (by omega) (by omega)
  have many2 : Hid (∀ w a c, Calls Try.prog 11 #[.int .u64 0, .slice a n c] w fun r W' => r = .returned (.tuple #[.int .u64 0, .int .i64 4]) ∧ Below w.heap.size w W') := Go.Lib.hid fun w a c => SNext_many w 0 a n c (by omega) (by omega)
  have full : Hid (∀ w a c, Row .u8 w a m c (List.replicate m 0) → Calls Try.prog 10 #[.slice a m c] w fun r W' => r = .returned (.tuple #[.int .u64 0, .int .i64 0]) ∧ Below w.heap.size w W') := Go.Lib.hid fun w a c h => by
    have := SSum_ok w a m c _ h (by omega)
    rwa [csfB_zeros] at this
  have hz : Hid (∀ x ∈ List.replicate m (0 : Int), (Lit.int .u8 x).wf = true) := Go.Lib.hid fun x hx => by rw [List.eq_of_mem_replicate hx]; decide
  have two : Hid (∀ w : World, Calls Try.prog 10 #[.slice (some ⟨w.heap.size, 0, none⟩) 1 1] (w.alloc (.cells #[.int .u8 2] 5)) fun e W' => e = .returned (.tuple #[.int .u64 9647207206396128550, .int .i64 0]) ∧ Below w.heap.size w W') := Go.Lib.hid fun w => by
    have := SSum_ok _ _ 1 1 [2] (lit_row w [2] 1 (0, 0) rfl (by decide) (by decide)) (by decide)
    rw [sum_2] at this
    exact this.mono fun e w' ⟨h1, h2⟩ => ⟨h1, (below1 w _).trans (h2.mono (by simp))⟩
  have same : Hid (∀ w, Calls Try.prog 11 #[.int .u64 5, .slice none 0 0] w fun e W' => e = .returned (.tuple #[.int .u64 5, .int .i64 0]) ∧ Below w.heap.size w W') := Go.Lib.hid fun w => SNext_ok w 5 none 0 0 [] (Row.nil_row _ _) (by decide) (by decide)
  have hn' := Go.Lib.hid hnI
  have hm' := Go.Lib.hid hmI
  have hnb : n ≤ 17592186044416 := by omega
  have hmb : m ≤ 17592186044416 := by omega
  clear hn hm hnI hmI
  go_enter Try.func3, Try.ntmps3
  go_wp2_with (go_at_call 9; ((with_reducible refine (STable_ok _).mono ?_)); rintro e w1 ⟨v1, rfl, hown1, hb1⟩; obtain ⟨g, c, rfl, hg1, hg2⟩ := own_pos hown1 (by decide))
  go_loopw [2] (fun i wr => ∃ (k : Nat) (lk : List Int), k ≤ 256 ∧ i = .int .i64 k ∧ wr.ownsRow W.heap.size 24 1 (.slice (some ⟨g, 0, none⟩) 256 c) 256 (nums .u64 lk) ∧ Below W.heap.size W wr) (fun i _ => 256 - (intOf i).toNat)
  case atStart => exact ⟨0, csfTab, by omega, rfl, hown1, hb1⟩
  case round =>
    obtain ⟨k, lk, hk, rfl, hown, hb⟩ := hrel
    clear hown1 hb1
    by_cases hlt : k < 256
    · have hc1 := hown.cellAt k (by omega)
      have hf1 := hown.frozenAt k
      have hlk : lk.length = 256 := by have := hown.1; simpa [nums] using this
      rw [show (nums .u64 lk)[k]? = some (.int .u64 (lk.getD k 0)) by simp [nums, List.getD, show k < lk.length by omega]] at hc1
      have hst : Hid ((wr.setCell ⟨g, k, none⟩ (.int .u64 7)).ownsRow W.heap.size 24 1 (.slice (some ⟨g, 0, none⟩) 256 c) 256 (nums .u64 (lk.set k 7))) := Go.Lib.hid (by
        have := (hown.stored k (.int .u64 7)).1
        rwa [show (nums .u64 lk).set k (.int .u64 7) = nums .u64 (lk.set k 7) by simp [nums, List.map_set]] at this)
      have hb' := Go.Lib.hid hb
      clear hown hb hlk
      go_wp2
      exact ⟨⟨k + 1, _, by omega, by go_num, hst.out, hb'.out.setCell (p := ⟨g, k, none⟩) hg1 _⟩, by simp [intOf]; omega⟩
    · obtain rfl : k = 256 := by omega
      have H := Go.Lib.hid hb
      clear hown hb
      go_wp2_with (first
        | (go_at_call 9; ((with_reducible refine (STable_ok _).mono ?_)); rintro e w2 ⟨v2, rfl, hown2, hb2⟩; obtain ⟨g2, c2, rfl, hq1, hq2⟩ := own_pos hown2 (by decide); have t0 := Go.Lib.hid (tab_cell4 hown2 0 (by decide)); have t1 := Go.Lib.hid (tab_cell4 hown2 1 (by decide)); have t2 := Go.Lib.hid (tab_cell4 hown2 2 (by decide)); have H2 := Go.Lib.hid (H.out.trans (hb2.mono H.out.size)); have G2 := Go.Lib.hid (Below.refl w2.heap.size w2); clear hown2 hb2)
        | (at_make; refine law_make elU8 _ rfl _ _ rfl .i64 .i64 100001 100001 n rfl rfl hn'.out hn'.out hnb ?_; intro w3 hown3 hb3 hs3; have G3 := Go.Lib.hid (G2.out.trans (hb3.mono G2.out.size)); clear hown3 hb3 hs3)
        | (go_at_call 10; ((with_reducible refine (many1.out _ _ _).mono ?_)); rintro e w4 ⟨rfl, hb4⟩; have G4 := Go.Lib.hid (G3.out.trans (hb4.mono G3.out.size)); clear hb4)
        | (at_make; refine law_make elU8 w4 rfl _ _ rfl .i64 .i64 100001 100001 n rfl rfl hn'.out hn'.out hnb ?_; intro w5 hown5 hb5 hs5; have G5 := Go.Lib.hid (G4.out.trans (hb5.mono G4.out.size)); clear hown5 hb5 hs5)
        | (go_at_call 11; ((with_reducible refine (many2.out _ _ _).mono ?_)); rintro e w6 ⟨rfl, hb6⟩; have G6 := Go.Lib.hid (G5.out.trans (hb6.mono G5.out.size)); clear hb6)
        | (at_make; refine law_make elU8 w6 rfl _ _ rfl .i64 .i64 100000 100000 m rfl rfl hm'.out hm'.out hmb ?_; intro w7 hown7 hb7 hs7; have R7 := Go.Lib.hid (Row.of_own hown7 hz.out); have G7 := Go.Lib.hid (G6.out.trans (hb7.mono G6.out.size)); clear hown7 hb7 hs7)
        | (go_at_call 10; ((with_reducible refine (full.out _ _ _ ?hrow).mono ?_)); (case hrow => exact R7.out); rintro e w8 ⟨rfl, hb8⟩; have G8 := Go.Lib.hid (G7.out.trans (hb8.mono G7.out.size)); clear hb8)
        | (go_at_call 11; ((with_reducible refine (same.out _).mono ?_)); rintro e w9 ⟨rfl, hb9⟩; have G9 := Go.Lib.hid (G8.out.trans (hb9.mono G8.out.size)); clear hb9)
        | (go_at_call 10; ((with_reducible refine (two.out _).mono ?_)); rintro e w10 ⟨rfl, hb10⟩; have G10 := Go.Lib.hid (G9.out.trans (hb10.mono G9.out.size)); have u0 := (G10.out.cell (p := ⟨g2, 0, none⟩) hq2).trans t0.out; have u1 := (G10.out.cell (p := ⟨g2, 1, none⟩) hq2).trans t1.out; have u2 := (G10.out.cell (p := ⟨g2, 2, none⟩) hq2).trans t2.out; rw [csf_byte0] at u0; rw [csf_byte1] at u1; rw [csf_byte2] at u2; clear hb10)
        | (go_at_call 12; refine (alive4_ok _).mono ?_; rintro e w12 ⟨rfl, hb12⟩; have G12 := Go.Lib.hid (G10.out.trans (hb12.mono G10.out.size)); clear hb12))
      go_ret
      exact ⟨rfl, H2.out.trans (G12.out.mono H2.out.size)⟩
end Go.Proofs.Ytgffegcflibclaa
