/- Contracts of the reference's functions on bits: joined. -/
import Derived.Test.YtogkiopdcmeddaaBitC
namespace Go.Proofs.Ytogkiopdcmeddaa
open Go.RowKit Cad

theorem join_snoc (A B : List Bool) {k : Nat} (hk : k < B.length) : A ++ B.take (k + 1) = (A ++ B.take k) ++ [B.getD k false] := by
  rw [List.take_add_one, List.append_assoc]
  simp [List.getD, hk]
theorem join_len (A B : List Bool) {k : Nat} (hk : k ≤ B.length) : (A ++ B.take k).length = A.length + k := by simp; omega
theorem Kept.of {base : Nat} {W w : World} (h : Below W.heap.size W w) (hb : base ≤ W.heap.size) : Kept base W w := ⟨h.mono hb, fun k hk _ => h.block k hk⟩

set_option maxHeartbeats 1000000 in
theorem RJoin_ok (W : World) (a : Option Addr) (len cap : Nat) (A : List Bool) (hr : Row .u8 W a len cap (pack A)) (hN : (Lit.int .i64 (A.length : Int)).wf = true)
    (a' : Option Addr) (len' cap' : Nat) (B : List Bool) (hr' : Row .u8 W a' len' cap' (pack B)) (hN' : (Lit.int .i64 (B.length : Int)).wf = true) (hAB : A.length + B.length ≤ 330000) :
    Calls Try.prog 10 #[.agg #[.slice a len cap, .int .i64 A.length], .agg #[.slice a' len' cap', .int .i64 B.length]] W fun e W' => ∃ v', e = .returned (.tuple #[.agg #[v', .int .i64 ((A.length + B.length : Nat) : Int)], .int .i64 0]) ∧
      W'.ownsRow W.heap.size 5 1 v' (((A ++ B).length + 7) / 8) (nums .u8 (pack (A ++ B))) ∧ Below W.heap.size W W' := by
  have hl := hr.hlen
  have hl' := hr'.hlen
  rw [pack_len] at hl hl'
  have hbE := (((Below.refl W.heap.size W).alloc (Nat.le_refl _) (.cells #[.slice a len cap, .int .i64 A.length] 24)).alloc (by simp) (.cells #[.slice a' len' cap', .int .i64 B.length] 24)).alloc (by simp; omega) (.cells #[.slice none 0 0, .int .i64 0] 24)
  obtain ⟨W0, hW0⟩ : ∃ W0, W0 = ((W.alloc (.cells #[.slice a len cap, .int .i64 A.length] 24)).alloc (.cells #[.slice a' len' cap', .int .i64 B.length] 24)).alloc (.cells #[.slice none 0 0, .int .i64 0] 24) := ⟨_, rfl⟩
  have hs0 : W0.heap.size = W.heap.size + 1 + 1 + 1 := by rw [hW0]; simp
  have hx0 : BoxAt W0 W.heap.size (.slice a len cap) A.length := by
    rw [hW0]; unfold BoxAt; rw [Below.heap_alloc _ _ _ (by simp; omega), Below.heap_alloc _ _ _ (by simp), heap_alloc_new]
  have hb0 : BoxAt W0 (W.heap.size + 1) (.slice a' len' cap') B.length := by
    rw [hW0]; unfold BoxAt; rw [Below.heap_alloc _ _ _ (by simp), heap_alloc2_new]
  have hy0 : BoxAt W0 (W.heap.size + 1 + 1) (.slice none 0 0) 0 := by
    have := heap_alloc_new ((W.alloc (.cells #[.slice a len cap, .int .i64 A.length] 24)).alloc (.cells #[.slice a' len' cap', .int .i64 B.length] 24)) (.cells #[.slice none 0 0, .int .i64 0] 24)
    rw [show ((W.alloc (.cells #[.slice a len cap, .int .i64 A.length] 24)).alloc (.cells #[.slice a' len' cap', .int .i64 B.length] 24)).heap.size = W.heap.size + 1 + 1 by simp] at this
    rw [hW0]; exact this
  rw [← hW0] at hbE
  have hrE := hr.below hbE (Nat.le_refl _)
  have hrE' := hr'.below hbE (Nat.le_refl _)
  have hck1 := Go.Lib.hid (RCheck_any W0 a len cap A.length (pack A) hrE hN 0 (.inl ⟨⟨A, rfl, by omega, rfl⟩, rfl⟩))
  have hck2 : Hid (∀ w1, Below W0.heap.size W0 w1 → Calls Try.prog 18 #[.agg #[.slice a' len' cap', .int .i64 B.length]] w1 fun e W' => e = .returned (.int .i64 0) ∧ Below w1.heap.size w1 W') :=
    Go.Lib.hid fun w1 h1 => RCheck_any w1 a' len' cap' B.length (pack B) (hrE'.below h1 (Nat.le_refl _)) hN' 0 (.inl ⟨⟨B, rfl, by omega, rfl⟩, rfl⟩)
  have htw : Hid (∀ w2, Below W0.heap.size W0 w2 → Calls Try.prog 25 #[.agg #[.slice a len cap, .int .i64 A.length]] w2 fun e W' => ∃ v', e = .returned (.agg #[v', .int .i64 A.length]) ∧
      W'.ownsRow w2.heap.size 5 1 v' len (nums .u8 (pack A)) ∧ Below w2.heap.size w2 W') := Go.Lib.hid fun w2 h2 => RTwin_ok w2 a len cap A.length (pack A) (hrE.below h2 (Nat.le_refl _)) (by omega)
  have hx0' := Go.Lib.hid hx0
  have hb0' := Go.Lib.hid hb0
  have hy0' := Go.Lib.hid hy0
  have hbE' := Go.Lib.hid hbE
  have hl1 := Go.Lib.hid hl
  have hl2 := Go.Lib.hid hl'
  have hsA : ((A.length : Int) + (B.length : Int) ≤ 330000) := by omega
  clear hx0 hb0 hy0 hbE hrE hrE' hN hN' hl hl'
  go_enter Try.func10, Try.ntmps10
  go_wp2_with (first
    | (go_at_call 18; rw [← hW0]; refine hck1.out.mono ?_; rintro e w1 ⟨rfl, hb1⟩; obtain ⟨c0, c1, c2, c3⟩ := (hx0'.out.below hb1 (by omega)).cells; obtain ⟨d0, d1, d2, d3⟩ := (hb0'.out.below hb1 (by omega)).cells; have hb1' := Go.Lib.hid hb1; clear hb1 hW0)
    | (go_at_call 18; refine (hck2.out _ hb1'.out).mono ?_; rintro e w2 ⟨rfl, hb2⟩; have hb12 := hb1'.out.trans (hb2.mono hb1'.out.size); obtain ⟨e0, e1, e2, e3⟩ := (hx0'.out.below hb12 (by omega)).cells; obtain ⟨f0, f1, f2, f3⟩ := (hb0'.out.below hb12 (by omega)).cells; have hb2' := Go.Lib.hid hb12; clear hb2 hb12)
    | (go_at_call 25; refine (htw.out _ hb2'.out).mono ?_; rintro e w3 ⟨v3, rfl, hown3, hb3⟩; obtain ⟨a3, cp3, rfl⟩ := own_form hown3; have hb13 := hb2'.out.trans (hb3.mono hb2'.out.size); obtain ⟨g0, g1, g2, g3⟩ := (hx0'.out.below hb13 (by omega)).cells; obtain ⟨i0, i1, i2, i3⟩ := (hb0'.out.below hb13 (by omega)).cells; obtain ⟨j0, j1, j2, j3⟩ := (hy0'.out.below hb13 (by omega)).cells; have hb3' := Go.Lib.hid hb13; have ho3' := Go.Lib.hid hown3; have hs2 := Go.Lib.hid hb2'.out.size; have hs3 := hb13.size; have n0 : W.heap.size ≠ w3.heap.size := (by omega); have n1 : W.heap.size + 1 ≠ w3.heap.size := (by omega); have n2 : W.heap.size + 1 + 1 ≠ w3.heap.size := (by omega); have k0 : W.heap.size < w3.heap.size := (by omega); have k1 : W.heap.size + 1 < w3.heap.size := (by omega); have k2 : W.heap.size + 1 + 1 < w3.heap.size := (by omega); clear hb3 hb13 hown3))
  have hbW3 := hbE'.out.trans (hb3'.out.mono (by omega))
  have hs2' := hs2.out
  obtain ⟨z, hz⟩ : ∃ z, z = w3.heap.size := ⟨_, rfl⟩
  have hz0 : BoxAt (w3.alloc (.cells #[.slice a3 len cp3, .int .i64 A.length] 24)) z (.slice a3 len cp3) A.length := by
    rw [hz]; unfold BoxAt; rw [heap_alloc_new]
  have hb4 := (hb0'.out.below hb3'.out (by omega)).alloc (.cells #[.slice a3 len cp3, .int .i64 A.length] 24)
  have hy4 := (hy0'.out.below hb3'.out (by omega)).alloc (.cells #[.slice a3 len cp3, .int .i64 A.length] 24)
  have hk4 : Kept W.heap.size W (w3.alloc (.cells #[.slice a3 len cp3, .int .i64 A.length] 24)) := (Kept.of hbW3 (Nat.le_refl _)).alloc (Nat.le_refl _) _
  have ho4 := (own_base ho3'.out (show W.heap.size ≤ _ by omega)).alloc (.cells #[.slice a3 len cp3, .int .i64 A.length] 24)
  rw [← hz]
  rw [← hz] at n0 n1 n2 k0 k1 k2
  have hz' := Go.Lib.hid hz
  clear hz g0 g1 g2 g3 i0 i1 i2 i3 j0 j1 j2 j3 hs3 hs2' hs0
  go_loopw [7] (fun i wr => ∃ (k : Nat) (vk : Value), k ≤ B.length ∧ i = .int .i64 k ∧ wr.ownsRow W.heap.size 5 1 vk (((A ++ B.take k).length + 7) / 8) (nums .u8 (pack (A ++ B.take k))) ∧
    BoxAt wr (W.heap.size + 1) (.slice a' len' cap') B.length ∧ BoxAt wr (W.heap.size + 1 + 1) (.slice none 0 0) 0 ∧ BoxAt wr z vk ((A ++ B.take k).length : Int) ∧ Kept W.heap.size W wr) (fun i _ => B.length - (intOf i).toNat)
  case atStart => exact ⟨0, _, Nat.zero_le _, rfl, by simpa [hl1.out] using ho4, hb4, hy4, by simpa using hz0, hk4⟩
  case round =>
    obtain ⟨k, vk, hk2, rfl, hok, hxk, hyk, hzk, hkk⟩ := hrel
    clear hb4 hy4 hz0 hk4 ho4
    obtain ⟨ak, ck, rfl⟩ := own_form hok
    by_cases hlt : k < B.length
    · obtain ⟨C, hC⟩ : ∃ C, C = A ++ B.take k := ⟨_, rfl⟩
      have hCl := join_len A B (by omega : k ≤ B.length)
      have hsn := Go.Lib.hid (join_snoc A B hlt)
      rw [← hC] at hok hzk hCl hsn
      obtain ⟨b, hb⟩ : ∃ b, b = B.getD k false := ⟨_, rfl⟩
      rw [← hb] at hsn
      have hbit := Go.Lib.hid ((bit_pack B k).trans hb.symm)
      obtain ⟨mk, hmk⟩ : ∃ mk, mk = (C.length + 7) / 8 := ⟨_, rfl⟩
      have hadd : Hid (∀ wA, wA.ownsRow W.heap.size 5 1 (.slice ak mk ck) mk (nums .u8 (pack C)) → W.heap.size ≤ wA.heap.size → Calls Try.prog 26 #[.agg #[.slice ak mk ck, .int .i64 C.length], .int .i64 (bI b)] wA fun e W' => ∃ v', e = .returned (.agg #[v', .int .i64 ((C.length + 1 : Nat) : Int)]) ∧
          W'.ownsRow W.heap.size 5 1 v' (((C ++ [b]).length + 7) / 8) (nums .u8 (pack (C ++ [b]))) ∧ Kept W.heap.size wA W') := Go.Lib.hid (fun wA h h' => RAdd_any wA W.heap.size (.slice ak mk ck) C b (by rw [← hmk]; exact h) h' (by omega))
      rw [← hmk] at hok hzk
      have hidx : k / 8 < len' := by have := hl2.out; omega
      obtain ⟨x0, x1, x2, x3⟩ := hxk.cells
      obtain ⟨z0, z1, z2, z3⟩ := hzk.cells
      have hrk := Go.Lib.hid (hr'.below hkk.bel.drew (Nat.le_refl _))
      have hok' := Go.Lib.hid hok
      have hx' := Go.Lib.hid hxk
      have hy' := Go.Lib.hid hyk
      have hzz := Go.Lib.hid hzk
      have hk' := Go.Lib.hid hkk
      have hsz0 := hkk.bel.size
      have hzlt := hzk.lt
      have hxlt := hxk.lt
      clear hC hb hmk hok hxk hyk hzk hkk hCl
      go_wp2
      go_region_law (first
        | (go_simp; go_at_call 27; refine (RAt_ok _ a' len' cap' B.length (pack B) hrk.out k hidx).mono ?_; rintro e wA ⟨rfl, hbA⟩; rw [hbit.out]; have hbA' := Go.Lib.hid hbA; obtain ⟨y0, y1, y2, y3⟩ := (hzz.out.drew.below hbA hzlt).cells; obtain ⟨q0, q1, q2, q3⟩ := (hx'.out.drew.below hbA hxlt).cells; clear hbA)
        | (go_simp; go_at_call 26; refine (hadd.out _ (own_below hok'.out.drew hbA'.out (Nat.le_refl _)) (Nat.le_trans hsz0 hbA'.out.size)).mono ?_; rintro e wB ⟨v1, rfl, hownB, hkB⟩; obtain ⟨a1, c1, rfl⟩ := own_form hownB; obtain ⟨p0, p1, p2, p3⟩ := ((hzz.out.drew.below hbA'.out hzlt).kept hkB).cells; have hkB' := Go.Lib.hid hkB; have hoB' := Go.Lib.hid hownB; clear hkB hownB))
      all_goals go_wp2
      all_goals
        have hf := added (N1 := (C.length : Int) + 1) hk'.out hbA'.out hkB'.out hoB'.out hx'.out hy'.out hzz.out (by omega) (by omega) (by omega)
        have hl1 : (C ++ [b]).length = C.length + 1 := by simp
        rw [hl1] at hf
        obtain ⟨f1, f2, f3, f4, f5⟩ := hf
        refine ⟨⟨k + 1, .slice a1 ((C.length + 1 + 7) / 8) c1, by omega, by go_num, ?_, f2, f3, ?_, f5⟩, by simp [intOf]; omega⟩
        · rw [hsn.out, hl1]; exact f1
        · rw [hsn.out, hl1]; exact f4
    · obtain rfl : k = B.length := by omega
      rw [List.take_length] at hok hzk
      obtain ⟨mk, hmk⟩ : ∃ mk, mk = ((A ++ B).length + 7) / 8 := ⟨_, rfl⟩
      have hmk' := Go.Lib.hid hmk
      rw [← hmk] at hok hzk
      obtain ⟨nn, hnn⟩ : ∃ nn, nn = (A ++ B).length := ⟨_, rfl⟩
      have hnn' := Go.Lib.hid (hnn.trans List.length_append)
      rw [← hnn] at hzk
      obtain ⟨x0, x1, x2, x3⟩ := hxk.cells
      obtain ⟨z0, z1, z2, z3⟩ := hzk.cells
      obtain ⟨y0, y1, y2, y3⟩ := hyk.cells
      have hok' := Go.Lib.hid hok
      have hy' := Go.Lib.hid hyk
      have hk' := Go.Lib.hid hkk
      clear hok hxk hyk hzk hkk hmk hnn
      go_wp2
      (try simp only [Exit.inBlock, Exit.then])
      refine bodyPost_ret (results_box_tmp (by rfl) _ _ (W.heap.size + 1 + 1) _ _ rfl (hy'.out.set _ _)) rfl ?_
      have ap := hy'.out.apart hok'.out
      refine ⟨.slice ak mk ck, by rw [← hnn'.out]; simp, ?_, ((hk'.out.setCell (Nat.le_refl _) (by simp; omega) _).setCell (Nat.le_refl _) (by simp; omega) _).bel⟩
      rw [← hmk'.out]
      exact own_set (own_set hok'.out ap _ _) ap _ _
end Go.Proofs.Ytogkiopdcmeddaa
