/- Contracts of the package bits: join. -/
import Derived.Test.YtahefkjgcdchlaaMyBitC
import Derived.Test.YtahefkjgcdchlaaByte
namespace Go.Proofs.Ytahefkjgcdchlaa
open Go.RowKit Cad

theorem Bjoin_ok (W : World) (a : Option Addr) (len cap : Nat) (A : List Bool) (hr : Row .u8 W a len cap (pack A)) (a' : Option Addr) (len' cap' : Nat) (B : List Bool) (hr' : Row .u8 W a' len' cap' (pack B)) (hAB : A.length + B.length ≤ 330000) :
    Calls Try.prog 33 #[.agg #[.slice a len cap, .int .i64 A.length], .agg #[.slice a' len' cap', .int .i64 B.length]] W fun e W' => ∃ b c, e = .returned (.tuple #[.agg #[.slice b (((A ++ B).length + 7) / 8) c, .int .i64 ((A.length + B.length : Nat) : Int)], .int .i64 0]) ∧
      Row .u8 W' b (((A ++ B).length + 7) / 8) c (pack (A ++ B)) ∧ Below W.heap.size W W' := by
  have hl := hr.hlen
  have hl' := hr'.hlen
  rw [pack_len] at hl hl'
  have hbE := (((Below.refl W.heap.size W).alloc (Nat.le_refl _) (.cells #[.slice a len cap, .int .i64 A.length] 28)).alloc (by simp) (.cells #[.slice a' len' cap', .int .i64 B.length] 28)).alloc (by simp; omega) (.cells #[.slice none 0 0, .int .i64 0] 28)
  obtain ⟨W0, hW0⟩ : ∃ W0, W0 = ((W.alloc (.cells #[.slice a len cap, .int .i64 A.length] 28)).alloc (.cells #[.slice a' len' cap', .int .i64 B.length] 28)).alloc (.cells #[.slice none 0 0, .int .i64 0] 28) := ⟨_, rfl⟩
  have hs0 : W0.heap.size = W.heap.size + 1 + 1 + 1 := by rw [hW0]; simp
  have hx0 : BoxAt W0 W.heap.size (.slice a len cap) A.length := by
    rw [hW0]; unfold BoxAt; rw [Below.heap_alloc _ _ _ (by simp; omega), Below.heap_alloc _ _ _ (by simp), heap_alloc_new]
  have hb0 : BoxAt W0 (W.heap.size + 1) (.slice a' len' cap') B.length := by
    rw [hW0]; unfold BoxAt; rw [Below.heap_alloc _ _ _ (by simp), heap_alloc2_new]
  have hy0 : BoxAt W0 (W.heap.size + 1 + 1) (.slice none 0 0) 0 := by
    have := heap_alloc_new ((W.alloc (.cells #[.slice a len cap, .int .i64 A.length] 28)).alloc (.cells #[.slice a' len' cap', .int .i64 B.length] 28)) (.cells #[.slice none 0 0, .int .i64 0] 28)
    rw [show ((W.alloc (.cells #[.slice a len cap, .int .i64 A.length] 28)).alloc (.cells #[.slice a' len' cap', .int .i64 B.length] 28)).heap.size = W.heap.size + 1 + 1 by simp] at this
    rw [hW0]; exact this
  rw [← hW0] at hbE
  have hrE := hr.below hbE (Nat.le_refl _)
  have hrE' := hr'.below hbE (Nat.le_refl _)
  obtain ⟨c0, c1, c2, c3⟩ := hx0.cells
  obtain ⟨d0, d1, d2, d3⟩ := hb0.cells
  obtain ⟨m, hm⟩ : ∃ m, m = ((A ++ B).length + 7) / 8 := ⟨_, rfl⟩
  obtain ⟨f, s, hf⟩ : ∃ f s : Nat, f = A.length / 8 ∧ s = A.length % 8 ∧ s < 8 ∧ A.length = 8 * f + s := ⟨_, _, rfl, rfl, by omega, by omega⟩
  have hff := Go.Lib.hid hf
  have e8 : Hid (IntKind.i64.wrap ((A.length : Int) / 8) = (f : Int)) := Go.Lib.hid (by rw [IntWalk.i64_in _ (by omega)]; omega)
  have e9 : Hid ((A.length : Int).tmod 8 = (s : Int)) := Go.Lib.hid (by rw [Int.tmod_eq_emod_of_nonneg (by omega)]; omega)
  clear hf
  have hsz : Hid (∀ w, Calls Try.prog 42 #[.int .i64 ((A.length : Int) + (B.length : Int))] w fun e W' => e = .returned (.int .i64 (m : Int)) ∧ w = W') := Go.Lib.hid (fun w => by
    have := Bsize_ok w (A.length + B.length) (by omega)
    rw [← List.length_append, ← hm] at this
    rw [List.length_append] at this
    exact_mod_cast this)
  have hmb : m ≤ 41250 := by rw [hm, List.length_append]; omega
  rw [← hm]
  have hx0' := Go.Lib.hid hx0
  have hb0' := Go.Lib.hid hb0
  have hy0' := Go.Lib.hid hy0
  have hbE' := Go.Lib.hid hbE
  have hrA := Go.Lib.hid hrE
  have hrB := Go.Lib.hid hrE'
  have hl1 := Go.Lib.hid hl
  have hl2 := Go.Lib.hid hl'
  have hm' := Go.Lib.hid hm
  have hlm : len ≤ m + 1 := by rw [hm, List.length_append]; omega
  have hsA : ((A.length : Int) + (B.length : Int) ≤ 330000) := by omega
  have hs0' := Go.Lib.hid hs0
  clear hx0 hb0 hy0 hbE hrE hrE' hl hl' hm hr hr'
  go_enter Try.func33, Try.ntmps33
  go_wp2_with (first
    | (go_at_call 42; rw [← hW0]; refine (hsz.out _).mono ?_; rintro e w1 ⟨rfl, rfl⟩; clear hW0)
    | (refine law_make elU8 _ rfl _ _ rfl .i64 .i64 _ _ (m + 1) rfl rfl (by omega) (by omega) (by omega) ?_; intro w1 hown1 hb1 hs1; simp only [hs0] at hown1 hb1 hs1; obtain ⟨e0, e1, e2, e3⟩ := (hx0'.out.below hb1 (by omega)).cells; have hrA1 := (hrA.out.below hb1 (Nat.le_of_eq hs0)); have hown1' := Go.Lib.hid hown1; have hb1' := Go.Lib.hid hb1; clear hown1 hb1)
    | (with_reducible show wpList _ _ _ _ _ _; refine law_copyRow elU8 _ rfl _ _ _ rfl (W.heap.size + 1 + 1 + 1) (W.heap.size + 1 + 1 + 1) (m + 1) (m + 1) (List.replicate (m + 1) 0) rfl hown1'.out a len cap (pack A) rfl hrA1 hlm ?_; intro w2 hown2 hb2; have hb12 := (hb1'.out.trans hb2); obtain ⟨f0, f1, f2, f3⟩ := (hx0'.out.below hb12 (by omega)).cells; obtain ⟨g0, g1, g2, g3⟩ := (hb0'.out.below hb12 (by omega)).cells; have hown2' := Go.Lib.hid hown2; have hb2' := Go.Lib.hid hb12; clear hown2 hb2 hb12))
  go_quiet (fail)
  go_wp2
  have hbE2 := Below.drewN hb2'.out nq
  obtain ⟨w3, hw3⟩ : ∃ w3, w3 = w2.drewN nq := ⟨_, rfl⟩
  have hown3 : w3.ownsRow (W.heap.size + 1 + 1 + 1) 5 1 (.slice (some ⟨W.heap.size + 1 + 1 + 1, 0, none⟩) (m + 1) (m + 1)) (m + 1) (nums .u8 (pack A ++ List.drop len (List.replicate (m + 1) 0))) := by rw [hw3]; exact hown2'.out
  rw [← hw3] at hbE2 ⊢
  have hb3' := Go.Lib.hid hbE2
  have hs3 : W.heap.size + 1 + 1 + 1 ≤ w3.heap.size := by have := hbE2.size; omega
  clear hw3 hbE2 hrA1 e0 e1 e2 e3 f0 f1 f2 f3 g0 g1 g2 g3 c0 c1 c2 c3 d0 d1 d2 d3 hown1' hb1' hs1 hs0 hown2' hb2'
  simp only [e8.out, e9.out]
  go_loopw [38] (fun i wr => ∃ (k : Nat) (l : List Int), k ≤ len' ∧ i = .int .i64 k ∧ IsB l (m + 1) (A ++ B.take (8 * k)) ∧
    wr.ownsRow (W.heap.size + 1 + 1 + 1) 5 1 (.slice (some ⟨W.heap.size + 1 + 1 + 1, 0, none⟩) (m + 1) (m + 1)) (m + 1) (nums .u8 l) ∧ Below (W.heap.size + 1 + 1 + 1) W0 wr) (fun i _ => len' - (intOf i).toNat)
  case atStart => exact ⟨0, _, Nat.zero_le _, rfl, by rw [← hl1.out]; simpa using isB_start A (by have := hl1.out; omega), hown3, hb3'.out⟩
  case round =>
    obtain ⟨k, l, hk, rfl, hB, hown, hbk⟩ := hrel
    by_cases hlt : k < len'
    · obtain ⟨b', off, rfl, hlt', hc⟩ := (hrB.out.below hbk (Nat.le_of_eq hs0'.out)).cells (by omega)
      have hs8 := hff.out.2.2.1
      have hfk : f + k + 1 < m + 1 := by have := hff.out.2.2.2; have := hm'.out; have := hl2.out; rw [List.length_append] at *; omega
      obtain ⟨d, hd, hd8⟩ := hB.byte (f + k)
      obtain ⟨e, he, he8⟩ := hB.byte (f + k + 1)
      have hst := Go.Lib.hid (join_step hB hff.out.2.2.2 hs8 hfk hd hd8 he he8)
      have hcell := hc k hlt
      rw [pack_getD B k (by have := hl2.out; omega)] at hcell
      have hc8 := byteN_lt B k
      obtain ⟨c, hcc⟩ : ∃ c, c = byteN B k := ⟨_, rfl⟩
      rw [← hcc] at hcell hst hc8
      clear hcc
      have hx16 : c * 2 ^ s < 65536 := by
        have : 2 ^ s ≤ 128 := by rcases lt8 hs8 with h | h | h | h | h | h | h | h <;> rw [h] <;> decide
        calc c * 2 ^ s ≤ 255 * 128 := Nat.mul_le_mul (by omega) this
          _ < 65536 := by decide
      obtain ⟨x, hxx⟩ : ∃ x, x = c * 2 ^ s := ⟨_, rfl⟩
      rw [← hxx] at hst hx16
      have hmul : (c : Int) * 2 ^ s = (x : Int) := by rw [hxx]; simp
      have o1 := Go.u8_or_nat d (x % 256) hd8 (Nat.mod_lt _ (by decide))
      have o2 := Go.u8_or_nat e (x / 256) he8 (by omega)
      have lk : l.length = m + 1 := hB.1
      have hc1 := hown.cellAt (f + k) (by omega)
      have hc2 := hown.cellAt (f + k + 1) (by omega)
      have hf1 := hown.frozenAt (f + k)
      have hf2 := hown.frozenAt (f + k + 1)
      rw [show (nums .u8 l)[f + k]? = some (.int .u8 (d : Int)) by rw [← hd]; simp [nums, List.getD, show f + k < l.length by omega]] at hc1
      rw [show (nums .u8 l)[f + k + 1]? = some (.int .u8 (e : Int)) by rw [← he]; simp [nums, List.getD, show f + k + 1 < l.length by omega]] at hc2
      have hown' := Go.Lib.hid hown
      have hbk' := Go.Lib.hid hbk
      clear hxx hc hB hown hbk hd he lk hown3
      go_wp2
      rw [show ((x : Int) % 256) = ((x % 256 : Nat) : Int) by simp, show ((x : Int) / 256) = ((x / 256 : Nat) : Int) by simp, o1, o2]
      have h1 := (hown'.out.stored (f + k) (.int .u8 ((d ||| x % 256 : Nat) : Int))).1
      have h2 := (h1.stored (f + k + 1) (.int .u8 ((e ||| x / 256 : Nat) : Int))).1
      rw [nums_set, nums_set] at h2
      exact ⟨⟨k + 1, _, by omega, by go_num, hst.out, h2, (hbk'.out.setCell (Nat.le_refl _) _).setCell (Nat.le_refl _) _⟩, by simp [intOf]; omega⟩
    · obtain rfl : k = len' := by omega
      have hy := hy0'.out.below hbk (by omega)
      obtain ⟨y0, y1, y2, y3⟩ := hy.cells
      have hy' := Go.Lib.hid hy
      have hown' := Go.Lib.hid hown
      have hbk' := Go.Lib.hid hbk
      have hB' := Go.Lib.hid hB
      clear hy hB hown hbk hown3
      go_wp2_with (go_at_call 42; refine (hsz.out _).mono ?_; rintro e w5 ⟨rfl, rfl⟩)
      have ap := hy'.out.apart hown'.out
      have hfin : ∀ i, (A ++ B.take (8 * k)).getD i false = (A ++ B).getD i false := fun i => by
        rw [List.take_of_length_le (by have := hl2.out; omega)]
      have htk := isB_take hB'.out hfin (by have := hm'.out; omega)
      rw [← hm'.out] at htk
      refine bodyPost_ret (results_box_tmp (by rfl) _ _ (W.heap.size + 1 + 1) _ _ rfl (hy'.out.set _ _)) rfl ?_
      refine ⟨some ⟨W.heap.size + 1 + 1 + 1, 0, none⟩, m, by simp, ?_, ?_⟩
      · have h1 := Row.of_own (own_set (own_set hown'.out ap 0 (.slice (some ⟨W.heap.size + 1 + 1 + 1, 0, none⟩) m m)) ap 1 (.int .i64 ((A.length : Int) + (B.length : Int)))) (u8_wf hB'.out.2.1)
        have h2 := (h1.take m (by omega)).clip
        rw [htk] at h2
        exact h2
      · exact ((hbE'.out.trans (hbk'.out.mono (by omega))).setCell (by simp; omega) _).setCell (by simp; omega) _
end Go.Proofs.Ytahefkjgcdchlaa
