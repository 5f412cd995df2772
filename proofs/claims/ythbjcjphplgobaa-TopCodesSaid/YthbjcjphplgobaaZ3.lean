/- Texts of the proof, one behind the other: Byte, MyBitJ, ByteC, MyBitK, ByteN, MyBitN, MyBitG, MyBitH, BitC. -/
import Derived.Test.YthbjcjphplgobaaZ2
import Derived.Laws.BitsAllLaws
/- Bytes changed bit by bit: joining, cutting, clearing. No Go function in sight. -/
namespace Cad

theorem bit_tb (l : List Int) (i : Nat) : bit l i = (l.getD (i / 8) 0).toNat.testBit (i % 8) := by
  unfold bit
  rw [Nat.testBit_eq_decide_div_mod_eq]
  rfl
/-- bytes whose bits are C, and zeros -/
def IsB (l : List Int) (L : Nat) (C : List Bool) : Prop := l.length = L ∧ (∀ x ∈ l, 0 ≤ x ∧ x ≤ 255) ∧ ∀ i, bit l i = C.getD i false
theorem IsB.byte {l : List Int} {L : Nat} {C : List Bool} (h : IsB l L C) (p : Nat) : ∃ d : Nat, l.getD p 0 = d ∧ d < 256 := by
  have := Go.Proofs.Ythbjcjphplgobaa.getD_bd h.2.1 p
  exact ⟨(l.getD p 0).toNat, by omega, by omega⟩
theorem mem_set_bd {l : List Int} (h : ∀ x ∈ l, 0 ≤ x ∧ x ≤ 255) (p : Nat) {v : Int} (hv : 0 ≤ v ∧ v ≤ 255) : ∀ x ∈ l.set p v, 0 ≤ x ∧ x ≤ 255 := by
  intro x hx
  rcases List.mem_or_eq_of_mem_set hx with h' | rfl
  · exact h x h'
  · exact hv
theorem getD_set (l : List Int) (p j : Nat) (v : Int) (hp : p < l.length) : (l.set p v).getD j 0 = if j = p then v else l.getD j 0 := by
  simp only [List.getD, List.getElem?_set]
  by_cases h : p = j
  · subst h; simp [hp]
  · simp [h, Ne.symm h]
theorem bit_or (l : List Int) (p d x i : Nat) (hp : p < l.length) (hd : l.getD p 0 = d) : bit (l.set p ((d ||| x : Nat) : Int)) i = (bit l i || (decide (i / 8 = p) && x.testBit (i % 8))) := by
  rw [bit_tb, bit_tb, getD_set _ _ _ _ hp]
  by_cases h : i / 8 = p
  · subst h
    rw [if_pos rfl, hd]
    simp [Nat.testBit_or]
  · simp [h]
theorem or_lt256 {a b : Nat} (ha : a < 256) (hb : b < 256) : a ||| b < 256 := Nat.or_lt_two_pow (n := 8) ha hb

theorem isB_start (A : List Bool) {L : Nat} (h : (A.length + 7) / 8 ≤ L) : IsB (pack A ++ List.drop ((A.length + 7) / 8) (List.replicate L 0)) L A := by
  refine ⟨by simp [pack_len]; omega, ?_, fun i => ?_⟩
  · intro x hx
    rcases List.mem_append.1 hx with h' | h'
    · exact pack_wf A x h'
    · have := List.eq_of_mem_replicate (List.mem_of_mem_drop h')
      omega
  · rw [← bit_pack A i]
    have e : (pack A ++ List.drop ((A.length + 7) / 8) (List.replicate L 0)).getD (i / 8) 0 = (pack A).getD (i / 8) 0 := ?_
    · unfold bit; rw [e]
    by_cases hi : i / 8 < (A.length + 7) / 8
    · simp [List.getD, List.getElem?_append_left, pack_len, hi]
    · rw [getD_ge (pack A) _ (by rw [pack_len]; omega)]
      simp only [List.getD]
      rw [List.getElem?_append_right (by rw [pack_len]; omega)]
      simp [List.drop_replicate, List.getElem?_replicate]
      split <;> rfl

theorem byteN_tb (B : List Bool) (k t : Nat) : (byteN B k).testBit t = (decide (t < 8) && B.getD (8 * k + t) false) := by
  rw [Nat.testBit_eq_decide_div_mod_eq]
  by_cases h : t < 8
  · have := byteN_bit B k t h
    rw [← this]
    by_cases h' : byteN B k / 2 ^ t % 2 = 1 <;> simp [h, h']
  · have hz : byteN B k / 2 ^ t = 0 := Nat.div_eq_of_lt (Nat.lt_of_lt_of_le (byteN_lt B k) (Nat.pow_le_pow_right (n := 2) (by decide) (show 8 ≤ t by omega)))
    simp [h, hz]
theorem shl_tb (c s u : Nat) : (c * 2 ^ s).testBit u = (decide (s ≤ u) && c.testBit (u - s)) := by
  rw [← Nat.shiftLeft_eq, Nat.testBit_shiftLeft]

theorem getD_take (B : List Bool) (n i : Nat) : (B.take n).getD i false = (decide (i < n) && B.getD i false) := by
  by_cases h : i < n
  · simp [List.getD, h]
  · simp [List.getD, List.getElem?_take, h]
theorem getD_app (A B : List Bool) (i : Nat) : (A ++ B).getD i false = if i < A.length then A.getD i false else B.getD (i - A.length) false := by
  by_cases h : i < A.length
  · simp [List.getD, List.getElem?_append_left, h]
  · rw [if_neg h]
    simp only [List.getD]
    rw [List.getElem?_append_right (by omega)]
theorem getD_drop (B : List Bool) (n i : Nat) : (B.drop n).getD i false = B.getD (n + i) false := by simp [List.getD]

/-- one byte more is joined -/
theorem join_step {l : List Int} {L f s k d e : Nat} {A B : List Bool} (h : IsB l L (A ++ B.take (8 * k))) (hA : A.length = 8 * f + s) (hs : s < 8) (hL : f + k + 1 < L)
    (hd : l.getD (f + k) 0 = d) (hd8 : d < 256) (he : l.getD (f + k + 1) 0 = e) (he8 : e < 256) :
    IsB ((l.set (f + k) ((d ||| (byteN B k * 2 ^ s % 256) : Nat) : Int)).set (f + k + 1) ((e ||| (byteN B k * 2 ^ s / 256) : Nat) : Int)) L (A ++ B.take (8 * (k + 1))) := by
  obtain ⟨h1, h2, h3⟩ := h
  have hc := byteN_lt B k
  have hx : byteN B k * 2 ^ s < 65536 := by
    have : 2 ^ s ≤ 128 := by
      rcases lt8 hs with h | h | h | h | h | h | h | h <;> rw [h] <;> decide
    calc byteN B k * 2 ^ s ≤ 255 * 128 := Nat.mul_le_mul (by omega) this
      _ < 65536 := by decide
  obtain ⟨x, hxx⟩ : ∃ x, x = byteN B k * 2 ^ s := ⟨_, rfl⟩
  have htb : ∀ u, x.testBit u = (decide (s ≤ u) && (decide (u - s < 8) && B.getD (8 * k + (u - s)) false)) := fun u => by rw [hxx, shl_tb, byteN_tb]
  rw [← hxx] at hx ⊢
  have hlo : x % 256 < 256 := Nat.mod_lt _ (by decide)
  have hhi : x / 256 < 256 := by omega
  have hlot : ∀ t, (x % 256).testBit t = (decide (t < 8) && x.testBit t) := fun t => Nat.testBit_mod_two_pow x 8 t
  have hhit : ∀ t, (x / 256).testBit t = x.testBit (8 + t) := fun t => by rw [show (256 : Nat) = 2 ^ 8 by decide, Nat.testBit_div_two_pow, Nat.add_comm]
  have b1 := or_lt256 hd8 hlo
  have b2 := or_lt256 he8 hhi
  refine ⟨by simp [h1], mem_set_bd (mem_set_bd h2 _ ⟨by omega, by omega⟩) _ ⟨by omega, by omega⟩, fun i => ?_⟩
  have he' : (l.set (f + k) ((d ||| x % 256 : Nat) : Int)).getD (f + k + 1) 0 = e := by
    rw [getD_set _ _ _ _ (by omega), if_neg (by omega), he]
  rw [bit_or _ _ _ _ _ (by simp; omega) he', bit_or _ _ _ _ _ (by omega) hd, h3, hlot, hhit, htb, htb, getD_app, getD_app, getD_take, getD_take]
  by_cases hi : i < A.length
  · rw [if_pos hi, if_pos hi]
    have q1 : (decide (i / 8 = f + k) && (decide (i % 8 < 8) && (decide (s ≤ i % 8) && (decide (i % 8 - s < 8) && B.getD (8 * k + (i % 8 - s)) false)))) = false := by
      by_cases g : i / 8 = f + k ∧ s ≤ i % 8
      · omega
      · by_cases g1 : i / 8 = f + k
        · have : ¬ s ≤ i % 8 := fun g2 => g ⟨g1, g2⟩
          simp [this]
        · simp [g1]
    have q2 : decide (i / 8 = f + k + 1) = false := decide_eq_false (by omega)
    rw [q1, q2]; simp
  · rw [if_neg hi, if_neg hi]
    obtain ⟨j, hj⟩ : ∃ j, i = A.length + j := ⟨i - A.length, by omega⟩
    rw [show i - A.length = j by omega]
    by_cases g0 : j < 8 * k
    · have q1 : decide (j < 8 * k) = true := decide_eq_true g0
      have q2 : decide (j < 8 * (k + 1)) = true := decide_eq_true (by omega)
      rw [q1, q2]
      by_cases g1 : i / 8 = f + k
      · have : ¬ (s ≤ i % 8) := by omega
        have q3 : decide (i / 8 = f + k + 1) = false := decide_eq_false (by omega)
        rw [q3]; simp [this]
      · have q3 : decide (i / 8 = f + k + 1) = false := decide_eq_false (by omega)
        rw [q3]; simp [g1]
    · have q1 : decide (j < 8 * k) = false := decide_eq_false g0
      rw [q1]
      by_cases g1 : i / 8 = f + k
      · have q2 : decide (i / 8 = f + k + 1) = false := decide_eq_false (by omega)
        have q3 : decide (i / 8 = f + k) = true := decide_eq_true g1
        have q4 : decide (i % 8 < 8) = true := decide_eq_true (by omega)
        have q5 : decide (s ≤ i % 8) = true := decide_eq_true (by omega)
        have q6 : decide (i % 8 - s < 8) = true := decide_eq_true (by omega)
        have q7 : decide (j < 8 * (k + 1)) = true := decide_eq_true (by omega)
        rw [q2, q3, q4, q5, q6, q7, show 8 * k + (i % 8 - s) = j by omega]; simp
      · have q3 : decide (i / 8 = f + k) = false := decide_eq_false g1
        rw [q3]
        by_cases g2 : i / 8 = f + k + 1
        · have q2 : decide (i / 8 = f + k + 1) = true := decide_eq_true g2
          have q5 : decide (s ≤ 8 + i % 8) = true := decide_eq_true (by omega)
          rw [q2, q5, show 8 * k + (8 + i % 8 - s) = j by omega]
          by_cases g3 : 8 + i % 8 - s < 8
          · have q7 : decide (j < 8 * (k + 1)) = true := decide_eq_true (by omega)
            rw [q7]; simp [g3]
          · have q7 : decide (j < 8 * (k + 1)) = false := decide_eq_false (by omega)
            rw [q7]; simp [g3]
        · have q2 : decide (i / 8 = f + k + 1) = false := decide_eq_false g2
          have q7 : decide (j < 8 * (k + 1)) = false := decide_eq_false (by omega)
          rw [q2, q7]; simp

/-- the bytes that bits have, of more bytes -/
theorem isB_take {l : List Int} {L : Nat} {C D : List Bool} (h : IsB l L C) (hc : ∀ i, C.getD i false = D.getD i false) (hL : (D.length + 7) / 8 ≤ L) : l.take ((D.length + 7) / 8) = pack D := by
  obtain ⟨h1, h2, h3⟩ := h
  refine bits_ext (fun n hn => h2 n (List.mem_of_mem_take hn)) (pack_wf D) (by simp [pack_len]; omega) fun i hi => ?_
  rw [bit_pack, ← hc, ← h3]
  simp at hi
  have e : (l.take ((D.length + 7) / 8)).getD (i / 8) 0 = l.getD (i / 8) 0 := by
    simp only [List.getD, List.getElem?_take]
    rw [if_pos (by omega)]
  unfold bit
  rw [e]
end Cad

/- Contracts of the package bits: join. -/
namespace Go.Proofs.Ythbjcjphplgobaa
open Go.RowKit Cad

theorem Bjoin_ok (W : World) (a : Option Addr) (len cap : Nat) (A : List Bool) (hr : Row .u8 W a len cap (pack A)) (a' : Option Addr) (len' cap' : Nat) (B : List Bool) (hr' : Row .u8 W a' len' cap' (pack B)) (hAB : A.length + B.length ≤ 330000) :
    Calls Try.prog 85 #[.agg #[.slice a len cap, .int .i64 A.length], .agg #[.slice a' len' cap', .int .i64 B.length]] W fun e W' => ∃ b c, e = .returned (.tuple #[.agg #[.slice b (((A ++ B).length + 7) / 8) c, .int .i64 ((A.length + B.length : Nat) : Int)], .int .i64 0]) ∧
      Row .u8 W' b (((A ++ B).length + 7) / 8) c (pack (A ++ B)) ∧ Below W.heap.size W W' := by
  have hl := hr.hlen
  have hl' := hr'.hlen
  rw [pack_len] at hl hl'
  have hbE := (((Below.refl W.heap.size W).alloc (Nat.le_refl _) (.cells #[.slice a len cap, .int .i64 A.length] 45)).alloc (by simp) (.cells #[.slice a' len' cap', .int .i64 B.length] 45)).alloc (by simp; omega) (.cells #[.slice none 0 0, .int .i64 0] 45)
  obtain ⟨W0, hW0⟩ : ∃ W0, W0 = ((W.alloc (.cells #[.slice a len cap, .int .i64 A.length] 45)).alloc (.cells #[.slice a' len' cap', .int .i64 B.length] 45)).alloc (.cells #[.slice none 0 0, .int .i64 0] 45) := ⟨_, rfl⟩
  have hs0 : W0.heap.size = W.heap.size + 1 + 1 + 1 := by rw [hW0]; simp
  have hx0 : BoxAt W0 W.heap.size (.slice a len cap) A.length := by
    rw [hW0]; unfold BoxAt; rw [Below.heap_alloc _ _ _ (by simp; omega), Below.heap_alloc _ _ _ (by simp), heap_alloc_new]
  have hb0 : BoxAt W0 (W.heap.size + 1) (.slice a' len' cap') B.length := by
    rw [hW0]; unfold BoxAt; rw [Below.heap_alloc _ _ _ (by simp), heap_alloc2_new]
  have hy0 : BoxAt W0 (W.heap.size + 1 + 1) (.slice none 0 0) 0 := by
    have := heap_alloc_new ((W.alloc (.cells #[.slice a len cap, .int .i64 A.length] 45)).alloc (.cells #[.slice a' len' cap', .int .i64 B.length] 45)) (.cells #[.slice none 0 0, .int .i64 0] 45)
    rw [show ((W.alloc (.cells #[.slice a len cap, .int .i64 A.length] 45)).alloc (.cells #[.slice a' len' cap', .int .i64 B.length] 45)).heap.size = W.heap.size + 1 + 1 by simp] at this
    rw [hW0]; exact this
  rw [← hW0] at hbE
  have hrE := hr.below hbE (Nat.le_refl _)
  have hrE' := hr'.below hbE (Nat.le_refl _)
  obtain ⟨c0, c1, c2, c3⟩ := hx0.cells
  obtain ⟨d0, d1, d2, d3⟩ := hb0.cells
  obtain ⟨m, hm⟩ : ∃ m, m = ((A ++ B).length + 7) / 8 := ⟨_, rfl⟩
  obtain ⟨f, s, hf⟩ : ∃ f s : Nat, f = A.length / 8 ∧ s = A.length % 8 ∧ s < 8 ∧ A.length = 8 * f + s := ⟨_, _, rfl, rfl, by omega, by omega⟩
  have hff := Go.Lib.hid hf
  have e8 : Hid (IntKind.i64.wrap ((A.length : Int) / 8) = (f : Int)) := Go.Lib.hid (by rw [IntWalk.i64_in _ (by omega)]; omega)
  have e9 : Hid ((A.length : Int).tmod 8 = (s : Int)) := Go.Lib.hid (by rw [Int.tmod_eq_emod_of_nonneg (by omega)]; omega)
  clear hf
  have hsz : Hid (∀ w, Calls Try.prog 81 #[.int .i64 ((A.length : Int) + (B.length : Int))] w fun e W' => e = .returned (.int .i64 (m : Int)) ∧ w = W') := Go.Lib.hid (fun w => by
    have := Bsize_ok w (A.length + B.length) (by omega)
    rw [← List.length_append, ← hm] at this
    rw [List.length_append] at this
    exact_mod_cast this)
  have hmb : m ≤ 41250 := by rw [hm, List.length_append]; omega
  rw [← hm]
  have hx0' := Go.Lib.hid hx0
  have hb0' := Go.Lib.hid hb0
  have hy0' := Go.Lib.hid hy0
  have hbE' := Go.Lib.hid hbE
  have hrA := Go.Lib.hid hrE
  have hrB := Go.Lib.hid hrE'
  have hl1 := Go.Lib.hid hl
  have hl2 := Go.Lib.hid hl'
  have hm' := Go.Lib.hid hm
  have hlm : len ≤ m + 1 := by rw [hm, List.length_append]; omega
  have hsA : ((A.length : Int) + (B.length : Int) ≤ 330000) := by omega
  have hs0' := Go.Lib.hid hs0
  clear hx0 hb0 hy0 hbE hrE hrE' hl hl' hm hr hr'
  go_enter Try.func85, Try.ntmps85
  go_wp2_with (first
    | (go_at_call 81; rw [← hW0]; refine (hsz.out _).mono ?_; rintro e w1 ⟨rfl, rfl⟩; clear hW0)
    | (refine law_make elU8 _ rfl _ _ rfl .i64 .i64 _ _ (m + 1) rfl rfl (by omega) (by omega) (by omega) ?_; intro w1 hown1 hb1 hs1; simp only [hs0] at hown1 hb1 hs1; obtain ⟨e0, e1, e2, e3⟩ := (hx0'.out.below hb1 (by omega)).cells; have hrA1 := (hrA.out.below hb1 (Nat.le_of_eq hs0)); have hown1' := Go.Lib.hid hown1; have hb1' := Go.Lib.hid hb1; clear hown1 hb1)
    | (with_reducible show wpList _ _ _ _ _ _; refine law_copyRow elU8 _ rfl _ _ _ rfl (W.heap.size + 1 + 1 + 1) (W.heap.size + 1 + 1 + 1) (m + 1) (m + 1) (List.replicate (m + 1) 0) rfl hown1'.out a len cap (pack A) rfl hrA1 hlm ?_; intro w2 hown2 hb2; have hb12 := (hb1'.out.trans hb2); obtain ⟨f0, f1, f2, f3⟩ := (hx0'.out.below hb12 (by omega)).cells; obtain ⟨g0, g1, g2, g3⟩ := (hb0'.out.below hb12 (by omega)).cells; have hown2' := Go.Lib.hid hown2; have hb2' := Go.Lib.hid hb12; clear hown2 hb2 hb12))
  go_quiet (fail)
  go_wp2
  have hbE2 := Below.drewN hb2'.out nq
  obtain ⟨w3, hw3⟩ : ∃ w3, w3 = w2.drewN nq := ⟨_, rfl⟩
  have hown3 : w3.ownsRow (W.heap.size + 1 + 1 + 1) 5 1 (.slice (some ⟨W.heap.size + 1 + 1 + 1, 0, none⟩) (m + 1) (m + 1)) (m + 1) (nums .u8 (pack A ++ List.drop len (List.replicate (m + 1) 0))) := by rw [hw3]; exact hown2'.out
  rw [← hw3] at hbE2 ⊢
  have hb3' := Go.Lib.hid hbE2
  have hs3 : W.heap.size + 1 + 1 + 1 ≤ w3.heap.size := by have := hbE2.size; omega
  clear hw3 hbE2 hrA1 e0 e1 e2 e3 f0 f1 f2 f3 g0 g1 g2 g3 c0 c1 c2 c3 d0 d1 d2 d3 hown1' hb1' hs1 hs0 hown2' hb2'
  simp only [e8.out, e9.out]
  go_loopw [38] (fun i wr => ∃ (k : Nat) (l : List Int), k ≤ len' ∧ i = .int .i64 k ∧ IsB l (m + 1) (A ++ B.take (8 * k)) ∧
    wr.ownsRow (W.heap.size + 1 + 1 + 1) 5 1 (.slice (some ⟨W.heap.size + 1 + 1 + 1, 0, none⟩) (m + 1) (m + 1)) (m + 1) (nums .u8 l) ∧ Below (W.heap.size + 1 + 1 + 1) W0 wr) (fun i _ => len' - (intOf i).toNat)
  case atStart => exact ⟨0, _, Nat.zero_le _, rfl, by rw [← hl1.out]; simpa using isB_start A (by have := hl1.out; omega), hown3, hb3'.out⟩
  case round =>
    obtain ⟨k, l, hk, rfl, hB, hown, hbk⟩ := hrel
    by_cases hlt : k < len'
    · obtain ⟨b', off, rfl, hlt', hc⟩ := (hrB.out.below hbk (Nat.le_of_eq hs0'.out)).cells (by omega)
      have hs8 := hff.out.2.2.1
      have hfk : f + k + 1 < m + 1 := by have := hff.out.2.2.2; have := hm'.out; have := hl2.out; rw [List.length_append] at *; omega
      obtain ⟨d, hd, hd8⟩ := hB.byte (f + k)
      obtain ⟨e, he, he8⟩ := hB.byte (f + k + 1)
      have hst := Go.Lib.hid (join_step hB hff.out.2.2.2 hs8 hfk hd hd8 he he8)
      have hcell := hc k hlt
      rw [pack_getD B k (by have := hl2.out; omega)] at hcell
      have hc8 := byteN_lt B k
      obtain ⟨c, hcc⟩ : ∃ c, c = byteN B k := ⟨_, rfl⟩
      rw [← hcc] at hcell hst hc8
      clear hcc
      have hx16 : c * 2 ^ s < 65536 := by
        have : 2 ^ s ≤ 128 := by rcases lt8 hs8 with h | h | h | h | h | h | h | h <;> rw [h] <;> decide
        calc c * 2 ^ s ≤ 255 * 128 := Nat.mul_le_mul (by omega) this
          _ < 65536 := by decide
      obtain ⟨x, hxx⟩ : ∃ x, x = c * 2 ^ s := ⟨_, rfl⟩
      rw [← hxx] at hst hx16
      have hmul : (c : Int) * 2 ^ s = (x : Int) := by rw [hxx]; simp
      have o1 := Go.u8_or_nat d (x % 256) hd8 (Nat.mod_lt _ (by decide))
      have o2 := Go.u8_or_nat e (x / 256) he8 (by omega)
      have lk : l.length = m + 1 := hB.1
      have hc1 := hown.cellAt (f + k) (by omega)
      have hc2 := hown.cellAt (f + k + 1) (by omega)
      have hf1 := hown.frozenAt (f + k)
      have hf2 := hown.frozenAt (f + k + 1)
      rw [show (nums .u8 l)[f + k]? = some (.int .u8 (d : Int)) by rw [← hd]; simp [nums, List.getD, show f + k < l.length by omega]] at hc1
      rw [show (nums .u8 l)[f + k + 1]? = some (.int .u8 (e : Int)) by rw [← he]; simp [nums, List.getD, show f + k + 1 < l.length by omega]] at hc2
      have hown' := Go.Lib.hid hown
      have hbk' := Go.Lib.hid hbk
      clear hxx hc hB hown hbk hd he lk hown3
      go_wp2
      rw [show ((x : Int) % 256) = ((x % 256 : Nat) : Int) by simp, show ((x : Int) / 256) = ((x / 256 : Nat) : Int) by simp, o1, o2]
      have h1 := (hown'.out.stored (f + k) (.int .u8 ((d ||| x % 256 : Nat) : Int))).1
      have h2 := (h1.stored (f + k + 1) (.int .u8 ((e ||| x / 256 : Nat) : Int))).1
      rw [nums_set, nums_set] at h2
      exact ⟨⟨k + 1, _, by omega, by go_num, hst.out, h2, (hbk'.out.setCell (Nat.le_refl _) _).setCell (Nat.le_refl _) _⟩, by simp [intOf]; omega⟩
    · obtain rfl : k = len' := by omega
      have hy := hy0'.out.below hbk (by omega)
      obtain ⟨y0, y1, y2, y3⟩ := hy.cells
      have hy' := Go.Lib.hid hy
      have hown' := Go.Lib.hid hown
      have hbk' := Go.Lib.hid hbk
      have hB' := Go.Lib.hid hB
      clear hy hB hown hbk hown3
      go_wp2_with (go_at_call 81; refine (hsz.out _).mono ?_; rintro e w5 ⟨rfl, rfl⟩)
      have ap := hy'.out.apart hown'.out
      have hfin : ∀ i, (A ++ B.take (8 * k)).getD i false = (A ++ B).getD i false := fun i => by
        rw [List.take_of_length_le (by have := hl2.out; omega)]
      have htk := isB_take hB'.out hfin (by have := hm'.out; omega)
      rw [← hm'.out] at htk
      refine bodyPost_ret (results_box_tmp (by rfl) _ _ (W.heap.size + 1 + 1) _ _ rfl (hy'.out.set _ _)) rfl ?_
      refine ⟨some ⟨W.heap.size + 1 + 1 + 1, 0, none⟩, m, by simp, ?_, ?_⟩
      · have h1 := Row.of_own (own_set (own_set hown'.out ap 0 (.slice (some ⟨W.heap.size + 1 + 1 + 1, 0, none⟩) m m)) ap 1 (.int .i64 ((A.length : Int) + (B.length : Int)))) (u8_wf hB'.out.2.1)
        have h2 := (h1.take m (by omega)).clip
        rw [htk] at h2
        exact h2
      · exact ((hbE'.out.trans (hbk'.out.mono (by omega))).setCell (by simp; omega) _).setCell (by simp; omega) _
end Go.Proofs.Ythbjcjphplgobaa

/- Bytes changed bit by bit: cutting and clearing. No Go function in sight. -/
namespace Cad

theorem byteN_ge (B : List Bool) {j : Nat} (h : B.length ≤ 8 * j) : byteN B j = 0 := by
  apply Nat.eq_of_testBit_eq
  intro t
  rw [byteN_tb, getD_ge B _ (by omega)]; simp
theorem pack_getD_any (B : List Bool) (j : Nat) : (pack B).getD j 0 = byteN B j := by
  by_cases h : j < (B.length + 7) / 8
  · exact pack_getD B j h
  · rw [getD_ge _ _ (by rw [pack_len]; omega), byteN_ge B (by omega)]; rfl

theorem bit_put (l : List Int) (p x i : Nat) (hp : p < l.length) : bit (l.set p (x : Int)) i = if i / 8 = p then x.testBit (i % 8) else bit l i := by
  rw [bit_tb, bit_tb, getD_set _ _ _ _ hp]
  by_cases h : i / 8 = p
  · rw [if_pos h, if_pos h]; simp
  · rw [if_neg h, if_neg h]

theorem isB_zero (L : Nat) : IsB (List.replicate L 0) L [] := by
  refine ⟨by simp, fun x hx => by have := List.eq_of_mem_replicate hx; omega, fun i => ?_⟩
  unfold bit
  have : (List.replicate L (0 : Int)).getD (i / 8) 0 = 0 := by
    simp only [List.getD, List.getElem?_replicate]
    split <;> rfl
  rw [this]; simp

/-- the number of two bytes, shifted -/
def mid16 (B : List Bool) (j s : Nat) : Nat := (byteN B j ||| byteN B (j + 1) * 256) / 2 ^ s % 256
theorem mid16_tb (B : List Bool) (j s t : Nat) (hs : s < 8) (ht : t < 8) : (mid16 B j s).testBit t = B.getD (8 * j + s + t) false := by
  unfold mid16
  rw [show (256 : Nat) = 2 ^ 8 by decide, Nat.testBit_mod_two_pow, Nat.testBit_div_two_pow, Nat.testBit_or, shl_tb, byteN_tb, byteN_tb]
  have q0 : decide (t < 8) = true := decide_eq_true ht
  rw [q0]
  by_cases h : t + s < 8
  · have q1 : decide (t + s < 8) = true := decide_eq_true h
    have q2 : decide (8 ≤ t + s) = false := decide_eq_false (by omega)
    rw [q1, q2, show 8 * j + (t + s) = 8 * j + s + t by omega]; simp
  · have q1 : decide (t + s < 8) = false := decide_eq_false h
    have q2 : decide (8 ≤ t + s) = true := decide_eq_true (by omega)
    have q3 : decide (t + s - 8 < 8) = true := decide_eq_true (by omega)
    rw [q1, q2, q3, show 8 * (j + 1) + (t + s - 8) = 8 * j + s + t by omega]; simp

theorem cut_step {l : List Int} {L f s k i0 : Nat} {B : List Bool} (h : IsB l L ((B.drop i0).take (8 * k))) (hA : i0 = 8 * f + s) (hs : s < 8) (hL : k < L) :
    IsB (l.set k ((mid16 B (f + k) s : Nat) : Int)) L ((B.drop i0).take (8 * (k + 1))) := by
  obtain ⟨h1, h2, h3⟩ := h
  have hm : mid16 B (f + k) s < 256 := Nat.mod_lt _ (by decide)
  refine ⟨by simp [h1], mem_set_bd h2 _ ⟨by omega, by omega⟩, fun i => ?_⟩
  rw [bit_put _ _ _ _ (by omega), h3, getD_take, getD_take, getD_drop]
  by_cases g : i / 8 = k
  · rw [if_pos g, mid16_tb _ _ _ _ hs (by omega), decide_eq_true (show i < 8 * (k + 1) by omega), show 8 * (f + k) + s + i % 8 = i0 + i by omega]; simp
  · rw [if_neg g]
    by_cases g1 : i < 8 * k
    · rw [decide_eq_true g1, decide_eq_true (show i < 8 * (k + 1) by omega)]
    · rw [decide_eq_false g1, decide_eq_false (show ¬ i < 8 * (k + 1) by omega)]

theorem IsB.out {l : List Int} {L : Nat} {C : List Bool} (h : IsB l L C) {i : Nat} (hi : 8 * L ≤ i) : C.getD i false = false := by
  rw [← h.2.2 i, bit_tb, getD_ge _ _ (by have := h.1; omega)]; simp
theorem clear_none {l : List Int} {L n : Nat} {C : List Bool} (h : IsB l L C) (hL : L = (n + 7) / 8) (h8 : n % 8 = 0) : IsB l L (C.take n) := by
  refine ⟨h.1, h.2.1, fun i => ?_⟩
  rw [h.2.2, getD_take]
  by_cases g : i < n
  · simp [g]
  · rw [h.out (by omega)]; simp
theorem clear_step {l : List Int} {L n d : Nat} {C : List Bool} (h : IsB l L C) (hL : L = (n + 7) / 8) (h8 : n % 8 ≠ 0) (hd : l.getD (L - 1) 0 = d) (hd8 : d < 256) :
    IsB (l.set (L - 1) ((d &&& (2 ^ (n % 8) - 1) : Nat) : Int)) L (C.take n) := by
  have hle : d &&& (2 ^ (n % 8) - 1) ≤ d := Nat.and_le_left
  refine ⟨by simp [h.1], mem_set_bd h.2.1 _ ⟨by omega, by omega⟩, fun i => ?_⟩
  have hd' : ∀ t, d.testBit t = ((l.getD (L - 1) 0).toNat).testBit t := fun t => by rw [hd]; rfl
  rw [bit_put _ _ _ _ (by have := h.1; omega), h.2.2, getD_take]
  by_cases g : i / 8 = L - 1
  · rw [if_pos g, Nat.testBit_and, Nat.testBit_two_pow_sub_one, hd', ← g, ← bit_tb, h.2.2]
    by_cases g1 : i < n
    · rw [decide_eq_true g1, decide_eq_true (show i % 8 < n % 8 by omega)]; simp
    · rw [decide_eq_false g1, decide_eq_false (show ¬ i % 8 < n % 8 by omega)]; simp
  · rw [if_neg g]
    by_cases g1 : i < n
    · rw [decide_eq_true g1]; simp
    · rw [decide_eq_false g1, h.out (by omega)]; simp
end Cad

/- Contracts of the package bits: spare bits cleared; a byte or nothing; cut. -/
namespace Go.Proofs.Ythbjcjphplgobaa
open Go.RowKit Cad

theorem Bclear_ok (W : World) (base g L n : Nat) (l : List Int) (C : List Bool) (hB : IsB l L C) (hL : L = (n + 7) / 8) (hn : n ≤ 330000)
    (hown : W.ownsRow base 5 1 (.slice (some ⟨g, 0, none⟩) L L) L (nums .u8 l)) :
    Calls Try.prog 107 #[.slice (some ⟨g, 0, none⟩) L L, .int .i64 n] W fun e W' => e = .returned (.tuple #[]) ∧ ∃ l', IsB l' L (C.take n) ∧
      W'.ownsRow base 5 1 (.slice (some ⟨g, 0, none⟩) L L) L (nums .u8 l') ∧ Below g W W' := by
  by_cases h8 : n % 8 = 0
  · have hfin := Go.Lib.hid (clear_none hB hL h8)
    have hown' := Go.Lib.hid hown
    clear hB hown hL
    go_enter Try.func107, Try.ntmps107
    go_wp2
    go_end0
    exact ⟨rfl, l, hfin.out, hown'.out, Below.refl _ _⟩
  · obtain ⟨d, hd, hd8⟩ := hB.byte (L - 1)
    have hfin := Go.Lib.hid (clear_step hB hL h8 hd hd8)
    have hp : 1 ≤ L := by omega
    have hLm : L ≤ 41250 := by omega
    obtain ⟨s, hs⟩ : ∃ s, s = n % 8 := ⟨_, rfl⟩
    have hs8 : s < 8 := by omega
    have e9 : (n : Int) % 8 = (s : Int) := by omega
    have h0 : ((s : Int) != 0) = true := by simp; omega
    rw [← hs] at hfin
    obtain ⟨x, hx⟩ : ∃ x, x = 2 ^ s := ⟨_, rfl⟩
    have hx8 : 1 ≤ x ∧ x ≤ 128 := by
      rw [hx]; rcases lt8 hs8 with h | h | h | h | h | h | h | h <;> rw [h] <;> decide
    rw [← hx] at hfin
    have hpw : (1 : Int) * 2 ^ s = (x : Int) := by rw [hx]; simp
    have hpw' : (2 : Int) ^ s = (x : Int) := by rw [hx]; simp
    have o1 := Go.u8_and_nat d (x - 1) hd8 (by omega)
    have hc1 := hown.cellAt (L - 1) (by omega)
    have hf1 := hown.frozenAt (L - 1)
    have lk : l.length = L := hB.1
    rw [show (nums .u8 l)[L - 1]? = some (.int .u8 (d : Int)) by rw [← hd]; simp [nums, List.getD, show L - 1 < l.length by omega]] at hc1
    have hst := Go.Lib.hid ((hown.stored (L - 1) (.int .u8 ((d &&& (x - 1) : Nat) : Int))).1)
    have hgb : Hid (base ≤ g ∧ g < W.heap.size) := Go.Lib.hid (hown.lt g rfl)
    clear hB hown hL hs hx hd h8 lk
    go_enter Try.func107, Try.ntmps107
    go_wp2
    refine wp_region_quiet_tail 11 (by kernel_rfl) (by kernel_rfl) ?_
    simp only [List.take_succ_cons, List.take_zero, List.drop_succ_cons, List.drop_zero]
    repeat (first
      | go_big_quiet_skip
      | (go_big_quiet_want; go_big_quiet_op; go_big_quiet_on))
    refine wpQuiet_nil ?_
    go_wp2
    go_end0
    rw [show (x : Int) - 1 = ((x - 1 : Nat) : Int) by omega, o1]
    have h2 := hst.out
    rw [nums_set] at h2
    exact ⟨rfl, _, hfin.out, h2, ((Below.refl g W).setCell (p := ⟨g, L - 1, none⟩) (Nat.le_refl g) _).drew⟩

theorem BbyteAt_ok (W : World) (x : Nat) (a : Option Addr) (len cap : Nat) (N : Int) (B : List Bool) (i : Nat) (hx : BoxAt W x (.slice a len cap) N) (hr : Row .u8 W a len cap (pack B)) (hi : i ≤ 1000000000) :
    Calls Try.prog 106 #[.int .i64 i, .pointer (some ⟨x, 0, none⟩)] W fun e W' => e = .returned (.int .u16 (byteN B i : Nat)) ∧ W = W' := by
  obtain ⟨x0, x1, x2, x3⟩ := hx.cells
  have hl := hr.hlen
  rw [pack_len] at hl
  by_cases h : (i : Int) < len
  · obtain ⟨b, off, rfl, hlt, hc⟩ := hr.cells (by omega)
    have hcell := hc i (by omega)
    rw [pack_getD_any] at hcell
    have hb := byteN_lt B i
    obtain ⟨c, hcc⟩ : ∃ c, c = byteN B i := ⟨_, rfl⟩
    rw [← hcc] at hcell hb ⊢
    clear hcc hc hr hx hl
    go_enter Try.func106, Try.ntmps106
    go_wp2
    go_ret
    exact ⟨by go_num, rfl⟩
  · have hz := byteN_ge B (j := i) (by omega)
    rw [hz]
    clear hr hx hl hz
    go_enter Try.func106, Try.ntmps106
    go_wp2
    go_ret
    exact ⟨rfl, rfl⟩

set_option maxHeartbeats 600000 in
theorem Bcut_new (W : World) (a : Option Addr) (len cap : Nat) (B : List Bool) (i0 t0 : Nat) (hr : Row .u8 W a len cap (pack B)) (hB : B.length ≤ 330000) (h1 : i0 ≤ t0) (h2 : t0 ≤ B.length) :
    Calls Try.prog 100 #[.agg #[.slice a len cap, .int .i64 B.length], .int .i64 i0, .int .i64 t0] W fun e W' => ∃ b c, e = .returned (.agg #[.slice (some ⟨b, 0, none⟩) (((midB B i0 t0).length + 7) / 8) c, .int .i64 ((t0 - i0 : Nat) : Int)]) ∧
      W.heap.size ≤ b ∧ Row .u8 W' (some ⟨b, 0, none⟩) (((midB B i0 t0).length + 7) / 8) c (pack (midB B i0 t0)) ∧ Below W.heap.size W W' := by
  have hmf : ∀ (fn : Fn) (first cap : Array Value) (w : World), (Instr.makeFunc fn first cap).run Try.prog w = .ok (.func fn first cap) w := fun _ _ _ _ => rfl
  have hml := midB_len B h1 h2
  obtain ⟨m, hm⟩ : ∃ m, m = ((midB B i0 t0).length + 7) / 8 := ⟨_, rfl⟩
  obtain ⟨n, hn⟩ : ∃ n, n = t0 - i0 := ⟨_, rfl⟩
  rw [← hm, ← hn]
  have hmn : m = (n + 7) / 8 := by rw [hm, hml, hn]
  have hm' := Go.Lib.hid hm
  have hn' := Go.Lib.hid hn
  have hmn' := Go.Lib.hid hmn
  have hmid : Hid (midB B i0 t0 = (B.drop i0).take n) := Go.Lib.hid (by rw [hn]; rfl)
  have hnI : (t0 : Int) - (i0 : Int) = (n : Int) := by omega
  have hmb : m ≤ 41250 := by omega
  have hnb : n ≤ 330000 := by omega
  obtain ⟨f, s, hf⟩ : ∃ f s : Nat, f = i0 / 8 ∧ s = i0 % 8 ∧ s < 8 ∧ i0 = 8 * f + s := ⟨_, _, rfl, rfl, by omega, by omega⟩
  have hff := Go.Lib.hid hf
  have hs8 : s < 8 := hf.2.2.1
  have hfb : f ≤ 41250 := by omega
  have e8 : IntKind.i64.wrap ((i0 : Int) / 8) = (f : Int) := by rw [IntWalk.i64_in _ (by omega)]; omega
  have e9 : (i0 : Int) % 8 = (s : Int) := by omega
  have hsz : Hid (∀ w, Calls Try.prog 81 #[.int .i64 (n : Int)] w fun e W' => e = .returned (.int .i64 (m : Int)) ∧ w = W') := Go.Lib.hid (fun w => by
    have := Bsize_ok w n (by omega)
    rwa [← hmn] at this)
  obtain ⟨W0, hW0⟩ : ∃ W0, W0 = (W.alloc (.cells #[.slice a len cap, .int .i64 B.length] 45)).alloc (.cells #[.slice none 0 0, .int .i64 0] 45) := ⟨_, rfl⟩
  have hbE : Below W.heap.size W W0 := by rw [hW0]; exact ((Below.refl W.heap.size W).alloc (Nat.le_refl _) _).alloc (by simp) _
  have hs0 : W0.heap.size = W.heap.size + 1 + 1 := by rw [hW0]; simp
  have hx0 : BoxAt W0 W.heap.size (.slice a len cap) B.length := by
    rw [hW0]; unfold BoxAt; rw [Below.heap_alloc _ _ _ (by simp), heap_alloc_new]
  have hy0 : BoxAt W0 (W.heap.size + 1) (.slice none 0 0) 0 := by
    rw [hW0]; unfold BoxAt; rw [heap_alloc2_new]
  have hrE := hr.below hbE (Nat.le_refl _)
  have hx0' := Go.Lib.hid hx0
  have hy0' := Go.Lib.hid hy0
  have hbE' := Go.Lib.hid hbE
  have hrA := Go.Lib.hid hrE
  have hs0' := Go.Lib.hid hs0
  clear hx0 hy0 hbE hrE hr hm hn hmn hml hf h1 h2
  go_enter Try.func100, Try.ntmps100
  go_wp2_with (first
    | (go_at_call 81; refine (hsz.out _).mono ?_; rintro e w1 ⟨rfl, rfl⟩)
    | (rw [← hW0]; refine law_make elU8 _ rfl _ _ rfl .i64 .i64 _ _ m rfl rfl (by omega) (by omega) (by omega) ?_; intro w1 hown1 hb1 hs1; simp only [hs0] at hown1 hb1 hs1; have hown1' := Go.Lib.hid hown1; have hb1' := Go.Lib.hid hb1; clear hown1 hb1 hW0))
  clear hmf hsz e8 e9
  go_loopw [27] (fun i wr => ∃ (k : Nat) (l : List Int), k ≤ m ∧ i = .int .i64 k ∧ IsB l m ((B.drop i0).take (8 * k)) ∧
    wr.ownsRow (W.heap.size + 1 + 1) 5 1 (.slice (some ⟨W.heap.size + 1 + 1, 0, none⟩) m m) m (nums .u8 l) ∧ Below (W.heap.size + 1 + 1) W0 wr) (fun i _ => m - (intOf i).toNat)
  case atStart => exact ⟨0, _, Nat.zero_le _, rfl, by simpa using isB_zero m, hown1'.out, hb1'.out⟩
  case round =>
    obtain ⟨k, l, hk, rfl, hB1, hown, hbk⟩ := hrel
    by_cases hlt : k < m
    · have hst := Go.Lib.hid (cut_step hB1 hff.out.2.2.2 hs8 hlt)
      have hxk := hx0'.out.below hbk (by omega)
      have hrk := hrA.out.below hbk (Nat.le_of_eq hs0'.out)
      have hca : Hid (Calls Try.prog 106 #[.int .i64 ((f : Int) + (k : Int)), .pointer (some ⟨W.heap.size, 0, none⟩)] wr fun e W' => e = .returned (.int .u16 (byteN B (f + k) : Nat)) ∧ wr = W') := Go.Lib.hid (by
        have := BbyteAt_ok wr W.heap.size a len cap B.length B (f + k) hxk hrk (by omega)
        push_cast at this
        exact this)
      have hcb : Hid (Calls Try.prog 106 #[.int .i64 ((f : Int) + (k : Int) + 1), .pointer (some ⟨W.heap.size, 0, none⟩)] wr fun e W' => e = .returned (.int .u16 (byteN B (f + k + 1) : Nat)) ∧ wr = W') := Go.Lib.hid (by
        have := BbyteAt_ok wr W.heap.size a len cap B.length B (f + k + 1) hxk hrk (by omega)
        push_cast at this
        exact this)
      have c0l := byteN_lt B (f + k)
      have c1l := byteN_lt B (f + k + 1)
      have hmd : Hid (mid16 B (f + k) s = (byteN B (f + k) ||| byteN B (f + k + 1) * 256) / 2 ^ s % 256) := Go.Lib.hid rfl
      obtain ⟨c0, hc0⟩ : ∃ c, c = byteN B (f + k) := ⟨_, rfl⟩
      obtain ⟨c1, hc1⟩ : ∃ c, c = byteN B (f + k + 1) := ⟨_, rfl⟩
      rw [← hc0] at hca c0l hmd
      rw [← hc1] at hcb c1l hmd
      have o1 := Go.u16_or_nat c0 (c1 * 256) (by omega) (by omega)
      have hx16 : c0 ||| c1 * 256 < 65536 := Nat.or_lt_two_pow (n := 16) (by omega) (by omega)
      obtain ⟨x, hx⟩ : ∃ x, x = c0 ||| c1 * 256 := ⟨_, rfl⟩
      rw [← hx] at o1 hx16 hmd
      have o2 : bits .or .u16 (c0 : Int) ((c1 : Int) * 256) = (x : Int) := by simpa using o1
      have hf1 := hown.frozenAt k
      have hc2 := hown.cellAt k (by omega)
      have lk : l.length = m := hB1.1
      rw [show (nums .u8 l)[k]? = some (.int .u8 (l.getD k 0)) by simp [nums, List.getD, show k < l.length by omega]] at hc2
      have hst2 : Hid (∀ v : Int, v = ((mid16 B (f + k) s : Nat) : Int) → (wr.setCell ⟨W.heap.size + 1 + 1, k, none⟩ (.int .u8 v)).ownsRow (W.heap.size + 1 + 1) 5 1 (.slice (some ⟨W.heap.size + 1 + 1, 0, none⟩) m m) m (nums .u8 (l.set k ((mid16 B (f + k) s : Nat) : Int)))) := Go.Lib.hid fun v hv => by
        subst hv
        have := (hown.stored k (.int .u8 ((mid16 B (f + k) s : Nat) : Int))).1
        rwa [nums_set] at this
      have hbk' := Go.Lib.hid hbk
      clear hc0 hc1 hx o1 hown hbk lk hB1 hxk hrk
      go_wp2_with (first
        | (go_at_call 106; ((with_reducible refine hca.out.mono ?_)); rintro e w5 ⟨rfl, rfl⟩)
        | (go_at_call 106; ((with_reducible refine hcb.out.mono ?_)); rintro e w5 ⟨rfl, rfl⟩))
      have hval : (x : Int) / 2 ^ s % 256 = ((mid16 B (f + k) s : Nat) : Int) := by rw [hmd.out]; simp
      refine ⟨⟨k + 1, _, by omega, by go_num, hst.out, hst2.out _ hval, hbk'.out.setCell (Nat.le_refl _) _⟩, by simp [intOf]; omega⟩
    · obtain rfl : k = m := by omega
      have hcl := Go.Lib.hid (Bclear_ok wr (W.heap.size + 1 + 1) (W.heap.size + 1 + 1) k n l _ hB1 hmn'.out hnb hown)
      have hbk' := Go.Lib.hid hbk
      clear hB1 hown hbk
      go_wp2_with (go_at_call 107; refine hcl.out.mono ?_; rintro e w5 ⟨rfl, l5, hB5, hown5, hb5⟩; have hb05 := hbk'.out.trans hb5; obtain ⟨y0, y1, y2, y3⟩ := (hy0'.out.below hb05 (by omega)).cells; have hB5' := Go.Lib.hid hB5; have hown5' := Go.Lib.hid hown5; have hb05' := Go.Lib.hid hb05; clear hB5 hown5 hb5 hb05)
      have hy := hy0'.out.below hb05'.out (by omega)
      have ap := hy.apart hown5'.out
      have htk := isB_take (D := midB B i0 t0) hB5'.out (fun i => by
        rw [hmid.out, List.take_take, Nat.min_eq_left (by have := hmn'.out; omega)]) (by have := hm'.out; omega)
      rw [← hm'.out, List.take_of_length_le (Nat.le_of_eq hB5'.out.1)] at htk
      have hown6 := hown5'.out
      rw [htk] at hown6
      refine bodyPost_ret (results_cell_row (by rfl) _ _ (W.heap.size + 1) _ _ _ _ rfl (hy.set _ _) Try.underlying45 rfl (by kernel_rfl)) rfl ?_
      refine ⟨W.heap.size + 1 + 1, k, rfl, by omega, Row.of_own (own_set (own_set hown6 ap _ _) ap _ _) (u8_wf (pack_wf _)), ?_⟩
      exact ((hbE'.out.trans (hb05'.out.mono (by omega))).setCell (by simp) _).setCell (by simp) _
theorem Bcut_ok (W : World) (a : Option Addr) (len cap : Nat) (B : List Bool) (i0 t0 : Nat) (hr : Row .u8 W a len cap (pack B)) (hB : B.length ≤ 330000) (h1 : i0 ≤ t0) (h2 : t0 ≤ B.length) :
    Calls Try.prog 100 #[.agg #[.slice a len cap, .int .i64 B.length], .int .i64 i0, .int .i64 t0] W fun e W' => ∃ b c, e = .returned (.agg #[.slice b (((midB B i0 t0).length + 7) / 8) c, .int .i64 ((t0 - i0 : Nat) : Int)]) ∧
      Row .u8 W' b (((midB B i0 t0).length + 7) / 8) c (pack (midB B i0 t0)) ∧ Below W.heap.size W W' :=
  (Bcut_new W a len cap B i0 t0 hr hB h1 h2).mono fun _ _ ⟨_, c, e, _, h⟩ => ⟨_, c, e, h⟩
end Go.Proofs.Ythbjcjphplgobaa

/- Numbers as bits, byte by byte. No Go function in sight. -/
namespace Cad

theorem natB_tb : ∀ (B : List Bool) (i : Nat), (natB B).testBit i = B.getD i false
  | [], i => by simp [natB]
  | b :: B, 0 => by
    cases b <;> simp [natB, Nat.testBit_zero] <;> omega
  | b :: B, i + 1 => by
    rw [Nat.testBit_succ, natB]
    rw [show (b.toNat + 2 * natB B) / 2 = natB B by have := Bool.toNat_le b; omega, natB_tb B i]
    simp [List.getD]
theorem numB_tb {v n : Nat} (hv : v < 2 ^ n) (i : Nat) : (numB v n).getD i false = v.testBit i := by
  rw [← natB_tb, natB_numB, Nat.mod_eq_of_lt hv]

theorem num_step {l : List Int} {L v n k : Nat} (h : IsB l L ((numB v n).take (8 * k))) (hv : v < 2 ^ n) (hL : k < L) :
    IsB (l.set k ((v / 2 ^ (8 * k) % 256 : Nat) : Int)) L ((numB v n).take (8 * (k + 1))) := by
  obtain ⟨h1, h2, h3⟩ := h
  have hm : v / 2 ^ (8 * k) % 256 < 256 := Nat.mod_lt _ (by decide)
  refine ⟨by simp [h1], mem_set_bd h2 _ ⟨by omega, by omega⟩, fun i => ?_⟩
  rw [bit_put _ _ _ _ (by omega), h3, getD_take, getD_take, numB_tb hv]
  by_cases g : i / 8 = k
  · rw [if_pos g, show (256 : Nat) = 2 ^ 8 by decide, Nat.testBit_mod_two_pow, Nat.testBit_div_two_pow, decide_eq_true (show i % 8 < 8 by omega), decide_eq_true (show i < 8 * (k + 1) by omega), show i % 8 + 8 * k = i by omega]
  · rw [if_neg g]
    by_cases g1 : i < 8 * k
    · rw [decide_eq_true g1, decide_eq_true (show i < 8 * (k + 1) by omega)]
    · rw [decide_eq_false g1, decide_eq_false (show ¬ i < 8 * (k + 1) by omega)]

theorem nat_step (B : List Bool) (k : Nat) : natB (B.take (8 * (k + 1))) = natB (B.take (8 * k)) ||| byteN B k * 2 ^ (8 * k) := by
  apply Nat.eq_of_testBit_eq
  intro i
  rw [Nat.testBit_or, natB_tb, natB_tb, shl_tb, byteN_tb, getD_take, getD_take]
  by_cases g1 : i < 8 * k
  · rw [decide_eq_true g1, decide_eq_true (show i < 8 * (k + 1) by omega), decide_eq_false (show ¬ 8 * k ≤ i by omega)]; simp
  · rw [decide_eq_false g1, decide_eq_true (show 8 * k ≤ i by omega), show 8 * k + (i - 8 * k) = i by omega]
    by_cases g2 : i < 8 * (k + 1)
    · rw [decide_eq_true g2, decide_eq_true (show i - 8 * k < 8 by omega)]; simp
    · rw [decide_eq_false g2, decide_eq_false (show ¬ i - 8 * k < 8 by omega)]; simp
end Cad

/- Contracts of the package bits: numbers. -/
namespace Go.Proofs.Ythbjcjphplgobaa
open Go.RowKit Cad

theorem BisNumberSize_ok (W : World) (n : Nat) (h : n ≤ 64) :
    Calls Try.prog 89 #[.int .i64 n] W fun e W' => e = .returned (.bool true) ∧ W = W' := by
  go_enter Try.func89, Try.ntmps89
  go_wp2
  go_ret
  exact ⟨ret_bool (by simp; omega), rfl⟩

set_option maxHeartbeats 400000 in
theorem Bnumber_ok (W : World) (a : Option Addr) (len cap : Nat) (B : List Bool) (hr : Row .u8 W a len cap (pack B)) (hB : B.length ≤ 64) :
    Calls Try.prog 104 #[.agg #[.slice a len cap, .int .i64 B.length]] W fun e W' => e = .returned (.int .u64 (natB B : Nat)) ∧ Below W.heap.size W W' := by
  have hbE := (Below.refl W.heap.size W).alloc (Nat.le_refl _) (.cells #[.slice a len cap, .int .i64 B.length] 45)
  have hrE := Go.Lib.hid (hr.below hbE (Nat.le_refl _))
  have hl := hr.hlen
  rw [pack_len] at hl
  have hl8 : len ≤ 8 := by omega
  have hl' := Go.Lib.hid hl
  have hbE' := Go.Lib.hid hbE
  clear hr hl hbE
  go_enter Try.func104, Try.ntmps104
  go_wp2
  go_loop [3, 9] (fun v i => ∃ k : Nat, k ≤ len ∧ i = .int .i64 k ∧ v = .int .u64 (natB (B.take (8 * k)) : Nat)) (fun _ i => len - (intOf i).toNat)
  case atStart => exact ⟨0, Nat.zero_le _, rfl, by simp [natB]⟩
  case round =>
    obtain ⟨k, hk, rfl, rfl⟩ := hrel
    by_cases hlt : k < len
    · obtain ⟨b', off, rfl, hlt', hc⟩ := hrE.out.cells (by omega)
      have hcell := hc k hlt
      rw [pack_getD_any] at hcell
      have hst := Go.Lib.hid (nat_step B k)
      have hlo : natB (B.take (8 * k)) < 18446744073709551616 := Nat.lt_of_lt_of_le (natB_lt _) (by
        have : (B.take (8 * k)).length ≤ 64 := by simp; omega
        exact Nat.pow_le_pow_right (n := 2) (by decide) this)
      have hc8 := byteN_lt B k
      obtain ⟨c, hcc⟩ : ∃ c, c = byteN B k := ⟨_, rfl⟩
      obtain ⟨y, hy⟩ : ∃ y, y = natB (B.take (8 * k)) := ⟨_, rfl⟩
      rw [← hcc] at hcell hst hc8
      rw [← hy] at hst hlo ⊢
      have hx64 : c * 2 ^ (8 * k) < 18446744073709551616 := by
        have : 2 ^ (8 * k) ≤ 2 ^ 56 := Nat.pow_le_pow_right (n := 2) (by decide) (by omega)
        calc c * 2 ^ (8 * k) ≤ 255 * 2 ^ 56 := Nat.mul_le_mul (by omega) this
          _ < 18446744073709551616 := by decide
      obtain ⟨x, hx⟩ : ∃ x, x = c * 2 ^ (8 * k) := ⟨_, rfl⟩
      rw [← hx] at hst hx64
      have hmul : (c : Int) * 2 ^ (8 * k) = (x : Int) := by rw [hx]; simp
      have htn : (8 * (k : Int)).toNat = 8 * k := by omega
      have o1 := Go.u64_or_nat y x hlo hx64
      clear hcc hy hx hc
      go_wp2
      exact ⟨⟨k + 1, by omega, by go_num, by rw [hst.out]⟩, by simp [intOf]; omega⟩
    · obtain rfl : k = len := by omega
      rw [List.take_of_length_le (by have := hl'.out; omega)]
      go_wp2
      go_ret
      exact ⟨rfl, hbE'.out⟩

set_option maxHeartbeats 400000 in
theorem BofNumber_ok (W : World) (v n : Nat) (hn : n ≤ 64) (hv : v < 2 ^ n) :
    Calls Try.prog 90 #[.int .u64 v, .int .i64 n] W fun e W' => ∃ b c, e = .returned (.agg #[.slice b ((n + 7) / 8) c, .int .i64 n]) ∧
      Row .u8 W' b ((n + 7) / 8) c (pack (numB v n)) ∧ Below W.heap.size W W' := by
  obtain ⟨m, hm⟩ : ∃ m, m = (n + 7) / 8 := ⟨_, rfl⟩
  rw [← hm]
  have hm' := Go.Lib.hid hm
  have hv64 : v < 18446744073709551616 := Nat.lt_of_lt_of_le hv (Nat.pow_le_pow_right (n := 2) (by decide) hn)
  have hv' := Go.Lib.hid hv
  have hmb : m ≤ 8 := by omega
  have hsz : Hid (∀ w, Calls Try.prog 81 #[.int .i64 (n : Int)] w fun e W' => e = .returned (.int .i64 (m : Int)) ∧ w = W') := Go.Lib.hid (fun w => by
    have := Bsize_ok w n (by omega)
    rwa [← hm] at this)
  obtain ⟨W0, hW0⟩ : ∃ W0, W0 = W.alloc (.cells #[.slice none 0 0, .int .i64 0] 45) := ⟨_, rfl⟩
  have hbE : Below W.heap.size W W0 := by rw [hW0]; exact (Below.refl W.heap.size W).alloc (Nat.le_refl _) _
  have hs0 : W0.heap.size = W.heap.size + 1 := by rw [hW0]; simp
  have hy0 : BoxAt W0 W.heap.size (.slice none 0 0) 0 := by
    rw [hW0]; unfold BoxAt; rw [heap_alloc_new]
  have hy0' := Go.Lib.hid hy0
  have hbE' := Go.Lib.hid hbE
  clear hy0 hbE hm hv
  go_enter Try.func90, Try.ntmps90
  go_wp2_with (first
    | (go_at_call 81; rw [← hW0]; refine (hsz.out _).mono ?_; rintro e w1 ⟨rfl, rfl⟩; clear hW0)
    | (refine law_make elU8 _ rfl _ _ rfl .i64 .i64 _ _ m rfl rfl (by omega) (by omega) (by omega) ?_; intro w1 hown1 hb1 hs1; simp only [hs0] at hown1 hb1 hs1; have hown1' := Go.Lib.hid hown1; have hb1' := Go.Lib.hid hb1; clear hown1 hb1))
  go_loopw [12] (fun i wr => ∃ (k : Nat) (l : List Int), k ≤ m ∧ i = .int .i64 k ∧ IsB l m ((numB v n).take (8 * k)) ∧
    wr.ownsRow (W.heap.size + 1) 5 1 (.slice (some ⟨W.heap.size + 1, 0, none⟩) m m) m (nums .u8 l) ∧ Below (W.heap.size + 1) W0 wr) (fun i _ => m - (intOf i).toNat)
  case atStart => exact ⟨0, _, Nat.zero_le _, rfl, by simpa using isB_zero m, hown1'.out, hb1'.out⟩
  case round =>
    obtain ⟨k, l, hk, rfl, hB1, hown, hbk⟩ := hrel
    by_cases hlt : k < m
    · have hst := Go.Lib.hid (num_step hB1 hv'.out hlt)
      have htn : (8 * (k : Int)).toNat = 8 * k := by omega
      have hf1 := hown.frozenAt k
      have hc2 := hown.cellAt k (by omega)
      have lk : l.length = m := hB1.1
      rw [show (nums .u8 l)[k]? = some (.int .u8 (l.getD k 0)) by simp [nums, List.getD, show k < l.length by omega]] at hc2
      have hst2 : Hid (∀ u : Int, u = ((v / 2 ^ (8 * k) % 256 : Nat) : Int) → (wr.setCell ⟨W.heap.size + 1, k, none⟩ (.int .u8 u)).ownsRow (W.heap.size + 1) 5 1 (.slice (some ⟨W.heap.size + 1, 0, none⟩) m m) m (nums .u8 (l.set k ((v / 2 ^ (8 * k) % 256 : Nat) : Int)))) := Go.Lib.hid fun u hu => by
        subst hu
        have := (hown.stored k (.int .u8 ((v / 2 ^ (8 * k) % 256 : Nat) : Int))).1
        rwa [nums_set] at this
      have hbk' := Go.Lib.hid hbk
      clear hown hbk lk hB1
      go_wp2
      refine ⟨⟨k + 1, _, by omega, by go_num, hst.out, hst2.out _ (by simp), hbk'.out.setCell (Nat.le_refl _) _⟩, by simp [intOf]; omega⟩
    · obtain rfl : k = m := by omega
      have hy := hy0'.out.below hbk (by omega)
      obtain ⟨y0, y1, y2, y3⟩ := hy.cells
      have ap := hy.apart hown
      have htk := isB_take (D := numB v n) hB1 (fun i => by
        rw [List.take_of_length_le (by rw [numB_len]; have := hm'.out; omega)]) (by rw [numB_len]; have := hm'.out; omega)
      rw [numB_len, ← hm'.out, List.take_of_length_le (Nat.le_of_eq hB1.1)] at htk
      rw [htk] at hown
      have hy' := Go.Lib.hid hy
      have ap' := Go.Lib.hid ap
      have hown' := Go.Lib.hid hown
      have hbk' := Go.Lib.hid hbk
      clear hB1 hown hbk hy ap htk
      go_wp2
      refine bodyPost_ret (results_cell_row (by rfl) _ _ W.heap.size _ _ _ _ rfl (hy'.out.set _ _) Try.underlying45 rfl (by kernel_rfl)) rfl ?_
      refine ⟨some ⟨W.heap.size + 1, 0, none⟩, k, rfl, Row.of_own (own_set (own_set hown'.out ap'.out _ _) ap'.out _ _) (u8_wf (pack_wf _)), ?_⟩
      exact ((hbE'.out.trans (hbk'.out.mono (by omega))).setCell (Nat.le_refl _) _).setCell (Nat.le_refl _) _
end Go.Proofs.Ythbjcjphplgobaa

/- Contracts of the package bits: Get and Put. -/
namespace Go.Proofs.Ythbjcjphplgobaa
open Go.RowKit Cad

theorem bounds_of_len {n : Nat} (h : n ≤ 1000000000) : (Lit.int .i64 (n : Int)).wf = true := WalkArith.wf_i64 (by omega)

/-- bytes stay where a variable that holds bits is written -/
theorem Row.box {w : World} {a a' : Option Addr} {len cap n' c' : Nat} {l : List Int} {x : Nat} {N : Int} (h : Row .u8 w a len cap l) (hx : BoxAt w x (.slice a' n' c') N) (o : Nat) (u : Value) : Row .u8 (w.setCell ⟨x, o, none⟩ u) a len cap l := by
  refine ⟨h.hlen, h.hcap, h.hmax, h.wf, fun hp => ?_, h.nil⟩
  obtain ⟨b, off, rfl, hlt, hc⟩ := h.cells hp
  have hne : b ≠ x := by
    rintro rfl
    have h0 := hc 0 hp
    unfold World.cell? at h0
    unfold BoxAt at hx
    rw [hx] at h0
    match off, h0 with
    | 0, h0 => simp at h0
    | 1, h0 => simp at h0
    | off + 2, h0 => simp at h0
  refine ⟨b, off, rfl, by simpa using hlt, fun i hi => ?_⟩
  rw [← hc i hi]
  unfold World.cell?
  rw [Below.heap_setCell _ _ _ _ (by simpa using hne)]
theorem BoxAt.set0 {w : World} {x : Nat} {v : Value} {N : Int} (h : BoxAt w x v N) (v' : Value) : BoxAt (w.setCell ⟨x, 0, none⟩ v') x v' N := by
  unfold BoxAt at h ⊢
  exact heap_setCell_same _ _ 0 _ _ v' h

/-- two boxes: the bits that came in, and the bits that go out -/
theorem two_boxes (W : World) (v : Value) (N : Int) : ∃ W0, W0 = (W.alloc (.cells #[v, .int .i64 N] 45)).alloc (.cells #[.slice none 0 0, .int .i64 0] 45) ∧ Below W.heap.size W W0 ∧ W0.heap.size = W.heap.size + 1 + 1 ∧
    BoxAt W0 W.heap.size v N ∧ BoxAt W0 (W.heap.size + 1) (.slice none 0 0) 0 := by
  refine ⟨_, rfl, ((Below.refl W.heap.size W).alloc (Nat.le_refl _) _).alloc (by simp) _, by simp, ?_, ?_⟩
  · unfold BoxAt; rw [Below.heap_alloc _ _ _ (by simp), heap_alloc_new]
  · unfold BoxAt; rw [heap_alloc2_new]

theorem BGet_ok (W : World) (a : Option Addr) (len cap : Nat) (B : List Bool) (i n : Nat) (hr : Row .u8 W a len cap (pack B)) (hB : B.length ≤ 330000) (hn : n ≤ 64) (hi : i + n ≤ B.length) :
    Calls Try.prog 98 #[.agg #[.slice a len cap, .int .i64 B.length], .int .i64 i, .int .i64 n] W fun e W' => e = .returned (.tuple #[.int .u64 (natB (midB B i (i + n)) : Nat), .int .i64 0]) ∧ Below W.heap.size W W' := by
  have hbE := (Below.refl W.heap.size W).alloc (Nat.le_refl _) (.cells #[.slice a len cap, .int .i64 B.length] 45)
  have hrE := hr.below hbE (Nat.le_refl _)
  have hx0 : BoxAt (W.alloc (.cells #[.slice a len cap, .int .i64 B.length] 45)) W.heap.size (.slice a len cap) B.length := by
    unfold BoxAt; rw [heap_alloc_new]
  have hck := Go.Lib.hid (BCheck_any _ a len cap B.length (pack B) hrE (bounds_of_len (by omega)) 0 (.inl ⟨⟨B, rfl, hB, rfl⟩, rfl⟩))
  have hx0' := Go.Lib.hid hx0
  have hbE' := Go.Lib.hid hbE
  have hrE' := Go.Lib.hid hrE
  have hml := midB_len B (show i ≤ i + n by omega) hi
  have hml' := Go.Lib.hid (show (midB B i (i + n)).length = n by omega)
  obtain ⟨C, hC⟩ : ∃ C, C = midB B i (i + n) := ⟨_, rfl⟩
  have hcut : Hid (∀ w, Below (W.alloc (.cells #[.slice a len cap, .int .i64 B.length] 45)).heap.size (W.alloc (.cells #[.slice a len cap, .int .i64 B.length] 45)) w →
      Calls Try.prog 100 #[.agg #[.slice a len cap, .int .i64 B.length], .int .i64 i, .int .i64 ((i : Int) + (n : Int))] w fun e W' => ∃ b c, e = .returned (.agg #[.slice b ((C.length + 7) / 8) c, .int .i64 (C.length : Nat)]) ∧ Row .u8 W' b ((C.length + 7) / 8) c (pack C) ∧ Below w.heap.size w W') := Go.Lib.hid (fun w hw => by
    have := Bcut_ok w a len cap B i (i + n) (hrE.below hw (Nat.le_refl _)) hB (by omega) hi
    rw [← hml, ← hC] at this
    push_cast at this
    exact this)
  have hnum : Hid (∀ (w : World) b c, Row .u8 w b ((C.length + 7) / 8) c (pack C) → Calls Try.prog 104 #[.agg #[.slice b ((C.length + 7) / 8) c, .int .i64 (C.length : Nat)]] w fun e W' => e = .returned (.int .u64 (natB C : Nat)) ∧ Below w.heap.size w W') :=
    Go.Lib.hid fun w b c h => Bnumber_ok w b _ c C h (by rw [hC, hml]; omega)
  rw [← hC] at hml' ⊢
  have hiI : (i : Int) ≤ (B.length : Int) - (n : Int) := by omega
  obtain ⟨y, hy⟩ : ∃ y, y = (natB C : Nat) := ⟨_, rfl⟩
  rw [← hy] at hnum ⊢
  clear hx0 hbE hrE hml hC hr hy
  go_enter Try.func98, Try.ntmps98
  go_wp2_with (first
    | (go_at_call 55; refine hck.out.mono ?_; rintro e w1 ⟨rfl, hb1⟩; obtain ⟨c0, c1, c2, c3⟩ := (hx0'.out.below hb1 (by simp)).cells; have hb1' := Go.Lib.hid hb1; clear hb1)
    | (go_at_call 89; refine (BisNumberSize_ok _ n hn).mono ?_; rintro e w5 ⟨rfl, rfl⟩)
    | (go_at_call 100; refine (hcut.out _ hb1'.out).mono ?_; rintro e w2 ⟨b2, cp2, rfl, hr2, hb2⟩; have hb12 := Go.Lib.hid (hb1'.out.trans (hb2.mono hb1'.out.size)); have hr2' := Go.Lib.hid hr2; clear hr2 hb2)
    | (go_at_call 104; refine (hnum.out _ _ _ hr2'.out).mono ?_; rintro e w3 ⟨rfl, hb3⟩))
  go_ret2
  exact ⟨rfl, hbE'.out.trans ((hb12.out.trans (hb3.mono hb12.out.size)).mono (by simp))⟩

theorem BPut_ok (W : World) (a : Option Addr) (len cap : Nat) (B : List Bool) (v n : Nat) (hr : Row .u8 W a len cap (pack B)) (hB : B.length + n ≤ 330000) (hn : n ≤ 64) (hv : v < 2 ^ n) :
    Calls Try.prog 61 #[.agg #[.slice a len cap, .int .i64 B.length], .int .u64 v, .int .i64 n] W fun e W' => ∃ b c, e = .returned (.tuple #[.agg #[.slice b ((B.length + n + 7) / 8) c, .int .i64 ((B.length + n : Nat) : Int)], .int .i64 0]) ∧
      Row .u8 W' b ((B.length + n + 7) / 8) c (pack (B ++ numB v n)) ∧ Below W.heap.size W W' := by
  have hmx := hr.hmax
  have hcp := hr.hcap
  unfold maxLen at hmx
  obtain ⟨W0, hW0, hbE, hs0, hx0, hy0⟩ := two_boxes W (.slice a len cap) B.length
  have hrE := hr.below hbE (Nat.le_refl _)
  have hck := Go.Lib.hid (BCheck_any W0 a len cap B.length (pack B) hrE (bounds_of_len (by omega)) 0 (.inl ⟨⟨B, rfl, by omega, rfl⟩, rfl⟩))
  have hx0' := Go.Lib.hid hx0
  have hy0' := Go.Lib.hid hy0
  have hbE' := Go.Lib.hid hbE
  have hrE' := Go.Lib.hid hrE
  have hs0' := Go.Lib.hid hs0
  have hof : Hid (∀ w, Calls Try.prog 90 #[.int .u64 v, .int .i64 n] w fun e W' => ∃ b c, e = .returned (.agg #[.slice b ((n + 7) / 8) c, .int .i64 n]) ∧ Row .u8 W' b ((n + 7) / 8) c (pack (numB v n)) ∧ Below w.heap.size w W') :=
    Go.Lib.hid fun w => BofNumber_ok w v n hn hv
  obtain ⟨q, hq⟩ : ∃ q, q = (n + 7) / 8 := ⟨_, rfl⟩
  rw [← hq] at hof
  have hqb : q ≤ 8 := by omega
  obtain ⟨m, hm⟩ : ∃ m, m = (B.length + n + 7) / 8 := ⟨_, rfl⟩
  rw [← hm]
  obtain ⟨N, hN⟩ : ∃ N, N = B.length + n := ⟨_, rfl⟩
  rw [← hN]
  have hjo : Hid (∀ (w : World) b c, Row .u8 w a len cap (pack B) → Row .u8 w b q c (pack (numB v n)) → Calls Try.prog 85 #[.agg #[.slice a len cap, .int .i64 B.length], .agg #[.slice b q c, .int .i64 n]] w fun e W' => ∃ b c, e = .returned (.tuple #[.agg #[.slice b m c, .int .i64 N], .int .i64 0]) ∧
      Row .u8 W' b m c (pack (B ++ numB v n)) ∧ Below w.heap.size w W') := Go.Lib.hid (fun w b c h1 h2 => by
    have := Bjoin_ok w a len cap B h1 b q c (numB v n) h2 (by rw [numB_len]; omega)
    rw [List.length_append, numB_len, ← hN] at this
    rw [hm, ← hN]
    exact this)
  have hz : (v : Int) / 2 ^ n = 0 := by
    have : v / 2 ^ n = 0 := Nat.div_eq_of_lt hv
    have e : ((v : Int) / 2 ^ n) = ((v / 2 ^ n : Nat) : Int) := by simp
    rw [e, this]; rfl
  have hv64 : v < 18446744073709551616 := Nat.lt_of_lt_of_le hv (Nat.pow_le_pow_right (n := 2) (by decide) hn)
  clear hx0 hy0 hbE hrE hr hv hq hm hN hmx hcp
  go_enter Try.func61, Try.ntmps61
  go_wp2_with (first
    | (go_at_call 55; rw [← hW0]; refine hck.out.mono ?_; rintro e w1 ⟨rfl, hb1⟩; obtain ⟨c0, c1, c2, c3⟩ := (hx0'.out.below hb1 (by omega)).cells; have hb1' := Go.Lib.hid hb1; clear hb1 hW0)
    | (go_at_call 89; refine (BisNumberSize_ok _ n hn).mono ?_; rintro e w5 ⟨rfl, rfl⟩))
  go_region_held3 (fun w' => w'.cell? ⟨W.heap.size, 0, none⟩ = some (.slice a len cap) ∧ w'.cell? ⟨W.heap.size, 1, none⟩ = some (.int .i64 B.length))
    (first
      | go_keep
      | (go_split_ands
         refine ⟨?_, ?_⟩
         · first | exact ((hx0'.out.below hb13 (by omega)).cells).1 | exact ((hx0'.out.below hb12 (by omega)).cells).1
         · first | exact ((hx0'.out.below hb13 (by omega)).cells).2.1 | exact ((hx0'.out.below hb12 (by omega)).cells).2.1))
    ((first
      | (go_at_call 90; refine (hof.out _).mono ?_; rintro e w2 ⟨b2, cp2, rfl, hr2, hb2⟩; have hb12 := hb1'.out.drew.trans (hb2.mono hb1'.out.drew.size))
      | (go_at_call 85; refine (hjo.out _ _ _ (hrE'.out.below hb12 (Nat.le_refl _)) hr2).mono ?_; rintro e w3 ⟨b3, cp3, rfl, hr3, hb3⟩; have hb13 := hb12.trans (hb3.mono hb12.size); obtain ⟨e0, e1, f0, f1⟩ := (hy0'.out.below hb13 (by omega)).cells)))
  go_wp2
  (try simp only [Exit.inBlock, Exit.then])
  have hy3 := hy0'.out.below hb13 (by omega)
  refine bodyPost_ret (results_box_tmp (by rfl) _ _ (W.heap.size + 1) _ _ rfl (hy3.set _ _)) rfl ?_
  refine ⟨b3, cp3, by simp, (hr3.box hy3 0 (.slice b3 m cp3)).box (hy3.set0 _) 1 _, ?_⟩
  exact ((hbE'.out.trans (hb13.mono (by omega))).setCell (by simp) _).setCell (by simp) _
end Go.Proofs.Ythbjcjphplgobaa

/- Contracts of the package bits: Cut. -/
namespace Go.Proofs.Ythbjcjphplgobaa
open Go.RowKit Cad

theorem BCut_bad (W : World) (a : Option Addr) (len cap : Nat) (N : Int) (l : List Int) (i t : Int) (hr : Row .u8 W a len cap l) (hN : (Lit.int .i64 N).wf = true) (hv : ¬ Valid l N) :
    Calls Try.prog 87 #[.agg #[.slice a len cap, .int .i64 N], .int .i64 i, .int .i64 t] W fun e W' => e = .returned (.tuple #[.agg #[.slice none 0 0, .int .i64 0], .int .i64 8]) ∧ Below W.heap.size W W' := by
  obtain ⟨W0, hW0, hbE, hs0, hx0, hy0⟩ := two_boxes W (.slice a len cap) N
  have hrE := hr.below hbE (Nat.le_refl _)
  have hck := Go.Lib.hid (BCheck_any W0 a len cap N l hrE hN 8 (.inr ⟨hv, rfl⟩))
  have hy0' := Go.Lib.hid hy0
  have hbE' := Go.Lib.hid hbE
  clear hr hrE hx0 hy0 hbE hN
  go_enter Try.func87, Try.ntmps87
  go_wp2_with (go_at_call 55; rw [← hW0]; refine hck.out.mono ?_; rintro e w1 ⟨rfl, hb1⟩; obtain ⟨e0, e1, f0, f1⟩ := (hy0'.out.below hb1 (by omega)).cells; have hb1' := Go.Lib.hid hb1; clear hb1 hW0)
  (try simp only [Exit.inBlock, Exit.then])
  refine bodyPost_ret (results_box_tmp (by rfl) _ _ (W.heap.size + 1) _ _ rfl ((hy0'.out.below hb1'.out (by omega)).set _ _)) rfl ?_
  exact ⟨rfl, ((hbE'.out.trans (hb1'.out.mono (by omega))).setCell (by simp) _).setCell (by simp) _⟩

theorem BCut_arg (W : World) (a : Option Addr) (len cap : Nat) (N : Int) (l : List Int) (i t : Int) (hr : Row .u8 W a len cap l) (hN : (Lit.int .i64 N).wf = true) (hv : Valid l N) (hi : i < 0 ∨ N < t ∨ t < i) :
    Calls Try.prog 87 #[.agg #[.slice a len cap, .int .i64 N], .int .i64 i, .int .i64 t] W fun e W' => e = .returned (.tuple #[.agg #[.slice none 0 0, .int .i64 0], .int .i64 2]) ∧ Below W.heap.size W W' := by
  obtain ⟨W0, hW0, hbE, hs0, hx0, hy0⟩ := two_boxes W (.slice a len cap) N
  have hrE := hr.below hbE (Nat.le_refl _)
  have hck := Go.Lib.hid (BCheck_any W0 a len cap N l hrE hN 0 (.inl ⟨hv, rfl⟩))
  have hx0' := Go.Lib.hid hx0
  have hy0' := Go.Lib.hid hy0
  have hbE' := Go.Lib.hid hbE
  clear hr hrE hx0 hy0 hbE hN
  have key : (i < 0) ∨ (¬ i < 0 ∧ N < t) ∨ (¬ i < 0 ∧ ¬ N < t ∧ t < i) := by omega
  rcases key with h | ⟨h, h'⟩ | ⟨h, h', h''⟩
  all_goals
    clear hi
    go_enter Try.func87, Try.ntmps87
    go_wp2_with (go_at_call 55; rw [← hW0]; refine hck.out.mono ?_; rintro e w1 ⟨rfl, hb1⟩; obtain ⟨d0, d1, g0, g1⟩ := (hx0'.out.below hb1 (by omega)).cells; obtain ⟨e0, e1, f0, f1⟩ := (hy0'.out.below hb1 (by omega)).cells; have hb1' := Go.Lib.hid hb1; clear hb1 hW0)
    (try simp only [Exit.inBlock, Exit.then])
    refine bodyPost_ret (results_box_tmp (by rfl) _ _ (W.heap.size + 1) _ _ rfl ((hy0'.out.below hb1'.out (by omega)).set _ _)) rfl ?_
    exact ⟨rfl, ((hbE'.out.trans (hb1'.out.mono (by omega))).setCell (by simp) _).setCell (by simp) _⟩

theorem BCut_new (W : World) (a : Option Addr) (len cap : Nat) (B : List Bool) (i t : Nat) (hr : Row .u8 W a len cap (pack B)) (hB : B.length ≤ 330000) (h1 : i ≤ t) (h2 : t ≤ B.length) :
    Calls Try.prog 87 #[.agg #[.slice a len cap, .int .i64 B.length], .int .i64 i, .int .i64 t] W fun e W' => ∃ b c, e = .returned (.tuple #[.agg #[.slice (some ⟨b, 0, none⟩) (((midB B i t).length + 7) / 8) c, .int .i64 ((t - i : Nat) : Int)], .int .i64 0]) ∧
      W.heap.size ≤ b ∧ Row .u8 W' (some ⟨b, 0, none⟩) (((midB B i t).length + 7) / 8) c (pack (midB B i t)) ∧ Below W.heap.size W W' := by
  obtain ⟨W0, hW0, hbE, hs0, hx0, hy0⟩ := two_boxes W (.slice a len cap) B.length
  have hrE := hr.below hbE (Nat.le_refl _)
  have hck := Go.Lib.hid (BCheck_any W0 a len cap B.length (pack B) hrE (bounds_of_len (by omega)) 0 (.inl ⟨⟨B, rfl, hB, rfl⟩, rfl⟩))
  have hx0' := Go.Lib.hid hx0
  have hy0' := Go.Lib.hid hy0
  have hbE' := Go.Lib.hid hbE
  obtain ⟨n, hn⟩ : ∃ n, n = t - i := ⟨_, rfl⟩
  obtain ⟨m, hm⟩ : ∃ m, m = ((midB B i t).length + 7) / 8 := ⟨_, rfl⟩
  obtain ⟨C, hC⟩ : ∃ C, C = pack (midB B i t) := ⟨_, rfl⟩
  have hcut : Hid (∀ w, Below W0.heap.size W0 w → Calls Try.prog 100 #[.agg #[.slice a len cap, .int .i64 B.length], .int .i64 i, .int .i64 t] w fun e W' => ∃ b c, e = .returned (.agg #[.slice (some ⟨b, 0, none⟩) m c, .int .i64 n]) ∧ w.heap.size ≤ b ∧ Row .u8 W' (some ⟨b, 0, none⟩) m c C ∧ Below w.heap.size w W') := Go.Lib.hid (fun w hw => by
    rw [hn, hm, hC]
    exact Bcut_new w a len cap B i t (hrE.below hw (Nat.le_refl _)) hB h1 h2)
  rw [← hn, ← hm, ← hC]
  clear hx0 hy0 hbE hrE hr hn hm hC
  go_enter Try.func87, Try.ntmps87
  go_wp2_with (first
    | (go_at_call 55; rw [← hW0]; refine hck.out.mono ?_; rintro e w1 ⟨rfl, hb1⟩; obtain ⟨d0, d1, g0, g1⟩ := (hx0'.out.below hb1 (by omega)).cells; have hb1' := Go.Lib.hid hb1; clear hb1 hW0)
    | (go_at_call 100; refine (hcut.out _ hb1'.out).mono ?_; rintro e w2 ⟨b2, cp2, rfl, hg2, hr2, hb2⟩; have hg3 := Go.Lib.hid (Nat.le_trans hb1'.out.size hg2); have hb12 := hb1'.out.trans (hb2.mono hb1'.out.size); obtain ⟨e0, e1, f0, f1⟩ := (hy0'.out.below hb12 (by omega)).cells; have hb12' := Go.Lib.hid hb12; have hr2' := Go.Lib.hid hr2; clear hb2 hb12 hr2 hg2))
  (try simp only [Exit.inBlock, Exit.then])
  have hy2 := hy0'.out.below hb12'.out (by omega)
  refine bodyPost_ret (results_box_tmp (by rfl) _ _ (W.heap.size + 1) _ _ rfl (hy2.set _ _)) rfl ?_
  refine ⟨b2, cp2, by simp, (by have := hg3.out; omega), (hr2'.out.box hy2 0 (.slice (some ⟨b2, 0, none⟩) m cp2)).box (hy2.set0 _) 1 _, ?_⟩
  exact ((hbE'.out.trans (hb12'.out.mono (by omega))).setCell (by simp) _).setCell (by simp) _
theorem BCut_ok (W : World) (a : Option Addr) (len cap : Nat) (B : List Bool) (i t : Nat) (hr : Row .u8 W a len cap (pack B)) (hB : B.length ≤ 330000) (h1 : i ≤ t) (h2 : t ≤ B.length) :
    Calls Try.prog 87 #[.agg #[.slice a len cap, .int .i64 B.length], .int .i64 i, .int .i64 t] W fun e W' => ∃ b c, e = .returned (.tuple #[.agg #[.slice b (((midB B i t).length + 7) / 8) c, .int .i64 ((t - i : Nat) : Int)], .int .i64 0]) ∧
      Row .u8 W' b (((midB B i t).length + 7) / 8) c (pack (midB B i t)) ∧ Below W.heap.size W W' :=
  (BCut_new W a len cap B i t hr hB h1 h2).mono fun _ _ ⟨_, c, e, _, h⟩ => ⟨_, c, e, h⟩
end Go.Proofs.Ythbjcjphplgobaa

/- Contracts of the reference's functions on bits: cut. -/
namespace Go.Proofs.Ythbjcjphplgobaa
open Go.RowKit Cad

end Go.Proofs.Ythbjcjphplgobaa
