/- Bytes changed bit by bit: joining, cutting, clearing. No Go function in sight. -/
import Derived.Test.YtahefkjgcdchlaaBitB
import Derived.Laws.BitsAllLaws
namespace Cad

theorem bit_tb (l : List Int) (i : Nat) : bit l i = (l.getD (i / 8) 0).toNat.testBit (i % 8) := by
  unfold bit
  rw [Nat.testBit_eq_decide_div_mod_eq]
  rfl
/-- bytes whose bits are C, and zeros -/
def IsB (l : List Int) (L : Nat) (C : List Bool) : Prop := l.length = L ∧ (∀ x ∈ l, 0 ≤ x ∧ x ≤ 255) ∧ ∀ i, bit l i = C.getD i false
theorem IsB.byte {l : List Int} {L : Nat} {C : List Bool} (h : IsB l L C) (p : Nat) : ∃ d : Nat, l.getD p 0 = d ∧ d < 256 := by
  have := Go.Proofs.Ytahefkjgcdchlaa.getD_bd h.2.1 p
  exact ⟨(l.getD p 0).toNat, by omega, by omega⟩
theorem mem_set_bd {l : List Int} (h : ∀ x ∈ l, 0 ≤ x ∧ x ≤ 255) (p : Nat) {v : Int} (hv : 0 ≤ v ∧ v ≤ 255) : ∀ x ∈ l.set p v, 0 ≤ x ∧ x ≤ 255 := by
  intro x hx
  rcases List.mem_or_eq_of_mem_set hx with h' | rfl
  · exact h x h'
  · exact hv
theorem getD_set (l : List Int) (p j : Nat) (v : Int) (hp : p < l.length) : (l.set p v).getD j 0 = if j = p then v else l.getD j 0 := by
  simp only [List.getD, List.getElem?_set]
  by_cases h : p = j
  · subst h; simp [hp]
  · simp [h, Ne.symm h]
theorem bit_or (l : List Int) (p d x i : Nat) (hp : p < l.length) (hd : l.getD p 0 = d) : bit (l.set p ((d ||| x : Nat) : Int)) i = (bit l i || (decide (i / 8 = p) && x.testBit (i % 8))) := by
  rw [bit_tb, bit_tb, getD_set _ _ _ _ hp]
  by_cases h : i / 8 = p
  · subst h
    rw [if_pos rfl, hd]
    simp [Nat.testBit_or]
  · simp [h]
theorem or_lt256 {a b : Nat} (ha : a < 256) (hb : b < 256) : a ||| b < 256 := Nat.or_lt_two_pow (n := 8) ha hb

theorem isB_start (A : List Bool) {L : Nat} (h : (A.length + 7) / 8 ≤ L) : IsB (pack A ++ List.drop ((A.length + 7) / 8) (List.replicate L 0)) L A := by
  refine ⟨by simp [pack_len]; omega, ?_, fun i => ?_⟩
  · intro x hx
    rcases List.mem_append.1 hx with h' | h'
    · exact pack_wf A x h'
    · have := List.eq_of_mem_replicate (List.mem_of_mem_drop h')
      omega
  · rw [← bit_pack A i]
    have e : (pack A ++ List.drop ((A.length + 7) / 8) (List.replicate L 0)).getD (i / 8) 0 = (pack A).getD (i / 8) 0 := ?_
    · unfold bit; rw [e]
    by_cases hi : i / 8 < (A.length + 7) / 8
    · simp [List.getD, List.getElem?_append_left, pack_len, hi]
    · rw [getD_ge (pack A) _ (by rw [pack_len]; omega)]
      simp only [List.getD]
      rw [List.getElem?_append_right (by rw [pack_len]; omega)]
      simp [List.drop_replicate, List.getElem?_replicate]
      split <;> rfl

theorem byteN_tb (B : List Bool) (k t : Nat) : (byteN B k).testBit t = (decide (t < 8) && B.getD (8 * k + t) false) := by
  rw [Nat.testBit_eq_decide_div_mod_eq]
  by_cases h : t < 8
  · have := byteN_bit B k t h
    rw [← this]
    by_cases h' : byteN B k / 2 ^ t % 2 = 1 <;> simp [h, h']
  · have hz : byteN B k / 2 ^ t = 0 := Nat.div_eq_of_lt (Nat.lt_of_lt_of_le (byteN_lt B k) (Nat.pow_le_pow_right (n := 2) (by decide) (show 8 ≤ t by omega)))
    simp [h, hz]
theorem shl_tb (c s u : Nat) : (c * 2 ^ s).testBit u = (decide (s ≤ u) && c.testBit (u - s)) := by
  rw [← Nat.shiftLeft_eq, Nat.testBit_shiftLeft]

theorem getD_take (B : List Bool) (n i : Nat) : (B.take n).getD i false = (decide (i < n) && B.getD i false) := by
  by_cases h : i < n
  · simp [List.getD, h]
  · simp [List.getD, List.getElem?_take, h]
theorem getD_app (A B : List Bool) (i : Nat) : (A ++ B).getD i false = if i < A.length then A.getD i false else B.getD (i - A.length) false := by
  by_cases h : i < A.length
  · simp [List.getD, List.getElem?_append_left, h]
  · rw [if_neg h]
    simp only [List.getD]
    rw [List.getElem?_append_right (by omega)]
theorem getD_drop (B : List Bool) (n i : Nat) : (B.drop n).getD i false = B.getD (n + i) false := by simp [List.getD]

/-- one byte more is joined -/
theorem join_step {l : List Int} {L f s k d e : Nat} {A B : List Bool} (h : IsB l L (A ++ B.take (8 * k))) (hA : A.length = 8 * f + s) (hs : s < 8) (hL : f + k + 1 < L)
    (hd : l.getD (f + k) 0 = d) (hd8 : d < 256) (he : l.getD (f + k + 1) 0 = e) (he8 : e < 256) :
    IsB ((l.set (f + k) ((d ||| (byteN B k * 2 ^ s % 256) : Nat) : Int)).set (f + k + 1) ((e ||| (byteN B k * 2 ^ s / 256) : Nat) : Int)) L (A ++ B.take (8 * (k + 1))) := by
  obtain ⟨h1, h2, h3⟩ := h
  have hc := byteN_lt B k
  have hx : byteN B k * 2 ^ s < 65536 := by
    have : 2 ^ s ≤ 128 := by
      rcases lt8 hs with h | h | h | h | h | h | h | h <;> rw [h] <;> decide
    calc byteN B k * 2 ^ s ≤ 255 * 128 := Nat.mul_le_mul (by omega) this
      _ < 65536 := by decide
  obtain ⟨x, hxx⟩ : ∃ x, x = byteN B k * 2 ^ s := ⟨_, rfl⟩
  have htb : ∀ u, x.testBit u = (decide (s ≤ u) && (decide (u - s < 8) && B.getD (8 * k + (u - s)) false)) := fun u => by rw [hxx, shl_tb, byteN_tb]
  rw [← hxx] at hx ⊢
  have hlo : x % 256 < 256 := Nat.mod_lt _ (by decide)
  have hhi : x / 256 < 256 := by omega
  have hlot : ∀ t, (x % 256).testBit t = (decide (t < 8) && x.testBit t) := fun t => Nat.testBit_mod_two_pow x 8 t
  have hhit : ∀ t, (x / 256).testBit t = x.testBit (8 + t) := fun t => by rw [show (256 : Nat) = 2 ^ 8 by decide, Nat.testBit_div_two_pow, Nat.add_comm]
  have b1 := or_lt256 hd8 hlo
  have b2 := or_lt256 he8 hhi
  refine ⟨by simp [h1], mem_set_bd (mem_set_bd h2 _ ⟨by omega, by omega⟩) _ ⟨by omega, by omega⟩, fun i => ?_⟩
  have he' : (l.set (f + k) ((d ||| x % 256 : Nat) : Int)).getD (f + k + 1) 0 = e := by
    rw [getD_set _ _ _ _ (by omega), if_neg (by omega), he]
  rw [bit_or _ _ _ _ _ (by simp; omega) he', bit_or _ _ _ _ _ (by omega) hd, h3, hlot, hhit, htb, htb, getD_app, getD_app, getD_take, getD_take]
  by_cases hi : i < A.length
  · rw [if_pos hi, if_pos hi]
    have q1 : (decide (i / 8 = f + k) && (decide (i % 8 < 8) && (decide (s ≤ i % 8) && (decide (i % 8 - s < 8) && B.getD (8 * k + (i % 8 - s)) false)))) = false := by
      by_cases g : i / 8 = f + k ∧ s ≤ i % 8
      · omega
      · by_cases g1 : i / 8 = f + k
        · have : ¬ s ≤ i % 8 := fun g2 => g ⟨g1, g2⟩
          simp [this]
        · simp [g1]
    have q2 : decide (i / 8 = f + k + 1) = false := decide_eq_false (by omega)
    rw [q1, q2]; simp
  · rw [if_neg hi, if_neg hi]
    obtain ⟨j, hj⟩ : ∃ j, i = A.length + j := ⟨i - A.length, by omega⟩
    rw [show i - A.length = j by omega]
    by_cases g0 : j < 8 * k
    · have q1 : decide (j < 8 * k) = true := decide_eq_true g0
      have q2 : decide (j < 8 * (k + 1)) = true := decide_eq_true (by omega)
      rw [q1, q2]
      by_cases g1 : i / 8 = f + k
      · have : ¬ (s ≤ i % 8) := by omega
        have q3 : decide (i / 8 = f + k + 1) = false := decide_eq_false (by omega)
        rw [q3]; simp [this]
      · have q3 : decide (i / 8 = f + k + 1) = false := decide_eq_false (by omega)
        rw [q3]; simp [g1]
    · have q1 : decide (j < 8 * k) = false := decide_eq_false g0
      rw [q1]
      by_cases g1 : i / 8 = f + k
      · have q2 : decide (i / 8 = f + k + 1) = false := decide_eq_false (by omega)
        have q3 : decide (i / 8 = f + k) = true := decide_eq_true g1
        have q4 : decide (i % 8 < 8) = true := decide_eq_true (by omega)
        have q5 : decide (s ≤ i % 8) = true := decide_eq_true (by omega)
        have q6 : decide (i % 8 - s < 8) = true := decide_eq_true (by omega)
        have q7 : decide (j < 8 * (k + 1)) = true := decide_eq_true (by omega)
        rw [q2, q3, q4, q5, q6, q7, show 8 * k + (i % 8 - s) = j by omega]; simp
      · have q3 : decide (i / 8 = f + k) = false := decide_eq_false g1
        rw [q3]
        by_cases g2 : i / 8 = f + k + 1
        · have q2 : decide (i / 8 = f + k + 1) = true := decide_eq_true g2
          have q5 : decide (s ≤ 8 + i % 8) = true := decide_eq_true (by omega)
          rw [q2, q5, show 8 * k + (8 + i % 8 - s) = j by omega]
          by_cases g3 : 8 + i % 8 - s < 8
          · have q7 : decide (j < 8 * (k + 1)) = true := decide_eq_true (by omega)
            rw [q7]; simp [g3]
          · have q7 : decide (j < 8 * (k + 1)) = false := decide_eq_false (by omega)
            rw [q7]; simp [g3]
        · have q2 : decide (i / 8 = f + k + 1) = false := decide_eq_false g2
          have q7 : decide (j < 8 * (k + 1)) = false := decide_eq_false (by omega)
          rw [q2, q7]; simp

/-- the bytes that bits have, of more bytes -/
theorem isB_take {l : List Int} {L : Nat} {C D : List Bool} (h : IsB l L C) (hc : ∀ i, C.getD i false = D.getD i false) (hL : (D.length + 7) / 8 ≤ L) : l.take ((D.length + 7) / 8) = pack D := by
  obtain ⟨h1, h2, h3⟩ := h
  refine bits_ext (fun n hn => h2 n (List.mem_of_mem_take hn)) (pack_wf D) (by simp [pack_len]; omega) fun i hi => ?_
  rw [bit_pack, ← hc, ← h3]
  simp at hi
  have e : (l.take ((D.length + 7) / 8)).getD (i / 8) 0 = l.getD (i / 8) 0 := by
    simp only [List.getD, List.getElem?_take]
    rw [if_pos (by omega)]
  unfold bit
  rw [e]
end Cad
