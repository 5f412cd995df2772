/- Bits as lists of Bools, and the bytes that they are: no Go function in sight. -/
import Derived.Test.YtahefkjgcdchlaaKitB
namespace Cad

/-- bit i of bytes -/
def bit (l : List Int) (i : Nat) : Bool := (l.getD (i / 8) 0).toNat / 2 ^ (i % 8) % 2 == 1
/-- byte j of bits -/
def byteN (B : List Bool) (j : Nat) : Nat :=
  (B.getD (8 * j) false).toNat + 2 * (B.getD (8 * j + 1) false).toNat + 4 * (B.getD (8 * j + 2) false).toNat + 8 * (B.getD (8 * j + 3) false).toNat +
  16 * (B.getD (8 * j + 4) false).toNat + 32 * (B.getD (8 * j + 5) false).toNat + 64 * (B.getD (8 * j + 6) false).toNat + 128 * (B.getD (8 * j + 7) false).toNat
def pack (B : List Bool) : List Int := (List.range ((B.length + 7) / 8)).map fun j => (byteN B j : Int)
def unpack (l : List Int) (n : Nat) : List Bool := (List.range n).map (bit l)

theorem getD_ge {α : Type} (l : List α) (d : α) {i : Nat} (h : l.length ≤ i) : l.getD i d = d := by
  simp [List.getD, List.getElem?_eq_none h]
theorem lt8 {k : Nat} (h : k < 8) : k = 0 ∨ k = 1 ∨ k = 2 ∨ k = 3 ∨ k = 4 ∨ k = 5 ∨ k = 6 ∨ k = 7 := by omega

theorem byteN_lt (B : List Bool) (j : Nat) : byteN B j < 256 := by
  have h := fun i => Bool.toNat_le (B.getD i false)
  have h0 := h (8 * j); have h1 := h (8 * j + 1); have h2 := h (8 * j + 2); have h3 := h (8 * j + 3)
  have h4 := h (8 * j + 4); have h5 := h (8 * j + 5); have h6 := h (8 * j + 6); have h7 := h (8 * j + 7)
  unfold byteN
  omega

theorem byte_digit (b0 b1 b2 b3 b4 b5 b6 b7 : Bool) (k : Nat) (hk : k < 8) :
    ((b0.toNat + 2 * b1.toNat + 4 * b2.toNat + 8 * b3.toNat + 16 * b4.toNat + 32 * b5.toNat + 64 * b6.toNat + 128 * b7.toNat) / 2 ^ k % 2 == 1) = [b0, b1, b2, b3, b4, b5, b6, b7].getD k false := by
  have h : ∀ b : Bool, (b.toNat == 1) = b := by decide
  have l0 := Bool.toNat_le b0; have l1 := Bool.toNat_le b1; have l2 := Bool.toNat_le b2; have l3 := Bool.toNat_le b3
  have l4 := Bool.toNat_le b4; have l5 := Bool.toNat_le b5; have l6 := Bool.toNat_le b6; have l7 := Bool.toNat_le b7
  have key : (b0.toNat + 2 * b1.toNat + 4 * b2.toNat + 8 * b3.toNat + 16 * b4.toNat + 32 * b5.toNat + 64 * b6.toNat + 128 * b7.toNat) / 2 ^ k % 2 = ([b0, b1, b2, b3, b4, b5, b6, b7].getD k false).toNat := by
    rcases lt8 hk with rfl | rfl | rfl | rfl | rfl | rfl | rfl | rfl <;> simp <;> omega
  rw [key, h]

theorem byteN_bit (B : List Bool) (j k : Nat) (hk : k < 8) : (byteN B j / 2 ^ k % 2 == 1) = B.getD (8 * j + k) false := by
  unfold byteN
  rw [byte_digit _ _ _ _ _ _ _ _ k hk]
  rcases lt8 hk with rfl | rfl | rfl | rfl | rfl | rfl | rfl | rfl <;> rfl

theorem pack_len (B : List Bool) : (pack B).length = (B.length + 7) / 8 := by simp [pack]
theorem pack_wf (B : List Bool) : ∀ n ∈ pack B, 0 ≤ n ∧ n ≤ 255 := by
  intro n hn
  simp only [pack, List.mem_map, List.mem_range] at hn
  obtain ⟨j, _, rfl⟩ := hn
  have := byteN_lt B j
  omega
theorem pack_getD (B : List Bool) (j : Nat) (h : j < (B.length + 7) / 8) : (pack B).getD j 0 = byteN B j := by
  simp [pack, List.getD, h]
theorem bit_pack (B : List Bool) (i : Nat) : bit (pack B) i = B.getD i false := by
  by_cases h : i / 8 < (B.length + 7) / 8
  · unfold bit
    rw [pack_getD B _ h, Int.toNat_natCast, byteN_bit B _ _ (by omega)]
    congr 1; omega
  · have h1 : (pack B).getD (i / 8) 0 = 0 := by
      rw [getD_ge]; rw [pack_len]; omega
    have h2 : B.getD i false = false := by rw [getD_ge]; omega
    unfold bit
    rw [h1, h2]
    simp

theorem unpack_len (l : List Int) (n : Nat) : (unpack l n).length = n := by simp [unpack]
theorem unpack_getD (l : List Int) (n i : Nat) (h : i < n) : (unpack l n).getD i false = bit l i := by simp [unpack, List.getD, h]
theorem ext_getD {A B : List Bool} (h : A.length = B.length) (e : ∀ i, i < A.length → A.getD i false = B.getD i false) : A = B := by
  apply List.ext_getElem h
  intro i h1 h2
  have := e i h1
  simpa [List.getD, h1, h2] using this
theorem unpack_pack (B : List Bool) : unpack (pack B) B.length = B := by
  apply ext_getD (unpack_len _ _)
  intro i hi
  rw [unpack_len] at hi
  rw [unpack_getD _ _ _ hi, bit_pack]

theorem byte_ext {n m : Nat} (hn : n < 256) (hm : m < 256) (h : ∀ k, k < 8 → (n / 2 ^ k % 2 == 1) = (m / 2 ^ k % 2 == 1)) : n = m := by
  have key : ∀ k, k < 8 → n / 2 ^ k % 2 = m / 2 ^ k % 2 := by
    intro k hk
    have := h k hk
    have a := Nat.mod_lt (n / 2 ^ k) (show 0 < 2 by decide)
    have b := Nat.mod_lt (m / 2 ^ k) (show 0 < 2 by decide)
    generalize n / 2 ^ k % 2 = x at *
    generalize m / 2 ^ k % 2 = y at *
    have : (x = 1) ↔ (y = 1) := by rw [← beq_iff_eq, ← beq_iff_eq (a := y), this]
    omega
  have h0 := key 0 (by decide); have h1 := key 1 (by decide); have h2 := key 2 (by decide); have h3 := key 3 (by decide)
  have h4 := key 4 (by decide); have h5 := key 5 (by decide); have h6 := key 6 (by decide); have h7 := key 7 (by decide)
  simp only [Nat.reducePow, Nat.div_one] at h0 h1 h2 h3 h4 h5 h6 h7
  omega

/-- bytes are what their bits are -/
theorem bits_ext {l l' : List Int} (hl : ∀ n ∈ l, 0 ≤ n ∧ n ≤ 255) (hl' : ∀ n ∈ l', 0 ≤ n ∧ n ≤ 255) (hlen : l.length = l'.length) (h : ∀ i, i < 8 * l.length → bit l i = bit l' i) : l = l' := by
  apply List.ext_getElem hlen
  intro j h1 h2
  have a := hl _ (List.getElem_mem h1)
  have b := hl' _ (List.getElem_mem h2)
  have : l[j].toNat = l'[j].toNat := by
    refine byte_ext (by omega) (by omega) fun k hk => ?_
    have := h (8 * j + k) (by omega)
    unfold bit at this
    rw [show (8 * j + k) / 8 = j by omega, show (8 * j + k) % 8 = k by omega] at this
    simpa [List.getD, h1, h2] using this
  omega

/-- bytes whose bits from n on are 0 are those of their first n bits -/
theorem pack_unpack {l : List Int} {n : Nat} (hl : ∀ x ∈ l, 0 ≤ x ∧ x ≤ 255) (hlen : l.length = (n + 7) / 8) (h : ∀ i, n ≤ i → i < 8 * l.length → bit l i = false) : pack (unpack l n) = l := by
  refine bits_ext (pack_wf _) hl (by rw [pack_len, unpack_len, hlen]) fun i hi => ?_
  rw [bit_pack]
  rw [pack_len, unpack_len, ← hlen] at hi
  by_cases hn : i < n
  · exact unpack_getD l n i hn
  · rw [h i (by omega) hi, getD_ge]; rw [unpack_len]; omega
theorem pack_pad {B : List Bool} {i : Nat} (h : B.length ≤ i) : bit (pack B) i = false := by
  rw [bit_pack, getD_ge]; exact h
theorem pack_inj {A B : List Bool} (hn : A.length = B.length) (h : pack A = pack B) : A = B := by
  rw [← unpack_pack A, ← unpack_pack B, h, hn]

theorem getD_snoc (B : List Bool) (b : Bool) (i : Nat) : ((B ++ [b]).getD i false).toNat = (B.getD i false).toNat + if i = B.length then b.toNat else 0 := by
  by_cases h : i < B.length
  · rw [if_neg (by omega)]; simp [List.getD, List.getElem?_append_left h]
  · by_cases h2 : i = B.length
    · subst h2; simp [List.getD]
    · rw [if_neg h2, getD_ge _ _ (by simp; omega), getD_ge _ _ (by omega)]; rfl
theorem byteN_snoc (B : List Bool) (b : Bool) (j : Nat) : byteN (B ++ [b]) j = byteN B j + if B.length / 8 = j then b.toNat * 2 ^ (B.length % 8) else 0 := by
  unfold byteN
  simp only [getD_snoc]
  by_cases h : B.length / 8 = j
  · rw [if_pos h]
    obtain ⟨r, hr, e⟩ : ∃ r, r < 8 ∧ B.length = 8 * j + r := ⟨B.length % 8, by omega, by omega⟩
    rw [e, show (8 * j + r) % 8 = r by omega]
    rcases lt8 hr with rfl | rfl | rfl | rfl | rfl | rfl | rfl | rfl <;> simp <;> omega
  · rw [if_neg h]
    have := fun k (hk : k < 8) => (show ¬ (8 * j + k = B.length) by omega)
    have h0 : ¬ (8 * j = B.length) := this 0 (by decide)
    rw [if_neg h0, if_neg (this 1 (by decide)), if_neg (this 2 (by decide)), if_neg (this 3 (by decide)), if_neg (this 4 (by decide)), if_neg (this 5 (by decide)), if_neg (this 6 (by decide)), if_neg (this 7 (by decide))]
    simp
theorem pack_snoc0 (B : List Bool) (b : Bool) (h : B.length % 8 = 0) : pack (B ++ [b]) = pack B ++ [(b.toNat : Int)] := by
  unfold pack
  rw [List.length_append, List.length_singleton, show (B.length + 1 + 7) / 8 = (B.length + 7) / 8 + 1 by omega, List.range_succ, List.map_append]
  congr 1
  · apply List.map_congr_left
    intro j hj
    rw [List.mem_range] at hj
    rw [byteN_snoc, if_neg (by omega)]; simp
  · simp only [List.map_cons, List.map_nil]
    rw [byteN_snoc, if_pos (by omega), h]
    have : byteN B ((B.length + 7) / 8) = 0 := by
      have g : ∀ i, 8 * ((B.length + 7) / 8) ≤ i → B.getD i false = false := fun i hi => getD_ge _ _ (by omega)
      unfold byteN
      rw [g _ (by omega), g _ (by omega), g _ (by omega), g _ (by omega), g _ (by omega), g _ (by omega), g _ (by omega), g _ (by omega)]
      rfl
    rw [this]; simp
theorem pack_snoc (B : List Bool) (b : Bool) (h : B.length % 8 ≠ 0) : pack (B ++ [b]) = (pack B).set (B.length / 8) ((pack B).getD (B.length / 8) 0 + (b.toNat * 2 ^ (B.length % 8) : Nat)) := by
  have hl : (B.length + 1 + 7) / 8 = (B.length + 7) / 8 := by omega
  rw [pack_getD B (B.length / 8) (by omega)]
  apply List.ext_getElem
  · rw [List.length_set, pack_len, pack_len]; simp; omega
  · intro j h1 h2
    rw [List.length_set, pack_len] at h2
    have e1 : (pack (B ++ [b]))[j] = byteN (B ++ [b]) j := by simp [pack]
    rw [List.getElem_set, e1, byteN_snoc]
    split
    · rename_i e; subst e; simp
    · have e2 : (pack B)[j]'(by rw [pack_len]; exact h2) = byteN B j := by simp [pack]
      rw [e2]; simp

/-! ### numbers as bits -/
def numB (v n : Nat) : List Bool := (List.range n).map fun i => v / 2 ^ i % 2 == 1
def natB : List Bool → Nat
  | [] => 0
  | b :: B => b.toNat + 2 * natB B
theorem numB_len (v n : Nat) : (numB v n).length = n := by simp [numB]
theorem numB_zero (v : Nat) : numB v 0 = [] := rfl
theorem numB_succ (v n : Nat) : numB v (n + 1) = (v % 2 == 1) :: numB (v / 2) n := by
  unfold numB
  rw [List.range_succ_eq_map, List.map_cons, List.map_map]
  congr 1
  · simp
  · apply List.map_congr_left
    intro i _
    simp only [Function.comp, Nat.succ_eq_add_one, Nat.pow_succ']
    rw [Nat.div_div_eq_div_mul]
theorem numB_snoc (v n : Nat) : numB v (n + 1) = numB v n ++ [v / 2 ^ n % 2 == 1] := by
  simp [numB, List.range_succ]
theorem natB_lt : ∀ B : List Bool, natB B < 2 ^ B.length
  | [] => by simp [natB]
  | b :: B => by
    have := natB_lt B
    have h := Bool.toNat_le b
    simp only [natB, List.length_cons, Nat.pow_succ]
    omega
theorem natB_numB : ∀ (n v : Nat), natB (numB v n) = v % 2 ^ n
  | 0, v => by simp [numB_zero, natB, Nat.mod_one]
  | n + 1, v => by
    rw [numB_succ, natB, natB_numB n, Nat.pow_succ', Nat.mod_mul]
    congr 1
    have h : ∀ x, x < 2 → (x == 1).toNat = x := by intro x hx; match x, hx with | 0, _ => rfl | 1, _ => rfl
    exact h _ (Nat.mod_lt _ (by decide))
theorem numB_natB : ∀ B : List Bool, numB (natB B) B.length = B
  | [] => rfl
  | b :: B => by
    rw [List.length_cons, numB_succ, natB]
    have h := Bool.toNat_le b
    rw [show (b.toNat + 2 * natB B) / 2 = natB B by omega, show (b.toNat + 2 * natB B) % 2 = b.toNat by omega, numB_natB B]
    cases b <;> rfl
theorem numB_append : ∀ (n m v w : Nat), v < 2 ^ n → numB (v + 2 ^ n * w) (n + m) = numB v n ++ numB w m
  | 0, m, v, w, h => by
    have : v = 0 := by simpa using h
    subst this; simp [numB_zero]
  | n + 1, m, v, w, h => by
    rw [show n + 1 + m = (n + m) + 1 by omega, numB_succ, numB_succ, List.cons_append, ← numB_append n m (v / 2) w (by rw [Nat.pow_succ] at h; omega)]
    have e : 2 ^ (n + 1) * w = 2 * (2 ^ n * w) := by rw [Nat.pow_succ']; simp [Nat.mul_assoc]
    rw [e, show (v + 2 * (2 ^ n * w)) / 2 = v / 2 + 2 ^ n * w by omega, show (v + 2 * (2 ^ n * w)) % 2 = v % 2 by omega]
end Cad
