/- Rice codes with a cap, as lists of Bools: no Go function in sight. -/
import Derived.Test.YtahefkjgcdchlaaUnaQ
import Derived.Test.YtahefkjgcdchlaaBitGotW
namespace Cad
open Go.Proofs.Ytahefkjgcdchlaa

/-- how long the run of a number is -/
def partN (v k : Nat) : Nat := min 48 (v / 2 ^ k)
/-- how many bits stand behind a run -/
def lowN (q k : Nat) : Nat := if q < 48 then k else 32
def lowV (v k : Nat) : Nat := v % 2 ^ lowN (partN v k) k
def riceLen (v k : Nat) : Nat := runLen (partN v k) + lowN (partN v k) k
def riceB (v k : Nat) : List Bool := runB (partN v k) ++ numB (lowV v k) (lowN (partN v k) k)

theorem partN_le (v k : Nat) : partN v k ≤ 48 := Nat.min_le_left _ _
theorem lowN_le {q k : Nat} (hk : k ≤ 24) : lowN q k ≤ 32 := by unfold lowN; split <;> omega
theorem lowV_lt (v k : Nat) : lowV v k < 2 ^ lowN (partN v k) k := Nat.mod_lt _ (Nat.pow_pos (by decide))
theorem riceB_len (v k : Nat) : (riceB v k).length = riceLen v k := by
  unfold riceB riceLen
  rw [List.length_append, runB_len (partN_le v k), numB_len]
theorem riceLen_le (v : Nat) {k : Nat} (hk : k ≤ 24) : riceLen v k ≤ 80 := by
  have h1 := runLen_le (partN_le v k)
  have h2 := lowN_le (q := partN v k) hk
  unfold riceLen; omega
theorem riceLen_ge (v : Nat) {k : Nat} (hk : k ≤ 24) : k + 1 ≤ riceLen v k := by
  have h1 := runLen_pos (partN v k)
  unfold riceLen lowN
  split <;> omega
theorem riceLen_pos (v k : Nat) : 1 ≤ riceLen v k := by
  have h1 := runLen_pos (partN v k)
  unfold riceLen; omega
theorem riceLen_full {v k : Nat} (h : partN v k = 48) : riceLen v k = 80 := by unfold riceLen lowN runLen; rw [h]; rfl
theorem riceLen_less {v k : Nat} (h : partN v k < 48) : riceLen v k = partN v k + 1 + k := by
  unfold riceLen lowN runLen; rw [if_pos h, if_neg (by omega)]

/-- what is read from index i on: the number, the index behind it, the error -/
def readR (B : List Bool) (i k : Nat) : Nat × Nat × Nat :=
  let r := readV B i
  let n := lowN r.1 k
  let low := natB (midB B r.2.1 (r.2.1 + n))
  if r.2.2 ≠ 0 ∨ B.length < r.2.1 + n then (0, 0, 24)
  else if r.1 < 48 then (r.1 * 2 ^ k + low, r.2.1 + n, 0)
  else if partN low k = 48 then (low, r.2.1 + n, 0) else (0, 0, 12)

theorem readR_no {B : List Bool} {i k p q er : Nat} (h : readV B i = (p, q, er)) (he : er ≠ 0) : readR B i k = (0, 0, 24) := by
  unfold readR; simp only [h]; rw [if_pos (.inl he)]
theorem readR_short {B : List Bool} {i k q m : Nat} (h : readV B i = (q, m, 0)) (he : B.length < m + lowN q k) : readR B i k = (0, 0, 24) := by
  unfold readR; simp only [h]; rw [if_pos (.inr he)]
theorem readR_less {B : List Bool} {i k q m : Nat} (h : readV B i = (q, m, 0)) (he : m + k ≤ B.length) (hq : q < 48) : readR B i k = (q * 2 ^ k + natB (midB B m (m + k)), m + k, 0) := by
  have e : lowN q k = k := if_pos hq
  unfold readR; simp only [h, e]
  rw [if_neg (by omega), if_pos hq]
theorem readR_form {B : List Bool} {i k m : Nat} (h : readV B i = (48, m, 0)) (he : m + 32 ≤ B.length) (hp : partN (natB (midB B m (m + 32))) k ≠ 48) : readR B i k = (0, 0, 12) := by
  have e : lowN 48 k = 32 := rfl
  unfold readR; simp only [h, e]
  rw [if_neg (by omega), if_neg (by omega), if_neg hp]
theorem readR_full {B : List Bool} {i k m : Nat} (h : readV B i = (48, m, 0)) (he : m + 32 ≤ B.length) (hp : partN (natB (midB B m (m + 32))) k = 48) : readR B i k = (natB (midB B m (m + 32)), m + 32, 0) := by
  have e : lowN 48 k = 32 := rfl
  unfold readR; simp only [h, e]
  rw [if_neg (by omega), if_neg (by omega), if_pos hp]

theorem pow24 {k : Nat} (hk : k ≤ 24) : 1 ≤ 2 ^ k ∧ 2 ^ k ≤ 16777216 :=
  ⟨Nat.pow_pos (by decide), Nat.le_trans (Nat.pow_le_pow_right (n := 2) (by decide) hk) (by decide)⟩
theorem partN_of {q k low : Nat} (hq : q < 48) (hl : low < 2 ^ k) : partN (q * 2 ^ k + low) k = q := by
  unfold partN
  have h0 : 0 < 2 ^ k := Nat.pow_pos (by decide)
  rw [Nat.add_comm, Nat.mul_comm, Nat.add_mul_div_left _ _ h0, Nat.div_eq_of_lt hl]
  omega
/-- a number is its run and its lowest bits -/
theorem whole {v k : Nat} (h : partN v k < 48) : partN v k * 2 ^ k + v % 2 ^ k = v := by
  have e : partN v k = v / 2 ^ k := by unfold partN at h ⊢; omega
  rw [e]; exact Nat.div_add_mod' v (2 ^ k)
theorem less_lt {q k low : Nat} (hk : k ≤ 24) (hq : q < 48) (hl : low < 2 ^ k) : q * 2 ^ k + low < 4294967296 := by
  have h1 := (pow24 hk).2
  have h2 : q * 2 ^ k ≤ 47 * 2 ^ k := Nat.mul_le_mul_right _ (by omega)
  omega

/-- a code behind bits is read -/
theorem read_rice (A C : List Bool) {v k : Nat} (hv : v < 4294967296) : readR (A ++ riceB v k ++ C) A.length k = (v, A.length + riceLen v k, 0) := by
  have hl := riceB_len v k
  have h1 := read_run A (numB (lowV v k) (lowN (partN v k) k) ++ C) (partN_le v k)
  have e : A ++ runB (partN v k) ++ (numB (lowV v k) (lowN (partN v k) k) ++ C) = A ++ riceB v k ++ C := by unfold riceB; simp
  rw [e] at h1
  have hn : natB (midB (A ++ riceB v k ++ C) (A.length + runLen (partN v k)) (A.length + runLen (partN v k) + lowN (partN v k) k)) = lowV v k := by
    have hd : (A ++ riceB v k ++ C).drop (A.length + runLen (partN v k)) = numB (lowV v k) (lowN (partN v k) k) ++ C := by
      rw [← e, List.drop_left']
      rw [List.length_append, runB_len (partN_le v k)]
    unfold midB
    rw [hd, show A.length + runLen (partN v k) + lowN (partN v k) k - (A.length + runLen (partN v k)) = lowN (partN v k) k by omega, List.take_left' (numB_len _ _), natB_numB]
    exact Nat.mod_eq_of_lt (lowV_lt v k)
  have hlen : (A ++ riceB v k ++ C).length = A.length + riceLen v k + C.length := by simp [hl]; omega
  have hrl : riceLen v k = runLen (partN v k) + lowN (partN v k) k := rfl
  by_cases hq : partN v k < 48
  · have el : lowN (partN v k) k = k := if_pos hq
    have ev : lowV v k = v % 2 ^ k := by unfold lowV; rw [el]
    rw [el] at hn hrl
    rw [readR_less h1 (by omega) hq, hn, ev, whole hq, hrl, Nat.add_assoc]
  · have eq : partN v k = 48 := by have := partN_le v k; omega
    have ev : lowV v k = v := by unfold lowV; rw [eq]; exact Nat.mod_eq_of_lt hv
    have el : lowN (partN v k) k = 32 := if_neg hq
    rw [el] at hn hrl
    rw [ev] at hn
    rw [eq] at h1 hn hrl
    rw [readR_full h1 (by omega) (by rw [hn]; exact eq), hn, hrl, Nat.add_assoc]

/-- what is read has just this code -/
theorem rice_is {B : List Bool} {i k v p : Nat} (h : readR B i k = (v, p, 0)) (hi : i ≤ B.length) (hk : k ≤ 24) : v < 4294967296 ∧ p = i + riceLen v k ∧ p ≤ B.length ∧ midB B i p = riceB v k := by
  obtain ⟨q, m, er, hr⟩ : ∃ q m er, readV B i = (q, m, er) := ⟨_, _, _, rfl⟩
  by_cases he : er = 0
  · subst he
    obtain ⟨hq, -, hm, hmB, hrun⟩ := read_is hr hi
    by_cases hs : B.length < m + lowN q k
    · rw [readR_short hr hs] at h; cases h
    · have hmid : ∀ n, m + n ≤ B.length → midB B i (m + n) = runB q ++ midB B m (m + n) := by
        intro n hn
        unfold midB
        have h1 : B.drop m = (B.drop i).drop (m - i) := by rw [List.drop_drop]; congr 1; omega
        rw [h1, ← hrun, show m + n - i = (m - i) + (m + n - m) by omega, List.take_add]
      by_cases h48 : q < 48
      · have el : lowN q k = k := if_pos h48
        rw [el] at hs
        rw [readR_less hr (by omega) h48] at h
        cases h
        have hlen := midB_len B (show m ≤ m + k by omega) (by omega)
        have hlt : natB (midB B m (m + k)) < 2 ^ k := by
          have := natB_lt (midB B m (m + k))
          rw [hlen, show m + k - m = k by omega] at this
          exact this
        have hp := partN_of h48 hlt
        have hmod : (q * 2 ^ k + natB (midB B m (m + k))) % 2 ^ k = natB (midB B m (m + k)) := by
          rw [Nat.add_comm, Nat.add_mul_mod_self_right, Nat.mod_eq_of_lt hlt]
        refine ⟨less_lt hk h48 hlt, ?_, by omega, ?_⟩
        · unfold riceLen; rw [hp, el]; omega
        · rw [hmid k (by omega)]
          unfold riceB lowV
          rw [hp, el, hmod]
          congr 1
          have := numB_natB (midB B m (m + k))
          rw [hlen, show m + k - m = k by omega] at this
          exact this.symm
      · obtain rfl : q = 48 := by omega
        have el : lowN 48 k = 32 := rfl
        rw [el] at hs
        have hlen := midB_len B (show m ≤ m + 32 by omega) (by omega)
        have hlt : natB (midB B m (m + 32)) < 2 ^ 32 := by
          have := natB_lt (midB B m (m + 32))
          rw [hlen, show m + 32 - m = 32 by omega] at this
          exact this
        by_cases hp : partN (natB (midB B m (m + 32))) k = 48
        · rw [readR_full hr (by omega) hp] at h
          cases h
          refine ⟨hlt, ?_, by omega, ?_⟩
          · unfold riceLen; rw [hp, el]; omega
          · rw [hmid 32 (by omega)]
            unfold riceB lowV
            rw [hp, el, Nat.mod_eq_of_lt hlt]
            congr 1
            have := numB_natB (midB B m (m + 32))
            rw [hlen, show m + 32 - m = 32 by omega] at this
            exact this.symm
        · rw [readR_form hr (by omega) hp] at h; cases h
  · rw [readR_no hr he] at h; cases h
/-- what is refused -/
theorem rice_no {B : List Bool} {i k v p er : Nat} (h : readR B i k = (v, p, er)) (he : er ≠ 0) (hi : i ≤ B.length) : v = 0 ∧ p = 0 ∧ (er = 24 ∨ (er = 12 ∧ i + 80 ≤ B.length)) := by
  obtain ⟨q, m, e, hr⟩ : ∃ q m e, readV B i = (q, m, e) := ⟨_, _, _, rfl⟩
  by_cases h0 : e = 0
  · subst h0
    obtain ⟨hq, -, hm, hmB, -⟩ := read_is hr hi
    by_cases hs : B.length < m + lowN q k
    · rw [readR_short hr hs] at h; cases h; exact ⟨rfl, rfl, .inl rfl⟩
    · by_cases h48 : q < 48
      · have el : lowN q k = k := if_pos h48
        rw [el] at hs
        rw [readR_less hr (by omega) h48] at h
        cases h
        exact absurd rfl he
      · obtain rfl : q = 48 := by omega
        have el : lowN 48 k = 32 := rfl
        rw [el] at hs
        by_cases hp : partN (natB (midB B m (m + 32))) k = 48
        · rw [readR_full hr (by omega) hp] at h; cases h; exact absurd rfl he
        · rw [readR_form hr (by omega) hp] at h; cases h
          have : runLen 48 = 48 := rfl
          exact ⟨rfl, rfl, .inr ⟨rfl, by omega⟩⟩
  · rw [readR_no hr h0] at h; cases h; exact ⟨rfl, rfl, .inl rfl⟩

theorem readR_end (B : List Bool) (k : Nat) : readR B B.length k = (0, 0, 24) := readR_no (read_end B) (by decide)

/-- what is read is read, whatever stands behind it -/
theorem rice_more {B : List Bool} {i k v p : Nat} (h : readR B i k = (v, p, 0)) (hi : i ≤ B.length) (hk : k ≤ 24) (C : List Bool) : readR (B ++ C) i k = (v, p, 0) := by
  obtain ⟨hv, hp, hpB, hmid⟩ := rice_is h hi hk
  have e : B = B.take i ++ riceB v k ++ B.drop p := by
    rw [← hmid]
    unfold midB
    have h1 : B.drop p = (B.drop i).drop (p - i) := by rw [List.drop_drop]; congr 1; omega
    rw [h1, List.append_assoc, List.take_append_drop, List.take_append_drop]
  have hl : (B.take i).length = i := by rw [List.length_take]; omega
  have := read_rice (B.take i) (B.drop p ++ C) hv (k := k)
  rw [← List.append_assoc, ← e, hl] at this
  rw [this, hp]

/-- a code that is cut off -/
theorem rice_cut {v k j : Nat} (hv : v < 4294967296) (hk : k ≤ 24) (hj : j < riceLen v k) : readR ((riceB v k).take j) 0 k = (0, 0, 24) := by
  obtain ⟨w, p, er, h⟩ : ∃ w p er, readR ((riceB v k).take j) 0 k = (w, p, er) := ⟨_, _, _, rfl⟩
  have hlen : ((riceB v k).take j).length = j := by rw [List.length_take, riceB_len]; omega
  by_cases he : er = 0
  · subst he
    have h1 := rice_more h (Nat.zero_le _) hk ((riceB v k).drop j)
    have h2 := read_rice [] [] hv (k := k)
    rw [List.take_append_drop] at h1
    rw [List.nil_append, List.append_nil, List.length_nil, Nat.zero_add, h1] at h2
    cases h2
    obtain ⟨-, -, hpB, -⟩ := rice_is h (Nat.zero_le _) hk
    omega
  · obtain ⟨rfl, rfl, h3⟩ := rice_no h he (Nat.zero_le _)
    rcases h3 with rfl | ⟨rfl, h3⟩
    · exact h
    · have := riceLen_le v hk
      omega

/-- a greater number has no shorter code -/
theorem partN_mono {v w k : Nat} (h : v ≤ w) : partN v k ≤ partN w k := by
  have : v / 2 ^ k ≤ w / 2 ^ k := Nat.div_le_div_right h
  unfold partN; omega
theorem riceLen_mono {v w k : Nat} (h : v ≤ w) (hk : k ≤ 24) : riceLen v k ≤ riceLen w k := by
  have hp := partN_mono h (k := k)
  by_cases h1 : partN w k < 48
  · rw [riceLen_less h1, riceLen_less (by omega)]; omega
  · have : partN w k = 48 := by have := partN_le w k; omega
    rw [riceLen_full this]; exact riceLen_le v hk
theorem riceLen_small {v k : Nat} (_hk : k ≤ 24) : riceLen v k = k + 1 ↔ v < 2 ^ k := by
  have h0 : 0 < 2 ^ k := Nat.pow_pos (by decide)
  have key : partN v k = 0 ↔ v < 2 ^ k := by
    unfold partN
    rw [← Nat.div_eq_zero_iff_lt h0]
    omega
  rw [← key]
  by_cases h : partN v k < 48
  · rw [riceLen_less h]; omega
  · have : partN v k = 48 := by have := partN_le v k; omega
    rw [riceLen_full this]; omega
/-- no code begins another one -/
theorem rice_apart {v w k : Nat} (hv : v < 4294967296) (hw : w < 4294967296) (hk : k ≤ 24) (hne : v ≠ w) (C : List Bool) : riceB w k ≠ riceB v k ++ C := by
  intro e
  have h1 := read_rice [] C hv (k := k)
  have h2 := read_rice [] [] hw (k := k)
  rw [List.nil_append, List.append_nil, e] at h2
  rw [List.nil_append, h2] at h1
  cases h1
  exact hne rfl

/-- codes behind each other -/
def codes : List (Nat × Nat) → List Bool
  | [] => []
  | x :: l => riceB x.1 x.2 ++ codes l
theorem codes_append (l m : List (Nat × Nat)) : codes (l ++ m) = codes l ++ codes m := by
  induction l with
  | nil => rfl
  | cons n l ih => simp [codes, ih]
theorem codes_one (x : Nat × Nat) : codes [x] = riceB x.1 x.2 := by simp [codes]
theorem codes_len_le : ∀ (l : List (Nat × Nat)), (∀ x ∈ l, x.2 ≤ 24) → (codes l).length ≤ 80 * l.length
  | [], _ => by simp [codes]
  | n :: l, h => by
    have h1 := codes_len_le l fun x hx => h x (List.mem_cons_of_mem _ hx)
    have h2 := riceLen_le n.1 (h n (List.mem_cons_self ..))
    simp only [codes, List.length_append, List.length_cons, riceB_len]
    omega
theorem codes_split (l : List (Nat × Nat)) {i : Nat} (hi : i < l.length) : codes l = codes (l.take i) ++ riceB (l.getD i (0, 0)).1 (l.getD i (0, 0)).2 ++ codes (l.drop (i + 1)) := by
  have e : l = l.take i ++ (l.getD i (0, 0) :: l.drop (i + 1)) := by
    rw [show l.getD i (0, 0) = l[i] by simp [List.getD, hi], ← List.drop_eq_getElem_cons hi, List.take_append_drop]
  conv => lhs; rw [e, codes_append]
  simp [codes]
theorem codes_take_succ (l : List (Nat × Nat)) {i : Nat} (hi : i < l.length) : codes (l.take (i + 1)) = codes (l.take i) ++ riceB (l.getD i (0, 0)).1 (l.getD i (0, 0)).2 := by
  rw [List.take_add_one, codes_append, show l[i]?.toList = [l.getD i (0, 0)] by simp [List.getD, hi], codes_one]
end Cad
