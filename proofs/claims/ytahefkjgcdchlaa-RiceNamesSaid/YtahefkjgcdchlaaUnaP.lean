/- Runs of ones, as lists of Bools: no Go function in sight. -/
import Derived.Test.YtahefkjgcdchlaaBitB
namespace Cad

/-- the length of a number's run -/
def runLen (n : Nat) : Nat := if n = 48 then 48 else n + 1
/-- the run of a number -/
def runB (n : Nat) : List Bool := List.replicate n true ++ (if n < 48 then [false] else [])
theorem runB_len {n : Nat} (h : n ≤ 48) : (runB n).length = runLen n := by
  unfold runB runLen
  by_cases e : n = 48
  · subst e; simp
  · rw [if_neg e, if_pos (by omega)]; simp
theorem runLen_le {n : Nat} (h : n ≤ 48) : runLen n ≤ 48 := by unfold runLen; split <;> omega
theorem runLen_pos (n : Nat) : 1 ≤ runLen n := by unfold runLen; split <;> omega

/-- a number's run is the number 2^n - 1 in so many bits -/
theorem numB_ones (n m : Nat) (h : n ≤ m) : numB (2 ^ n - 1) m = List.replicate n true ++ List.replicate (m - n) false := by
  apply ext_getD
  · rw [numB_len]; simp; omega
  · intro i hi
    rw [numB_len] at hi
    have e : (numB (2 ^ n - 1) m).getD i false = Nat.testBit (2 ^ n - 1) i := by
      simp only [numB, List.getD, List.getElem?_map, List.getElem?_range hi, Option.map_some, Option.getD_some]
      rw [Nat.testBit_eq_decide_div_mod_eq]
      by_cases hh : (2 ^ n - 1) / 2 ^ i % 2 = 1 <;> simp [hh]
    rw [e, Nat.testBit_two_pow_sub_one]
    by_cases hin : i < n
    · simp [List.getD, List.getElem?_append_left, hin]
    · have h2 : i - n < m - n := by omega
      simp [List.getD, List.getElem?_append_right, hin, Nat.not_lt.1 hin, h2]
theorem run_num {n : Nat} (h : n ≤ 48) : numB (2 ^ n - 1) (runLen n) = runB n := by
  unfold runB runLen
  by_cases e : n = 48
  · subst e; rw [if_pos rfl, if_neg (by decide), numB_ones 48 48 (by decide)]; simp
  · rw [if_neg e, if_pos (by omega), numB_ones n (n + 1) (by omega), show n + 1 - n = 1 by omega]; rfl

/-- how many ones stand at the front, at most k -/
def lead : List Bool → Nat → Nat
  | true :: B, k + 1 => lead B k + 1
  | _, _ => 0
theorem lead_le : ∀ (B : List Bool) (k : Nat), lead B k ≤ k
  | [], k => by cases k <;> simp [lead]
  | true :: B, 0 => by simp [lead]
  | true :: B, k + 1 => by have := lead_le B k; simp only [lead]; omega
  | false :: B, k => by cases k <;> simp [lead]
theorem lead_len : ∀ (B : List Bool) (k : Nat), lead B k ≤ B.length
  | [], k => by cases k <;> simp [lead]
  | true :: B, 0 => by simp [lead]
  | true :: B, k + 1 => by have := lead_len B k; simp only [lead, List.length_cons]; omega
  | false :: B, k => by cases k <;> simp [lead]
theorem lead_one : ∀ (B : List Bool) (k i : Nat), i < lead B k → B.getD i false = true
  | [], k, i => by cases k <;> simp [lead]
  | true :: B, 0, i => by simp [lead]
  | true :: B, k + 1, 0 => by simp [List.getD]
  | true :: B, k + 1, i + 1 => by
    intro h
    simp only [lead] at h
    have := lead_one B k i (by omega)
    simpa [List.getD] using this
  | false :: B, k, i => by cases k <;> simp [lead]
theorem lead_stop : ∀ (B : List Bool) (k : Nat), lead B k < k → B.getD (lead B k) false = false
  | [], k => by cases k <;> simp [lead, List.getD]
  | true :: B, 0 => by simp [lead]
  | true :: B, k + 1 => by
    intro h
    simp only [lead] at h ⊢
    have := lead_stop B k (by omega)
    simpa [List.getD] using this
  | false :: B, k => by cases k <;> simp [lead, List.getD]
/-- what stands at the front decides -/
theorem lead_eq (B : List Bool) (k n : Nat) (hn : n ≤ k) (h1 : ∀ i, i < n → B.getD i false = true) (h2 : n < k → B.getD n false = false) (_hl : n ≤ B.length) : lead B k = n := by
  rcases Nat.lt_trichotomy (lead B k) n with h | h | h
  · have := lead_stop B k (by omega)
    rw [h1 _ h] at this; cases this
  · exact h
  · have := lead_one B k n h
    rw [h2 (by have := lead_le B k; omega)] at this; cases this
theorem drop_getD (B : List Bool) (i j : Nat) : (B.drop i).getD j false = B.getD (i + j) false := by simp [List.getD]

/-- what is read from index i on: the number, the index behind it, the error -/
def readV (B : List Bool) (i : Nat) : Nat × Nat × Nat :=
  let n := lead (B.drop i) 48
  if n = 48 then (48, i + 48, 0) else if i + n < B.length then (n, i + n + 1, 0) else (0, 0, 24)

theorem readV_full {B : List Bool} {i : Nat} (h : lead (B.drop i) 48 = 48) : readV B i = (48, i + 48, 0) := by
  unfold readV; simp [h]
theorem readV_zero {B : List Bool} {i : Nat} {n : Nat} (h : lead (B.drop i) 48 = n) (h1 : n < 48) (h2 : i + n < B.length) : readV B i = (n, i + n + 1, 0) := by
  unfold readV; simp only [h]; rw [if_neg (by omega), if_pos h2]
theorem readV_short {B : List Bool} {i : Nat} {n : Nat} (h : lead (B.drop i) 48 = n) (h1 : n < 48) (h2 : B.length ≤ i + n) : readV B i = (0, 0, 24) := by
  unfold readV; simp only [h]; rw [if_neg (by omega), if_neg (by omega)]

/-- a run behind bits is read -/
theorem read_run (A C : List Bool) {n : Nat} (hn : n ≤ 48) : readV (A ++ runB n ++ C) A.length = (n, A.length + runLen n, 0) := by
  have hd : (A ++ runB n ++ C).drop A.length = runB n ++ C := by rw [List.append_assoc, List.drop_left]
  have hl := runB_len hn
  have hlead : lead (runB n ++ C) 48 = n := by
    apply lead_eq _ _ _ hn
    · intro i hi
      unfold runB
      simp [List.getD, List.getElem?_append_left, hi]
    · intro h
      unfold runB
      simp [List.getD, h]
    · unfold runB; simp
  rw [← hd] at hlead
  by_cases e : n = 48
  · subst e; rw [readV_full hlead]; simp [runLen]
  · rw [readV_zero hlead (by omega) (by simp [hl, runLen, e]; omega)]
    simp [runLen, e]; omega
end Cad
