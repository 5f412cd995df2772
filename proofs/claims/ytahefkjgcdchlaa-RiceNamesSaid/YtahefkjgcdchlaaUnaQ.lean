/- Runs of ones: what is read is the run; runs apart; runs cut off; runs behind each other. No Go function in sight. -/
import Derived.Test.YtahefkjgcdchlaaUnaP
namespace Cad

theorem runB_get {n i : Nat} (hn : n ≤ 48) : (runB n).getD i false = decide (i < n) := by
  unfold runB
  by_cases h : i < n
  · simp [List.getD, List.getElem?_append_left, h]
  · rw [decide_eq_false h]
    split
    · simp [List.getD, List.getElem?_append_right, Nat.not_lt.1 h]
      by_cases e : i - n = 0
      · rw [e]; rfl
      · rw [List.getElem?_eq_none (by simp; omega)]; rfl
    · rw [getD_ge]; simp; omega

/-- all ones from the front -/
theorem lead_min (B : List Bool) (k : Nat) : lead B k = min (lead B B.length) k := by
  have h1 := lead_le B k
  have h2 := lead_len B B.length
  rcases Nat.le_total (lead B B.length) k with h | h
  · rw [Nat.min_eq_left h]
    refine lead_eq B k _ h (fun i hi => lead_one B B.length i hi) (fun hk => ?_) h2
    by_cases e : lead B B.length < B.length
    · exact lead_stop B B.length e
    · exact getD_ge _ _ (by omega)
  · rw [Nat.min_eq_right h]
    exact lead_eq B k k (Nat.le_refl _) (fun i hi => lead_one B B.length i (by omega)) (fun hk => absurd hk (by omega)) (by omega)

/-- what is read is the run of the number -/
theorem read_is {B : List Bool} {i n q : Nat} (h : readV B i = (n, q, 0)) (hi : i ≤ B.length) : n ≤ 48 ∧ n = min (lead (B.drop i) (B.drop i).length) 48 ∧ q = i + runLen n ∧ q ≤ B.length ∧ (B.drop i).take (q - i) = runB n := by
  have hm := lead_min (B.drop i) 48
  have hl := lead_len (B.drop i) 48
  have hk := lead_le (B.drop i) 48
  have h1 := fun j => lead_one (B.drop i) 48 j
  have h2 := lead_stop (B.drop i) 48
  rw [List.length_drop] at hl
  unfold readV at h
  simp only at h
  have main : n = lead (B.drop i) 48 ∧ q = i + runLen n ∧ q ≤ B.length := by
    split at h
    · rename_i e
      cases h
      exact ⟨e.symm, by rfl, by omega⟩
    · rename_i e
      split at h
      · rename_i e2
        cases h
        refine ⟨rfl, ?_, by omega⟩
        unfold runLen; rw [if_neg e]; rfl
      · cases h
  obtain ⟨e1, e2, e3⟩ := main
  refine ⟨by omega, by rw [e1, hm], e2, e3, ?_⟩
  have hn : n ≤ 48 := by omega
  have hrl : q - i = runLen n := by omega
  apply ext_getD
  · rw [runB_len hn, List.length_take, List.length_drop]; omega
  · intro j hj
    rw [runB_get hn]
    have hjq : j < runLen n := by rw [List.length_take] at hj; omega
    have e : ((B.drop i).take (q - i)).getD j false = (B.drop i).getD j false := by simp [List.getD, hrl, hjq]
    rw [e]
    by_cases hjn : j < n
    · rw [h1 j (by omega), decide_eq_true hjn]
    · rw [decide_eq_false hjn]
      have hj0 : j = n ∧ n < 48 := by unfold runLen at hjq; split at hjq <;> omega
      rw [hj0.1, e1]
      exact h2 (by omega)
theorem read_no {B : List Bool} {i p q er : Nat} (h : readV B i = (p, q, er)) (he : er ≠ 0) (hi : i ≤ B.length) : p = 0 ∧ q = 0 ∧ er = 24 ∧ i + lead (B.drop i) (B.drop i).length = B.length ∧ lead (B.drop i) (B.drop i).length < 48 := by
  have hm := lead_min (B.drop i) 48
  have hl := lead_len (B.drop i) (B.drop i).length
  have hk := lead_le (B.drop i) 48
  rw [List.length_drop] at hl
  unfold readV at h
  simp only at h
  split at h
  · cases h; exact absurd rfl he
  · rename_i e
    split at h
    · cases h; exact absurd rfl he
    · rename_i e2
      cases h
      refine ⟨rfl, rfl, rfl, ?_, ?_⟩
      · rw [List.length_drop] at hm ⊢; omega
      · rw [List.length_drop] at hm ⊢; omega
theorem read_end (B : List Bool) : readV B B.length = (0, 0, 24) := by
  unfold readV
  simp [lead]

/-- two runs differ within the shorter one -/
theorem runs_apart {n m : Nat} (hn : n ≤ 48) (hm : m ≤ 48) (hne : n ≠ m) : (runB n).take (min (runLen n) (runLen m)) ≠ (runB m).take (min (runLen n) (runLen m)) := by
  have key : ∀ a b : Nat, a ≤ 48 → b ≤ 48 → a < b → (runB a).take (min (runLen a) (runLen b)) ≠ (runB b).take (min (runLen a) (runLen b)) := by
    intro a b ha hb hab e
    have hlt : a < min (runLen a) (runLen b) := by unfold runLen; split <;> split <;> omega
    have h1 : ((runB a).take (min (runLen a) (runLen b))).getD a false = ((runB b).take (min (runLen a) (runLen b))).getD a false := by rw [e]
    rw [show ((runB a).take (min (runLen a) (runLen b))).getD a false = (runB a).getD a false by simp only [List.getD, List.getElem?_take, if_pos hlt],
      show ((runB b).take (min (runLen a) (runLen b))).getD a false = (runB b).getD a false by simp only [List.getD, List.getElem?_take, if_pos hlt], runB_get ha, runB_get hb] at h1
    simp [hab] at h1
  rcases Nat.lt_or_gt_of_ne hne with h | h
  · exact key n m hn hm h
  · rw [Nat.min_comm]; exact (key m n hm hn h).symm

/-- a run that is cut off -/
theorem run_cut {n k : Nat} (hn : n ≤ 48) (hk : k < runLen n) : readV ((runB n).take k) 0 = (0, 0, 24) := by
  have hkn : k ≤ n := by unfold runLen at hk; split at hk <;> omega
  have hk48 : k < 48 := by unfold runLen at hk; split at hk <;> omega
  have hlen : ((runB n).take k).length = k := by rw [List.length_take, runB_len hn]; omega
  have hl : lead (((runB n).take k).drop 0) 48 = k := by
    rw [List.drop_zero]
    refine lead_eq _ _ _ (by omega) (fun i hi => ?_) (fun _ => getD_ge _ _ (by omega)) (by omega)
    rw [show ((runB n).take k).getD i false = (runB n).getD i false by simp only [List.getD, List.getElem?_take, if_pos hi], runB_get hn]
    simp; omega
  exact readV_short hl hk48 (by omega)

/-- runs behind each other -/
def runs : List Nat → List Bool
  | [] => []
  | n :: l => runB n ++ runs l
theorem runs_append (l m : List Nat) : runs (l ++ m) = runs l ++ runs m := by
  induction l with
  | nil => rfl
  | cons n l ih => simp [runs, ih]
theorem runs_one (n : Nat) : runs [n] = runB n := by simp [runs]
theorem runs_len_le : ∀ (l : List Nat), (∀ x ∈ l, x ≤ 48) → (runs l).length ≤ 48 * l.length
  | [], _ => by simp [runs]
  | n :: l, h => by
    have h1 := runs_len_le l fun x hx => h x (List.mem_cons_of_mem _ hx)
    have h2 := runLen_le (h n (List.mem_cons_self ..))
    simp only [runs, List.length_append, List.length_cons, runB_len (h n (List.mem_cons_self ..))]
    omega
theorem runs_split (l : List Nat) {i : Nat} (hi : i < l.length) : runs l = runs (l.take i) ++ runB (l.getD i 0) ++ runs (l.drop (i + 1)) := by
  have e : l = l.take i ++ (l.getD i 0 :: l.drop (i + 1)) := by
    rw [show l.getD i 0 = l[i] by simp [List.getD, hi], ← List.drop_eq_getElem_cons hi, List.take_append_drop]
  conv => lhs; rw [e, runs_append]
  simp [runs]
theorem runs_take_succ (l : List Nat) {i : Nat} (hi : i < l.length) : runs (l.take (i + 1)) = runs (l.take i) ++ runB (l.getD i 0) := by
  rw [List.take_add_one, runs_append, show l[i]?.toList = [l.getD i 0] by simp [List.getD, hi], runs_one]
end Cad
