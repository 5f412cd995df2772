/- Texts of the proof, one behind the other: BitLawA, BitGotW, BitPartsW, UnaQ, UnaL, RicP, RicA, RicB, RicC. -/
import Derived.Test.YthbjcjphplgobaaZ4
/- What the statements of bits share: the chapter's examples, and a number's lowest bits. -/
namespace Go.Proofs.Ythbjcjphplgobaa
open Go.RowKit Cad

theorem two_sub (v n : Nat) : v &&& (2 ^ n - 1) = v % 2 ^ n := Nat.and_two_pow_sub_one_eq_mod v n
theorem pk1 : pack ([] ++ numB 5 3) = [5] := by rfl
theorem pk1' : pack (numB 5 3) = [5] := by rfl
theorem pk2 : pack (numB 5 3 ++ numB 6 4) = [53] := by rfl
theorem nb3 : natB (midB (numB 5 3 ++ numB 6 4) 2 (2 + 4)) = 13 := by rfl
theorem al1 (w : World) : Calls Try.prog 61 #[.agg #[.slice none 0 0, .int .i64 0], .int .u64 5, .int .i64 3] w fun e W' => ∃ b c, e = .returned (.tuple #[.agg #[.slice b 1 c, .int .i64 3], .int .i64 0]) ∧ Row .u8 W' b 1 c [5] ∧ Below w.heap.size w W' := by
  have := BPut_ok w none 0 0 [] 5 3 (by rw [show pack [] = [] by rfl]; exact Row.nil_row _ _) (by simp) (by omega) (by omega)
  rw [pk1] at this
  exact this
theorem al2 (w : World) (b : Option Addr) (c : Nat) (h : Row .u8 w b 1 c [5]) : Calls Try.prog 61 #[.agg #[.slice b 1 c, .int .i64 3], .int .u64 6, .int .i64 4] w fun e W' => ∃ b c, e = .returned (.tuple #[.agg #[.slice b 1 c, .int .i64 7], .int .i64 0]) ∧ Row .u8 W' b 1 c [53] ∧ Below w.heap.size w W' := by
  have := BPut_ok w b 1 c (numB 5 3) 6 4 (by rw [pk1']; exact h) (by rw [numB_len]; omega) (by omega) (by omega)
  rw [pk2, numB_len] at this
  exact this
theorem al3 (w : World) (b : Option Addr) (c : Nat) (h : Row .u8 w b 1 c [53]) : Calls Try.prog 98 #[.agg #[.slice b 1 c, .int .i64 7], .int .i64 2, .int .i64 4] w fun e W' => e = .returned (.tuple #[.int .u64 13, .int .i64 0]) ∧ Below w.heap.size w W' := by
  have := BGet_ok w b 1 c (numB 5 3 ++ numB 6 4) 2 4 (by rw [pk2]; exact h) (by rw [List.length_append, numB_len, numB_len]; omega) (by omega) (by rw [List.length_append, numB_len, numB_len]; omega)
  rw [nb3, List.length_append, numB_len, numB_len] at this
  exact this

end Go.Proofs.Ythbjcjphplgobaa

/- BitsGot: what was put is got, wherever it stands. -/
namespace Go.Proofs.Ythbjcjphplgobaa
open Go.RowKit Cad

theorem mid_behind (A B : List Bool) : midB (A ++ B) A.length (A.length + B.length) = B := by
  unfold midB
  rw [List.drop_left, Nat.add_sub_cancel_left, List.take_length]
theorem mid_front (A B : List Bool) {i t : Nat} (h : i ≤ t) (ht : t ≤ A.length) : midB (A ++ B) i t = midB A i t := by
  unfold midB
  rw [List.drop_append_of_le_length (by omega), List.take_append_of_le_length (by simp; omega)]
theorem natB_numB_self {v n : Nat} (h : v < 2 ^ n) : natB (numB v n) = v := by rw [natB_numB, Nat.mod_eq_of_lt h]

theorem box1 (W : World) (v : Value) (N : Int) : BoxAt (W.alloc (.cells #[v, .int .i64 N] 45)) W.heap.size v N := heap_alloc_new _ _
end Go.Proofs.Ythbjcjphplgobaa

/- BitsParts: joining, cutting, bytes and filling up are the reference's. -/
namespace Go.Proofs.Ythbjcjphplgobaa
open Go.RowKit Cad

/-- a call that hands back bits and an error -/
def Res (f : FuncId) (args : Array Value) (W : World) (m : Nat) (l : List Int) (n e : Int) : Prop :=
  Calls Try.prog f args W fun r W' => ∃ b c, r = .returned (.tuple #[.agg #[.slice b m c, .int .i64 n], .int .i64 e]) ∧ Row .u8 W' b m c l ∧ Below W.heap.size W W'
theorem Res.none {f : FuncId} {args : Array Value} {W : World} {e : Int} (h : Calls Try.prog f args W fun r W' => r = .returned (.tuple #[.agg #[.slice none 0 0, .int .i64 0], .int .i64 e]) ∧ Below W.heap.size W W') : Res f args W 0 [] 0 e :=
  h.mono fun _ _ ⟨h1, h2⟩ => ⟨Option.none, 0, h1, Row.nil_row _ _, h2⟩
theorem Res.own {f : FuncId} {args : Array Value} {W : World} {m : Nat} {l : List Int} {n e : Int} (hl : ∀ x ∈ l, 0 ≤ x ∧ x ≤ 255) (h : Calls Try.prog f args W fun r W' => ∃ v', r = .returned (.tuple #[.agg #[v', .int .i64 n], .int .i64 e]) ∧
    W'.ownsRow W.heap.size 5 1 v' m (nums .u8 l) ∧ Below W.heap.size W W') : Res f args W m l n e :=
  h.mono fun _ _ ⟨v', h1, h2, h3⟩ => by
    obtain ⟨b, c, rfl⟩ := own_form h2
    exact ⟨b, c, h1, Row.of_own h2 (u8_wf hl), h3⟩

section
variable (a : Option Addr) (len cap : Nat) (N : Int) (l : List Int) (hN : (Lit.int .i64 N).wf = true)
end

theorem same_both (m : Nat) (l : List Int) (n : Int) : Hid (∀ w b c b' c', Row .u8 w b m c l → Row .u8 w b' m c' l → Calls Try.prog 65 #[.agg #[.slice b m c, .int .i64 n], .agg #[.slice b' m c', .int .i64 n]] w fun e W' => e = .returned (.bool true) ∧ Below w.heap.size w W') := Go.Lib.hid fun w b c b' c' h h' => by
  have := RSame_ok w b m c n l h b' m c' n l h'
  simpa using this

end Go.Proofs.Ythbjcjphplgobaa

/- Runs of ones: what is read is the run; runs apart; runs cut off; runs behind each other. No Go function in sight. -/
namespace Cad

theorem runB_get {n i : Nat} (hn : n ≤ 48) : (runB n).getD i false = decide (i < n) := by
  unfold runB
  by_cases h : i < n
  · simp [List.getD, List.getElem?_append_left, h]
  · rw [decide_eq_false h]
    split
    · simp [List.getD, List.getElem?_append_right, Nat.not_lt.1 h]
      by_cases e : i - n = 0
      · rw [e]; rfl
      · rw [List.getElem?_eq_none (by simp; omega)]; rfl
    · rw [getD_ge]; simp; omega

/-- all ones from the front -/
theorem lead_min (B : List Bool) (k : Nat) : lead B k = min (lead B B.length) k := by
  have h1 := lead_le B k
  have h2 := lead_len B B.length
  rcases Nat.le_total (lead B B.length) k with h | h
  · rw [Nat.min_eq_left h]
    refine lead_eq B k _ h (fun i hi => lead_one B B.length i hi) (fun hk => ?_) h2
    by_cases e : lead B B.length < B.length
    · exact lead_stop B B.length e
    · exact getD_ge _ _ (by omega)
  · rw [Nat.min_eq_right h]
    exact lead_eq B k k (Nat.le_refl _) (fun i hi => lead_one B B.length i (by omega)) (fun hk => absurd hk (by omega)) (by omega)

/-- what is read is the run of the number -/
theorem read_is {B : List Bool} {i n q : Nat} (h : readV B i = (n, q, 0)) (hi : i ≤ B.length) : n ≤ 48 ∧ n = min (lead (B.drop i) (B.drop i).length) 48 ∧ q = i + runLen n ∧ q ≤ B.length ∧ (B.drop i).take (q - i) = runB n := by
  have hm := lead_min (B.drop i) 48
  have hl := lead_len (B.drop i) 48
  have hk := lead_le (B.drop i) 48
  have h1 := fun j => lead_one (B.drop i) 48 j
  have h2 := lead_stop (B.drop i) 48
  rw [List.length_drop] at hl
  unfold readV at h
  simp only at h
  have main : n = lead (B.drop i) 48 ∧ q = i + runLen n ∧ q ≤ B.length := by
    split at h
    · rename_i e
      cases h
      exact ⟨e.symm, by rfl, by omega⟩
    · rename_i e
      split at h
      · rename_i e2
        cases h
        refine ⟨rfl, ?_, by omega⟩
        unfold runLen; rw [if_neg e]; rfl
      · cases h
  obtain ⟨e1, e2, e3⟩ := main
  refine ⟨by omega, by rw [e1, hm], e2, e3, ?_⟩
  have hn : n ≤ 48 := by omega
  have hrl : q - i = runLen n := by omega
  apply ext_getD
  · rw [runB_len hn, List.length_take, List.length_drop]; omega
  · intro j hj
    rw [runB_get hn]
    have hjq : j < runLen n := by rw [List.length_take] at hj; omega
    have e : ((B.drop i).take (q - i)).getD j false = (B.drop i).getD j false := by simp [List.getD, hrl, hjq]
    rw [e]
    by_cases hjn : j < n
    · rw [h1 j (by omega), decide_eq_true hjn]
    · rw [decide_eq_false hjn]
      have hj0 : j = n ∧ n < 48 := by unfold runLen at hjq; split at hjq <;> omega
      rw [hj0.1, e1]
      exact h2 (by omega)
theorem read_no {B : List Bool} {i p q er : Nat} (h : readV B i = (p, q, er)) (he : er ≠ 0) (hi : i ≤ B.length) : p = 0 ∧ q = 0 ∧ er = 24 ∧ i + lead (B.drop i) (B.drop i).length = B.length ∧ lead (B.drop i) (B.drop i).length < 48 := by
  have hm := lead_min (B.drop i) 48
  have hl := lead_len (B.drop i) (B.drop i).length
  have hk := lead_le (B.drop i) 48
  rw [List.length_drop] at hl
  unfold readV at h
  simp only at h
  split at h
  · cases h; exact absurd rfl he
  · rename_i e
    split at h
    · cases h; exact absurd rfl he
    · rename_i e2
      cases h
      refine ⟨rfl, rfl, rfl, ?_, ?_⟩
      · rw [List.length_drop] at hm ⊢; omega
      · rw [List.length_drop] at hm ⊢; omega
theorem read_end (B : List Bool) : readV B B.length = (0, 0, 24) := by
  unfold readV
  simp [lead]

/-- two runs differ within the shorter one -/
theorem runs_apart {n m : Nat} (hn : n ≤ 48) (hm : m ≤ 48) (hne : n ≠ m) : (runB n).take (min (runLen n) (runLen m)) ≠ (runB m).take (min (runLen n) (runLen m)) := by
  have key : ∀ a b : Nat, a ≤ 48 → b ≤ 48 → a < b → (runB a).take (min (runLen a) (runLen b)) ≠ (runB b).take (min (runLen a) (runLen b)) := by
    intro a b ha hb hab e
    have hlt : a < min (runLen a) (runLen b) := by unfold runLen; split <;> split <;> omega
    have h1 : ((runB a).take (min (runLen a) (runLen b))).getD a false = ((runB b).take (min (runLen a) (runLen b))).getD a false := by rw [e]
    rw [show ((runB a).take (min (runLen a) (runLen b))).getD a false = (runB a).getD a false by simp only [List.getD, List.getElem?_take, if_pos hlt],
      show ((runB b).take (min (runLen a) (runLen b))).getD a false = (runB b).getD a false by simp only [List.getD, List.getElem?_take, if_pos hlt], runB_get ha, runB_get hb] at h1
    simp [hab] at h1
  rcases Nat.lt_or_gt_of_ne hne with h | h
  · exact key n m hn hm h
  · rw [Nat.min_comm]; exact (key m n hm hn h).symm

/-- a run that is cut off -/
theorem run_cut {n k : Nat} (hn : n ≤ 48) (hk : k < runLen n) : readV ((runB n).take k) 0 = (0, 0, 24) := by
  have hkn : k ≤ n := by unfold runLen at hk; split at hk <;> omega
  have hk48 : k < 48 := by unfold runLen at hk; split at hk <;> omega
  have hlen : ((runB n).take k).length = k := by rw [List.length_take, runB_len hn]; omega
  have hl : lead (((runB n).take k).drop 0) 48 = k := by
    rw [List.drop_zero]
    refine lead_eq _ _ _ (by omega) (fun i hi => ?_) (fun _ => getD_ge _ _ (by omega)) (by omega)
    rw [show ((runB n).take k).getD i false = (runB n).getD i false by simp only [List.getD, List.getElem?_take, if_pos hi], runB_get hn]
    simp; omega
  exact readV_short hl hk48 (by omega)

/-- runs behind each other -/
def runs : List Nat → List Bool
  | [] => []
  | n :: l => runB n ++ runs l
theorem runs_append (l m : List Nat) : runs (l ++ m) = runs l ++ runs m := by
  induction l with
  | nil => rfl
  | cons n l ih => simp [runs, ih]
theorem runs_one (n : Nat) : runs [n] = runB n := by simp [runs]
theorem runs_len_le : ∀ (l : List Nat), (∀ x ∈ l, x ≤ 48) → (runs l).length ≤ 48 * l.length
  | [], _ => by simp [runs]
  | n :: l, h => by
    have h1 := runs_len_le l fun x hx => h x (List.mem_cons_of_mem _ hx)
    have h2 := runLen_le (h n (List.mem_cons_self ..))
    simp only [runs, List.length_append, List.length_cons, runB_len (h n (List.mem_cons_self ..))]
    omega
theorem runs_split (l : List Nat) {i : Nat} (hi : i < l.length) : runs l = runs (l.take i) ++ runB (l.getD i 0) ++ runs (l.drop (i + 1)) := by
  have e : l = l.take i ++ (l.getD i 0 :: l.drop (i + 1)) := by
    rw [show l.getD i 0 = l[i] by simp [List.getD, hi], ← List.drop_eq_getElem_cons hi, List.take_append_drop]
  conv => lhs; rw [e, runs_append]
  simp [runs]
theorem runs_take_succ (l : List Nat) {i : Nat} (hi : i < l.length) : runs (l.take (i + 1)) = runs (l.take i) ++ runB (l.getD i 0) := by
  rw [List.take_add_one, runs_append, show l[i]?.toList = [l.getD i 0] by simp [List.getD, hi], runs_one]
end Cad

/- What the statements of unary share: the chapter's examples; both sides say the same. -/
namespace Go.Proofs.Ythbjcjphplgobaa
open Go.RowKit Cad

/-- a call that hands back three numbers -/
def Res3 (f : FuncId) (args : Array Value) (W : World) (p q e : Int) : Prop :=
  Calls Try.prog f args W fun r W' => r = .returned (.tuple #[.int .i64 p, .int .i64 q, .int .i64 e]) ∧ Below W.heap.size W W'

theorem URead_bad (W : World) (a : Option Addr) (len cap : Nat) (N : Int) (l : List Int) (i : Int) (hr : Row .u8 W a len cap l) (hN : (Lit.int .i64 N).wf = true) (hi : (Lit.int .i64 i).wf = true) (hv : ¬ Valid l N) : Res3 105 #[.agg #[.slice a len cap, .int .i64 N], .int .i64 i] W 0 0 8 :=
  URead_no W a len cap N i 8 hi (.inl rfl) fun w hw => BGet_bad w a len cap N l i 1 (hr.below hw (Nat.le_refl _)) hN hv
theorem URead_out (W : World) (a : Option Addr) (len cap : Nat) (N : Int) (l : List Int) (i er : Int) (hr : Row .u8 W a len cap l) (hN : (Lit.int .i64 N).wf = true) (hi : (Lit.int .i64 i).wf = true) (hv : Valid l N) (h : (i < 0 ∧ er = 2) ∨ (¬ i < 0 ∧ N ≤ i ∧ er = 24)) : Res3 105 #[.agg #[.slice a len cap, .int .i64 N], .int .i64 i] W 0 0 er :=
  URead_no W a len cap N i er hi (by omega) fun w hw => by
    rcases h with ⟨h, rfl⟩ | ⟨h, h', rfl⟩
    · exact BGet_arg w a len cap N l i 1 (hr.below hw (Nat.le_refl _)) hN hv (by omega) h
    · exact BGet_short w a len cap N l i 1 (hr.below hw (Nat.le_refl _)) hN hv (by omega) h (by omega)

theorem URead_le (W : World) (a : Option Addr) (len cap : Nat) (B : List Bool) (i : Nat) (hr : Row .u8 W a len cap (pack B)) (hB : B.length ≤ 330000) (hi : i ≤ B.length) (p q er : Nat) (hv : readV B i = (p, q, er)) :
    Calls Try.prog 105 #[.agg #[.slice a len cap, .int .i64 B.length], .int .i64 i] W fun e W' => e = .returned (.tuple #[.int .i64 p, .int .i64 q, .int .i64 er]) ∧ Below W.heap.size W W' := by
  by_cases h : i < B.length
  · exact URead_in W a len cap B i hr hB h p q er hv
  · obtain rfl : i = B.length := by omega
    rw [read_end] at hv
    cases hv
    exact URead_out W a len cap B.length (pack B) B.length 24 hr (bounds_of_len (by omega)) (bounds_of_len (by omega)) ⟨B, rfl, hB, rfl⟩ (.inr ⟨by omega, by omega, rfl⟩)

/-- a run alone -/
theorem UWrite_alone (w : World) (n : Nat) (hn : n ≤ 48) (k m : Nat) (nI kI : Int) (hnI : (n : Int) = nI) (hkI : (k : Int) = kI) (hk : runLen n = k) (hm : (k + 7) / 8 = m) (l : List Int) (hl : pack (runB n) = l) :
    Calls Try.prog 92 #[.agg #[.slice none 0 0, .int .i64 0], .int .i64 nI] w fun e W' => ∃ b c, e = .returned (.tuple #[.agg #[.slice b m c, .int .i64 kI], .int .i64 0]) ∧ Row .u8 W' b m c l ∧ Below w.heap.size w W' := by
  subst hnI
  subst hkI
  have := UWrite_ok w none 0 0 [] n (by rw [show pack [] = [] by rfl]; exact Row.nil_row _ _) (by have := runLen_le hn; simp; omega) hn
  rw [List.nil_append, hl, hk] at this
  simp only [List.length_nil, Nat.zero_add] at this
  rw [hm] at this
  exact this

end Go.Proofs.Ythbjcjphplgobaa

/- Rice codes with a cap, as lists of Bools: no Go function in sight. -/
namespace Cad
open Go.Proofs.Ythbjcjphplgobaa

/-- how long the run of a number is -/
def partN (v k : Nat) : Nat := min 48 (v / 2 ^ k)
/-- how many bits stand behind a run -/
def lowN (q k : Nat) : Nat := if q < 48 then k else 32
def lowV (v k : Nat) : Nat := v % 2 ^ lowN (partN v k) k
def riceLen (v k : Nat) : Nat := runLen (partN v k) + lowN (partN v k) k
def riceB (v k : Nat) : List Bool := runB (partN v k) ++ numB (lowV v k) (lowN (partN v k) k)

theorem partN_le (v k : Nat) : partN v k ≤ 48 := Nat.min_le_left _ _
theorem lowN_le {q k : Nat} (hk : k ≤ 24) : lowN q k ≤ 32 := by unfold lowN; split <;> omega
theorem lowV_lt (v k : Nat) : lowV v k < 2 ^ lowN (partN v k) k := Nat.mod_lt _ (Nat.pow_pos (by decide))
theorem riceB_len (v k : Nat) : (riceB v k).length = riceLen v k := by
  unfold riceB riceLen
  rw [List.length_append, runB_len (partN_le v k), numB_len]
theorem riceLen_le (v : Nat) {k : Nat} (hk : k ≤ 24) : riceLen v k ≤ 80 := by
  have h1 := runLen_le (partN_le v k)
  have h2 := lowN_le (q := partN v k) hk
  unfold riceLen; omega
theorem riceLen_ge (v : Nat) {k : Nat} (hk : k ≤ 24) : k + 1 ≤ riceLen v k := by
  have h1 := runLen_pos (partN v k)
  unfold riceLen lowN
  split <;> omega
theorem riceLen_pos (v k : Nat) : 1 ≤ riceLen v k := by
  have h1 := runLen_pos (partN v k)
  unfold riceLen; omega
theorem riceLen_full {v k : Nat} (h : partN v k = 48) : riceLen v k = 80 := by unfold riceLen lowN runLen; rw [h]; rfl
theorem riceLen_less {v k : Nat} (h : partN v k < 48) : riceLen v k = partN v k + 1 + k := by
  unfold riceLen lowN runLen; rw [if_pos h, if_neg (by omega)]

/-- what is read from index i on: the number, the index behind it, the error -/
def readR (B : List Bool) (i k : Nat) : Nat × Nat × Nat :=
  let r := readV B i
  let n := lowN r.1 k
  let low := natB (midB B r.2.1 (r.2.1 + n))
  if r.2.2 ≠ 0 ∨ B.length < r.2.1 + n then (0, 0, 24)
  else if r.1 < 48 then (r.1 * 2 ^ k + low, r.2.1 + n, 0)
  else if partN low k = 48 then (low, r.2.1 + n, 0) else (0, 0, 12)

theorem readR_no {B : List Bool} {i k p q er : Nat} (h : readV B i = (p, q, er)) (he : er ≠ 0) : readR B i k = (0, 0, 24) := by
  unfold readR; simp only [h]; rw [if_pos (.inl he)]
theorem readR_short {B : List Bool} {i k q m : Nat} (h : readV B i = (q, m, 0)) (he : B.length < m + lowN q k) : readR B i k = (0, 0, 24) := by
  unfold readR; simp only [h]; rw [if_pos (.inr he)]
theorem readR_less {B : List Bool} {i k q m : Nat} (h : readV B i = (q, m, 0)) (he : m + k ≤ B.length) (hq : q < 48) : readR B i k = (q * 2 ^ k + natB (midB B m (m + k)), m + k, 0) := by
  have e : lowN q k = k := if_pos hq
  unfold readR; simp only [h, e]
  rw [if_neg (by omega), if_pos hq]
theorem readR_form {B : List Bool} {i k m : Nat} (h : readV B i = (48, m, 0)) (he : m + 32 ≤ B.length) (hp : partN (natB (midB B m (m + 32))) k ≠ 48) : readR B i k = (0, 0, 12) := by
  have e : lowN 48 k = 32 := rfl
  unfold readR; simp only [h, e]
  rw [if_neg (by omega), if_neg (by omega), if_neg hp]
theorem readR_full {B : List Bool} {i k m : Nat} (h : readV B i = (48, m, 0)) (he : m + 32 ≤ B.length) (hp : partN (natB (midB B m (m + 32))) k = 48) : readR B i k = (natB (midB B m (m + 32)), m + 32, 0) := by
  have e : lowN 48 k = 32 := rfl
  unfold readR; simp only [h, e]
  rw [if_neg (by omega), if_neg (by omega), if_pos hp]

theorem pow24 {k : Nat} (hk : k ≤ 24) : 1 ≤ 2 ^ k ∧ 2 ^ k ≤ 16777216 :=
  ⟨Nat.pow_pos (by decide), Nat.le_trans (Nat.pow_le_pow_right (n := 2) (by decide) hk) (by decide)⟩
theorem partN_of {q k low : Nat} (hq : q < 48) (hl : low < 2 ^ k) : partN (q * 2 ^ k + low) k = q := by
  unfold partN
  have h0 : 0 < 2 ^ k := Nat.pow_pos (by decide)
  rw [Nat.add_comm, Nat.mul_comm, Nat.add_mul_div_left _ _ h0, Nat.div_eq_of_lt hl]
  omega
/-- a number is its run and its lowest bits -/
theorem whole {v k : Nat} (h : partN v k < 48) : partN v k * 2 ^ k + v % 2 ^ k = v := by
  have e : partN v k = v / 2 ^ k := by unfold partN at h ⊢; omega
  rw [e]; exact Nat.div_add_mod' v (2 ^ k)
theorem less_lt {q k low : Nat} (hk : k ≤ 24) (hq : q < 48) (hl : low < 2 ^ k) : q * 2 ^ k + low < 4294967296 := by
  have h1 := (pow24 hk).2
  have h2 : q * 2 ^ k ≤ 47 * 2 ^ k := Nat.mul_le_mul_right _ (by omega)
  omega

/-- a code behind bits is read -/
theorem read_rice (A C : List Bool) {v k : Nat} (hv : v < 4294967296) : readR (A ++ riceB v k ++ C) A.length k = (v, A.length + riceLen v k, 0) := by
  have hl := riceB_len v k
  have h1 := read_run A (numB (lowV v k) (lowN (partN v k) k) ++ C) (partN_le v k)
  have e : A ++ runB (partN v k) ++ (numB (lowV v k) (lowN (partN v k) k) ++ C) = A ++ riceB v k ++ C := by unfold riceB; simp
  rw [e] at h1
  have hn : natB (midB (A ++ riceB v k ++ C) (A.length + runLen (partN v k)) (A.length + runLen (partN v k) + lowN (partN v k) k)) = lowV v k := by
    have hd : (A ++ riceB v k ++ C).drop (A.length + runLen (partN v k)) = numB (lowV v k) (lowN (partN v k) k) ++ C := by
      rw [← e, List.drop_left']
      rw [List.length_append, runB_len (partN_le v k)]
    unfold midB
    rw [hd, show A.length + runLen (partN v k) + lowN (partN v k) k - (A.length + runLen (partN v k)) = lowN (partN v k) k by omega, List.take_left' (numB_len _ _), natB_numB]
    exact Nat.mod_eq_of_lt (lowV_lt v k)
  have hlen : (A ++ riceB v k ++ C).length = A.length + riceLen v k + C.length := by simp [hl]; omega
  have hrl : riceLen v k = runLen (partN v k) + lowN (partN v k) k := rfl
  by_cases hq : partN v k < 48
  · have el : lowN (partN v k) k = k := if_pos hq
    have ev : lowV v k = v % 2 ^ k := by unfold lowV; rw [el]
    rw [el] at hn hrl
    rw [readR_less h1 (by omega) hq, hn, ev, whole hq, hrl, Nat.add_assoc]
  · have eq : partN v k = 48 := by have := partN_le v k; omega
    have ev : lowV v k = v := by unfold lowV; rw [eq]; exact Nat.mod_eq_of_lt hv
    have el : lowN (partN v k) k = 32 := if_neg hq
    rw [el] at hn hrl
    rw [ev] at hn
    rw [eq] at h1 hn hrl
    rw [readR_full h1 (by omega) (by rw [hn]; exact eq), hn, hrl, Nat.add_assoc]

/-- what is read has just this code -/
theorem rice_is {B : List Bool} {i k v p : Nat} (h : readR B i k = (v, p, 0)) (hi : i ≤ B.length) (hk : k ≤ 24) : v < 4294967296 ∧ p = i + riceLen v k ∧ p ≤ B.length ∧ midB B i p = riceB v k := by
  obtain ⟨q, m, er, hr⟩ : ∃ q m er, readV B i = (q, m, er) := ⟨_, _, _, rfl⟩
  by_cases he : er = 0
  · subst he
    obtain ⟨hq, -, hm, hmB, hrun⟩ := read_is hr hi
    by_cases hs : B.length < m + lowN q k
    · rw [readR_short hr hs] at h; cases h
    · have hmid : ∀ n, m + n ≤ B.length → midB B i (m + n) = runB q ++ midB B m (m + n) := by
        intro n hn
        unfold midB
        have h1 : B.drop m = (B.drop i).drop (m - i) := by rw [List.drop_drop]; congr 1; omega
        rw [h1, ← hrun, show m + n - i = (m - i) + (m + n - m) by omega, List.take_add]
      by_cases h48 : q < 48
      · have el : lowN q k = k := if_pos h48
        rw [el] at hs
        rw [readR_less hr (by omega) h48] at h
        cases h
        have hlen := midB_len B (show m ≤ m + k by omega) (by omega)
        have hlt : natB (midB B m (m + k)) < 2 ^ k := by
          have := natB_lt (midB B m (m + k))
          rw [hlen, show m + k - m = k by omega] at this
          exact this
        have hp := partN_of h48 hlt
        have hmod : (q * 2 ^ k + natB (midB B m (m + k))) % 2 ^ k = natB (midB B m (m + k)) := by
          rw [Nat.add_comm, Nat.add_mul_mod_self_right, Nat.mod_eq_of_lt hlt]
        refine ⟨less_lt hk h48 hlt, ?_, by omega, ?_⟩
        · unfold riceLen; rw [hp, el]; omega
        · rw [hmid k (by omega)]
          unfold riceB lowV
          rw [hp, el, hmod]
          congr 1
          have := numB_natB (midB B m (m + k))
          rw [hlen, show m + k - m = k by omega] at this
          exact this.symm
      · obtain rfl : q = 48 := by omega
        have el : lowN 48 k = 32 := rfl
        rw [el] at hs
        have hlen := midB_len B (show m ≤ m + 32 by omega) (by omega)
        have hlt : natB (midB B m (m + 32)) < 2 ^ 32 := by
          have := natB_lt (midB B m (m + 32))
          rw [hlen, show m + 32 - m = 32 by omega] at this
          exact this
        by_cases hp : partN (natB (midB B m (m + 32))) k = 48
        · rw [readR_full hr (by omega) hp] at h
          cases h
          refine ⟨hlt, ?_, by omega, ?_⟩
          · unfold riceLen; rw [hp, el]; omega
          · rw [hmid 32 (by omega)]
            unfold riceB lowV
            rw [hp, el, Nat.mod_eq_of_lt hlt]
            congr 1
            have := numB_natB (midB B m (m + 32))
            rw [hlen, show m + 32 - m = 32 by omega] at this
            exact this.symm
        · rw [readR_form hr (by omega) hp] at h; cases h
  · rw [readR_no hr he] at h; cases h
/-- what is refused -/
theorem rice_no {B : List Bool} {i k v p er : Nat} (h : readR B i k = (v, p, er)) (he : er ≠ 0) (hi : i ≤ B.length) : v = 0 ∧ p = 0 ∧ (er = 24 ∨ (er = 12 ∧ i + 80 ≤ B.length)) := by
  obtain ⟨q, m, e, hr⟩ : ∃ q m e, readV B i = (q, m, e) := ⟨_, _, _, rfl⟩
  by_cases h0 : e = 0
  · subst h0
    obtain ⟨hq, -, hm, hmB, -⟩ := read_is hr hi
    by_cases hs : B.length < m + lowN q k
    · rw [readR_short hr hs] at h; cases h; exact ⟨rfl, rfl, .inl rfl⟩
    · by_cases h48 : q < 48
      · have el : lowN q k = k := if_pos h48
        rw [el] at hs
        rw [readR_less hr (by omega) h48] at h
        cases h
        exact absurd rfl he
      · obtain rfl : q = 48 := by omega
        have el : lowN 48 k = 32 := rfl
        rw [el] at hs
        by_cases hp : partN (natB (midB B m (m + 32))) k = 48
        · rw [readR_full hr (by omega) hp] at h; cases h; exact absurd rfl he
        · rw [readR_form hr (by omega) hp] at h; cases h
          have : runLen 48 = 48 := rfl
          exact ⟨rfl, rfl, .inr ⟨rfl, by omega⟩⟩
  · rw [readR_no hr h0] at h; cases h; exact ⟨rfl, rfl, .inl rfl⟩

theorem readR_end (B : List Bool) (k : Nat) : readR B B.length k = (0, 0, 24) := readR_no (read_end B) (by decide)

/-- what is read is read, whatever stands behind it -/
theorem rice_more {B : List Bool} {i k v p : Nat} (h : readR B i k = (v, p, 0)) (hi : i ≤ B.length) (hk : k ≤ 24) (C : List Bool) : readR (B ++ C) i k = (v, p, 0) := by
  obtain ⟨hv, hp, hpB, hmid⟩ := rice_is h hi hk
  have e : B = B.take i ++ riceB v k ++ B.drop p := by
    rw [← hmid]
    unfold midB
    have h1 : B.drop p = (B.drop i).drop (p - i) := by rw [List.drop_drop]; congr 1; omega
    rw [h1, List.append_assoc, List.take_append_drop, List.take_append_drop]
  have hl : (B.take i).length = i := by rw [List.length_take]; omega
  have := read_rice (B.take i) (B.drop p ++ C) hv (k := k)
  rw [← List.append_assoc, ← e, hl] at this
  rw [this, hp]

/-- a code that is cut off -/
theorem rice_cut {v k j : Nat} (hv : v < 4294967296) (hk : k ≤ 24) (hj : j < riceLen v k) : readR ((riceB v k).take j) 0 k = (0, 0, 24) := by
  obtain ⟨w, p, er, h⟩ : ∃ w p er, readR ((riceB v k).take j) 0 k = (w, p, er) := ⟨_, _, _, rfl⟩
  have hlen : ((riceB v k).take j).length = j := by rw [List.length_take, riceB_len]; omega
  by_cases he : er = 0
  · subst he
    have h1 := rice_more h (Nat.zero_le _) hk ((riceB v k).drop j)
    have h2 := read_rice [] [] hv (k := k)
    rw [List.take_append_drop] at h1
    rw [List.nil_append, List.append_nil, List.length_nil, Nat.zero_add, h1] at h2
    cases h2
    obtain ⟨-, -, hpB, -⟩ := rice_is h (Nat.zero_le _) hk
    omega
  · obtain ⟨rfl, rfl, h3⟩ := rice_no h he (Nat.zero_le _)
    rcases h3 with rfl | ⟨rfl, h3⟩
    · exact h
    · have := riceLen_le v hk
      omega

/-- a greater number has no shorter code -/
theorem partN_mono {v w k : Nat} (h : v ≤ w) : partN v k ≤ partN w k := by
  have : v / 2 ^ k ≤ w / 2 ^ k := Nat.div_le_div_right h
  unfold partN; omega
theorem riceLen_mono {v w k : Nat} (h : v ≤ w) (hk : k ≤ 24) : riceLen v k ≤ riceLen w k := by
  have hp := partN_mono h (k := k)
  by_cases h1 : partN w k < 48
  · rw [riceLen_less h1, riceLen_less (by omega)]; omega
  · have : partN w k = 48 := by have := partN_le w k; omega
    rw [riceLen_full this]; exact riceLen_le v hk
theorem riceLen_small {v k : Nat} (_hk : k ≤ 24) : riceLen v k = k + 1 ↔ v < 2 ^ k := by
  have h0 : 0 < 2 ^ k := Nat.pow_pos (by decide)
  have key : partN v k = 0 ↔ v < 2 ^ k := by
    unfold partN
    rw [← Nat.div_eq_zero_iff_lt h0]
    omega
  rw [← key]
  by_cases h : partN v k < 48
  · rw [riceLen_less h]; omega
  · have : partN v k = 48 := by have := partN_le v k; omega
    rw [riceLen_full this]; omega
/-- no code begins another one -/
theorem rice_apart {v w k : Nat} (hv : v < 4294967296) (hw : w < 4294967296) (_hk : k ≤ 24) (hne : v ≠ w) (C : List Bool) : riceB w k ≠ riceB v k ++ C := by
  intro e
  have h1 := read_rice [] C hv (k := k)
  have h2 := read_rice [] [] hw (k := k)
  rw [List.nil_append, List.append_nil, e] at h2
  rw [List.nil_append, h2] at h1
  cases h1
  exact hne rfl

/-- codes behind each other -/
def codes : List (Nat × Nat) → List Bool
  | [] => []
  | x :: l => riceB x.1 x.2 ++ codes l
theorem codes_append (l m : List (Nat × Nat)) : codes (l ++ m) = codes l ++ codes m := by
  induction l with
  | nil => rfl
  | cons n l ih => simp [codes, ih]
theorem codes_one (x : Nat × Nat) : codes [x] = riceB x.1 x.2 := by simp [codes]
theorem codes_len_le : ∀ (l : List (Nat × Nat)), (∀ x ∈ l, x.2 ≤ 24) → (codes l).length ≤ 80 * l.length
  | [], _ => by simp [codes]
  | n :: l, h => by
    have h1 := codes_len_le l fun x hx => h x (List.mem_cons_of_mem _ hx)
    have h2 := riceLen_le n.1 (h n (List.mem_cons_self ..))
    simp only [codes, List.length_append, List.length_cons, riceB_len]
    omega
theorem codes_split (l : List (Nat × Nat)) {i : Nat} (hi : i < l.length) : codes l = codes (l.take i) ++ riceB (l.getD i (0, 0)).1 (l.getD i (0, 0)).2 ++ codes (l.drop (i + 1)) := by
  have e : l = l.take i ++ (l.getD i (0, 0) :: l.drop (i + 1)) := by
    rw [show l.getD i (0, 0) = l[i] by simp [List.getD, hi], ← List.drop_eq_getElem_cons hi, List.take_append_drop]
  conv => lhs; rw [e, codes_append]
  simp [codes]
theorem codes_take_succ (l : List (Nat × Nat)) {i : Nat} (hi : i < l.length) : codes (l.take (i + 1)) = codes (l.take i) ++ riceB (l.getD i (0, 0)).1 (l.getD i (0, 0)).2 := by
  rw [List.take_add_one, codes_append, show l[i]?.toList = [l.getD i (0, 0)] by simp [List.getD, hi], codes_one]
end Cad

/- Contracts of the package rice: its small functions. -/
namespace Go.Proofs.Ythbjcjphplgobaa
open Go.RowKit Cad

theorem PisParameter_ok (W : World) (k : Nat) (h : k ≤ 24) :
    Calls Try.prog 76 #[.int .i64 k] W fun e W' => e = .returned (.bool true) ∧ W = W' := by
  have h1 : (k : Int) ≤ 24 := by omega
  have h2 : (0 : Int) ≤ k := by omega
  go_enter Try.func76, Try.ntmps76
  go_wp2
  go_ret
  exact ⟨rfl, rfl⟩
theorem PisParameter_no (W : World) (k : Int) (hk : (Lit.int .i64 k).wf = true) (h : k < 0 ∨ 24 < k) :
    Calls Try.prog 76 #[.int .i64 k] W fun e W' => e = .returned (.bool false) ∧ W = W' := by
  have bn := bounds_i64 hk
  have key : k < 0 ∨ (0 ≤ k ∧ ¬ k ≤ 24) := by omega
  rcases key with h | ⟨h, h'⟩
  all_goals
    go_enter Try.func76, Try.ntmps76
    go_wp2
    go_ret
    exact ⟨rfl, rfl⟩

theorem PlowBits_ok (W : World) (q k : Nat) (hq : q ≤ 48) (_h : k ≤ 24) :
    Calls Try.prog 79 #[.int .i64 q, .int .i64 k] W fun e W' => e = .returned (.int .i64 (lowN q k : Nat)) ∧ W = W' := by
  unfold lowN
  by_cases e : q < 48
  · rw [if_pos e]
    have h1 : (q : Int) < 48 := by omega
    go_enter Try.func79, Try.ntmps79
    go_wp2
    go_ret
    exact ⟨rfl, rfl⟩
  · rw [if_neg e]
    obtain rfl : q = 48 := by omega
    go_enter Try.func79, Try.ntmps79
    go_wp2
    go_ret
    exact ⟨rfl, rfl⟩

theorem PrunOf_ok (W : World) (v k : Nat) (hv : v < 4294967296) (h : k ≤ 24) :
    Calls Try.prog 77 #[.int .u32 v, .int .i64 k] W fun e W' => e = .returned (.int .i64 (partN v k : Nat)) ∧ W = W' := by
  have hp := pow24 h
  obtain ⟨x, hx⟩ : ∃ x, x = v / 2 ^ k := ⟨_, rfl⟩
  have hxb : x < 4294967296 := by rw [hx]; exact Nat.lt_of_le_of_lt (Nat.div_le_self _ _) hv
  have e1 : (v : Int) / 2 ^ k = (x : Int) := by rw [hx]; simp
  have hpx : partN v k = min 48 x := by unfold partN; rw [hx]
  have h1 : (k : Int) ≤ 24 := by omega
  have h2 : (0 : Int) ≤ k := by omega
  obtain ⟨m, hm⟩ : ∃ m, m = min 48 x := ⟨_, rfl⟩
  rw [hpx, ← hm]
  have m1 : (if (48 : Int) < (x : Int) then (48 : Int) else (x : Int)) = (m : Int) := by split <;> omega
  have m2 : (if 48 < x then (48 : Int) else (x : Int)) = (m : Int) := by split <;> omega
  have hmb : m ≤ 48 := by omega
  clear hpx hm hx hp
  go_enter Try.func77, Try.ntmps77
  go_wp2
  go_ret
  exact ⟨by go_num, rfl⟩
end Go.Proofs.Ythbjcjphplgobaa

/- Contracts of the package rice: Length, Write. -/
namespace Go.Proofs.Ythbjcjphplgobaa
open Go.RowKit Cad

theorem PLength_ok (W : World) (v k : Nat) (hv : v < 4294967296) (hk : k ≤ 24) :
    Calls Try.prog 50 #[.int .u32 v, .int .i64 k] W fun e W' => e = .returned (.tuple #[.int .i64 (riceLen v k : Nat), .int .i64 0]) ∧ W = W' := by
  have hpa := Go.Lib.hid fun w => PisParameter_ok w k hk
  have hru := Go.Lib.hid fun w => PrunOf_ok w v k hv hk
  have hle := Go.Lib.hid fun w => ULength_ok w (partN v k) (partN_le v k)
  have hlo := Go.Lib.hid fun w => PlowBits_ok w (partN v k) k (partN_le v k) hk
  have h1 := runLen_le (partN_le v k)
  have h2 := lowN_le (q := partN v k) hk
  unfold riceLen
  obtain ⟨q, hq⟩ : ∃ q, q = partN v k := ⟨_, rfl⟩
  rw [← hq] at hru hle hlo h1 h2 ⊢
  obtain ⟨r, hr⟩ : ∃ r, r = runLen q := ⟨_, rfl⟩
  obtain ⟨n, hn⟩ : ∃ n, n = lowN q k := ⟨_, rfl⟩
  rw [← hr] at hle h1 ⊢
  rw [← hn] at hlo h2 ⊢
  clear hq hr hn
  go_enter Try.func50, Try.ntmps50
  go_wp2_with (first
    | (go_at_call 76; refine (hpa.out _).mono ?_; rintro e w1 ⟨rfl, rfl⟩)
    | (go_at_call 77; refine (hru.out _).mono ?_; rintro e w1 ⟨rfl, rfl⟩)
    | (go_at_call 78; refine (hle.out _).mono ?_; rintro e w1 ⟨rfl, rfl⟩)
    | (go_at_call 79; refine (hlo.out _).mono ?_; rintro e w1 ⟨rfl, rfl⟩))
  go_ret2
  exact ⟨by go_num, rfl⟩
theorem PLength_arg (W : World) (v : Nat) (k : Int) (hk : (Lit.int .i64 k).wf = true) (h : k < 0 ∨ 24 < k) :
    Calls Try.prog 50 #[.int .u32 v, .int .i64 k] W fun e W' => e = .returned (.tuple #[.int .i64 0, .int .i64 2]) ∧ W = W' := by
  have hpa := Go.Lib.hid fun w => PisParameter_no w k hk h
  clear hk h
  go_enter Try.func50, Try.ntmps50
  go_wp2_with (go_at_call 76; refine (hpa.out _).mono ?_; rintro e w1 ⟨rfl, rfl⟩)
  go_ret2
  exact ⟨rfl, rfl⟩

theorem PWrite_bad (W : World) (a : Option Addr) (len cap : Nat) (N : Int) (l : List Int) (v : Nat) (k : Int) (hr : Row .u8 W a len cap l) (hN : (Lit.int .i64 N).wf = true) (hv : ¬ Valid l N) :
    Calls Try.prog 63 #[.agg #[.slice a len cap, .int .i64 N], .int .u32 v, .int .i64 k] W fun e W' => e = .returned (.tuple #[.agg #[.slice none 0 0, .int .i64 0], .int .i64 8]) ∧ Below W.heap.size W W' := by
  obtain ⟨W0, hW0, hbE, hs0, hx0, hy0⟩ := two_boxes W (.slice a len cap) N
  have hrE := hr.below hbE (Nat.le_refl _)
  have hck := Go.Lib.hid (BCheck_any W0 a len cap N l hrE hN 8 (.inr ⟨hv, rfl⟩))
  have hy0' := Go.Lib.hid hy0
  have hbE' := Go.Lib.hid hbE
  clear hr hrE hx0 hy0 hbE hN
  go_enter Try.func63, Try.ntmps63
  go_wp2_with (go_at_call 55; rw [← hW0]; refine hck.out.mono ?_; rintro e w1 ⟨rfl, hb1⟩; obtain ⟨e0, e1, f0, f1⟩ := (hy0'.out.below hb1 (by omega)).cells; have hb1' := Go.Lib.hid hb1; clear hb1 hW0)
  (try simp only [Exit.inBlock, Exit.then])
  refine bodyPost_ret (results_box_tmp (by rfl) _ _ (W.heap.size + 1) _ _ rfl ((hy0'.out.below hb1'.out (by omega)).set _ _)) rfl ?_
  exact ⟨rfl, ((hbE'.out.trans (hb1'.out.mono (by omega))).setCell (by simp) _).setCell (by simp) _⟩

theorem PWrite_arg (W : World) (a : Option Addr) (len cap : Nat) (N : Int) (l : List Int) (v : Nat) (k : Int) (hr : Row .u8 W a len cap l) (hN : (Lit.int .i64 N).wf = true) (hv : Valid l N) (hk : (Lit.int .i64 k).wf = true) (h : k < 0 ∨ 24 < k) :
    Calls Try.prog 63 #[.agg #[.slice a len cap, .int .i64 N], .int .u32 v, .int .i64 k] W fun e W' => e = .returned (.tuple #[.agg #[.slice none 0 0, .int .i64 0], .int .i64 2]) ∧ Below W.heap.size W W' := by
  obtain ⟨W0, hW0, hbE, hs0, hx0, hy0⟩ := two_boxes W (.slice a len cap) N
  have hrE := hr.below hbE (Nat.le_refl _)
  have hck := Go.Lib.hid (BCheck_any W0 a len cap N l hrE hN 0 (.inl ⟨hv, rfl⟩))
  have hpa := Go.Lib.hid fun w => PisParameter_no w k hk h
  have hy0' := Go.Lib.hid hy0
  have hbE' := Go.Lib.hid hbE
  clear hr hrE hx0 hy0 hbE hN hk h
  go_enter Try.func63, Try.ntmps63
  go_wp2_with (first
    | (go_at_call 55; rw [← hW0]; refine hck.out.mono ?_; rintro e w1 ⟨rfl, hb1⟩; obtain ⟨e0, e1, f0, f1⟩ := (hy0'.out.below hb1 (by omega)).cells; have hb1' := Go.Lib.hid hb1; clear hb1 hW0)
    | (go_at_call 76; refine (hpa.out _).mono ?_; rintro e w1 ⟨rfl, rfl⟩))
  (try simp only [Exit.inBlock, Exit.then])
  refine bodyPost_ret (results_box_tmp (by rfl) _ _ (W.heap.size + 1) _ _ rfl ((hy0'.out.below hb1'.out (by omega)).set _ _)) rfl ?_
  exact ⟨rfl, ((hbE'.out.trans (hb1'.out.mono (by omega))).setCell (by simp) _).setCell (by simp) _⟩

set_option maxRecDepth 100000 in
set_option maxHeartbeats 400000 in
/-- what Put does with the run, whether it is full or not -/
theorem PWrite_put (W : World) (a : Option Addr) (len cap : Nat) (B : List Bool) (v k : Nat) (hr : Row .u8 W a len cap (pack B)) (hB : B.length + runLen (partN v k) ≤ 330000) (hv : v < 4294967296) (hk : k ≤ 24) (P : Option Addr → Nat → Nat → Nat → Nat → World → Prop)
    (hput : ∀ w b c, Row .u8 w b ((B.length + runLen (partN v k) + 7) / 8) c (pack (B ++ runB (partN v k))) → Calls Try.prog 61 #[.agg #[.slice b ((B.length + runLen (partN v k) + 7) / 8) c, .int .i64 ((B.length + runLen (partN v k) : Nat) : Int)], .int .u64 (lowV v k : Nat), .int .i64 (lowN (partN v k) k : Nat)] w fun e W' => ∃ b m c t x, e = .returned (.tuple #[.agg #[.slice b m c, .int .i64 (t : Nat)], .int .i64 (x : Nat)]) ∧ P b m c t x W' ∧ Below w.heap.size w W')
    (hP : ∀ b m c t x w y N N', P b m c t x w → BoxAt w y (.slice none 0 0) N → P b m c t x ((w.setCell ⟨y, 0, none⟩ (.slice b m c)).setCell ⟨y, 1, none⟩ (.int .i64 N'))) :
    Calls Try.prog 63 #[.agg #[.slice a len cap, .int .i64 B.length], .int .u32 v, .int .i64 k] W fun e W' => ∃ b m c t x, e = .returned (.tuple #[.agg #[.slice b m c, .int .i64 (t : Nat)], .int .i64 (x : Nat)]) ∧ P b m c t x W' ∧ Below W.heap.size W W' := by
  obtain ⟨W0, hW0, hbE, hs0, hx0, hy0⟩ := two_boxes W (.slice a len cap) B.length
  have hrE := hr.below hbE (Nat.le_refl _)
  have hck := Go.Lib.hid (BCheck_any W0 a len cap B.length (pack B) hrE (bounds_of_len (by omega)) 0 (.inl ⟨⟨B, rfl, by omega, rfl⟩, rfl⟩))
  have hpa := Go.Lib.hid fun w => PisParameter_ok w k hk
  have hru := Go.Lib.hid fun w => PrunOf_ok w v k hv hk
  have hlo := Go.Lib.hid fun w => PlowBits_ok w (partN v k) k (partN_le v k) hk
  have hun := Go.Lib.hid fun w hw => UWrite_ok w a len cap B (partN v k) hw hB (partN_le v k)
  have hx0' := Go.Lib.hid hx0
  have hy0' := Go.Lib.hid hy0
  have hbE' := Go.Lib.hid hbE
  have hrE' := Go.Lib.hid hrE
  have hs0' := Go.Lib.hid hs0
  have hpu := Go.Lib.hid hput
  have hP' := Go.Lib.hid hP
  have h2 := lowN_le (q := partN v k) hk
  obtain ⟨q, hq⟩ : ∃ q, q = partN v k := ⟨_, rfl⟩
  obtain ⟨low, hlow⟩ : ∃ low, low = lowV v k := ⟨_, rfl⟩
  have hlv : low = v % 2 ^ lowN q k := by rw [hlow, hq]; rfl
  rw [← hlow] at hpu
  rw [← hq] at hru hlo hun hpu h2
  obtain ⟨n, hn⟩ : ∃ n, n = lowN q k := ⟨_, rfl⟩
  rw [← hn] at hlo hpu hlv h2
  obtain ⟨m1, hm1⟩ : ∃ m1, m1 = (B.length + runLen q + 7) / 8 := ⟨_, rfl⟩
  obtain ⟨N1, hN1⟩ : ∃ N1, N1 = B.length + runLen q := ⟨_, rfl⟩
  rw [← hm1, ← hN1] at hun hpu
  obtain ⟨p, hp⟩ : ∃ p, p = 2 ^ n := ⟨_, rfl⟩
  have hp32 : p ≤ 4294967296 := by rw [hp]; exact Nat.le_trans (Nat.pow_le_pow_right (n := 2) (by decide) h2) (by decide)
  have hp0 : 1 ≤ p := by rw [hp]; exact Nat.pow_pos (by decide)
  have e1 : (1 : Int) * 2 ^ n = (p : Int) := by rw [hp]; simp
  have e2 : (2 : Int) ^ n = (p : Int) := by rw [hp]; simp
  have hand : v &&& (p - 1) = low := by rw [hp, hlv]; exact Nat.and_two_pow_sub_one_eq_mod v n
  have o1 := Go.u64_and_nat v (p - 1) (by omega) (by omega)
  rw [show ((p - 1 : Nat) : Int) = (p : Int) - 1 by omega, hand] at o1
  clear hand hx0 hy0 hbE hrE hr hput hP hq hlow hn hm1 hN1 hlv hp
  go_enter Try.func63, Try.ntmps63
  go_wp2_with (first
    | (go_at_call 55; rw [← hW0]; refine hck.out.mono ?_; rintro e w1 ⟨rfl, hb1⟩; obtain ⟨c0, c1, c2, c3⟩ := (hx0'.out.below hb1 (by omega)).cells; have hb1' := Go.Lib.hid hb1; clear hb1 hW0)
    | (go_at_call 76; refine (hpa.out _).mono ?_; rintro e w2 ⟨rfl, rfl⟩)
    | (go_at_call 77; refine (hru.out _).mono ?_; rintro e w2 ⟨rfl, rfl⟩)
    | (go_at_call 92; refine (hun.out _ (hrE'.out.below hb1'.out (Nat.le_refl _))).mono ?_; rintro e w2 ⟨b2, cp2, rfl, hr2, hb2⟩; have hb12 := Go.Lib.hid (hb1'.out.trans (hb2.mono hb1'.out.size)); have hr2' := Go.Lib.hid hr2; have hxz := Go.Lib.hid (box1 w2 (.slice b2 m1 cp2) N1); clear hr2 hb2)
    | (go_at_call 79; refine (hlo.out _).mono ?_; rintro e w3 ⟨rfl, rfl⟩))
  have hbA := Go.Lib.hid (hb12.out.alloc hb12.out.size (.cells #[.slice b2 m1 cp2, .int .i64 N1] 45))
  have hrA := Go.Lib.hid (hr2'.out.below (below1 w2 (.cells #[.slice b2 m1 cp2, .int .i64 N1] 45)) (Nat.le_refl _))
  obtain ⟨z0, z1, z2, z3⟩ := hxz.out.cells
  clear c0 c1 c2 c3
  refine wp_region_ord (fun _ => True) [(0, 1), (1, 0), (2, 0), (3, 0), (4, 0), (5, 0), (6, 0), (7, 0), (8, 3), (9, 0), (10, 0), (11, 3), (12, 0)] (by kernel_rfl) (by kernel_rfl) ?hC0 ?_
  case hC0 => trivial
  simp only [pick, nth]
  (repeat (first | (apply wpW_light; (case h => (intro wa; (first | (go_big_quiet_skip; exact wpQuiet_nil rfl) | (go_big_quiet_want; go_big_quiet_op; go_big_quiet_on; exact wpQuiet_nil rfl))))) | (apply wpW_here; (case h => (first | (go_big_quiet_skip; exact wpQuiet_nil rfl) | (go_big_quiet_want; go_big_quiet_op; go_big_quiet_on; exact wpQuiet_nil rfl)))) | (apply wpW_held; (case hC => assumption); (case h => (intro wa hCa; simp only [] at hCa; (first | (go_big_quiet_skip; exact wpQuiet_nil rfl) | (go_big_quiet_want; go_big_quiet_op; go_big_quiet_on; exact wpQuiet_nil rfl)))))))
  refine wpW_act (fun QQ hQQ => ?_) (by rfl)
  go_wp2_with (go_at_call 61; refine (hpu.out _ _ _ (hrA.out.below (Below.refl _ _).drew (Nat.le_refl _))).mono ?_; rintro e w3 ⟨b3, m3, cp3, t3, x3, rfl, hp3, hb3⟩; have hb13 := hbA.out.drew.trans (hb3.mono hbA.out.drew.size); obtain ⟨e0, e1, f0, f1⟩ := (hy0'.out.below hb13 (by omega)).cells)
  refine hQQ _ _ trivial ?_
  (repeat (first | (apply wpW_light; (case h => (intro wa; (first | (go_big_quiet_skip; exact wpQuiet_nil rfl) | (go_big_quiet_want; go_big_quiet_op; go_big_quiet_on; exact wpQuiet_nil rfl))))) | (apply wpW_here; (case h => (first | (go_big_quiet_skip; exact wpQuiet_nil rfl) | (go_big_quiet_want; go_big_quiet_op; go_big_quiet_on; exact wpQuiet_nil rfl)))) | (apply wpW_held; (case hC => assumption); (case h => (intro wa hCa; simp only [] at hCa; (first | (go_big_quiet_skip; exact wpQuiet_nil rfl) | (go_big_quiet_want; go_big_quiet_op; go_big_quiet_on; exact wpQuiet_nil rfl)))))))
  refine wpW_act (fun QQ hQQ => ?_) (by rfl)
  go_wp2
  refine hQQ _ _ trivial ?_
  (repeat (first | (apply wpW_light; (case h => (intro wa; (first | (go_big_quiet_skip; exact wpQuiet_nil rfl) | (go_big_quiet_want; go_big_quiet_op; go_big_quiet_on; exact wpQuiet_nil rfl))))) | (apply wpW_here; (case h => (first | (go_big_quiet_skip; exact wpQuiet_nil rfl) | (go_big_quiet_want; go_big_quiet_op; go_big_quiet_on; exact wpQuiet_nil rfl)))) | (apply wpW_held; (case hC => assumption); (case h => (intro wa hCa; simp only [] at hCa; (first | (go_big_quiet_skip; exact wpQuiet_nil rfl) | (go_big_quiet_want; go_big_quiet_op; go_big_quiet_on; exact wpQuiet_nil rfl)))))))
  refine wpW_nil ?_
  go_wp2
  (try simp only [Exit.inBlock, Exit.then])
  have hy3 := hy0'.out.below hb13 (by omega)
  refine bodyPost_ret (results_box_tmp (by rfl) _ _ (W.heap.size + 1) _ _ rfl (hy3.set _ _)) rfl ?_
  refine ⟨b3, m3, cp3, t3, x3, by simp, hP'.out _ _ _ _ _ _ _ _ _ hp3 hy3, ?_⟩
  exact ((hbE'.out.trans (hb13.mono (by omega))).setCell (by simp) _).setCell (by simp) _

theorem PWrite_ok (W : World) (a : Option Addr) (len cap : Nat) (B : List Bool) (v k : Nat) (hr : Row .u8 W a len cap (pack B)) (hB : B.length + riceLen v k ≤ 330000) (hv : v < 4294967296) (hk : k ≤ 24) :
    Calls Try.prog 63 #[.agg #[.slice a len cap, .int .i64 B.length], .int .u32 v, .int .i64 k] W fun e W' => ∃ b c, e = .returned (.tuple #[.agg #[.slice b ((B.length + riceLen v k + 7) / 8) c, .int .i64 ((B.length + riceLen v k : Nat) : Int)], .int .i64 0]) ∧
      Row .u8 W' b ((B.length + riceLen v k + 7) / 8) c (pack (B ++ riceB v k)) ∧ Below W.heap.size W W' := by
  have hl : riceLen v k = runLen (partN v k) + lowN (partN v k) k := rfl
  have h2 := lowN_le (q := partN v k) hk
  refine (PWrite_put W a len cap B v k hr (by omega) hv hk (fun b m c t x w => t = B.length + riceLen v k ∧ x = 0 ∧ m = (B.length + riceLen v k + 7) / 8 ∧ Row .u8 w b m c (pack (B ++ riceB v k))) ?_ ?_).mono ?_
  · intro w b c hw
    have hrl := runB_len (partN_le v k)
    have := BPut_ok w b _ c (B ++ runB (partN v k)) (lowV v k) (lowN (partN v k) k) hw (by rw [List.length_append, hrl]; omega) (by omega) (lowV_lt v k)
    rw [List.length_append, hrl, List.append_assoc] at this
    refine this.mono ?_
    rintro e w1 ⟨b, c, rfl, h1, h2⟩
    rw [Nat.add_assoc B.length, ← hl] at h1
    exact ⟨b, _, c, _, 0, rfl, ⟨by rw [hl]; omega, rfl, by rw [Nat.add_assoc B.length, ← hl], by rw [Nat.add_assoc B.length, ← hl]; exact h1⟩, h2⟩
  · rintro b m c t x w y N N' ⟨h1, h2, h3, h4⟩ hx
    exact ⟨h1, h2, h3, (h4.box hx 0 _).box (hx.set0 _) 1 _⟩
  · rintro e w1 ⟨b, m, c, t, x, rfl, ⟨rfl, rfl, rfl, h4⟩, h2⟩
    exact ⟨b, c, rfl, h4, h2⟩

theorem PWrite_fullrun (W : World) (a : Option Addr) (len cap : Nat) (B : List Bool) (v k : Nat) (hr : Row .u8 W a len cap (pack B)) (hB : B.length ≤ 330000) (hf : 330000 < B.length + runLen (partN v k)) (hv : v < 4294967296) (hk : k ≤ 24) :
    Calls Try.prog 63 #[.agg #[.slice a len cap, .int .i64 B.length], .int .u32 v, .int .i64 k] W fun e W' => e = .returned (.tuple #[.agg #[.slice none 0 0, .int .i64 0], .int .i64 18]) ∧ Below W.heap.size W W' := by
  obtain ⟨W0, hW0, hbE, hs0, hx0, hy0⟩ := two_boxes W (.slice a len cap) B.length
  have hrE := hr.below hbE (Nat.le_refl _)
  have hck := Go.Lib.hid (BCheck_any W0 a len cap B.length (pack B) hrE (bounds_of_len (by omega)) 0 (.inl ⟨⟨B, rfl, by omega, rfl⟩, rfl⟩))
  have hpa := Go.Lib.hid fun w => PisParameter_ok w k hk
  have hru := Go.Lib.hid fun w => PrunOf_ok w v k hv hk
  have hun := Go.Lib.hid fun w hw => UWrite_full w a len cap B (partN v k) hw hB hf (partN_le v k)
  have hx0' := Go.Lib.hid hx0
  have hy0' := Go.Lib.hid hy0
  have hbE' := Go.Lib.hid hbE
  have hrE' := Go.Lib.hid hrE
  obtain ⟨q, hq⟩ : ∃ q, q = partN v k := ⟨_, rfl⟩
  rw [← hq] at hru hun
  clear hx0 hy0 hbE hrE hr hq hf
  go_enter Try.func63, Try.ntmps63
  go_wp2_with (first
    | (go_at_call 55; rw [← hW0]; refine hck.out.mono ?_; rintro e w1 ⟨rfl, hb1⟩; obtain ⟨c0, c1, c2, c3⟩ := (hx0'.out.below hb1 (by omega)).cells; have hb1' := Go.Lib.hid hb1; clear hb1 hW0)
    | (go_at_call 76; refine (hpa.out _).mono ?_; rintro e w2 ⟨rfl, rfl⟩)
    | (go_at_call 77; refine (hru.out _).mono ?_; rintro e w2 ⟨rfl, rfl⟩)
    | (go_at_call 92; refine (hun.out _ (hrE'.out.below hb1'.out (Nat.le_refl _))).mono ?_; rintro e w2 ⟨rfl, hb2⟩; have hb12 := Go.Lib.hid (hb1'.out.trans (hb2.mono hb1'.out.size)); have hy2 := Go.Lib.hid (hy0'.out.below hb12.out (by omega)); obtain ⟨e0, e1, f0, f1⟩ := hy2.out.cells; have hyl := hy2.out.lt; have hyn : ¬ W.heap.size + 1 = w2.heap.size := (by omega); clear hb2))
  (try simp only [Exit.inBlock, Exit.then])
  refine bodyPost_ret (results_box_tmp (by rfl) _ _ (W.heap.size + 1) _ _ rfl ((hy2.out.set _ _).alloc _)) rfl ?_
  have hz := ((hbE'.out.trans (hb12.out.mono (by omega))).setCell (p := ⟨W.heap.size + 1, 0, none⟩) (by simp) (.slice none 0 0)).setCell (p := ⟨W.heap.size + 1, 1, none⟩) (by simp) (.int .i64 0)
  exact ⟨rfl, hz.alloc hz.size _⟩

theorem PWrite_full (W : World) (a : Option Addr) (len cap : Nat) (B : List Bool) (v k : Nat) (hr : Row .u8 W a len cap (pack B)) (hB : B.length ≤ 330000) (hf : 330000 < B.length + riceLen v k) (hv : v < 4294967296) (hk : k ≤ 24) :
    Calls Try.prog 63 #[.agg #[.slice a len cap, .int .i64 B.length], .int .u32 v, .int .i64 k] W fun e W' => e = .returned (.tuple #[.agg #[.slice none 0 0, .int .i64 0], .int .i64 18]) ∧ Below W.heap.size W W' := by
  have hl : riceLen v k = runLen (partN v k) + lowN (partN v k) k := rfl
  have h2 := lowN_le (q := partN v k) hk
  by_cases hrun : 330000 < B.length + runLen (partN v k)
  · exact PWrite_fullrun W a len cap B v k hr hB hrun hv hk
  refine (PWrite_put W a len cap B v k hr (by omega) hv hk (fun b m c t x w => t = 0 ∧ x = 18 ∧ m = 0 ∧ b = none ∧ c = 0) ?_ ?_).mono ?_
  · intro w b c hw
    have hrl := runB_len (partN_le v k)
    have := BPut_full w b _ c (B ++ runB (partN v k)) (lowV v k) (lowN (partN v k) k) hw (by rw [List.length_append, hrl]; omega) (by rw [List.length_append, hrl]; omega) (by omega) (lowV_lt v k)
    rw [List.length_append, hrl] at this
    refine this.mono ?_
    rintro e w1 ⟨rfl, h2⟩
    exact ⟨none, 0, 0, 0, 18, rfl, ⟨rfl, rfl, rfl, rfl, rfl⟩, h2⟩
  · intro b m c t x w y N N' h _
    exact h
  · rintro e w1 ⟨b, m, c, t, x, rfl, ⟨rfl, rfl, rfl, rfl, rfl⟩, h2⟩
    exact ⟨rfl, h2⟩
end Go.Proofs.Ythbjcjphplgobaa

/- Contracts of the package rice: Read. -/
namespace Go.Proofs.Ythbjcjphplgobaa
open Go.RowKit Cad

theorem PRead_bad (W : World) (a : Option Addr) (len cap : Nat) (N : Int) (l : List Int) (i k : Int) (hr : Row .u8 W a len cap l) (hN : (Lit.int .i64 N).wf = true) (hv : ¬ Valid l N) :
    Calls Try.prog 99 #[.agg #[.slice a len cap, .int .i64 N], .int .i64 i, .int .i64 k] W fun e W' => e = .returned (.tuple #[.int .u32 0, .int .i64 0, .int .i64 8]) ∧ Below W.heap.size W W' := by
  have hbE' := Go.Lib.hid (below1 W (.cells #[.slice a len cap, .int .i64 N] 45))
  have hck := Go.Lib.hid (BCheck_any _ a len cap N l (hr.below hbE'.out (Nat.le_refl _)) hN 8 (.inr ⟨hv, rfl⟩))
  clear hr hN hv
  go_enter Try.func99, Try.ntmps99
  go_wp2_with (go_at_call 55; refine hck.out.mono ?_; rintro e w1 ⟨rfl, hb1⟩; have hb1' := Go.Lib.hid hb1; clear hb1)
  go_ret3
  exact ⟨rfl, hbE'.out.trans (hb1'.out.mono (by simp))⟩
theorem PRead_arg (W : World) (a : Option Addr) (len cap : Nat) (N : Int) (l : List Int) (i k : Int) (hr : Row .u8 W a len cap l) (hN : (Lit.int .i64 N).wf = true) (hv : Valid l N) (hk : (Lit.int .i64 k).wf = true) (h : k < 0 ∨ 24 < k) :
    Calls Try.prog 99 #[.agg #[.slice a len cap, .int .i64 N], .int .i64 i, .int .i64 k] W fun e W' => e = .returned (.tuple #[.int .u32 0, .int .i64 0, .int .i64 2]) ∧ Below W.heap.size W W' := by
  have hbE' := Go.Lib.hid (below1 W (.cells #[.slice a len cap, .int .i64 N] 45))
  have hck := Go.Lib.hid (BCheck_any _ a len cap N l (hr.below hbE'.out (Nat.le_refl _)) hN 0 (.inl ⟨hv, rfl⟩))
  have hpa := Go.Lib.hid fun w => PisParameter_no w k hk h
  clear hr hN hv hk h
  go_enter Try.func99, Try.ntmps99
  go_wp2_with (first
    | (go_at_call 55; refine hck.out.mono ?_; rintro e w1 ⟨rfl, hb1⟩; have hb1' := Go.Lib.hid hb1; clear hb1)
    | (go_at_call 76; refine (hpa.out _).mono ?_; rintro e w2 ⟨rfl, rfl⟩))
  go_ret3
  exact ⟨rfl, hbE'.out.trans (hb1'.out.mono (by simp))⟩
/-- the run is not read -/
theorem PRead_norun (W : World) (a : Option Addr) (len cap : Nat) (N : Int) (l : List Int) (i : Int) (k : Nat) (er : Int) (her : er = 2 ∨ er = 24) (hr : Row .u8 W a len cap l) (hN : (Lit.int .i64 N).wf = true) (hv : Valid l N) (hk : k ≤ 24)
    (hun : ∀ w, Row .u8 w a len cap l → Calls Try.prog 105 #[.agg #[.slice a len cap, .int .i64 N], .int .i64 i] w fun e W' => e = .returned (.tuple #[.int .i64 0, .int .i64 0, .int .i64 er]) ∧ Below w.heap.size w W') :
    Calls Try.prog 99 #[.agg #[.slice a len cap, .int .i64 N], .int .i64 i, .int .i64 k] W fun e W' => e = .returned (.tuple #[.int .u32 0, .int .i64 0, .int .i64 er]) ∧ Below W.heap.size W W' := by
  have hbE' := Go.Lib.hid (below1 W (.cells #[.slice a len cap, .int .i64 N] 45))
  have hx0' := Go.Lib.hid (box1 W (.slice a len cap) N)
  have hrE' := Go.Lib.hid (hr.below hbE'.out (Nat.le_refl _))
  have hck := Go.Lib.hid (BCheck_any _ a len cap N l hrE'.out hN 0 (.inl ⟨hv, rfl⟩))
  have hpa := Go.Lib.hid fun w => PisParameter_ok w k hk
  have hun' := Go.Lib.hid hun
  have hne' : (er != 0) = true := by rcases her with rfl | rfl <;> rfl
  clear hr hN hv hun her
  go_enter Try.func99, Try.ntmps99
  go_wp2_with (first
    | (go_at_call 55; refine hck.out.mono ?_; rintro e w1 ⟨rfl, hb1⟩; obtain ⟨c0, c1, c2, c3⟩ := (hx0'.out.below hb1 (by simp)).cells; have hb1' := Go.Lib.hid hb1; clear hb1)
    | (go_at_call 76; refine (hpa.out _).mono ?_; rintro e w2 ⟨rfl, rfl⟩)
    | (go_at_call 105; refine (hun'.out _ (hrE'.out.below hb1'.out (Nat.le_refl _))).mono ?_; rintro e w3 ⟨rfl, hb3⟩; have hb13 := Go.Lib.hid (hb1'.out.trans (hb3.mono hb1'.out.size)); clear hb3))
  go_ret3
  exact ⟨rfl, hbE'.out.trans (hb13.out.mono (by simp))⟩

theorem or_add {low q k : Nat} (h : low < 2 ^ k) : low ||| q * 2 ^ k = q * 2 ^ k + low := by
  rw [Nat.mul_comm, Nat.two_pow_add_eq_or_of_lt h, Nat.or_comm]

set_option maxHeartbeats 800000 in
theorem PRead_in (W : World) (a : Option Addr) (len cap : Nat) (B : List Bool) (i k : Nat) (hr : Row .u8 W a len cap (pack B)) (hB : B.length ≤ 330000) (hi : i ≤ B.length) (hk : k ≤ 24) (v p er : Nat) (hv : readR B i k = (v, p, er)) :
    Calls Try.prog 99 #[.agg #[.slice a len cap, .int .i64 B.length], .int .i64 i, .int .i64 k] W fun e W' => e = .returned (.tuple #[.int .u32 v, .int .i64 p, .int .i64 er]) ∧ Below W.heap.size W W' := by
  have hval : Valid (pack B) B.length := ⟨B, rfl, hB, rfl⟩
  obtain ⟨q, m, e, hrv⟩ : ∃ q m e, readV B i = (q, m, e) := ⟨_, _, _, rfl⟩
  by_cases he : e = 0
  case neg =>
    obtain ⟨rfl, rfl, rfl, -, -⟩ := read_no hrv he hi
    rw [readR_no hrv he] at hv
    cases hv
    exact PRead_norun W a len cap B.length (pack B) i k 24 (.inr rfl) hr (bounds_of_len (by omega)) hval hk fun w hw => by
      by_cases h : i < B.length
      · exact URead_in w a len cap B i hw hB h 0 0 24 hrv
      · exact URead_no w a len cap B.length i 24 (bounds_of_len (by omega)) (.inr (.inr rfl)) fun w' hw' => BGet_short w' a len cap B.length (pack B) i 1 (hw.below hw' (Nat.le_refl _)) (bounds_of_len (by omega)) hval (by omega) (by omega) (by omega)
  subst he
  obtain ⟨hq, -, hm, hmB, -⟩ := read_is hrv hi
  have hlt : i < B.length := by have := runLen_pos q; omega
  have hbE' := Go.Lib.hid (below1 W (.cells #[.slice a len cap, .int .i64 B.length] 45))
  have hx0' := Go.Lib.hid (box1 W (.slice a len cap) B.length)
  have hrE' := Go.Lib.hid (hr.below hbE'.out (Nat.le_refl _))
  have hck := Go.Lib.hid (BCheck_any _ a len cap B.length (pack B) hrE'.out (bounds_of_len (by omega)) 0 (.inl ⟨hval, rfl⟩))
  have hpa := Go.Lib.hid fun w => PisParameter_ok w k hk
  have hlo := Go.Lib.hid fun w => PlowBits_ok w q k hq hk
  have hun := Go.Lib.hid fun w hw => URead_in w a len cap B i hw hB hlt q m 0 hrv
  have h2 := lowN_le (q := q) hk
  obtain ⟨n, hn⟩ : ∃ n, n = lowN q k := ⟨_, rfl⟩
  rw [← hn] at hlo h2
  by_cases hs : B.length < m + n
  · rw [readR_short hrv (by omega)] at hv
    cases hv
    have hg := Go.Lib.hid fun w hw => BGet_short w a len cap B.length (pack B) m n hw (bounds_of_len (by omega)) hval (by omega) (by omega) (by omega)
    clear hr hval hn hm hrv
    go_enter Try.func99, Try.ntmps99
    go_wp2_with (first
      | (go_at_call 55; refine hck.out.mono ?_; rintro e w1 ⟨rfl, hb1⟩; obtain ⟨c0, c1, c2, c3⟩ := (hx0'.out.below hb1 (by simp)).cells; have hb1' := Go.Lib.hid hb1; clear hb1)
      | (go_at_call 76; refine (hpa.out _).mono ?_; rintro e w2 ⟨rfl, rfl⟩)
      | (go_at_call 79; refine (hlo.out _).mono ?_; rintro e w2 ⟨rfl, rfl⟩)
      | (go_at_call 105; refine (hun.out _ (hrE'.out.below hb1'.out (Nat.le_refl _))).mono ?_; rintro e w3 ⟨rfl, hb3⟩; have hb13 := Go.Lib.hid (hb1'.out.trans (hb3.mono hb1'.out.size)); obtain ⟨d0, d1, d2, d3⟩ := (hx0'.out.below hb13.out (by simp)).cells; clear hb3)
      | (go_at_call 98; refine (hg.out _ (hrE'.out.below hb13.out (Nat.le_refl _))).mono ?_; rintro e w4 ⟨rfl, hb4⟩; have hb14 := Go.Lib.hid (hb13.out.trans (hb4.mono hb13.out.size)); clear hb4))
    go_ret3
    exact ⟨rfl, hbE'.out.trans (hb14.out.mono (by simp))⟩
  have hg := Go.Lib.hid fun w hw => BGet_ok w a len cap B m n hw hB (by omega) (by omega)
  have hlow : natB (midB B m (m + n)) < 2 ^ n := by
    have := natB_lt (midB B m (m + n))
    rw [midB_len B (show m ≤ m + n by omega) (by omega), show m + n - m = n by omega] at this
    exact this
  have hp32 : 2 ^ n ≤ 4294967296 := Nat.le_trans (Nat.pow_le_pow_right (n := 2) (by decide) h2) (by decide)
  have hless : ∀ (_ : q < 48), n = k ∧ readR B i k = (q * 2 ^ k + natB (midB B m (m + n)), m + n, 0) := fun h => by
    have e : n = k := by rw [hn]; exact if_pos h
    exact ⟨e, by rw [e]; exact readR_less hrv (by omega) h⟩
  have hform : ∀ (_ : q = 48) (_ : partN (natB (midB B m (m + n))) k ≠ 48), readR B i k = (0, 0, 12) := fun h h' => by
    subst h
    have e : n = 32 := hn
    rw [e] at h'
    exact readR_form hrv (by omega) h'
  have hfull : ∀ (_ : q = 48) (_ : partN (natB (midB B m (m + n))) k = 48), readR B i k = (natB (midB B m (m + n)), m + n, 0) := fun h h' => by
    subst h
    have e : n = 32 := hn
    rw [e] at h' ⊢
    exact readR_full hrv (by omega) h'
  obtain ⟨low, hl⟩ : ∃ low, low = natB (midB B m (m + n)) := ⟨_, rfl⟩
  rw [← hl] at hg hlow hless hform hfull
  have hlow32 : low < 4294967296 := by omega
  have hmI : (m : Int) + (n : Int) = ((m + n : Nat) : Int) := by omega
  have hmb : m + n ≤ 330000 := by omega
  obtain ⟨t, ht⟩ : ∃ t, t = m + n := ⟨_, rfl⟩
  rw [← ht] at hmI hmb
  by_cases h48 : q < 48
  · obtain ⟨hnk, h1⟩ := hless h48
    rw [hv, ← ht] at h1
    cases h1
    rw [hnk] at hlow
    have hp := partN_of h48 hlow
    have hlt := less_lt hk h48 hlow
    have hor := or_add (q := q) hlow
    have hru := Go.Lib.hid fun w => PrunOf_ok w (q * 2 ^ k + low) k hlt hk
    rw [hp] at hru
    obtain ⟨x, hx⟩ : ∃ x, x = q * 2 ^ k := ⟨_, rfl⟩
    rw [← hx] at hru hor hlt ⊢
    have e1 : (q : Int) * 2 ^ k = (x : Int) := by rw [hx]; simp
    have o1 := Go.u32_or_nat low x hlow32 (by omega)
    rw [hor] at o1
    have hq48 : (q : Int) < 48 := by omega
    have hkI : (k : Int) ≤ 24 := by omega
    clear hr hval hn hm hrv hless hform hfull hor hx hp hnk hv hlow hp32 hl ht hs
    go_enter Try.func99, Try.ntmps99
    go_wp2_with (first
      | (go_at_call 55; refine hck.out.mono ?_; rintro e w1 ⟨rfl, hb1⟩; obtain ⟨c0, c1, c2, c3⟩ := (hx0'.out.below hb1 (by simp)).cells; have hb1' := Go.Lib.hid hb1; clear hb1)
      | (go_at_call 76; refine (hpa.out _).mono ?_; rintro e w2 ⟨rfl, rfl⟩)
      | (go_at_call 79; refine (hlo.out _).mono ?_; rintro e w2 ⟨rfl, rfl⟩)
      | (go_at_call 105; refine (hun.out _ (hrE'.out.below hb1'.out (Nat.le_refl _))).mono ?_; rintro e w3 ⟨rfl, hb3⟩; have hb13 := Go.Lib.hid (hb1'.out.trans (hb3.mono hb1'.out.size)); obtain ⟨d0, d1, d2, d3⟩ := (hx0'.out.below hb13.out (by simp)).cells; clear hb3)
      | (go_at_call 98; refine (hg.out _ (hrE'.out.below hb13.out (Nat.le_refl _))).mono ?_; rintro e w4 ⟨rfl, hb4⟩; have hb14 := Go.Lib.hid (hb13.out.trans (hb4.mono hb13.out.size)); clear hb4)
      | (go_at_call 77; refine (hru.out _).mono ?_; rintro e w2 ⟨rfl, rfl⟩))
    go_ret3
    exact ⟨by go_num, hbE'.out.trans (hb14.out.mono (by simp))⟩
  · obtain rfl : q = 48 := by omega
    have hru := Go.Lib.hid fun w => PrunOf_ok w low k hlow32 hk
    by_cases hpp : partN low k = 48
    · have h1 := hfull rfl hpp
      rw [hv, ← ht] at h1
      cases h1
      rw [hpp] at hru
      clear hr hval hn hm hrv hless hform hfull hv hlow hp32 hl ht hs hpp
      go_enter Try.func99, Try.ntmps99
      go_wp2_with (first
        | (go_at_call 55; refine hck.out.mono ?_; rintro e w1 ⟨rfl, hb1⟩; obtain ⟨c0, c1, c2, c3⟩ := (hx0'.out.below hb1 (by simp)).cells; have hb1' := Go.Lib.hid hb1; clear hb1)
        | (go_at_call 76; refine (hpa.out _).mono ?_; rintro e w2 ⟨rfl, rfl⟩)
        | (go_at_call 79; refine (hlo.out _).mono ?_; rintro e w2 ⟨rfl, rfl⟩)
        | (go_at_call 105; refine (hun.out _ (hrE'.out.below hb1'.out (Nat.le_refl _))).mono ?_; rintro e w3 ⟨rfl, hb3⟩; have hb13 := Go.Lib.hid (hb1'.out.trans (hb3.mono hb1'.out.size)); obtain ⟨d0, d1, d2, d3⟩ := (hx0'.out.below hb13.out (by simp)).cells; clear hb3)
        | (go_at_call 98; refine (hg.out _ (hrE'.out.below hb13.out (Nat.le_refl _))).mono ?_; rintro e w4 ⟨rfl, hb4⟩; have hb14 := Go.Lib.hid (hb13.out.trans (hb4.mono hb13.out.size)); clear hb4)
        | (go_at_call 77; refine (hru.out _).mono ?_; rintro e w2 ⟨rfl, rfl⟩))
      go_ret3
      exact ⟨by go_num, hbE'.out.trans (hb14.out.mono (by simp))⟩
    · have h1 := hform rfl hpp
      rw [hv] at h1
      cases h1
      have hpl := partN_le low k
      obtain ⟨r, hrr⟩ : ∃ r, r = partN low k := ⟨_, rfl⟩
      rw [← hrr] at hru hpp hpl
      have hr48 : ((r : Int) != 48) = true := by simp; omega
      clear hr hval hn hm hrv hless hform hfull hv hlow hp32 hl ht hs hrr
      go_enter Try.func99, Try.ntmps99
      go_wp2_with (first
        | (go_at_call 55; refine hck.out.mono ?_; rintro e w1 ⟨rfl, hb1⟩; obtain ⟨c0, c1, c2, c3⟩ := (hx0'.out.below hb1 (by simp)).cells; have hb1' := Go.Lib.hid hb1; clear hb1)
        | (go_at_call 76; refine (hpa.out _).mono ?_; rintro e w2 ⟨rfl, rfl⟩)
        | (go_at_call 79; refine (hlo.out _).mono ?_; rintro e w2 ⟨rfl, rfl⟩)
        | (go_at_call 105; refine (hun.out _ (hrE'.out.below hb1'.out (Nat.le_refl _))).mono ?_; rintro e w3 ⟨rfl, hb3⟩; have hb13 := Go.Lib.hid (hb1'.out.trans (hb3.mono hb1'.out.size)); obtain ⟨d0, d1, d2, d3⟩ := (hx0'.out.below hb13.out (by simp)).cells; clear hb3)
        | (go_at_call 98; refine (hg.out _ (hrE'.out.below hb13.out (Nat.le_refl _))).mono ?_; rintro e w4 ⟨rfl, hb4⟩; have hb14 := Go.Lib.hid (hb13.out.trans (hb4.mono hb13.out.size)); clear hb4)
        | (go_at_call 77; refine (hru.out _).mono ?_; rintro e w2 ⟨rfl, rfl⟩))
      go_ret3
      exact ⟨rfl, hbE'.out.trans (hb14.out.mono (by simp))⟩

theorem PRead_out (W : World) (a : Option Addr) (len cap : Nat) (N : Int) (l : List Int) (i er : Int) (k : Nat) (hr : Row .u8 W a len cap l) (hN : (Lit.int .i64 N).wf = true) (hi : (Lit.int .i64 i).wf = true) (hv : Valid l N) (hk : k ≤ 24) (h : (i < 0 ∧ er = 2) ∨ (¬ i < 0 ∧ N ≤ i ∧ er = 24)) :
    Calls Try.prog 99 #[.agg #[.slice a len cap, .int .i64 N], .int .i64 i, .int .i64 k] W fun e W' => e = .returned (.tuple #[.int .u32 0, .int .i64 0, .int .i64 er]) ∧ Below W.heap.size W W' :=
  PRead_norun W a len cap N l i k er (by omega) hr hN hv hk fun w hw => URead_no w a len cap N i er hi (by omega) fun w' hw' => by
    rcases h with ⟨h, rfl⟩ | ⟨h, h', rfl⟩
    · exact BGet_arg w' a len cap N l i 1 (hw.below hw' (Nat.le_refl _)) hN hv (by omega) h
    · exact BGet_short w' a len cap N l i 1 (hw.below hw' (Nat.le_refl _)) hN hv (by omega) h (by omega)
end Go.Proofs.Ythbjcjphplgobaa
