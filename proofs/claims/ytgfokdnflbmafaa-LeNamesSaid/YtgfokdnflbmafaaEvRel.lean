/- The evaluator's values and memory, and the model's: what is said of both. -/
import Derived.Test.YtgfokdnflbmafaaEvDef
import Derived.Test.YtgfokdnflbmafaaKit
namespace Go.Proofs.Ytgfokdnflbmafaa.Ev
open Go Go.RowKit

/-- where a block of the evaluator lies: its number, how many cells it has, how many cells an element has -/
structure Pl where
  b : Nat
  sz : Nat
  es : Nat

def LR (R : Value → Value → Prop) (a b : List Value) : Prop := a.length = b.length ∧ ∀ (i : Nat) (x y : Value), a[i]? = some x → b[i]? = some y → R x y

def SR (p : Nat → Pl) (n : Nat) (v w : Value) : Prop :=
  match v with
  | .bool b => w = .bool b
  | .int k x => w = .int k x
  | .string s => w = .string s
  | .pointer none => w = .pointer none
  | .pointer (some ⟨b, o, none⟩) => b < n ∧ w = .pointer (some ⟨(p b).b, o, none⟩)
  | .slice none l c => l = 0 ∧ c = 0 ∧ w = .slice none 0 0
  | .slice (some ⟨b, o, none⟩) l c =>
    if b = OPEN then l = 0 ∧ ∃ x c', w = .slice (some x) 0 c' else
    b < n ∧ if c = OPEN then ∃ c', w = .slice (some ⟨(p b).b, o, none⟩) l c' ∧ l ≤ c' ∧ c' ≤ maxLen ∧ (o = 0 → c' * (p b).es = (p b).sz) else l ≤ c ∧ w = .slice (some ⟨(p b).b, o, none⟩) l c
  | .func fn a b => a = #[] ∧ b = #[] ∧ w = .func fn #[] #[]
  | _ => False
def VR1 (p : Nat → Pl) (n : Nat) (v w : Value) : Prop :=
  match v with
  | .agg l => ∃ l', w = .agg l' ∧ LR (SR p n) l.toList l'.toList
  | v => SR p n v w
def VR (p : Nat → Pl) (n : Nat) (v w : Value) : Prop :=
  match v with
  | .tuple l => ∃ l', w = .tuple l' ∧ LR (VR1 p n) l.toList l'.toList
  | v => VR1 p n v w

/-- p' is p for the blocks below n -/
def Ext (p p' : Nat → Pl) (n n' : Nat) : Prop := n ≤ n' ∧ ∀ i, i < n → p' i = p i
theorem Ext.refl (p : Nat → Pl) (n : Nat) : Ext p p n n := ⟨Nat.le_refl _, fun _ _ => rfl⟩
theorem Ext.trans {p p' p'' : Nat → Pl} {n n' n'' : Nat} (h : Ext p p' n n') (k : Ext p' p'' n' n'') : Ext p p'' n n'' :=
  ⟨Nat.le_trans h.1 k.1, fun i hi => (k.2 i (Nat.lt_of_lt_of_le hi h.1)).trans (h.2 i hi)⟩

theorem LR.mono {R R' : Value → Value → Prop} {a b : List Value} (h : LR R a b) (hr : ∀ x y, R x y → R' x y) : LR R' a b := ⟨h.1, fun i x y hx hy => hr _ _ (h.2 i x y hx hy)⟩
theorem SR.mono {p p' : Nat → Pl} {n n' : Nat} (he : Ext p p' n n') {v w : Value} (h : SR p n v w) : SR p' n' v w := by
  unfold SR at h ⊢
  split at h
  all_goals (try exact h)
  · exact ⟨Nat.lt_of_lt_of_le h.1 he.1, by rw [he.2 _ h.1]; exact h.2⟩
  · split at h
    · rename_i hb; rw [if_pos hb]; exact h
    · rename_i hb; rw [if_neg hb]
      exact ⟨Nat.lt_of_lt_of_le h.1 he.1, by rw [he.2 _ h.1]; exact h.2⟩
theorem VR1.mono {p p' : Nat → Pl} {n n' : Nat} (he : Ext p p' n n') {v w : Value} (h : VR1 p n v w) : VR1 p' n' v w := by
  unfold VR1 at h ⊢
  split at h
  · obtain ⟨l', e, hl⟩ := h; exact ⟨l', e, hl.mono fun _ _ => SR.mono he⟩
  · exact SR.mono he h
theorem VR.mono {p p' : Nat → Pl} {n n' : Nat} (he : Ext p p' n n') {v w : Value} (h : VR p n v w) : VR p' n' v w := by
  unfold VR at h ⊢
  split at h
  · obtain ⟨l', e, hl⟩ := h; exact ⟨l', e, hl.mono fun _ _ => VR1.mono he⟩
  · exact VR1.mono he h

/-- what the memory of the evaluator is in the world -/
structure BlkR (p : Nat → Pl) (n : Nat) (w : World) (i : Nat) (b : Blk) : Prop where
  es : (p i).es = b.es
  ex : ∃ cur, w.heap[(p i).b]? = some (.cells cur b.e (0, 0)) ∧ cur.size = (p i).sz ∧ b.cells.length ≤ cur.size ∧ (b.opn = false → b.cells.length = cur.size) ∧ LR (SR p n) b.cells (cur.toList.take b.cells.length)

structure Rel (W0 : World) (p : Nat → Pl) (h : Hp) (w : World) : Prop where
  bel : Below W0.heap.size W0 w
  live : ∀ i b, h.t.get i = some b → i < h.n ∧ W0.heap.size ≤ (p i).b ∧ BlkR p h.n w i b
  inj : ∀ i j b c, h.t.get i = some b → h.t.get j = some c → (p i).b = (p j).b → i = j
  small : h.n ≤ OPEN

def TR (p : Nat → Pl) (n : Nat) (T : Tr Value) (tmps : Array Value) (N : Nat) : Prop :=
  tmps.size = N ∧ ∀ i v, T.get i = some v → ∃ w, tmps[i]? = some w ∧ VR p n v w
theorem TR.mono {p p' : Nat → Pl} {n n' : Nat} (he : Ext p p' n n') {T : Tr Value} {tmps : Array Value} {N : Nat} (h : TR p n T tmps N) : TR p' n' T tmps N :=
  ⟨h.1, fun i v hv => let ⟨w, h1, h2⟩ := h.2 i v hv; ⟨w, h1, h2.mono he⟩⟩

theorem TR.put {p : Nat → Pl} {n : Nat} {T : Tr Value} {tmps : Array Value} {N d f : Nat} (h : TR p n T tmps N) {v : Option Value} {w : Value} (hd : d < N) (hv : ∀ x, v = some x → VR p n x w) :
    TR p n (Tr.set f T d v) (tmps.setIfInBounds d w) N := by
  refine ⟨by simp [h.1], fun i x hx => ?_⟩
  rcases Tr.get_set f T d v i x hx with ⟨rfl, hv'⟩ | ⟨hne, hv'⟩
  · exact ⟨w, by rw [Array.getElem?_setIfInBounds_self_of_lt (by rw [h.1]; exact hd)], hv x hv'⟩
  · obtain ⟨y, h1, h2⟩ := h.2 i x hv'
    exact ⟨y, by rw [Array.getElem?_setIfInBounds_ne hne]; exact h1, h2⟩

theorem constOk_ok {p : Nat → Pl} {n : Nat} {v : Value} (h : constOk v = true) : VR p n v v := by
  unfold constOk at h
  split at h
  all_goals first | rfl | exact ⟨rfl, rfl, rfl⟩ | cases h
/-- the values of operands -/
theorem val_ok {p : Nat → Pl} {n : Nat} {T : Tr Value} {a : Act} {N : Nat} (h : TR p n T a.tmps N) {x : Operand} {v : Value} (hv : val T x = some v) : VR p n v (a.eval x) := by
  cases x with
  | tmp i =>
    obtain ⟨w, h1, h2⟩ := h.2 i v hv
    simp only [Act.eval, Array.getD_eq_getD_getElem?, h1, Option.getD_some]
    exact h2
  | const c =>
    simp only [val, Bool.cond_eq_ite] at hv
    split at hv
    · rename_i hc; cases hv; exact constOk_ok hc
    · cases hv
  | global g => simp [val] at hv
  | func f =>
    simp only [val, Option.some.injEq] at hv
    subst hv
    exact ⟨rfl, rfl, rfl⟩

theorem LR.nil (R : Value → Value → Prop) : LR R [] [] := ⟨rfl, by simp⟩
theorem LR.cons {R : Value → Value → Prop} {x y : Value} {a b : List Value} (h : R x y) (t : LR R a b) : LR R (x :: a) (y :: b) := by
  refine ⟨by simp [t.1], fun i u v hu hv => ?_⟩
  cases i with
  | zero => simp at hu hv; subst hu hv; exact h
  | succ i => exact t.2 i u v (by simpa using hu) (by simpa using hv)
theorem LR.uncons {R : Value → Value → Prop} {x : Value} {a b : List Value} (h : LR R (x :: a) b) : ∃ y b', b = y :: b' ∧ R x y ∧ LR R a b' := by
  match b, h with
  | [], h => exact absurd h.1 (by simp)
  | y :: b', h => exact ⟨y, b', rfl, h.2 0 x y rfl rfl, by simpa using h.1, fun i u v hu hv => h.2 (i + 1) u v (by simpa using hu) (by simpa using hv)⟩
theorem LR.take {R : Value → Value → Prop} {a b : List Value} (h : LR R a b) (n : Nat) : LR R (a.take n) (b.take n) := by
  refine ⟨by simp [h.1], fun i u v hu hv => ?_⟩
  rw [List.getElem?_take] at hu hv
  split at hu
  · rename_i hi; rw [if_pos hi] at hv; exact h.2 i u v hu hv
  · cases hu
theorem LR.drop {R : Value → Value → Prop} {a b : List Value} (h : LR R a b) (n : Nat) : LR R (a.drop n) (b.drop n) := by
  refine ⟨by simp [h.1], fun i u v hu hv => ?_⟩
  rw [List.getElem?_drop] at hu hv
  exact h.2 _ u v hu hv
theorem LR.append {R : Value → Value → Prop} {a b c d : List Value} (h : LR R a b) (k : LR R c d) : LR R (a ++ c) (b ++ d) := by
  refine ⟨by simp [h.1, k.1], fun i u v hu hv => ?_⟩
  by_cases hi : i < a.length
  · rw [List.getElem?_append_left hi] at hu
    rw [List.getElem?_append_left (by rw [← h.1]; exact hi)] at hv
    exact h.2 i u v hu hv
  · rw [List.getElem?_append_right (by omega)] at hu
    rw [List.getElem?_append_right (by rw [← h.1]; omega), ← h.1] at hv
    exact k.2 _ u v hu hv
end Go.Proofs.Ytgfokdnflbmafaa.Ev
