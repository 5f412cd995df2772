/- A plain evaluator for Go text that takes no input: it runs a function over memory of its own. (That what it says is what the model says is proved in the texts behind this one.) -/
import Derived.Test.YtgfokdnflbmafaaRows
import Derived.WalkKit
import Derived.ProofKit
import Derived.OwnWalk
import Derived.ArgAppend
import Derived.StillTailTactics
namespace Go.Proofs.Ytgfokdnflbmafaa.Ev
open Go

/-- the capacity of a slice that goes on to the end of its block, whose size is not known -/
def OPEN : Nat := 4611686018427387904

/-! ### trees of values -/
inductive Tr (α : Type) where
  | nil
  | node (v : Option α) (l r : Tr α)

/-- (by the recursor itself, and by the numbers' own functions: the kernel runs it) -/
noncomputable def Tr.get {α : Type} (t : Tr α) : Nat → Option α :=
  Tr.rec (fun _ => none) (fun v _ _ gl gr i => cond (Nat.beq i (nat_lit 0)) v (cond (Nat.beq (Nat.mod i (nat_lit 2)) (nat_lit 1)) (gl (Nat.div i (nat_lit 2))) (gr (Nat.sub (Nat.div i (nat_lit 2)) (nat_lit 1))))) t

def Tr.set {α : Type} : Nat → Tr α → Nat → Option α → Tr α
  | 0, _, _, _ => .nil
  | f + 1, .nil, i, x => cond (Nat.beq i 0) (.node x .nil .nil) (cond (Nat.beq (i % 2) 1) (.node none (Tr.set f .nil (i / 2) x) .nil) (.node none .nil (Tr.set f .nil (i / 2 - 1) x)))
  | f + 1, .node v l r, i, x => cond (Nat.beq i 0) (.node x l r) (cond (Nat.beq (i % 2) 1) (.node v (Tr.set f l (i / 2) x) r) (.node v l (Tr.set f r (i / 2 - 1) x)))

/-- the same, its result made before the rest goes on -/
noncomputable def Tr.nilK {α β : Type} (f : Nat) : Nat → Option α → (Tr α → β) → β :=
  Nat.rec (fun _ _ k => k .nil) (fun _ ih i x k => cond (Nat.beq i (nat_lit 0)) (k (.node x .nil .nil)) (cond (Nat.beq (Nat.mod i (nat_lit 2)) (nat_lit 1)) (ih (Nat.div i (nat_lit 2)) x fun l => k (.node none l .nil)) (ih (Nat.sub (Nat.div i (nat_lit 2)) (nat_lit 1)) x fun r => k (.node none .nil r)))) f
noncomputable def Tr.setK {α β : Type} (f : Nat) (t : Tr α) : Nat → Option α → (Tr α → β) → β :=
  Tr.rec (motive := fun _ => Nat → Nat → Option α → (Tr α → β) → β) (fun f i x k => Tr.nilK f i x k)
    (fun v l r sl sr f i x k => Nat.casesOn (motive := fun _ => β) f (k .nil) fun f => cond (Nat.beq i (nat_lit 0)) (k (.node x l r)) (cond (Nat.beq (Nat.mod i (nat_lit 2)) (nat_lit 1)) (sl f (Nat.div i (nat_lit 2)) x fun l => k (.node v l r)) (sr f (Nat.sub (Nat.div i (nat_lit 2)) (nat_lit 1)) x fun r => k (.node v l r)))) t f

theorem Tr.nilK_eq {α β : Type} : ∀ (f i : Nat) (x : Option α) (k : Tr α → β), Tr.nilK f i x k = k (Tr.set f .nil i x)
  | 0, _, _, _ => rfl
  | f + 1, i, x, k => by
    have ih := @Tr.nilK_eq α β f
    show cond (Nat.beq i 0) _ (cond (Nat.beq (i % 2) 1) (Tr.nilK f (i / 2) x _) (Tr.nilK f (i / 2 - 1) x _)) = _
    rw [ih, ih]
    simp only [Tr.set]
    cases Nat.beq i 0
    · cases Nat.beq (i % 2) 1 <;> simp only [cond_true, cond_false]
    · rfl
theorem Tr.setK_eq {α β : Type} : ∀ (f : Nat) (t : Tr α) (i : Nat) (x : Option α) (k : Tr α → β), Tr.setK f t i x k = k (Tr.set f t i x)
  | f, .nil, i, x, k => Tr.nilK_eq f i x k
  | 0, .node _ _ _, _, _, _ => rfl
  | f + 1, .node v l r, i, x, k => by
    show cond (Nat.beq i 0) _ (cond (Nat.beq (i % 2) 1) (Tr.setK f l (i / 2) x _) (Tr.setK f r (i / 2 - 1) x _)) = _
    rw [Tr.setK_eq f, Tr.setK_eq f]
    simp only [Tr.set]
    cases Nat.beq i 0
    · cases Nat.beq (i % 2) 1 <;> simp only [cond_true, cond_false]
    · rfl

theorem Tr.get_nil {α : Type} (i : Nat) : (Tr.nil : Tr α).get i = none := rfl
theorem Tr.get_node {α : Type} (v : Option α) (l r : Tr α) (i : Nat) : (Tr.node v l r).get i = if i = 0 then v else if i % 2 = 1 then l.get (i / 2) else r.get (i / 2 - 1) := by
  show cond (Nat.beq i 0) v (cond (Nat.beq (i % 2) 1) (l.get (i / 2)) (r.get (i / 2 - 1))) = _
  simp only [Bool.cond_eq_ite, Nat.beq_eq]
theorem Tr.set_nil {α : Type} (f i : Nat) (x : Option α) : Tr.set (f + 1) .nil i x = if i = 0 then .node x .nil .nil else if i % 2 = 1 then .node none (Tr.set f .nil (i / 2) x) .nil else .node none .nil (Tr.set f .nil (i / 2 - 1) x) := by
  simp only [Tr.set, Bool.cond_eq_ite, Nat.beq_eq]
theorem Tr.set_node {α : Type} (f i : Nat) (v x : Option α) (l r : Tr α) : Tr.set (f + 1) (.node v l r) i x = if i = 0 then .node x l r else if i % 2 = 1 then .node v (Tr.set f l (i / 2) x) r else .node v l (Tr.set f r (i / 2 - 1) x) := by
  simp only [Tr.set, Bool.cond_eq_ite, Nat.beq_eq]

theorem Tr.get_set {α : Type} : ∀ (f : Nat) (t : Tr α) (i : Nat) (x : Option α) (j : Nat) (v : α), (Tr.set f t i x).get j = some v → (i = j ∧ x = some v) ∨ (i ≠ j ∧ t.get j = some v)
  | 0, _, _, _, _, _, h => by simp [Tr.set, Tr.get_nil] at h
  | f + 1, .nil, i, x, j, v, h => by
    simp only [Tr.set_nil, Tr.set_node] at h
    split at h
    · rename_i hi
      simp only [Tr.get_node] at h
      by_cases hj : j = 0
      · simp [hj] at h; exact .inl ⟨by omega, h⟩
      · simp [hj, Tr.get_nil] at h
    · rename_i hi
      split at h
      · rename_i hp
        simp only [Tr.get_node] at h
        by_cases hj : j = 0
        · simp [hj] at h
        · by_cases hq : j % 2 = 1
          · simp only [hj, hq, if_true, if_false] at h
            rcases Tr.get_set f .nil (i / 2) x (j / 2) v h with ⟨a, b⟩ | ⟨_, b⟩
            · exact .inl ⟨by omega, b⟩
            · simp [Tr.get_nil] at b
          · simp [hj, hq, Tr.get_nil] at h
      · rename_i hp
        simp only [Tr.get_node] at h
        by_cases hj : j = 0
        · simp [hj] at h
        · by_cases hq : j % 2 = 1
          · simp [hj, hq, Tr.get_nil] at h
          · simp only [hj, hq, if_false] at h
            rcases Tr.get_set f .nil (i / 2 - 1) x (j / 2 - 1) v h with ⟨a, b⟩ | ⟨_, b⟩
            · exact .inl ⟨by omega, b⟩
            · simp [Tr.get_nil] at b
  | f + 1, .node w l r, i, x, j, v, h => by
    simp only [Tr.set_nil, Tr.set_node] at h
    split at h
    · rename_i hi
      simp only [Tr.get_node] at h ⊢
      by_cases hj : j = 0
      · simp only [hj, if_true] at h; exact .inl ⟨by omega, h⟩
      · simp only [hj, if_false] at h ⊢; exact .inr ⟨by omega, h⟩
    · rename_i hi
      split at h
      · rename_i hp
        simp only [Tr.get_node] at h ⊢
        by_cases hj : j = 0
        · exact .inr ⟨by omega, by simpa [hj] using h⟩
        · by_cases hq : j % 2 = 1
          · simp only [hj, hq, if_true, if_false] at h ⊢
            rcases Tr.get_set f l (i / 2) x (j / 2) v h with ⟨a, b⟩ | ⟨a, b⟩
            · exact .inl ⟨by omega, b⟩
            · exact .inr ⟨by omega, b⟩
          · simp only [hj, hq, if_false] at h ⊢; exact .inr ⟨by omega, h⟩
      · rename_i hp
        simp only [Tr.get_node] at h ⊢
        by_cases hj : j = 0
        · exact .inr ⟨by omega, by simpa [hj] using h⟩
        · by_cases hq : j % 2 = 1
          · simp only [hj, hq, if_true, if_false] at h ⊢; exact .inr ⟨by omega, h⟩
          · simp only [hj, hq, if_false] at h ⊢
            rcases Tr.get_set f r (i / 2 - 1) x (j / 2 - 1) v h with ⟨a, b⟩ | ⟨a, b⟩
            · exact .inl ⟨by omega, b⟩
            · exact .inr ⟨by omega, b⟩

/-! ### values made before the rest goes on -/
def fNat {β : Type} (n : Nat) (k : Nat → β) : β := match n with | 0 => k 0 | m + 1 => k (m + 1)
def fInt {β : Type} (n : Int) (k : Int → β) : β := match n with | .ofNat a => fNat a fun a => k (.ofNat a) | .negSucc a => fNat a fun a => k (.negSucc a)
theorem fNat_eq {β : Type} (n : Nat) (k : Nat → β) : fNat n k = k n := by cases n <;> rfl
theorem fInt_eq {β : Type} (n : Int) (k : Int → β) : fInt n k = k n := by cases n <;> simp [fInt, fNat_eq]
def fV {β : Type} (v : Value) (k : Value → β) : β :=
  match v with
  | .bool true => k (.bool true)
  | .bool false => k (.bool false)
  | .int kd n => fInt n fun n => k (.int kd n)
  | .pointer (some ⟨b, o, s⟩) => fNat b fun b => fNat o fun o => k (.pointer (some ⟨b, o, s⟩))
  | .slice (some ⟨b, o, s⟩) l c => fNat b fun b => fNat o fun o => fNat l fun l => fNat c fun c => k (.slice (some ⟨b, o, s⟩) l c)
  | v => k v
theorem fV_eq {β : Type} (v : Value) (k : Value → β) : fV v k = k v := by
  unfold fV
  split <;> simp [fNat_eq, fInt_eq]
def fL {β : Type} : List Value → (List Value → β) → β
  | [], k => k []
  | v :: l, k => fV v fun v => fL l fun l => k (v :: l)
theorem fL_eq {β : Type} : ∀ (l : List Value) (k : List Value → β), fL l k = k l
  | [], _ => rfl
  | v :: l, k => by simp [fL, fV_eq, fL_eq l]
def fA {β : Type} (v : Value) (k : Value → β) : β :=
  match v with
  | .agg cs => fL cs.toList fun l => k (.agg ⟨l⟩)
  | .tuple cs => fL cs.toList fun l => k (.tuple ⟨l⟩)
  | v => fV v k
theorem fA_eq {β : Type} (v : Value) (k : Value → β) : fA v k = k v := by
  unfold fA
  split <;> simp [fL_eq, fV_eq]

/-! ### memory of one's own -/
/-- A block: its element type, the cells that are known, whether there may be more behind them (a slice that was appended to); 'app': may be appended to. -/
structure Blk where
  e : TypeId
  cells : List Value
  opn : Bool
  app : Bool
  es : Nat

structure Hp where
  t : Tr Blk
  n : Nat

def DEEP : Nat := 40
noncomputable def Hp.new {R : Type} (h : Hp) (b : Blk) (k : Hp → Option R) : Option R := if h.n < OPEN then h.t.setK DEEP h.n (some b) fun t => fNat (h.n + 1) fun n => k ⟨t, n⟩ else none
noncomputable def Hp.put {R : Type} (h : Hp) (i : Nat) (b : Option Blk) (k : Hp → R) : R := h.t.setK DEEP i b fun t => k ⟨t, h.n⟩

/-! ### operations without memory -/
/-! numbers, by machine words of the kernel -/
def modOf (k : IntKind) : Nat := match k with
  | .i8 => 256 | .u8 => 256 | .i16 => 65536 | .u16 => 65536 | .i32 => 4294967296 | .u32 => 4294967296 | .i64 => 18446744073709551616 | .u64 => 18446744073709551616
def halfOf (k : IntKind) : Nat := match k with
  | .i8 => 128 | .u8 => 256 | .i16 => 32768 | .u16 => 65536 | .i32 => 2147483648 | .u32 => 4294967296 | .i64 => 9223372036854775808 | .u64 => 18446744073709551616
def back (M H m : Nat) : Int := cond (Nat.ble H m) (.negSucc (M - m - 1)) (.ofNat m)
def wrapB (k : IntKind) (n : Int) : Int := match n with
  | .ofNat a => back (modOf k) (halfOf k) (a % modOf k)
  | .negSucc a => back (modOf k) (halfOf k) (modOf k - 1 - a % modOf k)
def ieqB (a b : Int) : Bool := match a, b with
  | .ofNat x, .ofNat y => Nat.beq x y
  | .negSucc x, .negSucc y => Nat.beq x y
  | _, _ => false
def iltB (a b : Int) : Bool := match a, b with
  | .ofNat x, .ofNat y => Nat.blt x y
  | .negSucc x, .negSucc y => Nat.blt y x
  | .negSucc _, .ofNat _ => true
  | .ofNat _, .negSucc _ => false
theorem ieqB_eq (a b : Int) : ieqB a b = (a == b) := by
  unfold ieqB
  split
  · rename_i x y; rw [Bool.eq_iff_iff]; simp; omega
  · rename_i x y; rw [Bool.eq_iff_iff]; simp
  · rename_i h1 h2
    cases a <;> cases b <;> first | (exact absurd rfl (h1 _ _ rfl)) | (exact absurd rfl (h2 _ _ rfl)) | skip
    all_goals (symm; rw [beq_eq_false_iff_ne]; intro e; cases e)
theorem iltB_eq (a b : Int) : iltB a b = decide (a < b) := by
  unfold iltB
  split
  · rename_i x y; rw [Bool.eq_iff_iff]; simp [Nat.blt_eq]
  · rename_i x y; rw [Bool.eq_iff_iff]; simp [Nat.blt_eq]; omega
  · rename_i x y; rw [Bool.eq_iff_iff]; simp; omega
  · rename_i x y; rw [Bool.eq_iff_iff]; simp; omega
theorem wrapB_eq (k : IntKind) (n : Int) : wrapB k n = k.wrap n := by
  cases k <;> cases n <;> simp only [wrapB, back, modOf, halfOf, IntKind.wrap, IntKind.bits, IntKind.signed, Bool.cond_eq_ite, Nat.ble_eq] <;> simp <;> (try split) <;> (try split) <;> omega

def binCmp (op : BinOp) (a b : Int) : Option Value :=
  match op with
  | .eql => some (.bool (ieqB a b))
  | .neq => some (.bool !(ieqB a b))
  | .lss => some (.bool (iltB a b))
  | .leq => some (.bool !(iltB b a))
  | .gtr => some (.bool (iltB b a))
  | .geq => some (.bool !(iltB a b))
  | _ => none
def binArith (op : BinOp) (k : IntKind) (a b : Int) : Option Value :=
  match op with
  | .add => some (.int k (wrapB k (a + b)))
  | .sub => some (.int k (wrapB k (a - b)))
  | .mul => some (.int k (wrapB k (a * b)))
  | .quo => if ieqB b 0 then none else some (.int k (wrapB k (a.tdiv b)))
  | .rem => if ieqB b 0 then none else some (.int k (a.tmod b))
  | .and => some (.int k (bits .and k a b))
  | .or => some (.int k (bits .or k a b))
  | .xor => some (.int k (bits .xor k a b))
  | .andNot => some (.int k (bits .andNot k a b))
  | op => binCmp op a b
def binShift (left : Bool) (k : IntKind) (a b : Int) : Option Value :=
  match b with
  | .negSucc _ => none
  | .ofNat b => match left with
    | true => some (.int k (wrapB k (a * (2 ^ min b k.bits : Nat))))
    | false => some (.int k (a.fdiv (2 ^ min b k.bits : Nat)))
def binInt (op : BinOp) (k : IntKind) (a : Int) (k' : IntKind) (b : Int) : Option Value :=
  match op with
  | .shl => binShift true k a b
  | .shr => binShift false k a b
  | _ => if k = k' then binArith op k a b else none
def binStr (op : BinOp) (a b : ByteArray) : Option Value :=
  match op with
  | .eql => some (.bool (a.data.toList == b.data.toList))
  | .neq => some (.bool !(a.data.toList == b.data.toList))
  | _ => none
def binBool (P : Program) (op : BinOp) (t : TypeId) (a b : Bool) : Option Value :=
  match op, P.underlying t with
  | .eql, some .bool => some (.bool (a == b))
  | .neq, some .bool => some (.bool !(a == b))
  | _, _ => none
def evBin (P : Program) (op : BinOp) (t : TypeId) (x y : Value) : Option Value :=
  match x, y with
  | .int k a, .int k' b => binInt op k a k' b
  | .string a, .string b => binStr op a b
  | .bool a, .bool b => binBool P op t a b
  | _, _ => none

def evUn (op : UnOp) (x : Value) : Option Value :=
  match op, x with
  | .neg, .int k n => some (.int k (wrapB k (0 - n)))
  | .xor, .int k n => some (.int k (bits .xor k (if k.signed then -1 else k.max) n))
  | .not, .bool b => some (.bool !b)
  | _, _ => none

def aggB (P : Program) (t : TypeId) : Option Bool :=
  match P.underlying t with
  | some (.struct _) => some true
  | some (.array _ _) => some true
  | some _ => some false
  | none => none
def cellsB (P : Program) (t : TypeId) : Option Nat := (P.info? t).map (·.size)
def constOk : Value → Bool
  | .bool _ => true
  | .int _ _ => true
  | .string _ => true
  | .pointer none => true
  | .slice none 0 0 => true
  | _ => false
def zeroB (P : Program) (t : TypeId) : Option Value := match (P.info? t).bind (·.zero) with
  | some z => cond (z.cells.toList.all constOk) (some z) none
  | none => none

/-- n cells from a place on -/
noncomputable def ld (h : Hp) (b o n : Nat) : Option (List Value) :=
  match h.t.get b with
  | some B => let l := (B.cells.drop o).take n; if l.length = n then some l else none
  | none => none
def splice (L : List Value) (off : Nat) (cs : List Value) : List Value := L.take off ++ (cs ++ L.drop (off + cs.length))
/-- cells laid from a place on -/
noncomputable def st {R : Type} (h : Hp) (b o : Nat) (cs : List Value) (k : Hp → Option R) : Option R :=
  match h.t.get b with
  | some B => if o + cs.length ≤ B.cells.length then fL (splice B.cells o cs) fun l => h.put b (some { B with cells := l }) k else none
  | none => none

noncomputable def evLoad (P : Program) (h : Hp) (t : TypeId) (a : Value) : Option Value :=
  match a with
  | .pointer (some ⟨b, o, none⟩) =>
    match aggB P t with
    | some true =>
      match cellsB P t with
      | some n => (ld h b o n).map fun l => .agg l.toArray
      | none => none
    | some false => match ld h b o 1 with
      | some [v] => some v
      | _ => none
    | none => none
  | _ => none

def scalar : Value → Bool
  | .agg _ => false
  | .tuple _ => false
  | _ => true

noncomputable def evConv {R : Type} (P : Program) (h : Hp) (src dst : TypeId) (x : Value) (k : Value → Hp → Option R) : Option R :=
  match P.underlying src, P.underlying dst, x with
  | some _, some (.int kd), .int _ n => k (.int kd (wrapB kd n)) h
  | some .string, some .string, .string s => k (.string s) h
  | some (.slice e), some .string, .slice a len _ =>
    match P.underlying e with
    | some (.int .u8) =>
      match a with
      | none => k (.string .empty) h
      | some ⟨b, o, none⟩ =>
        if len = 0 then k (.string .empty) h else
        match ld h b o len with
        | some l => if l.all (fun v => v matches .int .u8 _) then fBytes l fun s => k (.string ⟨s.toArray⟩) h else none
        | none => none
      | _ => none
    | _ => none
  | _, _, _ => none
where
  fBytes {β : Type} : List Value → (List UInt8 → β) → β
    | .int .u8 n :: l, k => fBytes l fun s => k (UInt8.ofNat n.toNat :: s)
    | _ , k => k []

/-- s[lo:hi:max], for slices and strings -/
def evBound (v : Option Value) (dflt : Nat) (top : Nat) : Option Nat :=
  match v with
  | none => some dflt
  | some (.int _ i) => if 0 ≤ i ∧ i ≤ top then some i.toNat else none
  | _ => none
def evSlice (P : Program) (t : TypeId) (x : Value) (lo hi mx : Option Value) : Option Value :=
  match P.underlying t, x with
  | some .string, .string s =>
    if mx.isSome then none else
    match evBound hi s.size s.size with
    | some h => match evBound lo 0 h with
      | some l => some (.string (s.extract l h))
      | none => none
    | none => none
  | some (.slice e), .slice a len cap =>
    match P.info? e with
    | some i =>
      if cap = OPEN then
        -- up to its length alone: what is behind is not known
        if mx.isSome then none else
        match evBound hi len len with
        | some h => match evBound lo 0 h with
          | some l =>
            match a with
            | some ⟨b, o, none⟩ => if b = OPEN then some x else if l < len ∧ 0 < i.size then some (.slice (some ⟨b, o + l * i.size, none⟩) (h - l) OPEN) else if l < len then none else some (.slice (some ⟨OPEN, 0, none⟩) 0 OPEN)
            | _ => none
          | none => none
        | none => none
      else if mx.isSome ∧ hi.isNone then none else
        match evBound mx cap cap with
        | some m => if OPEN ≤ m then none else match evBound hi len m with
          | some h => match evBound lo 0 h with
            | some l => match a with
              | none => some (.slice none (h - l) (m - l))
              | some ⟨b, o, none⟩ => if b = OPEN then none else some (.slice (some ⟨b, if m = l then o else o + l * i.size, none⟩) (h - l) (m - l))
              | _ => none
            | none => none
          | none => none
        | none => none
    | none => none
  | _, _ => none

def evIndexAddr (P : Program) (t : TypeId) (x i : Value) : Option Value :=
  match P.underlying t, x, i with
  | some (.slice e), .slice (some ⟨b, o, none⟩) len _, .int _ n =>
    if b = OPEN then none else
    match P.info? e with
    | some inf => if 0 ≤ n ∧ n < len then some (.pointer (some ⟨b, o + n.toNat * inf.size, none⟩)) else none
    | none => none
  | _, _, _ => none

def evExtract (x : Value) (i : Nat) : Option Value :=
  match x with
  | .tuple vs => vs.toList[i]?
  | _ => none

/-! ### operations that make memory -/
/-- the parts laid into the cells of a struct, an array, a row -/
def evFill (place : Nat → Option (Nat × Nat)) (cells : List Value) : List (Nat × Value) → Option (List Value)
  | [] => some cells
  | (i, v) :: rest =>
    match place i with
    | none => none
    | some (off, size) => if v.cells.size = size ∧ off + size ≤ cells.length then evFill place (splice cells off v.cells.toList) rest else none

def evPlaces (P : Program) (fs : List Field) (i : Nat) : Option (Nat × Nat) :=
  match fs[i]? with
  | some f => (cellsB P f.type).map fun n => (f.offset, n)
  | none => none

def evBuild (P : Program) (t : TypeId) (parts : List (Nat × Value)) : Option Value :=
  match zeroB P t, P.underlying t with
  | some z, some (.struct fs) => if fs.toList.all (fun f => (P.info? f.type).isSome) then (evFill (evPlaces P fs.toList) z.cells.toList parts).map fun l => .agg l.toArray else none
  | some z, some (.array _ e) => match cellsB P e with
    | some n => (evFill (fun i => some (i * n, n)) z.cells.toList parts).map fun l => .agg l.toArray
    | none => none
  | _, _ => none

def repCells (z : List Value) : Nat → List Value
  | 0 => []
  | n + 1 => z ++ repCells z n

def mkPtr (b : Nat) : Value := .pointer (some ⟨b, 0, none⟩)

noncomputable def evBuildSlice {R : Type} (P : Program) (h : Hp) (t : TypeId) (len : Nat) (parts : List (Nat × Value)) (k : Value → Hp → Option R) : Option R :=
  match P.underlying t with
  | some (.slice e) => match P.info? e with
    | some i => match i.zero with
      | some z =>
        if z.cells.toList.all constOk ∧ z.cells.size = i.size ∧ 0 < i.size ∧ len * i.size ≤ 16777216 then
          match evFill (fun j => some (j * i.size, i.size)) (repCells z.cells.toList len) parts with
          | some l => fL l fun l => h.new ⟨e, l, false, true, i.size⟩ fun h' => k (.slice (some ⟨h.n, 0, none⟩) len len) h'
          | none => none
        else none
      | none => none
    | none => none
  | _ => none

noncomputable def evMake {R : Type} (P : Program) (h : Hp) (t : TypeId) (l c : Value) (k : Value → Hp → Option R) : Option R :=
  match P.underlying t, l, c with
  | some (.slice e), .int _ l, .int _ c => match P.info? e with
    | some i => match i.zero with
      | some z =>
        if z.cells.toList.all constOk ∧ z.cells.size = i.size ∧ 0 ≤ l ∧ l ≤ c ∧ c ≤ 16777216 ∧ i.bytes ≤ 4096 then
          fL (repCells z.cells.toList c.toNat) fun L => h.new ⟨e, L, false, true, i.size⟩ fun h' => k (.slice (some ⟨h.n, 0, none⟩) l.toNat c.toNat) h'
        else none
      | none => none
    | none => none
  | _, _, _ => none

/-- the first n cells of a slice's row -/
noncomputable def ldS (h : Hp) (a : Option Addr) (n : Nat) : Option (List Value) :=
  match a with
  | none => if n = 0 then some [] else none
  | some ⟨b, o, none⟩ => if n = 0 then some [] else ld h b o n
  | _ => none

noncomputable def evAppend {R : Type} (P : Program) (h : Hp) (t : TypeId) (s x : Value) (k : Value → Hp → Option R) : Option R :=
  match P.underlying t, s, x with
  | some (.slice e), .slice a n c, .slice ax m _ => match P.info? e with
    | some i => match i.zero with
      | some z =>
        if z.cells.toList.all constOk ∧ z.cells.size = i.size ∧ 0 < i.size ∧ i.bytes ≤ 4096 ∧ n + m ≤ 16777216 then
          if m = 0 then k s h else
          match ldS h ax (m * i.size) with
          | none => none
          | some news =>
            match a with
            | none => if n = 0 ∧ c = 0 then h.new ⟨e, news, true, true, i.size⟩ fun h' => k (.slice (some ⟨h.n, 0, none⟩) m OPEN) h' else none
            | some ⟨b, o, none⟩ =>
              if b = OPEN then none else
              if c = OPEN then
                match h.t.get b with
                | some B => if o = 0 ∧ B.app ∧ B.opn ∧ B.e = e ∧ B.es = i.size ∧ n * i.size = B.cells.length then
                    h.put b none fun h1 => fL (B.cells ++ news) fun L => h1.new ⟨e, L, true, true, i.size⟩ fun h2 => k (.slice (some ⟨h.n, 0, none⟩) (n + m) OPEN) h2
                  else none
                | none => none
              else if n + m ≤ c then st h b (o + n * i.size) news fun h' => k (.slice (some ⟨b, o, none⟩) (n + m) c) h'
              else match ldS h a (n * i.size) with
                | some olds => fL (olds ++ news) fun L => h.new ⟨e, L, true, true, i.size⟩ fun h' => k (.slice (some ⟨h.n, 0, none⟩) (n + m) OPEN) h'
                | none => none
            | _ => none
        else none
      | none => none
    | none => none
  | _, _, _ => none

noncomputable def evCopy {R : Type} (P : Program) (h : Hp) (t : TypeId) (d x : Value) (k : Value → Hp → Option R) : Option R :=
  match P.underlying t, d, x with
  | some (.slice e), .slice (some ⟨b, o, none⟩) n _, .slice ax m _ => match P.info? e with
    | some i =>
      if min m n = 0 then k (.int .i64 0) h else
      if b = OPEN then none else
      match ldS h ax (min m n * i.size) with
      | some cs => st h b o cs fun h' => k (.int .i64 (min m n : Nat)) h'
      | none => none
    | none => none
  | some (.slice e), .slice none _ _, .slice _ _ _ => match P.info? e with
    | some _ => k (.int .i64 0) h
    | none => none
  | _, _, _ => none

def evLen (P : Program) (t : TypeId) (x : Value) : Option Value :=
  match P.underlying t, x with
  | some .string, .string s => some (.int .i64 s.size)
  | some (.array n _), _ => some (.int .i64 n)
  | some (.slice _), .slice _ n _ => some (.int .i64 n)
  | _, _ => none

noncomputable def evBuiltin {R : Type} (P : Program) (h : Hp) (b : Builtin) (ts : List TypeId) (args : List Value) (k : Value → Hp → Option R) : Option R :=
  match b, ts, args with
  | .len, [t], [x] => match evLen P t x with
    | some v => k v h
    | none => none
  | .append, [t, t'], [s, x] => if t = t' then evAppend P h t s x k else none
  | .copy, [t, t'], [d, x] => if t = t' then evCopy P h t d x k else none
  | _, _, _ => none

noncomputable def val (T : Tr Value) : Operand → Option Value
  | .tmp i => T.get i
  | .const v => cond (constOk v) (some v) none
  | .func f => some (.func (.func f) #[] #[])
  | .global _ => none
noncomputable def vals (T : Tr Value) : List Operand → Option (List Value)
  | [] => some []
  | x :: l => match val T x, vals T l with
    | some v, some vs => some (v :: vs)
    | _, _ => none
noncomputable def valParts (T : Tr Value) : List (Nat × Operand) → Option (List (Nat × Value))
  | [] => some []
  | (i, x) :: l => match val T x, valParts T l with
    | some v, some vs => some ((i, v) :: vs)
    | _, _ => none
noncomputable def valO (T : Tr Value) : Option Operand → Option (Option Value)
  | none => some none
  | some x => (val T x).map some

def pureK {R : Type} (o : Option Value) (h : Hp) (k : Value → Hp → Option R) : Option R :=
  match o with
  | some v => fA v fun v => k v h
  | none => none

def noTuples (l : List (Nat × Value)) : Bool := l.all fun x => match x.2 with
  | .tuple _ => false
  | _ => true
section ops
variable {R : Type} (P : Program) (C : FuncId → List Value → Hp → (Value → Hp → Option R) → Option R) (T : Tr Value) (h : Hp)
noncomputable def opPick (c a b : Operand) (k : Value → Hp → Option R) : Option R :=
  match val T c with
  | some (.bool true) => pureK (val T a) h k
  | some (.bool false) => pureK (val T b) h k
  | _ => none
noncomputable def opAlloc (e : TypeId) (k : Value → Hp → Option R) : Option R :=
  match zeroB P e with
  | some z => h.new ⟨e, z.cells.toList, false, false, 1⟩ fun h' => k (mkPtr h.n) h'
  | none => none
noncomputable def opBox (e : TypeId) (x : Operand) (k : Value → Hp → Option R) : Option R :=
  match val T x with
  | some v => cond (noTuples [(0, v)]) (h.new ⟨e, v.cells.toList, false, false, 1⟩ fun h' => k (mkPtr h.n) h') none
  | none => none
noncomputable def opBuild (t : TypeId) (parts : Array (Nat × Operand)) (k : Value → Hp → Option R) : Option R :=
  match valParts T parts.toList with
  | some ps => cond (noTuples ps) (pureK (evBuild P t ps) h k) none
  | none => none
noncomputable def opBuildSlice (t : TypeId) (n : Nat) (parts : Array (Nat × Operand)) (k : Value → Hp → Option R) : Option R :=
  match valParts T parts.toList with
  | some ps => cond (noTuples ps) (evBuildSlice P h t n ps k) none
  | none => none
noncomputable def opLoad (t : TypeId) (a : Operand) (k : Value → Hp → Option R) : Option R :=
  match val T a with
  | some a => pureK (evLoad P h t a) h k
  | none => none
noncomputable def opStore (t : TypeId) (a x : Operand) (k : Value → Hp → Option R) : Option R :=
  match val T a, val T x with
  | some (.pointer (some ⟨b, o, none⟩)), some v => if cellsB P t = some v.cells.size ∧ noTuples [(0, v)] = true then st h b o v.cells.toList fun h' => k undef h' else none
  | _, _ => none
noncomputable def opNilCheck (x : Operand) (k : Value → Hp → Option R) : Option R :=
  match val T x with
  | some (.pointer (some a)) => k (.pointer (some a)) h
  | _ => none
noncomputable def opBin (op : BinOp) (t : TypeId) (x y : Operand) (k : Value → Hp → Option R) : Option R :=
  match val T x, val T y with
  | some x, some y => pureK (evBin P op t x y) h k
  | _, _ => none
noncomputable def opUn (op : UnOp) (x : Operand) (k : Value → Hp → Option R) : Option R :=
  match val T x with
  | some x => pureK (evUn op x) h k
  | none => none
noncomputable def opConv (s d : TypeId) (x : Operand) (k : Value → Hp → Option R) : Option R :=
  match val T x with
  | some x => evConv P h s d x fun v h => fV v fun v => k v h
  | none => none
noncomputable def opMake (t : TypeId) (l c : Operand) (k : Value → Hp → Option R) : Option R :=
  match val T l, val T c with
  | some l, some c => evMake P h t l c k
  | _, _ => none
noncomputable def opSlice (t : TypeId) (x : Operand) (lo hi mx : Option Operand) (k : Value → Hp → Option R) : Option R :=
  match val T x, valO T lo, valO T hi, valO T mx with
  | some x, some lo, some hi, some mx => pureK (evSlice P t x lo hi mx) h k
  | _, _, _, _ => none
noncomputable def opIndexAddr (t : TypeId) (x i : Operand) (k : Value → Hp → Option R) : Option R :=
  match val T x, val T i with
  | some x, some i => pureK (evIndexAddr P t x i) h k
  | _, _ => none
noncomputable def opExtract (x : Operand) (i : Nat) (k : Value → Hp → Option R) : Option R :=
  match val T x with
  | some x => pureK (evExtract x i) h k
  | none => none
noncomputable def opCallV (f : Operand) (args : List Value) (k : Value → Hp → Option R) : Option R :=
  match val T f with
  | some (.func (.func g) first captured) => if first.size = 0 ∧ captured.size = 0 then C g args h k else none
  | _ => none
noncomputable def opCall (c : Call) (k : Value → Hp → Option R) : Option R :=
  match c.callee, vals T c.args.toList with
  | .builtin b, some args => evBuiltin P h b c.argTypes.toList args fun v h => fV v fun v => k v h
  | .value f, some args => opCallV C T h f args k
  | _, _ => none
/-- one operation; C: what a call of a Go function says -/
noncomputable def evOp (o : Op) (k : Value → Hp → Option R) : Option R :=
  match o with
  | .move x => pureK (val T x) h k
  | .assign x => pureK (val T x) h k
  | .pick c a b => opPick T h c a b k
  | .alloc e => opAlloc P h e k
  | .box e x => opBox T h e x k
  | .build t parts => opBuild P T h t parts k
  | .buildSlice t n parts => opBuildSlice P T h t n parts k
  | .load t a => opLoad P T h t a k
  | .store t a x => opStore P T h t a x k
  | .nilCheck x => opNilCheck T h x k
  | .binOp op t x y _ => opBin P T h op t x y k
  | .unOp op _ x => opUn T h op x k
  | .convert s d x => opConv P T h s d x k
  | .makeSlice t l c => opMake P T h t l c k
  | .slice t x lo hi mx => opSlice P T h t x lo hi mx k
  | .indexAddr t x i => opIndexAddr P T h t x i k
  | .extract x i => opExtract T h x i k
  | .call c => opCall P C T h c k
  | _ => none
end ops

/-! ### regions, code, calls -/
noncomputable def wantedB (all : List Oper) (T : Tr Value) (o : Oper) : Option Bool :=
  match o.guard with
  | none => some true
  | some (j, want) => match (all[j]?).bind (·.dst) with
    | some d => match T.get d with
      | some (.bool b) => some (b == want)
      | _ => none
    | none => none

def SLOTS : Nat := 14
noncomputable def putT {R : Type} (n : Nat) (T : Tr Value) (d : Option Nat) (v : Option Value) (k : Tr Value → Option R) : Option R :=
  match d with
  | none => k T
  | some d => cond (Nat.blt d n) (T.setK SLOTS d v k) none

noncomputable def evOps {R : Type} (P : Program) (C : FuncId → List Value → Hp → (Value → Hp → Option R) → Option R) (n : Nat) (all : List Oper) : List Oper → Tr Value → Hp → (Tr Value → Hp → Option R) → Option R
  | [], T, h, k => k T h
  | o :: rest, T, h, k =>
    match wantedB all T o with
    | some true => evOp P C T h o.op fun v h' => putT n T o.dst (some v) fun T' => evOps P C n all rest T' h' k
    | some false => putT n T o.dst none fun T' => evOps P C n all rest T' h k
    | none => none

inductive Ex where
  | exit (id : Nat)
  | ret

def loopN {R : Type} : Nat → ((Tr Value → Hp → Option R) → (Ex → Tr Value → Hp → Option R) → Tr Value → Hp → Option R) → (Ex → Tr Value → Hp → Option R) → Tr Value → Hp → Option R
  | 0, _, _, _, _ => none
  | m + 1, f, k, T, h => f (fun T h => loopN m f k T h) k T h

/-- kn: goes on behind the code; kx: the code was left -/
noncomputable def evCode {R : Type} (P : Program) (C : FuncId → List Value → Hp → (Value → Hp → Option R) → Option R) (n m : Nat) : Code → (Tr Value → Hp → Option R) → (Ex → Tr Value → Hp → Option R) → Tr Value → Hp → Option R
  | .skip, kn, _, T, h => kn T h
  | .region _ ops false, kn, _, T, h => evOps P C n ops.toList ops.toList T h kn
  | .seq a b, kn, kx, T, h => evCode P C n m a (fun T h => evCode P C n m b kn kx T h) kx T h
  | .cond c a b, kn, kx, T, h => match val T c with
    | some (.bool true) => evCode P C n m a kn kx T h
    | some (.bool false) => evCode P C n m b kn kx T h
    | _ => none
  | .block id c, kn, kx, T, h => evCode P C n m c kn (fun e T h => match e with
    | .exit j => if j = id then kn T h else kx (.exit j) T h
    | .ret => kx .ret T h) T h
  | .loop c, _, kx, T, h => loopN m (fun kn kx T h => evCode P C n m c kn kx T h) kx T h
  | .label _, kn, _, T, h => kn T h
  | .exit id, _, kx, T, h => kx (.exit id) T h
  | .ret, _, kx, T, h => kx .ret T h
  | _, _, _, _, _ => none

noncomputable def evResults (T : Tr Value) : List ResultVar → Option (List Value)
  | [] => some []
  | .tmp t :: l => match T.get t, evResults T l with
    | some v, some vs => some (v :: vs)
    | _, _ => none
  | _ => none
noncomputable def evResult (T : Tr Value) (l : List ResultVar) : Option Value :=
  match evResults T l with
  | some [v] => some v
  | some vs => cond (vs.all fun v => match v with
    | .tuple _ => false
    | _ => true) (some (.tuple vs.toArray)) none
  | none => none

noncomputable def putArgs {R : Type} : Nat → List Value → Tr Value → (Tr Value → Option R) → Option R
  | _, [], T, k => k T
  | i, v :: l, T, k => T.setK SLOTS i (some v) fun T => putArgs (i + 1) l T k

/-- a table of functions: their numbers, and their texts -/
abbrev Table := List (FuncId × Func)
def Table.find (F : Table) (f : FuncId) : Option Func :=
  match F with
  | [] => none
  | (g, fn) :: r => if g = f then some fn else Table.find r f

noncomputable def evCall {R : Type} (P : Program) (F : Table) (m : Nat) : Nat → FuncId → List Value → Hp → (Value → Hp → Option R) → Option R
  | 0, _, _, _, _ => none
  | d + 1, f, args, h, k =>
    match F.find f with
    | none => none
    | some fn => match fn.body with
      | none => none
      | some c => if args.length ≤ fn.ntmps then
          putArgs 0 args .nil fun T =>
            evCode P (evCall P F m d) fn.ntmps m c (fun T h => none) (fun e T h => match e with
              | .ret => match evResult T fn.results.toList with
                | some v => k v h
                | none => none
              | .exit _ => none) T h
        else none

/-- the function f, called without arguments, returns true -/
noncomputable def runs (P : Program) (F : Table) (m d : Nat) (f : FuncId) : Bool :=
  match evCall P F m d f [] ⟨.nil, 0⟩ (fun v _ => some v) with
  | some (.bool true) => true
  | _ => false

end Go.Proofs.Ytgfokdnflbmafaa.Ev
