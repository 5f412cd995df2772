/- Texts of the proof, one behind the other: Kit, KitG, KitB, BitP, BitR, BitS, BitW, BitV, BitT. -/
import Derived.Test.YthbjcjphplgobaaRows
import Derived.WalkKit
import Derived.ProofKit
import Derived.OpenShut
import Derived.Below
import Derived.IntWalk
import Derived.LoopTactic
import Derived.Lib.Hide
import Derived.Outline
import Derived.RowKit3
import Derived.Laws.OwnMore
import Derived.OwnWalk
import Derived.Laws.BytesArg
import Derived.Laws.IdiomStrings
import Derived.Laws.AppendOwnNone
import Derived.StillTailTactics
import Derived.Deep.AppendLies
import Derived.Laws.CopyOwn
import Derived.Handy
import Derived.Deep.RegionHeld3
import Derived.WalkSpells
import Derived.StillTactics
import Derived.Deep.Draws
/- What all walks of this seat share: slices of integers that are read ('Row'), that are the call's own ('ownsRow'), and what stays. No Go function in sight. -/
namespace Go.Proofs.Ythbjcjphplgobaa
open Go.RowKit

/-- What the walk is told of a slice of integers that came in: it is nil; or it leads to a row of 'cap' cells, the numbers 'zs' (the first 'len' are its elements), each fitting its kind. -/
def IsRow (k : IntKind) (w : World) (a : Option Addr) (len cap : Nat) (zs : List Int) : Prop :=
  (a = none ∧ len = 0 ∧ cap = 0 ∧ zs = []) ∨
  ∃ x, a = some x ∧ len ≤ cap ∧ cap ≤ maxLen ∧ zs.length = cap ∧ (∀ i, i < zs.length → w.cell? (x.add i) = some (.int k (zs.getD i 0))) ∧ ∀ n ∈ zs, (Lit.int k n).wf = true

/-- The slice value reads as the numbers l, each fitting its kind. -/
structure Row (k : IntKind) (w : World) (a : Option Addr) (len cap : Nat) (l : List Int) : Prop where
  hlen : l.length = len
  hcap : len ≤ cap
  hmax : cap ≤ maxLen
  wf : ∀ n ∈ l, (Lit.int k n).wf = true
  cells : 0 < len → ∃ b off, a = some ⟨b, off, none⟩ ∧ b < w.heap.size ∧ ∀ i, i < len → w.cell? ⟨b, off + i, none⟩ = some (.int k (l.getD i 0))
  nil : a = none → cap = 0

theorem cell_lt {w : World} {p : Addr} {v : Value} (h : w.cell? p = some v) : p.block < w.heap.size := by
  unfold World.cell? at h
  apply Classical.byContradiction
  intro hb
  rw [Array.getElem?_eq_none (by omega)] at h
  simp at h

theorem Row.of_isRow {k : IntKind} {w : World} {a : Option Addr} {len cap : Nat} {zs : List Int} (h : IsRow k w a len cap zs) : Row k w a len cap (zs.take len) := by
  rcases h with ⟨rfl, rfl, rfl, rfl⟩ | ⟨x, rfl, h1, h2, h3, h4, h5⟩
  · exact ⟨rfl, by omega, by unfold maxLen; omega, by simp, fun h => absurd h (by omega), fun _ => rfl⟩
  · refine ⟨by simp; omega, h1, h2, fun n hn => h5 n (List.mem_of_mem_take hn), fun hp => ?_, fun h => by simp at h⟩
    obtain ⟨b, off, spot⟩ := x
    have hc := h4 0 (by omega)
    have hspot : spot = none := by simpa [Addr.add] using World.cell?_spot hc
    subst hspot
    have hb := cell_lt hc
    refine ⟨b, off, rfl, by simpa [Addr.add] using hb, fun i hi => ?_⟩
    have hci := h4 i (by omega)
    have e : (zs.take len).getD i 0 = zs.getD i 0 := by simp [List.getD, hi]
    rw [e, ← hci]
    congr 1
    unfold Addr.add; split <;> simp_all

theorem Row.below {k : IntKind} {w w' : World} {a : Option Addr} {len cap : Nat} {l : List Int} {B : Nat} (h : Row k w a len cap l) (hb : Below B w w') (hB : w.heap.size ≤ B) : Row k w' a len cap l :=
  ⟨h.hlen, h.hcap, h.hmax, h.wf, fun hp => by
    obtain ⟨b, off, ha, hlt, hc⟩ := h.cells hp
    exact ⟨b, off, ha, Nat.lt_of_lt_of_le hlt hb.size, fun i hi => (hb.cell (p := ⟨b, off + i, none⟩) (by simp; omega)).trans (hc i hi)⟩, h.nil⟩

theorem Row.own {k : IntKind} {w : World} {base e : Nat} {v : Value} {l : List Int} (h : w.ownsRow base e 1 v l.length (l.map (Value.int k))) (hwf : ∀ n ∈ l, (Lit.int k n).wf = true) :
    ∃ a cap, v = .slice a l.length cap ∧ Row k w a l.length cap l := by
  obtain ⟨h1, h2⟩ := h
  rcases h2 with ⟨rfl, h0⟩ | ⟨g, cap, cur, rfl, hg, hh, hn, hm, hs, ht⟩
  · exact ⟨none, 0, by rw [h0], ⟨rfl, by omega, by unfold maxLen; omega, hwf, fun hp => by omega, fun _ => rfl⟩⟩
  · have hlt : g < w.heap.size := by
      apply Classical.byContradiction
      intro hb
      rw [Array.getElem?_eq_none (by omega)] at hh
      simp at hh
    refine ⟨_, cap, rfl, ⟨rfl, hn, hm, hwf, fun hp => ⟨g, 0, rfl, hlt, fun i hi => ?_⟩, fun h => by simp at h⟩⟩
    have hx : cur.toList[i]? = some (.int k (l.getD i 0)) := by
      have : (cur.toList.take (l.length * 1))[i]? = some (.int k (l.getD i 0)) := by
        rw [ht]; simp [List.getD, List.getElem?_eq_getElem hi]
      rw [List.getElem?_take] at this
      simpa [hi] using this
    simp only [World.cell?, hh, Nat.zero_add]
    simpa using hx

/-- a part that is not empty: s[at:at+m] -/
theorem Row.sub {k : IntKind} {w : World} {b off len cap : Nat} {l : List Int} (h : Row k w (some ⟨b, off, none⟩) len cap l) (at_ m : Nat) (hm : at_ + m ≤ len) :
    Row k w (some ⟨b, off + at_, none⟩) m (cap - at_) ((l.drop at_).take m) := by
  have h1 := h.hlen
  have h2 := h.hcap
  have h3 := h.hmax
  refine ⟨by simp; omega, by omega, by omega, fun n hn => h.wf n (List.mem_of_mem_drop (List.mem_of_mem_take hn)), fun hp => ?_, fun h => by simp at h⟩
  obtain ⟨b', off', e, hlt, hc⟩ := h.cells (by omega)
  simp only [Option.some.injEq, Addr.mk.injEq] at e
  obtain ⟨rfl, rfl, _⟩ := e
  refine ⟨b, off + at_, rfl, hlt, fun i hi => ?_⟩
  have e : ((l.drop at_).take m).getD i 0 = l.getD (at_ + i) 0 := by simp [List.getD, hi]
  rw [e, ← hc (at_ + i) (by omega), Nat.add_assoc]

/-- s[:m] -/
theorem Row.take {k : IntKind} {w : World} {a : Option Addr} {len cap : Nat} {l : List Int} (h : Row k w a len cap l) (m : Nat) (hm : m ≤ len) : Row k w a m cap (l.take m) := by
  have h1 := h.hlen
  have h2 := h.hcap
  refine ⟨by simp; omega, by omega, h.hmax, fun n hn => h.wf n (List.mem_of_mem_take hn), fun hp => ?_, h.nil⟩
  obtain ⟨b, off, e, hlt, hc⟩ := h.cells (by omega)
  refine ⟨b, off, e, hlt, fun i hi => ?_⟩
  rw [hc i (by omega)]
  simp [List.getD, hi]

theorem bcell {W w1 : World} (hb : Below W.heap.size W w1) : (∀ b o, b < W.heap.size → w1.cell? ⟨b, o, none⟩ = W.cell? ⟨b, o, none⟩) ∧ (∀ b o, b < W.heap.size → w1.frozen? ⟨b, o, none⟩ = W.frozen? ⟨b, o, none⟩) :=
  ⟨fun b o h => hb.cell (p := ⟨b, o, none⟩) h, fun b o h => hb.frozen (p := ⟨b, o, none⟩) h⟩
theorem ret_int {k : IntKind} {a b : Int} (h : a = b) : Ending.returned (.int k a) = .returned (.int k b) := by rw [h]
theorem ret_bool {a b : Bool} (h : a = b) : Ending.returned (.bool a) = .returned (.bool b) := by rw [h]

/-- the numbers l as cells of kind k -/
def nums (k : IntKind) (l : List Int) : List Value := l.map (Value.int k)

/-- An element type of the program that is an integer kind: its row of the table, and the slice type over it. -/
structure Elem (P : Program) (T E : TypeId) (k : IntKind) : Prop where
  sl : P.underlying T = some (.slice E)
  info : ∃ b, b ≤ 8 ∧ (P.info? E).map (fun i => (i.zero, i.size, i.bytes)) = some (some (.int k 0), 1, b)

/-- the one cell of a block that was just laid (append of one element lays it in a block of its own) -/
theorem one_new (w : World) (e : TypeId) (k : IntKind) (c : Int) : ∀ j, j < 1 → (w.alloc (.cells #[.int k c] e)).cell? ((⟨w.heap.size, 0, none⟩ : Addr).add j) = some (.int k ([c].getD j 0)) := by
  intro j hj
  obtain rfl : j = 0 := by omega
  simp [Addr.add]
section laws
variable {P : Program} {T E : TypeId} {k : IntKind} (he : Elem P T E k) (w : World) {ops : Array Oper} {rest : List Oper} {o : Oper} {a : Act} {Q : Exit → Act → World → Prop} (hg : o.guard = none)
include he hg

/-- make([]T, n) -/
theorem law_make (l c : Operand) (hop : o.op = Op.makeSlice T l c) (kl kc : IntKind) (L C : Int) (n : Nat) (hl : a.eval l = .int kl L) (hc : a.eval c = .int kc C) (hL : L = (n : Int)) (hC : C = (n : Int)) (hn : n ≤ 17592186044416)
    (hK : ∀ w', w'.ownsRow w.heap.size E 1 (.slice (some ⟨w.heap.size, 0, none⟩) n n) n (nums k (List.replicate n 0)) → Below w.heap.size w w' → w.heap.size < w'.heap.size → wpList P ops Q rest (a.put o.dst (.slice (some ⟨w.heap.size, 0, none⟩) n n)) w') :
    wpList P ops Q (o :: rest) a w := by
  obtain ⟨b, hb, hi⟩ := he.info
  obtain ⟨i0, hi, hz0, hz1, hz2⟩ := info_parts hi
  refine wpList_make_full w hg l c T hop w.heap.size E i0 (.int k 0) 1 he.sl hi hz0 hz1 kl kc L C n hl hc hL hC ?_ (by unfold maxLen; omega) (Nat.le_refl _) fun w' h1 h2 => hK w' ?_ ((Below.refl _ _).grown h2 (Nat.le_refl _) (by simp)) (h1.lt _ rfl).2
  · rw [hz2]
    calc b * n ≤ 8 * n := Nat.mul_le_mul_right n hb
      _ ≤ 281474976710656 := by omega
  · rw [Nat.mul_one, show (Value.int k 0).cells = #[Value.int k 0] from rfl, toList_madeCells_one] at h1
    simpa [nums] using h1

/-- append(s, x...) where s is the call's own and x is a row of numbers somewhere. -/
theorem law_append (s x : Operand) (hop : o.op = Op.call { callee := Callee.builtin Builtin.append, args := #[s, x], argTypes := #[T, T] }) (base : Nat) (v : Value) (n : Nat) (l : List Int) (hs : a.eval s = v)
    (hown : w.ownsRow base E 1 v n (nums k l)) (ad : Addr) (m c : Nat) (news : List Int) (hx : a.eval x = .slice (some ad) m c) (hl : news.length = m)
    (hnews : ∀ j, j < m → w.cell? (ad.add j) = some (.int k (news.getD j 0))) (hn : n + m ≤ 17592186044416) (hbase : base ≤ w.heap.size)
    (hK : ∀ v' w', w'.ownsRow base E 1 v' (n + m) (nums k (l ++ news)) → Below base w w' → wpList P ops Q rest (a.put o.dst v') w') :
    wpList P ops Q (o :: rest) a w := by
  obtain ⟨b, hb, hi⟩ := he.info
  obtain ⟨i0, hi, hz0, hz1, hz2⟩ := info_parts hi
  refine wpList_append_own w hg s x T hop base E i0 (.int k 0) 1 b he.sl hi hz0 hz1 hz2 rfl (by decide) v n (nums k l) hs hown ad m c (nums k news) hx (by simp [nums, hl]) ?_ (ints_oneCell k news) (by unfold maxLen; omega) ?_ hbase fun v' w' h1 h2 _ => hK v' w' ?_ ?_
  · intro j u hj
    simp only [nums, List.getElem?_map, Option.map_eq_some_iff] at hj
    obtain ⟨z, hz, rfl⟩ := hj
    have hlt : j < news.length := by
      apply Classical.byContradiction; intro h; rw [List.getElem?_eq_none (by omega)] at hz; simp at hz
    rw [hnews j (by omega)]; simp [List.getD, hz]
  · calc (n + m) * b ≤ (n + m) * 8 := Nat.mul_le_mul_left _ hb
      _ ≤ 140737488355328 := by omega
  · simpa [nums] using h1
  · exact (Below.refl _ _).grown h2 hbase fun g hg => (hown.lt g hg).1

/-- append(s, c): one number -/
theorem law_append1 (s x : Operand) (hop : o.op = Op.call { callee := Callee.builtin Builtin.append, args := #[s, x], argTypes := #[T, T] }) (base : Nat) (v : Value) (n : Nat) (l : List Int) (hs : a.eval s = v)
    (hown : w.ownsRow base E 1 v n (nums k l)) (c : Int) (hx : a.eval x = .slice (some ⟨w.heap.size, 0, none⟩) 1 1) (hn : n < 17592186044416) (hbase : base ≤ w.heap.size)
    (hK : ∀ v' w', w'.ownsRow base E 1 v' (n + 1) (nums k (l ++ [c])) → Below base w w' → wpList P ops Q rest (a.put o.dst v') w') :
    wpList P ops Q (o :: rest) a (w.alloc (.cells #[.int k c] E)) :=
  law_append he _ hg s x hop base v n l hs (hown.alloc _) ⟨w.heap.size, 0, none⟩ 1 1 [c] hx rfl (one_new w E k c) (by omega) (by simp; omega) fun v' w' h1 h2 => hK v' w' h1 (((Below.refl base w).alloc hbase _).trans h2)

/-- append(s, x...): x is whatever reads as numbers (nil and empty ones too) -/
theorem law_appendRow (s x : Operand) (hop : o.op = Op.call { callee := Callee.builtin Builtin.append, args := #[s, x], argTypes := #[T, T] }) (base : Nat) (v : Value) (n : Nat) (l : List Int) (hs : a.eval s = v)
    (hown : w.ownsRow base E 1 v n (nums k l)) (ax : Option Addr) (m cx : Nat) (news : List Int) (hx : a.eval x = .slice ax m cx) (hr : Row k w ax m cx news) (hn : n + m ≤ 17592186044416) (hbase : base ≤ w.heap.size)
    (hK : ∀ v' w', w'.ownsRow base E 1 v' (n + m) (nums k (l ++ news)) → Below base w w' → wpList P ops Q rest (a.put o.dst v') w') :
    wpList P ops Q (o :: rest) a w := by
  match ax, hx, hr with
  | none, hx, hr =>
    have h0 := hr.nil rfl; have h1 := hr.hlen; have h2 := hr.hcap
    obtain rfl : cx = 0 := h0
    obtain rfl : m = 0 := by omega
    have : news = [] := List.eq_nil_of_length_eq_zero h1
    subst this
    obtain ⟨b, hb, hi⟩ := he.info
    obtain ⟨i0, hi, hz0, hz1, hz2⟩ := info_parts hi
    refine wpList_append_own_none hg s x T hop base E i0 1 he.sl hi v n (nums k l) hs hown hx ?_
    exact hK v w (by simpa using hown) (Below.refl _ _)
  | some ad, hx, hr =>
    refine law_append he w hg s x hop base v n l hs hown ad m cx news hx hr.hlen (fun j hj => ?_) hn hbase hK
    obtain ⟨b, off, e, _, hc⟩ := hr.cells (by omega)
    simp only [Option.some.injEq] at e
    subst e
    rw [← hc j hj]
    congr 1
    unfold Addr.add; split <;> simp_all
end laws


theorem Row.nil_row (k : IntKind) (w : World) : Row k w none 0 0 [] := ⟨rfl, by omega, by unfold maxLen; omega, by simp, fun h => absurd h (by omega), fun _ => rfl⟩

/-- string(b) -/
theorem Row.str {P : Program} {w : World} {a : Option Addr} {len cap : Nat} {l : List Int} (h : Row .u8 w a len cap l) {T E S : TypeId} (hT : P.underlying T = some (.slice E)) (hE : P.underlying E = some (.int .u8)) (hS : P.underlying S = some .string) :
    (convert T S (.slice a len cap)).run P w = .ok (.string (strOfNums l)) w := by
  match a, h with
  | none, h =>
    have := h.nil rfl; have h1 := h.hlen; have h2 := h.hcap
    have : l = [] := List.eq_nil_of_length_eq_zero (by omega)
    subst this
    exact run_convert_bytes_nil w T E hT hE _ _ S hS
  | some ⟨b, off, spot⟩, h =>
    by_cases hp : 0 < len
    · obtain ⟨b', off', e, _, hc⟩ := h.cells hp
      simp only [Option.some.injEq, Addr.mk.injEq] at e
      obtain ⟨rfl, rfl, rfl⟩ := e
      exact run_convert_bytes_arg w T E hT hE b off len cap l h.hlen hc S hS
    · obtain rfl : len = 0 := by omega
      have : l = [] := List.eq_nil_of_length_eq_zero h.hlen
      subst this
      exact run_convert_bytes_back w T S E ⟨b, off, spot⟩ cap [] hT hE hS (by simp)

theorem strOfNums_inj {l l' : List Int} (h : ∀ n ∈ l, 0 ≤ n ∧ n ≤ 255) (h' : ∀ n ∈ l', 0 ≤ n ∧ n ≤ 255) (e : (strOfNums l).toList = (strOfNums l').toList) : l = l' := by
  have e1 : (l.map fun n => UInt8.ofNat n.toNat) = l'.map fun n => UInt8.ofNat n.toNat := by
    rw [← strOfNums_data, ← strOfNums_data, ← ByteArray.toList_eq, ← ByteArray.toList_eq, e]
  have back : ∀ l : List Int, (∀ n ∈ l, 0 ≤ n ∧ n ≤ 255) → (l.map fun n => UInt8.ofNat n.toNat).map (fun c => (c.toNat : Int)) = l := by
    intro l hl
    rw [List.map_map]
    conv => rhs; rw [← List.map_id l]
    apply List.map_congr_left
    intro n hn
    have := hl n hn
    simp only [Function.comp, id]
    rw [UInt8.toNat_ofNat_of_lt' (by simp [UInt8.size]; omega)]
    omega
  rw [← back l h, ← back l' h', e1]
/-- string(a) == string(b) is a == b -/
theorem str_beq {l l' : List Int} (h : ∀ n ∈ l, 0 ≤ n ∧ n ≤ 255) (h' : ∀ n ∈ l', 0 ≤ n ∧ n ≤ 255) : ((strOfNums l).toList == (strOfNums l').toList) = (l == l') := by
  by_cases e : l = l'
  · subst e; simp
  · have : (strOfNums l).toList ≠ (strOfNums l').toList := fun e' => e (strOfNums_inj h h' e')
    rw [beq_eq_false_iff_ne.2 e, beq_eq_false_iff_ne.2 this]
/-- []byte{} -/
theorem own_empty (w : World) (e : TypeId) (k : IntKind) : (w.alloc (.cells #[] e)).ownsRow w.heap.size e 1 (.slice (some ⟨w.heap.size, 0, none⟩) 0 0) 0 (nums k []) :=
  World.ownsRow_lit w #[] 0 (Nat.le_refl _) (by unfold maxLen; omega) rfl

/-- A guarded operation of a region that does not run. -/
theorem still_skip {P : Program} {ops : Array Oper} {w : World} {Q : Act → Prop} {a : Act} {o : Oper} {rest : List Oper} (hw : Region.wanted o (yielded ops a.tmps) = false) (h : wpStill P ops w Q rest (a.put o.dst undef)) :
    wpStill P ops w Q (o :: rest) a := by
  rw [wpStill, if_neg (by rw [hw]; decide)]; exact h
end Go.Proofs.Ythbjcjphplgobaa

/- What all walks share beyond Kit, of any kind: rows of a call's own, copies, appends. No Go function in sight. -/
namespace Go.Proofs.Ythbjcjphplgobaa
open Go.RowKit

theorem u8_bd {l : List Int} (h : ∀ n ∈ l, (Lit.int .u8 n).wf = true) : ∀ n ∈ l, 0 ≤ n ∧ n ≤ 255 := fun n hn => bounds_u8 (h n hn)

theorem getD_bd {l : List Int} (h : ∀ n ∈ l, 0 ≤ n ∧ n ≤ 255) (i : Nat) : 0 ≤ l.getD i 0 ∧ l.getD i 0 ≤ 255 := by
  by_cases hi : i < l.length
  · simpa [List.getD, hi] using h _ (List.getElem_mem hi)
  · simp [List.getD, Nat.not_lt.1 hi]

/-- the cells of a block that was just laid -/
theorem box_cell (w : World) (cs : Array Value) (t : TypeId) (o : Nat) : (w.alloc (.cells cs t)).cell? ⟨w.heap.size, o, none⟩ = cs[o]? := by
  unfold World.cell?
  rw [heap_alloc_new]
  rfl

/-- a row lies where its block lies -/
theorem own_congr {w w' : World} {base e n : Nat} {v : Value} {xs : List Value} (h : w.ownsRow base e 1 v n xs) (hg : ∀ g, v.ownBlock = some g → w'.heap[g]? = w.heap[g]?) : w'.ownsRow base e 1 v n xs := by
  refine ⟨h.1, ?_⟩
  rcases h.2 with h0 | ⟨g, cap, cur, rfl, h1, h2, h3⟩
  · exact .inl h0
  · exact .inr ⟨g, cap, cur, rfl, h1, by rw [hg g rfl]; exact h2, h3⟩

theorem nums_set (l : List Int) (j : Nat) (c : Int) : (nums .u8 l).set j (.int .u8 c) = nums .u8 (l.set j c) := by simp [nums, List.map_set]

theorem own_form {w : World} {base e n : Nat} {v : Value} {xs : List Value} (h : w.ownsRow base e 1 v n xs) : ∃ a c, v = .slice a n c := by
  rcases h.2 with ⟨rfl, h0⟩ | ⟨g, cap, cur, rfl, _⟩
  · exact ⟨none, 0, by rw [h0]⟩
  · exact ⟨_, _, rfl⟩

theorem own_base {w : World} {base base' e n : Nat} {v : Value} {xs : List Value} (h : w.ownsRow base e 1 v n xs) (hb : base' ≤ base) : w.ownsRow base' e 1 v n xs := by
  refine ⟨h.1, ?_⟩
  rcases h.2 with h0 | ⟨g, cap', cur', e, h1, h2⟩
  · exact .inl h0
  · exact .inr ⟨g, cap', cur', e, by omega, h2⟩

theorem own_below {w w' : World} {base e n B : Nat} {v : Value} {xs : List Value} (h : w.ownsRow base e 1 v n xs) (hb : Below B w w') (hB : w.heap.size ≤ B) : w'.ownsRow base e 1 v n xs :=
  own_congr h fun g e => hb.block g (Nat.lt_of_lt_of_le (h.lt g e).2 hB)

theorem Below.drewN {B : Nat} {w w' : World} (h : Below B w w') (n : Nat) : Below B w (w'.drewN n) := ⟨h.os, h.tape, h.output, h.size, h.block⟩

theorem Row.of_own {k : IntKind} {w : World} {base e n c : Nat} {a : Option Addr} {l : List Int} (h : w.ownsRow base e 1 (.slice a n c) n (nums k l)) (hwf : ∀ x ∈ l, (Lit.int k x).wf = true) : Row k w a n c l := by
  have hl : l.length = n := by have := h.1; simpa [nums] using this
  subst hl
  obtain ⟨a1, c1, ev, hrow⟩ := Row.own h hwf
  cases ev
  exact hrow

theorem Row.clip {k : IntKind} {w : World} {a : Option Addr} {len cap : Nat} {l : List Int} (h : Row k w a len cap l) : Row k w a len len l :=
  ⟨h.hlen, Nat.le_refl _, Nat.le_trans h.hcap h.hmax, h.wf, h.cells, fun e => by have := h.nil e; have := h.hcap; omega⟩

theorem u8_wf {l : List Int} (h : ∀ x ∈ l, 0 ≤ x ∧ x ≤ 255) : ∀ x ∈ l, (Lit.int .u8 x).wf = true := fun x hx => by
  exact WalkArith.wf_u8 (h x hx)

theorem below1 (W : World) (o : Obj) : Below W.heap.size W (W.alloc o) := (Below.refl _ _).alloc (Nat.le_refl _) _

theorem lit_rowK (k : IntKind) (E : TypeId) (w : World) (l : List Int) (n : Nat) (fr : Nat × Nat) (hn : l.length = n) (hn2 : n ≤ 1000) (hl : ∀ x ∈ l, (Lit.int k x).wf = true) : Row k (w.alloc (.cells (nums k l).toArray E fr)) (some ⟨w.heap.size, 0, none⟩) n n l := by
  refine ⟨hn, Nat.le_refl _, by unfold maxLen; omega, hl, fun hp => ⟨w.heap.size, 0, rfl, by simp, fun i hi => ?_⟩, fun h => by cases h⟩
  unfold World.cell?
  rw [heap_alloc_new]
  simp [nums, List.getD, show i < l.length by omega]

theorem nums_setK (k : IntKind) (l : List Int) (j : Nat) (c : Int) : (nums k l).set j (.int k c) = nums k (l.set j c) := by simp [nums, List.map_set]

theorem nums_len (k : IntKind) (l : List Int) : (nums k l).length = l.length := by simp [nums]
theorem nums_get (k : IntKind) (l : List Int) {i : Nat} (h : i < l.length) : (nums k l)[i]? = some (.int k (l.getD i 0)) := by simp [nums, List.getD, h]
theorem getD_mem {l : List Int} {i : Nat} (h : i < l.length) : l.getD i 0 ∈ l := by
  rw [show l.getD i 0 = l[i] by simp [List.getD, h]]; exact List.getElem_mem _

theorem own_pos {w : World} {base e n : Nat} {v : Value} {xs : List Value} (h : w.ownsRow base e 1 v n xs) (hn : 0 < n) : ∃ g c, v = .slice (some ⟨g, 0, none⟩) n c ∧ base ≤ g ∧ g < w.heap.size := by
  rcases h.2 with ⟨_, h0⟩ | ⟨g, cap, cur, rfl, _⟩
  · omega
  · exact ⟨g, cap, rfl, h.lt g rfl⟩

/-- the first k numbers of a list, and zeros behind them -/
def fillTo (l : List Int) (k : Nat) : List Int := l.take k ++ List.replicate (l.length - k) 0
theorem fillTo_0 (l : List Int) : fillTo l 0 = List.replicate l.length 0 := by simp [fillTo]
theorem fillTo_all (l : List Int) {k : Nat} (h : l.length ≤ k) : fillTo l k = l := by
  unfold fillTo; rw [List.take_of_length_le h, show l.length - k = 0 by omega]; simp
theorem fillTo_len (l : List Int) {k : Nat} (h : k ≤ l.length) : (fillTo l k).length = l.length := by simp [fillTo]; omega
theorem fillTo_set (l : List Int) {k : Nat} (h : k < l.length) : (fillTo l k).set k (l.getD k 0) = fillTo l (k + 1) := by
  unfold fillTo
  rw [List.take_add_one, List.getElem?_eq_getElem h, show l.length - k = (l.length - (k + 1)) + 1 by omega, List.replicate_succ, List.set_append_right _ _ (by simp; omega)]
  rw [show k - (List.take k l).length = 0 by rw [List.length_take]; omega]
  simp only [List.set_cons_zero, List.getD, List.getElem?_eq_getElem h, Option.getD_some, Option.toList_some, List.append_assoc, List.singleton_append]
theorem fillTo_nums (k : IntKind) (l : List Int) {j : Nat} (h : j < l.length) : (nums k (fillTo l j)).set j (.int k (l.getD j 0)) = nums k (fillTo l (j + 1)) := by
  rw [nums_setK, fillTo_set l h]
theorem getD_map (f : Int → Int) {l : List Int} {i : Nat} (h : i < l.length) : (l.map f).getD i 0 = f (l.getD i 0) := by simp [List.getD, h]

theorem take_next {l l' : List Int} {k : Nat} (h : l.take k = l'.take k) (h1 : k < l.length) (h2 : k < l'.length) (e : l.getD k 0 = l'.getD k 0) : l.take (k + 1) = l'.take (k + 1) := by
  simp only [List.getD, List.getElem?_eq_getElem h1, List.getElem?_eq_getElem h2, Option.getD_some] at e
  rw [List.take_add_one, List.take_add_one, h, List.getElem?_eq_getElem h1, List.getElem?_eq_getElem h2, e]
theorem take_snoc (l : List Int) {k : Nat} (h : k < l.length) : l.take (k + 1) = l.take k ++ [l.getD k 0] := by
  rw [List.take_add_one, List.getElem?_eq_getElem h]; simp [List.getD, h]

section
variable {P : Program} {T E : TypeId} {k : IntKind} (he : Elem P T E k) (w : World) {ops : Array Oper} {rest : List Oper} {o : Oper} {a : Act} {Q : Exit → Act → World → Prop} (hg : o.guard = none)
include he hg
/-- copy(d, s): d is the call's own row, s is whatever reads as numbers -/
theorem law_copyRow (d s : Operand) (sT : TypeId) (hop : o.op = Op.call { callee := Callee.builtin Builtin.copy, args := #[d, s], argTypes := #[T, sT] }) (base g n c : Nat) (old : List Int) (hd : a.eval d = .slice (some ⟨g, 0, none⟩) n c)
    (hown : w.ownsRow base E 1 (.slice (some ⟨g, 0, none⟩) n c) n (nums k old)) (ax : Option Addr) (m cx : Nat) (news : List Int) (hx : a.eval s = .slice ax m cx) (hr : Row k w ax m cx news) (hm : m ≤ n)
    (hK : ∀ w', w'.ownsRow base E 1 (.slice (some ⟨g, 0, none⟩) n c) n (nums k (news ++ old.drop m)) → Below g w w' → wpList P ops Q rest (a.put o.dst (goInt m)) w') :
    wpList P ops Q (o :: rest) a w := by
  obtain ⟨b, hb, hi⟩ := he.info
  have hsz : (P.info? E).map (·.size) = some 1 := by
    obtain ⟨i0, hi, _, hz1, _⟩ := info_parts hi
    rw [hi]; simp [hz1]
  obtain ⟨hl, h2⟩ := hown
  rcases h2 with ⟨h0, _⟩ | ⟨g', cap, cur, e, hbg, hh, hn, hmx, hs, ht⟩
  · cases h0
  simp only [Value.slice.injEq, Option.some.injEq, Addr.mk.injEq] at e
  obtain ⟨⟨rfl, _, _⟩, _, rfl⟩ := e
  have hlen := hr.hlen
  refine wpList_copy_splice hg d s T sT hop E he.sl hsz (some ⟨g, 0, none⟩) ax n c m cx hd hx g 0 cur.toList E (by simpa using hh) (nums k news) (by show _ = min m n; rw [Nat.min_eq_left hm]; simp [nums, hlen]) ?_ (by simp [nums]; omega) (ints_oneCell k news) g w (Below.refl _ _) (Nat.le_refl _) ?_
  · intro hp
    obtain ⟨b', off, rfl, hlt, hc⟩ := hr.cells (by simpa [nums, hlen] using hp)
    refine ⟨rfl, _, rfl, fun j v hj => ?_⟩
    simp only [nums, List.getElem?_map, Option.map_eq_some_iff] at hj
    obtain ⟨z, hz, rfl⟩ := hj
    have hlt' : j < news.length := by
      apply Classical.byContradiction; intro h; rw [List.getElem?_eq_none (by omega)] at hz; simp at hz
    rw [show (⟨b', off, none⟩ : Addr).add j = ⟨b', off + j, none⟩ by unfold Addr.add; split <;> simp_all, hc j (by omega)]
    simp [List.getD, hz]
  · intro w' h1 h2
    have h1 : w'.heap[g]? = some (.cells (splice cur.toList 0 (nums k news)).toArray E (0, 0)) := h1
    have hcur : cur.toList.length = c := by simpa using hs
    have hnl : (nums k news).length = m := by simp [nums, hlen]
    have hfin : (nums k (news ++ old.drop m)).length = n := by
      have : old.length = n := by simpa [nums] using hl
      simp [nums, hlen, this]; omega
    have e := hK w' ⟨by simpa using hfin, .inr ⟨g, c, _, rfl, hbg, h1, hn, hmx, ?_, ?_⟩⟩ h2
    · rw [show (goInt m) = goInt (nums k news).length by rw [hnl]] at e; exact e
    · simp [splice, hcur, hnl]; omega
    · simp only [splice, List.take_zero, List.nil_append, Nat.zero_add, hnl, Nat.mul_one]
      rw [List.take_append, hnl, List.take_of_length_le (by omega)]
      simp only [nums, List.map_append, List.map_drop]
      congr 1
      simp only [Nat.mul_one] at ht
      unfold nums at ht
      rw [← ht, List.drop_take]
end

section
variable {P : Program} {T E : TypeId} {k : IntKind} (he : Elem P T E k) (w : World) {ops : Array Oper} {o : Oper} {a : Act} {K : Act → World → Prop} {Q : Exit → Act → World → Prop} {F : Prop} (hg : o.guard = none)
include he hg
/-- append(s, x...) in a region that draws its order: x is whatever reads as numbers -/
theorem step_appendRow (s x : Operand) (hop : o.op = Op.call { callee := Callee.builtin Builtin.append, args := #[s, x], argTypes := #[T, T] }) (base : Nat) (v : Value) (n : Nat) (l : List Int) (hs : a.eval s = v)
    (hown : w.ownsRow base E 1 v n (nums k l)) (ax : Option Addr) (m cx : Nat) (news : List Int) (hx : a.eval x = .slice ax m cx) (hr : Row k w ax m cx news) (hn : n + m ≤ 17592186044416) (hbase : base ≤ w.heap.size)
    (hK : ∀ v' w', w'.ownsRow base E 1 v' (n + m) (nums k (l ++ news)) → w.grownBy w' v.ownBlock → K (a.put o.dst v') w') :
    if Region.wanted o (yielded ops a.tmps) = true then Oper.wp P o a w K Q else F := by
  have hw : Region.wanted o (yielded ops a.tmps) = true := by simp [Region.wanted, hg]
  rw [if_pos hw]
  obtain ⟨b, hb, hi⟩ := he.info
  obtain ⟨i0, hi, hz0, hz1, hz2⟩ := info_parts hi
  match ax, hx, hr with
  | none, hx, hr =>
    have h0 := hr.nil rfl; have h1 := hr.hlen; have h2 := hr.hcap
    obtain rfl : cx = 0 := h0
    obtain rfl : m = 0 := by omega
    have : news = [] := List.eq_nil_of_length_eq_zero h1
    subst this
    have hrun := run_append_owned_none (P := P) (w := w) base T o.type E i0 1 he.sl hi v n (nums k l) hown
    unfold Oper.wp
    simp [execOp, hop, resolve, invoke, builtin, hs, hx, hrun, Result.andThen]
    exact hK _ _ (by simpa using hown) (World.grownBy.refl _ _)
  | some ad, hx, hr =>
    refine wp_append_own w s x T hop base E i0 (.int k 0) 1 b he.sl hi hz0 hz1 hz2 rfl (by decide) v n (nums k l) hs hown ad m cx (nums k news) hx (by simp [nums, hr.hlen]) ?_ (ints_oneCell k news) (by unfold maxLen; omega) ?_ hbase fun v' w' h1 h2 _ => hK v' w' (by simpa [nums] using h1) h2
    · intro j u hj
      simp only [nums, List.getElem?_map, Option.map_eq_some_iff] at hj
      obtain ⟨z, hz, rfl⟩ := hj
      have hlt : j < news.length := by
        apply Classical.byContradiction; intro h; rw [List.getElem?_eq_none (by omega)] at hz; simp at hz
      have hl := hr.hlen
      obtain ⟨b', off, e, _, hc⟩ := hr.cells (by omega)
      simp only [Option.some.injEq] at e
      subst e
      rw [show (⟨b', off, none⟩ : Addr).add j = ⟨b', off + j, none⟩ by unfold Addr.add; split <;> simp_all, hc j (by omega)]
      simp [List.getD, hz]
    · calc (n + m) * b ≤ (n + m) * 8 := Nat.mul_le_mul_left _ hb
        _ ≤ 140737488355328 := by omega
end

section
variable {P : Program} {T E : TypeId} {k : IntKind} (he : Elem P T E k) (w : World) {ops : Array Oper} {rest : List Oper} {o : Oper} {a : Act} {Q : Exit → Act → World → Prop} (hg : o.guard = none)
include he hg
/-- append(s, x...): x is whatever reads as numbers; and what stays -/
theorem law_appendRowK (s x : Operand) (hop : o.op = Op.call { callee := Callee.builtin Builtin.append, args := #[s, x], argTypes := #[T, T] }) (base : Nat) (v : Value) (n : Nat) (l : List Int) (hs : a.eval s = v)
    (hown : w.ownsRow base E 1 v n (nums k l)) (ax : Option Addr) (m cx : Nat) (news : List Int) (hx : a.eval x = .slice ax m cx) (hr : Row k w ax m cx news) (hn : n + m ≤ 17592186044416) (hbase : base ≤ w.heap.size)
    (hK : ∀ v' w', w'.ownsRow base E 1 v' (n + m) (nums k (l ++ news)) → w.grownBy w' v.ownBlock → wpList P ops Q rest (a.put o.dst v') w') :
    wpList P ops Q (o :: rest) a w :=
  wpList_step fun _ hk => step_appendRow he w hg s x hop base v n l hs hown ax m cx news hx hr hn hbase fun v' w' h1 h2 => hk _ _ (hK v' w' h1 h2)
end
end Go.Proofs.Ythbjcjphplgobaa

/- What all walks share beyond Kit: rows of a call's own, copies, appends. No Go function in sight. -/
namespace Go.Proofs.Ythbjcjphplgobaa
open Go.RowKit

theorem elU8 : Elem Try.prog 43 5 .u8 := ⟨Try.underlying43, 1, by decide, by kernel_rfl⟩

theorem elU32 : Elem Try.prog 22 30 .u32 := ⟨Try.underlying22, 4, by decide, by kernel_rfl⟩

theorem lit_row (w : World) (l : List Int) (n : Nat) (fr : Nat × Nat) (hn : l.length = n) (hn2 : n ≤ 1000) (hl : ∀ x ∈ l, 0 ≤ x ∧ x ≤ 255) : Row .u8 (w.alloc (.cells (nums .u8 l).toArray 5 fr)) (some ⟨w.heap.size, 0, none⟩) n n l := by
  refine ⟨hn, Nat.le_refl _, by unfold maxLen; omega, u8_wf hl, fun hp => ⟨w.heap.size, 0, rfl, by simp, fun i hi => ?_⟩, fun h => by cases h⟩
  unfold World.cell?
  rw [heap_alloc_new]
  simp [nums, List.getD, show i < l.length by omega]
end Go.Proofs.Ythbjcjphplgobaa

/- Bits as lists of Bools, and the bytes that they are: no Go function in sight. -/
namespace Cad

/-- bit i of bytes -/
def bit (l : List Int) (i : Nat) : Bool := (l.getD (i / 8) 0).toNat / 2 ^ (i % 8) % 2 == 1
/-- byte j of bits -/
def byteN (B : List Bool) (j : Nat) : Nat :=
  (B.getD (8 * j) false).toNat + 2 * (B.getD (8 * j + 1) false).toNat + 4 * (B.getD (8 * j + 2) false).toNat + 8 * (B.getD (8 * j + 3) false).toNat +
  16 * (B.getD (8 * j + 4) false).toNat + 32 * (B.getD (8 * j + 5) false).toNat + 64 * (B.getD (8 * j + 6) false).toNat + 128 * (B.getD (8 * j + 7) false).toNat
def pack (B : List Bool) : List Int := (List.range ((B.length + 7) / 8)).map fun j => (byteN B j : Int)
def unpack (l : List Int) (n : Nat) : List Bool := (List.range n).map (bit l)

theorem getD_ge {α : Type} (l : List α) (d : α) {i : Nat} (h : l.length ≤ i) : l.getD i d = d := by
  simp [List.getD, List.getElem?_eq_none h]
theorem lt8 {k : Nat} (h : k < 8) : k = 0 ∨ k = 1 ∨ k = 2 ∨ k = 3 ∨ k = 4 ∨ k = 5 ∨ k = 6 ∨ k = 7 := by omega

theorem byteN_lt (B : List Bool) (j : Nat) : byteN B j < 256 := by
  have h := fun i => Bool.toNat_le (B.getD i false)
  have h0 := h (8 * j); have h1 := h (8 * j + 1); have h2 := h (8 * j + 2); have h3 := h (8 * j + 3)
  have h4 := h (8 * j + 4); have h5 := h (8 * j + 5); have h6 := h (8 * j + 6); have h7 := h (8 * j + 7)
  unfold byteN
  omega

theorem byte_digit (b0 b1 b2 b3 b4 b5 b6 b7 : Bool) (k : Nat) (hk : k < 8) :
    ((b0.toNat + 2 * b1.toNat + 4 * b2.toNat + 8 * b3.toNat + 16 * b4.toNat + 32 * b5.toNat + 64 * b6.toNat + 128 * b7.toNat) / 2 ^ k % 2 == 1) = [b0, b1, b2, b3, b4, b5, b6, b7].getD k false := by
  have h : ∀ b : Bool, (b.toNat == 1) = b := by decide
  have l0 := Bool.toNat_le b0; have l1 := Bool.toNat_le b1; have l2 := Bool.toNat_le b2; have l3 := Bool.toNat_le b3
  have l4 := Bool.toNat_le b4; have l5 := Bool.toNat_le b5; have l6 := Bool.toNat_le b6; have l7 := Bool.toNat_le b7
  have key : (b0.toNat + 2 * b1.toNat + 4 * b2.toNat + 8 * b3.toNat + 16 * b4.toNat + 32 * b5.toNat + 64 * b6.toNat + 128 * b7.toNat) / 2 ^ k % 2 = ([b0, b1, b2, b3, b4, b5, b6, b7].getD k false).toNat := by
    rcases lt8 hk with rfl | rfl | rfl | rfl | rfl | rfl | rfl | rfl <;> simp <;> omega
  rw [key, h]

theorem byteN_bit (B : List Bool) (j k : Nat) (hk : k < 8) : (byteN B j / 2 ^ k % 2 == 1) = B.getD (8 * j + k) false := by
  unfold byteN
  rw [byte_digit _ _ _ _ _ _ _ _ k hk]
  rcases lt8 hk with rfl | rfl | rfl | rfl | rfl | rfl | rfl | rfl <;> rfl

theorem pack_len (B : List Bool) : (pack B).length = (B.length + 7) / 8 := by simp [pack]
theorem pack_wf (B : List Bool) : ∀ n ∈ pack B, 0 ≤ n ∧ n ≤ 255 := by
  intro n hn
  simp only [pack, List.mem_map, List.mem_range] at hn
  obtain ⟨j, _, rfl⟩ := hn
  have := byteN_lt B j
  omega
theorem pack_getD (B : List Bool) (j : Nat) (h : j < (B.length + 7) / 8) : (pack B).getD j 0 = byteN B j := by
  simp [pack, List.getD, h]
theorem bit_pack (B : List Bool) (i : Nat) : bit (pack B) i = B.getD i false := by
  by_cases h : i / 8 < (B.length + 7) / 8
  · unfold bit
    rw [pack_getD B _ h, Int.toNat_natCast, byteN_bit B _ _ (by omega)]
    congr 1; omega
  · have h1 : (pack B).getD (i / 8) 0 = 0 := by
      rw [getD_ge]; rw [pack_len]; omega
    have h2 : B.getD i false = false := by rw [getD_ge]; omega
    unfold bit
    rw [h1, h2]
    simp

theorem unpack_len (l : List Int) (n : Nat) : (unpack l n).length = n := by simp [unpack]
theorem unpack_getD (l : List Int) (n i : Nat) (h : i < n) : (unpack l n).getD i false = bit l i := by simp [unpack, List.getD, h]
theorem ext_getD {A B : List Bool} (h : A.length = B.length) (e : ∀ i, i < A.length → A.getD i false = B.getD i false) : A = B := by
  apply List.ext_getElem h
  intro i h1 h2
  have := e i h1
  simpa [List.getD, h1, h2] using this
theorem unpack_pack (B : List Bool) : unpack (pack B) B.length = B := by
  apply ext_getD (unpack_len _ _)
  intro i hi
  rw [unpack_len] at hi
  rw [unpack_getD _ _ _ hi, bit_pack]

theorem byte_ext {n m : Nat} (hn : n < 256) (hm : m < 256) (h : ∀ k, k < 8 → (n / 2 ^ k % 2 == 1) = (m / 2 ^ k % 2 == 1)) : n = m := by
  have key : ∀ k, k < 8 → n / 2 ^ k % 2 = m / 2 ^ k % 2 := by
    intro k hk
    have := h k hk
    have a := Nat.mod_lt (n / 2 ^ k) (show 0 < 2 by decide)
    have b := Nat.mod_lt (m / 2 ^ k) (show 0 < 2 by decide)
    generalize n / 2 ^ k % 2 = x at *
    generalize m / 2 ^ k % 2 = y at *
    have : (x = 1) ↔ (y = 1) := by rw [← beq_iff_eq, ← beq_iff_eq (a := y), this]
    omega
  have h0 := key 0 (by decide); have h1 := key 1 (by decide); have h2 := key 2 (by decide); have h3 := key 3 (by decide)
  have h4 := key 4 (by decide); have h5 := key 5 (by decide); have h6 := key 6 (by decide); have h7 := key 7 (by decide)
  simp only [Nat.reducePow, Nat.div_one] at h0 h1 h2 h3 h4 h5 h6 h7
  omega

/-- bytes are what their bits are -/
theorem bits_ext {l l' : List Int} (hl : ∀ n ∈ l, 0 ≤ n ∧ n ≤ 255) (hl' : ∀ n ∈ l', 0 ≤ n ∧ n ≤ 255) (hlen : l.length = l'.length) (h : ∀ i, i < 8 * l.length → bit l i = bit l' i) : l = l' := by
  apply List.ext_getElem hlen
  intro j h1 h2
  have a := hl _ (List.getElem_mem h1)
  have b := hl' _ (List.getElem_mem h2)
  have : l[j].toNat = l'[j].toNat := by
    refine byte_ext (by omega) (by omega) fun k hk => ?_
    have := h (8 * j + k) (by omega)
    unfold bit at this
    rw [show (8 * j + k) / 8 = j by omega, show (8 * j + k) % 8 = k by omega] at this
    simpa [List.getD, h1, h2] using this
  omega

/-- bytes whose bits from n on are 0 are those of their first n bits -/
theorem pack_unpack {l : List Int} {n : Nat} (hl : ∀ x ∈ l, 0 ≤ x ∧ x ≤ 255) (hlen : l.length = (n + 7) / 8) (h : ∀ i, n ≤ i → i < 8 * l.length → bit l i = false) : pack (unpack l n) = l := by
  refine bits_ext (pack_wf _) hl (by rw [pack_len, unpack_len, hlen]) fun i hi => ?_
  rw [bit_pack]
  rw [pack_len, unpack_len, ← hlen] at hi
  by_cases hn : i < n
  · exact unpack_getD l n i hn
  · rw [h i (by omega) hi, getD_ge]; rw [unpack_len]; omega
theorem pack_pad {B : List Bool} {i : Nat} (h : B.length ≤ i) : bit (pack B) i = false := by
  rw [bit_pack, getD_ge]; exact h
theorem pack_inj {A B : List Bool} (hn : A.length = B.length) (h : pack A = pack B) : A = B := by
  rw [← unpack_pack A, ← unpack_pack B, h, hn]

theorem getD_snoc (B : List Bool) (b : Bool) (i : Nat) : ((B ++ [b]).getD i false).toNat = (B.getD i false).toNat + if i = B.length then b.toNat else 0 := by
  by_cases h : i < B.length
  · rw [if_neg (by omega)]; simp [List.getD, List.getElem?_append_left h]
  · by_cases h2 : i = B.length
    · subst h2; simp [List.getD]
    · rw [if_neg h2, getD_ge _ _ (by simp; omega), getD_ge _ _ (by omega)]; rfl
theorem byteN_snoc (B : List Bool) (b : Bool) (j : Nat) : byteN (B ++ [b]) j = byteN B j + if B.length / 8 = j then b.toNat * 2 ^ (B.length % 8) else 0 := by
  unfold byteN
  simp only [getD_snoc]
  by_cases h : B.length / 8 = j
  · rw [if_pos h]
    obtain ⟨r, hr, e⟩ : ∃ r, r < 8 ∧ B.length = 8 * j + r := ⟨B.length % 8, by omega, by omega⟩
    rw [e, show (8 * j + r) % 8 = r by omega]
    rcases lt8 hr with rfl | rfl | rfl | rfl | rfl | rfl | rfl | rfl <;> simp <;> omega
  · rw [if_neg h]
    have := fun k (hk : k < 8) => (show ¬ (8 * j + k = B.length) by omega)
    have h0 : ¬ (8 * j = B.length) := this 0 (by decide)
    rw [if_neg h0, if_neg (this 1 (by decide)), if_neg (this 2 (by decide)), if_neg (this 3 (by decide)), if_neg (this 4 (by decide)), if_neg (this 5 (by decide)), if_neg (this 6 (by decide)), if_neg (this 7 (by decide))]
    simp
theorem pack_snoc0 (B : List Bool) (b : Bool) (h : B.length % 8 = 0) : pack (B ++ [b]) = pack B ++ [(b.toNat : Int)] := by
  unfold pack
  rw [List.length_append, List.length_singleton, show (B.length + 1 + 7) / 8 = (B.length + 7) / 8 + 1 by omega, List.range_succ, List.map_append]
  congr 1
  · apply List.map_congr_left
    intro j hj
    rw [List.mem_range] at hj
    rw [byteN_snoc, if_neg (by omega)]; simp
  · simp only [List.map_cons, List.map_nil]
    rw [byteN_snoc, if_pos (by omega), h]
    have : byteN B ((B.length + 7) / 8) = 0 := by
      have g : ∀ i, 8 * ((B.length + 7) / 8) ≤ i → B.getD i false = false := fun i hi => getD_ge _ _ (by omega)
      unfold byteN
      rw [g _ (by omega), g _ (by omega), g _ (by omega), g _ (by omega), g _ (by omega), g _ (by omega), g _ (by omega), g _ (by omega)]
      rfl
    rw [this]; simp
theorem pack_snoc (B : List Bool) (b : Bool) (h : B.length % 8 ≠ 0) : pack (B ++ [b]) = (pack B).set (B.length / 8) ((pack B).getD (B.length / 8) 0 + (b.toNat * 2 ^ (B.length % 8) : Nat)) := by
  have hl : (B.length + 1 + 7) / 8 = (B.length + 7) / 8 := by omega
  rw [pack_getD B (B.length / 8) (by omega)]
  apply List.ext_getElem
  · rw [List.length_set, pack_len, pack_len]; simp; omega
  · intro j h1 h2
    rw [List.length_set, pack_len] at h2
    have e1 : (pack (B ++ [b]))[j] = byteN (B ++ [b]) j := by simp [pack]
    rw [List.getElem_set, e1, byteN_snoc]
    split
    · rename_i e; subst e; simp
    · have e2 : (pack B)[j]'(by rw [pack_len]; exact h2) = byteN B j := by simp [pack]
      rw [e2]; simp

/-! ### numbers as bits -/
def numB (v n : Nat) : List Bool := (List.range n).map fun i => v / 2 ^ i % 2 == 1
def natB : List Bool → Nat
  | [] => 0
  | b :: B => b.toNat + 2 * natB B
theorem numB_len (v n : Nat) : (numB v n).length = n := by simp [numB]
theorem numB_zero (v : Nat) : numB v 0 = [] := rfl
theorem numB_succ (v n : Nat) : numB v (n + 1) = (v % 2 == 1) :: numB (v / 2) n := by
  unfold numB
  rw [List.range_succ_eq_map, List.map_cons, List.map_map]
  congr 1
  · simp
  · apply List.map_congr_left
    intro i _
    simp only [Function.comp, Nat.succ_eq_add_one, Nat.pow_succ']
    rw [Nat.div_div_eq_div_mul]
theorem numB_snoc (v n : Nat) : numB v (n + 1) = numB v n ++ [v / 2 ^ n % 2 == 1] := by
  simp [numB, List.range_succ]
theorem natB_lt : ∀ B : List Bool, natB B < 2 ^ B.length
  | [] => by simp [natB]
  | b :: B => by
    have := natB_lt B
    have h := Bool.toNat_le b
    simp only [natB, List.length_cons, Nat.pow_succ]
    omega
theorem natB_numB : ∀ (n v : Nat), natB (numB v n) = v % 2 ^ n
  | 0, v => by simp [numB_zero, natB, Nat.mod_one]
  | n + 1, v => by
    rw [numB_succ, natB, natB_numB n, Nat.pow_succ', Nat.mod_mul]
    congr 1
    have h : ∀ x, x < 2 → (x == 1).toNat = x := by intro x hx; match x, hx with | 0, _ => rfl | 1, _ => rfl
    exact h _ (Nat.mod_lt _ (by decide))
theorem numB_natB : ∀ B : List Bool, numB (natB B) B.length = B
  | [] => rfl
  | b :: B => by
    rw [List.length_cons, numB_succ, natB]
    have h := Bool.toNat_le b
    rw [show (b.toNat + 2 * natB B) / 2 = natB B by omega, show (b.toNat + 2 * natB B) % 2 = b.toNat by omega, numB_natB B]
    cases b <;> rfl
theorem numB_append : ∀ (n m v w : Nat), v < 2 ^ n → numB (v + 2 ^ n * w) (n + m) = numB v n ++ numB w m
  | 0, m, v, w, h => by
    have : v = 0 := by simpa using h
    subst this; simp [numB_zero]
  | n + 1, m, v, w, h => by
    rw [show n + 1 + m = (n + m) + 1 by omega, numB_succ, numB_succ, List.cons_append, ← numB_append n m (v / 2) w (by rw [Nat.pow_succ] at h; omega)]
    have e : 2 ^ (n + 1) * w = 2 * (2 ^ n * w) := by rw [Nat.pow_succ']; simp [Nat.mul_assoc]
    rw [e, show (v + 2 * (2 ^ n * w)) / 2 = v / 2 + 2 ^ n * w by omega, show (v + 2 * (2 ^ n * w)) % 2 = v % 2 by omega]
end Cad

/- Contracts of the reference's functions on bits: those that read. -/
namespace Go.Proofs.Ythbjcjphplgobaa
open Go.RowKit Cad

def Valid (l : List Int) (N : Int) : Prop := ∃ B : List Bool, (B.length : Int) = N ∧ B.length ≤ 330000 ∧ l = pack B
def bI (b : Bool) : Int := b.toNat
theorem div2 (c : Int) (k : Nat) : (c / 2 ^ k) / 2 = c / 2 ^ (k + 1) := by
  rw [Int.ediv_ediv_of_nonneg (Int.pow_nonneg (by decide)), Int.pow_succ]
theorem bit_eq (l : List Int) (i : Nat) (h : 0 ≤ l.getD (i / 8) 0) : (l.getD (i / 8) 0 / 2 ^ (i % 8)) % 2 = bI (bit l i) := by
  unfold bit bI
  obtain ⟨n, hn⟩ : ∃ n : Nat, l.getD (i / 8) 0 = n := ⟨(l.getD (i / 8) 0).toNat, by omega⟩
  rw [hn, Int.toNat_natCast]
  have e : ((n : Int) / 2 ^ (i % 8)) = ((n / 2 ^ (i % 8) : Nat) : Int) := by simp
  rw [e]
  generalize n / 2 ^ (i % 8) = m
  have : m % 2 = 0 ∨ m % 2 = 1 := by omega
  rw [show ((m : Int)) % 2 = ((m % 2 : Nat) : Int) by omega]
  rcases this with h | h <;> rw [h] <;> rfl

theorem Valid_of {l : List Int} {N : Int} (hl : ∀ x ∈ l, 0 ≤ x ∧ x ≤ 255) (h0 : 0 ≤ N) (h1 : N ≤ 330000) (h2 : (l.length : Int) = (N + 7) / 8) (h3 : ∀ i : Nat, N ≤ i → i < 8 * l.length → bit l i = false) : Valid l N := by
  obtain ⟨n, rfl⟩ : ∃ n : Nat, N = n := ⟨N.toNat, by omega⟩
  exact ⟨unpack l n, by rw [unpack_len], by rw [unpack_len]; omega, (pack_unpack hl (by omega) fun i hi hj => h3 i (by omega) hj).symm⟩
theorem Valid.n {l : List Int} {N : Int} (h : Valid l N) : 0 ≤ N ∧ N ≤ 330000 ∧ (l.length : Int) = (N + 7) / 8 := by
  obtain ⟨B, rfl, h1, rfl⟩ := h
  rw [pack_len]; omega
theorem Valid.pad {l : List Int} {N : Int} (h : Valid l N) (i : Nat) (hi : N ≤ i) : bit l i = false := by
  obtain ⟨B, rfl, h1, rfl⟩ := h
  exact pack_pad (by omega)

/-- what Check says -/
def chk (l : List Int) (N r : Int) : Prop := (Valid l N ∧ r = 0) ∨ (¬ Valid l N ∧ r = 8)
theorem chk.no {l : List Int} {N r : Int} (h : chk l N r) (hv : ¬ Valid l N) : r = 8 := by
  rcases h with h | h
  · exact absurd h.1 hv
  · exact h.2
theorem chk.yes {l : List Int} {N r : Int} (h : chk l N r) (hv : Valid l N) : r = 0 := by
  rcases h with h | h
  · exact h.2
  · exact absurd hv h.1

end Go.Proofs.Ythbjcjphplgobaa

/- Contracts of the reference's functions on bits: those that compare and read numbers. -/
namespace Go.Proofs.Ythbjcjphplgobaa
open Go.RowKit Cad

def great (len : Nat) : Bool := decide (190 < len ∧ len < 41230 ∨ 41350 < len)
theorem great_yes {len : Nat} (h : 190 < len ∧ len < 41230 ∨ 41350 < len) : great len = true := decide_eq_true h
theorem great_no {len : Nat} (h : ¬ (190 < len ∧ len < 41230 ∨ 41350 < len)) : great len = false := decide_eq_false h
theorem RSame_ok (W : World) (a : Option Addr) (len cap : Nat) (N : Int) (l : List Int) (hr : Row .u8 W a len cap l) (a' : Option Addr) (len' cap' : Nat) (N' : Int) (l' : List Int) (hr' : Row .u8 W a' len' cap' l') :
    Calls Try.prog 65 #[.agg #[.slice a len cap, .int .i64 N], .agg #[.slice a' len' cap', .int .i64 N']] W fun e W' => e = .returned (.bool (decide (N = N' ∧ l = l'))) ∧ Below W.heap.size W W' := by
  have hbel := ((Below.refl W.heap.size W).alloc (Nat.le_refl _) (.cells #[.slice a len cap, .int .i64 N] 45)).alloc (by simp) (.cells #[.slice a' len' cap', .int .i64 N'] 45)
  by_cases h1 : N = N'
  · subst h1
    have s1 := (hr.below hbel (Nat.le_refl _)).str Try.underlying43 Try.underlying5 Try.underlying9
    have s2 := (hr'.below hbel (Nat.le_refl _)).str Try.underlying43 Try.underlying5 Try.underlying9
    have hs := str_beq (u8_bd hr.wf) (u8_bd hr'.wf)
    clear hr hr'
    go_enter Try.func65, Try.ntmps65
    go_wp2
    go_ret
    exact ⟨ret_bool (by by_cases e : l = l' <;> simp [e]), hbel⟩
  · go_enter Try.func65, Try.ntmps65
    go_wp2
    go_ret
    exact ⟨ret_bool (by simp [h1]), hbel⟩

end Go.Proofs.Ythbjcjphplgobaa

/- Contracts of the reference's functions on bits: those that make bits. -/
namespace Go.Proofs.Ythbjcjphplgobaa
open Go.RowKit Cad

/-- nothing below base is touched, and no block that isn't bytes -/
structure Kept (base : Nat) (W W' : World) : Prop where
  bel : Below base W W'
  oth : ∀ k, k < W.heap.size → (∀ cur fr, W.heap[k]? ≠ some (.cells cur 5 fr)) → W'.heap[k]? = W.heap[k]?
theorem Kept.refl (base : Nat) (W : World) : Kept base W W := ⟨Below.refl _ _, fun _ _ _ => rfl⟩
theorem Kept.trans {base : Nat} {a b c : World} (h : Kept base a b) (k : Kept base b c) : Kept base a c :=
  ⟨h.bel.trans k.bel, fun i hi hn => by
    have e := h.oth i hi hn
    rw [k.oth i (Nat.lt_of_lt_of_le hi h.bel.size) (fun cur fr => by rw [e]; exact hn cur fr), e]⟩

section
variable {P : Program} {T E : TypeId} {k : IntKind} (he : Elem P T E k) (w : World) {ops : Array Oper} {rest : List Oper} {o : Oper} {a : Act} {Q : Exit → Act → World → Prop} (hg : o.guard = none)
include he hg
/-- append(s, c): one number; and what stays -/
theorem law_append1K (s x : Operand) (hop : o.op = Op.call { callee := Callee.builtin Builtin.append, args := #[s, x], argTypes := #[T, T] }) (base : Nat) (v : Value) (n : Nat) (l : List Int) (hs : a.eval s = v)
    (hown : w.ownsRow base E 1 v n (nums k l)) (c : Int) (hx : a.eval x = .slice (some ⟨w.heap.size, 0, none⟩) 1 1) (hn : n < 17592186044416) (hbase : base ≤ w.heap.size)
    (hK : ∀ v' w', w'.ownsRow base E 1 v' (n + 1) (nums k (l ++ [c])) → (w.alloc (.cells #[.int k c] E)).grownBy w' v.ownBlock → wpList P ops Q rest (a.put o.dst v') w') :
    wpList P ops Q (o :: rest) a (w.alloc (.cells #[.int k c] E)) := by
  obtain ⟨b, hb, hi⟩ := he.info
  obtain ⟨i0, hi, hz0, hz1, hz2⟩ := info_parts hi
  refine wpList_append_own _ hg s x T hop base E i0 (.int k 0) 1 b he.sl hi hz0 hz1 hz2 rfl (by decide) v n (nums k l) hs (hown.alloc _) ⟨w.heap.size, 0, none⟩ 1 1 (nums k [c]) hx (by simp [nums]) ?_ (ints_oneCell k [c]) (by unfold maxLen; omega) ?_ (by simp; omega) fun v' w' h1 h2 _ => hK v' w' ?_ h2
  · intro j u hj
    have hlt : j < 1 := by
      apply Classical.byContradiction; intro h; rw [List.getElem?_eq_none (by simp [nums]; omega)] at hj; simp at hj
    rw [one_new w E k c j hlt]
    obtain rfl : j = 0 := by omega
    simpa [nums] using hj
  · calc (n + 1) * b ≤ (n + 1) * 8 := Nat.mul_le_mul_left _ hb
      _ ≤ 140737488355328 := by omega
  · simpa [nums] using h1
end

end Go.Proofs.Ythbjcjphplgobaa

/- Contracts of the reference's functions on bits: numbers read; bits added, whatever their number. -/
namespace Go.Proofs.Ythbjcjphplgobaa
open Go.RowKit Cad

/-- the number of m bits from i on -/
def getN (B : List Bool) (i m : Nat) : Nat := natB ((B.drop i).take m)
theorem getN_zero (B : List Bool) (i : Nat) : getN B i 0 = 0 := by simp [getN, natB]
theorem getN_succ (B : List Bool) (i m : Nat) (h : i < B.length) : getN B i (m + 1) = (B.getD i false).toNat + 2 * getN B (i + 1) m := by
  unfold getN
  rw [List.drop_eq_getElem_cons h, List.take_succ_cons, natB]
  simp [List.getD, h]
theorem getN_lt (B : List Bool) (i m : Nat) : getN B i m < 2 ^ m := by
  have h := natB_lt ((B.drop i).take m)
  have : ((B.drop i).take m).length ≤ m := by rw [List.length_take]; omega
  exact Nat.lt_of_lt_of_le h (Nat.pow_le_pow_right (by decide) this)

end Go.Proofs.Ythbjcjphplgobaa

/- Contracts of the reference's functions on bits: copies. -/
namespace Go.Proofs.Ythbjcjphplgobaa
open Go.RowKit Cad

theorem twin_after {W w1 : World} {a : Option Addr} {len cap : Nat} {N : Int} {v' : Value} {xs : List Value} {base : Nat}
    (hgrow : ((((W.alloc (.cells #[.slice a len cap, .int .i64 N] 45)).alloc (.cells #[.slice none 0 0, .int .i64 0] 45)).alloc (.cells #[] 5)).drew).grownBy w1 (Value.slice (some ⟨W.heap.size + 1 + 1, 0, none⟩) 0 0).ownBlock)
    (hown1 : w1.ownsRow base 5 1 v' (0 + len) xs) :
    ∃ av cv, v' = .slice av (0 + len) cv ∧ Hid (w1.heap[W.heap.size + 1]? = some (.cells #[.slice none 0 0, .int .i64 0] 45)) ∧
      w1.cell? ⟨W.heap.size + 1, 0, none⟩ = some (.slice none 0 0) ∧ w1.cell? ⟨W.heap.size + 1, 1, none⟩ = some (.int .i64 0) ∧ w1.frozen? ⟨W.heap.size + 1, 0, none⟩ = false ∧ w1.frozen? ⟨W.heap.size + 1, 1, none⟩ = false := by
  have hy : w1.heap[W.heap.size + 1]? = some (.cells #[.slice none 0 0, .int .i64 0] 45) := by
    have h := hgrow.block (W.heap.size + 1) (by simp) (by simp [Value.ownBlock])
    rw [h]
    show ((((W.alloc (.cells #[.slice a len cap, .int .i64 N] 45)).alloc (.cells #[.slice none 0 0, .int .i64 0] 45)).alloc (.cells #[] 5))).heap[W.heap.size + 1]? = _
    rw [Below.heap_alloc _ _ _ (by simp), heap_alloc2_new]
  have e : ∃ av cv, v' = .slice av (0 + len) cv := by
    rcases hown1.2 with ⟨rfl, h0⟩ | ⟨g, cap', cur', rfl, _⟩
    · exact ⟨none, 0, by rw [h0]⟩
    · exact ⟨_, _, rfl⟩
  obtain ⟨av, cv, e⟩ := e
  refine ⟨av, cv, e, Go.Lib.hid hy, ?_, ?_, ?_, ?_⟩
  · unfold World.cell?; rw [hy]; rfl
  · unfold World.cell?; rw [hy]; rfl
  · unfold World.frozen?; rw [hy]; simp
  · unfold World.frozen?; rw [hy]; simp

end Go.Proofs.Ythbjcjphplgobaa
