/- What all walks of this seat share: slices of integers that are read ('Row'), that are the call's own ('ownsRow'), and what stays. No Go function in sight. -/
import Derived.Test.YtahefkjgcdchlaaRows
import Derived.WalkKit
import Derived.ProofKit
import Derived.OpenShut
import Derived.Below
import Derived.IntWalk
import Derived.LoopTactic
import Derived.Lib.Hide
import Derived.Outline
import Derived.RowKit3
import Derived.Laws.OwnMore
import Derived.OwnWalk
import Derived.Laws.BytesArg
import Derived.Laws.IdiomStrings
import Derived.Laws.AppendOwnNone
import Derived.StillTailTactics
namespace Go.Proofs.Ytahefkjgcdchlaa
open Go.RowKit

/-- What the walk is told of a slice of integers that came in: it is nil; or it leads to a row of 'cap' cells, the numbers 'zs' (the first 'len' are its elements), each fitting its kind. -/
def IsRow (k : IntKind) (w : World) (a : Option Addr) (len cap : Nat) (zs : List Int) : Prop :=
  (a = none ∧ len = 0 ∧ cap = 0 ∧ zs = []) ∨
  ∃ x, a = some x ∧ len ≤ cap ∧ cap ≤ maxLen ∧ zs.length = cap ∧ (∀ i, i < zs.length → w.cell? (x.add i) = some (.int k (zs.getD i 0))) ∧ ∀ n ∈ zs, (Lit.int k n).wf = true

/-- The slice value reads as the numbers l, each fitting its kind. -/
structure Row (k : IntKind) (w : World) (a : Option Addr) (len cap : Nat) (l : List Int) : Prop where
  hlen : l.length = len
  hcap : len ≤ cap
  hmax : cap ≤ maxLen
  wf : ∀ n ∈ l, (Lit.int k n).wf = true
  cells : 0 < len → ∃ b off, a = some ⟨b, off, none⟩ ∧ b < w.heap.size ∧ ∀ i, i < len → w.cell? ⟨b, off + i, none⟩ = some (.int k (l.getD i 0))
  nil : a = none → cap = 0

theorem cell_lt {w : World} {p : Addr} {v : Value} (h : w.cell? p = some v) : p.block < w.heap.size := by
  unfold World.cell? at h
  apply Classical.byContradiction
  intro hb
  rw [Array.getElem?_eq_none (by omega)] at h
  simp at h

theorem Row.of_isRow {k : IntKind} {w : World} {a : Option Addr} {len cap : Nat} {zs : List Int} (h : IsRow k w a len cap zs) : Row k w a len cap (zs.take len) := by
  rcases h with ⟨rfl, rfl, rfl, rfl⟩ | ⟨x, rfl, h1, h2, h3, h4, h5⟩
  · exact ⟨rfl, by omega, by unfold maxLen; omega, by simp, fun h => absurd h (by omega), fun _ => rfl⟩
  · refine ⟨by simp; omega, h1, h2, fun n hn => h5 n (List.mem_of_mem_take hn), fun hp => ?_, fun h => by simp at h⟩
    obtain ⟨b, off, spot⟩ := x
    have hc := h4 0 (by omega)
    have hspot : spot = none := by simpa [Addr.add] using World.cell?_spot hc
    subst hspot
    have hb := cell_lt hc
    refine ⟨b, off, rfl, by simpa [Addr.add] using hb, fun i hi => ?_⟩
    have hci := h4 i (by omega)
    have e : (zs.take len).getD i 0 = zs.getD i 0 := by simp [List.getD, hi]
    rw [e, ← hci]
    congr 1
    unfold Addr.add; split <;> simp_all

theorem Row.below {k : IntKind} {w w' : World} {a : Option Addr} {len cap : Nat} {l : List Int} {B : Nat} (h : Row k w a len cap l) (hb : Below B w w') (hB : w.heap.size ≤ B) : Row k w' a len cap l :=
  ⟨h.hlen, h.hcap, h.hmax, h.wf, fun hp => by
    obtain ⟨b, off, ha, hlt, hc⟩ := h.cells hp
    exact ⟨b, off, ha, Nat.lt_of_lt_of_le hlt hb.size, fun i hi => (hb.cell (p := ⟨b, off + i, none⟩) (by simp; omega)).trans (hc i hi)⟩, h.nil⟩

theorem Row.own {k : IntKind} {w : World} {base e : Nat} {v : Value} {l : List Int} (h : w.ownsRow base e 1 v l.length (l.map (Value.int k))) (hwf : ∀ n ∈ l, (Lit.int k n).wf = true) :
    ∃ a cap, v = .slice a l.length cap ∧ Row k w a l.length cap l := by
  obtain ⟨h1, h2⟩ := h
  rcases h2 with ⟨rfl, h0⟩ | ⟨g, cap, cur, rfl, hg, hh, hn, hm, hs, ht⟩
  · exact ⟨none, 0, by rw [h0], ⟨rfl, by omega, by unfold maxLen; omega, hwf, fun hp => by omega, fun _ => rfl⟩⟩
  · have hlt : g < w.heap.size := by
      apply Classical.byContradiction
      intro hb
      rw [Array.getElem?_eq_none (by omega)] at hh
      simp at hh
    refine ⟨_, cap, rfl, ⟨rfl, hn, hm, hwf, fun hp => ⟨g, 0, rfl, hlt, fun i hi => ?_⟩, fun h => by simp at h⟩⟩
    have hx : cur.toList[i]? = some (.int k (l.getD i 0)) := by
      have : (cur.toList.take (l.length * 1))[i]? = some (.int k (l.getD i 0)) := by
        rw [ht]; simp [List.getD, List.getElem?_eq_getElem hi]
      rw [List.getElem?_take] at this
      simpa [hi] using this
    simp only [World.cell?, hh, Nat.zero_add]
    simpa using hx

/-- a part that is not empty: s[at:at+m] -/
theorem Row.sub {k : IntKind} {w : World} {b off len cap : Nat} {l : List Int} (h : Row k w (some ⟨b, off, none⟩) len cap l) (at_ m : Nat) (hm : at_ + m ≤ len) :
    Row k w (some ⟨b, off + at_, none⟩) m (cap - at_) ((l.drop at_).take m) := by
  have h1 := h.hlen
  have h2 := h.hcap
  have h3 := h.hmax
  refine ⟨by simp; omega, by omega, by omega, fun n hn => h.wf n (List.mem_of_mem_drop (List.mem_of_mem_take hn)), fun hp => ?_, fun h => by simp at h⟩
  obtain ⟨b', off', e, hlt, hc⟩ := h.cells (by omega)
  simp only [Option.some.injEq, Addr.mk.injEq] at e
  obtain ⟨rfl, rfl, _⟩ := e
  refine ⟨b, off + at_, rfl, hlt, fun i hi => ?_⟩
  have e : ((l.drop at_).take m).getD i 0 = l.getD (at_ + i) 0 := by simp [List.getD, hi]
  rw [e, ← hc (at_ + i) (by omega), Nat.add_assoc]

/-- s[:m] -/
theorem Row.take {k : IntKind} {w : World} {a : Option Addr} {len cap : Nat} {l : List Int} (h : Row k w a len cap l) (m : Nat) (hm : m ≤ len) : Row k w a m cap (l.take m) := by
  have h1 := h.hlen
  have h2 := h.hcap
  refine ⟨by simp; omega, by omega, h.hmax, fun n hn => h.wf n (List.mem_of_mem_take hn), fun hp => ?_, h.nil⟩
  obtain ⟨b, off, e, hlt, hc⟩ := h.cells (by omega)
  refine ⟨b, off, e, hlt, fun i hi => ?_⟩
  rw [hc i (by omega)]
  simp [List.getD, hi]

theorem bcell {W w1 : World} (hb : Below W.heap.size W w1) : (∀ b o, b < W.heap.size → w1.cell? ⟨b, o, none⟩ = W.cell? ⟨b, o, none⟩) ∧ (∀ b o, b < W.heap.size → w1.frozen? ⟨b, o, none⟩ = W.frozen? ⟨b, o, none⟩) :=
  ⟨fun b o h => hb.cell (p := ⟨b, o, none⟩) h, fun b o h => hb.frozen (p := ⟨b, o, none⟩) h⟩
theorem ret_int {k : IntKind} {a b : Int} (h : a = b) : Ending.returned (.int k a) = .returned (.int k b) := by rw [h]
theorem ret_bool {a b : Bool} (h : a = b) : Ending.returned (.bool a) = .returned (.bool b) := by rw [h]

/-- the numbers l as cells of kind k -/
def nums (k : IntKind) (l : List Int) : List Value := l.map (Value.int k)

/-- An element type of the program that is an integer kind: its row of the table, and the slice type over it. -/
structure Elem (P : Program) (T E : TypeId) (k : IntKind) : Prop where
  sl : P.underlying T = some (.slice E)
  info : ∃ b, b ≤ 8 ∧ (P.info? E).map (fun i => (i.zero, i.size, i.bytes)) = some (some (.int k 0), 1, b)

/-- the one cell of a block that was just laid (append of one element lays it in a block of its own) -/
theorem one_new (w : World) (e : TypeId) (k : IntKind) (c : Int) : ∀ j, j < 1 → (w.alloc (.cells #[.int k c] e)).cell? ((⟨w.heap.size, 0, none⟩ : Addr).add j) = some (.int k ([c].getD j 0)) := by
  intro j hj
  obtain rfl : j = 0 := by omega
  simp [Addr.add]
section laws
variable {P : Program} {T E : TypeId} {k : IntKind} (he : Elem P T E k) (w : World) {ops : Array Oper} {rest : List Oper} {o : Oper} {a : Act} {Q : Exit → Act → World → Prop} (hg : o.guard = none)
include he hg

/-- make([]T, n) -/
theorem law_make (l c : Operand) (hop : o.op = Op.makeSlice T l c) (kl kc : IntKind) (L C : Int) (n : Nat) (hl : a.eval l = .int kl L) (hc : a.eval c = .int kc C) (hL : L = (n : Int)) (hC : C = (n : Int)) (hn : n ≤ 17592186044416)
    (hK : ∀ w', w'.ownsRow w.heap.size E 1 (.slice (some ⟨w.heap.size, 0, none⟩) n n) n (nums k (List.replicate n 0)) → Below w.heap.size w w' → w.heap.size < w'.heap.size → wpList P ops Q rest (a.put o.dst (.slice (some ⟨w.heap.size, 0, none⟩) n n)) w') :
    wpList P ops Q (o :: rest) a w := by
  obtain ⟨b, hb, hi⟩ := he.info
  obtain ⟨i0, hi, hz0, hz1, hz2⟩ := info_parts hi
  refine wpList_make_full w hg l c T hop w.heap.size E i0 (.int k 0) 1 he.sl hi hz0 hz1 kl kc L C n hl hc hL hC ?_ (by unfold maxLen; omega) (Nat.le_refl _) fun w' h1 h2 => hK w' ?_ ((Below.refl _ _).grown h2 (Nat.le_refl _) (by simp)) (h1.lt _ rfl).2
  · rw [hz2]
    calc b * n ≤ 8 * n := Nat.mul_le_mul_right n hb
      _ ≤ 281474976710656 := by omega
  · rw [Nat.mul_one, show (Value.int k 0).cells = #[Value.int k 0] from rfl, toList_madeCells_one] at h1
    simpa [nums] using h1

/-- append(s, x...) where s is the call's own and x is a row of numbers somewhere. -/
theorem law_append (s x : Operand) (hop : o.op = Op.call { callee := Callee.builtin Builtin.append, args := #[s, x], argTypes := #[T, T] }) (base : Nat) (v : Value) (n : Nat) (l : List Int) (hs : a.eval s = v)
    (hown : w.ownsRow base E 1 v n (nums k l)) (ad : Addr) (m c : Nat) (news : List Int) (hx : a.eval x = .slice (some ad) m c) (hl : news.length = m)
    (hnews : ∀ j, j < m → w.cell? (ad.add j) = some (.int k (news.getD j 0))) (hn : n + m ≤ 17592186044416) (hbase : base ≤ w.heap.size)
    (hK : ∀ v' w', w'.ownsRow base E 1 v' (n + m) (nums k (l ++ news)) → Below base w w' → wpList P ops Q rest (a.put o.dst v') w') :
    wpList P ops Q (o :: rest) a w := by
  obtain ⟨b, hb, hi⟩ := he.info
  obtain ⟨i0, hi, hz0, hz1, hz2⟩ := info_parts hi
  refine wpList_append_own w hg s x T hop base E i0 (.int k 0) 1 b he.sl hi hz0 hz1 hz2 rfl (by decide) v n (nums k l) hs hown ad m c (nums k news) hx (by simp [nums, hl]) ?_ (ints_oneCell k news) (by unfold maxLen; omega) ?_ hbase fun v' w' h1 h2 _ => hK v' w' ?_ ?_
  · intro j u hj
    simp only [nums, List.getElem?_map, Option.map_eq_some_iff] at hj
    obtain ⟨z, hz, rfl⟩ := hj
    have hlt : j < news.length := by
      apply Classical.byContradiction; intro h; rw [List.getElem?_eq_none (by omega)] at hz; simp at hz
    rw [hnews j (by omega)]; simp [List.getD, hz]
  · calc (n + m) * b ≤ (n + m) * 8 := Nat.mul_le_mul_left _ hb
      _ ≤ 140737488355328 := by omega
  · simpa [nums] using h1
  · exact (Below.refl _ _).grown h2 hbase fun g hg => (hown.lt g hg).1

/-- append(s, c): one number -/
theorem law_append1 (s x : Operand) (hop : o.op = Op.call { callee := Callee.builtin Builtin.append, args := #[s, x], argTypes := #[T, T] }) (base : Nat) (v : Value) (n : Nat) (l : List Int) (hs : a.eval s = v)
    (hown : w.ownsRow base E 1 v n (nums k l)) (c : Int) (hx : a.eval x = .slice (some ⟨w.heap.size, 0, none⟩) 1 1) (hn : n < 17592186044416) (hbase : base ≤ w.heap.size)
    (hK : ∀ v' w', w'.ownsRow base E 1 v' (n + 1) (nums k (l ++ [c])) → Below base w w' → wpList P ops Q rest (a.put o.dst v') w') :
    wpList P ops Q (o :: rest) a (w.alloc (.cells #[.int k c] E)) :=
  law_append he _ hg s x hop base v n l hs (hown.alloc _) ⟨w.heap.size, 0, none⟩ 1 1 [c] hx rfl (one_new w E k c) (by omega) (by simp; omega) fun v' w' h1 h2 => hK v' w' h1 (((Below.refl base w).alloc hbase _).trans h2)

/-- append(s, x...): x is whatever reads as numbers (nil and empty ones too) -/
theorem law_appendRow (s x : Operand) (hop : o.op = Op.call { callee := Callee.builtin Builtin.append, args := #[s, x], argTypes := #[T, T] }) (base : Nat) (v : Value) (n : Nat) (l : List Int) (hs : a.eval s = v)
    (hown : w.ownsRow base E 1 v n (nums k l)) (ax : Option Addr) (m cx : Nat) (news : List Int) (hx : a.eval x = .slice ax m cx) (hr : Row k w ax m cx news) (hn : n + m ≤ 17592186044416) (hbase : base ≤ w.heap.size)
    (hK : ∀ v' w', w'.ownsRow base E 1 v' (n + m) (nums k (l ++ news)) → Below base w w' → wpList P ops Q rest (a.put o.dst v') w') :
    wpList P ops Q (o :: rest) a w := by
  match ax, hx, hr with
  | none, hx, hr =>
    have h0 := hr.nil rfl; have h1 := hr.hlen; have h2 := hr.hcap
    obtain rfl : cx = 0 := h0
    obtain rfl : m = 0 := by omega
    have : news = [] := List.eq_nil_of_length_eq_zero h1
    subst this
    obtain ⟨b, hb, hi⟩ := he.info
    obtain ⟨i0, hi, hz0, hz1, hz2⟩ := info_parts hi
    refine wpList_append_own_none hg s x T hop base E i0 1 he.sl hi v n (nums k l) hs hown hx ?_
    exact hK v w (by simpa using hown) (Below.refl _ _)
  | some ad, hx, hr =>
    refine law_append he w hg s x hop base v n l hs hown ad m cx news hx hr.hlen (fun j hj => ?_) hn hbase hK
    obtain ⟨b, off, e, _, hc⟩ := hr.cells (by omega)
    simp only [Option.some.injEq] at e
    subst e
    rw [← hc j hj]
    congr 1
    unfold Addr.add; split <;> simp_all
end laws


theorem Row.nil_row (k : IntKind) (w : World) : Row k w none 0 0 [] := ⟨rfl, by omega, by unfold maxLen; omega, by simp, fun h => absurd h (by omega), fun _ => rfl⟩

/-- string(b) -/
theorem Row.str {P : Program} {w : World} {a : Option Addr} {len cap : Nat} {l : List Int} (h : Row .u8 w a len cap l) {T E S : TypeId} (hT : P.underlying T = some (.slice E)) (hE : P.underlying E = some (.int .u8)) (hS : P.underlying S = some .string) :
    (convert T S (.slice a len cap)).run P w = .ok (.string (strOfNums l)) w := by
  match a, h with
  | none, h =>
    have := h.nil rfl; have h1 := h.hlen; have h2 := h.hcap
    have : l = [] := List.eq_nil_of_length_eq_zero (by omega)
    subst this
    exact run_convert_bytes_nil w T E hT hE _ _ S hS
  | some ⟨b, off, spot⟩, h =>
    by_cases hp : 0 < len
    · obtain ⟨b', off', e, _, hc⟩ := h.cells hp
      simp only [Option.some.injEq, Addr.mk.injEq] at e
      obtain ⟨rfl, rfl, rfl⟩ := e
      exact run_convert_bytes_arg w T E hT hE b off len cap l h.hlen hc S hS
    · obtain rfl : len = 0 := by omega
      have : l = [] := List.eq_nil_of_length_eq_zero h.hlen
      subst this
      exact run_convert_bytes_back w T S E ⟨b, off, spot⟩ cap [] hT hE hS (by simp)

theorem strOfNums_inj {l l' : List Int} (h : ∀ n ∈ l, 0 ≤ n ∧ n ≤ 255) (h' : ∀ n ∈ l', 0 ≤ n ∧ n ≤ 255) (e : (strOfNums l).toList = (strOfNums l').toList) : l = l' := by
  have e1 : (l.map fun n => UInt8.ofNat n.toNat) = l'.map fun n => UInt8.ofNat n.toNat := by
    rw [← strOfNums_data, ← strOfNums_data, ← ByteArray.toList_eq, ← ByteArray.toList_eq, e]
  have back : ∀ l : List Int, (∀ n ∈ l, 0 ≤ n ∧ n ≤ 255) → (l.map fun n => UInt8.ofNat n.toNat).map (fun c => (c.toNat : Int)) = l := by
    intro l hl
    rw [List.map_map]
    conv => rhs; rw [← List.map_id l]
    apply List.map_congr_left
    intro n hn
    have := hl n hn
    simp only [Function.comp, id]
    rw [UInt8.toNat_ofNat_of_lt' (by simp [UInt8.size]; omega)]
    omega
  rw [← back l h, ← back l' h', e1]
/-- string(a) == string(b) is a == b -/
theorem str_beq {l l' : List Int} (h : ∀ n ∈ l, 0 ≤ n ∧ n ≤ 255) (h' : ∀ n ∈ l', 0 ≤ n ∧ n ≤ 255) : ((strOfNums l).toList == (strOfNums l').toList) = (l == l') := by
  by_cases e : l = l'
  · subst e; simp
  · have : (strOfNums l).toList ≠ (strOfNums l').toList := fun e' => e (strOfNums_inj h h' e')
    rw [beq_eq_false_iff_ne.2 e, beq_eq_false_iff_ne.2 this]
/-- []byte{} -/
theorem own_empty (w : World) (e : TypeId) (k : IntKind) : (w.alloc (.cells #[] e)).ownsRow w.heap.size e 1 (.slice (some ⟨w.heap.size, 0, none⟩) 0 0) 0 (nums k []) :=
  World.ownsRow_lit w #[] 0 (Nat.le_refl _) (by unfold maxLen; omega) rfl

/-- A guarded operation of a region that does not run. -/
theorem still_skip {P : Program} {ops : Array Oper} {w : World} {Q : Act → Prop} {a : Act} {o : Oper} {rest : List Oper} (hw : Region.wanted o (yielded ops a.tmps) = false) (h : wpStill P ops w Q rest (a.put o.dst undef)) :
    wpStill P ops w Q (o :: rest) a := by
  rw [wpStill, if_neg (by rw [hw]; decide)]; exact h
end Go.Proofs.Ytahefkjgcdchlaa
