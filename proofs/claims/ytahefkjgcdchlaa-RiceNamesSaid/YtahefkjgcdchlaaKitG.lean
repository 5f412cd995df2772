/- What all walks share beyond Kit, of any kind: rows of a call's own, copies, appends. No Go function in sight. -/
import Derived.Test.YtahefkjgcdchlaaKit
import Derived.Deep.AppendLies
import Derived.Laws.OwnMore
import Derived.Laws.CopyOwn
import Derived.OwnWalk
import Derived.Handy
import Derived.Deep.RegionHeld3
import Derived.WalkSpells
import Derived.StillTactics
import Derived.Deep.Draws
namespace Go.Proofs.Ytahefkjgcdchlaa
open Go.RowKit

theorem u8_bd {l : List Int} (h : ∀ n ∈ l, (Lit.int .u8 n).wf = true) : ∀ n ∈ l, 0 ≤ n ∧ n ≤ 255 := fun n hn => bounds_u8 (h n hn)

theorem getD_bd {l : List Int} (h : ∀ n ∈ l, 0 ≤ n ∧ n ≤ 255) (i : Nat) : 0 ≤ l.getD i 0 ∧ l.getD i 0 ≤ 255 := by
  by_cases hi : i < l.length
  · simpa [List.getD, hi] using h _ (List.getElem_mem hi)
  · simp [List.getD, Nat.not_lt.1 hi]

/-- the cells of a block that was just laid -/
theorem box_cell (w : World) (cs : Array Value) (t : TypeId) (o : Nat) : (w.alloc (.cells cs t)).cell? ⟨w.heap.size, o, none⟩ = cs[o]? := by
  unfold World.cell?
  rw [heap_alloc_new]
  rfl

/-- a row lies where its block lies -/
theorem own_congr {w w' : World} {base e n : Nat} {v : Value} {xs : List Value} (h : w.ownsRow base e 1 v n xs) (hg : ∀ g, v.ownBlock = some g → w'.heap[g]? = w.heap[g]?) : w'.ownsRow base e 1 v n xs := by
  refine ⟨h.1, ?_⟩
  rcases h.2 with h0 | ⟨g, cap, cur, rfl, h1, h2, h3⟩
  · exact .inl h0
  · exact .inr ⟨g, cap, cur, rfl, h1, by rw [hg g rfl]; exact h2, h3⟩

theorem nums_set (l : List Int) (j : Nat) (c : Int) : (nums .u8 l).set j (.int .u8 c) = nums .u8 (l.set j c) := by simp [nums, List.map_set]

theorem own_form {w : World} {base e n : Nat} {v : Value} {xs : List Value} (h : w.ownsRow base e 1 v n xs) : ∃ a c, v = .slice a n c := by
  rcases h.2 with ⟨rfl, h0⟩ | ⟨g, cap, cur, rfl, _⟩
  · exact ⟨none, 0, by rw [h0]⟩
  · exact ⟨_, _, rfl⟩

theorem own_base {w : World} {base base' e n : Nat} {v : Value} {xs : List Value} (h : w.ownsRow base e 1 v n xs) (hb : base' ≤ base) : w.ownsRow base' e 1 v n xs := by
  refine ⟨h.1, ?_⟩
  rcases h.2 with h0 | ⟨g, cap', cur', e, h1, h2⟩
  · exact .inl h0
  · exact .inr ⟨g, cap', cur', e, by omega, h2⟩

theorem own_below {w w' : World} {base e n B : Nat} {v : Value} {xs : List Value} (h : w.ownsRow base e 1 v n xs) (hb : Below B w w') (hB : w.heap.size ≤ B) : w'.ownsRow base e 1 v n xs :=
  own_congr h fun g e => hb.block g (Nat.lt_of_lt_of_le (h.lt g e).2 hB)

theorem Below.drewN {B : Nat} {w w' : World} (h : Below B w w') (n : Nat) : Below B w (w'.drewN n) := ⟨h.os, h.tape, h.output, h.size, h.block⟩

theorem Row.of_own {k : IntKind} {w : World} {base e n c : Nat} {a : Option Addr} {l : List Int} (h : w.ownsRow base e 1 (.slice a n c) n (nums k l)) (hwf : ∀ x ∈ l, (Lit.int k x).wf = true) : Row k w a n c l := by
  have hl : l.length = n := by have := h.1; simpa [nums] using this
  subst hl
  obtain ⟨a1, c1, ev, hrow⟩ := Row.own h hwf
  cases ev
  exact hrow

theorem Row.clip {k : IntKind} {w : World} {a : Option Addr} {len cap : Nat} {l : List Int} (h : Row k w a len cap l) : Row k w a len len l :=
  ⟨h.hlen, Nat.le_refl _, Nat.le_trans h.hcap h.hmax, h.wf, h.cells, fun e => by have := h.nil e; have := h.hcap; omega⟩

theorem u8_wf {l : List Int} (h : ∀ x ∈ l, 0 ≤ x ∧ x ≤ 255) : ∀ x ∈ l, (Lit.int .u8 x).wf = true := fun x hx => by
  exact WalkArith.wf_u8 (h x hx)

theorem below1 (W : World) (o : Obj) : Below W.heap.size W (W.alloc o) := (Below.refl _ _).alloc (Nat.le_refl _) _

theorem lit_rowK (k : IntKind) (E : TypeId) (w : World) (l : List Int) (n : Nat) (fr : Nat × Nat) (hn : l.length = n) (hn2 : n ≤ 1000) (hl : ∀ x ∈ l, (Lit.int k x).wf = true) : Row k (w.alloc (.cells (nums k l).toArray E fr)) (some ⟨w.heap.size, 0, none⟩) n n l := by
  refine ⟨hn, Nat.le_refl _, by unfold maxLen; omega, hl, fun hp => ⟨w.heap.size, 0, rfl, by simp, fun i hi => ?_⟩, fun h => by cases h⟩
  unfold World.cell?
  rw [heap_alloc_new]
  simp [nums, List.getD, show i < l.length by omega]

theorem nums_setK (k : IntKind) (l : List Int) (j : Nat) (c : Int) : (nums k l).set j (.int k c) = nums k (l.set j c) := by simp [nums, List.map_set]

theorem nums_len (k : IntKind) (l : List Int) : (nums k l).length = l.length := by simp [nums]
theorem nums_get (k : IntKind) (l : List Int) {i : Nat} (h : i < l.length) : (nums k l)[i]? = some (.int k (l.getD i 0)) := by simp [nums, List.getD, h]
theorem getD_mem {l : List Int} {i : Nat} (h : i < l.length) : l.getD i 0 ∈ l := by
  rw [show l.getD i 0 = l[i] by simp [List.getD, h]]; exact List.getElem_mem _

theorem own_pos {w : World} {base e n : Nat} {v : Value} {xs : List Value} (h : w.ownsRow base e 1 v n xs) (hn : 0 < n) : ∃ g c, v = .slice (some ⟨g, 0, none⟩) n c ∧ base ≤ g ∧ g < w.heap.size := by
  rcases h.2 with ⟨_, h0⟩ | ⟨g, cap, cur, rfl, _⟩
  · omega
  · exact ⟨g, cap, rfl, h.lt g rfl⟩

/-- the first k numbers of a list, and zeros behind them -/
def fillTo (l : List Int) (k : Nat) : List Int := l.take k ++ List.replicate (l.length - k) 0
theorem fillTo_0 (l : List Int) : fillTo l 0 = List.replicate l.length 0 := by simp [fillTo]
theorem fillTo_all (l : List Int) {k : Nat} (h : l.length ≤ k) : fillTo l k = l := by
  unfold fillTo; rw [List.take_of_length_le h, show l.length - k = 0 by omega]; simp
theorem fillTo_len (l : List Int) {k : Nat} (h : k ≤ l.length) : (fillTo l k).length = l.length := by simp [fillTo]; omega
theorem fillTo_set (l : List Int) {k : Nat} (h : k < l.length) : (fillTo l k).set k (l.getD k 0) = fillTo l (k + 1) := by
  unfold fillTo
  rw [List.take_add_one, List.getElem?_eq_getElem h, show l.length - k = (l.length - (k + 1)) + 1 by omega, List.replicate_succ, List.set_append_right _ _ (by simp; omega)]
  rw [show k - (List.take k l).length = 0 by rw [List.length_take]; omega]
  simp only [List.set_cons_zero, List.getD, List.getElem?_eq_getElem h, Option.getD_some, Option.toList_some, List.append_assoc, List.singleton_append]
theorem fillTo_nums (k : IntKind) (l : List Int) {j : Nat} (h : j < l.length) : (nums k (fillTo l j)).set j (.int k (l.getD j 0)) = nums k (fillTo l (j + 1)) := by
  rw [nums_setK, fillTo_set l h]
theorem getD_map (f : Int → Int) {l : List Int} {i : Nat} (h : i < l.length) : (l.map f).getD i 0 = f (l.getD i 0) := by simp [List.getD, h]

theorem take_next {l l' : List Int} {k : Nat} (h : l.take k = l'.take k) (h1 : k < l.length) (h2 : k < l'.length) (e : l.getD k 0 = l'.getD k 0) : l.take (k + 1) = l'.take (k + 1) := by
  simp only [List.getD, List.getElem?_eq_getElem h1, List.getElem?_eq_getElem h2, Option.getD_some] at e
  rw [List.take_add_one, List.take_add_one, h, List.getElem?_eq_getElem h1, List.getElem?_eq_getElem h2, e]
theorem take_snoc (l : List Int) {k : Nat} (h : k < l.length) : l.take (k + 1) = l.take k ++ [l.getD k 0] := by
  rw [List.take_add_one, List.getElem?_eq_getElem h]; simp [List.getD, h]

section
variable {P : Program} {T E : TypeId} {k : IntKind} (he : Elem P T E k) (w : World) {ops : Array Oper} {rest : List Oper} {o : Oper} {a : Act} {Q : Exit → Act → World → Prop} (hg : o.guard = none)
include he hg
/-- copy(d, s): d is the call's own row, s is whatever reads as numbers -/
theorem law_copyRow (d s : Operand) (sT : TypeId) (hop : o.op = Op.call { callee := Callee.builtin Builtin.copy, args := #[d, s], argTypes := #[T, sT] }) (base g n c : Nat) (old : List Int) (hd : a.eval d = .slice (some ⟨g, 0, none⟩) n c)
    (hown : w.ownsRow base E 1 (.slice (some ⟨g, 0, none⟩) n c) n (nums k old)) (ax : Option Addr) (m cx : Nat) (news : List Int) (hx : a.eval s = .slice ax m cx) (hr : Row k w ax m cx news) (hm : m ≤ n)
    (hK : ∀ w', w'.ownsRow base E 1 (.slice (some ⟨g, 0, none⟩) n c) n (nums k (news ++ old.drop m)) → Below g w w' → wpList P ops Q rest (a.put o.dst (goInt m)) w') :
    wpList P ops Q (o :: rest) a w := by
  obtain ⟨b, hb, hi⟩ := he.info
  have hsz : (P.info? E).map (·.size) = some 1 := by
    obtain ⟨i0, hi, _, hz1, _⟩ := info_parts hi
    rw [hi]; simp [hz1]
  obtain ⟨hl, h2⟩ := hown
  rcases h2 with ⟨h0, _⟩ | ⟨g', cap, cur, e, hbg, hh, hn, hmx, hs, ht⟩
  · cases h0
  simp only [Value.slice.injEq, Option.some.injEq, Addr.mk.injEq] at e
  obtain ⟨⟨rfl, _, _⟩, _, rfl⟩ := e
  have hlen := hr.hlen
  refine wpList_copy_splice hg d s T sT hop E he.sl hsz (some ⟨g, 0, none⟩) ax n c m cx hd hx g 0 cur.toList E (by simpa using hh) (nums k news) (by show _ = min m n; rw [Nat.min_eq_left hm]; simp [nums, hlen]) ?_ (by simp [nums]; omega) (ints_oneCell k news) g w (Below.refl _ _) (Nat.le_refl _) ?_
  · intro hp
    obtain ⟨b', off, rfl, hlt, hc⟩ := hr.cells (by simpa [nums, hlen] using hp)
    refine ⟨rfl, _, rfl, fun j v hj => ?_⟩
    simp only [nums, List.getElem?_map, Option.map_eq_some_iff] at hj
    obtain ⟨z, hz, rfl⟩ := hj
    have hlt' : j < news.length := by
      apply Classical.byContradiction; intro h; rw [List.getElem?_eq_none (by omega)] at hz; simp at hz
    rw [show (⟨b', off, none⟩ : Addr).add j = ⟨b', off + j, none⟩ by unfold Addr.add; split <;> simp_all, hc j (by omega)]
    simp [List.getD, hz]
  · intro w' h1 h2
    have h1 : w'.heap[g]? = some (.cells (splice cur.toList 0 (nums k news)).toArray E (0, 0)) := h1
    have hcur : cur.toList.length = c := by simpa using hs
    have hnl : (nums k news).length = m := by simp [nums, hlen]
    have hfin : (nums k (news ++ old.drop m)).length = n := by
      have : old.length = n := by simpa [nums] using hl
      simp [nums, hlen, this]; omega
    have e := hK w' ⟨by simpa using hfin, .inr ⟨g, c, _, rfl, hbg, h1, hn, hmx, ?_, ?_⟩⟩ h2
    · rw [show (goInt m) = goInt (nums k news).length by rw [hnl]] at e; exact e
    · simp [splice, hcur, hnl]; omega
    · simp only [splice, List.take_zero, List.nil_append, Nat.zero_add, hnl, Nat.mul_one]
      rw [List.take_append, hnl, List.take_of_length_le (by omega)]
      simp only [nums, List.map_append, List.map_drop]
      congr 1
      simp only [Nat.mul_one] at ht
      unfold nums at ht
      rw [← ht, List.drop_take]
end

section
variable {P : Program} {T E : TypeId} {k : IntKind} (he : Elem P T E k) (w : World) {ops : Array Oper} {o : Oper} {a : Act} {K : Act → World → Prop} {Q : Exit → Act → World → Prop} {F : Prop} (hg : o.guard = none)
include he hg
/-- append(s, x...) in a region that draws its order: x is whatever reads as numbers -/
theorem step_appendRow (s x : Operand) (hop : o.op = Op.call { callee := Callee.builtin Builtin.append, args := #[s, x], argTypes := #[T, T] }) (base : Nat) (v : Value) (n : Nat) (l : List Int) (hs : a.eval s = v)
    (hown : w.ownsRow base E 1 v n (nums k l)) (ax : Option Addr) (m cx : Nat) (news : List Int) (hx : a.eval x = .slice ax m cx) (hr : Row k w ax m cx news) (hn : n + m ≤ 17592186044416) (hbase : base ≤ w.heap.size)
    (hK : ∀ v' w', w'.ownsRow base E 1 v' (n + m) (nums k (l ++ news)) → w.grownBy w' v.ownBlock → K (a.put o.dst v') w') :
    if Region.wanted o (yielded ops a.tmps) = true then Oper.wp P o a w K Q else F := by
  have hw : Region.wanted o (yielded ops a.tmps) = true := by simp [Region.wanted, hg]
  rw [if_pos hw]
  obtain ⟨b, hb, hi⟩ := he.info
  obtain ⟨i0, hi, hz0, hz1, hz2⟩ := info_parts hi
  match ax, hx, hr with
  | none, hx, hr =>
    have h0 := hr.nil rfl; have h1 := hr.hlen; have h2 := hr.hcap
    obtain rfl : cx = 0 := h0
    obtain rfl : m = 0 := by omega
    have : news = [] := List.eq_nil_of_length_eq_zero h1
    subst this
    have hrun := run_append_owned_none (P := P) (w := w) base T o.type E i0 1 he.sl hi v n (nums k l) hown
    unfold Oper.wp
    simp [execOp, hop, resolve, invoke, builtin, hs, hx, hrun, Result.andThen]
    exact hK _ _ (by simpa using hown) (World.grownBy.refl _ _)
  | some ad, hx, hr =>
    refine wp_append_own w s x T hop base E i0 (.int k 0) 1 b he.sl hi hz0 hz1 hz2 rfl (by decide) v n (nums k l) hs hown ad m cx (nums k news) hx (by simp [nums, hr.hlen]) ?_ (ints_oneCell k news) (by unfold maxLen; omega) ?_ hbase fun v' w' h1 h2 _ => hK v' w' (by simpa [nums] using h1) h2
    · intro j u hj
      simp only [nums, List.getElem?_map, Option.map_eq_some_iff] at hj
      obtain ⟨z, hz, rfl⟩ := hj
      have hlt : j < news.length := by
        apply Classical.byContradiction; intro h; rw [List.getElem?_eq_none (by omega)] at hz; simp at hz
      have hl := hr.hlen
      obtain ⟨b', off, e, _, hc⟩ := hr.cells (by omega)
      simp only [Option.some.injEq] at e
      subst e
      rw [show (⟨b', off, none⟩ : Addr).add j = ⟨b', off + j, none⟩ by unfold Addr.add; split <;> simp_all, hc j (by omega)]
      simp [List.getD, hz]
    · calc (n + m) * b ≤ (n + m) * 8 := Nat.mul_le_mul_left _ hb
        _ ≤ 140737488355328 := by omega
end

section
variable {P : Program} {T E : TypeId} {k : IntKind} (he : Elem P T E k) (w : World) {ops : Array Oper} {rest : List Oper} {o : Oper} {a : Act} {Q : Exit → Act → World → Prop} (hg : o.guard = none)
include he hg
/-- append(s, x...): x is whatever reads as numbers; and what stays -/
theorem law_appendRowK (s x : Operand) (hop : o.op = Op.call { callee := Callee.builtin Builtin.append, args := #[s, x], argTypes := #[T, T] }) (base : Nat) (v : Value) (n : Nat) (l : List Int) (hs : a.eval s = v)
    (hown : w.ownsRow base E 1 v n (nums k l)) (ax : Option Addr) (m cx : Nat) (news : List Int) (hx : a.eval x = .slice ax m cx) (hr : Row k w ax m cx news) (hn : n + m ≤ 17592186044416) (hbase : base ≤ w.heap.size)
    (hK : ∀ v' w', w'.ownsRow base E 1 v' (n + m) (nums k (l ++ news)) → w.grownBy w' v.ownBlock → wpList P ops Q rest (a.put o.dst v') w') :
    wpList P ops Q (o :: rest) a w :=
  wpList_step fun _ hk => step_appendRow he w hg s x hop base v n l hs hown ax m cx news hx hr hn hbase fun v' w' h1 h2 => hk _ _ (hK v' w' h1 h2)
end
end Go.Proofs.Ytahefkjgcdchlaa
