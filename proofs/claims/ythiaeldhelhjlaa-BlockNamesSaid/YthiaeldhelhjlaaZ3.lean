/- Texts of the proof, one behind the other: BitN, BitO, RegT, RegX, RegY, BitF, BitA, BitB, MyBitA. -/
import Derived.Test.YthiaeldhelhjlaaZ2
import Derived.Deep.QuietTactic
import Derived.BigQuiet
import Derived.Deep.RegionHeld3
import Derived.StillTail
import Derived.Deep.RegionLaw
import Derived.Deep.RegionWith
/- Contracts of the reference's functions on bits: numbers put. -/
namespace Go.Proofs.Ythiaeldhelhjlaa
open Go.RowKit Cad

theorem Kept.setCell {base : Nat} {W w : World} (h : Kept base W w) (hb : base ≤ W.heap.size) {p : Addr} (hp : W.heap.size ≤ p.block) (u : Value) : Kept base W (w.setCell p u) :=
  ⟨h.bel.setCell (by omega) u, fun k hk hn => by rw [Below.heap_setCell _ _ _ _ (by omega)]; exact h.oth k hk hn⟩
theorem Kept.alloc {base : Nat} {W w : World} (h : Kept base W w) (hb : base ≤ W.heap.size) (o : Obj) : Kept base W (w.alloc o) :=
  ⟨h.bel.alloc (Nat.le_trans hb h.bel.size) o, fun k hk hn => by rw [Below.heap_alloc _ _ _ (Nat.lt_of_lt_of_le hk h.bel.size)]; exact h.oth k hk hn⟩
/-- a variable that holds bits: its block -/
def BoxAt (w : World) (x : Nat) (v : Value) (N : Int) : Prop := w.heap[x]? = some (.cells #[v, .int .i64 N] 29)
theorem BoxAt.cells {w : World} {x : Nat} {v : Value} {N : Int} (h : BoxAt w x v N) : w.cell? ⟨x, 0, none⟩ = some v ∧ w.cell? ⟨x, 1, none⟩ = some (.int .i64 N) ∧ w.frozen? ⟨x, 0, none⟩ = false ∧ w.frozen? ⟨x, 1, none⟩ = false := by
  unfold BoxAt at h
  refine ⟨?_, ?_, ?_, ?_⟩
  · unfold World.cell?; rw [h]; rfl
  · unfold World.cell?; rw [h]; rfl
  · unfold World.frozen?; rw [h]; simp
  · unfold World.frozen?; rw [h]; simp
theorem BoxAt.kept {w w' : World} {base x : Nat} {v : Value} {N : Int} (h : BoxAt w x v N) (k : Kept base w w') : BoxAt w' x v N := by
  unfold BoxAt at h ⊢
  have hx : x < w.heap.size := by
    apply Classical.byContradiction; intro hx; rw [Array.getElem?_eq_none (by omega)] at h; cases h
  rw [k.oth x hx (fun cur fr e => by rw [h] at e; simp at e), h]
theorem BoxAt.set {w : World} {x : Nat} {v : Value} {N : Int} (h : BoxAt w x v N) (v' : Value) (N' : Int) : BoxAt ((w.setCell ⟨x, 0, none⟩ v').setCell ⟨x, 1, none⟩ (.int .i64 N')) x v' N' := by
  have := heap_setCell_same _ _ 1 _ _ (.int .i64 N') (heap_setCell_same _ _ 0 _ _ v' h)
  unfold BoxAt
  rw [this]; simp
theorem BoxAt.other {w : World} {x : Nat} {v : Value} {N : Int} (h : BoxAt w x v N) {p : Addr} (hp : x ≠ p.block) (u : Value) : BoxAt (w.setCell p u) x v N := by
  unfold BoxAt at h ⊢
  rw [Below.heap_setCell _ _ _ _ hp, h]
theorem BoxAt.apart {w : World} {x : Nat} {v : Value} {N : Int} (h : BoxAt w x v N) {base n : Nat} {v' : Value} {xs : List Value} (ho : w.ownsRow base 5 1 v' n xs) : ∀ g, v'.ownBlock = some g → g ≠ x := by
  intro g e
  rcases ho.2 with ⟨rfl, _⟩ | ⟨g', cap, cur, rfl, _, hh, _⟩
  · cases e
  · cases e
    rintro rfl
    unfold BoxAt at h
    rw [h] at hh; simp at hh
theorem own_set {w : World} {x : Nat} {base n : Nat} {v' : Value} {xs : List Value} (ho : w.ownsRow base 5 1 v' n xs) (ha : ∀ g, v'.ownBlock = some g → g ≠ x) (o : Nat) (u : Value) : (w.setCell ⟨x, o, none⟩ u).ownsRow base 5 1 v' n xs :=
  own_congr ho fun g e => by rw [Below.heap_setCell _ _ _ _ (ha g e)]

end Go.Proofs.Ythiaeldhelhjlaa

/- Contracts of the reference's functions on bits: bits of bytes. -/
namespace Go.Proofs.Ythiaeldhelhjlaa
open Go.RowKit Cad

/-- a struct result in a cell, and a number beside it -/
theorem results_box_tmp {fn : Func} {p u : Tmp} (h : fn.results = #[.cell p 29, .tmp u]) (tmps : Array Value) (w : World) (x : Nat) (v : Value) (N : Int) (hp : tmps.getD p undef = .pointer (some ⟨x, 0, none⟩)) (hx : BoxAt w x v N) :
    (results fn tmps).run Try.prog w = .ok (.tuple #[.agg #[v, .int .i64 N], tmps.getD u undef]) w := by
  rw [results_cell_tmp h, hp]
  have := run_loadVar_row (P := Try.prog) w x _ 29 _ _ _ hx Try.underlying29 rfl (by kernel_rfl)
  simp [asAddr, Sem.run_pure, this]

theorem ROf_many (W : World) (a : Option Addr) (len cap : Nat) (h : (41250 : Int) < len) (hl : len ≤ 9223372036854775807) :
    Calls Try.prog 32 #[.slice a len cap] W fun e W' => e = .returned (.tuple #[.agg #[.slice none 0 0, .int .i64 0], .int .i64 4]) ∧ Below W.heap.size W W' := by
  go_enter Try.func32, Try.ntmps32
  go_wp2
  go_returns
  exact ⟨rfl, (Below.refl _ _).alloc (Nat.le_refl _) _⟩

theorem ROf_ok (W : World) (a : Option Addr) (len cap : Nat) (l : List Int) (hr : Row .u8 W a len cap l) (h : (len : Int) ≤ 41250) :
    Calls Try.prog 32 #[.slice a len cap] W fun e W' => ∃ v', e = .returned (.tuple #[.agg #[v', .int .i64 (8 * (len : Int))], .int .i64 0]) ∧
      W'.ownsRow W.heap.size 5 1 v' len (nums .u8 l) ∧ Below W.heap.size W W' := by
  have hownE : ((W.alloc (.cells #[.slice none 0 0, .int .i64 0] 29)).alloc (.cells #[] 5)).ownsRow (W.heap.size + 1) 5 1 (.slice (some ⟨W.heap.size + 1, 0, none⟩) 0 0) 0 (nums .u8 []) := by
    have := own_empty (W.alloc (.cells #[.slice none 0 0, .int .i64 0] 29)) 5 .u8
    simpa using this
  have hbE := ((Below.refl W.heap.size W).alloc (Nat.le_refl _) (.cells #[.slice none 0 0, .int .i64 0] 29)).alloc (by simp) (.cells #[] 5)
  have hrE := hr.below hbE (Nat.le_refl _)
  have hbE' := Go.Lib.hid hbE
  clear hr hbE
  go_enter Try.func32, Try.ntmps32
  go_wp2_with (at_builtin; refine law_appendRowK elU8 _ rfl _ _ rfl (W.heap.size + 1) _ 0 [] rfl hownE a len cap l rfl hrE (by omega) (by simp) ?_)
  intro v' w1 hown1 hgrow
  have hy1 : BoxAt w1 W.heap.size (.slice none 0 0) 0 := by
    unfold BoxAt
    rw [hgrow.block W.heap.size (by simp; omega) (by simp [Value.ownBlock]), Below.heap_alloc _ _ _ (by simp), heap_alloc_new]
  have hb1 := hbE'.out.grown hgrow (by simp; omega) (fun k hk => by simp [Value.ownBlock] at hk; omega)
  obtain ⟨av, cv, rfl⟩ := own_form hown1
  obtain ⟨d0, d1, g0, g1⟩ := hy1.cells
  have ap := hy1.apart hown1
  have hb1' := Go.Lib.hid hb1
  have hy1' := Go.Lib.hid hy1
  have ho1' := Go.Lib.hid hown1
  have hg1' := Go.Lib.hid (fun g (e : (Value.slice av len cv).ownBlock = some g) => (hown1.lt g e).1)
  clear hb1 hy1 hown1 hgrow hownE hrE
  go_wp2
  (try simp only [Exit.inBlock, Exit.then])
  refine bodyPost_ret (results_box_tmp (by rfl) _ _ W.heap.size _ _ rfl (hy1'.out.set _ _)) rfl ?_
  refine ⟨.slice av len cv, by simp, ?_, (hb1'.out.setCell (Nat.le_refl _) _).setCell (Nat.le_refl _) _⟩
  have h1 : w1.ownsRow W.heap.size 5 1 (.slice av len cv) len (nums .u8 l) := by
    refine ⟨ho1'.out.1, ?_⟩
    rcases ho1'.out.2 with h0 | ⟨g, cap', cur', e, h1, h2⟩
    · exact .inl h0
    · exact .inr ⟨g, cap', cur', e, by omega, h2⟩
  exact own_set (own_set h1 ap _ _) ap _ _
end Go.Proofs.Ythiaeldhelhjlaa

/- A region that draws its order: a head that leaves the world alone, walked by the cheap steps, and a tail in one forced order. No Go function in sight. -/
namespace Go.Proofs.Ythiaeldhelhjlaa
open Go.RowKit

theorem still_of_quiet {P : Program} {ops : Array Oper} {w : World} {Q : Act → Prop} : ∀ (l : List Oper) (a : Act), wpQuiet P ops (fun w' => w' = w) Q l a → wpStill P ops w Q l a
  | [], _, h => h
  | o :: l, a, h => by
    unfold wpQuiet at h
    unfold wpStill
    by_cases hw : Region.wanted o (yielded ops a.tmps) = true
    · rw [if_pos hw] at h ⊢
      obtain ⟨v, h1, h2⟩ := h
      have h3 := h1 w rfl
      have h4 := still_of_quiet l _ h2
      unfold Oper.quietAt at h3
      unfold Oper.still Oper.stillUpon
      generalize (execOp a.eval o).run P w = r at *
      cases r with
      | ok n w' =>
        cases n <;> simp only [Oper.quietUpon] at h3 ⊢
        case value u => exact ⟨h3.1, by rw [h3.2]; exact h4⟩
        case skip => exact ⟨h3.1, by rw [← h3.2]; exact h4⟩
        case enter f args => exact ⟨h3.1, v, h3.2, h4⟩
      | halt x w' => simp only [Oper.quietUpon] at h3
    · rw [if_neg hw] at h ⊢
      exact still_of_quiet l _ h

theorem wp_region_quiet_tail {P : Program} {id : Nat} {Q : Exit → Act → World → Prop} {a : Act} {w : World} {l : List Oper} (n : Nat) (hm : P.follows .mixedOrders = true) (hB : Region.lexTailB .any l.toArray n = true)
    (h : wpQuiet P l.toArray (fun w' => w' = w.drew) (fun a' => wpList P l.toArray Q (l.drop n) a' w.drew) (l.take n) a) : (Code.region id l.toArray true).wp P Q a w :=
  wp_region_still_tail n hm hB (still_of_quiet _ _ h)
end Go.Proofs.Ythiaeldhelhjlaa

/- A region that draws its order is walked once, in one order that is given: operations that only read and those that act (calls, stores, appends); the ones that act follow each other. No Go function in sight. -/
namespace Go.Proofs.Ythiaeldhelhjlaa
open Go.RowKit

section
variable {P : Program} {ops : Array Oper} {ex : List (Nat × Nat)} {C : World → Prop} {Q : Exit → Act → World → Prop}

/-- kinds: 0 looks at no world; 1 only looks at the world as it stands; 2 looks at what C holds; 3 acts, and C holds behind it; 4 acts, and nothing looks at what C holds behind it -/
def act (k : Nat) : Bool := k == 3 || k == 4
def needs (k : Nat) : Bool := !(k == 0 || k == 1 || k == 3 || k == 4)
def cls (C : World → Prop) (w : World) (k : Nat) (wa : World) : Prop := if k = 0 then True else if k = 1 then wa = w else C wa

def Held (P : Program) (ops : Array Oper) (D : World → Prop) (o : Oper) (a : Act) (v : Value) : Prop :=
  ∀ wa, D wa → ∃ v', a.put o.dst v' = a.put o.dst v ∧ (if Region.wanted o (yielded ops a.tmps) = true then o.quietAt P a (fun w' => w' = wa) wa v' else v' = undef)

def wpW (P : Program) (ops : Array Oper) (C : World → Prop) (Q : Exit → Act → World → Prop) : List (Nat × Oper) → Act → World → Prop
  | [], a, w => Q .normal a w
  | (k, o) :: rest, a, w =>
    if k = 3 then (if Region.wanted o (yielded ops a.tmps) = true then o.wp P a w (fun a' w' => C w' ∧ wpW P ops C Q rest a' w') Q else wpW P ops C Q rest (a.put o.dst undef) w)
    else if k = 4 then (if Region.wanted o (yielded ops a.tmps) = true then o.wp P a w (fun a' w' => wpW P ops C Q rest a' w') Q else wpW P ops C Q rest (a.put o.dst undef) w)
    else ∃ v, Held P ops (cls C w k) o a v ∧ wpW P ops C Q rest (a.put o.dst v) w

def nth : List Oper → Nat → Option Oper
  | [], _ => none
  | o :: _, 0 => some o
  | _ :: l, n + 1 => nth l n
theorem nth_eq : ∀ (l : List Oper) (n : Nat), nth l n = l[n]?
  | [], n => by simp [nth]
  | o :: l, 0 => by simp [nth]
  | o :: l, n + 1 => by simp [nth, nth_eq l n]
def pick (l : List Oper) : List (Nat × Nat) → List (Nat × Oper)
  | [] => []
  | (p, k) :: r => match nth l p with
    | some o => (k, o) :: pick l r
    | none => []

/-- j waits for i, by an edge of the region or by one that was added -/
def wts (ops : Array Oper) (ex : List (Nat × Nat)) (j i : Nat) : Bool := Region.waitsFor .any ops j i || ex.any fun q => q.1 == j && q.2 == i
/-- i may come up -/
def Rdy (ops : Array Oper) (ex : List (Nat × Nat)) (listed : Array Bool) (i : Nat) : Prop := i ∈ Region.ready .any ops listed ∧ ∀ q ∈ ex, q.1 = i → listed.getD q.2 false = true
theorem Rdy.wts {ops : Array Oper} {ex : List (Nat × Nat)} {listed : Array Bool} {i m : Nat} (h : Rdy ops ex listed i) (hw : wts ops ex i m = true) : listed.getD m false = true := by
  unfold Proofs.Ythiaeldhelhjlaa.wts at hw
  rw [Bool.or_eq_true] at hw
  rcases hw with hw | hw
  · obtain ⟨oj, hoj, e, he, hb, hon⟩ := Region.waitsFor_spec hw
    obtain ⟨_, o, ho, hall⟩ := mem_ready.1 h.1
    obtain rfl : o = oj := Option.some.inj (ho.symm.trans hoj)
    rw [← hon]
    exact hall e he hb
  · obtain ⟨q, hq, hqe⟩ := List.any_eq_true.1 hw
    rw [Bool.and_eq_true, beq_iff_eq, beq_iff_eq] at hqe
    rw [← hqe.2]
    exact h.2 q hq hqe.1

/-- what waits for one of acc, one behind the other -/
def blk (ops : Array Oper) (ex : List (Nat × Nat)) : List Nat → List (Nat × Nat) → List Nat
  | acc, [] => acc
  | acc, (j, _) :: post => if acc.any (fun m => wts ops ex j m) then blk ops ex (j :: acc) post else blk ops ex acc post

def okR (ops : Array Oper) (ex : List (Nat × Nat)) : List (Nat × Nat) → Bool
  | [] => true
  | (p, k) :: post =>
    (match ops[p]? with
     | none => false
     | some o => o.after.all (fun e => !Region.binds .any e || (decide (e.on < ops.size) && e.on != p && !(post.any fun q => q.1 == e.on))) &&
       ex.all (fun x => x.1 != p || (decide (x.2 < ops.size) && x.2 != p && !(post.any fun q => q.1 == x.2))) &&
       (act k || post.all fun q => wts ops ex q.1 p || (match ops[q.1]? with | some oj => o.apart ops oj | none => false))) &&
    (!act k || post.all fun q => (blk ops ex [p] post).contains q.1) &&
    (k != 1 || post.all fun q => !act q.2 || (blk ops ex [p] post).contains q.1) &&
    (!needs k || post.all fun q => q.2 != 4 || (blk ops ex [p] post).contains q.1) &&
    (k != 4 || post.all fun q => !needs q.2) &&
    !(post.any fun q => q.1 == p) && okR ops ex post

theorem blk_sub : ∀ (l : List (Nat × Nat)) (acc : List Nat) (x : Nat), x ∈ acc → x ∈ blk ops ex acc l
  | [], acc, x, h => h
  | (j, k) :: l, acc, x, h => by
    unfold blk
    split
    · exact blk_sub l _ x (List.mem_cons_of_mem _ h)
    · exact blk_sub l _ x h

/-- what is blocked cannot come up -/
theorem blk_unready {listed : Array Bool} : ∀ (l : List (Nat × Nat)) (acc : List Nat), (∀ x ∈ acc, listed.getD x true = false) → (∀ q ∈ l, listed.getD q.1 true = false) →
    ∀ x ∈ blk ops ex acc l, x ∉ acc → ¬ Rdy ops ex listed x
  | [], acc, _, _, x, hx, hn => absurd hx hn
  | (j, k) :: l, acc, ha, hl, x, hx, hn => by
    unfold blk at hx
    split at hx
    · rename_i hw
      by_cases e : x = j
      · subst e
        intro hr
        obtain ⟨m, hm, hw⟩ := List.any_eq_true.1 hw
        have h1 := hr.wts hw
        rw [getD_both (ha m hm)] at h1
        cases h1
      · exact blk_unready l (j :: acc) (fun y hy => by
          rcases List.mem_cons.1 hy with rfl | hy
          · exact hl (y, k) (List.mem_cons_self ..)
          · exact ha y hy) (fun q hq => hl q (List.mem_cons_of_mem _ hq)) x hx (fun h => by
          rcases List.mem_cons.1 h with h | h
          · exact e h
          · exact hn h)
    · exact blk_unready l acc ha (fun q hq => hl q (List.mem_cons_of_mem _ hq)) x hx hn

/-- what is not blocked may be left out -/
theorem blk_remove : ∀ (pre : List (Nat × Nat)) (i k : Nat) (post : List (Nat × Nat)) (acc : List Nat), i ∉ blk ops ex acc (pre ++ (i, k) :: post) → blk ops ex acc (pre ++ (i, k) :: post) = blk ops ex acc (pre ++ post)
  | [], i, k, post, acc, h => by
    simp only [List.nil_append] at h ⊢
    rw [blk] at h ⊢
    split
    · rename_i hw
      rw [if_pos hw] at h
      exact absurd (blk_sub post _ i (List.mem_cons_self ..)) h
    · rfl
  | (j, kj) :: pre, i, k, post, acc, h => by
    simp only [List.cons_append] at h ⊢
    rw [blk] at h ⊢
    rw [blk]
    split
    · rename_i hw
      rw [if_pos hw] at h
      exact blk_remove pre i k post _ h
    · rename_i hw
      rw [if_neg hw] at h
      exact blk_remove pre i k post _ h

structure OkAt (ops : Array Oper) (ex : List (Nat × Nat)) (p k : Nat) (post : List (Nat × Nat)) (o : Oper) : Prop where
  op : ops[p]? = some o
  deps : ∀ e ∈ o.after, Region.binds .any e = true → e.on < ops.size ∧ e.on ≠ p ∧ ∀ q ∈ post, q.1 ≠ e.on
  extra : ∀ x ∈ ex, x.1 = p → x.2 < ops.size ∧ x.2 ≠ p ∧ ∀ q ∈ post, q.1 ≠ x.2
  apart : act k = false → ∀ q ∈ post, wts ops ex q.1 p = true ∨ ∃ oj, ops[q.1]? = some oj ∧ o.apart ops oj = true
  acts : act k = true → ∀ q ∈ post, q.1 ∈ blk ops ex [p] post
  here : k = 1 → ∀ q ∈ post, act q.2 = true → q.1 ∈ blk ops ex [p] post
  keep : needs k = true → ∀ q ∈ post, q.2 = 4 → q.1 ∈ blk ops ex [p] post
  last : k = 4 → ∀ q ∈ post, needs q.2 = false
  once : ∀ q ∈ post, q.1 ≠ p
  rest : okR ops ex post = true

theorem okR_cons {p k : Nat} {post : List (Nat × Nat)} (h : okR ops ex ((p, k) :: post) = true) : ∃ o, OkAt ops ex p k post o := by
  unfold okR at h
  simp only [Bool.and_eq_true] at h
  obtain ⟨⟨⟨⟨⟨⟨h1, h2⟩, h3⟩, h6⟩, h7⟩, h4⟩, h5⟩ := h
  cases ho : ops[p]? with
  | none => rw [ho] at h1; cases h1
  | some o =>
    rw [ho] at h1
    simp only [Bool.and_eq_true, Bool.or_eq_true] at h1
    refine ⟨o, ho, ?_, ?_, ?_, ?_, ?_, ?_, ?_, ?_, h5⟩
    · intro e he hb
      have := Array.all_eq_true_iff_forall_mem.1 h1.1.1 e he
      simp only [hb, Bool.not_true, Bool.false_or, Bool.and_eq_true, decide_eq_true_eq, bne_iff_ne, ne_eq] at this
      refine ⟨this.1.1, this.1.2, fun q hq hqe => ?_⟩
      have h2 := this.2
      rw [Bool.not_eq_true', List.any_eq_false] at h2
      exact h2 q hq (by simp [hqe])
    · intro x hx hxp
      have := List.all_eq_true.1 h1.1.2 x hx
      simp only [hxp, bne_self_eq_false, Bool.false_or, Bool.and_eq_true, decide_eq_true_eq, bne_iff_ne, ne_eq] at this
      refine ⟨this.1.1, this.1.2, fun q hq hqe => ?_⟩
      have h2 := this.2
      rw [Bool.not_eq_true', List.any_eq_false] at h2
      exact h2 q hq (by simp [hqe])
    · intro hk q hq
      rcases h1.2 with h | h
      · rw [hk] at h; cases h
      · have := List.all_eq_true.1 h q hq
        rw [Bool.or_eq_true] at this
        rcases this with h | h
        · exact .inl h
        · refine .inr ?_
          cases hq1 : ops[q.1]? with
          | none => rw [hq1] at h; cases h
          | some oj => rw [hq1] at h; exact ⟨oj, rfl, h⟩
    · intro hk q hq
      rw [hk, Bool.not_true, Bool.false_or] at h2
      have := List.all_eq_true.1 h2 q hq
      simpa using this
    · intro hk q hq hq3
      subst hk
      simp only [bne_self_eq_false, Bool.false_or] at h3
      have := List.all_eq_true.1 h3 q hq
      rw [Bool.or_eq_true] at this
      rcases this with h | h
      · simp [hq3] at h
      · simpa using h
    · intro hk q hq hq4
      rw [hk, Bool.not_true, Bool.false_or] at h6
      have := List.all_eq_true.1 h6 q hq
      rw [Bool.or_eq_true] at this
      rcases this with h | h
      · simp [hq4] at h
      · simpa using h
    · intro hk q hq
      subst hk
      simp only [bne_self_eq_false, Bool.false_or] at h7
      have := List.all_eq_true.1 h7 q hq
      simpa using this
    · intro q hq e
      rw [Bool.not_eq_true', List.any_eq_false] at h4
      exact h4 q hq (by simp [e])

/-- one of the list comes up: no one ahead of it blocks it -/
theorem okR_remove : ∀ (pre : List (Nat × Nat)) (i k : Nat) (post : List (Nat × Nat)), okR ops ex (pre ++ (i, k) :: post) = true →
    (∀ l1 p kp l2, pre = l1 ++ (p, kp) :: l2 → i ∉ blk ops ex [p] (l2 ++ (i, k) :: post)) → okR ops ex (pre ++ post) = true
  | [], i, k, post, h, _ => by
    obtain ⟨o, ho⟩ := okR_cons h
    exact ho.rest
  | (p, kp) :: pre, i, k, post, h, hb => by
    simp only [List.cons_append] at h ⊢
    obtain ⟨o, ho⟩ := okR_cons h
    have hi := hb [] p kp pre rfl
    have hbk := blk_remove pre i k post [p] hi
    have hr := okR_remove pre i k post ho.rest (fun l1 p' kp' l2 e => hb ((p, kp) :: l1) p' kp' l2 (by rw [e]; rfl))
    have hsub : ∀ q, q ∈ pre ++ post → q ∈ pre ++ (i, k) :: post := fun q hq => by
      rcases List.mem_append.1 hq with h | h
      · exact List.mem_append_left _ h
      · exact List.mem_append_right _ (List.mem_cons_of_mem _ h)
    unfold okR
    rw [ho.op]
    simp only [Bool.and_eq_true, Bool.or_eq_true]
    refine ⟨⟨⟨⟨⟨⟨⟨⟨?_, ?_⟩, ?_⟩, ?_⟩, ?_⟩, ?_⟩, ?_⟩, ?_⟩, hr⟩
    · refine Array.all_eq_true_iff_forall_mem.2 fun e he => ?_
      cases hbd : Region.binds .any e with
      | false => simp
      | true =>
        obtain ⟨h1, h2, h3⟩ := ho.deps e he hbd
        simp only [Bool.not_true, Bool.false_or, Bool.and_eq_true, decide_eq_true_eq, bne_iff_ne, ne_eq]
        refine ⟨⟨h1, h2⟩, ?_⟩
        rw [Bool.not_eq_true', List.any_eq_false]
        intro q hq
        have := h3 q (hsub q hq)
        simpa using this
    · refine List.all_eq_true.2 fun x hx => ?_
      by_cases hxp : x.1 = p
      · obtain ⟨h1, h2, h3⟩ := ho.extra x hx hxp
        simp only [hxp, bne_self_eq_false, Bool.false_or, Bool.and_eq_true, decide_eq_true_eq, bne_iff_ne, ne_eq]
        refine ⟨⟨h1, h2⟩, ?_⟩
        rw [Bool.not_eq_true', List.any_eq_false]
        intro q hq
        have := h3 q (hsub q hq)
        simpa using this
      · simp [hxp]
    · cases hk : act kp with
      | true => left; rfl
      | false =>
        right
        refine List.all_eq_true.2 fun q hq => ?_
        rw [Bool.or_eq_true]
        rcases ho.apart hk q (hsub q hq) with h | ⟨oj, h1, h2⟩
        · exact .inl h
        · right; rw [h1]; exact h2
    · cases hk : act kp with
      | true =>
        right
        refine List.all_eq_true.2 fun q hq => ?_
        have := ho.acts hk q (hsub q hq)
        rw [hbk] at this
        simpa using this
      | false => left; rfl
    · by_cases hk : kp = 1
      · right
        refine List.all_eq_true.2 fun q hq => ?_
        rw [Bool.or_eq_true]
        cases h3 : act q.2 with
        | true =>
          right
          have := ho.here hk q (hsub q hq) h3
          rw [hbk] at this
          simpa using this
        | false => left; rfl
      · left; simpa using hk
    · cases hk : needs kp with
      | true =>
        right
        refine List.all_eq_true.2 fun q hq => ?_
        rw [Bool.or_eq_true]
        by_cases h4 : q.2 = 4
        · right
          have := ho.keep hk q (hsub q hq) h4
          rw [hbk] at this
          simpa using this
        · left; simpa using h4
      | false => left; rfl
    · by_cases hk : kp = 4
      · right
        refine List.all_eq_true.2 fun q hq => ?_
        rw [ho.last hk q (hsub q hq)]; rfl
      · left; simpa using hk
    · rw [Bool.not_eq_true', List.any_eq_false]
      intro q hq
      have := ho.once q (hsub q hq)
      simpa using this

/-- operation number i comes up -/
def stI (P : Program) (ops : Array Oper) (Q : Exit → Act → World → Prop) (i : Nat) (K : Act → World → Prop) (a : Act) (w : World) : Prop :=
  ∃ o, ops[i]? = some o ∧ if Region.wanted o (yielded ops a.tmps) = true then o.wp P a w K Q else K (a.put o.dst undef) w
theorem wpOp_of_stI {i : Nat} {K : Act → World → Prop} {a : Act} {w : World} (h : stI P ops Q i K a w) : wpOp P ops Q i K a w := by
  obtain ⟨o, ho, h⟩ := h
  unfold wpOp
  simp only [ho]
  split
  · rename_i hw; rw [if_pos hw] at h; exact .inl h
  · rename_i hw; rw [if_neg hw] at h; exact h
theorem stI_mono {i : Nat} {K K' : Act → World → Prop} {a : Act} {w : World} (hK : ∀ a w, K a w → K' a w) (h : stI P ops Q i K a w) : stI P ops Q i K' a w := by
  obtain ⟨o, ho, h⟩ := h
  refine ⟨o, ho, ?_⟩
  split
  · rename_i hw; rw [if_pos hw] at h; exact Oper.wp_mono hK h
  · rename_i hw; rw [if_neg hw] at h; exact hK _ _ h

/-- the walk over numbers -/
def wpI (P : Program) (ops : Array Oper) (C : World → Prop) (Q : Exit → Act → World → Prop) : List (Nat × Nat) → Act → World → Prop
  | [], a, w => Q .normal a w
  | (p, k) :: rest, a, w => ∃ o, ops[p]? = some o ∧
    (if k = 3 then (if Region.wanted o (yielded ops a.tmps) = true then o.wp P a w (fun a' w' => C w' ∧ wpI P ops C Q rest a' w') Q else wpI P ops C Q rest (a.put o.dst undef) w)
     else if k = 4 then (if Region.wanted o (yielded ops a.tmps) = true then o.wp P a w (fun a' w' => wpI P ops C Q rest a' w') Q else wpI P ops C Q rest (a.put o.dst undef) w)
     else ∃ v, Held P ops (cls C w k) o a v ∧ wpI P ops C Q rest (a.put o.dst v) w)

theorem wpI_of_pick {l : List Oper} : ∀ (R : List (Nat × Nat)) (a : Act) (w : World), okR l.toArray ex R = true → wpW P l.toArray C Q (pick l R) a w → wpI P l.toArray C Q R a w
  | [], a, w, _, h => h
  | (p, k) :: R, a, w, hR, h => by
    obtain ⟨o, ho⟩ := okR_cons hR
    have h1 : nth l p = some o := by rw [nth_eq]; simpa using ho.op
    rw [pick, h1] at h
    unfold wpW at h
    unfold wpI
    refine ⟨o, ho.op, ?_⟩
    by_cases hk : k = 3
    · rw [if_pos hk] at h ⊢
      split
      · rename_i hw
        rw [if_pos hw] at h
        exact Oper.wp_mono (fun a' w' ⟨h1, h2⟩ => ⟨h1, wpI_of_pick R a' w' ho.rest h2⟩) h
      · rename_i hw
        rw [if_neg hw] at h
        exact wpI_of_pick R _ _ ho.rest h
    · rw [if_neg hk] at h ⊢
      by_cases hk4 : k = 4
      · rw [if_pos hk4] at h ⊢
        split
        · rename_i hw
          rw [if_pos hw] at h
          exact Oper.wp_mono (fun a' w' h2 => wpI_of_pick R a' w' ho.rest h2) h
        · rename_i hw
          rw [if_neg hw] at h
          exact wpI_of_pick R _ _ ho.rest h
      · rw [if_neg hk4] at h ⊢
        obtain ⟨v, h1, h2⟩ := h
        exact ⟨v, h1, wpI_of_pick R _ _ ho.rest h2⟩

/-- what was seen stays seen while others come up -/
theorem Held.put {D : World → Prop} {o : Oper} {a : Act} {v : Value} (hs : ∀ cs b, o.op ≠ .select cs b) (h : Held P ops D o a v) {d : Option Tmp} (u : Value) (h1 : ∀ t, d = some t → t ∉ o.looksAt ops) (h2 : ∀ t, o.dst = some t → d ≠ some t) : Held P ops D o (a.put d u) v := by
  intro wa hD
  obtain ⟨v', e, h⟩ := h wa hD
  refine ⟨v', ?_, ?_⟩
  · have hc : ∀ x, (a.put d u).put o.dst x = (a.put o.dst x).put d u := fun x => Act.put_comm a u x (fun t ht ht' => h2 t ht' ht)
    rw [hc, hc, e]
  · rw [wanted_put o a d u h1]
    unfold Oper.quietAt
    rw [execOp_put o hs a d u h1]
    exact h
theorem Held.defers {D : World → Prop} {o : Oper} {a : Act} {v : Value} (h : Held P ops D o a v) (ds : List Deferred) : Held P ops D o { a with defers := ds } v := by
  intro wa hD
  obtain ⟨v', e, h⟩ := h wa hD
  refine ⟨v', ?_, h⟩
  have hc : ∀ x, ({ a with defers := ds } : Act).put o.dst x = { a.put o.dst x with defers := ds } := fun x => by cases o.dst <;> rfl
  rw [hc, hc, e]

/-- a value that is already there makes no difference -/
theorem upon_put {o : Oper} {d : Option Tmp} {v : Value} {a : Act} {K : Act → World → Prop} {Hd : Act → Prop} (hq : ∀ c a a' w, Q (.panic c) a w → Q (.panic c) a' w) (h2 : ∀ t, d = some t → o.dst ≠ some t)
    (hd : ∀ u, Hd (a.put o.dst u)) (hdd : ∀ x : Deferred, Hd ({ a with defers := x :: a.defers }.put o.dst undef)) (r : Result Next) (h : o.upon P (a.put d v) K Q r) : o.upon P a (fun a' w' => Hd a' ∧ K (a'.put d v) w') Q r := by
  have hc : ∀ u, (a.put d v).put o.dst u = (a.put o.dst u).put d v := fun u => Act.put_comm a v u h2
  cases r with
  | ok n w' =>
    cases n <;> simp only [Oper.upon] at h ⊢
    case value u => rw [hc] at h; exact ⟨hd u, h⟩
    case skip => rw [hc] at h; exact ⟨hd _, h⟩
    case defer x =>
      refine ⟨hdd x, ?_⟩
      rw [Act.put_defers, Act.put_comm _ v undef h2] at h
      exact h
    case enter f args =>
      refine Calls.mono h fun e w'' he => ?_
      cases e with
      | returned u => simp only at he ⊢; rw [hc] at he; exact ⟨hd u, he⟩
      | panicked c => exact hq _ _ _ _ he
      | outgrown => exact he
    case row f args => exact Rows.mono h fun u w'' he => by rw [hc] at he; exact ⟨hd u, he⟩
  | halt x w' =>
    cases x <;> simp only [Oper.upon] at h ⊢
    exact hq _ _ _ _ h

/-- what may come up now may be taken first -/
theorem pull (hs : Region.noSelect ops = true) (hq : ∀ c a a' w, Q (.panic c) a w → Q (.panic c) a' w) {listed : Array Bool} {i k : Nat} {post : List (Nat × Nat)} (hr : Rdy ops ex listed i) :
    ∀ (pre : List (Nat × Nat)) (a : Act) (w : World), okR ops ex (pre ++ (i, k) :: post) = true → (∀ q ∈ pre ++ (i, k) :: post, listed.getD q.1 true = false) → (needs k = true → C w) →
      wpI P ops C Q (pre ++ (i, k) :: post) a w → stI P ops Q i (fun a' w' => (k = 3 → C w' ∨ w' = w) ∧ (act k = false → w' = w) ∧ wpI P ops C Q (pre ++ post) a' w') a w
  | [], a, w, hR, hun, hC, h => by
    obtain ⟨o, ho⟩ := okR_cons hR
    simp only [List.nil_append] at h ⊢
    unfold wpI at h
    obtain ⟨o', ho', h⟩ := h
    obtain rfl : o = o' := Option.some.inj (ho.op.symm.trans ho')
    refine ⟨o, ho.op, ?_⟩
    by_cases hk : k = 3
    · rw [if_pos hk] at h
      split
      · rename_i hw; rw [if_pos hw] at h; exact Oper.wp_mono (fun a' w' ⟨h1, h2⟩ => ⟨fun _ => .inl h1, fun hn => (by rw [hk] at hn; cases hn), h2⟩) h
      · rename_i hw; rw [if_neg hw] at h; exact ⟨fun _ => .inr rfl, fun _ => rfl, h⟩
    · rw [if_neg hk] at h
      by_cases hk4 : k = 4
      · rw [if_pos hk4] at h
        split
        · rename_i hw; rw [if_pos hw] at h; exact Oper.wp_mono (fun a' w' h2 => ⟨fun e => absurd e hk, fun hn => (by rw [hk4] at hn; cases hn), h2⟩) h
        · rename_i hw; rw [if_neg hw] at h; exact ⟨fun _ => .inr rfl, fun _ => rfl, h⟩
      rw [if_neg hk4] at h
      obtain ⟨v, h1, h2⟩ := h
      obtain ⟨v', e, h1⟩ := h1 w (by unfold cls; split; · trivial
                                     split; · rfl
                                     rename_i hk0 hk1
                                     exact hC (by unfold needs; simp [hk, hk4, hk0, hk1]))
      have hn3 : ∀ w', k = 3 → C w' ∨ w' = w := fun _ e => absurd e hk
      rw [← e] at h2
      split
      · rename_i hw
        rw [if_pos hw] at h1
        unfold Oper.quietAt at h1
        unfold Oper.wp
        generalize (execOp a.eval o).run P w = r at *
        cases r with
        | ok n w' =>
          cases n <;> simp only [Oper.quietUpon] at h1 <;> simp only [Oper.upon]
          case value u =>
            obtain ⟨rfl, rfl⟩ := h1
            exact ⟨hn3 _, fun _ => rfl, h2⟩
          case skip =>
            obtain ⟨rfl, rfl⟩ := h1
            exact ⟨hn3 _, fun _ => rfl, h2⟩
          case enter f args =>
            obtain ⟨rfl, h1⟩ := h1
            refine h1.mono fun e w'' ⟨he, hw''⟩ => ?_
            subst he
            subst hw''
            exact ⟨hn3 _, fun _ => rfl, h2⟩
        | halt x w' => simp only [Oper.quietUpon] at h1
      · rename_i hw
        rw [if_neg hw] at h1
        subst h1
        exact ⟨hn3 _, fun _ => rfl, h2⟩
  | (p, kp) :: pre, a, w, hR, hun, hC, h => by
    simp only [List.cons_append] at h hR hun ⊢
    obtain ⟨o, ho⟩ := okR_cons hR
    have hip : (i, k) ∈ pre ++ (i, k) :: post := List.mem_append_right _ (List.mem_cons_self ..)
    have hnb : i ∉ blk ops ex [p] (pre ++ (i, k) :: post) := fun hb =>
      blk_unready (ops := ops) (ex := ex) (listed := listed) (pre ++ (i, k) :: post) [p] (fun x hx => by
        rw [List.mem_singleton] at hx
        subst hx
        exact hun (x, kp) (List.mem_cons_self ..)) (fun q hq => hun q (List.mem_cons_of_mem _ hq)) i hb (fun hx => by
        rw [List.mem_singleton] at hx
        exact ho.once (i, k) hip hx) hr
    have hka : act kp = false := by
      cases e : act kp with
      | true => exact absurd (ho.acts e (i, k) hip) hnb
      | false => rfl
    have hk3 : kp ≠ 3 := fun e => by rw [e] at hka; cases hka
    have hk4 : kp ≠ 4 := fun e => by rw [e] at hka; cases hka
    unfold wpI at h
    obtain ⟨o', ho', h⟩ := h
    obtain rfl : o = o' := Option.some.inj (ho.op.symm.trans ho')
    rw [if_neg hk3, if_neg hk4] at h
    obtain ⟨v, h1, h2⟩ := h
    have ih := pull hs hq hr pre (a.put o.dst v) w ho.rest (fun q hq => hun q (List.mem_cons_of_mem _ hq)) hC h2
    obtain ⟨oi, hoi, ih⟩ := ih
    have hap : o.apart ops oi = true := by
      rcases ho.apart hka (i, k) hip with hw | ⟨oj, h3, h4⟩
      · have h5 := hr.wts hw
        rw [getD_both (hun (p, kp) (List.mem_cons_self ..))] at h5
        cases h5
      · obtain rfl : oi = oj := Option.some.inj (hoi.symm.trans h3)
        exact h4
    obtain ⟨a1, a2, a3⟩ := Oper.apart_spec hap
    have hso := fun cs b => Region.noSelect_spec hs p o cs b ho.op
    have hsi := fun cs b => Region.noSelect_spec hs i oi cs b hoi
    refine ⟨oi, hoi, ?_⟩
    have hkeep : ∀ (a' : Act), Held P ops (cls C w kp) o a' v → ∀ u, Held P ops (cls C w kp) o (a'.put oi.dst u) v := fun a' h' u =>
      h'.put hso u a3 (fun t ht e => a2 t ht e)
    rw [wanted_put oi a o.dst v a1] at ih
    by_cases hw : Region.wanted oi (yielded ops a.tmps) = true
    · rw [if_pos hw] at ih ⊢
      unfold Oper.wp at ih ⊢
      rw [execOp_put oi hsi a o.dst v a1] at ih
      have hcore := upon_put (P := P) (o := oi) (d := o.dst) (v := v) (a := a) (Hd := fun a' => Held P ops (cls C w kp) o a' v) hq a2 (fun u => hkeep a h1 u) (fun x => hkeep _ (h1.defers _) _) _ ih
      refine Oper.wp_mono (o := oi) (a := a) (w := w) ?_ hcore
      rintro a' w' ⟨hh, hC', hww, hrest⟩
      refine ⟨hC', hww, ?_⟩
      unfold wpI
      refine ⟨o, ho.op, ?_⟩
      rw [if_neg hk3, if_neg hk4]
      refine ⟨v, ?_, hrest⟩
      intro wa hD
      refine hh wa ?_
      by_cases hk1 : kp = 1
      · have hki : act k = false := by
          cases e : act k with
          | true => exact absurd (ho.here hk1 (i, k) hip e) hnb
          | false => rfl
        rw [hww hki] at hD
        exact hD
      · unfold cls at hD ⊢
        rw [if_neg hk1] at hD ⊢
        exact hD
    · rw [if_neg hw] at ih ⊢
      obtain ⟨hC', hww, hrest⟩ := ih
      refine ⟨hC', hww, ?_⟩
      unfold wpI
      refine ⟨o, ho.op, ?_⟩
      rw [if_neg hk3, if_neg hk4]
      refine ⟨v, hkeep a h1 _, ?_⟩
      rw [Act.put_comm a undef v (fun t ht e => a2 t e ht)]
      exact hrest

theorem okR_suffix : ∀ (l1 : List (Nat × Nat)) {R : List (Nat × Nat)}, okR ops ex (l1 ++ R) = true → okR ops ex R = true
  | [], _, h => h
  | q :: l1, _, h => by
    obtain ⟨o, ho⟩ := okR_cons (p := q.1) (k := q.2) (by simpa using h)
    exact okR_suffix l1 ho.rest

/-- an order of what is left -/
def Lin (ops : Array Oper) (ex : List (Nat × Nat)) : List Nat → Array Bool → Prop
  | [], listed => ∀ i, ¬ Rdy ops ex listed i
  | i :: r, listed => Rdy ops ex listed i ∧ Lin ops ex r (listed.setIfInBounds i true)

theorem wpOps_of_wpI (hs : Region.noSelect ops = true) (hq : ∀ c a a' w, Q (.panic c) a w → Q (.panic c) a' w) : ∀ (r : List Nat) (R : List (Nat × Nat)) (listed : Array Bool) (a : Act) (w : World), Lin ops ex r listed → okR ops ex R = true → listed.size = ops.size →
    (∀ j, listed.getD j true = false ↔ ∃ k, (j, k) ∈ R) → ((∃ q ∈ R, needs q.2 = true) → C w) → wpI P ops C Q R a w → wpOps P ops Q r a w
  | [], R, listed, a, w, hL, hR, hsz, hun, hC, h => by
    match R, hR, hun, h with
    | [], hR, hun, h => simpa [wpOps, wpI] using h
    | (p, k) :: post, hR, hun, h =>
      exfalso
      obtain ⟨o, ho⟩ := okR_cons hR
      have hlisted : ∀ m, m < ops.size → m ≠ p → (∀ q ∈ post, q.1 ≠ m) → listed.getD m false = true := fun m h1 h2 h3 => by
        have hl : ¬ listed.getD m true = false := fun hf => by
          obtain ⟨k', hk'⟩ := (hun m).1 hf
          rcases List.mem_cons.1 hk' with h | h
          · exact h2 (by simpa using congrArg Prod.fst h)
          · exact h3 _ h rfl
        have hlt : m < listed.size := by rw [hsz]; exact h1
        simp [hlt] at hl ⊢
        exact hl
      refine hL p ⟨mem_ready.2 ⟨(hun p).2 ⟨k, List.mem_cons_self ..⟩, o, ho.op, fun e he hb => ?_⟩, fun q hq hqp => ?_⟩
      · obtain ⟨h1, h2, h3⟩ := ho.deps e he hb
        exact hlisted _ h1 h2 h3
      · obtain ⟨h1, h2, h3⟩ := ho.extra q hq hqp
        exact hlisted _ h1 h2 h3
  | i :: r, R, listed, a, w, hL, hR, hsz, hun, hC, h => by
    obtain ⟨hi, hL⟩ := hL
    rw [wpOps_cons]
    obtain ⟨k, hk⟩ := (hun i).1 (mem_ready.1 hi.1).1
    obtain ⟨pre, post, rfl⟩ := List.append_of_mem hk
    have hall : ∀ q ∈ pre ++ (i, k) :: post, listed.getD q.1 true = false := fun q hq => (hun q.1).2 ⟨q.2, hq⟩
    have hnone : ∀ l1 p kp l2, pre = l1 ++ (p, kp) :: l2 → i ∉ blk ops ex [p] (l2 ++ (i, k) :: post) := by
      intro l1 p kp l2 e hb
      subst e
      have hp : ∀ q, q ∈ (p, kp) :: (l2 ++ (i, k) :: post) → listed.getD q.1 true = false := fun q hq => hall q (by
        simp only [List.append_assoc, List.cons_append]
        exact List.mem_append_right _ hq)
      have hpi : i ≠ p := by
        have : ∀ l1 : List (Nat × Nat), okR ops ex (l1 ++ (p, kp) :: (l2 ++ (i, k) :: post)) = true → i ≠ p := by
          intro l1
          induction l1 with
          | nil => intro hR; obtain ⟨o, ho⟩ := okR_cons hR; exact ho.once (i, k) (List.mem_append_right _ (List.mem_cons_self ..))
          | cons q l1 ih => intro hR; obtain ⟨o, ho⟩ := okR_cons (p := q.1) (k := q.2) hR; exact ih ho.rest
        exact this l1 (by simpa using hR)
      exact blk_unready (ops := ops) (ex := ex) (listed := listed) _ [p] (fun x hx => by
        rw [List.mem_singleton] at hx
        subst hx
        exact hp (x, kp) (List.mem_cons_self ..)) (fun q hq => hp q (List.mem_cons_of_mem _ hq)) i hb (fun hx => hpi (List.mem_singleton.1 hx)) hi
    have hR' := okR_remove pre i k post hR hnone
    have hp := pull (C := C) hs hq hi pre a w hR hall (fun hn => hC ⟨(i, k), List.mem_append_right _ (List.mem_cons_self ..), hn⟩) h
    have hilt : i < listed.size := by
      have := (mem_ready.1 hi.1).1
      apply Classical.byContradiction
      intro hx
      simp [Array.getElem?_eq_none (Nat.not_lt.1 hx)] at this
    refine wpOp_of_stI (stI_mono ?_ hp)
    rintro a' w' ⟨hC3, hww, h'⟩
    have hC' : (∃ q ∈ pre ++ post, needs q.2 = true) → C w' := by
      rintro ⟨q, hq, hn⟩
      have hq' : q ∈ pre ++ (i, k) :: post := by
        rcases List.mem_append.1 hq with h | h
        · exact List.mem_append_left _ h
        · exact List.mem_append_right _ (List.mem_cons_of_mem _ h)
      by_cases h3 : k = 3
      · rcases hC3 h3 with h | rfl
        · exact h
        · exact hC ⟨q, hq', hn⟩
      · by_cases h4 : k = 4
        · exfalso
          rcases List.mem_append.1 hq with h | h
          · obtain ⟨l1, l2, e⟩ := List.append_of_mem h
            subst e
            have hR2 := okR_suffix l1 (R := q :: (l2 ++ (i, k) :: post)) (by simpa using hR)
            obtain ⟨o, ho⟩ := okR_cons (p := q.1) (k := q.2) hR2
            exact hnone l1 q.1 q.2 l2 rfl (ho.keep hn (i, k) (List.mem_append_right _ (List.mem_cons_self ..)) h4)
          · obtain ⟨o, ho⟩ := okR_cons (okR_suffix pre hR)
            have := ho.last h4 q h
            rw [hn] at this; cases this
        · rw [hww (by unfold act; simp [h3, h4])]
          exact hC ⟨q, hq', hn⟩
    refine wpOps_of_wpI hs hq r (pre ++ post) _ a' w' hL hR' (by simpa using hsz) (fun j => ?_) hC' h'
    by_cases hji : j = i
    · subst hji
      constructor
      · intro hf
        simp [hilt] at hf
      · rintro ⟨k', hk'⟩
        exfalso
        -- j stands once in the list
        have : ∀ l1 : List (Nat × Nat), okR ops ex (l1 ++ (j, k) :: post) = true → (j, k') ∉ l1 ++ post := by
          intro l1
          induction l1 with
          | nil => intro hR hm; obtain ⟨o, ho⟩ := okR_cons hR; exact ho.once _ hm rfl
          | cons q l1 ih =>
            intro hR hm
            obtain ⟨o, ho⟩ := okR_cons (p := q.1) (k := q.2) hR
            rcases List.mem_cons.1 hm with h | h
            · exact ho.once (j, k) (List.mem_append_right _ (List.mem_cons_self ..)) (by rw [← h])
            · exact ih ho.rest h
        exact this pre hR hk'
    · rw [getD_set_ne true (Ne.symm hji), hun j]
      constructor
      · rintro ⟨k', hk'⟩
        refine ⟨k', ?_⟩
        rcases List.mem_append.1 hk' with h | h
        · exact List.mem_append_left _ h
        · rcases List.mem_cons.1 h with h | h
          · exact absurd (by simpa using congrArg Prod.fst h) hji
          · exact List.mem_append_right _ h
      · rintro ⟨k', hk'⟩
        refine ⟨k', ?_⟩
        rcases List.mem_append.1 hk' with h | h
        · exact List.mem_append_left _ h
        · exact List.mem_append_right _ (List.mem_cons_of_mem _ h)


theorem lin_go : ∀ (fuel t : Nat) (listed : Array Bool), listed.size = ops.size → ((List.range ops.size).filter fun j => !listed.getD j true).length ≤ fuel → Lin ops [] (Region.linearise.go .any ops fuel t listed []) listed := by
  intro fuel
  induction fuel with
  | zero =>
    intro t listed hsz hn
    simp only [Region.linearise.go]
    intro i hi
    have h0 := List.eq_nil_of_length_eq_zero (Nat.le_zero.1 hn)
    have h1 := (mem_ready.1 hi.1).1
    have h2 : i ∈ (List.range ops.size).filter fun j => !listed.getD j true := by
      rw [List.mem_filter, List.mem_range]
      obtain ⟨_, o, ho, _⟩ := mem_ready.1 hi.1
      exact ⟨(Array.getElem?_eq_some_iff.1 ho).1, by rw [h1]; rfl⟩
    rw [h0] at h2
    cases h2
  | succ fuel ih =>
    intro t listed hsz hn
    simp only [Region.linearise.go]
    change Lin ops [] (match (Region.ready .any ops listed)[t % (Region.ready .any ops listed).length]? with
      | some i => Region.linearise.go .any ops fuel (t / (Region.ready .any ops listed).length) (listed.setIfInBounds i true) [i]
      | none => [].reverse) listed
    cases hi : (Region.ready .any ops listed)[t % (Region.ready .any ops listed).length]? with
    | none =>
      have hnil : Region.ready .any ops listed = [] := by
        cases hr : Region.ready .any ops listed with
        | nil => rfl
        | cons x xs =>
          rw [hr] at hi
          have hlt : t % (x :: xs).length < (x :: xs).length := Nat.mod_lt _ (by simp)
          simp at hi
          simp at hlt
          omega
      intro i hr
      have hr1 := hr.1
      rw [hnil] at hr1
      cases hr1
    | some i =>
      simp only []
      rw [linearise_go_acc, List.reverse_singleton, List.singleton_append]
      have hm := List.mem_of_getElem? hi
      refine ⟨⟨hm, fun q hq => by cases hq⟩, ih _ _ (by simpa using hsz) ?_⟩
      obtain ⟨h1, o, ho, _⟩ := mem_ready.1 hm
      have hlt : i < ops.size := (Array.getElem?_eq_some_iff.1 ho).1
      have hsub : ((List.range ops.size).filter fun j => !(listed.setIfInBounds i true).getD j true) = ((List.range ops.size).filter fun j => !listed.getD j true).erase i := by
        rw [List.Nodup.erase_eq_filter (List.Pairwise.filter _ List.nodup_range), List.filter_filter]
        apply List.filter_congr
        intro j hj
        by_cases e : j = i
        · subst e
          have : j < listed.size := by rw [hsz]; exact hlt
          simp [this]
        · rw [getD_set_ne true (Ne.symm e)]
          simp [e]
      rw [hsub, List.length_erase_of_mem (by rw [List.mem_filter, List.mem_range]; exact ⟨hlt, by rw [h1]; rfl⟩)]
      omega

/-- of two that are not ordered one comes first -/
theorem lin_split {x y : Nat} (hxy : x ≠ y) : ∀ (r : List Nat) (listed : Array Bool), listed.size = ops.size → x < ops.size → y < ops.size → Lin ops ex r listed → Lin ops ((y, x) :: ex) r listed ∨ Lin ops ((x, y) :: ex) r listed
  | [], listed, hsz, hx, hy, h => .inl fun i hi => h i ⟨hi.1, fun q hq => hi.2 q (List.mem_cons_of_mem _ hq)⟩
  | i :: r, listed, hsz, hx, hy, h => by
    obtain ⟨hi, hr⟩ := h
    have up : ∀ (z u : Nat), u < listed.size → (i = z → listed.getD u false = true) → Rdy ops ((z, u) :: ex) listed i := fun z u _ hz => ⟨hi.1, fun q hq hqi => by
      rcases List.mem_cons.1 hq with rfl | hq
      · exact hz hqi.symm
      · exact hi.2 q hq hqi⟩
    -- once it is listed, the added edge says nothing
    have free : ∀ (z u : Nat) (r : List Nat) (listed : Array Bool), listed.getD u false = true → Lin ops ex r listed → Lin ops ((z, u) :: ex) r listed := by
      intro z u r
      induction r with
      | nil => exact fun listed hu h j hj => h j ⟨hj.1, fun q hq => hj.2 q (List.mem_cons_of_mem _ hq)⟩
      | cons j r ih =>
        intro listed hu h
        refine ⟨⟨h.1.1, fun q hq hqj => ?_⟩, ih _ (getD_set_true hu) h.2⟩
        rcases List.mem_cons.1 hq with rfl | hq
        · exact hu
        · exact h.1.2 q hq hqj
    by_cases hix : i = x
    · subst hix
      left
      refine ⟨up _ _ (by omega) (fun e => absurd e hxy), free _ _ _ _ ?_ hr⟩
      have : i < listed.size := by omega
      simp [this]
    · by_cases hiy : i = y
      · subst hiy
        right
        refine ⟨up _ _ (by omega) (fun e => absurd e.symm hxy), free _ _ _ _ ?_ hr⟩
        have : i < listed.size := by omega
        simp [this]
      · rcases lin_split hxy r (listed.setIfInBounds i true) (by simpa using hsz) hx hy hr with h | h
        · exact .inl ⟨up _ _ (by omega) (fun e => absurd e hiy), h⟩
        · exact .inr ⟨up _ _ (by omega) (fun e => absurd e hix), h⟩

/-- the numbers of R are all numbers there are -/
def allR (n : Nat) (R : List (Nat × Nat)) : Bool := R.length == n && (List.range n).all (fun j => R.any fun q => q.1 == j) && R.all fun q => decide (q.1 < n)
def ordB (l : List Oper) (ex : List (Nat × Nat)) (R : List (Nat × Nat)) : Bool := Region.noSelect l.toArray && allR l.length R && okR l.toArray ex R

theorem wpOps_of_ord {l : List Oper} {a : Act} {w : World} (R : List (Nat × Nat)) (hB : ordB l ex R = true) (hC : C w) (r : List Nat) (hr : Lin l.toArray ex r (Array.replicate l.toArray.size false))
    (h : wpW P l.toArray C (NoPanic Q) (pick l R) a w) : wpOps P l.toArray (NoPanic Q) r a w := by
  unfold ordB allR at hB
  simp only [Bool.and_eq_true, beq_iff_eq] at hB
  obtain ⟨⟨hs, ⟨hlen, hall⟩, hlt⟩, hR⟩ := hB
  refine wpOps_of_wpI (P := P) (C := C) (Q := NoPanic Q) hs (fun c a a' w hp => hp) r R (Array.replicate l.toArray.size false) a w hr hR (by simp) (fun j => ?_) (fun _ => hC) (wpI_of_pick R a _ hR h)
  constructor
  · intro hf
    have hj : j < l.length := by
      apply Classical.byContradiction
      intro hx
      simp [Nat.not_lt.1 hx] at hf
    have := List.all_eq_true.1 hall j (List.mem_range.2 hj)
    obtain ⟨q, hq, hqe⟩ := List.any_eq_true.1 this
    rw [beq_iff_eq] at hqe
    exact ⟨q.2, by rw [← hqe]; exact hq⟩
  · rintro ⟨k, hk⟩
    have := List.all_eq_true.1 hlt _ hk
    have : j < l.length := by simpa using this
    simp [this]

theorem lin_all {l : List Oper} (t : Nat) : Lin l.toArray [] (Region.linearise.go .any l.toArray l.toArray.size t (Array.replicate l.toArray.size false) []) (Array.replicate l.toArray.size false) := by
  refine lin_go _ _ _ (by simp) ?_
  refine Nat.le_trans (List.length_filter_le _ _) (by simp)

theorem wp_region_ord {id : Nat} {l : List Oper} {a : Act} {w : World} (C : World → Prop) (R : List (Nat × Nat)) (hm : P.follows .mixedOrders = true) (hB : ordB l [] R = true) (hC : C w.drew)
    (h : wpW P l.toArray C (NoPanic Q) (pick l R) a w.drew) : (Code.region id l.toArray true).wp P Q a w := by
  refine wp_region_noPanic (wp_region_draw fun t => ?_)
  simp only [Region.schedule, hm, Bool.true_or, if_true]
  exact wpOps_of_ord R hB hC _ (lin_all t) h

/-- two that act, x and y, are not ordered: both orders -/
theorem wp_region_ord2 {id : Nat} {l : List Oper} {a : Act} {w : World} (C : World → Prop) (x y : Nat) (R R' : List (Nat × Nat)) (hm : P.follows .mixedOrders = true) (hxy : x ≠ y ∧ x < l.length ∧ y < l.length) (hB : ordB l [(y, x)] R = true) (hB' : ordB l [(x, y)] R' = true) (hC : C w.drew)
    (h : wpW P l.toArray C (NoPanic Q) (pick l R) a w.drew) (h' : wpW P l.toArray C (NoPanic Q) (pick l R') a w.drew) : (Code.region id l.toArray true).wp P Q a w := by
  refine wp_region_noPanic (wp_region_draw fun t => ?_)
  simp only [Region.schedule, hm, Bool.true_or, if_true]
  rcases lin_split (ops := l.toArray) hxy.1 _ _ (by simp) (by simpa using hxy.2.1) (by simpa using hxy.2.2) (lin_all t) with hl | hl
  · exact wpOps_of_ord R hB hC _ hl h
  · exact wpOps_of_ord R' hB' hC _ hl h'

/-! ### the steps of the walk -/
theorem wpW_nil {a : Act} {w : World} (h : Q .normal a w) : wpW P ops C (NoPanic Q) [] a w := h
theorem held_of {D : World → Prop} {o : Oper} {a a' : Act} (w0 : World) (h0 : D w0) (h : ∀ wa, D wa → wpQuiet P ops (fun w' => w' = wa) (fun a'' => a'' = a') [o] a) : ∃ v, Held P ops D o a v ∧ a' = a.put o.dst v := by
  have key : ∀ wa, D wa → ∃ v', a.put o.dst v' = a' ∧ (if Region.wanted o (yielded ops a.tmps) = true then o.quietAt P a (fun w' => w' = wa) wa v' else v' = undef) := by
    intro wa hD
    have h1 := h wa hD
    unfold wpQuiet at h1
    by_cases hw : Region.wanted o (yielded ops a.tmps) = true
    · rw [if_pos hw] at h1
      obtain ⟨v, h1, h2⟩ := h1
      unfold wpQuiet at h2
      exact ⟨v, h2, by rw [if_pos hw]; exact h1 wa rfl⟩
    · rw [if_neg hw] at h1
      unfold wpQuiet at h1
      exact ⟨undef, h1, by rw [if_neg hw]⟩
  obtain ⟨v, h1, h2⟩ := key w0 h0
  refine ⟨v, fun wa hD => ?_, h1.symm⟩
  obtain ⟨v', h3, h4⟩ := key wa hD
  exact ⟨v', by rw [h3, h1], h4⟩
/-- an operation that looks at no world -/
theorem wpW_light {o : Oper} {rest : List (Nat × Oper)} {a : Act} {w : World} (a' : Act) (h : ∀ wa, wpQuiet P ops (fun w' => w' = wa) (fun a'' => a'' = a') [o] a) (hr : wpW P ops C Q rest a' w) : wpW P ops C Q ((0, o) :: rest) a w := by
  obtain ⟨v, h1, rfl⟩ := held_of (D := cls C w 0) w trivial (fun wa _ => h wa)
  unfold wpW
  rw [if_neg (by decide), if_neg (by decide)]
  exact ⟨v, h1, hr⟩
/-- one that looks at the world as it stands -/
theorem wpW_here {o : Oper} {rest : List (Nat × Oper)} {a : Act} {w : World} (a' : Act) (h : wpQuiet P ops (fun w' => w' = w) (fun a'' => a'' = a') [o] a) (hr : wpW P ops C Q rest a' w) : wpW P ops C Q ((1, o) :: rest) a w := by
  obtain ⟨v, h1, rfl⟩ := held_of (D := cls C w 1) w rfl (fun wa (e : wa = w) => by rw [e]; exact h)
  unfold wpW
  rw [if_neg (by decide), if_neg (by decide)]
  exact ⟨v, h1, hr⟩
/-- one that looks at what C holds -/
theorem wpW_held {o : Oper} {rest : List (Nat × Oper)} {a : Act} {w : World} (hC : C w) (a' : Act) (h : ∀ wa, C wa → wpQuiet P ops (fun w' => w' = wa) (fun a'' => a'' = a') [o] a) (hr : wpW P ops C Q rest a' w) : wpW P ops C Q ((2, o) :: rest) a w := by
  obtain ⟨v, h1, rfl⟩ := held_of (D := cls C w 2) w hC h
  unfold wpW
  rw [if_neg (by decide), if_neg (by decide)]
  exact ⟨v, h1, hr⟩
/-- one that acts: run by the walk's own steps; the goal behind it is 'QQ .normal a' w'' -/
theorem wpW_act {o : Oper} {rest : List (Nat × Oper)} {a : Act} {w : World} (h : ∀ QQ : Exit → Act → World → Prop, (∀ a' w', C w' → wpW P ops C Q rest a' w' → QQ .normal a' w') → wpList P ops QQ [o] a w) (hg : o.guard = none) : wpW P ops C Q ((3, o) :: rest) a w := by
  have h1 := h (fun e a' w' => e = .normal ∧ C w' ∧ wpW P ops C Q rest a' w') (fun a' w' h1 h2 => ⟨rfl, h1, h2⟩)
  have hw : Region.wanted o (yielded ops a.tmps) = true := by simp [Region.wanted, hg]
  unfold wpW
  rw [if_pos rfl, if_pos hw]
  unfold wpList at h1
  rw [if_pos hw] at h1
  have hno : ¬ LetsOut (fun (e : Exit) a' w' => e = .normal ∧ C w' ∧ wpW P ops C Q rest a' w') := by
    rintro ⟨a', w', h, _⟩
    cases h
  rcases h1 with h1 | ⟨_, h1⟩
  · unfold Oper.wp at h1 ⊢
    generalize (execOp a.eval o).run P w = r at *
    cases r with
    | ok n w' =>
      cases n <;> simp only [Oper.upon] at h1 ⊢
      case value u => exact h1.2
      case skip => exact h1.2
      case defer x => exact h1.2
      case enter f args =>
        refine Calls.mono h1 fun e w'' he => ?_
        cases e with
        | returned u => exact he.2
        | panicked c => cases he.1
        | outgrown => exact absurd he hno
      case row f args => exact Rows.mono h1 fun u w'' he => he.2
    | halt x w' =>
      cases x <;> simp only [Oper.upon] at h1 ⊢
      cases h1.1
  · exact absurd h1 hno
/-- one that acts, with a guard that is met: run by the walk's own steps; the goal behind it is 'QQ .normal a' w'' -/
theorem wpW_actg {o : Oper} {rest : List (Nat × Oper)} {a : Act} {w : World} (h : ∀ QQ : Exit → Act → World → Prop, (∀ a' w', C w' → wpW P ops C Q rest a' w' → QQ .normal a' w') → wpList P ops QQ [o] a w) (hw : Region.wanted o (yielded ops a.tmps) = true) : wpW P ops C Q ((3, o) :: rest) a w := by
  have h1 := h (fun e a' w' => e = .normal ∧ C w' ∧ wpW P ops C Q rest a' w') (fun a' w' h1 h2 => ⟨rfl, h1, h2⟩)
  unfold wpW
  rw [if_pos rfl, if_pos hw]
  unfold wpList at h1
  rw [if_pos hw] at h1
  have hno : ¬ LetsOut (fun (e : Exit) a' w' => e = .normal ∧ C w' ∧ wpW P ops C Q rest a' w') := by
    rintro ⟨a', w', h, _⟩
    cases h
  rcases h1 with h1 | ⟨_, h1⟩
  · unfold Oper.wp at h1 ⊢
    generalize (execOp a.eval o).run P w = r at *
    cases r with
    | ok n w' =>
      cases n <;> simp only [Oper.upon] at h1 ⊢
      case value u => exact h1.2
      case skip => exact h1.2
      case defer x => exact h1.2
      case enter f args =>
        refine Calls.mono h1 fun e w'' he => ?_
        cases e with
        | returned u => exact he.2
        | panicked c => cases he.1
        | outgrown => exact absurd he hno
      case row f args => exact Rows.mono h1 fun u w'' he => he.2
    | halt x w' =>
      cases x <;> simp only [Oper.upon] at h1 ⊢
      cases h1.1
  · exact absurd h1 hno
/-- one that acts, the last that C's worlds are wanted for: run by the walk's own steps; the goal behind it is 'QQ .normal a' w'' -/
theorem wpW_last {o : Oper} {rest : List (Nat × Oper)} {a : Act} {w : World} (h : ∀ QQ : Exit → Act → World → Prop, Shut (∀ a' w', wpW P ops C Q rest a' w' → QQ .normal a' w') → wpList P ops QQ [o] a w) (hg : o.guard = none) : wpW P ops C Q ((4, o) :: rest) a w := by
  have h1 := h (fun e a' w' => e = .normal ∧ wpW P ops C Q rest a' w') (fun a' w' h1 => ⟨rfl, h1⟩)
  have hw : Region.wanted o (yielded ops a.tmps) = true := by simp [Region.wanted, hg]
  unfold wpW
  rw [if_neg (by decide), if_pos rfl, if_pos hw]
  unfold wpList at h1
  rw [if_pos hw] at h1
  have hno : ¬ LetsOut (fun (e : Exit) a' w' => e = .normal ∧ wpW P ops C Q rest a' w') := by
    rintro ⟨a', w', h, _⟩
    cases h
  rcases h1 with h1 | ⟨_, h1⟩
  · unfold Oper.wp at h1 ⊢
    generalize (execOp a.eval o).run P w = r at *
    cases r with
    | ok n w' =>
      cases n <;> simp only [Oper.upon] at h1 ⊢
      case value u => exact h1.2
      case skip => exact h1.2
      case defer x => exact h1.2
      case enter f args =>
        refine Calls.mono h1 fun e w'' he => ?_
        cases e with
        | returned u => exact he.2
        | panicked c => cases he.1
        | outgrown => exact absurd he hno
      case row f args => exact Rows.mono h1 fun u w'' he => he.2
    | halt x w' =>
      cases x <;> simp only [Oper.upon] at h1 ⊢
      cases h1.1
  · exact absurd h1 hno
end
end Go.Proofs.Ythiaeldhelhjlaa

/- A region that draws its order: three that act and are not ordered; the world behind an act by a name. No Go function in sight. -/
namespace Go.Proofs.Ythiaeldhelhjlaa
open Go.RowKit

section
variable {P : Program} {ops : Array Oper} {C : World → Prop} {Q : Exit → Act → World → Prop}

theorem wpW_name {R : List (Nat × Oper)} {a : Act} {w : World} (h : ∀ w', w' = w → wpW P ops C Q R a w') : wpW P ops C Q R a w := h w rfl

/-- three that act, x, y and z, are not ordered: six orders: xyz, xzy, zxy, yxz, yzx, zyx -/
theorem wp_region_ord6 {id : Nat} {l : List Oper} {a : Act} {w : World} (C : World → Prop) (x y z : Nat) (R1 R2 R3 R4 R5 R6 : List (Nat × Nat)) (hm : P.follows .mixedOrders = true) (hxy : x ≠ y ∧ y ≠ z ∧ x ≠ z ∧ x < l.length ∧ y < l.length ∧ z < l.length)
    (h1 : ordB l [(z, y), (y, x)] R1 = true) (h2 : ordB l [(z, x), (y, z), (y, x)] R2 = true) (h3 : ordB l [(x, z), (y, z), (y, x)] R3 = true)
    (h4 : ordB l [(z, x), (x, y)] R4 = true) (h5 : ordB l [(z, y), (x, z), (x, y)] R5 = true) (h6 : ordB l [(y, z), (x, z), (x, y)] R6 = true) (hC : C w.drew)
    (g1 : wpW P l.toArray C (NoPanic Q) (pick l R1) a w.drew) (g2 : wpW P l.toArray C (NoPanic Q) (pick l R2) a w.drew) (g3 : wpW P l.toArray C (NoPanic Q) (pick l R3) a w.drew)
    (g4 : wpW P l.toArray C (NoPanic Q) (pick l R4) a w.drew) (g5 : wpW P l.toArray C (NoPanic Q) (pick l R5) a w.drew) (g6 : wpW P l.toArray C (NoPanic Q) (pick l R6) a w.drew) : (Code.region id l.toArray true).wp P Q a w := by
  refine wp_region_noPanic (wp_region_draw fun t => ?_)
  simp only [Region.schedule, hm, Bool.true_or, if_true]
  obtain ⟨n1, n2, n3, l1, l2, l3⟩ := hxy
  have sz : (Array.replicate l.toArray.size false).size = l.toArray.size := by simp
  have b1 : x < l.toArray.size := by simpa using l1
  have b2 : y < l.toArray.size := by simpa using l2
  have b3 : z < l.toArray.size := by simpa using l3
  rcases lin_split (ops := l.toArray) n1 _ _ sz b1 b2 (lin_all t) with hA | hB
  · rcases lin_split (ops := l.toArray) n2 _ _ sz b2 b3 hA with h | h
    · exact wpOps_of_ord R1 h1 hC _ h g1
    · rcases lin_split (ops := l.toArray) n3 _ _ sz b1 b3 h with h | h
      · exact wpOps_of_ord R2 h2 hC _ h g2
      · exact wpOps_of_ord R3 h3 hC _ h g3
  · rcases lin_split (ops := l.toArray) n3 _ _ sz b1 b3 hB with h | h
    · exact wpOps_of_ord R4 h4 hC _ h g4
    · rcases lin_split (ops := l.toArray) n2 _ _ sz b2 b3 h with h | h
      · exact wpOps_of_ord R5 h5 hC _ h g5
      · exact wpOps_of_ord R6 h6 hC _ h g6
end
end Go.Proofs.Ythiaeldhelhjlaa

/- Contracts of the reference's functions on bits: filled up. -/
namespace Go.Proofs.Ythiaeldhelhjlaa
open Go.RowKit Cad

theorem BoxAt.below {w w' : World} {B x : Nat} {v : Value} {N : Int} (h : BoxAt w x v N) (hb : Below B w w') (hx : x < B) : BoxAt w' x v N := by
  unfold BoxAt at h ⊢
  rw [hb.block x hx, h]
theorem BoxAt.alloc {w : World} {x : Nat} {v : Value} {N : Int} (h : BoxAt w x v N) (o : Obj) : BoxAt (w.alloc o) x v N := by
  have hx : x < w.heap.size := by
    apply Classical.byContradiction; intro hx; unfold BoxAt at h; rw [Array.getElem?_eq_none (by omega)] at h; cases h
  unfold BoxAt at h ⊢
  rw [Below.heap_alloc _ _ _ hx, h]
end Go.Proofs.Ythiaeldhelhjlaa

/- Contracts of the reference's functions on bits: aligned. -/
namespace Go.Proofs.Ythiaeldhelhjlaa
open Go.RowKit Cad

end Go.Proofs.Ythiaeldhelhjlaa

/- Contracts of the reference's functions on bits: parts. -/
namespace Go.Proofs.Ythiaeldhelhjlaa
open Go.RowKit Cad

/-- the bits from i up to k -/
def midB (B : List Bool) (i k : Nat) : List Bool := (B.drop i).take (k - i)
theorem midB_len (B : List Bool) {i k : Nat} (h : i ≤ k) (hk : k ≤ B.length) : (midB B i k).length = k - i := by simp [midB]; omega
theorem midB_snoc (B : List Bool) {i k : Nat} (h : i ≤ k) (hk : k < B.length) : midB B i (k + 1) = midB B i k ++ [B.getD k false] := by
  unfold midB
  rw [show k + 1 - i = (k - i) + 1 by omega, List.take_add_one, List.getElem?_drop, show i + (k - i) = k by omega]
  simp [List.getD, hk]
theorem BoxAt.drew {w : World} {x : Nat} {v : Value} {N : Int} (h : BoxAt w x v N) : BoxAt w.drew x v N := h
theorem BoxAt.lt {w : World} {x : Nat} {v : Value} {N : Int} (h : BoxAt w x v N) : x < w.heap.size := by
  apply Classical.byContradiction; intro hx; unfold BoxAt at h; rw [Array.getElem?_eq_none (by omega)] at h; cases h
theorem Kept.drew {base : Nat} {W w : World} (h : Kept base W w) : Kept base W w.drew := ⟨h.bel.drew, h.oth⟩
theorem Kept.below {base B : Nat} {w w' : World} (h : Below B w w') (hb : base ≤ B) (hs : w.heap.size ≤ B) : Kept base w w' := ⟨h.mono hb, fun k hk _ => h.block k (Nat.lt_of_lt_of_le hk hs)⟩

/-- behind 'out = Add(out, At(b, i))' -/
theorem added {W wr wA wB : World} {z x y : Nat} {vx vy vz v1 : Value} {Nx Ny Nz N1 : Int} {n : Nat} {xs : List Value} (hk : Kept W.heap.size W wr) (hbA : Below wr.drew.heap.size wr.drew wA) (hkB : Kept W.heap.size wA wB)
    (ho : wB.ownsRow W.heap.size 5 1 v1 n xs) (hx : BoxAt wr x vx Nx) (hy : BoxAt wr y vy Ny) (hz : BoxAt wr z vz Nz) (hxz : x ≠ z) (hyz : y ≠ z) (hW : W.heap.size ≤ z) :
    ((wB.setCell ⟨z, 0, none⟩ v1).setCell ⟨z, 1, none⟩ (.int .i64 N1)).ownsRow W.heap.size 5 1 v1 n xs ∧ BoxAt ((wB.setCell ⟨z, 0, none⟩ v1).setCell ⟨z, 1, none⟩ (.int .i64 N1)) x vx Nx ∧
    BoxAt ((wB.setCell ⟨z, 0, none⟩ v1).setCell ⟨z, 1, none⟩ (.int .i64 N1)) y vy Ny ∧ BoxAt ((wB.setCell ⟨z, 0, none⟩ v1).setCell ⟨z, 1, none⟩ (.int .i64 N1)) z v1 N1 ∧
    Kept W.heap.size W ((wB.setCell ⟨z, 0, none⟩ v1).setCell ⟨z, 1, none⟩ (.int .i64 N1)) := by
  have hxB := (hx.drew.below hbA hx.lt).kept hkB
  have hyB := (hy.drew.below hbA hy.lt).kept hkB
  have hzB := (hz.drew.below hbA hz.lt).kept hkB
  have ap := hzB.apart ho
  refine ⟨own_set (own_set ho ap _ _) ap _ _, (hxB.other hxz _).other hxz _, (hyB.other hyz _).other hyz _, hzB.set _ _, ?_⟩
  exact (((hk.drew.trans (Kept.below hbA (Nat.le_trans hk.bel.size (Nat.le_refl _)) (Nat.le_refl _))).trans hkB).setCell (Nat.le_refl _) hW _).setCell (Nat.le_refl _) hW _

end Go.Proofs.Ythiaeldhelhjlaa

/- Contracts of the package bits: sizes, spare bits, checks. -/
namespace Go.Proofs.Ythiaeldhelhjlaa
open Go.RowKit Cad

theorem spare_iff {l : List Int} {n : Nat} (hl : ∀ x ∈ l, 0 ≤ x ∧ x ≤ 255) (hlen : l.length = (n + 7) / 8) (hn : n ≤ 330000) : Valid l n ↔ n % 8 = 0 ∨ l.getD (l.length - 1) 0 / 2 ^ (n % 8) = 0 := by
  constructor
  · rintro ⟨B, hB, _, rfl⟩
    have hB : B.length = n := by omega
    by_cases h8 : n % 8 = 0
    · exact .inl h8
    · refine .inr ?_
      rw [pack_getD _ _ (by omega), hlen]
      have hb := byteN_lt B ((n + 7) / 8 - 1)
      have hz : byteN B ((n + 7) / 8 - 1) / 2 ^ (n % 8) = 0 := by
        apply Nat.div_eq_of_lt
        apply Nat.lt_pow_two_of_testBit
        intro i hi
        rw [Nat.testBit_eq_decide_div_mod_eq]
        by_cases h : i < 8
        · have := byteN_bit B ((n + 7) / 8 - 1) i h
          rw [getD_ge B _ (by omega)] at this
          simpa using this
        · have : byteN B ((n + 7) / 8 - 1) / 2 ^ i = 0 := Nat.div_eq_of_lt (Nat.lt_of_lt_of_le hb (Nat.pow_le_pow_right (n := 2) (by decide) (show 8 ≤ i by omega)))
          rw [this]; rfl
      generalize byteN B ((n + 7) / 8 - 1) = c at *
      rw [show ((c : Int) / 2 ^ (n % 8)) = ((c / 2 ^ (n % 8) : Nat) : Int) by simp, hz]; rfl
  · intro h
    refine Valid_of hl (by omega) (by omega) (by omega) fun i hi hj => ?_
    rcases h with h | h
    · omega
    · have hj' : i / 8 = l.length - 1 := by omega
      unfold bit
      rw [hj']
      have hb := getD_bd hl (l.length - 1)
      obtain ⟨c, hc⟩ : ∃ c : Nat, l.getD (l.length - 1) 0 = c := ⟨(l.getD (l.length - 1) 0).toNat, by omega⟩
      rw [hc] at h ⊢
      have h0 : c / 2 ^ (n % 8) = 0 := by
        have : ((c : Int) / 2 ^ (n % 8)) = ((c / 2 ^ (n % 8) : Nat) : Int) := by simp
        omega
      have h1 : c / 2 ^ (i % 8) = 0 := by
        have : i % 8 = n % 8 + (i % 8 - n % 8) := by omega
        rw [this, Nat.pow_add, ← Nat.div_div_eq_div_mul, h0]; simp
      rw [Int.toNat_natCast, h1]; rfl

theorem Bsize_ok (W : World) (n : Nat) (h1 : n ≤ 1000000000) :
    Calls Try.prog 40 #[.int .i64 n] W fun e W' => e = .returned (.int .i64 (((n + 7) / 8 : Nat) : Int)) ∧ W = W' := by
  go_enter Try.func40, Try.ntmps40
  go_wp2
  go_ret
  exact ⟨by go_num, rfl⟩

/-- what spare says of the last byte -/
def spareV (l : List Int) (n : Nat) : Int := if n % 8 = 0 then 0 else l.getD (l.length - 1) 0 / 2 ^ (n % 8)
theorem Bspare_ok (W : World) (a : Option Addr) (len cap : Nat) (n : Nat) (l : List Int) (hr : Row .u8 W a len cap l) (hn : n ≤ 330000) (hl : len = (n + 7) / 8) :
    Calls Try.prog 41 #[.agg #[.slice a len cap, .int .i64 n]] W fun e W' => e = .returned (.int .u8 (spareV l n)) ∧ Below W.heap.size W W' := by
  have hbE := (Below.refl W.heap.size W).alloc (Nat.le_refl _) (.cells #[.slice a len cap, .int .i64 n] 29)
  have hmax := hr.hmax
  have hcap := hr.hcap
  have hlen := hr.hlen
  unfold maxLen at hmax
  unfold spareV
  by_cases h8 : n % 8 = 0
  · rw [if_pos h8]
    clear hl hlen
    go_enter Try.func41, Try.ntmps41
    go_wp2
    go_ret
    exact ⟨rfl, hbE⟩
  · rw [if_neg h8]
    obtain ⟨b, off, rfl, hlt, hc⟩ := hr.cells (by omega)
    have hcell := hc (len - 1) (by omega)
    have hb := getD_bd (u8_bd hr.wf) (len - 1)
    have hp : 1 ≤ len := by omega
    rw [hlen]
    obtain ⟨c, hcc⟩ : ∃ c, c = l.getD (len - 1) 0 := ⟨_, rfl⟩
    rw [← hcc] at hcell hb ⊢
    clear hcc hc hr hl hlen
    go_enter Try.func41, Try.ntmps41
    go_wp2
    go_ret
    exact ⟨by go_num, hbE⟩
end Go.Proofs.Ythiaeldhelhjlaa
