/- Memory: what is loaded, what is stored, what is new. -/
import Derived.Test.YtgfokdnflbmafaaEvRel
import Derived.Laws.IdiomCopy
namespace Go.Proofs.Ytgfokdnflbmafaa.Ev
open Go Go.RowKit

theorem Rel.add {W0 : World} {p : Nat → Pl} {H : Hp} {w : World} (h : Rel W0 p H w) (f : Nat) (t0 : Tr Blk) (ht0 : ∀ i b, t0.get i = some b → H.t.get i = some b) (hlt : H.n < OPEN) (w1 : World) (hbel : Below W0.heap.size W0 w1)
    (hold : ∀ i b, t0.get i = some b → w1.heap[(p i).b]? = w.heap[(p i).b]?) (g : Nat) (hg : W0.heap.size ≤ g) (hne : ∀ i b, t0.get i = some b → (p i).b ≠ g) (b : Blk) (cur : Array Value)
    (hcur : w1.heap[g]? = some (.cells cur b.e (0, 0))) (h1 : b.cells.length ≤ cur.size) (h2 : b.opn = false → b.cells.length = cur.size) (h3 : LR (SR p H.n) b.cells (cur.toList.take b.cells.length)) :
    Rel W0 (fun i => if i = H.n then ⟨g, cur.size, b.es⟩ else p i) ⟨Tr.set f t0 H.n (some b), H.n + 1⟩ w1 ∧ Ext p (fun i => if i = H.n then ⟨g, cur.size, b.es⟩ else p i) H.n (H.n + 1) := by
  have hext : Ext p (fun i => if i = H.n then ⟨g, cur.size, b.es⟩ else p i) H.n (H.n + 1) := ⟨Nat.le_succ _, fun i hi => if_neg (Nat.ne_of_lt hi)⟩
  refine ⟨⟨hbel, fun i c hc => ?_, fun i j c d hc hd e => ?_, hlt⟩, hext⟩
  · rcases Tr.get_set f t0 H.n (some b) i c hc with ⟨rfl, hb⟩ | ⟨hn, hb⟩
    · cases hb
      refine ⟨Nat.lt_succ_self _, by simpa using hg, ⟨by simp, cur, by simpa using hcur, by simp, h1, h2, h3.mono fun _ _ => SR.mono hext⟩⟩
    · obtain ⟨k1, k2, ⟨q0, cu, q1, q2, q3, q4, q5⟩⟩ := h.live i c (ht0 i c hb)
      simp only [if_neg (Ne.symm hn)]
      exact ⟨Nat.lt_succ_of_lt k1, k2, ⟨by rw [if_neg (Ne.symm hn)]; exact q0, cu, by rw [if_neg (Ne.symm hn), hold i c hb]; exact q1, by rw [if_neg (Ne.symm hn)]; exact q2, q3, q4, q5.mono fun _ _ => SR.mono hext⟩⟩
  · rcases Tr.get_set f t0 H.n (some b) i c hc with ⟨rfl, hb⟩ | ⟨hn, hb⟩ <;> rcases Tr.get_set f t0 H.n (some b) j d hd with ⟨rfl, hb'⟩ | ⟨hn', hb'⟩
    · rfl
    · simp only [if_true, if_neg (Ne.symm hn')] at e
      exact absurd e.symm (hne j d hb')
    · simp only [if_true, if_neg (Ne.symm hn)] at e
      exact absurd e (hne i c hb)
    · simp only [if_neg (Ne.symm hn), if_neg (Ne.symm hn')] at e
      exact h.inj i j c d (ht0 i c hb) (ht0 j d hb') e

theorem Rel.lt {W0 : World} {p : Nat → Pl} {H : Hp} {w : World} (h : Rel W0 p H w) {i : Nat} {b : Blk} (hb : H.t.get i = some b) : (p i).b < w.heap.size := by
  obtain ⟨_, _, ⟨_, cur, q1, _⟩⟩ := h.live i b hb
  apply Classical.byContradiction
  intro hx
  rw [Array.getElem?_eq_none (by omega)] at q1
  cases q1

/-- a new block of cells -/
theorem Rel.new {W0 : World} {p : Nat → Pl} {H : Hp} {w : World} (h : Rel W0 p H w) (f : Nat) (hlt : H.n < OPEN) (e : TypeId) (vs : List Value) (ws : Array Value) (app : Bool) (es : Nat) (hl : LR (SR p H.n) vs ws.toList) :
    Rel W0 (fun i => if i = H.n then ⟨w.heap.size, ws.size, es⟩ else p i) ⟨Tr.set f H.t H.n (some ⟨e, vs, false, app, es⟩), H.n + 1⟩ (w.alloc (.cells ws e)) ∧ Ext p (fun i => if i = H.n then ⟨w.heap.size, ws.size, es⟩ else p i) H.n (H.n + 1) := by
  have hlen : vs.length = ws.size := by simpa using hl.1
  refine h.add f H.t (fun _ _ h => h) hlt _ (h.bel.alloc h.bel.size _) (fun i b hb => Below.heap_alloc w _ _ (h.lt hb)) w.heap.size h.bel.size (fun i b hb => Nat.ne_of_lt (h.lt hb)) ⟨e, vs, false, app, es⟩ ws ?_ (by simp [hlen]) (fun _ => hlen) ?_
  · show (w.heap.push _)[w.heap.size]? = _
    simp
  · show LR _ vs (ws.toList.take vs.length)
    rw [hlen, ← Array.length_toList, List.take_length]
    exact hl

/-- cells that are known -/
theorem ld_ok {W0 : World} {p : Nat → Pl} {H : Hp} {w : World} (h : Rel W0 p H w) {b o n : Nat} {l : List Value} (hl : ld H b o n = some l) :
    l.length = n ∧ ∃ ws, LR (SR p H.n) l ws ∧ ∀ j u, ws[j]? = some u → w.cell? ⟨(p b).b, o + j, none⟩ = some u := by
  unfold ld at hl
  split at hl
  · rename_i B hB
    simp only [] at hl
    split at hl
    · rename_i hlen
      cases hl
      obtain ⟨_, _, ⟨_, cur, q1, q2, q3, q4, q5⟩⟩ := h.live b B hB
      refine ⟨hlen, ((cur.toList.take B.cells.length).drop o).take n, (q5.drop o).take n, fun j u hu => ?_⟩
      rw [List.getElem?_take] at hu
      split at hu
      · rw [List.getElem?_drop, List.getElem?_take] at hu
        split at hu
        · simp only [World.cell?, q1]
          simpa using hu
        · cases hu
      · cases hu
    · cases hl
  · cases hl

theorem LR.splice {R : Value → Value → Prop} {a b c d : List Value} (h : LR R a b) (k : LR R c d) (o : Nat) : LR R (splice a o c) (splice b o d) := by
  unfold Ev.splice
  rw [k.1]
  exact (h.take o).append (k.append (h.drop _))

/-- a block whose cells have turned -/
theorem Rel.upd {W0 : World} {p : Nat → Pl} {H : Hp} {w : World} (h : Rel W0 p H w) (f : Nat) {i : Nat} {b : Blk} (hb : H.t.get i = some b) (w1 : World) (hbel : Below W0.heap.size W0 w1)
    (hold : ∀ k, k ≠ (p i).b → w1.heap[k]? = w.heap[k]?) (vs : List Value) (cur : Array Value) (hcur : w1.heap[(p i).b]? = some (.cells cur b.e (0, 0))) (hsz : cur.size = (p i).sz) (hvl : vs.length = b.cells.length) (hl : LR (SR p H.n) vs (cur.toList.take vs.length)) :
    Rel W0 p ⟨Tr.set f H.t i (some { b with cells := vs }), H.n⟩ w1 := by
  have hi := h.live i b hb
  have hget : ∀ j c, (Tr.set f H.t i (some { b with cells := vs })).get j = some c → ∃ c', H.t.get j = some c' ∧ (j = i ∧ c = { b with cells := vs } ∨ j ≠ i ∧ c = c') := by
    intro j c hc
    rcases Tr.get_set f H.t i _ j c hc with ⟨rfl, e⟩ | ⟨hn, e⟩
    · cases e; exact ⟨b, hb, .inl ⟨rfl, rfl⟩⟩
    · exact ⟨c, e, .inr ⟨Ne.symm hn, rfl⟩⟩
  refine ⟨hbel, fun j c hc => ?_, fun j k c d hc hd e => ?_, h.small⟩
  · obtain ⟨c', hc', ⟨rfl, rfl⟩ | ⟨hn, rfl⟩⟩ := hget j c hc
    · obtain ⟨k1, k2, ⟨q0, cu, q1, q2, q3, q4, q5⟩⟩ := hi
      exact ⟨k1, k2, ⟨q0, cur, hcur, hsz, by rw [hsz, ← q2]; simpa [hvl] using q3, fun ho => by rw [hsz, ← q2]; simpa [hvl] using q4 ho, hl⟩⟩
    · obtain ⟨k1, k2, ⟨q0, cu, q1, q2⟩⟩ := h.live j c hc'
      refine ⟨k1, k2, ⟨q0, cu, ?_, q2⟩⟩
      rw [hold _ fun e => hn (h.inj j i c b hc' hb e)]
      exact q1
  · obtain ⟨c', hc', _⟩ := hget j c hc
    obtain ⟨d', hd', _⟩ := hget k d hd
    exact h.inj j k c' d' hc' hd' e

/-- a block that is forgotten -/
theorem Rel.kill {W0 : World} {p : Nat → Pl} {H : Hp} {w : World} (h : Rel W0 p H w) (f i : Nat) : Rel W0 p ⟨Tr.set f H.t i none, H.n⟩ w := by
  have hget : ∀ j c, (Tr.set f H.t i none).get j = some c → H.t.get j = some c := by
    intro j c hc
    rcases Tr.get_set f H.t i none j c hc with ⟨_, e⟩ | ⟨_, e⟩
    · cases e
    · exact e
  exact ⟨h.bel, fun j c hc => h.live j c (hget j c hc), fun j k c d hc hd e => h.inj j k c d (hget j c hc) (hget k d hd) e, h.small⟩

theorem SR.one {p : Nat → Pl} {n : Nat} {v w : Value} (h : SR p n v w) : w.oneCell' = true := by
  unfold SR at h
  split at h
  all_goals first | (subst h; rfl) | (obtain ⟨_, rfl⟩ := h; rfl) | (obtain ⟨_, _, rfl⟩ := h; rfl) | (split at h <;> first | (obtain ⟨_, x, c', rfl⟩ := h; rfl) | (obtain ⟨_, h⟩ := h; split at h <;> first | (obtain ⟨c', rfl, _⟩ := h; rfl) | (obtain ⟨_, rfl⟩ := h; rfl))) | exact h.elim
theorem LR.one {p : Nat → Pl} {n : Nat} {a b : List Value} (h : LR (SR p n) a b) : ∀ u ∈ b, u.oneCell' = true := by
  intro u hu
  obtain ⟨i, hi, rfl⟩ := List.getElem_of_mem hu
  exact (h.2 i (a[i]'(by rw [h.1]; exact hi)) _ (List.getElem?_eq_getElem _) (List.getElem?_eq_getElem hi)).one
end Go.Proofs.Ytgfokdnflbmafaa.Ev
