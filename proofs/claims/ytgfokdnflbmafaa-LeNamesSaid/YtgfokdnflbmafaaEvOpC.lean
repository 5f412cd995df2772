/- Each operation of the evaluator is the model's: what makes memory. -/
import Derived.Test.YtgfokdnflbmafaaEvOpB
namespace Go.Proofs.Ytgfokdnflbmafaa.Ev
open Go Go.RowKit

theorem constOk_SR {p : Nat → Pl} {n : Nat} {v : Value} (h : constOk v = true) : SR p n v v := by
  unfold constOk at h
  split at h
  all_goals first | rfl | exact ⟨rfl, rfl, rfl⟩ | cases h
theorem LR.refl_of {p : Nat → Pl} {n : Nat} {l : List Value} (h : l.all constOk = true) : LR (SR p n) l l :=
  ⟨rfl, fun i x y hx hy => by rw [hx] at hy; cases hy; exact constOk_SR (List.all_eq_true.1 h x (List.mem_of_getElem? hx))⟩
theorem zeroB_ok {P : Program} {t : TypeId} {z : Value} (h : zeroB P t = some z) : ∃ i, P.info? t = some i ∧ i.zero = some z ∧ z.cells.toList.all constOk = true := by
  unfold zeroB at h
  split at h
  · rename_i z' hz
    rw [Bool.cond_eq_ite] at h
    split at h
    · rename_i hc
      cases h
      obtain ⟨i, h1, h2⟩ := Option.bind_eq_some_iff.1 hz
      exact ⟨i, h1, h2, hc⟩
    · cases h
  · cases h

/-- the cells of a value -/
theorem VR.cells {p : Nat → Pl} {n : Nat} {v w : Value} (h : VR p n v w) (hv : ∀ l, v ≠ .tuple l) : LR (SR p n) v.cells.toList w.cells.toList := by
  unfold VR at h
  split at h
  · rename_i l; exact absurd rfl (hv l)
  · unfold VR1 at h
    split at h
    · obtain ⟨l', rfl, hl⟩ := h; exact hl
    · rename_i h1 h2
      have hs := h
      have hw := h.one
      have e1 : v.cells = #[v] := by cases v <;> first | rfl | (exact absurd rfl (h2 _))
      have e2 : w.cells = #[w] := by cases w <;> first | rfl | (simp [Value.oneCell'] at hw)
      rw [e1, e2]
      exact (LR.nil _).cons hs

theorem Hp.new_ok {R : Type} {H : Hp} {b : Blk} {k : Hp → Option R} {r : R} (h : H.new b k = some r) : H.n < OPEN ∧ k ⟨Tr.set DEEP H.t H.n (some b), H.n + 1⟩ = some r := by
  unfold Hp.new at h
  split at h
  · rename_i hn; rw [Tr.setK_eq, fNat_eq] at h; exact ⟨hn, h⟩
  · cases h

/-- a new pointer's block -/
theorem newPtr_ok {R : Type} {W0 : World} {p : Nat → Pl} {H : Hp} {w : World} (hR : Rel W0 p H w) {e : TypeId} {vs : List Value} {ws : Array Value} {app : Bool} {k : Hp → Option R} {r : R} (es : Nat) (h : H.new ⟨e, vs, false, app, es⟩ k = some r) (hl : LR (SR p H.n) vs ws.toList) :
    ∃ p' H', k H' = some r ∧ Rel W0 p' H' (w.alloc (.cells ws e)) ∧ Ext p p' H.n H'.n ∧ H'.n = H.n + 1 ∧ (p' H.n).b = w.heap.size ∧ (p' H.n).es = es ∧ (p' H.n).sz = ws.size ∧ H.n < OPEN := by
  obtain ⟨hn, hk⟩ := Hp.new_ok h
  obtain ⟨h1, h2⟩ := hR.new DEEP hn e vs ws app es hl
  exact ⟨_, _, hk, h1, h2, rfl, by simp, by simp, by simp, hn⟩

/-! ### literals -/
theorem fold_splice (off : Nat) : ∀ (cs : List Value) (j : Nat) (cells : Array Value), off + j + cs.length ≤ cells.size →
    ((cs.zipIdx j).foldl (fun a x => a.setIfInBounds (off + x.2) x.1) cells).toList = splice cells.toList (off + j) cs
  | [], j, cells, _ => by simp [splice]
  | c :: cs, j, cells, h => by
    simp only [List.zipIdx_cons, List.foldl_cons]
    rw [fold_splice off cs (j + 1) _ (by simp at h ⊢; omega)]
    simp only [List.length_cons] at h
    have e := list_seg_step cells.toList (off + j) c cs (by simp; omega)
    simp only [splice, Array.toList_setIfInBounds, List.length_cons]
    simpa [Nat.add_assoc, Nat.add_comm 1, List.append_assoc] using e

/-- parts: their values -/
def PR (p : Nat → Pl) (n : Nat) (a b : List (Nat × Value)) : Prop := a.length = b.length ∧ ∀ (i : Nat) (x y : Nat × Value), a[i]? = some x → b[i]? = some y → x.1 = y.1 ∧ VR p n x.2 y.2

theorem evFill_ok {p : Nat → Pl} {n : Nat} (place : Nat → Option (Nat × Nat)) : ∀ (ps qs : List (Nat × Value)) (cells l : List Value) (cur : Array Value), PR p n ps qs → (∀ x ∈ ps, ∀ l, x.2 ≠ .tuple l) → LR (SR p n) cells cur.toList →
    evFill place cells ps = some l → ∃ cur', Instr.fill place cur qs = some cur' ∧ LR (SR p n) l cur'.toList
  | [], qs, cells, l, cur, hp, _, hl, h => by
    have : qs = [] := List.eq_nil_of_length_eq_zero (by simpa using hp.1.symm)
    subst this
    cases h
    exact ⟨cur, rfl, hl⟩
  | (i, v) :: ps, qs, cells, l, cur, hp, ht, hl, h => by
    match qs, hp with
    | [], hp => exact absurd hp.1 (by simp)
    | (j, v') :: qs, hp =>
      obtain ⟨e, hv⟩ := hp.2 0 (i, v) (j, v') rfl rfl
      simp only [] at e hv
      subst e
      simp only [evFill] at h
      split at h
      · cases h
      · rename_i off size hpl
        split at h
        · rename_i hc
          have hcv := hv.cells (ht (i, v) List.mem_cons_self)
          have hcs : cells.length = cur.size := by simpa using hl.1
          have hvs : v.cells.size = v'.cells.size := by simpa using hcv.1
          have hf := fold_splice off v'.cells.toList 0 cur (by simp; omega)
          obtain ⟨cur', h1, h2⟩ := evFill_ok place ps qs _ l (v'.cells.toList.zipIdx.foldl (fun a x => a.setIfInBounds (off + x.2) x.1) cur) ⟨by simpa using hp.1, fun k x y hx hy => hp.2 (k + 1) x y (by simpa using hx) (by simpa using hy)⟩ (fun x hx => ht x (List.mem_cons_of_mem _ hx)) (by rw [hf]; exact hl.splice hcv off) h
          refine ⟨cur', ?_, h2⟩
          simp only [Instr.fill, hpl]
          rw [if_neg (by simp; omega), ← h1]
          congr 1
          rw [← Array.foldl_toList]
          simp
        · cases h
end Go.Proofs.Ytgfokdnflbmafaa.Ev
