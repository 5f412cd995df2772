/- Each operation of the evaluator is the model's: cuts, copy, new variables, stores. -/
import Derived.Test.YtgfokdnflbmafaaEvOpE
namespace Go.Proofs.Ytgfokdnflbmafaa.Ev
open Go Go.RowKit

def OR (p : Nat → Pl) (n : Nat) : Option Value → Option Value → Prop
  | none, none => True
  | some x, some y => VR p n x y
  | _, _ => False

theorem evBound_inv {x : Value} {d top n : Nat} (h : evBound (some x) d top = some n) : ∃ k i, x = .int k i ∧ 0 ≤ i ∧ i ≤ top ∧ n = i.toNat := by
  unfold evBound at h
  split at h
  · rename_i e; cases e
  · rename_i k i e
    cases e
    split at h
    · rename_i hi; cases h; exact ⟨k, i, rfl, hi.1, hi.2, rfl⟩
    · cases h
  · cases h
theorem OR.same {p : Nat → Pl} {m : Nat} {v v' : Option Value} (h : OR p m v v') {d top n : Nat} (e : evBound v d top = some n) : v' = v := by
  cases v with
  | none => cases v' with
    | none => rfl
    | some _ => exact h.elim
  | some x => cases v' with
    | none => exact h.elim
    | some y =>
      obtain ⟨k, i, rfl, _⟩ := evBound_inv e
      have h' : VR p m (.int k i) y := h
      rw [h'.int]
theorem OR.isSome {p : Nat → Pl} {m : Nat} {v v' : Option Value} (h : OR p m v v') : v'.isSome = v.isSome := by
  cases v <;> cases v' <;> first | rfl | exact h.elim

theorem evBound_le {v : Option Value} {d top n : Nat} (h : evBound v d top = some n) (hd : d ≤ top) : n ≤ top := by
  cases v with
  | none => cases h; exact hd
  | some x => obtain ⟨k, i, rfl, h0, h1, rfl⟩ := evBound_inv h; omega
theorem evBound_up {v : Option Value} {d top top' n : Nat} (h : evBound v d top = some n) (hd : top ≤ top') : evBound v d top' = some n := by
  cases v with
  | none => exact h
  | some x => obtain ⟨k, i, rfl, h0, h1, rfl⟩ := evBound_inv h; simp [evBound, h0, Int.le_trans h1 (by omega : (top : Int) ≤ top')]

theorem run_bounds {P : Program} {w : World} {b : Bool} {len cap m h l : Nat} {lo hi mx : Option Value} (hm : evBound mx cap cap = some m) (hh : evBound hi len m = some h) (hl : evBound lo 0 h = some l) (hx : mx.isSome = true → hi.isSome = true) :
    (Instr.sliceBounds b len cap lo hi mx).run P w = .ok (l, h, m) w := by
  have key : ∀ (x : Value) (d top n : Nat) (code : BoundsCode), evBound (some x) d top = some n → (Instr.sliceBound x top code).run P w = .ok n w := by
    intro x d top n code e
    obtain ⟨k, i, rfl, h0, h1, rfl⟩ := evBound_inv e
    simp [Instr.sliceBound, asIntOf, h0, h1, Sem.run_pure]
  unfold Instr.sliceBounds
  cases mx with
  | none =>
    cases hm
    cases hi with
    | none =>
      cases hh
      cases lo with
      | none => cases hl; simp [Sem.run_pure]
      | some z => have := key z _ _ _ .sliceB hl; simp [this, Sem.run_pure]
    | some y =>
      have h1 := key y _ _ _ (if b then .sliceAcap else .sliceAlen) hh
      cases lo with
      | none => cases hl; simp [h1, Sem.run_pure]
      | some z => have := key z _ _ _ .sliceB hl; simp [h1, this, Sem.run_pure]
  | some x =>
    have h0 := key x _ _ _ (if b then .slice3Acap else .slice3Alen) hm
    cases hi with
    | none => simp at hx
    | some y =>
      have h1 := key y _ _ _ .slice3B hh
      cases lo with
      | none => cases hl; simp [h0, h1, Sem.run_pure]
      | some z => have := key z _ _ _ .slice3C hl; simp [h0, h1, this, Sem.run_pure]

theorem run_sliceAt {P : Program} {w : World} {t e : TypeId} {i : TypeInfo} (hu : P.underlying t = some (.slice e)) (hi : P.info? e = some i) {a : Option Addr} {len cap m h l : Nat} {lo hi' mx : Option Value}
    (hm : evBound mx cap cap = some m) (hh : evBound hi' len m = some h) (hl : evBound lo 0 h = some l) (hx : mx.isSome = true → hi'.isSome = true) :
    (Instr.sliceAt t (.slice a len cap) lo hi' mx).run P w = .ok (.slice (if m = l then a else a.map (·.add (l * i.size))) (h - l) (m - l)) w := by
  have hb := run_bounds (P := P) (w := w) (b := true) hm hh hl hx
  simp [Instr.sliceAt, Instr.slice, run_underlying hu, hb, sizeOf, typeInfo, hi, Sem.run_pure]

theorem evSlice_ok {P : Program} {t : TypeId} {x v : Value} {lo hi mx : Option Value} (h : evSlice P t x lo hi mx = some v) (w : World) (p : Nat → Pl) (n : Nat) (x' : Value) (lo' hi' mx' : Option Value) (hx : VR p n x x') (h1 : OR p n lo lo') (h2 : OR p n hi hi') (h3 : OR p n mx mx') :
    ∃ v', (Instr.sliceAt t x' lo' hi' mx').run P w = .ok v' w ∧ VR p n v v' := by
  unfold evSlice at h
  split at h
  · rename_i s hu
    obtain rfl := hx.string
    split at h
    · cases h
    · rename_i hmx
      have hmn : mx = none := by simpa using hmx
      subst hmn
      have : mx' = none := by have := h3.isSome; simpa using this
      subst this
      split at h
      · rename_i b hb
        split at h
        · rename_i l hl
          cases h
          obtain rfl := h2.same hb
          obtain rfl := h1.same hl
          have hrb := run_bounds (P := P) (w := w) (b := false) (mx := none) (cap := s.size) (m := s.size) rfl hb hl (by simp)
          refine ⟨.string (s.extract l b), ?_, rfl⟩
          simp [Instr.sliceAt, Instr.slice, run_underlying hu, hrb, Sem.run_pure]
        · cases h
      · cases h
  · rename_i e a len cap hu
    split at h
    · rename_i i hi0
      split at h
      · rename_i hcap
        subst hcap
        split at h
        · cases h
        · rename_i hmx
          have hmn : mx = none := by simpa using hmx
          subst hmn
          have : mx' = none := by have := h3.isSome; simpa using this
          subst this
          split at h
          · rename_i b hb
            have hbl := evBound_le hb (Nat.le_refl _)
            split at h
            · rename_i l hl
              have hll := evBound_le hl (Nat.zero_le _)
              obtain rfl := h2.same hb
              obtain rfl := h1.same hl
              split at h
              · rename_i b0 o0
                split at h
                · rename_i hb0
                  cases h
                  have hs := hx.scalar rfl
                  simp only [SR, if_pos hb0] at hs
                  obtain ⟨rfl, y, c', rfl⟩ := hs
                  obtain rfl : b = 0 := by omega
                  obtain rfl : l = 0 := by omega
                  refine ⟨_, run_sliceAt hu hi0 (mx := none) (m := c') rfl (evBound_up hb (Nat.zero_le _)) hl (by simp), SR.vr rfl ?_⟩
                  simp only [SR, if_pos hb0]
                  exact ⟨trivial, by split <;> exact ⟨_, _, rfl⟩⟩
                · rename_i hb0
                  obtain ⟨hbn, c', rfl, hlc, _, hop⟩ := (hx.scalar rfl).slice_inv hb0
                  obtain ⟨hcm, hcs⟩ := hop rfl
                  have hrun := run_sliceAt (w := w) (a := some ⟨(p b0).b, o0, none⟩) hu hi0 (mx := none) (m := c') rfl (evBound_up hb hlc) hl (by simp)
                  have hadd : (⟨(p b0).b, o0, none⟩ : Addr).add (l * i.size) = ⟨(p b0).b, o0 + l * i.size, none⟩ := by unfold Addr.add; split <;> simp_all
                  split at h
                  · rename_i hlt
                    cases h
                    rw [if_neg (by omega)] at hrun
                    simp only [Option.map_some, hadd] at hrun
                    refine ⟨_, hrun, SR.vr rfl ?_⟩
                    simp only [SR, if_neg hb0, if_true]
                    refine ⟨hbn, _, rfl, by omega, by omega, fun h0 => ?_⟩
                    obtain ⟨ho, hl0⟩ : o0 = 0 ∧ l * i.size = 0 := by omega
                    have : l = 0 := by
                      rcases Nat.mul_eq_zero.1 hl0 with h | h
                      · exact h
                      · omega
                    subst this
                    exact hcs ho
                  · split at h
                    · cases h
                    · rename_i hlt
                      cases h
                      obtain rfl : b = l := by omega
                      refine ⟨_, hrun, SR.vr rfl ?_⟩
                      simp only [SR, if_true]
                      refine ⟨trivial, ?_⟩
                      rw [Nat.sub_self]
                      split <;> exact ⟨_, _, rfl⟩
              · cases h
            · cases h
          · cases h
      · rename_i hcap
        split at h
        · cases h
        · rename_i hxx
          split at h
          · rename_i m hm
            have hmc := evBound_le hm (Nat.le_refl _)
            split at h
            · cases h
            · rename_i hmo
              split at h
              · rename_i b hb
                split at h
                · rename_i l hl
                  have hll := evBound_le hl (Nat.zero_le _)
                  obtain rfl := h3.same hm
                  obtain rfl := h2.same hb
                  obtain rfl := h1.same hl
                  have hxx' : mx'.isSome = true → hi'.isSome = true := by
                    intro h; cases hi' with
                    | none => exact absurd ⟨h, rfl⟩ hxx
                    | some _ => rfl
                  split at h
                  · cases h
                    obtain ⟨rfl, rfl, rfl⟩ := hx.scalar rfl
                    have hrun := run_sliceAt (w := w) (a := none) hu hi0 hm hb hl hxx'
                    obtain rfl : m = 0 := by omega
                    have hb0 := evBound_le hb (Nat.zero_le _)
                    refine ⟨_, hrun, SR.vr rfl ?_⟩
                    simp only [SR]
                    have : b - l = 0 := by omega
                    refine ⟨this, by omega, ?_⟩
                    rw [this]
                    simp
                  · rename_i b0 o0
                    split at h
                    · cases h
                    · rename_i hb0
                      cases h
                      obtain ⟨hbn, c', rfl, hlc, hk, _⟩ := (hx.scalar rfl).slice_inv hb0
                      obtain rfl := hk hcap
                      have hrun := run_sliceAt (w := w) (a := some ⟨(p b0).b, o0, none⟩) hu hi0 hm hb hl hxx'
                      have hadd : (⟨(p b0).b, o0, none⟩ : Addr).add (l * i.size) = ⟨(p b0).b, o0 + l * i.size, none⟩ := by unfold Addr.add; split <;> simp_all
                      have hbm : b ≤ m := by
                        cases hi' with
                        | none =>
                          cases mx' with
                          | none => cases hm; cases hb; exact hlc
                          | some _ => simp at hxx
                        | some y => obtain ⟨k, j, rfl, h0, h1, rfl⟩ := evBound_inv hb; omega
                      refine ⟨_, hrun, SR.vr rfl ?_⟩
                      simp only [SR, if_neg hb0]
                      rw [if_neg (by omega)]
                      refine ⟨hbn, by omega, ?_⟩
                      split <;> simp [hadd]
                  · cases h
                · cases h
              · cases h
          · cases h
    · cases h
  · cases h

theorem evCopy_ok {R : Type} {P : Program} {W0 : World} {p : Nat → Pl} {H : Hp} {w : World} (hR : Rel W0 p H w) {t ty : TypeId} {s s' x x' : Value} (hs : VR p H.n s s') (hx : VR p H.n x x') {k : Value → Hp → Option R} {r : R}
    (h : evCopy P H t s x k = some r) : ∃ v H' w', k v H' = some r ∧ (Builtin.copy_ #[t, t] ty #[s', x']).run P w = .ok v w' ∧ VR p H'.n v v ∧ Rel W0 p H' w' ∧ Ext p p H.n H'.n := by
  unfold evCopy at h
  split at h
  · rename_i e b o n c ax m cx hu
    split at h
    · rename_i i hi
      have hmin : Nat.min m n = min m n := rfl
      split at h
      · rename_i h0
        obtain ⟨a', c', rfl, _⟩ := hs.slice_form
        obtain ⟨ax', cx', rfl, _⟩ := hx.slice_form
        refine ⟨_, H, w, h, ?_, rfl, hR, Ext.refl _ _⟩
        have hf := run_firstCells_zero (P := P) (w := w) i.size ax' m cx'
        cases a' <;> simp [Builtin.copy_, run_underlying hu, Builtin.lenOf, hmin, h0, hf, sizeOf, typeInfo, hi, storeCells, goInt, Sem.run_pure]
      · rename_i h0
        split at h
        · cases h
        · rename_i hb
          split at h
          · rename_i cs hcs
            obtain ⟨hbn, c', rfl, hnc, _⟩ := (hs.scalar rfl).slice_inv hb
            by_cases hsz : 0 < i.size
            · obtain ⟨hl, ad, cx', ws, rfl, hlr, hcell⟩ := ldS_ok hR hcs hx (Nat.mul_pos (by omega) hsz)
              obtain ⟨_, H', w', hk, hn', hR', hst⟩ := st_ok (P := P) hR h hlr
              refine ⟨_, H', w', hk, ?_, rfl, hR', by rw [hn']; exact Ext.refl _ _⟩
              have hf := run_firstCells_some (P := P) w i.size (min m n) ad m cx' ws (by rw [← hlr.1]; exact hl) hcell
              simp [Builtin.copy_, run_underlying hu, Builtin.lenOf, hmin, hf, sizeOf, typeInfo, hi, hst, goInt, Sem.run_pure]
            · have hz : i.size = 0 := by omega
              have hcs0 : cs = [] := by
                rw [hz, Nat.mul_zero] at hcs
                unfold ldS at hcs
                split at hcs
                · simpa using hcs.symm
                · simpa using hcs.symm
                · cases hcs
              subst hcs0
              obtain ⟨ax', cx', rfl, _⟩ := hx.slice_form
              obtain ⟨_, H', w', hk, hn', hR', hst⟩ := st_ok (P := P) hR h (LR.nil _)
              refine ⟨_, H', w', hk, ?_, rfl, hR', by rw [hn']; exact Ext.refl _ _⟩
              have hf := run_firstCells_zero (P := P) (w := w) 0 ax' m cx'
              have hf' : (Builtin.firstCells 0 (min m n) (.slice ax' m cx')).run P w = .ok #[] w := by
                cases ax' <;> simp [Builtin.firstCells, loadCells, loadCellsFrom, Sem.run_pure]
              simp [Builtin.copy_, run_underlying hu, Builtin.lenOf, hmin, hf', sizeOf, typeInfo, hi, hz, hst, goInt, Sem.run_pure]
          · cases h
    · cases h
  · rename_i e n c ax m cx hu
    obtain ⟨rfl, rfl, rfl⟩ := hs.scalar rfl
    obtain ⟨ax', cx', rfl, _⟩ := hx.slice_form
    split at h
    · rename_i i hi
      refine ⟨_, H, w, h, ?_, rfl, hR, Ext.refl _ _⟩
      have hf := run_firstCells_zero (P := P) (w := w) i.size ax' m cx'
      simp [Builtin.copy_, run_underlying hu, Builtin.lenOf, hf, sizeOf, typeInfo, hi, goInt, Sem.run_pure]
    · cases h
  · cases h
end Go.Proofs.Ytgfokdnflbmafaa.Ev
