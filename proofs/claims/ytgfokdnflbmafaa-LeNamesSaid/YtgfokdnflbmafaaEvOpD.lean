/- Each operation of the evaluator is the model's: literals, make, append, copy. -/
import Derived.Test.YtgfokdnflbmafaaEvOpC
namespace Go.Proofs.Ytgfokdnflbmafaa.Ev
open Go Go.RowKit

theorem SR.vr {p : Nat → Pl} {n : Nat} {v w : Value} (hv : scalar v = true) (h : SR p n v w) : VR p n v w := by
  unfold VR VR1
  split
  · simp [Ev.scalar] at hv
  · split
    · simp [Ev.scalar] at hv
    · exact h

theorem vals_ok {p : Nat → Pl} {n : Nat} {T : Tr Value} {a : Act} {N : Nat} (h : TR p n T a.tmps N) : ∀ {xs : List Operand} {vs : List Value}, vals T xs = some vs → LR (VR p n) vs (xs.map a.eval)
  | [], vs, hv => by cases hv; exact LR.nil _
  | x :: xs, vs, hv => by
    simp only [vals] at hv
    split at hv
    · rename_i v vs' h1 h2
      cases hv
      exact (vals_ok h h2).cons (val_ok h h1)
    · cases hv
theorem valParts_ok {p : Nat → Pl} {n : Nat} {T : Tr Value} {a : Act} {N : Nat} (h : TR p n T a.tmps N) : ∀ {xs : List (Nat × Operand)} {vs : List (Nat × Value)}, valParts T xs = some vs → PR p n vs (xs.map fun x => (x.1, a.eval x.2))
  | [], vs, hv => by cases hv; exact ⟨rfl, by simp⟩
  | (i, x) :: xs, vs, hv => by
    simp only [valParts] at hv
    split at hv
    · rename_i v vs' h1 h2
      cases hv
      have ih := valParts_ok h h2
      refine ⟨by simp [ih.1], fun j u y hu hy => ?_⟩
      cases j with
      | zero => simp at hu hy; subst hu hy; exact ⟨rfl, val_ok h h1⟩
      | succ j => exact ih.2 j u y (by simpa using hu) (by simpa using hy)
    · cases hv

theorem places_ok {P : Program} : ∀ {fs : List Field} {i : Nat}, fs.all (fun f => (P.info? f.type).isSome) = true → ∃ places, fs.mapM (fun f => (P.info? f.type).map fun i => (f.offset, i.size)) = some places ∧ ∀ i, places[i]? = evPlaces P fs i
  | [], _, _ => ⟨[], rfl, fun i => by simp [evPlaces]⟩
  | f :: fs, i, h => by
    simp only [List.all_cons, Bool.and_eq_true] at h
    obtain ⟨places, h1, h2⟩ := places_ok (i := i) h.2
    obtain ⟨inf, hinf⟩ := Option.isSome_iff_exists.1 h.1
    refine ⟨(f.offset, inf.size) :: places, by simp [List.mapM_cons, hinf, h1], fun j => ?_⟩
    cases j with
    | zero => simp [evPlaces, cellsB, hinf]
    | succ j => simpa [evPlaces] using h2 j

theorem noTuples_ok {l : List (Nat × Value)} (h : noTuples l = true) : ∀ x ∈ l, ∀ t, x.2 ≠ .tuple t := by
  intro x hx t e
  have := List.all_eq_true.1 h x hx
  rw [e] at this
  cases this

theorem evBuild_ok {P : Program} {t : TypeId} {ps : List (Nat × Value)} {v : Value} (h : evBuild P t ps = some v) (ht : noTuples ps = true) (w : World) (p : Nat → Pl) (n : Nat) (qs : Array (Nat × Value)) (hq : PR p n ps qs.toList) :
    ∃ v', (Instr.build t qs).run P w = .ok v' w ∧ VR p n v v' := by
  unfold evBuild at h
  split at h
  · rename_i z fs hz hu
    obtain ⟨it, hit, hzz, hzc⟩ := zeroB_ok hz
    split at h
    · rename_i hall
      simp only [Option.map_eq_some_iff] at h
      obtain ⟨l, hl, rfl⟩ := h
      obtain ⟨places, hp1, hp2⟩ := places_ok (i := 0) hall
      have hpl : evPlaces P fs.toList = fun i => places.toArray[i]? := by funext i; rw [← hp2 i]; simp
      rw [hpl] at hl
      obtain ⟨cur, hc1, hc2⟩ := evFill_ok _ ps qs.toList _ l z.cells hq (noTuples_ok ht) (LR.refl_of hzc) hl
      refine ⟨.agg cur, run_build w t qs cur ?_, ⟨cur, rfl, by simpa using hc2⟩⟩
      unfold Program.built
      simp only [hit, hu, hzz, hp1]
      exact hc1
    · cases h
  · rename_i z m e hz hu
    obtain ⟨it, hit, hzz, hzc⟩ := zeroB_ok hz
    split at h
    · rename_i sz hsz
      simp only [Option.map_eq_some_iff] at h
      obtain ⟨l, hl, rfl⟩ := h
      obtain ⟨ie, hie, rfl⟩ := Option.map_eq_some_iff.1 hsz
      obtain ⟨cur, hc1, hc2⟩ := evFill_ok _ ps qs.toList _ l z.cells hq (noTuples_ok ht) (LR.refl_of hzc) hl
      refine ⟨.agg cur, run_build w t qs cur ?_, ⟨cur, rfl, by simpa using hc2⟩⟩
      unfold Program.built
      simp only [hit, hu, hzz, hie]
      exact hc1
    · cases h
  · cases h

theorem repCells_len (z : List Value) : ∀ n, (repCells z n).length = n * z.length
  | 0 => by simp [repCells]
  | n + 1 => by simp [repCells, repCells_len z n, Nat.succ_mul, Nat.add_comm]
theorem repCells_get (z : List Value) (hz : 0 < z.length) : ∀ (n i : Nat), i < n * z.length → (repCells z n)[i]? = z[i % z.length]?
  | 0, i, h => by simp at h
  | n + 1, i, h => by
    rw [repCells]
    by_cases hi : i < z.length
    · rw [List.getElem?_append_left hi, Nat.mod_eq_of_lt hi]
    · rw [List.getElem?_append_right (by omega), repCells_get z hz n _ (by rw [Nat.succ_mul] at h; omega), ← Nat.mod_eq_sub_mod (by omega)]
theorem repCells_all (z : List Value) (h : z.all constOk = true) : ∀ n, (repCells z n).all constOk = true
  | 0 => rfl
  | n + 1 => by simp only [repCells, List.all_append, h, repCells_all z h n, Bool.and_self]
theorem repCells_eq (z : Array Value) (hz : 0 < z.size) (n : Nat) : ((Array.range (n * z.size)).map (z[· % z.size]!)).toList = repCells z.toList n := by
  apply List.ext_getElem?
  intro i
  by_cases hi : i < n * z.size
  · rw [repCells_get z.toList (by simpa using hz) n i (by simpa using hi)]
    have hm : i % z.size < z.size := Nat.mod_lt _ hz
    simp [hi, hm, getElem!_pos]
  · rw [List.getElem?_eq_none (by simp; omega), List.getElem?_eq_none (by rw [repCells_len]; simp; omega)]

theorem evBuildSlice_ok {R : Type} {P : Program} {W0 : World} {p : Nat → Pl} {H : Hp} {w : World} (hR : Rel W0 p H w) {t : TypeId} {len : Nat} {ps : List (Nat × Value)} {qs : Array (Nat × Value)} (ht : noTuples ps = true) (hq : PR p H.n ps qs.toList) {k : Value → Hp → Option R} {r : R}
    (h : evBuildSlice P H t len ps k = some r) : ∃ v H' p' w' v', k v H' = some r ∧ (Instr.buildSlice t len qs).run P w = .ok v' w' ∧ VR p' H'.n v v' ∧ Rel W0 p' H' w' ∧ Ext p p' H.n H'.n := by
  unfold evBuildSlice at h
  split at h
  · rename_i e hu
    split at h
    · rename_i i hi
      split at h
      · rename_i z hz
        split at h
        · rename_i hc
          obtain ⟨hzc, hzs, hpos, hsm⟩ := hc
          split at h
          · rename_i l hl
            rw [fL_eq] at h
            have hzp : 0 < z.cells.size := by omega
            obtain ⟨cur, hc1, hc2⟩ := evFill_ok (fun j => some (j * i.size, i.size)) ps qs.toList _ l ((Array.range (len * i.size)).map (z.cells[· % z.cells.size]!)) hq (noTuples_ok ht)
              (by rw [show i.size = z.cells.size from hzs.symm, repCells_eq _ hzp]; exact LR.refl_of (repCells_all _ hzc len)) hl
            obtain ⟨p', H', hk, h1, h2, h3, h4, _, _, h6⟩ := newPtr_ok hR i.size h hc2
            have hne : H.n ≠ OPEN := by omega
            refine ⟨_, H', p', _, .slice (some ⟨w.heap.size, 0, none⟩) len len, hk, ?_, ?_, h1, h2⟩
            · by_cases h0 : len * i.size = 0
              · have hlen : len = 0 := by
                  rcases Nat.mul_eq_zero.1 h0 with h | h
                  · exact h
                  · omega
                subst hlen
                have hf : Instr.fill (fun j => some (j * i.size, i.size)) ((Array.range (0 * i.size)).map (fun j => (#[] : Array Value)[j % (#[] : Array Value).size]!)) qs.toList = some cur := by
                  rw [← hc1]; congr 1; simp
                simp [Instr.buildSlice, run_underlying hu, sizeOf, typeInfo, hi, newRow] at hf ⊢
                simp [hf]
              · exact run_buildSlice w t e len qs cur i z hu hi hz (by omega) h0 hc1
            · refine SR.vr rfl ?_
              simp only [SR, if_neg hne]
              refine ⟨by rw [h3]; omega, ?_⟩
              have : len ≠ OPEN := by
                intro e
                rw [e] at hsm
                have : OPEN * 1 ≤ OPEN * i.size := Nat.mul_le_mul_left _ hpos
                unfold OPEN at this hsm
                omega
              rw [if_neg this, h4]
              exact ⟨Nat.le_refl _, rfl⟩
          · cases h
        · cases h
      · cases h
    · cases h
  · cases h

theorem evMake_ok {R : Type} {P : Program} {W0 : World} {p : Nat → Pl} {H : Hp} {w : World} (hR : Rel W0 p H w) {t : TypeId} {l l' c c' : Value} (hl : VR p H.n l l') (hcc : VR p H.n c c') {k : Value → Hp → Option R} {r : R}
    (h : evMake P H t l c k = some r) : ∃ v H' p' w' v', k v H' = some r ∧ (Instr.makeSlice t l' c').run P w = .ok v' w' ∧ VR p' H'.n v v' ∧ Rel W0 p' H' w' ∧ Ext p p' H.n H'.n := by
  unfold evMake at h
  split at h
  · rename_i e kl l kc c hu
    obtain rfl := hl.int
    obtain rfl := hcc.int
    split at h
    · rename_i i hi
      split at h
      · rename_i z hz
        split at h
        · rename_i hc
          obtain ⟨hzc, hzs, h0, hlc, hsm, hby⟩ := hc
          rw [fL_eq] at h
          by_cases hzp : 0 < z.cells.size
          · have hrun := run_make (P := P) w t e i z hu hi hz kl kc l c h0 hlc (by
              have : (i.bytes : Int) * c ≤ 4096 * 16777216 := Int.mul_le_mul (by omega) hsm (by omega) (by omega)
              omega) (by omega)
            have hcells : (madeCells z.cells (c.toNat * i.size)).toList = repCells z.cells.toList c.toNat := by
              rw [show i.size = z.cells.size from hzs.symm]; exact repCells_eq z.cells hzp c.toNat
            obtain ⟨p', H', hk, h1, h2, h3, h4, _, _, h6⟩ := newPtr_ok (ws := madeCells z.cells (c.toNat * i.size)) hR i.size h (by rw [hcells]; exact LR.refl_of (repCells_all _ hzc _))
            have hne : H.n ≠ OPEN := by omega
            refine ⟨_, H', p', _, _, hk, hrun, ?_, h1, h2⟩
            refine SR.vr rfl ?_
            simp only [SR, if_neg hne]
            refine ⟨by rw [h3]; omega, ?_⟩
            rw [if_neg (by unfold OPEN; omega), h4]
            exact ⟨by omega, rfl⟩
          · have hz0 : z.cells.size = 0 := by omega
            have hrun := run_make (P := P) w t e i z hu hi hz kl kc l c h0 hlc (by
              have : (i.bytes : Int) * c ≤ 4096 * 16777216 := Int.mul_le_mul (by omega) hsm (by omega) (by omega)
              omega) (by omega)
            have he0 : repCells z.cells.toList c.toNat = [] := List.eq_nil_of_length_eq_zero (by rw [repCells_len]; simp [hz0])
            rw [he0] at h
            obtain ⟨p', H', hk, h1, h2, h3, h4, _, _, h6⟩ := newPtr_ok (ws := madeCells z.cells (c.toNat * i.size)) hR i.size h (by
              have : (madeCells z.cells (c.toNat * i.size)).toList = [] := List.eq_nil_of_length_eq_zero (by simp [size_madeCells, ← hzs, hz0])
              rw [this]; exact LR.nil _)
            have hne : H.n ≠ OPEN := by omega
            refine ⟨_, H', p', _, _, hk, hrun, ?_, h1, h2⟩
            refine SR.vr rfl ?_
            simp only [SR, if_neg hne]
            refine ⟨by rw [h3]; omega, ?_⟩
            rw [if_neg (by unfold OPEN; omega), h4]
            exact ⟨by omega, rfl⟩
        · cases h
      · cases h
    · cases h
  · cases h
end Go.Proofs.Ytgfokdnflbmafaa.Ev
