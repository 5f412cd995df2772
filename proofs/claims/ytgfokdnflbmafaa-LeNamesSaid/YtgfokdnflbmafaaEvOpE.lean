/- Each operation of the evaluator is the model's: append, copy, cuts. -/
import Derived.Test.YtgfokdnflbmafaaEvOpD
import Derived.Deep.DeepAppendWide
namespace Go.Proofs.Ytgfokdnflbmafaa.Ev
open Go Go.RowKit

theorem ldS_ok {W0 : World} {p : Nat → Pl} {H : Hp} {w : World} (hR : Rel W0 p H w) {a : Option Addr} {m c n : Nat} {l : List Value} {x' : Value} (h : ldS H a n = some l) (hx : VR p H.n (.slice a m c) x') (hn : 0 < n) :
    l.length = n ∧ ∃ ad c' ws, x' = .slice (some ad) m c' ∧ LR (SR p H.n) l ws ∧ ∀ j u, ws[j]? = some u → w.cell? (ad.add j) = some u := by
  unfold ldS at h
  split at h
  · rw [if_neg (by omega)] at h; cases h
  · rename_i b o
    rw [if_neg (by omega)] at h
    obtain ⟨hlen, ws, h1, h2⟩ := ld_ok hR h
    have hb : b ≠ OPEN := by
      intro e
      unfold ld at h
      split at h
      · rename_i B hB
        have := (hR.live b B hB).1
        have := hR.small
        omega
      · cases h
    obtain ⟨_, c', rfl, _⟩ := (hx.scalar rfl).slice_inv hb
    refine ⟨hlen, _, c', ws, rfl, h1, fun j u hu => ?_⟩
    rw [← h2 j u hu]
    congr 1
    unfold Addr.add; split <;> simp_all
  · cases h

/-- a slice that is cut or grown: its value -/
theorem SR.mk_open {p : Nat → Pl} {n b l c' : Nat} (hb : b ≠ OPEN) (hn : b < n) (h1 : l ≤ c') (h2 : c' ≤ maxLen) (h3 : c' * (p b).es = (p b).sz) : VR p n (.slice (some ⟨b, 0, none⟩) l OPEN) (.slice (some ⟨(p b).b, 0, none⟩) l c') := by
  refine SR.vr rfl ?_
  simp only [SR, if_neg hb, if_true]
  exact ⟨hn, c', rfl, h1, h2, fun _ => h3⟩

theorem VR.slice_form {p : Nat → Pl} {n : Nat} {a : Option Addr} {l c : Nat} {w : Value} (h : VR p n (.slice a l c) w) : ∃ a' c', w = .slice a' l c' ∧ l ≤ c' := by
  have hs := h.scalar rfl
  match a with
  | none => obtain ⟨rfl, rfl, rfl⟩ := hs; exact ⟨_, _, rfl, Nat.le_refl _⟩
  | some ⟨b, o, none⟩ =>
    by_cases hb : b = OPEN
    · simp only [SR, if_pos hb] at hs; obtain ⟨rfl, y, c', rfl⟩ := hs; exact ⟨_, _, rfl, Nat.zero_le _⟩
    · obtain ⟨_, c', rfl, h1, _⟩ := hs.slice_inv hb; exact ⟨_, _, rfl, h1⟩
  | some ⟨b, o, some s⟩ => exact absurd hs (by simp [SR])

theorem run_firstCells_zero {P : Program} {w : World} (size : Nat) (a : Option Addr) (l c : Nat) : (Builtin.firstCells size 0 (.slice a l c)).run P w = .ok #[] w := by
  cases a <;> simp [Builtin.firstCells, loadCells, loadCellsFrom, Sem.run_pure]

theorem run_append_zero {P : Program} {w : World} {t ty e : TypeId} {i : TypeInfo} (hu : P.underlying t = some (.slice e)) (hi : P.info? e = some i) (a : Option Addr) (n c : Nat) (ax : Option Addr) (cx : Nat) (h : n ≤ c) :
    (Builtin.append_ #[t, t] ty #[.slice a n c, .slice ax 0 cx]).run P w = .ok (.slice a n c) w := by
  have hf := run_firstCells_zero (P := P) (w := w) i.size ax 0 cx
  cases a <;> simp [Builtin.append_, run_underlying hu, sizeOf, typeInfo, hi, Builtin.lenOf, h, hf, storeCells, Sem.run_pure]

theorem run_append_store {P : Program} {w w' : World} {t ty e : TypeId} {i : TypeInfo} (hu : P.underlying t = some (.slice e)) (hi : P.info? e = some i) (g o n c : Nat) (ad : Addr) (m cx : Nat) (ws : List Value) (hl : ws.length = m * i.size)
    (hc : ∀ j u, ws[j]? = some u → w.cell? (ad.add j) = some u) (hroom : n + m ≤ c) (hst : (storeCells ⟨g, o + n * i.size, none⟩ ws).run P w = .ok () w') :
    (Builtin.append_ #[t, t] ty #[.slice (some ⟨g, o, none⟩) n c, .slice (some ad) m cx]).run P w = .ok (.slice (some ⟨g, o, none⟩) (n + m) c) w' := by
  have hf := run_firstCells_some (P := P) w i.size m ad m cx ws hl hc
  have ha : (⟨g, o, none⟩ : Addr).add (n * i.size) = ⟨g, o + n * i.size, none⟩ := by unfold Addr.add; split <;> simp_all
  simp [Builtin.append_, run_underlying hu, sizeOf, typeInfo, hi, Builtin.lenOf, hroom, hf, ha, hst, Sem.run_pure]

theorem fit_small {need old bytes : Nat} (h : old < need) (h1 : need ≤ 16777216) (h2 : bytes ≤ 4096) : Builtin.nextslicecap need old * bytes ≤ 281474976710656 := by
  refine growslice_fits_wide h ?_
  calc (need + need / 4 + 192) * bytes ≤ (16777216 + 16777216 / 4 + 192) * 4096 := Nat.mul_le_mul (by omega) h2
    _ ≤ 281474976710656 := by decide

/-- a slice in a new block, which may have room behind it -/
theorem grown_ok {W0 : World} {p : Nat → Pl} {H : Hp} {w : World} (hR : Rel W0 p H w) (hn : H.n < OPEN) (e : TypeId) (L : List Value) (M : List Value) (hlr : LR (SR p H.n) L M) (pad : Array Value) (i : TypeInfo) (n c' : Nat) (hM : M.length = n * i.size)
    (hsz : (M.toArray ++ pad).size = c' * i.size) (h1 : n ≤ c') (h2 : c' ≤ maxLen) :
    ∃ p', VR p' (H.n + 1) (.slice (some ⟨H.n, 0, none⟩) n OPEN) (.slice (some ⟨w.heap.size, 0, none⟩) n c') ∧ Rel W0 p' ⟨Tr.set DEEP H.t H.n (some ⟨e, L, true, true, i.size⟩), H.n + 1⟩ (w.drew.alloc (.cells (M.toArray ++ pad) e)) ∧ Ext p p' H.n (H.n + 1) := by
  have hne : H.n ≠ OPEN := by omega
  obtain ⟨k1, k2⟩ := hR.add DEEP H.t (fun _ _ h => h) hn _ ((hR.bel.drew).alloc hR.bel.size _) (fun j b hb => Below.heap_alloc w.drew _ _ (hR.lt hb)) w.heap.size hR.bel.size (fun j b hb => Nat.ne_of_lt (hR.lt hb))
    ⟨e, L, true, true, i.size⟩ (M.toArray ++ pad) (heap_alloc_new w.drew _) (by simp; rw [hlr.1]; omega) (by simp) (by simpa [hlr.1] using hlr)
  refine ⟨_, ?_, k1, k2⟩
  have := SR.mk_open (p := fun j => if j = H.n then ⟨w.heap.size, (M.toArray ++ pad).size, i.size⟩ else p j) (n := H.n + 1) (l := n) (c' := c') hne (by omega) h1 h2 (by simpa using hsz.symm)
  simpa using this

theorem evAppend_ok {R : Type} {P : Program} {W0 : World} {p : Nat → Pl} {H : Hp} {w : World} (hR : Rel W0 p H w) {t ty : TypeId} {s s' x x' : Value} (hs : VR p H.n s s') (hx : VR p H.n x x') {k : Value → Hp → Option R} {r : R}
    (h : evAppend P H t s x k = some r) : ∃ v H' p' w' v', k v H' = some r ∧ (Builtin.append_ #[t, t] ty #[s', x']).run P w = .ok v' w' ∧ VR p' H'.n v v' ∧ Rel W0 p' H' w' ∧ Ext p p' H.n H'.n := by
  unfold evAppend at h
  split at h
  · rename_i e a n c ax m cx hu
    split at h
    · rename_i i hi
      split at h
      · rename_i z hz
        split at h
        · rename_i hc
          obtain ⟨hzc, hzs, hpos, hby, hsm⟩ := hc
          split at h
          · rename_i hm
            subst hm
            obtain ⟨a', c', rfl, hle⟩ := hs.slice_form
            obtain ⟨ax', cx', rfl, _⟩ := hx.slice_form
            exact ⟨_, H, p, w, _, h, run_append_zero hu hi a' n c' ax' cx' hle, hs, hR, Ext.refl _ _⟩
          · rename_i hm
            split at h
            · cases h
            · rename_i news hnews
              obtain ⟨hnl, ad, cx', ws, rfl, hlr, hcell⟩ := ldS_ok hR hnews hx (Nat.mul_pos (by omega) hpos)
              have hwl : ws.length = m * i.size := by rw [← hlr.1]; exact hnl
              have hmb : (n + m) * i.bytes ≤ 16777216 * 4096 := Nat.mul_le_mul (by omega) hby
              split at h
              · split at h
                · rename_i hnc
                  obtain ⟨rfl, rfl⟩ := hnc
                  obtain ⟨_, _, rfl⟩ := hs.scalar rfl
                  obtain ⟨hn, hk⟩ := Hp.new_ok h
                  have hrun := run_append_nil (P := P) w t ty e i z hu hi hz ad m cx' ws hwl hcell (by omega) (by omega) (by simp at hmb; omega)
                  have hge := grownCap_ge w m 0 e
                  obtain ⟨p', k1, k2, k3⟩ := grown_ok hR hn e news ws hlr (Builtin.zeroCells z.cells (grownCap w m 0 e - m)) i m (grownCap w m 0 e) hwl (by
                    rw [Array.size_append, size_zeroCells, hzs]
                    simp only [List.size_toArray, hwl, ← Nat.add_mul]
                    congr 1; omega) hge (grownCap_le_maxLen w m 0 e (by unfold maxLen; omega))
                  exact ⟨_, _, p', _, _, hk, hrun, k1, k2, k3⟩
                · cases h
              · rename_i b o
                split at h
                · cases h
                · rename_i hb
                  obtain ⟨hbn, c', rfl, hnc, hk1, hk2⟩ := (hs.scalar rfl).slice_inv hb
                  split at h
                  · rename_i hop
                    split at h
                    · rename_i B hB
                      split at h
                      · rename_i hcond
                        obtain ⟨rfl, happ, hopn, rfl, hes, hnb⟩ := hcond
                        simp only [Hp.put, Tr.setK_eq, fL_eq] at h
                        have hkill := hR.kill DEEP b
                        obtain ⟨hn, hk⟩ := Hp.new_ok h
                        simp only [] at hn hk
                        obtain ⟨_, hWb, ⟨q0, cur, q1, q2, q3, q4, q5⟩⟩ := hR.live b B hB
                        obtain ⟨hcm, hcs⟩ := hk2 hop
                        have hcs := hcs rfl
                        rw [q0, hes, ← q2] at hcs
                        have hol : (cur.toList.take B.cells.length).length = n * i.size := by rw [← q5.1]; omega
                        have hocell : ∀ j u, (cur.toList.take B.cells.length)[j]? = some u → w.cell? ((⟨(p b).b, 0, none⟩ : Addr).add j) = some u := by
                          intro j u hj
                          rw [List.getElem?_take] at hj
                          split at hj
                          · have : (⟨(p b).b, 0, none⟩ : Addr).add j = ⟨(p b).b, j, none⟩ := by unfold Addr.add; split <;> simp_all
                            rw [this]; simp only [World.cell?, q1]; simpa using hj
                          · cases hj
                        by_cases hroom : n + m ≤ c'
                        · have hfit : n * i.size + ws.length ≤ cur.size := by
                            rw [hwl, ← hcs, ← Nat.add_mul]; exact Nat.mul_le_mul_right _ hroom
                          have hrun := run_append_room (P := P) w t ty B.e i hu hi (p b).b n c' cur q1 ad m cx' ws hwl hcell hlr.one hroom hfit
                          have hne : H.n ≠ OPEN := by omega
                          obtain ⟨k1, k2⟩ := hkill.add DEEP (Tr.set DEEP H.t b none) (fun _ _ h => h) hn (w.setRow (p b).b (cur.toList.take (n * i.size) ++ ws ++ cur.toList.drop (n * i.size + ws.length)).toArray)
                            (hR.bel.trans ⟨rfl, rfl, rfl, by simp [World.setRow], fun g hg => by simp only [World.setRow, Array.getElem?_modify]; rw [if_neg (by omega)]⟩)
                            (fun j c hc => by
                              simp only [World.setRow, Array.getElem?_modify]
                              rcases Tr.get_set DEEP H.t b none j c hc with ⟨_, e⟩ | ⟨hbj, e⟩
                              · cases e
                              · rw [if_neg fun e' => hbj (hR.inj b j B c hB e e')])
                            (p b).b hWb (fun j c hc => by
                              rcases Tr.get_set DEEP H.t b none j c hc with ⟨_, e⟩ | ⟨hbj, e⟩
                              · cases e
                              · exact fun e' => hbj (hR.inj b j B c hB e e'.symm))
                            ⟨B.e, B.cells ++ news, true, true, i.size⟩ (cur.toList.take (n * i.size) ++ ws ++ cur.toList.drop (n * i.size + ws.length)).toArray (setRow_heap w _ cur _ B.e (0, 0) q1)
                            (by simp [hlr.1]; omega) (by simp) (by
                              simp only [List.length_append]
                              rw [← hnb, hlr.1]
                              have : ((cur.toList.take (n * i.size) ++ ws ++ cur.toList.drop (n * i.size + ws.length)).toArray.toList).take (n * i.size + ws.length) = cur.toList.take (n * i.size) ++ ws := by
                                simp only [List.toList_toArray]
                                exact List.take_left' (by simp; omega)
                              rw [this]
                              rw [← hnb] at q5
                              exact q5.append hlr)
                          refine ⟨_, _, _, _, _, hk, hrun, ?_, k1, k2⟩
                          have := SR.mk_open (p := fun j => if j = H.n then ⟨(p b).b, (cur.toList.take (n * i.size) ++ ws ++ cur.toList.drop (n * i.size + ws.length)).toArray.size, i.size⟩ else p j) (n := H.n + 1) (l := n + m) (c' := c') hne (by omega) hroom hcm (by
                            simp only [if_true]
                            have hss : (cur.toList.take (n * i.size) ++ ws ++ cur.toList.drop (n * i.size + ws.length)).length = cur.size := by simp; omega
                            rw [List.size_toArray, hss]; exact hcs)
                          simpa using this
                        · have hg : c' < n + m := by omega
                          have hrun := run_append_grow (P := P) w t ty B.e i z hu hi hz ⟨(p b).b, 0, none⟩ n c' (cur.toList.take B.cells.length) hol hocell ad m cx' ws hwl hcell hg (by omega) (fit_small hg (by omega) hby)
                          have hge := grownCap_ge w (n + m) c' B.e
                          obtain ⟨p', k1, k2, k3⟩ := grown_ok hkill hn B.e (B.cells ++ news) (cur.toList.take B.cells.length ++ ws) (q5.append hlr) (Builtin.zeroCells z.cells (grownCap w (n + m) c' B.e - (n + m))) i (n + m) (grownCap w (n + m) c' B.e) (by rw [List.length_append, hol, hwl, Nat.add_mul]) (by
                            rw [Array.size_append, size_zeroCells, hzs]
                            simp only [List.size_toArray, List.length_append, hol, hwl, ← Nat.add_mul]
                            congr 1; omega) hge (grownCap_le_maxLen w (n + m) c' B.e (by unfold maxLen; omega))
                          refine ⟨_, _, p', _, _, hk, hrun, k1, ?_, k3⟩
                          simpa using k2
                      · cases h
                    · cases h
                  · rename_i hop
                    obtain rfl := hk1 hop
                    split at h
                    · rename_i hroom
                      obtain ⟨_, H', w', hk, hn', hR', hst⟩ := st_ok (P := P) hR h hlr
                      refine ⟨_, H', p, w', _, hk, run_append_store hu hi (p b).b o n c' ad m cx' ws hwl hcell hroom hst, ?_, hR', by rw [hn']; exact Ext.refl _ _⟩
                      refine SR.vr rfl ?_
                      simp only [SR, if_neg hb, if_neg hop]
                      exact ⟨by omega, hroom, trivial⟩
                    · rename_i hroom
                      have hg : c' < n + m := by omega
                      split at h
                      · rename_i olds holds
                        rw [fL_eq] at h
                        obtain ⟨hn, hk⟩ := Hp.new_ok h
                        have hold : ∃ os, LR (SR p H.n) olds os ∧ os.length = n * i.size ∧ ∀ j u, os[j]? = some u → w.cell? ((⟨(p b).b, o, none⟩ : Addr).add j) = some u := by
                          by_cases h0 : n = 0
                          · subst h0
                            have : olds = [] := by simp [ldS] at holds; exact holds
                            subst this
                            exact ⟨[], LR.nil _, by simp, by simp⟩
                          · obtain ⟨ho1, ad2, c2, os, he, ho2, ho3⟩ := ldS_ok hR holds hs (Nat.mul_pos (by omega) hpos)
                            simp only [Value.slice.injEq, Option.some.injEq] at he
                            obtain ⟨rfl, _, _⟩ := he
                            exact ⟨os, ho2, by rw [← ho2.1]; exact ho1, ho3⟩
                        obtain ⟨os, ho1, ho2, ho3⟩ := hold
                        have hrun := run_append_grow (P := P) w t ty e i z hu hi hz ⟨(p b).b, o, none⟩ n c' os ho2 ho3 ad m cx' ws hwl hcell hg (by omega) (fit_small hg (by omega) hby)
                        have hge := grownCap_ge w (n + m) c' e
                        obtain ⟨p', k1, k2, k3⟩ := grown_ok hR hn e (olds ++ news) (os ++ ws) (ho1.append hlr) (Builtin.zeroCells z.cells (grownCap w (n + m) c' e - (n + m))) i (n + m) (grownCap w (n + m) c' e) (by rw [List.length_append, ho2, hwl, Nat.add_mul]) (by
                          rw [Array.size_append, size_zeroCells, hzs]
                          simp only [List.size_toArray, List.length_append, ho2, hwl, ← Nat.add_mul]
                          congr 1; omega) hge (grownCap_le_maxLen w (n + m) c' e (by unfold maxLen; omega))
                        refine ⟨_, _, p', _, _, hk, hrun, k1, ?_, k3⟩
                        simpa using k2
                      · cases h
              · cases h
        · cases h
      · cases h
    · cases h
  · cases h
end Go.Proofs.Ytgfokdnflbmafaa.Ev
