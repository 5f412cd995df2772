/- Each operation of the evaluator is the model's: values, places, loads. -/
import Derived.Test.YtgfokdnflbmafaaEvOpA
namespace Go.Proofs.Ytgfokdnflbmafaa.Ev
open Go Go.RowKit

theorem evUn_ok {P : Program} {op : UnOp} {x v : Value} (h : evUn op x = some v) (w : World) (p : Nat → Pl) (n : Nat) (x' : Value) (hx : VR p n x x') : (Op.unary op x').run P w = .ok v w ∧ VR p n v v := by
  unfold evUn at h
  split at h
  · obtain rfl := hx.int; cases h; exact ⟨by simp [Op.unary, Op.intArith, wrapB_eq, Sem.run_pure], rfl⟩
  · obtain rfl := hx.int; cases h; exact ⟨by simp only [Op.unary, Op.intBits, bits, Sem.run_pure], rfl⟩
  · obtain rfl := hx.bool; cases h; exact ⟨by simp [Op.unary, Sem.run_pure], rfl⟩
  · cases h

theorem fBytes_eq {β : Type} : ∀ (l : List Value) (k : List UInt8 → β), l.all (fun v => v matches .int .u8 _) = true → ∃ ns : List Int, l = ns.map (Value.int .u8) ∧ evConv.fBytes l k = k (ns.map fun n => UInt8.ofNat n.toNat)
  | [], k, _ => ⟨[], rfl, rfl⟩
  | v :: l, k, h => by
    simp only [List.all_cons, Bool.and_eq_true] at h
    obtain ⟨h1, h2⟩ := h
    split at h1
    · rename_i n
      obtain ⟨ns, e, hk⟩ := fBytes_eq l (fun s => k (UInt8.ofNat n.toNat :: s)) h2
      exact ⟨n :: ns, by simp [e], by simp only [evConv.fBytes, hk, List.map_cons]⟩
    · cases h1

theorem LR.u8 {p : Nat → Pl} {n : Nat} : ∀ {ns : List Int} {ws : List Value}, LR (SR p n) (ns.map (Value.int .u8)) ws → ws = ns.map (Value.int .u8)
  | [], ws, h => List.eq_nil_of_length_eq_zero (by simpa using h.1.symm)
  | m :: ns, ws, h => by
    obtain ⟨y, b', rfl, hy, ht⟩ := h.uncons
    have : y = .int .u8 m := hy
    rw [this, LR.u8 ht]; rfl

theorem evConv_ok {R : Type} {P : Program} {W0 : World} {p : Nat → Pl} {H : Hp} {w : World} (hR : Rel W0 p H w) {src dst : TypeId} {x x' : Value} {k : Value → Hp → Option R} {r : R}
    (h : evConv P H src dst x k = some r) (hx : VR p H.n x x') : ∃ v, k v H = some r ∧ (convert src dst x').run P w = .ok v w ∧ VR p H.n v v := by
  unfold evConv at h
  split at h
  · rename_i kd _ m hs hd
    obtain rfl := hx.int
    refine ⟨_, h, ?_, rfl⟩
    simp [convert, run_underlying hs, run_underlying hd, Conv.intToInt, wrapB_eq, Sem.run_pure]
  · rename_i s hs hd
    obtain rfl := hx.string
    exact ⟨_, h, by simp [convert, run_underlying hs, run_underlying hd, Sem.run_pure], rfl⟩
  · rename_i e a len c hs hd
    split at h
    · rename_i he
      split at h
      · have h' : VR p H.n (.slice none len c) x' := hx
        obtain ⟨_, _, rfl⟩ := h'.scalar rfl
        exact ⟨_, h, run_convert_bytes_nil w src e hs he 0 0 dst hd, rfl⟩
      · rename_i b o
        have hx1 := hx.scalar rfl
        split at h
        · rename_i hl
          subst hl
          refine ⟨_, h, ?_, rfl⟩
          simp only [SR] at hx1
          have : ∃ a' c', x' = .slice (some a') 0 c' := by
            split at hx1
            · obtain ⟨_, y, c', rfl⟩ := hx1; exact ⟨y, c', rfl⟩
            · obtain ⟨_, hx1⟩ := hx1
              split at hx1
              · obtain ⟨c', rfl, _⟩ := hx1; exact ⟨_, _, rfl⟩
              · exact ⟨_, _, hx1.2⟩
          obtain ⟨a', c', rfl⟩ := this
          exact run_convert_bytes_back w src dst e a' c' [] hs he hd (by simp)
        · rename_i hl
          split at h
          · rename_i l hld
            split at h
            · rename_i hall
              obtain ⟨ns, hns, hk⟩ := fBytes_eq l (fun s => k (.string ⟨s.toArray⟩) H) hall
              rw [hk] at h
              refine ⟨_, h, ?_, rfl⟩
              obtain ⟨hlen, ws, hlr, hcell⟩ := ld_ok hR hld
              rw [hns] at hlr
              have hws := hlr.u8
              have hnl : ns.length = len := by rw [← hlen, hns]; simp
              simp only [SR] at hx1
              split at hx1
              · exact absurd hx1.1 hl
              · obtain ⟨_, hx1⟩ := hx1
                have : ∃ c', x' = .slice (some ⟨(p b).b, o, none⟩) len c' := by
                  split at hx1
                  · obtain ⟨c', rfl, _⟩ := hx1; exact ⟨_, rfl⟩
                  · exact ⟨_, hx1.2⟩
                obtain ⟨c', rfl⟩ := this
                exact run_convert_bytes_arg w src e hs he (p b).b o len c' ns hnl (fun i hi => hcell i _ (by rw [hws]; simp [List.getD, List.getElem?_eq_getElem (show i < ns.length by omega)])) dst hd
            · cases h
          · cases h
      · cases h
    · cases h
  · cases h

theorem evExtract_ok {P : Program} {x v : Value} {i : Nat} (h : evExtract x i = some v) (w : World) (p : Nat → Pl) (n : Nat) (x' : Value) (hx : VR p n x x') : ∃ v', (Instr.extract x' i).run P w = .ok v' w ∧ VR p n v v' := by
  unfold evExtract at h
  split at h
  · rename_i vs
    obtain ⟨l', rfl, hl⟩ := hx
    have hi : i < l'.toList.length := by
      rw [← hl.1]; exact (List.getElem?_eq_some_iff.1 h).1
    refine ⟨l'.toList[i], ?_, ?_⟩
    · have : l'[i]? = some l'.toList[i] := by rw [← Array.getElem?_toList]; exact List.getElem?_eq_getElem hi
      simp [Instr.extract, this, Sem.run_pure]
    · have := hl.2 i v _ h (List.getElem?_eq_getElem hi)
      cases v <;> first | exact this | (exact absurd this (by simp [VR1, SR]))
  · cases h

theorem SR.slice_inv {p : Nat → Pl} {n b o l c : Nat} {w : Value} (h : SR p n (.slice (some ⟨b, o, none⟩) l c) w) (hb : b ≠ OPEN) : b < n ∧ ∃ c', w = .slice (some ⟨(p b).b, o, none⟩) l c' ∧ l ≤ c' ∧ (c ≠ OPEN → c' = c) ∧ (c = OPEN → c' ≤ maxLen ∧ (o = 0 → c' * (p b).es = (p b).sz)) := by
  simp only [SR] at h
  rw [if_neg hb] at h
  refine ⟨h.1, ?_⟩
  have h2 := h.2
  split at h2
  · rename_i hc
    obtain ⟨c', rfl, h3, h4⟩ := h2
    exact ⟨c', rfl, h3, fun h => absurd hc h, fun _ => h4⟩
  · rename_i hc
    exact ⟨c, h2.2, h2.1, fun _ => rfl, fun h => absurd h hc⟩

theorem evIndexAddr_ok {P : Program} {t : TypeId} {x i v : Value} (h : evIndexAddr P t x i = some v) (w : World) (p : Nat → Pl) (n : Nat) (x' i' : Value) (hx : VR p n x x') (hi : VR p n i i') :
    ∃ v', (Instr.indexAt t x' i').run P w = .ok v' w ∧ VR p n v v' := by
  unfold evIndexAddr at h
  split at h
  · rename_i e b o len c kd m hu
    obtain rfl := hi.int
    split at h
    · cases h
    · rename_i hb
      obtain ⟨hbn, c', rfl, _⟩ := (hx.scalar rfl).slice_inv hb
      split at h
      · rename_i inf hinf
        split at h
        · rename_i hm
          cases h
          refine ⟨.pointer (some ⟨(p b).b, o + m.toNat * inf.size, none⟩), ?_, ⟨hbn, rfl⟩⟩
          have ha : (⟨(p b).b, o, none⟩ : Addr).add (m.toNat * inf.size) = ⟨(p b).b, o + m.toNat * inf.size, none⟩ := by
            unfold Addr.add; split <;> simp_all
          simp [Instr.indexAt, asIntOf, run_underlying hu, hm, sizeOf, typeInfo, hinf, Sem.run_pure, ha]
        · cases h
      · cases h
  · cases h

theorem evLen_ok {P : Program} {t : TypeId} {x v : Value} (h : evLen P t x = some v) (ty : TypeId) (w : World) (p : Nat → Pl) (n : Nat) (x' : Value) (hx : VR p n x x') : (Builtin.len_ #[t] ty #[x']).run P w = .ok v w ∧ VR p n v v := by
  unfold evLen at h
  split at h
  · rename_i s hu
    obtain rfl := hx.string
    cases h
    exact ⟨by simp [Builtin.len_, run_underlying hu, goInt, Sem.run_pure], rfl⟩
  · rename_i m e hu
    cases h
    exact ⟨by simp [Builtin.len_, run_underlying hu, goInt, Sem.run_pure], rfl⟩
  · rename_i e a m c hu
    cases h
    have : ∃ a' c', x' = .slice a' m c' := by
      have hs := hx.scalar rfl
      match a with
      | none => obtain ⟨rfl, rfl, rfl⟩ := hs; exact ⟨_, _, rfl⟩
      | some ⟨b, o, none⟩ =>
        by_cases hb : b = OPEN
        · simp only [SR, if_pos hb] at hs; obtain ⟨rfl, y, c', rfl⟩ := hs; exact ⟨_, _, rfl⟩
        · obtain ⟨_, c', rfl, _⟩ := hs.slice_inv hb; exact ⟨_, _, rfl⟩
      | some ⟨b, o, some s⟩ => exact absurd hs (by simp [SR])
    obtain ⟨a', c', rfl⟩ := this
    exact ⟨by simp [Builtin.len_, run_underlying hu, goInt, Sem.run_pure], rfl⟩
  · cases h

theorem run_isAgg {P : Program} {t : TypeId} {b : Bool} (h : aggB P t = some b) (w : World) : (isAgg t).run P w = .ok b w := by
  unfold aggB at h
  split at h
  · rename_i hu; cases h; simp [isAgg, run_underlying hu, Sem.run_pure]
  · rename_i hu; cases h; simp [isAgg, run_underlying hu, Sem.run_pure]
  · rename_i d h1 h2 hu
    cases h
    cases d <;> first | (simp [isAgg, run_underlying hu, Sem.run_pure]; done) | (exact absurd rfl (h1 _)) | (exact absurd rfl (h2 _ _))
  · cases h

theorem evLoad_ok {P : Program} {W0 : World} {p : Nat → Pl} {H : Hp} {w : World} (hR : Rel W0 p H w) {t : TypeId} {a a' v : Value} (h : evLoad P H t a = some v) (ha : VR p H.n a a') :
    ∃ v', (Instr.loadAt t a').run P w = .ok v' w ∧ VR p H.n v v' := by
  unfold evLoad at h
  split at h
  · rename_i b o
    obtain ⟨hb, rfl⟩ := ha.scalar rfl
    have hadd : ∀ j, (⟨(p b).b, o, none⟩ : Addr).add j = ⟨(p b).b, o + j, none⟩ := fun j => by unfold Addr.add; split <;> simp_all
    split at h
    · rename_i hag
      split at h
      · rename_i n hn
        simp only [Option.map_eq_some_iff] at h
        obtain ⟨l, hl, rfl⟩ := h
        obtain ⟨hlen, ws, hlr, hcell⟩ := ld_ok hR hl
        refine ⟨.agg ws.toArray, ?_, ⟨ws.toArray, rfl, by simpa using hlr⟩⟩
        obtain ⟨inf, hinf, hsz⟩ := Option.map_eq_some_iff.1 hn
        have hload := run_loadCells_list (P := P) (w := w) ⟨(p b).b, o, none⟩ ws (fun j u hu => by rw [hadd]; exact hcell j u hu)
        have hwl : ws.length = inf.size := by rw [← hlr.1, hlen, hsz]
        rw [hwl] at hload
        simp [Instr.loadAt, Instr.sureAddr, loadVar, run_isAgg hag, sizeOf, typeInfo, hinf, hload, Sem.run_pure]
      · cases h
    · rename_i hag
      split at h
      · rename_i u hl
        cases h
        obtain ⟨hlen, ws, hlr, hcell⟩ := ld_ok hR hl
        obtain ⟨y, ws', rfl, hy, _⟩ := hlr.uncons
        have hc := hcell 0 y rfl
        refine ⟨y, ?_, ?_⟩
        · simp only [Nat.add_zero] at hc
          have hld : (load ⟨(p b).b, o, none⟩).run P w = .ok y w := by simp [load, Sem.run, hc]
          simp only [Instr.loadAt, Instr.sureAddr, loadVar, Sem.run_bind, Sem.run_pure, Result.andThen_ok, run_isAgg hag, hld, Bool.false_eq_true, if_false]
        · cases v <;> first | exact hy | (exact absurd hy (by simp [SR]))
      · cases h
    · cases h
  · cases h

theorem splice_toArray (cur : List Value) (o : Nat) (cs : List Value) : (cur.take (o + 0) ++ cs ++ cur.drop (o + 0 + cs.length)) = splice cur o cs := by
  simp [splice, List.append_assoc]
theorem splice_len (cur : List Value) (o : Nat) (cs : List Value) (h : o + cs.length ≤ cur.length) : (splice cur o cs).length = cur.length := by
  simp [splice]; omega
theorem splice_take (cur : List Value) (o n : Nat) (cs : List Value) (h : o + cs.length ≤ n) (hn : n ≤ cur.length) : (splice cur o cs).take n = splice (cur.take n) o cs := by
  unfold splice
  rw [List.take_append, List.take_append, List.take_take, List.take_take]
  simp only [List.length_take]
  rw [Nat.min_eq_left (show o ≤ cur.length by omega), Nat.min_eq_right (show o ≤ n by omega), Nat.min_eq_left (show o ≤ n by omega), List.take_of_length_le (show cs.length ≤ n - o by omega), List.drop_take]
  congr 3
  omega

/-- cells laid over others -/
theorem st_ok {R : Type} {P : Program} {W0 : World} {p : Nat → Pl} {H : Hp} {w : World} (hR : Rel W0 p H w) {b o : Nat} {cs ws : List Value} {k : Hp → Option R} {r : R} (h : st H b o cs k = some r) (hl : LR (SR p H.n) cs ws) :
    b < H.n ∧ ∃ H' w', k H' = some r ∧ H'.n = H.n ∧ Rel W0 p H' w' ∧ (storeCells ⟨(p b).b, o, none⟩ ws).run P w = .ok () w' := by
  unfold st at h
  split at h
  · rename_i B hB
    split at h
    · rename_i hle
      rw [fL_eq] at h
      unfold Hp.put at h
      rw [Tr.setK_eq] at h
      obtain ⟨hbn, hWb, ⟨_, cur, q1, q2, q3, q4, q5⟩⟩ := hR.live b B hB
      have hcl : cs.length = ws.length := hl.1
      have hst := run_storeCells_at (P := P) (p b).b o B.e ws 0 cur w q1 (by simp; omega) hl.one
      rw [splice_toArray] at hst
      refine ⟨hbn, _, _, h, rfl, ?_, hst⟩
      have hsz : (splice cur.toList o ws).length = cur.size := by rw [splice_len _ _ _ (by simp; omega)]; simp
      refine hR.upd DEEP hB _ ?_ (fun g hg => ?_) _ (splice cur.toList o ws).toArray (setRow_heap w _ cur _ B.e (0, 0) q1) (by simp [hsz, q2]) (by rw [splice_len _ _ _ hle]) ?_
      · refine hR.bel.trans ⟨rfl, rfl, rfl, by simp [World.setRow], fun g hg => ?_⟩
        simp only [World.setRow, Array.getElem?_modify]
        rw [if_neg (by omega)]
      · simp only [World.setRow, Array.getElem?_modify]
        rw [if_neg (fun e => hg e.symm)]
      · simp only []
        rw [splice_len _ _ _ hle, splice_take _ _ _ _ (by rw [← hcl]; exact hle) (by simpa using q3)]
        exact q5.splice hl o
    · cases h
  · cases h
end Go.Proofs.Ytgfokdnflbmafaa.Ev
