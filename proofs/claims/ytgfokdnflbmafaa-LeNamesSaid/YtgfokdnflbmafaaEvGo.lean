/- Regions, code, calls: what the evaluator says is what the model does. -/
import Derived.Test.YtgfokdnflbmafaaEvRun
import Derived.LoopN
namespace Go.Proofs.Ytgfokdnflbmafaa.Ev
open Go Go.RowKit

variable {R : Type} {P : Program} {W0 : World}

section
variable {C : FuncId → List Value → Hp → (Value → Hp → Option R) → Option R} {T : Tr Value} {H : Hp} {a : Act} {w : World} {p : Nat → Pl} {N : Nat} {o : Oper} {k : Value → Hp → Option R} {r : R} (hC : CallOk P W0 C) (hR : Rel W0 p H w) (hT : TR p H.n T a.tmps N)

include hR in
theorem evBuiltin_ok {b : Builtin} {ts : Array TypeId} {ty : TypeId} {cs : Array Bool} {args : List Value} {args' : Array Value} (hl : LR (VR p H.n) args args'.toList) (h : evBuiltin P H b ts.toList args k = some r) :
    ∃ v H' p' w' v', k v H' = some r ∧ (builtin b ts ty cs args').run P w = .ok (.value v') w' ∧ VR p' H'.n v v' ∧ Rel W0 p' H' w' ∧ Ext p p' H.n H'.n := by
  unfold evBuiltin at h
  split at h
  · rename_i t x hts
    have hts' : ts = #[t] := by rw [← Array.toList_inj]; simpa using hts
    obtain ⟨x', l1, e1, hx, hl1⟩ := hl.uncons
    have h1 : l1 = [] := by have := hl1.1; simpa using this.symm
    have ha : args' = #[x'] := by rw [← Array.toList_inj, e1, h1]
    subst ha hts'
    split at h
    · rename_i v hv
      obtain ⟨k1, k2⟩ := evLen_ok hv ty w p H.n x' hx
      exact ⟨v, H, p, w, v, h, by simp [builtin, k1, Sem.run_pure], k2, hR, Ext.refl _ _⟩
    · cases h
  · rename_i t t' s x hts
    have hts' : ts = #[t, t'] := by rw [← Array.toList_inj]; simpa using hts
    obtain ⟨s', l1, e1, hs, hl1⟩ := hl.uncons
    obtain ⟨x', l2, e2, hx, hl2⟩ := hl1.uncons
    have h1 : l2 = [] := by have := hl2.1; simpa using this.symm
    have ha : args' = #[s', x'] := by rw [← Array.toList_inj, e1, e2, h1]
    subst ha hts'
    split at h
    · rename_i ht
      subst ht
      obtain ⟨v, H', p', w', v', hk, k1, k2, k3, k4⟩ := evAppend_ok (ty := ty) hR hs hx h
      exact ⟨v, H', p', w', v', hk, by simp [builtin, k1, Sem.run_pure], k2, k3, k4⟩
    · cases h
  · rename_i t t' s x hts
    have hts' : ts = #[t, t'] := by rw [← Array.toList_inj]; simpa using hts
    obtain ⟨s', l1, e1, hs, hl1⟩ := hl.uncons
    obtain ⟨x', l2, e2, hx, hl2⟩ := hl1.uncons
    have h1 : l2 = [] := by have := hl2.1; simpa using this.symm
    have ha : args' = #[s', x'] := by rw [← Array.toList_inj, e1, e2, h1]
    subst ha hts'
    split at h
    · rename_i ht
      subst ht
      obtain ⟨v, H', w', hk, k1, k2, k3, k4⟩ := evCopy_ok (ty := ty) hR hs hx h
      exact ⟨v, H', p, w', v, hk, by simp [builtin, k1, Sem.run_pure], k2, k3, k4⟩
    · cases h
  · cases h

include hC hR hT
theorem evOp_ok (h : evOp P C T H o.op k = some r) {next : Act → World → Prop} {Q : Exit → Act → World → Prop}
    (hn : ∀ v H' p' w' v', k v H' = some r → VR p' H'.n v v' → Rel W0 p' H' w' → Ext p p' H.n H'.n → next (a.put o.dst v') w') : o.wp P a w next Q := by
  have done : Done P W0 o a w p H k r → o.wp P a w next Q := by
    rintro ⟨v, H', p', w', v', hk, hrun, hv, hR', he⟩
    rcases hrun with hrun | ⟨hrun, rfl⟩
    · exact wp_value hrun (hn v H' p' w' v' hk hv hR' he)
    · unfold Oper.wp; rw [hrun]; exact hn v H' p' w' undef hk hv hR' he
  unfold evOp at h
  split at h
  case h_18 c hop =>
    unfold opCall at h
    split at h
    · rename_i b args hcal hargs
      have hl := vals_ok hT hargs
      obtain ⟨v, H', p', w', v', hk, k1, k2, k3, k4⟩ := evBuiltin_ok (ty := o.type) (cs := c.args.map fun | .const _ => true | _ => false) (args' := c.args.map a.eval) hR (by simpa using hl) h
      rw [fV_eq] at hk
      refine wp_value (v := v') (w' := w') ?_ (hn v H' p' w' v' hk k2 k3 k4)
      simp only [execOp, hop, resolve, hcal, Sem.run_bind, Sem.run_pure, Result.andThen_ok, invoke]
      exact k1
    · rename_i f args hcal hargs
      have hl := vals_ok hT hargs
      unfold opCallV at h
      split at h
      · rename_i g first captured hf
        split at h
        · rename_i hsz
          obtain ⟨h1, h2⟩ := hsz
          have hf' := (val_ok hT hf).scalar rfl
          obtain ⟨_, _, hf'⟩ := hf'
          obtain ⟨k1, k2⟩ := hC g args H k r p w (c.args.map a.eval) h (by simpa using hl) hR
          have hrun : (execOp a.eval o).run P w = .ok (.enter g (c.args.map a.eval)) w := by
            simp only [execOp, hop, resolve, hcal, hf', Deferred.ofValue, Sem.run_bind, Sem.run_pure, Result.andThen_ok, invoke, Array.append_empty, Array.empty_append]
            exact k1
          unfold Oper.wp
          rw [hrun, Oper.upon_enter]
          refine k2.mono ?_
          intro e w'
          cases e with
          | returned v' => rintro ⟨v, H', p', hk, h1, h2, h3⟩; exact hn v H' p' w' v' hk h1 h2 h3
          | panicked _ => exact fun h => h.elim
          | outgrown => exact fun h => h.elim
        · cases h
      · cases h
    · cases h
  all_goals first
    | exact done (op_move hR hT (.inl ‹_›) h)
    | exact done (op_move hR hT (.inr ‹_›) h)
    | exact done (op_pick hR hT ‹_› h)
    | exact done (op_alloc hR ‹_› h)
    | exact done (op_box hR hT ‹_› h)
    | exact done (op_build hR hT ‹_› h)
    | exact done (op_buildSlice hR hT ‹_› h)
    | exact done (op_load hR hT ‹_› h)
    | exact done (op_store hR hT ‹_› h)
    | exact done (op_nilCheck hR hT ‹_› h)
    | exact done (op_bin hR hT ‹_› h)
    | exact done (op_un hR hT ‹_› h)
    | exact done (op_conv hR hT ‹_› h)
    | exact done (op_make hR hT ‹_› h)
    | exact done (op_slice hR hT ‹_› h)
    | exact done (op_indexAddr hR hT ‹_› h)
    | exact done (op_extract hR hT ‹_› h)
    | cases h
end

/-- the state of a function's run -/
def St (W0 : World) (p0 : Nat → Pl) (n0 N : Nat) (T : Tr Value) (H : Hp) (a : Act) (w : World) : Prop :=
  ∃ p, Ext p0 p n0 H.n ∧ Rel W0 p H w ∧ TR p H.n T a.tmps N ∧ a.defers = []

theorem put_defers (a : Act) (d : Option Tmp) (v : Value) : (a.put d v).defers = a.defers := by cases d <;> rfl

theorem putT_ok {n : Nat} {T : Tr Value} {d : Option Nat} {v : Option Value} {k : Tr Value → Option R} {r : R} (h : putT n T d v k = some r) {p : Nat → Pl} {m : Nat} {a : Act} (hT : TR p m T a.tmps n) {v' : Value} (hv : ∀ x, v = some x → VR p m x v') :
    ∃ T', k T' = some r ∧ TR p m T' (a.put d v').tmps n := by
  unfold putT at h
  split at h
  · exact ⟨T, h, hT⟩
  · rename_i d
    rw [Bool.cond_eq_ite] at h
    split at h
    · rename_i hd
      rw [Tr.setK_eq] at h
      exact ⟨_, h, hT.put (by simpa [Nat.blt_eq] using hd) hv⟩
    · cases h

theorem wantedB_ok {all : Array Oper} {T : Tr Value} {o : Oper} {b : Bool} (h : wantedB all.toList T o = some b) {p : Nat → Pl} {m N : Nat} {a : Act} (hT : TR p m T a.tmps N) : Region.wanted o (yielded all a.tmps) = b := by
  unfold wantedB at h
  unfold Region.wanted
  split at h
  · rename_i hg; cases h; simp [hg]
  · rename_i j want hg
    simp only [hg]
    split at h
    · rename_i d hd
      split at h
      · rename_i b' hb
        cases h
        obtain ⟨w, h1, h2⟩ := hT.2 d _ hb
        obtain rfl := h2.bool
        have : yielded all a.tmps j = some b' := by
          unfold yielded
          rw [Array.getElem?_toList] at hd
          simp [hd, h1]
        rw [this]
        cases b' <;> cases want <;> rfl
      · cases h
    · cases h

section
variable {C : FuncId → List Value → Hp → (Value → Hp → Option R) → Option R} {p0 : Nat → Pl} {n0 N : Nat} (hC : CallOk P W0 C)
include hC
theorem evOps_ok {all : Array Oper} {Q : Exit → Act → World → Prop} {k : Tr Value → Hp → Option R} {r : R} (hn : ∀ T H a w, k T H = some r → St W0 p0 n0 N T H a w → Q .normal a w) :
    ∀ (l : List Oper) (T : Tr Value) (H : Hp) (a : Act) (w : World), evOps P C N all.toList l T H k = some r → St W0 p0 n0 N T H a w → wpList P all Q l a w
  | [], T, H, a, w, h, hs => hn T H a w h hs
  | o :: l, T, H, a, w, h, ⟨p, he, hR, hT, hd⟩ => by
    unfold evOps at h
    unfold wpList
    split at h
    · rename_i hw
      rw [if_pos (wantedB_ok hw hT)]
      refine .inl (evOp_ok hC hR hT h ?_)
      intro v H' p' w' v' hk hv hR' he'
      obtain ⟨T', h1, h2⟩ := putT_ok (v' := v') hk (hT.mono he') (fun x hx => by cases hx; exact hv)
      exact evOps_ok hn l T' H' _ w' h1 ⟨p', he.trans he', hR', h2, by rw [put_defers]; exact hd⟩
    · rename_i hw
      rw [if_neg (by rw [wantedB_ok hw hT]; simp)]
      obtain ⟨T', h1, h2⟩ := putT_ok (v' := undef) h hT (fun x hx => by cases hx)
      exact evOps_ok hn l T' H _ w h1 ⟨p, he, hR, h2, by rw [put_defers]; exact hd⟩
    · cases h

def Ex.out : Ex → Exit
  | .exit j => .exit j
  | .ret => .ret

theorem evCode_ok {m : Nat} {r : R} : ∀ (c : Code) (kn : Tr Value → Hp → Option R) (kx : Ex → Tr Value → Hp → Option R) (Q : Exit → Act → World → Prop) (T : Tr Value) (H : Hp) (a : Act) (w : World),
    evCode P C N m c kn kx T H = some r → St W0 p0 n0 N T H a w → (∀ T H a w, kn T H = some r → St W0 p0 n0 N T H a w → Q .normal a w) →
    (∀ e T H a w, kx e T H = some r → St W0 p0 n0 N T H a w → Q (Ex.out e) a w) → c.wp P Q a w := by
  intro c
  induction c with
  | skip => intro kn kx Q T H a w h hs hn hx; exact wp_skip (hn _ _ _ _ h hs)
  | region id ops draw =>
    intro kn kx Q T H a w h hs hn hx
    cases draw with
    | true => simp [evCode] at h
    | false => exact wp_region_list (evOps_ok hC hn _ _ _ _ _ h hs)
  | seq x y ihx ihy =>
    intro kn kx Q T H a w h hs hn hx
    refine wp_seq (ihx _ _ _ _ _ _ _ h hs (fun T H a w h hs => ihy _ _ _ _ _ _ _ h hs hn hx) ?_)
    intro e T H a w h hs
    cases e <;> exact hx _ _ _ _ _ h hs
  | cond c x y ihx ihy =>
    intro kn kx Q T H a w h hs hn hx
    have hs0 := hs
    obtain ⟨p, he, hR, hT, hd⟩ := hs
    simp only [evCode] at h
    split at h
    · rename_i hc
      exact wp_cond_true (val_ok hT hc).bool (ihx _ _ _ _ _ _ _ h hs0 hn hx)
    · rename_i hc
      exact wp_cond_false (val_ok hT hc).bool (ihy _ _ _ _ _ _ _ h hs0 hn hx)
    · cases h
  | block id x ih =>
    intro kn kx Q T H a w h hs hn hx
    refine wp_block (ih _ _ _ _ _ _ _ h hs hn ?_)
    intro e T H a w h hs
    cases e with
    | exit j =>
      simp only [] at h
      simp only [Ex.out, Exit.inBlock]
      split at h
      · rename_i hj; rw [if_pos hj]; exact hn _ _ _ _ h hs
      · rename_i hj; rw [if_neg hj]; exact hx (.exit j) _ _ _ _ h hs
    | ret => exact hx .ret _ _ _ _ h hs
  | loop x ih =>
    intro kn kx Q T H a w h hs hn hx
    refine wp_loop_rounds m ?_
    have key : ∀ (i : Nat) (T : Tr Value) (H : Hp) (a : Act) (w : World), loopN i (fun kn kx T h => evCode P C N m x kn kx T h) kx T H = some r → St W0 p0 n0 N T H a w → Code.rounds P x Q i a w := by
      intro i
      induction i with
      | zero => intro T H a w h; cases h
      | succ i ihi =>
        intro T H a w h hs
        rw [rounds_succ]
        refine ih _ _ _ _ _ _ _ h hs (fun T H a w h hs => ihi T H a w h hs) ?_
        intro e T H a w h hs
        cases e <;> exact hx _ _ _ _ _ h hs
    exact key m T H a w h hs
  | label l => intro kn kx Q T H a w h hs hn hx; exact wp_label (hn _ _ _ _ h hs)
  | exit id => intro kn kx Q T H a w h hs hn hx; exact wp_exit (hx (.exit id) _ _ _ _ h hs)
  | ret => intro kn kx Q T H a w h hs hn hx; exact wp_ret (hx .ret _ _ _ _ h hs)
  | rangeFunc => intro kn kx Q T H a w h; simp [evCode] at h
  | scope => intro kn kx Q T H a w h; simp [evCode] at h
  | goto => intro kn kx Q T H a w h; simp [evCode] at h
  | refuse => intro kn kx Q T H a w h; simp [evCode] at h
end

theorem putArgs_ok {k : Tr Value → Option R} {r : R} : ∀ (l : List Value) (i : Nat) (T : Tr Value), putArgs i l T k = some r → ∃ T', k T' = some r ∧ ∀ j v, T'.get j = some v → (i ≤ j ∧ l[j - i]? = some v) ∨ T.get j = some v
  | [], i, T, h => ⟨T, h, fun j v hv => .inr hv⟩
  | x :: l, i, T, h => by
    unfold putArgs at h
    rw [Tr.setK_eq] at h
    obtain ⟨T', h1, h2⟩ := putArgs_ok l (i + 1) _ h
    refine ⟨T', h1, fun j v hv => ?_⟩
    rcases h2 j v hv with ⟨hj, hl⟩ | ht
    · refine .inl ⟨by omega, ?_⟩
      rw [show j - i = (j - (i + 1)) + 1 by omega]; simpa using hl
    · rcases Tr.get_set _ _ _ _ _ _ ht with ⟨rfl, hx⟩ | ⟨_, ht⟩
      · cases hx; exact .inl ⟨Nat.le_refl _, by simp⟩
      · exact .inr ht

theorem VR.one1 {p : Nat → Pl} {n : Nat} {x y : Value} (h : VR p n x y) (hx : ∀ l, x ≠ .tuple l) : VR1 p n x y := by
  unfold VR at h
  split at h
  · exact absurd rfl (hx _)
  · exact h

/-- one result -/
def resF (tmps : Array Value) : ResultVar → Sem Value
  | .tmp t => pure (tmps.getD t undef)
  | .cell a t => do loadVar t (← asAddr (tmps.getD a undef))
theorem results_resF (fn : Func) (tmps : Array Value) : results fn tmps = (do let vs ← fn.results.mapM (resF tmps); pure (if h : vs.size = 1 then vs[0] else .tuple vs) : Sem Value) := rfl
theorem run_results {P : Program} {w : World} {fn : Func} {tmps : Array Value} {ws : List Value} (h : (fn.results.toList.mapM (resF tmps)).run P w = .ok ws w) :
    (results fn tmps).run P w = .ok (match ws with | [v] => v | ws => .tuple ws.toArray) w := by
  rw [results_resF, Array.mapM_eq_mapM_toList]
  rw [show (List.toArray <$> fn.results.toList.mapM (resF tmps) : Sem (Array Value)) = (do let l ← fn.results.toList.mapM (resF tmps); pure l.toArray) from map_eq_pure_bind _ _]
  simp only [Sem.run_bind, h, Result.andThen_ok, Sem.run_pure]
  match ws with
  | [] => rfl
  | [v] => rfl
  | v :: u :: l => simp

theorem evResults_ok {P : Program} {w : World} {p : Nat → Pl} {n N : Nat} {T : Tr Value} {tmps : Array Value} (hT : TR p n T tmps N) : ∀ {l : List ResultVar} {vs : List Value}, evResults T l = some vs →
    ∃ ws : List Value, (l.mapM (resF tmps)).run P w = .ok ws w ∧ ws.length = vs.length ∧ ∀ (i : Nat) (x y : Value), vs[i]? = some x → ws[i]? = some y → VR p n x y
  | [], vs, h => by cases h; exact ⟨[], by simp [Sem.run_pure], rfl, by simp⟩
  | .tmp t :: l, vs, h => by
    unfold evResults at h
    split at h
    · rename_i v us hv hus
      cases h
      obtain ⟨ws, h1, h2, h3⟩ := evResults_ok (P := P) (w := w) hT hus
      obtain ⟨u, hu, hvr⟩ := hT.2 t v hv
      refine ⟨u :: ws, ?_, by simp [h2], fun i x y hx hy => ?_⟩
      · rw [List.mapM_cons]
        simp [Sem.run_pure, h1, Array.getD_eq_getD_getElem?, hu, resF]
      · cases i with
        | zero => simp at hx hy; subst hx hy; exact hvr
        | succ i => exact h3 i x y (by simpa using hx) (by simpa using hy)
    · cases h
  | .cell _ _ :: _, vs, h => by simp [evResults] at h

/-- the table is the program's -/
def TableOk (P : Program) (F : Table) : Prop := ∀ f fn, F.find f = some fn → P.funcs[f]? = some fn ∧ (fn.name == "runtime.NumGoroutine") = false
theorem TableOk.nil (P : Program) : TableOk P [] := fun f fn h => by cases h
theorem TableOk.cons {P : Program} {F : Table} (h : TableOk P F) {g : FuncId} {gn : Func} (h1 : P.funcs[g]? = some gn) (h2 : (gn.name == "runtime.NumGoroutine") = false) : TableOk P ((g, gn) :: F) := by
  intro f fn hf
  unfold Table.find at hf
  split at hf
  · rename_i e; cases hf; subst e; exact ⟨h1, h2⟩
  · exact h f fn hf

theorem evCall_ok {F : Table} (hF : TableOk P F) {m : Nat} : ∀ d, CallOk (R := R) P W0 (evCall P F m d)
  | 0 => by intro g args H k r p w args' h; cases h
  | d + 1 => by
    intro g args H k r p w args' h hl hR
    unfold evCall at h
    split at h
    · cases h
    · rename_i fn hfn
      obtain ⟨hf, hname⟩ := hF g fn hfn
      split at h
      · cases h
      · rename_i c hb
        have hcf : (callFunc g args').run P w = .ok (.enter g args') w := by
          have h1 : fn.name ≠ "runtime.NumGoroutine" := by simpa using hname
          simp [callFunc, hf, h1, hb]
        refine ⟨hcf, ?_⟩
        split at h
        · rename_i hlen
          obtain ⟨T, hk, hget⟩ := putArgs_ok _ _ _ h
          have hal : args.length = args'.size := by have := hl.1; simpa using this
          refine calls_of_wp hf hb (evCode_ok (evCall_ok hF d) c _ _ _ T H _ w hk ⟨p, Ext.refl _ _, hR, ⟨by simp; omega, ?_⟩, rfl⟩ ?_ ?_)
          · intro i v hv
            rcases hget i v hv with ⟨_, hv⟩ | hv
            · have hi : i < args.length := by
                apply Classical.byContradiction; intro hx
                rw [List.getElem?_eq_none (by omega)] at hv; cases hv
              have hi' : i < args'.size := by omega
              refine ⟨args'[i], by simp only []; rw [Array.getElem?_append_left hi']; simp [hi'], hl.2 i _ _ (by simpa using hv) (by simp [hi'])⟩
            · cases hv
          · intro T H a w h; cases h
          · intro e T' H' a w' h hs
            cases e with
            | exit j => cases h
            | ret =>
              simp only [] at h
              split at h
              · rename_i v hv
                obtain ⟨p', he, hR', hT', hd⟩ := hs
                refine ⟨hd, ?_⟩
                unfold evResult at hv
                split at hv
                · rename_i u hu
                  cases hv
                  obtain ⟨ws, h1, h2, h3⟩ := evResults_ok (P := P) (w := w') hT' hu
                  match ws, h2 with
                  | [u'], _ =>
                    exact ⟨u', run_results h1, _, H', p', h, h3 0 _ _ rfl rfl, hR', he⟩
                · rename_i vs hne hvs
                  rw [Bool.cond_eq_ite] at hv
                  split at hv
                  · rename_i hnt
                    cases hv
                    obtain ⟨ws, h1, h2, h3⟩ := evResults_ok (P := P) (w := w') hT' hvs
                    have hw1 : ∀ u, ws ≠ [u] := by
                      rintro u rfl
                      match vs, h2 with
                      | [v], _ => exact hne v rfl
                    refine ⟨.tuple ws.toArray, ?_, _, H', p', h, ?_, hR', he⟩
                    · rw [run_results h1]
                      split
                      · exact absurd rfl (hw1 _)
                      · rfl
                    · exact ⟨ws.toArray, rfl, by simpa using h2.symm, fun i x y hx hy => (h3 i x y (by simpa using hx) (by simpa using hy)).one1 (fun l e => by subst e; have := List.all_eq_true.1 hnt _ (List.mem_of_getElem? (by simpa using hx)); simp at this)⟩
                  · cases hv
                · cases hv
              · cases h
        · cases h

/-- A CLOSED FUNCTION THAT THE EVALUATOR SAYS true OF: it returns true, and touches nothing that was there. -/
theorem runs_ok {P : Program} {F : Table} (hF : TableOk P F) {m d : Nat} {f : FuncId} (h : runs P F m d f = true) (W : World) :
    Calls P f #[] W fun
      | .returned v, w' => v = .bool true ∧ Below W.heap.size W w'
      | _, _ => False := by
  unfold runs at h
  split at h
  · rename_i hr
    refine (evCall_ok (W0 := W) hF d f [] ⟨.nil, 0⟩ _ _ (fun _ => ⟨0, 0, 0⟩) W #[] hr (LR.nil _) ⟨Below.refl _ _, fun i b hb => by simp [Tr.get_nil] at hb, fun i j b c hb => by simp [Tr.get_nil] at hb, Nat.zero_le _⟩).2.mono ?_
    intro e w'
    cases e with
    | returned v' =>
      rintro ⟨v, H', p', hk, h1, h2, h3⟩
      cases hk
      exact ⟨h1.bool, h2.bel⟩
    | panicked _ => exact fun h => h
    | outgrown => exact fun h => h
  · cases h
end Go.Proofs.Ytgfokdnflbmafaa.Ev
