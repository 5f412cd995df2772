/- Operations, regions, code, calls: what the evaluator says is what the model does. -/
import Derived.Test.YtgfokdnflbmafaaEvOpF
namespace Go.Proofs.Ytgfokdnflbmafaa.Ev
open Go Go.RowKit

variable {R : Type} {P : Program} {W0 : World}

/-- what an operation that calls nothing is to do -/
def Done (P : Program) (W0 : World) (o : Oper) (a : Act) (w : World) (p : Nat → Pl) (H : Hp) (k : Value → Hp → Option R) (r : R) : Prop :=
  ∃ v H' p' w' v', k v H' = some r ∧ ((execOp a.eval o).run P w = .ok (.value v') w' ∨ ((execOp a.eval o).run P w = .ok .skip w' ∧ v' = undef)) ∧ VR p' H'.n v v' ∧ Rel W0 p' H' w' ∧ Ext p p' H.n H'.n

/-- what a call of a Go function is to do -/
def CallOk (P : Program) (W0 : World) (C : FuncId → List Value → Hp → (Value → Hp → Option R) → Option R) : Prop :=
  ∀ g args H k r p w args', C g args H k = some r → LR (VR p H.n) args args'.toList → Rel W0 p H w →
    (callFunc g args').run P w = .ok (.enter g args') w ∧ Calls P g args' w fun
      | .returned v', w' => ∃ v H' p', k v H' = some r ∧ VR p' H'.n v v' ∧ Rel W0 p' H' w' ∧ Ext p p' H.n H'.n
      | _, _ => False

theorem undef_ok (p : Nat → Pl) (n : Nat) : VR p n undef undef := ⟨_, rfl, LR.nil _⟩

theorem valO_ok {p : Nat → Pl} {n : Nat} {T : Tr Value} {a : Act} {N : Nat} (h : TR p n T a.tmps N) {x : Option Operand} {v : Option Value} (hv : valO T x = some v) : OR p n v (x.map a.eval) := by
  cases x with
  | none => cases hv; trivial
  | some x =>
    simp only [valO, Option.map_eq_some_iff] at hv
    obtain ⟨y, hy, rfl⟩ := hv
    exact val_ok h hy

section
variable {T : Tr Value} {H : Hp} {a : Act} {w : World} {p : Nat → Pl} {N : Nat} {o : Oper} {k : Value → Hp → Option R} {r : R} (hR : Rel W0 p H w) (hT : TR p H.n T a.tmps N)
include hR hT

omit hT in
theorem done_same {v v' : Value} (hk : k v H = some r) (hrun : (execOp a.eval o).run P w = .ok (.value v') w) (hv : VR p H.n v v') : Done P W0 o a w p H k r :=
  ⟨v, H, p, w, v', hk, .inl hrun, hv, hR, Ext.refl _ _⟩

theorem op_move {x : Operand} (hop : o.op = .move x ∨ o.op = .assign x) (h : pureK (val T x) H k = some r) : Done P W0 o a w p H k r := by
  obtain ⟨v, hv, hk⟩ := pureK_ok h
  exact done_same hR hk (by rcases hop with hop | hop <;> simp [execOp, hop, Sem.run_pure]) (val_ok hT hv)

theorem op_pick {c x y : Operand} (hop : o.op = .pick c x y) (h : opPick T H c x y k = some r) : Done P W0 o a w p H k r := by
  unfold opPick at h
  split at h
  · rename_i hc
    have hc := (val_ok hT hc).bool
    obtain ⟨v, hv, hk⟩ := pureK_ok h
    exact done_same hR hk (by simp [execOp, hop, hc, asBool, Sem.run_pure]) (val_ok hT hv)
  · rename_i hc
    have hc := (val_ok hT hc).bool
    obtain ⟨v, hv, hk⟩ := pureK_ok h
    exact done_same hR hk (by simp [execOp, hop, hc, asBool, Sem.run_pure]) (val_ok hT hv)
  · cases h

omit hT in
theorem op_alloc {e : TypeId} (hop : o.op = .alloc e) (h : opAlloc P H e k = some r) : Done P W0 o a w p H k r := by
  unfold opAlloc at h
  split at h
  · rename_i z hz
    obtain ⟨i, hi, hzz, hzc⟩ := zeroB_ok hz
    obtain ⟨p', H', hk, hR', he, hn, hb, _, _, hlt⟩ := newPtr_ok hR 1 h (LR.refl_of hzc)
    refine ⟨_, H', p', _, .pointer (some ⟨w.heap.size, 0, none⟩), hk, .inl ?_, ?_, hR', he⟩
    · simp [execOp, hop, Instr.alloc, zeroValue, typeInfo, hi, hzz, newVar, newRow, go_sem]
    · refine SR.vr rfl ?_
      simp only [mkPtr, SR]
      exact ⟨by omega, by rw [hb]⟩
  · cases h

theorem op_box {e : TypeId} {x : Operand} (hop : o.op = .box e x) (h : opBox T H e x k = some r) : Done P W0 o a w p H k r := by
  unfold opBox at h
  split at h
  · rename_i v hv
    have hv' := val_ok hT hv
    rw [Bool.cond_eq_ite] at h
    split at h
    · rename_i hnt
      have ht : ∀ l, v ≠ .tuple l := fun l => noTuples_ok hnt (0, v) (by simp) l
      obtain ⟨p', H', hk, hR', he, hn, hb, _, _, hlt⟩ := newPtr_ok hR 1 h (hv'.cells ht)
      refine ⟨_, H', p', _, .pointer (some ⟨w.heap.size, 0, none⟩), hk, .inl ?_, ?_, hR', he⟩
      · simp [execOp, hop, Instr.box, newVar, newRow, go_sem]
      · refine SR.vr rfl ?_
        simp only [mkPtr, SR]
        exact ⟨by omega, by rw [hb]⟩
    · cases h
  · cases h

theorem op_build {t : TypeId} {parts : Array (Nat × Operand)} (hop : o.op = .build t parts) (h : opBuild P T H t parts k = some r) : Done P W0 o a w p H k r := by
  unfold opBuild at h
  split at h
  · rename_i ps hps
    rw [Bool.cond_eq_ite] at h
    split at h
    · rename_i hnt
      obtain ⟨v, hv, hk⟩ := pureK_ok h
      obtain ⟨v', h1, h2⟩ := evBuild_ok hv hnt w p H.n (parts.map fun (i, x) => (i, a.eval x)) (by simpa using valParts_ok hT hps)
      exact done_same hR hk (by simp [execOp, hop, h1, Sem.run_pure]) h2
    · cases h
  · cases h

theorem op_buildSlice {t : TypeId} {n : Nat} {parts : Array (Nat × Operand)} (hop : o.op = .buildSlice t n parts) (h : opBuildSlice P T H t n parts k = some r) : Done P W0 o a w p H k r := by
  unfold opBuildSlice at h
  split at h
  · rename_i ps hps
    rw [Bool.cond_eq_ite] at h
    split at h
    · rename_i hnt
      obtain ⟨v, H', p', w', v', hk, h1, h2, h3, h4⟩ := evBuildSlice_ok hR (qs := parts.map fun (i, x) => (i, a.eval x)) hnt (by simpa using valParts_ok hT hps) h
      exact ⟨v, H', p', w', v', hk, .inl (by simp [execOp, hop, h1, Sem.run_pure]), h2, h3, h4⟩
    · cases h
  · cases h

theorem op_load {t : TypeId} {x : Operand} (hop : o.op = .load t x) (h : opLoad P T H t x k = some r) : Done P W0 o a w p H k r := by
  unfold opLoad at h
  split at h
  · rename_i y hy
    obtain ⟨v, hv, hk⟩ := pureK_ok h
    obtain ⟨v', h1, h2⟩ := evLoad_ok hR hv (val_ok hT hy)
    exact done_same hR hk (by simp [execOp, hop, h1, Sem.run_pure]) h2
  · cases h

theorem op_store {t : TypeId} {x y : Operand} (hop : o.op = .store t x y) (h : opStore P T H t x y k = some r) : Done P W0 o a w p H k r := by
  unfold opStore at h
  split at h
  · rename_i b off v hx hy
    split at h
    · rename_i hsz
      obtain ⟨hsz, hnt⟩ := hsz
      have hx' := (val_ok hT hx).scalar rfl
      have hv' := val_ok hT hy
      obtain ⟨hbn, hx'⟩ := hx'
      have ht : ∀ l, v ≠ .tuple l := fun l => noTuples_ok hnt (0, v) (by simp) l
      · have hc := hv'.cells ht
        obtain ⟨_, H', w', hk, hn', hR', hst⟩ := st_ok (P := P) hR h hc
        have hcs : (a.eval y).cells.size = v.cells.size := by have := hc.1; simpa using this.symm
        simp only [cellsB, Option.map_eq_some_iff] at hsz
        obtain ⟨i, hi, his⟩ := hsz
        refine ⟨_, H', p, w', undef, hk, .inr ⟨?_, rfl⟩, undef_ok _ _, hR', by rw [hn']; exact Ext.refl _ _⟩
        simp [execOp, hop, Instr.storeAt, Instr.sureAddr, hx', storeVar, sizeOf, typeInfo, hi, hcs, his, hst, Sem.run_pure]
    · cases h
  · cases h

theorem op_nilCheck {x : Operand} (hop : o.op = .nilCheck x) (h : opNilCheck T H x k = some r) : Done P W0 o a w p H k r := by
  unfold opNilCheck at h
  split at h
  · rename_i ad hx
    have hx' := val_ok hT hx
    have : ∃ g, a.eval x = .pointer (some g) := by
      have := hx'.scalar rfl
      match ad, this with
      | ⟨b, off, none⟩, this => exact ⟨_, this.2⟩
      | ⟨b, off, some s⟩, this => exact absurd this (by simp [SR])
    obtain ⟨g, hg⟩ := this
    rw [hg] at hx'
    exact done_same hR h (by simp [execOp, hop, hg, Sem.run_pure]) hx'
  · cases h

theorem op_bin {op : BinOp} {t : TypeId} {x y : Operand} {yt : TypeId} (hop : o.op = .binOp op t x y yt) (h : opBin P T H op t x y k = some r) : Done P W0 o a w p H k r := by
  unfold opBin at h
  split at h
  · rename_i x1 y1 hx hy
    obtain ⟨v, hv, hk⟩ := pureK_ok h
    obtain ⟨h1, h2⟩ := evBin_ok hv w x y p H.n _ _ (val_ok hT hx) (val_ok hT hy)
    refine done_same hR hk ?_ h2
    have : execOp a.eval o = (do pure (.value (← (do eqGuard op t x y (a.eval x) (a.eval y); binOp op t (a.eval x) (a.eval y) : Sem Value))) : Sem Next) := by simp only [execOp, hop]
    rw [this, Sem.run_bind, h1]
    rfl
  · cases h

theorem op_un {op : UnOp} {t : TypeId} {x : Operand} (hop : o.op = .unOp op t x) (h : opUn T H op x k = some r) : Done P W0 o a w p H k r := by
  unfold opUn at h
  split at h
  · rename_i x1 hx
    obtain ⟨v, hv, hk⟩ := pureK_ok h
    obtain ⟨h1, h2⟩ := evUn_ok (P := P) hv w p H.n _ (val_ok hT hx)
    exact done_same hR hk (by simp [execOp, hop, h1, Sem.run_pure]) h2
  · cases h

theorem op_conv {s d : TypeId} {x : Operand} (hop : o.op = .convert s d x) (h : opConv P T H s d x k = some r) : Done P W0 o a w p H k r := by
  unfold opConv at h
  split at h
  · rename_i x1 hx
    obtain ⟨v, hk, h1, h2⟩ := evConv_ok hR h (val_ok hT hx)
    rw [fV_eq] at hk
    exact done_same hR hk (by simp [execOp, hop, h1, Sem.run_pure]) h2
  · cases h

theorem op_make {t : TypeId} {x y : Operand} (hop : o.op = .makeSlice t x y) (h : opMake P T H t x y k = some r) : Done P W0 o a w p H k r := by
  unfold opMake at h
  split at h
  · rename_i x1 y1 hx hy
    obtain ⟨v, H', p', w', v', hk, h1, h2, h3, h4⟩ := evMake_ok hR (val_ok hT hx) (val_ok hT hy) h
    exact ⟨v, H', p', w', v', hk, .inl (by simp [execOp, hop, h1, Sem.run_pure]), h2, h3, h4⟩
  · cases h

theorem op_slice {t : TypeId} {x : Operand} {lo hi mx : Option Operand} (hop : o.op = .slice t x lo hi mx) (h : opSlice P T H t x lo hi mx k = some r) : Done P W0 o a w p H k r := by
  unfold opSlice at h
  split at h
  · rename_i x1 lo1 hi1 mx1 hx hlo hhi hmx
    obtain ⟨v, hv, hk⟩ := pureK_ok h
    obtain ⟨v', h1, h2⟩ := evSlice_ok hv w p H.n _ _ _ _ (val_ok hT hx) (valO_ok hT hlo) (valO_ok hT hhi) (valO_ok hT hmx)
    exact done_same hR hk (by simp [execOp, hop, h1, Sem.run_pure]) h2
  · cases h

theorem op_indexAddr {t : TypeId} {x y : Operand} (hop : o.op = .indexAddr t x y) (h : opIndexAddr P T H t x y k = some r) : Done P W0 o a w p H k r := by
  unfold opIndexAddr at h
  split at h
  · rename_i x1 y1 hx hy
    obtain ⟨v, hv, hk⟩ := pureK_ok h
    obtain ⟨v', h1, h2⟩ := evIndexAddr_ok hv w p H.n _ _ (val_ok hT hx) (val_ok hT hy)
    exact done_same hR hk (by simp [execOp, hop, h1, Sem.run_pure]) h2
  · cases h

theorem op_extract {x : Operand} {i : Nat} (hop : o.op = .extract x i) (h : opExtract T H x i k = some r) : Done P W0 o a w p H k r := by
  unfold opExtract at h
  split at h
  · rename_i x1 hx
    obtain ⟨v, hv, hk⟩ := pureK_ok h
    obtain ⟨v', h1, h2⟩ := evExtract_ok (P := P) hv w p H.n _ (val_ok hT hx)
    exact done_same hR hk (by simp [execOp, hop, h1, Sem.run_pure]) h2
  · cases h
end
end Go.Proofs.Ytgfokdnflbmafaa.Ev
