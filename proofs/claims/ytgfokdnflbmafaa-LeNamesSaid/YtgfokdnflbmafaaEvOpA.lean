/- Each operation of the evaluator is the model's: those that make no memory. -/
import Derived.Test.YtgfokdnflbmafaaEvMem
import Derived.Great.BuildSlice
namespace Go.Proofs.Ytgfokdnflbmafaa.Ev
open Go Go.RowKit

theorem wp_value {P : Program} {o : Oper} {a : Act} {w w' : World} {next : Act → World → Prop} {Q : Exit → Act → World → Prop} {v : Value} (h : (execOp a.eval o).run P w = .ok (.value v) w') (hn : next (a.put o.dst v) w') : o.wp P a w next Q := by
  unfold Oper.wp; rw [h]; exact hn
theorem pureK_ok {R : Type} {o : Option Value} {h : Hp} {k : Value → Hp → Option R} {r : R} (e : pureK o h k = some r) : ∃ v, o = some v ∧ k v h = some r := by
  unfold pureK at e
  split at e
  · rename_i v; rw [fA_eq] at e; exact ⟨v, rfl, e⟩
  · cases e

theorem VR.scalar {p : Nat → Pl} {n : Nat} {v w : Value} (h : VR p n v w) (hv : scalar v = true) : SR p n v w := by
  unfold VR VR1 at h
  split at h
  · simp [Ev.scalar] at hv
  · split at h
    · simp [Ev.scalar] at hv
    · exact h
theorem VR.bool {p : Nat → Pl} {n : Nat} {b : Bool} {w : Value} (h : VR p n (.bool b) w) : w = .bool b := h
theorem VR.int {p : Nat → Pl} {n : Nat} {k : IntKind} {x : Int} {w : Value} (h : VR p n (.int k x) w) : w = .int k x := h
theorem VR.string {p : Nat → Pl} {n : Nat} {s : ByteArray} {w : Value} (h : VR p n (.string s) w) : w = .string s := h

theorem binArith_ok {P : Program} {op : BinOp} {k : IntKind} {x y : Int} {v : Value} (h : binArith op k x y = some v) (t : TypeId) (w : World) : (binOp op t (.int k x) (.int k y)).run P w = .ok v w ∧ scalar v = true ∧ ∀ p n, SR p n v v := by
  have hq : ∀ y : Int, ieqB y 0 = (y == 0) := fun y => ieqB_eq y 0
  unfold binArith at h
  split at h
  all_goals (try (cases h; first
    | (refine ⟨?_, rfl, fun _ _ => rfl⟩; simp [binOp, Op.intArith, Op.intBits, bits, wrapB_eq, Sem.run_pure]; done)
    | skip))
  · rw [hq] at h; split at h
    · cases h
    · rename_i hy; cases h; refine ⟨?_, rfl, fun _ _ => rfl⟩
      have : ¬ y = 0 := by simpa using hy
      simp [binOp, Op.intDiv, this, wrapB_eq, Sem.run_pure]
  · rw [hq] at h; split at h
    · cases h
    · rename_i hy; cases h; refine ⟨?_, rfl, fun _ _ => rfl⟩
      have : ¬ y = 0 := by simpa using hy
      simp [binOp, Op.intDiv, this, Sem.run_pure]
  · unfold binCmp at h
    split at h
    all_goals first | (cases h; refine ⟨?_, rfl, fun _ _ => rfl⟩) | (exact absurd h (by simp))
    · simp [binOp, Op.intCmp, ieqB_eq, Sem.run_pure]
    · rw [show binOp .neq t (.int k x) (.int k y) = Op.intCmp .neq x y from by simp [binOp]]
      simp [Op.intCmp, ieqB_eq, Sem.run_pure, bne]
    · simp [binOp, Op.intCmp, iltB_eq, Sem.run_pure]
    · rw [show binOp .leq t (.int k x) (.int k y) = Op.intCmp .leq x y from by simp [binOp]]
      simp [Op.intCmp, iltB_eq, Sem.run_pure, ← decide_not]
    · simp [binOp, Op.intCmp, iltB_eq, Sem.run_pure]
    · rw [show binOp .geq t (.int k x) (.int k y) = Op.intCmp .geq x y from by simp [binOp]]
      simp [Op.intCmp, iltB_eq, Sem.run_pure, ← decide_not]
theorem binInt_ok {P : Program} {op : BinOp} {k k' : IntKind} {x y : Int} {v : Value} (h : binInt op k x k' y = some v) (t : TypeId) (w : World) : (binOp op t (.int k x) (.int k' y)).run P w = .ok v w ∧ scalar v = true ∧ ∀ p n, SR p n v v := by
  unfold binInt at h
  split at h
  · unfold binShift at h
    split at h
    · cases h
    · rename_i b
      cases h
      refine ⟨?_, rfl, fun _ _ => rfl⟩
      have h1 : ¬ ((b : Int) < 0) := by omega
      simp [binOp, Op.shift, wrapB_eq, Sem.run_pure, h1]
  · unfold binShift at h
    split at h
    · cases h
    · rename_i b
      cases h
      refine ⟨?_, rfl, fun _ _ => rfl⟩
      have h1 : ¬ ((b : Int) < 0) := by omega
      simp [binOp, Op.shift, Sem.run_pure, h1]
  · split at h
    · rename_i hk; subst hk; exact binArith_ok h t w
    · cases h
theorem run_equal_bool {P : Program} {t : TypeId} (hu : P.underlying t = some .bool) (a b : Bool) (w : World) : (Op.equal t (.bool a) (.bool b)).run P w = .ok (a == b) w := by
  show (Op.equalIn (9999 + 1) t (.bool a) (.bool b)).run P w = _
  rw [Op.equalIn]
  simp [run_underlying hu, Sem.run_pure]
theorem evBin_ok {P : Program} {op : BinOp} {t : TypeId} {x y v : Value} (h : evBin P op t x y = some v) (w : World) (xo yo : Operand) (p : Nat → Pl) (n : Nat) (x' y' : Value) (hx : VR p n x x') (hy : VR p n y y') :
    (do eqGuard op t xo yo x' y'; binOp op t x' y' : Sem Value).run P w = .ok v w ∧ VR p n v v := by
  unfold evBin at h
  split at h
  · obtain rfl := hx.int; obtain rfl := hy.int
    have := binInt_ok (P := P) h t w
    refine ⟨?_, ?_⟩
    · simp [eqGuard, this.1]
    · cases v <;> first | exact this.2.2 p n | (simp [scalar] at this)
  · obtain rfl := hx.string; obtain rfl := hy.string
    unfold binStr at h
    split at h
    · cases h; exact ⟨by simp [eqGuard, binOp, Op.stringOp, ByteArray.toList_eq, Sem.run_pure], rfl⟩
    · cases h; exact ⟨by simp [eqGuard, binOp, Op.stringOp, ByteArray.toList_eq, Sem.run_pure], rfl⟩
    · cases h
  · obtain rfl := hx.bool; obtain rfl := hy.bool
    unfold binBool at h
    split at h
    · rename_i hu; cases h; exact ⟨by simp [eqGuard, binOp, run_equal_bool hu, Sem.run_pure], rfl⟩
    · rename_i hu; cases h; exact ⟨by simp [eqGuard, binOp, run_equal_bool hu, Sem.run_pure], rfl⟩
    · cases h
  · cases h
end Go.Proofs.Ytgfokdnflbmafaa.Ev
