/- Contracts of the reference's functions on bits: numbers read; bits added, whatever their number. -/
import Derived.Test.YtahefkjgcdchlaaBitW
namespace Go.Proofs.Ytahefkjgcdchlaa
open Go.RowKit Cad

theorem RAdd_any (W : World) (base : Nat) (v : Value) (B : List Bool) (b : Bool) (hown : W.ownsRow base 5 1 v ((B.length + 7) / 8) (nums .u8 (pack B))) (hbase : base ≤ W.heap.size) (hB : B.length ≤ 1000000000) :
    Calls Try.prog 54 #[.agg #[v, .int .i64 B.length], .int .i64 (bI b)] W fun e W' => ∃ v', e = .returned (.agg #[v', .int .i64 ((B.length + 1 : Nat) : Int)]) ∧
      W'.ownsRow base 5 1 v' (((B ++ [b]).length + 7) / 8) (nums .u8 (pack (B ++ [b]))) ∧ Kept base W W' := by
  by_cases h8 : B.length % 8 = 0
  · exact RAdd_new W base v B b hown hbase hB h8
  · exact RAdd_in W base v B b hown hbase hB h8

/-- the number of m bits from i on -/
def getN (B : List Bool) (i m : Nat) : Nat := natB ((B.drop i).take m)
theorem getN_zero (B : List Bool) (i : Nat) : getN B i 0 = 0 := by simp [getN, natB]
theorem getN_succ (B : List Bool) (i m : Nat) (h : i < B.length) : getN B i (m + 1) = (B.getD i false).toNat + 2 * getN B (i + 1) m := by
  unfold getN
  rw [List.drop_eq_getElem_cons h, List.take_succ_cons, natB]
  simp [List.getD, h]
theorem getN_lt (B : List Bool) (i m : Nat) : getN B i m < 2 ^ m := by
  have h := natB_lt ((B.drop i).take m)
  have : ((B.drop i).take m).length ≤ m := by rw [List.length_take]; omega
  exact Nat.lt_of_lt_of_le h (Nat.pow_le_pow_right (by decide) this)

end Go.Proofs.Ytahefkjgcdchlaa
