/- Contracts of the functions of le and of its reference that make bytes. -/
import Derived.Test.YtgfokdnflbmafaaLeM
import Derived.Laws.OwnMore
import Derived.OwnWalk
namespace Go.Proofs.Ytgfokdnflbmafaa
open Go.RowKit Cad

theorem elU8 : Elem Try.prog 22 5 .u8 := ⟨Try.underlying22, 1, by decide, by kernel_rfl⟩

theorem set_app (A Z : List Value) (z u : Value) : (A ++ z :: Z).set A.length u = (A ++ [u]) ++ Z := by simp
theorem rep_get (m : Nat) (h : 0 < m) (z : Value) : List.replicate m z = z :: List.replicate (m - 1) z := by
  obtain ⟨j, rfl⟩ : ∃ j, m = j + 1 := ⟨m - 1, by omega⟩
  rfl

/-- the row of le.Bytes behind k rounds -/
def partB (n : Int) (w k : Nat) : List Value := nums .u8 (leB n k) ++ List.replicate (w - k) (.int .u8 0)
theorem partB_step (n : Int) (w k : Nat) (h : k < w) : (partB n w k).set k (.int .u8 (n / 256 ^ k % 256)) = partB n w (k + 1) := by
  have e : (nums .u8 (leB n k)).length = k := by simp [nums, length_leB]
  unfold partB
  rw [rep_get _ (by omega)]
  have := set_app (nums .u8 (leB n k)) (List.replicate (w - k - 1) (.int .u8 0)) (.int .u8 0) (.int .u8 (n / 256 ^ k % 256))
  rw [e] at this
  rw [this, leB_snoc]
  simp [nums, show w - (k + 1) = w - k - 1 from by omega]

theorem Bytes_no (n w : Int) (W : World) (h : ¬ (1 ≤ w ∧ w ≤ 8)) :
    Calls Try.prog 10 #[.int .u64 n, .int .i64 w] W fun e W' => e = .returned (.tuple #[.slice none 0 0, .int .i64 2]) ∧ W = W' := by
  go_enter Try.func10, Try.ntmps10
  go_wp2_with (go_at_call 23; refine (isWidth_no w _ h).mono ?_; rintro e w1 ⟨rfl, rfl⟩)
  go_ret2
  exact ⟨rfl, rfl⟩
theorem Bytes_range (n w : Int) (W : World) (h : 1 ≤ w) (h' : w ≤ 8) (hn : top w.toNat < n) :
    Calls Try.prog 10 #[.int .u64 n, .int .i64 w] W fun e W' => e = .returned (.tuple #[.slice none 0 0, .int .i64 16]) ∧ W = W' := by
  go_enter Try.func10, Try.ntmps10
  go_wp2_with (first | (go_at_call 23; refine (isWidth_yes w _ h h').mono ?_; rintro e w1 ⟨rfl, rfl⟩) | (go_at_call 24; refine (fits_no n w _ h h' hn).mono ?_; rintro e w1 ⟨rfl, rfl⟩))
  go_ret2
  exact ⟨rfl, rfl⟩
theorem Bytes_ok (n : Int) (w : Nat) (W : World) (h : 1 ≤ w) (h' : w ≤ 8) (h0 : 0 ≤ n) (hn : n ≤ top w) :
    Calls Try.prog 10 #[.int .u64 n, .int .i64 w] W fun e W' => e = .returned (.tuple #[.slice (some ⟨W.heap.size, 0, none⟩) w w, .int .i64 0]) ∧
      W'.ownsRow W.heap.size 5 1 (.slice (some ⟨W.heap.size, 0, none⟩) w w) w (nums .u8 (leB n w)) ∧ Below W.heap.size W W' := by
  have hn' : n ≤ top (w : Int).toNat := by simpa using hn
  go_enter Try.func10, Try.ntmps10
  go_wp2_with (first | (go_at_call 23; refine (isWidth_yes w _ (by omega) (by omega)).mono ?_; rintro e w1 ⟨rfl, rfl⟩) | (go_at_call 24; refine (fits_yes n w _ (by omega) (by omega) hn').mono ?_; rintro e w1 ⟨rfl, rfl⟩) | (at_make; refine law_make elU8 _ rfl _ _ rfl _ _ _ _ w rfl rfl rfl rfl (by omega) ?_))
  intro w1 hown hb1 _
  have hz : List.replicate w 0 = leB 0 w := by
    apply List.ext_getElem <;> simp [leB]
  replace hown : w1.ownsRow W.heap.size 5 1 (.slice (some ⟨W.heap.size, 0, none⟩) w w) w (partB n w 0) := by simpa [partB, leB, nums] using hown
  clear hz
  go_wp2
  go_loopw [19] (fun i wr => ∃ k : Nat, k ≤ w ∧ i = .int .i64 k ∧ wr.ownsRow W.heap.size 5 1 (.slice (some ⟨W.heap.size, 0, none⟩) w w) w (partB n w k) ∧ Below W.heap.size W wr) (fun i _ => w - (intOf i).toNat)
  case atStart => exact ⟨0, by omega, rfl, hown, hb1⟩
  case round =>
    obtain ⟨k, hk, rfl, hownk, hbk⟩ := hrel
    by_cases hlt : k < w
    · have hc1 := hownk.cellAt k (by omega)
      have hl : k < (partB n w k).length := by simp [partB, nums, length_leB]; omega
      rw [List.getElem?_eq_getElem hl] at hc1
      obtain ⟨v0, hv0⟩ : ∃ v0, v0 = (partB n w k)[k] := ⟨_, rfl⟩
      rw [← hv0] at hc1
      have hf1 := hownk.frozenAt k
      have hst := Go.Lib.hid (hownk.stored k (.int .u8 (n / 2 ^ (8 * k) % 256))).1
      have hb2 := Go.Lib.hid (hbk.setCell (p := ⟨W.heap.size, k, none⟩) (Nat.le_refl _) (.int .u8 (n / 2 ^ (8 * k) % 256)))
      clear hv0 hl hownk hbk hown hb1
      go_wp2
      go_roundw
      case rel => exact ⟨k + 1, by omega, by go_num, by have := hst.out; rw [show (n / 2 ^ (8 * k) % 256 : Int) = n / 256 ^ k % 256 from by rw [shift_pow], partB_step n w k hlt] at this; rw [show (n / 2 ^ (8 * k) % 256 : Int) = n / 256 ^ k % 256 from by rw [shift_pow]]; exact this, hb2.out⟩
      case measure => (simp [intOf] <;> omega)
    · clear hown hb1
      go_wp2
      go_ret2
      exact ⟨rfl, by rw [show k = w from by omega] at hownk; simpa [partB] using hownk, hbk⟩
end Go.Proofs.Ytgfokdnflbmafaa
