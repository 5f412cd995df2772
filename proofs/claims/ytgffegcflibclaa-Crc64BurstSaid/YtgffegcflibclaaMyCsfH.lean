/- crc64.halves: the states behind all halves of a byte, an array by value. -/
import Derived.Test.YtgffegcflibclaaMyCsfA
import Derived.Laws.CopyOwn
namespace Go.Proofs.Ytgffegcflibclaa
open Go.RowKit Cad

def nibTab : List Int := (List.range 16).map fun i => (nib i : Int)
theorem nibTab_len : nibTab.length = 16 := by simp [nibTab]
theorem nibTab_getD {i : Nat} (h : i < 16) : nibTab.getD i 0 = (nib i : Nat) := by simp [nibTab, List.getD, h]
def nibTo (k : Nat) : List Int := nibTab.take k ++ List.replicate (16 - k) 0
theorem nibTo_16 : nibTo 16 = nibTab := by unfold nibTo; rw [List.take_of_length_le (by rw [nibTab_len]; exact Nat.le_refl _), Nat.sub_self, List.replicate_zero, List.append_nil]
theorem nibTo_0 : nibTo 0 = List.replicate 16 0 := by unfold nibTo; rw [List.take_zero, List.nil_append]
theorem nibTo_len {k : Nat} (h : k ≤ 16) : (nibTo k).length = 16 := by unfold nibTo; rw [List.length_append, List.length_take, nibTab_len, List.length_replicate]; omega
theorem nibTo_get {k i : Nat} (h : i < k) (hk : k ≤ 16) : (nibTo k)[i]? = some (nib i : Int) := by
  unfold nibTo
  rw [List.getElem?_append_left (by rw [List.length_take, nibTab_len]; omega), List.getElem?_take, if_pos h]
  simp [nibTab, show i < 16 by omega]
theorem nibTo_zero {k : Nat} (hk : k < 16) : (nibTo k)[k]? = some 0 := by
  unfold nibTo
  rw [List.getElem?_append_right (by rw [List.length_take, nibTab_len]; omega), List.length_take, nibTab_len, List.getElem?_replicate, if_pos (by omega)]
theorem nibTo_set {k : Nat} (h : k < 16) : (nibTo k).set k (nib k : Nat) = nibTo (k + 1) := by
  unfold nibTo
  have e : nibTab.take (k + 1) = nibTab.take k ++ [(nib k : Int)] := by
    rw [List.take_add_one, List.getElem?_eq_getElem (by rw [nibTab_len]; exact h)]
    simp [nibTab]
  rw [e, show 16 - k = (16 - (k + 1)) + 1 by omega, List.replicate_succ, List.set_append_right _ _ (by rw [List.length_take, nibTab_len]; omega)]
  rw [show k - (List.take k nibTab).length = 0 by rw [List.length_take, nibTab_len]; omega]
  simp
/-- what halves' loads read -/
theorem nibTo_half {k : Nat} (hk : k < 16) : ∃ v : Nat, (nibTo k)[k / 2]? = some (v : Int) ∧ v = nib (k / 2) := by
  by_cases h : k = 0
  · subst h; exact ⟨0, nibTo_zero (by decide), nib_zero.symm⟩
  · exact ⟨_, nibTo_get (show k / 2 < k by omega) (by omega), rfl⟩
attribute [irreducible] nibTab nibTo

theorem cells_at {w : World} {b o : Nat} {l : List Int} {t : TypeId} {x : Int} (h : w.heap[b]? = some (.cells (nums .u64 l).toArray t (0, 0))) (hx : l[o]? = some x) : w.cell? ⟨b, o, none⟩ = some (.int .u64 x) := by
  unfold World.cell?
  rw [h]
  simp [nums, hx]
theorem free_at {w : World} {b : Nat} {c : Array Value} {t : TypeId} (h : w.heap[b]? = some (.cells c t (0, 0))) (o : Nat) : w.frozen? ⟨b, o, none⟩ = false := by
  unfold World.frozen?
  rw [h]
  simp

set_option maxRecDepth 100000 in
theorem CHalves_ok (W : World) : Calls Try.prog 18 #[] W fun e W' => e = .returned (.agg (nums .u64 nibTab).toArray) ∧ Below W.heap.size W W' := by
  go_enter Try.func18, Try.ntmps18
  go_wp2
  go_loopw [2, 3] (fun d i wr => ∃ k : Nat, k ≤ 16 ∧ i = .int .i64 k ∧ wr.heap[W.heap.size + 1]? = some (.cells (nums .u64 (nibTo k)).toArray 43 (0, 0)) ∧ wr.heap[W.heap.size]? = some (.cells (nums .u64 (nibTo 0)).toArray 43 (0, 0)) ∧ Below W.heap.size W wr) (fun _ i _ => 16 - (intOf i).toNat)
  case atStart =>
    refine ⟨0, by omega, rfl, ?_, ?_, ((Below.refl _ _).alloc (Nat.le_refl _) _).alloc (by simp) _⟩
    · rw [nibTo_0]; simpa [nums] using heap_alloc_new (W.alloc _) _
    · rw [Below.heap_alloc _ _ _ (by simp), nibTo_0]; simpa [nums] using heap_alloc_new W _
  case round =>
    obtain ⟨k, hk, rfl, hrow, hres, hb⟩ := hrel
    by_cases hlt : k < 16
    · obtain ⟨v, hv, hvn⟩ := nibTo_half hlt
      have hvl : v < 18446744073709551616 := by rw [hvn]; exact nib_lt _
      have hcell := cells_at hrow hv
      have hc2 := cells_at hrow (nibTo_zero hlt)
      have hf2 := free_at hrow k
      have hset := Go.Lib.hid (nibTo_set hlt)
      have hstep := nib_step hlt
      rw [← hvn] at hstep
      obtain ⟨x, hx⟩ : ∃ x, x = nib k := ⟨_, rfl⟩
      rw [← hx] at hstep hset
      have hcall : Hid (∀ w, Calls Try.prog 20 #[.int .u64 v, .int .u64 ((k : Int) % 2)] w fun e W' => e = .returned (.int .u64 (x : Nat)) ∧ w = W') := Go.Lib.hid fun w => by
        have hm : k % 2 = 0 ∨ k % 2 = 1 := by omega
        have hxl : v ^^^ ((k % 2) * 9223372036854775808) < 18446744073709551616 := Nat.xor_lt_two_pow (n := 64) hvl (by omega)
        have := CStep_one w v (k % 2) _ hvl hm hxl (by
          have := Go.u64_xor_nat v ((k % 2) * 9223372036854775808) hvl (by omega)
          rw [← this]; simp)
        have e : csfZ (v ^^^ ((k % 2) * 9223372036854775808)) = x := by
          have et : (decide (k % 2 = 1)).toNat = k % 2 := by rcases hm with h | h <;> rw [h] <;> rfl
          rw [hstep, csfStep, et]
        rw [e] at this
        rw [show ((k : Int) % 2) = ((k % 2 : Nat) : Int) by simp]
        exact this
      have hh1 := Go.Lib.hid (heap_setCell_same wr (W.heap.size + 1) k _ _ (.int .u64 (x : Nat)) hrow)
      have hh2 := Go.Lib.hid ((Below.heap_setCell wr ⟨W.heap.size + 1, k, none⟩ (.int .u64 (x : Nat)) W.heap.size (by simp)).trans hres)
      have hb2 := Go.Lib.hid (hb.setCell (p := ⟨W.heap.size + 1, k, none⟩) (by simp) (.int .u64 (x : Nat)))
      clear hrow hres hb hv hvn hx hstep
      go_wp2_with (go_at_call 20; refine (hcall.out _).mono ?_; rintro e w1 ⟨rfl, rfl⟩)
      go_roundw
      case rel => exact ⟨k + 1, by omega, by go_num, by rw [← hset.out]; simpa [nums, List.map_set] using hh1.out, hh2.out, hb2.out⟩
      case measure => (simp [intOf] <;> omega)
    · have hk16 : k = 16 := by omega
      have hr16 : wr.heap[W.heap.size + 1]? = some (.cells (nums .u64 nibTab).toArray 43 (0, 0)) := by rw [← nibTo_16, ← hk16]; exact hrow
      have hge : ¬ ((k : Int) < 16) := by omega
      have hsz : (nums .u64 nibTab).toArray.size = 16 := by simp [nums, nibTab_len]
      have hsz0 : (nums .u64 (nibTo 0)).toArray.size = 16 := by simp [nums, nibTo_len]
      have hinf : (Try.prog.info? 43).map (·.size) = some (nums .u64 nibTab).toArray.size := by rw [hsz]; kernel_rfl
      have hall : (nums .u64 nibTab).toArray.all (·.oneCell') = true := by simp [nums]; exact fun _ _ => rfl
      obtain ⟨A, hA⟩ : ∃ A, A = (nums .u64 nibTab).toArray := ⟨_, rfl⟩
      rw [← hA] at hr16 hinf hsz hall
      have hAh := Go.Lib.hid hA
      clear hA
      have hfin := Go.Lib.hid (setRow_heap wr W.heap.size _ A _ _ hres)
      have hold := Go.Lib.hid (hsz0.trans hsz.symm)
      have hszh := Go.Lib.hid hsz
      clear hsz
      have hinfh := Go.Lib.hid hinf
      clear hinf
      have hallh := Go.Lib.hid hall
      clear hall
      have hb2 := Go.Lib.hid (below_setRow hb (Nat.le_refl _) A)
      have hr16h := Go.Lib.hid hr16
      clear hr16
      have hresh := Go.Lib.hid hres
      clear hres
      clear hrow hk16 hlt hb
      go_wp2_with (first
        | refine wpList_load_row rfl 43 _ rfl (W.heap.size + 1) rfl _ _ _ _ hr16h.out Try.underlying43 rfl hinfh.out ?_
        | refine wpList_store_row rfl 43 _ _ rfl W.heap.size _ rfl rfl _ _ hresh.out hinfh.out hold.out hallh.out ?_)
      refine bodyPost_ret (results_cell_row (by rfl) _ _ W.heap.size _ _ _ _ rfl hfin.out Try.underlying43 rfl hinfh.out) rfl ?_
      exact ⟨by rw [hAh.out], hb2.out⟩
end Go.Proofs.Ytgffegcflibclaa
