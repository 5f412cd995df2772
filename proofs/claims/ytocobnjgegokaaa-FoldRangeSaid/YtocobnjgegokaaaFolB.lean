/- Contracts of the functions of fold, and of its reference: lists. -/
import Derived.Test.YtocobnjgegokaaaFolA
namespace Go.Proofs.Ytocobnjgegokaaa
open Go.RowKit Cad

theorem elI32 : Elem Try.prog 26 21 .i32 := ⟨Try.underlying26, 4, by decide, by kernel_rfl⟩
theorem elU32 : Elem Try.prog 22 29 .u32 := ⟨Try.underlying22, 4, by decide, by kernel_rfl⟩

theorem FEach_many (W : World) (a : Option Addr) (len cap : Nat) (v : Value) (h : (4000 : Int) < len) (hm : len ≤ 9223372036854775807) :
    Calls Try.prog 21 #[.slice a len cap, v] W fun e W' => e = .returned (.tuple #[.slice none 0 0, .int .i64 4]) ∧ W = W' := by
  go_enter Try.func21, Try.ntmps21
  go_wp2
  go_ret2
  exact ⟨rfl, rfl⟩
theorem FEachB_many (W : World) (a : Option Addr) (len cap : Nat) (v : Value) (h : (4000 : Int) < len) (hm : len ≤ 9223372036854775807) :
    Calls Try.prog 22 #[.slice a len cap, v] W fun e W' => e = .returned (.tuple #[.slice none 0 0, .int .i64 4]) ∧ W = W' := by
  go_enter Try.func22, Try.ntmps22
  go_wp2
  go_ret2
  exact ⟨rfl, rfl⟩

theorem FEach_ok (W : World) (a : Option Addr) (len cap : Nat) (l : List Int) (hr : Row .i32 W a len cap l) (h : (len : Int) ≤ 4000) :
    Calls Try.prog 21 #[.slice a len cap, .func (.func 13) #[] #[]] W fun e W' => ∃ v', e = .returned (.tuple #[v', .int .i64 0]) ∧
      W'.ownsRow W.heap.size 29 1 v' len (nums .u32 (l.map zig)) ∧ Below W.heap.size W W' := by
  have hll : (l.map zig).length = len := by simp [hr.hlen]
  have h0 := Go.Lib.hid (fillTo_0 (l.map zig))
  rw [hll] at h0
  have hln := Go.Lib.hid hr.hlen
  have hr' := Go.Lib.hid hr
  have hll' := Go.Lib.hid hll
  clear hr hll
  go_enter Try.func21, Try.ntmps21
  go_wp2_with (at_make; refine law_make elU32 _ rfl _ _ rfl .i64 .i64 _ _ len rfl rfl (by omega) (by omega) (by omega) ?_; intro w1 hown1 hb1 hs1; rw [← h0.out] at hown1; have hr1 := Go.Lib.hid (hr'.out.below hb1 (Nat.le_refl _)); have hown1' := Go.Lib.hid hown1; have hb1' := Go.Lib.hid hb1; clear hown1 hb1)
  go_loopw [7, 8, 17] (fun x n i wr => ∃ k : Nat, k ≤ len ∧ i = .int .i64 k ∧ wr.ownsRow W.heap.size 29 1 (.slice (some ⟨W.heap.size, 0, none⟩) len len) len (nums .u32 (fillTo (l.map zig) k)) ∧ Below W.heap.size W wr) (fun _ _ i _ => len - (intOf i).toNat)
  case atStart => exact ⟨0, by omega, rfl, hown1'.out, hb1'.out⟩
  case round =>
    obtain ⟨k, hk, rfl, hown, hb⟩ := hrel
    by_cases hlt : k < len
    · obtain ⟨b, off, rfl, hbl, hc⟩ := (hr'.out.below hb (Nat.le_refl _)).cells (by omega)
      have hcell := hc k hlt
      have hx := i32_bd (hr'.out.wf _ (getD_mem (show k < l.length by rw [hln.out]; exact hlt)))
      have hz := Go.Lib.hid (getD_map zig (show k < l.length by rw [hln.out]; exact hlt))
      have hset := Go.Lib.hid (fillTo_nums .u32 (l.map zig) (show k < (l.map zig).length by rw [hll'.out]; exact hlt))
      rw [hz.out] at hset
      obtain ⟨x, hxx⟩ : ∃ x, x = l.getD k 0 := ⟨_, rfl⟩
      rw [← hxx] at hx hcell hset
      have hc1 := hown.cellAt k (by omega)
      have hf1 := hown.frozenAt k
      obtain ⟨v0, hv0⟩ : ∃ v0, (nums .u32 (fillTo (l.map zig) k))[k]? = some v0 := ⟨_, List.getElem?_eq_getElem (by rw [nums_len, fillTo_len _ (by rw [hll'.out]; exact hk), hll'.out]; exact hlt)⟩
      rw [hv0] at hc1
      have hcall := Go.Lib.hid fun w => FFold_ok x w hx
      obtain ⟨z, hzz⟩ : ∃ z, z = zig x := ⟨_, rfl⟩
      rw [← hzz] at hcall hset
      have hst := Go.Lib.hid (hown.stored k (.int .u32 z)).1
      have hb2 := Go.Lib.hid (hb.setCell (p := ⟨W.heap.size, k, none⟩) (Nat.le_refl _) (.int .u32 z))
      clear hv0 hzz hxx hown hb hr1 hown1' hb1' hs1 hc hx hz
      go_wp2_with (go_at_call 13; refine (hcall.out _).mono ?_; rintro e w1 ⟨rfl, rfl⟩)
      go_roundw
      case rel => exact ⟨k + 1, by omega, by go_num, by have := hst.out; rwa [hset.out] at this, hb2.out⟩
      case measure => (simp [intOf] <;> omega)
    · obtain rfl : k = len := by omega
      rw [fillTo_all _ (by rw [hll'.out]; exact Nat.le_refl _)] at hown
      have hown' := Go.Lib.hid hown
      clear hown hown1' hb1' hs1 hr1
      go_wp2
      go_ret2
      exact ⟨_, rfl, hown'.out, hb⟩
theorem FEachB_ok (W : World) (a : Option Addr) (len cap : Nat) (l : List Int) (hr : Row .u32 W a len cap l) (h : (len : Int) ≤ 4000) :
    Calls Try.prog 22 #[.slice a len cap, .func (.func 15) #[] #[]] W fun e W' => ∃ v', e = .returned (.tuple #[v', .int .i64 0]) ∧
      W'.ownsRow W.heap.size 21 1 v' len (nums .i32 (l.map zag)) ∧ Below W.heap.size W W' := by
  have hll : (l.map zag).length = len := by simp [hr.hlen]
  have h0 := Go.Lib.hid (fillTo_0 (l.map zag))
  rw [hll] at h0
  have hln := Go.Lib.hid hr.hlen
  have hr' := Go.Lib.hid hr
  have hll' := Go.Lib.hid hll
  clear hr hll
  go_enter Try.func22, Try.ntmps22
  go_wp2_with (at_make; refine law_make elI32 _ rfl _ _ rfl .i64 .i64 _ _ len rfl rfl (by omega) (by omega) (by omega) ?_; intro w1 hown1 hb1 hs1; rw [← h0.out] at hown1; have hr1 := Go.Lib.hid (hr'.out.below hb1 (Nat.le_refl _)); have hown1' := Go.Lib.hid hown1; have hb1' := Go.Lib.hid hb1; clear hown1 hb1)
  go_loopw [7, 8, 17] (fun x n i wr => ∃ k : Nat, k ≤ len ∧ i = .int .i64 k ∧ wr.ownsRow W.heap.size 21 1 (.slice (some ⟨W.heap.size, 0, none⟩) len len) len (nums .i32 (fillTo (l.map zag) k)) ∧ Below W.heap.size W wr) (fun _ _ i _ => len - (intOf i).toNat)
  case atStart => exact ⟨0, by omega, rfl, hown1'.out, hb1'.out⟩
  case round =>
    obtain ⟨k, hk, rfl, hown, hb⟩ := hrel
    by_cases hlt : k < len
    · obtain ⟨b, off, rfl, hbl, hc⟩ := (hr'.out.below hb (Nat.le_refl _)).cells (by omega)
      have hcell := hc k hlt
      have hx := u32_bd (hr'.out.wf _ (getD_mem (show k < l.length by rw [hln.out]; exact hlt)))
      have hz := Go.Lib.hid (getD_map zag (show k < l.length by rw [hln.out]; exact hlt))
      have hset := Go.Lib.hid (fillTo_nums .i32 (l.map zag) (show k < (l.map zag).length by rw [hll'.out]; exact hlt))
      rw [hz.out] at hset
      obtain ⟨x, hxx⟩ : ∃ x, x = l.getD k 0 := ⟨_, rfl⟩
      rw [← hxx] at hx hcell hset
      have hc1 := hown.cellAt k (by omega)
      have hf1 := hown.frozenAt k
      obtain ⟨v0, hv0⟩ : ∃ v0, (nums .i32 (fillTo (l.map zag) k))[k]? = some v0 := ⟨_, List.getElem?_eq_getElem (by rw [nums_len, fillTo_len _ (by rw [hll'.out]; exact hk), hll'.out]; exact hlt)⟩
      rw [hv0] at hc1
      have hcall := Go.Lib.hid fun w => FBack_ok x w hx
      obtain ⟨z, hzz⟩ : ∃ z, z = zag x := ⟨_, rfl⟩
      rw [← hzz] at hcall hset
      have hst := Go.Lib.hid (hown.stored k (.int .i32 z)).1
      have hb2 := Go.Lib.hid (hb.setCell (p := ⟨W.heap.size, k, none⟩) (Nat.le_refl _) (.int .i32 z))
      clear hv0 hzz hxx hown hb hr1 hown1' hb1' hs1 hc hx hz
      go_wp2_with (go_at_call 15; refine (hcall.out _).mono ?_; rintro e w1 ⟨rfl, rfl⟩)
      go_roundw
      case rel => exact ⟨k + 1, by omega, by go_num, by have := hst.out; rwa [hset.out] at this, hb2.out⟩
      case measure => (simp [intOf] <;> omega)
    · obtain rfl : k = len := by omega
      rw [fillTo_all _ (by rw [hll'.out]; exact Nat.le_refl _)] at hown
      have hown' := Go.Lib.hid hown
      clear hown hown1' hb1' hs1 hr1
      go_wp2
      go_ret2
      exact ⟨_, rfl, hown'.out, hb⟩

def allS (l : List Int) : List Int × Int := if (l.length : Int) ≤ 4000 then (l.map zig, 0) else ([], 4)
def undoS (l : List Int) : List Int × Int := if (l.length : Int) ≤ 4000 then (l.map zag, 0) else ([], 4)

theorem FAll_any (W : World) (a : Option Addr) (len cap : Nat) (l : List Int) (hr : Row .i32 W a len cap l) :
    Calls Try.prog 9 #[.slice a len cap] W fun e W' => ∃ a' n' c', e = .returned (.tuple #[.slice a' n' c', .int .i64 (allS l).2]) ∧ Row .u32 W' a' n' c' (allS l).1 ∧ Below W.heap.size W W' := by
  have hmx := Nat.le_trans hr.hcap hr.hmax
  unfold maxLen at hmx
  have hln := hr.hlen
  by_cases h : (len : Int) ≤ 4000
  · have hc := Go.Lib.hid (FEach_ok W a len cap l hr h)
    have he := Go.Lib.hid (show allS l = (l.map zig, 0) by unfold allS; rw [if_pos (by rw [hln]; exact h)])
    have hwf := Go.Lib.hid (zig_wfs hr.wf)
    clear hr
    go_enter Try.func9, Try.ntmps9
    go_wp2_with (go_at_call 21; refine hc.out.mono ?_; rintro e w1 ⟨v1, rfl, hown, hb⟩; obtain ⟨o1, p1, rfl⟩ := own_form hown)
    go_ret2
    refine ⟨o1, len, p1, ?_, ?_, hb⟩
    · first | (rw [he.out]; done) | (rw [he.out]; rfl)
    · rw [he.out]; exact Row.of_own hown hwf.out
  · have hc := Go.Lib.hid (FEach_many W a len cap (.func (.func 13) #[] #[]) (by omega) (by omega))
    have he := Go.Lib.hid (show allS l = ([], 4) by unfold allS; rw [if_neg (by rw [hln]; exact h)])
    clear hr
    go_enter Try.func9, Try.ntmps9
    go_wp2_with (go_at_call 21; refine hc.out.mono ?_; rintro e w1 ⟨rfl, rfl⟩)
    go_ret2
    refine ⟨none, 0, 0, ?_, ?_, Below.refl _ _⟩
    · first | (rw [he.out]; done) | (rw [he.out]; rfl)
    · rw [he.out]; exact Row.nil_row _ _

theorem FUndo_any (W : World) (a : Option Addr) (len cap : Nat) (l : List Int) (hr : Row .u32 W a len cap l) :
    Calls Try.prog 10 #[.slice a len cap] W fun e W' => ∃ a' n' c', e = .returned (.tuple #[.slice a' n' c', .int .i64 (undoS l).2]) ∧ Row .i32 W' a' n' c' (undoS l).1 ∧ Below W.heap.size W W' := by
  have hmx := Nat.le_trans hr.hcap hr.hmax
  unfold maxLen at hmx
  have hln := hr.hlen
  by_cases h : (len : Int) ≤ 4000
  · have hc := Go.Lib.hid (FEachB_ok W a len cap l hr h)
    have he := Go.Lib.hid (show undoS l = (l.map zag, 0) by unfold undoS; rw [if_pos (by rw [hln]; exact h)])
    have hwf := Go.Lib.hid (zag_wfs hr.wf)
    clear hr
    go_enter Try.func10, Try.ntmps10
    go_wp2_with (go_at_call 22; refine hc.out.mono ?_; rintro e w1 ⟨v1, rfl, hown, hb⟩; obtain ⟨o1, p1, rfl⟩ := own_form hown)
    go_ret2
    refine ⟨o1, len, p1, ?_, ?_, hb⟩
    · first | (rw [he.out]; done) | (rw [he.out]; rfl)
    · rw [he.out]; exact Row.of_own hown hwf.out
  · have hc := Go.Lib.hid (FEachB_many W a len cap (.func (.func 15) #[] #[]) (by omega) (by omega))
    have he := Go.Lib.hid (show undoS l = ([], 4) by unfold undoS; rw [if_neg (by rw [hln]; exact h)])
    clear hr
    go_enter Try.func10, Try.ntmps10
    go_wp2_with (go_at_call 22; refine hc.out.mono ?_; rintro e w1 ⟨rfl, rfl⟩)
    go_ret2
    refine ⟨none, 0, 0, ?_, ?_, Below.refl _ _⟩
    · first | (rw [he.out]; done) | (rw [he.out]; rfl)
    · rw [he.out]; exact Row.nil_row _ _


theorem FAll_many (W : World) (a : Option Addr) (len cap : Nat) {l : List Int} (hr : Row .i32 W a len cap l) (h : (4000 : Int) < len) :
    Calls Try.prog 9 #[.slice a len cap] W fun e W' => e = .returned (.tuple #[.slice none 0 0, .int .i64 4]) ∧ Below W.heap.size W W' := by
  have hmx := Nat.le_trans hr.hcap hr.hmax
  unfold maxLen at hmx
  have hc := Go.Lib.hid (FEach_many W a len cap (.func (.func 13) #[] #[]) h (by omega))
  clear hr
  go_enter Try.func9, Try.ntmps9
  go_wp2_with (go_at_call 21; refine hc.out.mono ?_; rintro e w1 ⟨rfl, rfl⟩)
  go_ret2
  exact ⟨rfl, Below.refl _ _⟩
theorem FUndo_many (W : World) (a : Option Addr) (len cap : Nat) {l : List Int} (hr : Row .u32 W a len cap l) (h : (4000 : Int) < len) :
    Calls Try.prog 10 #[.slice a len cap] W fun e W' => e = .returned (.tuple #[.slice none 0 0, .int .i64 4]) ∧ Below W.heap.size W W' := by
  have hmx := Nat.le_trans hr.hcap hr.hmax
  unfold maxLen at hmx
  have hc := Go.Lib.hid (FEachB_many W a len cap (.func (.func 15) #[] #[]) h (by omega))
  clear hr
  go_enter Try.func10, Try.ntmps10
  go_wp2_with (go_at_call 22; refine hc.out.mono ?_; rintro e w1 ⟨rfl, rfl⟩)
  go_ret2
  exact ⟨rfl, Below.refl _ _⟩
theorem FAll_len (W : World) (a : Option Addr) (len cap : Nat) (l : List Int) (hr : Row .i32 W a len cap l) (h : (len : Int) ≤ 4000) :
    Calls Try.prog 9 #[.slice a len cap] W fun e W' => ∃ a' c', e = .returned (.tuple #[.slice a' len c', .int .i64 0]) ∧ Below W.heap.size W W' := by
  have hln := hr.hlen
  have := FAll_any W a len cap l hr
  rw [show allS l = (l.map zig, 0) by unfold allS; rw [if_pos (by rw [hln]; exact h)]] at this
  refine this.mono ?_
  rintro e w' ⟨a', n', c', h1, h2, h3⟩
  obtain rfl : n' = len := by have := h2.hlen; rw [List.length_map, hln] at this; exact this.symm
  exact ⟨a', c', h1, h3⟩
end Go.Proofs.Ytocobnjgegokaaa
