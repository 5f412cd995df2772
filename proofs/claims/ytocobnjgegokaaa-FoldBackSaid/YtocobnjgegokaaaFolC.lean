/- Contracts of the functions of fold's reference: lists, and their comparisons. -/
import Derived.Test.YtocobnjgegokaaaFolB
import Derived.Deep.QuietTactic
import Derived.BigQuiet
namespace Go.Proofs.Ytocobnjgegokaaa
open Go.RowKit Cad

theorem FSame_ok (W : World) (a : Option Addr) (len cap : Nat) (l : List Int) (hr : Row .u32 W a len cap l) (a' : Option Addr) (len' cap' : Nat) (l' : List Int) (hr' : Row .u32 W a' len' cap' l') :
    Calls Try.prog 19 #[.slice a len cap, .slice a' len' cap'] W fun e W' => e = .returned (.bool (decide (l = l'))) ∧ Below W.heap.size W W' := by
  have hmx := Nat.le_trans hr.hcap hr.hmax
  have hmx' := Nat.le_trans hr'.hcap hr'.hmax
  unfold maxLen at hmx hmx'
  have hln := Go.Lib.hid hr.hlen
  have hln' := Go.Lib.hid hr'.hlen
  have hR := Go.Lib.hid hr
  have hR' := Go.Lib.hid hr'
  clear hr hr'
  by_cases hne : len = len'
  · subst hne
    go_enter Try.func19, Try.ntmps19
    go_wp2
    go_loopw [5] (fun i wr => ∃ k : Nat, k ≤ len ∧ i = .int .i64 k ∧ Hid (l.take k = l'.take k) ∧ Below W.heap.size W wr) (fun i _ => len - (intOf i).toNat)
    case atStart => exact ⟨0, by omega, rfl, Go.Lib.hid rfl, Below.refl _ _⟩
    case round =>
      obtain ⟨k, hk, rfl, hpre, hb⟩ := hrel
      by_cases hlt : k < len
      · obtain ⟨b, off, rfl, hbl, hc⟩ := (hR.out.below hb (Nat.le_refl _)).cells (by omega)
        obtain ⟨b', off', rfl, hbl', hc'⟩ := (hR'.out.below hb (Nat.le_refl _)).cells (by omega)
        have hcell := hc k hlt
        have hcell' := hc' k hlt
        obtain ⟨x, hx⟩ : ∃ x, x = l.getD k 0 := ⟨_, rfl⟩
        obtain ⟨y, hy⟩ : ∃ y, y = l'.getD k 0 := ⟨_, rfl⟩
        rw [← hx] at hcell
        rw [← hy] at hcell'
        have hX := Go.Lib.hid hx
        have hY := Go.Lib.hid hy
        clear hc hc' hx hy
        by_cases he : x = y
        · subst he
          have hnext := Go.Lib.hid (take_next hpre.out (by rw [hln.out]; exact hlt) (by rw [hln'.out]; exact hlt) (hX.out.symm.trans hY.out))
          go_wp2
          go_quiet (fail)
          go_wp2
          go_roundw
          case rel => exact ⟨k + 1, by omega, by go_num, hnext, Below.drewN hb _⟩
          case measure => (simp [intOf] <;> omega)
        · have hneq : Hid (l ≠ l') := Go.Lib.hid fun e => he (by rw [hX.out, hY.out, e])
          go_wp2
          go_quiet (fail)
          go_wp2
          go_ret
          exact ⟨ret_bool (decide_eq_false hneq.out).symm, Below.drewN hb _⟩
      · obtain rfl : k = len := by omega
        have heq : Hid (l = l') := Go.Lib.hid (by
          have := hpre.out
          rwa [List.take_of_length_le (by rw [hln.out]; exact Nat.le_refl _), List.take_of_length_le (by rw [hln'.out]; exact Nat.le_refl _)] at this)
        go_wp2
        go_ret
        exact ⟨ret_bool (decide_eq_true heq.out).symm, hb⟩
  · have hneq : Hid (l ≠ l') := Go.Lib.hid fun e => hne (by rw [← hln.out, ← hln'.out, e])
    go_enter Try.func19, Try.ntmps19
    go_wp2
    go_ret
    exact ⟨ret_bool (decide_eq_false hneq.out).symm, Below.refl _ _⟩

theorem FSameS_ok (W : World) (a : Option Addr) (len cap : Nat) (l : List Int) (hr : Row .i32 W a len cap l) (a' : Option Addr) (len' cap' : Nat) (l' : List Int) (hr' : Row .i32 W a' len' cap' l') :
    Calls Try.prog 11 #[.slice a len cap, .slice a' len' cap'] W fun e W' => e = .returned (.bool (decide (l = l'))) ∧ Below W.heap.size W W' := by
  have hmx := Nat.le_trans hr.hcap hr.hmax
  have hmx' := Nat.le_trans hr'.hcap hr'.hmax
  unfold maxLen at hmx hmx'
  have hln := Go.Lib.hid hr.hlen
  have hln' := Go.Lib.hid hr'.hlen
  have hR := Go.Lib.hid hr
  have hR' := Go.Lib.hid hr'
  clear hr hr'
  by_cases hne : len = len'
  · subst hne
    go_enter Try.func11, Try.ntmps11
    go_wp2
    go_loopw [5] (fun i wr => ∃ k : Nat, k ≤ len ∧ i = .int .i64 k ∧ Hid (l.take k = l'.take k) ∧ Below W.heap.size W wr) (fun i _ => len - (intOf i).toNat)
    case atStart => exact ⟨0, by omega, rfl, Go.Lib.hid rfl, Below.refl _ _⟩
    case round =>
      obtain ⟨k, hk, rfl, hpre, hb⟩ := hrel
      by_cases hlt : k < len
      · obtain ⟨b, off, rfl, hbl, hc⟩ := (hR.out.below hb (Nat.le_refl _)).cells (by omega)
        obtain ⟨b', off', rfl, hbl', hc'⟩ := (hR'.out.below hb (Nat.le_refl _)).cells (by omega)
        have hcell := hc k hlt
        have hcell' := hc' k hlt
        obtain ⟨x, hx⟩ : ∃ x, x = l.getD k 0 := ⟨_, rfl⟩
        obtain ⟨y, hy⟩ : ∃ y, y = l'.getD k 0 := ⟨_, rfl⟩
        rw [← hx] at hcell
        rw [← hy] at hcell'
        have hX := Go.Lib.hid hx
        have hY := Go.Lib.hid hy
        clear hc hc' hx hy
        by_cases he : x = y
        · subst he
          have hnext := Go.Lib.hid (take_next hpre.out (by rw [hln.out]; exact hlt) (by rw [hln'.out]; exact hlt) (hX.out.symm.trans hY.out))
          go_wp2
          go_quiet (fail)
          go_wp2
          go_roundw
          case rel => exact ⟨k + 1, by omega, by go_num, hnext, Below.drewN hb _⟩
          case measure => (simp [intOf] <;> omega)
        · have hneq : Hid (l ≠ l') := Go.Lib.hid fun e => he (by rw [hX.out, hY.out, e])
          go_wp2
          go_quiet (fail)
          go_wp2
          go_ret
          exact ⟨ret_bool (decide_eq_false hneq.out).symm, Below.drewN hb _⟩
      · obtain rfl : k = len := by omega
        have heq : Hid (l = l') := Go.Lib.hid (by
          have := hpre.out
          rwa [List.take_of_length_le (by rw [hln.out]; exact Nat.le_refl _), List.take_of_length_le (by rw [hln'.out]; exact Nat.le_refl _)] at this)
        go_wp2
        go_ret
        exact ⟨ret_bool (decide_eq_true heq.out).symm, hb⟩
  · have hneq : Hid (l ≠ l') := Go.Lib.hid fun e => hne (by rw [← hln.out, ← hln'.out, e])
    go_enter Try.func11, Try.ntmps11
    go_wp2
    go_ret
    exact ⟨ret_bool (decide_eq_false hneq.out).symm, Below.refl _ _⟩

theorem FRAll_any (W : World) (a : Option Addr) (len cap : Nat) (l : List Int) (hr : Row .i32 W a len cap l) :
    Calls Try.prog 17 #[.slice a len cap] W fun e W' => ∃ a' n' c', e = .returned (.tuple #[.slice a' n' c', .int .i64 (allS l).2]) ∧ Row .u32 W' a' n' c' (allS l).1 ∧ Below W.heap.size W W' := by
  have hmx := Nat.le_trans hr.hcap hr.hmax
  unfold maxLen at hmx
  have hln := Go.Lib.hid hr.hlen
  by_cases h : (len : Int) ≤ 4000
  · have he := Go.Lib.hid (show allS l = (l.map zig, 0) by unfold allS; rw [if_pos (by rw [hln.out]; exact h)])
    have hwf := Go.Lib.hid (zig_wfs hr.wf)
    have hr' := Go.Lib.hid hr
    clear hr
    go_enter Try.func17, Try.ntmps17
    go_wp2
    go_loopw [4, 5] (fun v i wr => ∃ k : Nat, k ≤ len ∧ i = .int .i64 k ∧ wr.ownsRow W.heap.size 29 1 v k (nums .u32 ((l.map zig).take k)) ∧ Below W.heap.size W wr) (fun _ i _ => len - (intOf i).toNat)
    case atStart => exact ⟨0, by omega, rfl, World.ownsRow_nil _ _ _ _, Below.refl _ _⟩
    case round =>
      obtain ⟨k, hk, rfl, hown, hb⟩ := hrel
      by_cases hlt : k < len
      · obtain ⟨b, off, rfl, hbl, hc⟩ := (hr'.out.below hb (Nat.le_refl _)).cells (by omega)
        have hcell := hc k hlt
        have hx := i32_bd (hr'.out.wf _ (getD_mem (show k < l.length by rw [hln.out]; exact hlt)))
        have hsn := Go.Lib.hid (take_snoc (l.map zig) (k := k) (by rw [List.length_map, hln.out]; exact hlt))
        rw [getD_map zig (show k < l.length by rw [hln.out]; exact hlt)] at hsn
        obtain ⟨x, hxx⟩ : ∃ x, x = l.getD k 0 := ⟨_, rfl⟩
        rw [← hxx] at hx hcell hsn
        have hcall := Go.Lib.hid fun w => FRFold_ok x w hx
        obtain ⟨z, hzz⟩ : ∃ z, z = zig x := ⟨_, rfl⟩
        rw [← hzz] at hcall hsn
        have hs := hb.size
        clear hzz hxx hc hx
        go_wp2_with (first
          | (go_at_call 14; refine (hcall.out _).mono ?_; rintro e w1 ⟨rfl, rfl⟩)
          | (at_builtin; refine law_append1 elU32 _ rfl _ _ rfl W.heap.size _ k ((l.map zig).take k) rfl hown z rfl (by omega) (by omega) ?_))
        intro v' w1 hown' hb'
        have hown1 := hown'
        rw [← hsn.out] at hown1
        have hb1 := hb.trans hb'
        clear hown' hb' hb hown
        go_wp2
        go_roundw
        case rel => exact ⟨k + 1, by omega, by go_num, hown1, hb1⟩
        case measure => (simp [intOf] <;> omega)
      · obtain rfl : k = len := by omega
        rw [List.take_of_length_le (by rw [List.length_map, hln.out]; exact Nat.le_refl _)] at hown
        obtain ⟨o1, p1, rfl⟩ := own_form hown
        have hown' := Go.Lib.hid hown
        clear hown
        go_wp2
        go_ret2
        refine ⟨o1, k, p1, ?_, ?_, hb⟩
        · first | (rw [he.out]; done) | (rw [he.out]; rfl)
        · rw [he.out]; exact Row.of_own hown'.out hwf.out
  · have he := Go.Lib.hid (show allS l = ([], 4) by unfold allS; rw [if_neg (by rw [hln.out]; exact h)])
    clear hr
    go_enter Try.func17, Try.ntmps17
    go_wp2
    go_ret2
    refine ⟨none, 0, 0, ?_, ?_, Below.refl _ _⟩
    · first | (rw [he.out]; done) | (rw [he.out]; rfl)
    · rw [he.out]; exact Row.nil_row _ _

theorem FRUndo_any (W : World) (a : Option Addr) (len cap : Nat) (l : List Int) (hr : Row .u32 W a len cap l) :
    Calls Try.prog 18 #[.slice a len cap] W fun e W' => ∃ a' n' c', e = .returned (.tuple #[.slice a' n' c', .int .i64 (undoS l).2]) ∧ Row .i32 W' a' n' c' (undoS l).1 ∧ Below W.heap.size W W' := by
  have hmx := Nat.le_trans hr.hcap hr.hmax
  unfold maxLen at hmx
  have hln := Go.Lib.hid hr.hlen
  by_cases h : (len : Int) ≤ 4000
  · have he := Go.Lib.hid (show undoS l = (l.map zag, 0) by unfold undoS; rw [if_pos (by rw [hln.out]; exact h)])
    have hwf := Go.Lib.hid (zag_wfs hr.wf)
    have hr' := Go.Lib.hid hr
    clear hr
    go_enter Try.func18, Try.ntmps18
    go_wp2
    go_loopw [4, 5] (fun v i wr => ∃ k : Nat, k ≤ len ∧ i = .int .i64 k ∧ wr.ownsRow W.heap.size 21 1 v k (nums .i32 ((l.map zag).take k)) ∧ Below W.heap.size W wr) (fun _ i _ => len - (intOf i).toNat)
    case atStart => exact ⟨0, by omega, rfl, World.ownsRow_nil _ _ _ _, Below.refl _ _⟩
    case round =>
      obtain ⟨k, hk, rfl, hown, hb⟩ := hrel
      by_cases hlt : k < len
      · obtain ⟨b, off, rfl, hbl, hc⟩ := (hr'.out.below hb (Nat.le_refl _)).cells (by omega)
        have hcell := hc k hlt
        have hx := u32_bd (hr'.out.wf _ (getD_mem (show k < l.length by rw [hln.out]; exact hlt)))
        have hsn := Go.Lib.hid (take_snoc (l.map zag) (k := k) (by rw [List.length_map, hln.out]; exact hlt))
        rw [getD_map zag (show k < l.length by rw [hln.out]; exact hlt)] at hsn
        obtain ⟨x, hxx⟩ : ∃ x, x = l.getD k 0 := ⟨_, rfl⟩
        rw [← hxx] at hx hcell hsn
        have hcall := Go.Lib.hid fun w => FRBack_ok x w hx
        obtain ⟨z, hzz⟩ : ∃ z, z = zag x := ⟨_, rfl⟩
        rw [← hzz] at hcall hsn
        have hs := hb.size
        clear hzz hxx hc hx
        go_wp2_with (first
          | (go_at_call 16; refine (hcall.out _).mono ?_; rintro e w1 ⟨rfl, rfl⟩)
          | (at_builtin; refine law_append1 elI32 _ rfl _ _ rfl W.heap.size _ k ((l.map zag).take k) rfl hown z rfl (by omega) (by omega) ?_))
        intro v' w1 hown' hb'
        have hown1 := hown'
        rw [← hsn.out] at hown1
        have hb1 := hb.trans hb'
        clear hown' hb' hb hown
        go_wp2
        go_roundw
        case rel => exact ⟨k + 1, by omega, by go_num, hown1, hb1⟩
        case measure => (simp [intOf] <;> omega)
      · obtain rfl : k = len := by omega
        rw [List.take_of_length_le (by rw [List.length_map, hln.out]; exact Nat.le_refl _)] at hown
        obtain ⟨o1, p1, rfl⟩ := own_form hown
        have hown' := Go.Lib.hid hown
        clear hown
        go_wp2
        go_ret2
        refine ⟨o1, k, p1, ?_, ?_, hb⟩
        · first | (rw [he.out]; done) | (rw [he.out]; rfl)
        · rw [he.out]; exact Row.of_own hown'.out hwf.out
  · have he := Go.Lib.hid (show undoS l = ([], 4) by unfold undoS; rw [if_neg (by rw [hln.out]; exact h)])
    clear hr
    go_enter Try.func18, Try.ntmps18
    go_wp2
    go_ret2
    refine ⟨none, 0, 0, ?_, ?_, Below.refl _ _⟩
    · first | (rw [he.out]; done) | (rw [he.out]; rfl)
    · rw [he.out]; exact Row.nil_row _ _
end Go.Proofs.Ytocobnjgegokaaa
