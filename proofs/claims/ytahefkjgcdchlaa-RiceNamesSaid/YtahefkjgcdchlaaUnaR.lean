/- Contracts of the reference of unary. -/
import Derived.Test.YtahefkjgcdchlaaUnaB
namespace Go.Proofs.Ytahefkjgcdchlaa
open Go.RowKit Cad

set_option maxHeartbeats 1600000 in
theorem RuAdd_ok (W : World) (base : Nat) (v : Value) (B : List Bool) (n : Nat) (hown : W.ownsRow base 5 1 v ((B.length + 7) / 8) (nums .u8 (pack B))) (hbase : base ≤ W.heap.size) (hB : B.length ≤ 330000) (hn : n ≤ 48) :
    Calls Try.prog 47 #[.agg #[v, .int .i64 B.length], .int .i64 n] W fun e W' => ∃ v', e = .returned (.agg #[v', .int .i64 ((B.length + runLen n : Nat) : Int)]) ∧
      W'.ownsRow base 5 1 v' (((B ++ runB n).length + 7) / 8) (nums .u8 (pack (B ++ runB n))) ∧ Kept base W W' := by
  obtain ⟨av, cv, rfl⟩ := own_form hown
  obtain ⟨W0, hW0, hbE, hs0, hx0, hy0⟩ := two_boxes W (.slice av ((B.length + 7) / 8) cv) B.length
  have hk0 : Kept base W W0 := by rw [hW0]; exact ((Kept.refl base W).alloc hbase _).alloc hbase _
  have hown0 : W0.ownsRow base 5 1 (.slice av ((B.length + 7) / 8) cv) ((B.length + 7) / 8) (nums .u8 (pack B)) := own_below hown hbE (Nat.le_refl _)
  have hx0' := Go.Lib.hid hx0
  have hy0' := Go.Lib.hid hy0
  have hk0' := Go.Lib.hid hk0
  have hown0' := Go.Lib.hid hown0
  clear hx0 hy0 hk0 hown0 hown hbE
  go_enter Try.func47, Try.ntmps47
  go_wp2
  rw [← hW0]
  clear hW0
  go_loopw [5] (fun i wr => ∃ (k : Nat) (u : Value), k ≤ n ∧ i = .int .i64 k ∧ BoxAt wr W.heap.size u ((B.length : Int) + (k : Int)) ∧ BoxAt wr (W.heap.size + 1) (.slice none 0 0) 0 ∧
    wr.ownsRow base 5 1 u (((B ++ List.replicate k true).length + 7) / 8) (nums .u8 (pack (B ++ List.replicate k true))) ∧ Kept base W wr) (fun i _ => n - (intOf i).toNat)
  case atStart => exact ⟨0, _, Nat.zero_le _, rfl, hx0'.out, hy0'.out, by simpa using hown0'.out, hk0'.out⟩
  case round =>
    obtain ⟨k, u, hk, rfl, hx, hy, ho, hkp⟩ := hrel
    obtain ⟨au, cu, rfl⟩ := own_form ho
    obtain ⟨x0, x1, x2, x3⟩ := hx.cells
    obtain ⟨L, hL⟩ : ∃ L, L = ((B ++ List.replicate k true).length + 7) / 8 := ⟨_, rfl⟩
    rw [← hL] at hx x0 ho
    have hL' := Go.Lib.hid hL
    have hx' := Go.Lib.hid hx
    have hy' := Go.Lib.hid hy
    have ho' := Go.Lib.hid ho
    have hkp' := Go.Lib.hid hkp
    have hBl : (B ++ List.replicate k true).length = B.length + k := by simp
    have hbw : base ≤ wr.heap.size := Nat.le_trans hbase hkp.bel.size
    by_cases hlt : k < n
    · obtain ⟨L1, hL1⟩ : ∃ L1, L1 = ((B ++ List.replicate (k + 1) true).length + 7) / 8 := ⟨_, rfl⟩
      have hL1' := Go.Lib.hid hL1
      have hc : Hid (Calls Try.prog 54 #[.agg #[.slice au L cu, .int .i64 ((B.length : Int) + (k : Int))], .int .i64 1] wr fun e W' => ∃ v', e = .returned (.agg #[v', .int .i64 ((B.length : Int) + ((k : Int) + 1))]) ∧
          W'.ownsRow base 5 1 v' L1 (nums .u8 (pack (B ++ List.replicate (k + 1) true))) ∧ Kept base wr W') := Go.Lib.hid (by
        have := RAdd_any wr base (.slice au L cu) (B ++ List.replicate k true) true (by rw [← hL]; exact ho) hbw (by omega)
        rw [hBl, List.append_assoc, ← List.replicate_succ'] at this
        have e1 : ((B.length + k : Nat) : Int) = (B.length : Int) + (k : Int) := by omega
        have e2 : ((B.length + k + 1 : Nat) : Int) = (B.length : Int) + ((k : Int) + 1) := by omega
        rw [e1, e2, ← hL1] at this
        exact this)
      clear hL1
      clear hx hy ho hkp hL
      go_wp2_with (go_at_call 54; with_reducible refine hc.out.mono ?_; rintro e w1 ⟨v1, rfl, ho1, hk1⟩; obtain ⟨a1, c1, rfl⟩ := own_form ho1; have hx1 := Go.Lib.hid (hx'.out.kept hk1); have hy1 := Go.Lib.hid (hy'.out.kept hk1); obtain ⟨z0, z1, z2, z3⟩ := hx1.out.cells; have ho1' := Go.Lib.hid ho1; have hk1' := Go.Lib.hid (hkp'.out.trans hk1); clear ho1 hk1)
      go_roundw
      case rel =>
        refine ⟨k + 1, .slice a1 L1 c1, by omega, by go_num, ?_, ?_, ?_, ?_⟩
        · exact hx1.out.set _ _
        · exact (hy1.out.other (by simp) _).other (by simp) _
        · rw [← hL1'.out]; exact own_set (own_set ho1'.out (hx1.out.apart ho1'.out) _ _) (hx1.out.apart ho1'.out) _ _
        · exact (hk1'.out.setCell hbase (Nat.le_refl _) _).setCell hbase (Nat.le_refl _) _
      case measure => (simp [intOf] <;> omega)
    · obtain rfl : k = n := by omega
      by_cases h48 : k < 48
      · have h48' : (k : Int) < 48 := by omega
        have hrun : runB k = List.replicate k true ++ [false] := by unfold runB; rw [if_pos h48]
        have hrl : runLen k = k + 1 := by unfold runLen; rw [if_neg (by omega)]
        obtain ⟨L1, hL1⟩ : ∃ L1, L1 = ((B ++ runB k).length + 7) / 8 := ⟨_, rfl⟩
        have hL1' := Go.Lib.hid hL1
        have hc : Hid (Calls Try.prog 54 #[.agg #[.slice au L cu, .int .i64 ((B.length : Int) + (k : Int))], .int .i64 0] wr fun e W' => ∃ v', e = .returned (.agg #[v', .int .i64 ((B.length + runLen k : Nat) : Int)]) ∧
            W'.ownsRow base 5 1 v' L1 (nums .u8 (pack (B ++ runB k))) ∧ Kept base wr W') := Go.Lib.hid (by
          have := RAdd_any wr base (.slice au L cu) (B ++ List.replicate k true) false (by rw [← hL]; exact ho) hbw (by omega)
          rw [hBl, List.append_assoc, ← hrun] at this
          rw [hrl]
          have e1 : ((B.length + k : Nat) : Int) = (B.length : Int) + (k : Int) := by omega
          rw [e1, ← hL1] at this
          exact this)
        clear hL1
        clear hx hy ho hkp hrun hrl hL
        obtain ⟨m, hm⟩ : ∃ m, m = ((B.length + runLen k : Nat) : Int) := ⟨_, rfl⟩
        rw [← hm] at hc
        have hm' := Go.Lib.hid hm
        clear hm
        go_wp2_with (go_at_call 54; with_reducible refine hc.out.mono ?_; rintro e w1 ⟨v1, rfl, ho1, hk1⟩; obtain ⟨a1, c1, rfl⟩ := own_form ho1; have hx1 := Go.Lib.hid (hx'.out.kept hk1); have hy1 := Go.Lib.hid (hy'.out.kept hk1); obtain ⟨z0, z1, z2, z3⟩ := hx1.out.cells; obtain ⟨q0, q1, q2, q3⟩ := hy1.out.cells; have ho1' := Go.Lib.hid ho1; have hk1' := Go.Lib.hid (hkp'.out.trans hk1); clear ho1 hk1)
        (try simp only [Exit.inBlock, Exit.then])
        have ap1 := hx1.out.apart ho1'.out
        have ap2 := hy1.out.apart ho1'.out
        have hy2 := ((hy1.out.other (p := ⟨W.heap.size, 0, none⟩) (by simp) (.slice a1 L1 c1)).other (p := ⟨W.heap.size, 1, none⟩) (by simp) (.int .i64 m)).set (.slice a1 L1 c1) m
        refine bodyPost_ret (results_cell_row (by rfl) _ _ (W.heap.size + 1) _ _ _ _ rfl hy2 Try.underlying28 rfl (by kernel_rfl)) rfl ?_
        refine ⟨_, by rw [hm'.out], ?_, ?_⟩
        · rw [← hL1'.out]; exact own_set (own_set (own_set (own_set ho1'.out ap1 _ _) ap1 _ _) ap2 _ _) ap2 _ _
        · exact (((hk1'.out.setCell hbase (Nat.le_refl _) _).setCell hbase (Nat.le_refl _) _).setCell hbase (by simp) _).setCell hbase (by simp) _
      · obtain rfl : k = 48 := by omega
        have hrun : runB 48 = List.replicate 48 true := by unfold runB; rw [if_neg (by decide)]; simp
        have hrl : runLen 48 = 48 := by unfold runLen; rw [if_pos rfl]
        have hrun' := Go.Lib.hid hrun
        have hrl' := Go.Lib.hid hrl
        clear hx ho hkp hrun hrl hL
        obtain ⟨y0, y1, y2, y3⟩ := hy.cells
        clear hy
        go_wp2
        (try simp only [Exit.inBlock, Exit.then])
        have ap2 := hy'.out.apart ho'.out
        refine bodyPost_ret (results_cell_row (by rfl) _ _ (W.heap.size + 1) _ _ _ _ rfl (hy'.out.set _ _) Try.underlying28 rfl (by kernel_rfl)) rfl ?_
        refine ⟨_, by rw [hrl'.out]; rfl, by rw [hrun'.out, ← hL'.out]; exact own_set (own_set ho'.out ap2 _ _) ap2 _ _, (hkp'.out.setCell hbase (by simp) _).setCell hbase (by simp) _⟩
end Go.Proofs.Ytahefkjgcdchlaa
