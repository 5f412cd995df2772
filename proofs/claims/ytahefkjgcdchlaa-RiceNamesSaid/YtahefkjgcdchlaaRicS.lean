/- Contracts of the reference of rice: Add, Write. -/
import Derived.Test.YtahefkjgcdchlaaRicR
import Derived.Test.YtahefkjgcdchlaaRegX
namespace Go.Proofs.Ytahefkjgcdchlaa
open Go.RowKit Cad

theorem own_drew {w : World} {base e s n : Nat} {v : Value} {xs : List Value} (h : w.ownsRow base e s v n xs) : w.drew.ownsRow base e s v n xs := h

set_option maxHeartbeats 1600000 in
theorem RrAdd_ok (W : World) (base : Nat) (v : Value) (B : List Bool) (num k : Nat) (hown : W.ownsRow base 5 1 v ((B.length + 7) / 8) (nums .u8 (pack B))) (hbase : base ≤ W.heap.size) (hB : B.length ≤ 330000) (hv : num < 4294967296) (hk : k ≤ 24) :
    Calls Try.prog 38 #[.agg #[v, .int .i64 B.length], .int .u32 num, .int .i64 k] W fun e W' => ∃ v', e = .returned (.agg #[v', .int .i64 ((B.length + riceLen num k : Nat) : Int)]) ∧
      W'.ownsRow base 5 1 v' (((B ++ riceB num k).length + 7) / 8) (nums .u8 (pack (B ++ riceB num k))) ∧ Kept base W W' := by
  obtain ⟨av, cv, rfl⟩ := own_form hown
  obtain ⟨W0, hW0, hbE, hs0, hx0, hy0⟩ := two_boxes W (.slice av ((B.length + 7) / 8) cv) B.length
  have hk0 : Kept base W W0 := by rw [hW0]; exact ((Kept.refl base W).alloc hbase _).alloc hbase _
  have hown0 : W0.ownsRow base 5 1 (.slice av ((B.length + 7) / 8) cv) ((B.length + 7) / 8) (nums .u8 (pack B)) := own_below hown hbE (Nat.le_refl _)
  have hbase0 : base ≤ W0.heap.size := by omega
  obtain ⟨q, hq⟩ : ∃ q, q = partN num k := ⟨_, rfl⟩
  have hq48 : q ≤ 48 := by rw [hq]; exact partN_le num k
  have hpa := Go.Lib.hid fun w => RrPart_ok w num k hv hk
  rw [← hq] at hpa
  obtain ⟨L0, hL0⟩ : ∃ L0, L0 = (B.length + 7) / 8 := ⟨_, rfl⟩
  rw [← hL0] at hx0 hown0 hW0
  have hrl := runB_len hq48
  have hBl : (B ++ runB q).length = B.length + runLen q := by rw [List.length_append, hrl]
  obtain ⟨L1, hL1⟩ : ∃ L1, L1 = ((B ++ runB q).length + 7) / 8 := ⟨_, rfl⟩
  obtain ⟨N1, hN1⟩ : ∃ N1, N1 = B.length + runLen q := ⟨_, rfl⟩
  obtain ⟨L2, hL2⟩ : ∃ L2, L2 = ((B ++ riceB num k).length + 7) / 8 := ⟨_, rfl⟩
  obtain ⟨N2, hN2⟩ : ∃ N2, N2 = B.length + riceLen num k := ⟨_, rfl⟩
  have hlen := runLen_le hq48
  have had : Hid (∀ w, Below W0.heap.size W0 w → Calls Try.prog 47 #[.agg #[.slice av L0 cv, .int .i64 B.length], .int .i64 q] w fun e W' => ∃ v', e = .returned (.agg #[v', .int .i64 (N1 : Nat)]) ∧
      W'.ownsRow base 5 1 v' L1 (nums .u8 (pack (B ++ runB q))) ∧ Kept base w W') := Go.Lib.hid fun w hw => by
    have := RuAdd_ok w base (.slice av L0 cv) B q (by rw [← hL0]; exact own_below hown0 hw (Nat.le_refl _)) (Nat.le_trans hbase0 hw.size) hB hq48
    rw [← hL1, ← hN1] at this
    exact this
  have hnu : Hid (∀ w (z n : Nat) v', w.ownsRow base 5 1 v' L1 (nums .u8 (pack (B ++ runB q))) → base ≤ w.heap.size → B ++ runB q ++ numB z n = B ++ riceB num k → n ≤ 64 → z ≤ 18446744073709551615 → N1 + n = N2 → Calls Try.prog 48 #[.agg #[v', .int .i64 N1], .int .u64 z, .int .i64 n] w fun e W' => ∃ v', e = .returned (.agg #[v', .int .i64 (N2 : Nat)]) ∧
      W'.ownsRow base 5 1 v' L2 (nums .u8 (pack (B ++ riceB num k))) ∧ Kept base w W') := Go.Lib.hid fun w z n v' ho hb he hn hz hN => by
    have := RNumber_ok w base v' (B ++ runB q) z n (by rw [← hL1]; exact ho) hb (by rw [hBl]; omega) hn hz
    rw [he, hBl, ← hN1, hN, ← hL2] at this
    exact this
  have hx0' := Go.Lib.hid hx0
  have hy0' := Go.Lib.hid hy0
  have hk0' := Go.Lib.hid hk0
  have hrb : riceB num k = runB q ++ numB (lowV num k) (lowN q k) := by rw [hq]; rfl
  have hrn : riceLen num k = runLen q + lowN q k := by rw [hq]; rfl
  have hlv : lowV num k = num % 2 ^ lowN q k := by rw [hq]; rfl
  rw [← hL0, ← hL2, ← hN2]
  by_cases h48 : q = 48
  · subst h48
    have el : lowN 48 k = 32 := rfl
    have ev : lowV num k = num := by rw [hlv, el]; exact Nat.mod_eq_of_lt hv
    rw [el, ev] at hrb
    have hc := Go.Lib.hid fun w v' ho hb => hnu.out w num 32 v' ho hb (by rw [hrb, List.append_assoc]) (by omega) (by omega) (by rw [hN1, hN2, hrn, el]; omega)
    clear hx0 hy0 hk0 hown hbE hrl hBl hL1 hN1 hL2 hN2 hrb hrn hlv ev hq hL0 hnu hown0
    go_enter Try.func38, Try.ntmps38
    go_wp2_with (first
      | (go_at_call 46; rw [← hW0]; clear hW0; refine (hpa.out _).mono ?_; rintro e w1 ⟨rfl, rfl⟩; obtain ⟨x0, x1, x2, x3⟩ := hx0'.out.cells)
      | (go_at_call 47; refine (had.out _ (Below.refl _ _)).mono ?_; rintro e w2 ⟨v2, rfl, ho2, hk2⟩; obtain ⟨a2, c2, rfl⟩ := own_form ho2; have hx2 := hx0'.out.kept hk2; have hy2 := hy0'.out.kept hk2; have hx2' := Go.Lib.hid hx2; obtain ⟨x20, x21, x22, x23⟩ := hx2.cells; have hx3 := Go.Lib.hid (hx2.set (.slice a2 L1 c2) N1); obtain ⟨x30, x31, x32, x33⟩ := hx3.out.cells; have hy3 := Go.Lib.hid ((hy2.other (p := ⟨W.heap.size, 0, none⟩) (by simp) (.slice a2 L1 c2)).other (p := ⟨W.heap.size, 1, none⟩) (by simp) (.int .i64 N1)); have ho3 := Go.Lib.hid (own_set (own_set ho2 (hx2.apart ho2) 0 (.slice a2 L1 c2)) (hx2.apart ho2) 1 (.int .i64 N1)); have hk3 := Go.Lib.hid (((hk0'.out.trans hk2).setCell (p := ⟨W.heap.size, 0, none⟩) hbase (Nat.le_refl _) (.slice a2 L1 c2)).setCell (p := ⟨W.heap.size, 1, none⟩) hbase (Nat.le_refl _) (.int .i64 N1)); clear ho2 hk2 hx2 hy2)
      | (go_at_call 48; refine (hc.out _ _ ho3.out (Nat.le_trans hbase hk3.out.bel.size)).mono ?_; rintro e w4 ⟨v4, rfl, ho4, hk4⟩; obtain ⟨a4, c4, rfl⟩ := own_form ho4; have hy4 := Go.Lib.hid (hy3.out.kept hk4); obtain ⟨y0, y1, y2, y3⟩ := hy4.out.cells; have ho4' := Go.Lib.hid ho4; have hk4' := Go.Lib.hid (hk3.out.trans hk4); clear ho4 hk4))
    (try simp only [Exit.inBlock, Exit.then])
    have ap := hy4.out.apart ho4'.out
    refine bodyPost_ret (results_cell_row (by rfl) _ _ (W.heap.size + 1) _ _ _ _ rfl (hy4.out.set _ _) Try.underlying28 rfl (by kernel_rfl)) rfl ?_
    refine ⟨_, rfl, own_set (own_set ho4'.out ap _ _) ap _ _, (hk4'.out.setCell hbase (by simp) _).setCell hbase (by simp) _⟩
  · have el : lowN q k = k := if_pos (by omega)
    rw [el] at hrb hrn hlv
    have hlt : lowV num k ≤ 18446744073709551615 := by rw [hlv]; have := Nat.mod_le num (2 ^ k); omega
    have hc := Go.Lib.hid fun w v' ho hb => hnu.out w (lowV num k) k v' ho hb (by rw [hrb, List.append_assoc]) (by omega) hlt (by rw [hN1, hN2, hrn]; omega)
    have hpw := Go.Lib.hid fun w => RrPower_ok w k hk
    have hpb := pow24 hk
    obtain ⟨p, hp⟩ : ∃ p, p = 2 ^ k := ⟨_, rfl⟩
    rw [← hp] at hpw hpb hlv
    obtain ⟨low, hlow⟩ : ∃ low, low = lowV num k := ⟨_, rfl⟩
    rw [← hlow] at hc hlv hlt
    have e1 : (num : Int) % (p : Int) = (low : Int) := by rw [hlv]; simp
    have hp0 : ¬ (p : Int) = 0 := by omega
    have hp1 : ((p : Int) == 0) = false := by simpa using hp0
    have hq48' : ¬ (q : Int) = 48 := by omega
    clear hx0 hy0 hk0 hown hbE hrl hBl hL1 hN1 hL2 hN2 hrb hrn hlv hq hL0 hnu hown0 hlow hp h48
    go_enter Try.func38, Try.ntmps38
    go_wp2_with (first
      | (go_at_call 46; rw [← hW0]; clear hW0; refine (hpa.out _).mono ?_; rintro e w1 ⟨rfl, rfl⟩; obtain ⟨x0, x1, x2, x3⟩ := hx0'.out.cells)
      | (go_at_call 47; refine (had.out _ (Below.refl _ _)).mono ?_; rintro e w2 ⟨v2, rfl, ho2, hk2⟩; obtain ⟨a2, c2, rfl⟩ := own_form ho2; have hx2 := hx0'.out.kept hk2; have hy2 := hy0'.out.kept hk2; have hx2' := Go.Lib.hid hx2; obtain ⟨x20, x21, x22, x23⟩ := hx2.cells; have hx3 := Go.Lib.hid (hx2.set (.slice a2 L1 c2) N1); obtain ⟨x30, x31, x32, x33⟩ := hx3.out.cells; have hy3 := Go.Lib.hid ((hy2.other (p := ⟨W.heap.size, 0, none⟩) (by simp) (.slice a2 L1 c2)).other (p := ⟨W.heap.size, 1, none⟩) (by simp) (.int .i64 N1)); have ho3 := Go.Lib.hid (own_set (own_set ho2 (hx2.apart ho2) 0 (.slice a2 L1 c2)) (hx2.apart ho2) 1 (.int .i64 N1)); have hk3 := Go.Lib.hid (((hk0'.out.trans hk2).setCell (p := ⟨W.heap.size, 0, none⟩) hbase (Nat.le_refl _) (.slice a2 L1 c2)).setCell (p := ⟨W.heap.size, 1, none⟩) hbase (Nat.le_refl _) (.int .i64 N1)); clear ho2 hk2 hx2 hy2))
    refine wp_region_ord (fun w' => BoxAt w' W.heap.size (.slice a2 L1 c2) N1) [(0, 2), (1, 0), (2, 0), (3, 0), (6, 0), (4, 3), (5, 0), (7, 3), (8, 3)] (by kernel_rfl) (by kernel_rfl) ?hC0 ?_
    case hC0 => exact hx3.out.drew
    simp only [pick, nth]
    (repeat (first | (apply wpW_light; (case h => (intro wa; (first | (go_big_quiet_skip; exact wpQuiet_nil rfl) | (go_big_quiet_want; go_big_quiet_op; go_big_quiet_on; exact wpQuiet_nil rfl))))) | (apply wpW_here; (case h => (first | (go_big_quiet_skip; exact wpQuiet_nil rfl) | (go_big_quiet_want; go_big_quiet_op; go_big_quiet_on; exact wpQuiet_nil rfl)))) | (apply wpW_held; (case hC => assumption); (case h => (intro wa hCa; obtain ⟨u0, u1, u2, u3⟩ := hCa.cells; (first | (go_big_quiet_skip; exact wpQuiet_nil rfl) | (go_big_quiet_want; go_big_quiet_op; go_big_quiet_on; exact wpQuiet_nil rfl)))))))
    refine wpW_act (fun QQ hQQ => ?_) (by rfl)
    go_wp2_with (go_at_call 49; refine (hpw.out _).mono ?_; rintro e w5 ⟨rfl, rfl⟩)
    (refine hQQ _ _ ?hCn ?_; (case hCn => exact hx3.out.drew); clear hQQ QQ)
    (repeat (first | (apply wpW_light; (case h => (intro wa; (first | (go_big_quiet_skip; exact wpQuiet_nil rfl) | (go_big_quiet_want; go_big_quiet_op; go_big_quiet_on; exact wpQuiet_nil rfl))))) | (apply wpW_here; (case h => (first | (go_big_quiet_skip; exact wpQuiet_nil rfl) | (go_big_quiet_want; go_big_quiet_op; go_big_quiet_on; exact wpQuiet_nil rfl)))) | (apply wpW_held; (case hC => assumption); (case h => (intro wa hCa; obtain ⟨u0, u1, u2, u3⟩ := hCa.cells; (first | (go_big_quiet_skip; exact wpQuiet_nil rfl) | (go_big_quiet_want; go_big_quiet_op; go_big_quiet_on; exact wpQuiet_nil rfl)))))))
    refine wpW_act (fun QQ hQQ => ?_) (by rfl)
    go_wp2_with (go_at_call 48; refine (hc.out _ _ (own_drew ho3.out) (Nat.le_trans hbase hk3.out.drew.bel.size)).mono ?_; rintro e w4 ⟨v4, rfl, ho4, hk4⟩; obtain ⟨a4, c4, rfl⟩ := own_form ho4; have hx4 := Go.Lib.hid (hx3.out.drew.kept hk4); have hy4 := Go.Lib.hid (hy3.out.drew.kept hk4); obtain ⟨y0, y1, y2, y3⟩ := hy4.out.cells; have ho4' := Go.Lib.hid ho4; have hk4' := Go.Lib.hid (hk3.out.drew.trans hk4); clear ho4 hk4)
    (refine hQQ _ _ ?hCn ?_; (case hCn => exact hx4.out); clear hQQ QQ)
    (repeat (first | (apply wpW_light; (case h => (intro wa; (first | (go_big_quiet_skip; exact wpQuiet_nil rfl) | (go_big_quiet_want; go_big_quiet_op; go_big_quiet_on; exact wpQuiet_nil rfl))))) | (apply wpW_here; (case h => (first | (go_big_quiet_skip; exact wpQuiet_nil rfl) | (go_big_quiet_want; go_big_quiet_op; go_big_quiet_on; exact wpQuiet_nil rfl)))) | (apply wpW_held; (case hC => assumption); (case h => (intro wa hCa; simp only [] at hCa; (first | (go_big_quiet_skip; exact wpQuiet_nil rfl) | (go_big_quiet_want; go_big_quiet_op; go_big_quiet_on; exact wpQuiet_nil rfl)))))))
    refine wpW_act (fun QQ hQQ => ?_) (by rfl)
    go_wp2
    (refine hQQ _ _ ?hCn ?_; (case hCn => exact (hx4.out.other (by simp) _).other (by simp) _); clear hQQ QQ)
    (repeat (first | (apply wpW_light; (case h => (intro wa; (first | (go_big_quiet_skip; exact wpQuiet_nil rfl) | (go_big_quiet_want; go_big_quiet_op; go_big_quiet_on; exact wpQuiet_nil rfl))))) | (apply wpW_here; (case h => (first | (go_big_quiet_skip; exact wpQuiet_nil rfl) | (go_big_quiet_want; go_big_quiet_op; go_big_quiet_on; exact wpQuiet_nil rfl)))) | (apply wpW_held; (case hC => assumption); (case h => (intro wa hCa; simp only [] at hCa; (first | (go_big_quiet_skip; exact wpQuiet_nil rfl) | (go_big_quiet_want; go_big_quiet_op; go_big_quiet_on; exact wpQuiet_nil rfl)))))))
    refine wpW_nil ?_
    go_wp2
    (try simp only [Exit.inBlock, Exit.then])
    have ap := hy4.out.apart ho4'.out
    refine bodyPost_ret (results_cell_row (by rfl) _ _ (W.heap.size + 1) _ _ _ _ rfl (hy4.out.set _ _) Try.underlying28 rfl (by kernel_rfl)) rfl ?_
    refine ⟨_, rfl, own_set (own_set ho4'.out ap _ _) ap _ _, (hk4'.out.setCell hbase (by simp) _).setCell hbase (by simp) _⟩
end Go.Proofs.Ytahefkjgcdchlaa
