/- TopBits: numbers, bits, sums, folding and runs agree. -/
import Derived.Test.YtbegifpnbbpinaaZ6

namespace Go.Proofs.Ytbegifpnbbpinaa
open Go.RowKit Cad CadL CadF

theorem alive06_ok (W : World) : Calls Try.prog 26 #[] W fun e W' => e = .returned (.bool true) ∧ Below W.heap.size W W' := by
  have cf : Hid (∀ w, Calls Try.prog 27 #[.int .i32 (-3)] w fun e W' => e = .returned (.int .u32 5) ∧ w = W') := Go.Lib.hid fun w => FFold_ok (-3) w (by decide)
  have ck : Hid (∀ w, Calls Try.prog 35 #[.int .u32 5] w fun e W' => e = .returned (.int .i32 (-3)) ∧ w = W') := Go.Lib.hid fun w => FBack_ok 5 w (by decide)
  have cw := Go.Lib.hid (fun w => UWrite_alone w 5 (by decide) 6 1 5 6 rfl rfl rfl rfl [31] rfl)
  have cr : Hid (∀ w b c, Row .u8 w b 1 c [31] → Calls Try.prog 12 #[.agg #[.slice b 1 c, .int .i64 6], .int .i64 0] w fun e W' => e = .returned (.tuple #[.int .i64 5, .int .i64 6, .int .i64 0]) ∧ Below w.heap.size w W') := Go.Lib.hid fun w b c h =>
    URead_le w b 1 c (runB 5) 0 h (by decide) (by decide) 5 6 0 (by decide)
  go_enter Try.func26, Try.ntmps26
  go_wp2_with (first
    | (go_at_call 27; with_reducible refine (cf.out _).mono ?_; rintro e w0 ⟨rfl, rfl⟩)
    | (go_at_call 35; with_reducible refine (ck.out _).mono ?_; rintro e w0 ⟨rfl, rfl⟩)
    | (go_at_call 11; with_reducible refine (cw.out _).mono ?_; rintro e w1 ⟨b1, cp1, rfl, hr1, hb1⟩; have g1 := Go.Lib.hid hb1; have r1 := Go.Lib.hid (hr1.below (below1 w1 (.cells #[.slice b1 1 cp1, .int .i64 6] 27)) (Nat.le_refl _)); clear hb1 hr1)
    | (go_at_call 12; with_reducible refine (cr.out _ _ _ ?h1).mono ?_; (case h1 => exact r1.out); rintro e w2 ⟨rfl, hb2⟩; have g2 := Go.Lib.hid ((g1.out.alloc g1.out.size _).trans (hb2.mono (g1.out.alloc g1.out.size _).size)); clear hb2))
  go_ret
  exact ⟨rfl, g2.out⟩

set_option maxRecDepth 100000 in
theorem topBits_out (W : World) (a : Option Addr) (len cap : Nat) (hl : len ≤ 9223372036854775807) (h : 40 < len) :
    Calls Try.prog 9 #[.slice a len cap] W fun e w' => e = .returned (.bool true) ∧ Below W.heap.size W w' := by
  have h' : (40 : Int) < len := by omega
  go_enter Try.func9, Try.ntmps9
  go_wp2_with (go_at_call 26; refine (alive06_ok _).mono ?_; rintro e w1 ⟨rfl, hb1⟩)
  go_ret
  exact ⟨rfl, hb1⟩

theorem u32_min (u : Nat) : min u 48 ≤ 48 := Nat.min_le_right _ _

set_option maxRecDepth 100000 in
set_option maxHeartbeats 8000000 in
theorem topBits_in (W : World) (a : Option Addr) (n cap : Nat) (l : List Int) (hr : Row .i32 W a n cap l) (h40 : n ≤ 40) (U V : List Nat) (hU : ∀ k, k < n → zig (l.getD k 0) = ((U.getD k 0 : Nat) : Int)) (lU : U.length = n) (hV : V = U.map fun u => min u 48) :
    Calls Try.prog 9 #[.slice a n cap] W fun e w' => e = .returned (.bool true) ∧ Below W.heap.size W w' := by
  have hln := Go.Lib.hid hr.hlen
  have hr' := Go.Lib.hid hr
  have hlU := Go.Lib.hid lU
  have lV : V.length = n := by rw [hV, List.length_map, lU]
  have hlV := Go.Lib.hid lV
  have hx32 : Hid (∀ k, k < n → -2147483648 ≤ l.getD k 0 ∧ l.getD k 0 ≤ 2147483647) := Go.Lib.hid fun k hk => i32_bd (hr.wf _ (getD_mem (by rw [hr.hlen]; exact hk)))
  have hu32 : Hid (∀ k, k < n → U.getD k 0 < 4294967296) := Go.Lib.hid fun k hk => by
    have h1 := zig_bd (hx32.out k hk)
    rw [hU k hk] at h1
    omega
  have hUh := Go.Lib.hid hU
  have hVh : Hid (∀ k, k < n → V.getD k 0 = min (U.getD k 0) 48) := Go.Lib.hid fun k hk => by rw [hV, getD_mapN _ _ (by rw [lU]; exact hk)]
  have hV48 : Hid (∀ x ∈ V, x ≤ 48) := Go.Lib.hid fun x hx => by
    rw [hV, List.mem_map] at hx
    obtain ⟨y, _, rfl⟩ := hx
    exact Nat.min_le_right _ _
  have hrsz : Hid (∀ k, k ≤ n → (runs (V.take k)).length ≤ 1920) := Go.Lib.hid fun k hk => by
    have := runs_len_le (V.take k) (fun x hx => hV48.out x (List.mem_of_mem_take hx))
    rw [List.length_take] at this
    have : min k V.length ≤ 40 := by omega
    omega
  have hn40 : ¬ (40 : Int) < n := by omega
  have hn40' : (n : Int) ≤ 40 := by omega
  clear hr hU lU hV lV
  go_enter Try.func9, Try.ntmps9
  go_wp2_with (go_at_call 26; refine (alive06_ok _).mono ?_; rintro e w1 ⟨rfl, hb1⟩; have g1 := Go.Lib.hid hb1; clear hb1)
  have hbw0 : BoxAt ((w1.alloc (.cells #[.slice none 0 0, .int .i64 0] 27)).alloc (.cells #[.slice none 0 0, .int .i64 0] 27)) w1.heap.size (.slice none 0 0) 0 := (box1 w1 _ _).alloc _
  have hbr0 : BoxAt ((w1.alloc (.cells #[.slice none 0 0, .int .i64 0] 27)).alloc (.cells #[.slice none 0 0, .int .i64 0] 27)) (w1.heap.size + 1) (.slice none 0 0) 0 := by
    have := box1 (w1.alloc (.cells #[.slice none 0 0, .int .i64 0] 27)) (.slice none 0 0) 0
    simpa using this
  have g2 : Below W.heap.size W ((w1.alloc (.cells #[.slice none 0 0, .int .i64 0] 27)).alloc (.cells #[.slice none 0 0, .int .i64 0] 27)) := (g1.out.alloc g1.out.size _).alloc (Nat.le_trans g1.out.size (by simp)) _
  have hWx : W.heap.size ≤ w1.heap.size := g1.out.size
  obtain ⟨w2, hw2⟩ : ∃ w2, w2 = (w1.alloc (.cells #[.slice none 0 0, .int .i64 0] 27)).alloc (.cells #[.slice none 0 0, .int .i64 0] 27) := ⟨_, rfl⟩
  obtain ⟨xw, hxw⟩ : ∃ xw, xw = w1.heap.size := ⟨_, rfl⟩
  rw [← hw2, ← hxw] at hbw0 hbr0
  rw [← hw2] at g2
  rw [← hxw] at hWx
  try rw [← hw2]
  try rw [← hxw]
  have hbw0' := Go.Lib.hid hbw0
  have hbr0' := Go.Lib.hid hbr0
  have g2' := Go.Lib.hid g2
  clear hw2 hxw hbw0 hbr0 g2 g1
  go_loopw [6, 7, 8] (fun st lg i wr => ∃ (k : Nat) (aw : Option Addr) (cw : Nat) (ar : Option Addr) (cr Lw Mw Lr Mr : Nat), k ≤ n ∧ i = .int .i64 k ∧ st = .int .u32 (crcB 4294967295 (wideL (U.take k)) : Nat) ∧ lg = .int .u64 (csfB 0 (wideL (U.take k)) : Nat) ∧
    Lw = 4 * k ∧ Mw = 32 * k ∧ Mr = (runs (V.take k)).length ∧ Lr = (Mr + 7) / 8 ∧ BoxAt wr xw (.slice aw Lw cw) Mw ∧ Row .u8 wr aw Lw cw (wideL (U.take k)) ∧ BoxAt wr (xw + 1) (.slice ar Lr cr) Mr ∧ Row .u8 wr ar Lr cr (pack (runs (V.take k))) ∧ Below W.heap.size W wr) (fun _ _ i _ => n - (intOf i).toNat)
  case atStart => exact ⟨0, none, 0, none, 0, 0, 0, 0, 0, Nat.zero_le _, rfl, rfl, rfl, rfl, rfl, rfl, rfl, hbw0'.out, Row.nil_row _ _, hbr0'.out, (by rw [show V.take 0 = [] from rfl, show pack (runs []) = [] from rfl]; exact Row.nil_row _ _), g2'.out⟩
  case round =>
    obtain ⟨k, aw, cw, ar, cr, Lw, Mw, Lr, Mr, hk, rfl, rfl, rfl, hLw, hMw, hMr, hLr, hbw, hrw, hbr, hrr, hbl⟩ := hrel
    obtain ⟨e0, e1, e2, e3⟩ := hbw.cells
    obtain ⟨x0, x1, x2, x3⟩ := hbr.cells
    have B20_w := Go.Lib.hid hbw
    have B20_r := Go.Lib.hid hbr
    have R20_w := Go.Lib.hid hrw
    have R20_r := Go.Lib.hid hrr
    have hW20 := Go.Lib.hid hbl
    have hrszk := hrsz.out k hk
    by_cases hlt : k < n
    · obtain ⟨bl, ol, rfl, hblt, hc⟩ := (hr'.out.below hbl (Nat.le_refl _)).cells (by omega)
      have hcell := hc k hlt
      have hxb := hx32.out k hlt
      have hub := hu32.out k hlt
      have hzu := hUh.out k hlt
      have hvu := hVh.out k hlt
      have hts := take_snocN U (show k < U.length by rw [hlU.out]; exact hlt)
      have hrs := runs_take_succ V (show k < V.length by rw [hlV.out]; exact hlt)
      obtain ⟨x, hx⟩ : ∃ x, x = l.getD k 0 := ⟨_, rfl⟩
      obtain ⟨u, hu⟩ : ∃ u, u = U.getD k 0 := ⟨_, rfl⟩
      obtain ⟨v, hv⟩ : ∃ v, v = V.getD k 0 := ⟨_, rfl⟩
      rw [← hx] at hcell hxb hzu
      rw [← hu] at hub hzu hvu hts
      rw [← hv] at hvu hrs
      have hv48 : v ≤ 48 := by omega
      obtain ⟨A, hA⟩ : ∃ A, A = runLen v := ⟨_, rfl⟩
      have hA48 : A ≤ 48 := by rw [hA]; exact runLen_le hv48
      obtain ⟨Lw1, hLw1⟩ : ∃ q, q = Lw + 4 := ⟨_, rfl⟩
      obtain ⟨Mw1, hMw1⟩ : ∃ q, q = Mw + 32 := ⟨_, rfl⟩
      obtain ⟨Mr1, hMr1⟩ : ∃ q, q = Mr + A := ⟨_, rfl⟩
      obtain ⟨Lr1, hLr1⟩ : ∃ q, q = (Mr1 + 7) / 8 := ⟨_, rfl⟩
      obtain ⟨s, hs⟩ : ∃ s, s = crcB 4294967295 (wideL (U.take k)) := ⟨_, rfl⟩
      obtain ⟨t, ht⟩ : ∃ t, t = csfB 0 (wideL (U.take k)) := ⟨_, rfl⟩
      have hsb : s < 4294967296 := by rw [hs]; exact crcB_lt _ (by decide)
      have htb : t < 18446744073709551616 := by rw [ht]; exact csfB_lt _ (by decide)
      obtain ⟨s1, hs1⟩ : ∃ s1, s1 = crcB s (leB (u : Int) 4) := ⟨_, rfl⟩
      obtain ⟨t1, ht1⟩ : ∃ t1, t1 = csfB t (leB (u : Int) 4) := ⟨_, rfl⟩
      have kf : Hid (∀ w, Calls Try.prog 27 #[.int .i32 x] w fun e W' => e = .returned (.int .u32 u) ∧ w = W') := Go.Lib.hid fun w => by
        rw [← hzu]; exact FFold_ok x w hxb
      have hwk : (wideB (U.take k)).length = Mw := by rw [wideB_len, List.length_take, hlU.out]; omega
      have cp : Hid (∀ w, Row .u8 w aw Lw cw (wideL (U.take k)) → Calls Try.prog 13 #[.agg #[.slice aw Lw cw, .int .i64 Mw], .int .u64 u, .int .i64 32] w fun e W' => ∃ b c, e = .returned (.tuple #[.agg #[.slice b Lw1 c, .int .i64 Mw1], .int .i64 0]) ∧ Row .u8 W' b Lw1 c (wideL (U.take (k + 1))) ∧ Below w.heap.size w W') := Go.Lib.hid fun w h => by
        rw [← wide_pack] at h
        have := BPut_ok w aw Lw cw (wideB (U.take k)) u 32 h (by omega) (by decide) (by omega)
        rw [← wideB_snoc, ← hts, wide_pack, hwk, ← hMw1, show (Mw1 + 7) / 8 = Lw1 by omega] at this
        exact this
      have cb : Hid (∀ w, Calls Try.prog 28 #[.int .u64 u, .int .i64 4] w fun e W' => ∃ b c, e = .returned (.tuple #[.slice b 4 c, .int .i64 0]) ∧ Row .u8 W' b 4 c (leB (u : Int) 4) ∧ Below w.heap.size w W') := Go.Lib.hid fun w => by
        have := Bytes_ok (u : Int) 4 w (by decide) (by decide) (by omega) (by show (u : Int) ≤ 4294967295; omega)
        exact this.mono fun e w' ⟨h1, h2, h3⟩ => ⟨_, _, h1, Row.of_own h2 (u8_wf (leB_wf _ _)), h3⟩
      have cn : Hid (∀ w b c, Row .u8 w b 4 c (leB (u : Int) 4) → Calls Try.prog 29 #[.int .u32 s, .slice b 4 c] w fun e W' => e = .returned (.tuple #[.int .u32 s1, .int .i64 0]) ∧ Below w.heap.size w W') := Go.Lib.hid fun w b c h => by
        rw [hs1]; exact CNext_ok w s b 4 c _ h hsb (by decide)
      have c6 : Hid (∀ w b c, Row .u8 w b 4 c (leB (u : Int) 4) → Calls Try.prog 30 #[.int .u64 t, .slice b 4 c] w fun e W' => e = .returned (.tuple #[.int .u64 t1, .int .i64 0]) ∧ Below w.heap.size w W') := Go.Lib.hid fun w b c h => by
        rw [ht1]; exact SNext_ok w t b 4 c _ h htb (by decide)
      have uw : Hid (∀ w, Row .u8 w ar Lr cr (pack (runs (V.take k))) → Calls Try.prog 11 #[.agg #[.slice ar Lr cr, .int .i64 Mr], .int .i64 v] w fun e W' => ∃ b c, e = .returned (.tuple #[.agg #[.slice b Lr1 c, .int .i64 Mr1], .int .i64 0]) ∧ Row .u8 W' b Lr1 c (pack (runs (V.take (k + 1)))) ∧ Below w.heap.size w W') := Go.Lib.hid fun w h => by
        have := UWrite_ok w ar Lr cr (runs (V.take k)) v h (by omega) hv48
        rw [← hrs, ← hMr, ← hA, ← hMr1, ← hLr1] at this
        exact this
      have f1 : Hid (s1 = crcB 4294967295 (wideL (U.take (k + 1)))) := Go.Lib.hid (by rw [hts, wideL_snoc, crcB_app, ← hs, hs1])
      have f2 : Hid (t1 = csfB 0 (wideL (U.take (k + 1)))) := Go.Lib.hid (by rw [hts, wideL_snoc, csfB_app, ← ht, ht1])
      have f3 : Hid (Mr1 = (runs (V.take (k + 1))).length) := Go.Lib.hid (by rw [hrs, List.length_append, runB_len hv48, ← hMr, ← hA, hMr1])
      have f4 : Hid (Lw1 = 4 * (k + 1) ∧ Mw1 = 32 * (k + 1) ∧ Lr1 = (Mr1 + 7) / 8) := Go.Lib.hid ⟨by omega, by omega, hLr1⟩
      have m1 : (if 48 < u then (48 : Int) else (u : Int)) = (v : Int) := by split <;> omega
      have m2 : (if (48 : Int) < (u : Int) then (48 : Int) else (u : Int)) = (v : Int) := by split <;> omega
      have hub' : (u : Int) < 4294967296 := by omega
      have hv48' : (v : Int) ≤ 48 := by omega
      have hlt' : (k : Int) < n := by omega
      rw [← hs, ← ht]
      clear hc hx hu hv hA hLw1 hMw1 hMr1 hLr1 hs ht hs1 ht1 hts hrs hzu hvu hLw hMw hMr hLr hbw hrw hbr hrr hbl hwk hrszk hxb
      go_wp2_with (first
        | (go_at_call 27; ((with_reducible refine (kf.out _).mono ?_)); rintro e wz ⟨rfl, rfl⟩)
        | (go_at_call 13; ((with_reducible refine (cp.out _ ?h1).mono ?_)); (case h1 => exact R20_w.out); rintro e w21 ⟨b21, cp21, rfl, hr21, hb21⟩; have hWE21 := Go.Lib.hid hW20.out; have hW21 := Go.Lib.hid (hWE21.out.trans (hb21.mono hWE21.out.size)); have R21_w := Go.Lib.hid (R20_w.out.below hb21 (Nat.le_refl _)); have R21_r := Go.Lib.hid (R20_r.out.below hb21 (Nat.le_refl _)); have R21_x := Go.Lib.hid hr21; clear hr21; have BE21_w := Go.Lib.hid B20_w.out; have B21_w := Go.Lib.hid (BE21_w.out.below hb21 BE21_w.out.lt); obtain ⟨k21w0, k21w1, k21w2, k21w3⟩ := B21_w.out.cells; have BE21_r := Go.Lib.hid B20_r.out; have B21_r := Go.Lib.hid (BE21_r.out.below hb21 BE21_r.out.lt); obtain ⟨k21r0, k21r1, k21r2, k21r3⟩ := B21_r.out.cells; have l21w := B21_w.out.lt; have n21w : xw ≠ w21.heap.size := (by omega); have l21r := B21_r.out.lt; have n21r : xw + 1 ≠ w21.heap.size := (by omega); clear hb21)
        | (go_at_call 28; ((with_reducible refine (cb.out _).mono ?_)); rintro e w22 ⟨b22, cp22, rfl, hr22, hb22⟩; have hWE22 := Go.Lib.hid (hW21.out.alloc hW21.out.size (.cells #[(.slice b21 Lw1 cp21), .int .i64 Mw1] 27)); have hW22 := Go.Lib.hid (hWE22.out.trans (hb22.mono hWE22.out.size)); have R22_w := Go.Lib.hid ((R21_w.out.below (below1 w21 (.cells #[(.slice b21 Lw1 cp21), .int .i64 Mw1] 27)) (Nat.le_refl _)).below hb22 (Nat.le_refl _)); have R22_r := Go.Lib.hid ((R21_r.out.below (below1 w21 (.cells #[(.slice b21 Lw1 cp21), .int .i64 Mw1] 27)) (Nat.le_refl _)).below hb22 (Nat.le_refl _)); have R22_x := Go.Lib.hid ((R21_x.out.below (below1 w21 (.cells #[(.slice b21 Lw1 cp21), .int .i64 Mw1] 27)) (Nat.le_refl _)).below hb22 (Nat.le_refl _)); have R22_p := Go.Lib.hid hr22; clear hr22; have BE22_w := Go.Lib.hid (B21_w.out.alloc (.cells #[(.slice b21 Lw1 cp21), .int .i64 Mw1] 27)); have B22_w := Go.Lib.hid (BE22_w.out.below hb22 BE22_w.out.lt); obtain ⟨k22w0, k22w1, k22w2, k22w3⟩ := B22_w.out.cells; have BE22_r := Go.Lib.hid (B21_r.out.alloc (.cells #[(.slice b21 Lw1 cp21), .int .i64 Mw1] 27)); have B22_r := Go.Lib.hid (BE22_r.out.below hb22 BE22_r.out.lt); obtain ⟨k22r0, k22r1, k22r2, k22r3⟩ := B22_r.out.cells; have BE22_x := Go.Lib.hid (box1 w21 (.slice b21 Lw1 cp21) Mw1); have B22_x := Go.Lib.hid (BE22_x.out.below hb22 BE22_x.out.lt); obtain ⟨k22x0, k22x1, k22x2, k22x3⟩ := B22_x.out.cells; clear hb22)
        | (go_at_call 29; ((with_reducible refine (cn.out _ _ _ ?h1).mono ?_)); (case h1 => exact R22_p.out); rintro e w23 ⟨rfl, hb23⟩; have hWE23 := Go.Lib.hid hW22.out; have hW23 := Go.Lib.hid (hWE23.out.trans (hb23.mono hWE23.out.size)); have R23_w := Go.Lib.hid (R22_w.out.below hb23 (Nat.le_refl _)); have R23_r := Go.Lib.hid (R22_r.out.below hb23 (Nat.le_refl _)); have R23_x := Go.Lib.hid (R22_x.out.below hb23 (Nat.le_refl _)); have R23_p := Go.Lib.hid (R22_p.out.below hb23 (Nat.le_refl _)); have BE23_w := Go.Lib.hid B22_w.out; have B23_w := Go.Lib.hid (BE23_w.out.below hb23 BE23_w.out.lt); obtain ⟨k23w0, k23w1, k23w2, k23w3⟩ := B23_w.out.cells; have BE23_r := Go.Lib.hid B22_r.out; have B23_r := Go.Lib.hid (BE23_r.out.below hb23 BE23_r.out.lt); obtain ⟨k23r0, k23r1, k23r2, k23r3⟩ := B23_r.out.cells; have BE23_x := Go.Lib.hid B22_x.out; have B23_x := Go.Lib.hid (BE23_x.out.below hb23 BE23_x.out.lt); obtain ⟨k23x0, k23x1, k23x2, k23x3⟩ := B23_x.out.cells; clear hb23)
        | (go_at_call 30; ((with_reducible refine (c6.out _ _ _ ?h1).mono ?_)); (case h1 => exact R23_p.out); rintro e w24 ⟨rfl, hb24⟩; have hWE24 := Go.Lib.hid hW23.out; have hW24 := Go.Lib.hid (hWE24.out.trans (hb24.mono hWE24.out.size)); have R24_w := Go.Lib.hid (R23_w.out.below hb24 (Nat.le_refl _)); have R24_r := Go.Lib.hid (R23_r.out.below hb24 (Nat.le_refl _)); have R24_x := Go.Lib.hid (R23_x.out.below hb24 (Nat.le_refl _)); have R24_p := Go.Lib.hid (R23_p.out.below hb24 (Nat.le_refl _)); have BE24_w := Go.Lib.hid B23_w.out; have B24_w := Go.Lib.hid (BE24_w.out.below hb24 BE24_w.out.lt); obtain ⟨k24w0, k24w1, k24w2, k24w3⟩ := B24_w.out.cells; have BE24_r := Go.Lib.hid B23_r.out; have B24_r := Go.Lib.hid (BE24_r.out.below hb24 BE24_r.out.lt); obtain ⟨k24r0, k24r1, k24r2, k24r3⟩ := B24_r.out.cells; have BE24_x := Go.Lib.hid B23_x.out; have B24_x := Go.Lib.hid (BE24_x.out.below hb24 BE24_x.out.lt); obtain ⟨k24x0, k24x1, k24x2, k24x3⟩ := B24_x.out.cells; clear hb24)
        | (go_at_call 11; ((with_reducible refine (uw.out _ ?h1).mono ?_)); (case h1 => exact R24_r.out); rintro e w25 ⟨b25, cp25, rfl, hr25, hb25⟩; have hWE25 := Go.Lib.hid hW24.out; have hW25 := Go.Lib.hid (hWE25.out.trans (hb25.mono hWE25.out.size)); have R25_w := Go.Lib.hid (R24_w.out.below hb25 (Nat.le_refl _)); have R25_r := Go.Lib.hid (R24_r.out.below hb25 (Nat.le_refl _)); have R25_x := Go.Lib.hid (R24_x.out.below hb25 (Nat.le_refl _)); have R25_p := Go.Lib.hid (R24_p.out.below hb25 (Nat.le_refl _)); have R25_y := Go.Lib.hid hr25; clear hr25; have BE25_w := Go.Lib.hid B24_w.out; have B25_w := Go.Lib.hid (BE25_w.out.below hb25 BE25_w.out.lt); obtain ⟨k25w0, k25w1, k25w2, k25w3⟩ := B25_w.out.cells; have BE25_r := Go.Lib.hid B24_r.out; have B25_r := Go.Lib.hid (BE25_r.out.below hb25 BE25_r.out.lt); obtain ⟨k25r0, k25r1, k25r2, k25r3⟩ := B25_r.out.cells; have BE25_x := Go.Lib.hid B24_x.out; have B25_x := Go.Lib.hid (BE25_x.out.below hb25 BE25_x.out.lt); obtain ⟨k25x0, k25x1, k25x2, k25x3⟩ := B25_x.out.cells; have l25w := B25_w.out.lt; have n25w : xw ≠ w25.heap.size := (by omega); have l25r := B25_r.out.lt; have n25r : xw + 1 ≠ w25.heap.size := (by omega); have l25x := B25_x.out.lt; have n25x : w21.heap.size ≠ w25.heap.size := (by omega); clear hb25))
      have hCz : BoxAt (w25.alloc (.cells #[.slice b25 Lr1 cp25, .int .i64 Mr1] 27)).drew w25.heap.size (.slice b25 Lr1 cp25) Mr1 := box1 w25 (.slice b25 Lr1 cp25) Mr1
      have hlw := B25_w.out.lt
      have hlr := B25_r.out.lt
      have hwx : w25.heap.size ≠ xw := by omega
      have hrx : w25.heap.size ≠ xw + 1 := by omega
      refine wp_region_ord (fun w' => BoxAt w' w25.heap.size (.slice b25 Lr1 cp25) Mr1) [(0, 1), (1, 2), (2, 0), (3, 0), (4, 3), (5, 3), (6, 0), (7, 0)] (by kernel_rfl) (by kernel_rfl) ?hC0 ?_
      case hC0 => exact hCz
      simp only [pick, nth]
      (repeat (first | (apply wpW_light; (case h => (intro wa; (first | (go_big_quiet_skip; exact wpQuiet_nil rfl) | (go_big_quiet_want; go_big_quiet_op; go_big_quiet_on; exact wpQuiet_nil rfl))))) | (apply wpW_here; (case h => (first | (go_big_quiet_skip; exact wpQuiet_nil rfl) | (go_big_quiet_want; go_big_quiet_op; go_big_quiet_on; exact wpQuiet_nil rfl)))) | (apply wpW_held; (case hC => assumption); (case h => (intro wa hCa; obtain ⟨z0, z1, z2, z3⟩ := BoxAt.cells hCa; (first | (go_big_quiet_skip; exact wpQuiet_nil rfl) | (go_big_quiet_want; go_big_quiet_op; go_big_quiet_on; exact wpQuiet_nil rfl)))))))
      refine wpW_act (fun QQ hQQ => ?_) (by rfl)
      go_wp2
      have hS1 : BoxAt ((w25.setCell ⟨xw, 0, none⟩ (.slice b21 Lw1 cp21)).setCell ⟨xw, 1, none⟩ (.int .i64 Mw1)) xw (.slice b21 Lw1 cp21) Mw1 := B25_w.out.set _ _
      have hS2 : BoxAt ((w25.setCell ⟨xw, 0, none⟩ (.slice b21 Lw1 cp21)).setCell ⟨xw, 1, none⟩ (.int .i64 Mw1)) (xw + 1) (.slice ar Lr cr) Mr := (B25_r.out.other (p := ⟨xw, 0, none⟩) (by simp) _).other (p := ⟨xw, 1, none⟩) (by simp) _
      have hS3 : BoxAt (((w25.setCell ⟨xw, 0, none⟩ (.slice b21 Lw1 cp21)).setCell ⟨xw, 1, none⟩ (.int .i64 Mw1)).alloc (.cells #[.slice b25 Lr1 cp25, .int .i64 Mr1] 27)).drew w25.heap.size (.slice b25 Lr1 cp25) Mr1 := by
        have := box1 ((w25.setCell ⟨xw, 0, none⟩ (.slice b21 Lw1 cp21)).setCell ⟨xw, 1, none⟩ (.int .i64 Mw1)) (.slice b25 Lr1 cp25) Mr1
        simp only [World.size_setCell] at this
        exact this
      (refine hQQ _ _ ?hCn ?_; (case hCn => exact hS3); clear hQQ QQ)
      (repeat (first | (apply wpW_light; (case h => (intro wa; (first | (go_big_quiet_skip; exact wpQuiet_nil rfl) | (go_big_quiet_want; go_big_quiet_op; go_big_quiet_on; exact wpQuiet_nil rfl))))) | (apply wpW_here; (case h => (first | (go_big_quiet_skip; exact wpQuiet_nil rfl) | (go_big_quiet_want; go_big_quiet_op; go_big_quiet_on; exact wpQuiet_nil rfl)))) | (apply wpW_held; (case hC => assumption); (case h => (intro wa hCa; simp only [] at hCa; (first | (go_big_quiet_skip; exact wpQuiet_nil rfl) | (go_big_quiet_want; go_big_quiet_op; go_big_quiet_on; exact wpQuiet_nil rfl)))))))
      refine wpW_act (fun QQ hQQ => ?_) (by rfl)
      have hS2' := Go.Lib.hid hS2
      obtain ⟨v0, v1, v2, v3⟩ := hS2.cells
      go_wp2
      have hT1 := hS1.other (p := ⟨xw + 1, 0, none⟩) (by simp) (.slice b25 Lr1 cp25) |>.other (p := ⟨xw + 1, 1, none⟩) (by simp) (.int .i64 Mr1)
      have hT2 := hS2.set (.slice b25 Lr1 cp25) Mr1
      have rw1 := (R25_x.out.box B25_w.out 0 (.slice b21 Lw1 cp21)).box (B25_w.out.set0 _) 1 (.int .i64 Mw1)
      have rw2 := (rw1.box hS2 0 (.slice b25 Lr1 cp25)).box (hS2.set0 _) 1 (.int .i64 Mr1)
      have rr1 := (R25_y.out.box B25_w.out 0 (.slice b21 Lw1 cp21)).box (B25_w.out.set0 _) 1 (.int .i64 Mw1)
      have rr2 := (rr1.box hS2 0 (.slice b25 Lr1 cp25)).box (hS2.set0 _) 1 (.int .i64 Mr1)
      have hbT := (((hW25.out.setCell (p := ⟨xw, 0, none⟩) hWx (.slice b21 Lw1 cp21)).setCell (p := ⟨xw, 1, none⟩) hWx (.int .i64 Mw1)).setCell (p := ⟨xw + 1, 0, none⟩) (Nat.le_succ_of_le hWx) (.slice b25 Lr1 cp25)).setCell (p := ⟨xw + 1, 1, none⟩) (Nat.le_succ_of_le hWx) (.int .i64 Mr1)
      obtain ⟨wT, hwT⟩ : ∃ wT, wT = (((w25.setCell ⟨xw, 0, none⟩ (.slice b21 Lw1 cp21)).setCell ⟨xw, 1, none⟩ (.int .i64 Mw1)).setCell ⟨xw + 1, 0, none⟩ (.slice b25 Lr1 cp25)).setCell ⟨xw + 1, 1, none⟩ (.int .i64 Mr1) := ⟨_, rfl⟩
      have hszT : wT.heap.size = w25.heap.size := by rw [hwT]; simp
      rw [← hwT] at hT1 hT2 rw2 rr2 hbT ⊢
      have hS4 : BoxAt (wT.alloc (.cells #[.slice b25 Lr1 cp25, .int .i64 Mr1] 27)).drew w25.heap.size (.slice b25 Lr1 cp25) Mr1 := by
        have := box1 wT (.slice b25 Lr1 cp25) Mr1
        rw [hszT] at this
        exact this
      (refine hQQ _ _ ?hCn ?_; (case hCn => exact hS4); clear hQQ QQ)
      (repeat (first | (apply wpW_light; (case h => (intro wa; (first | (go_big_quiet_skip; exact wpQuiet_nil rfl) | (go_big_quiet_want; go_big_quiet_op; go_big_quiet_on; exact wpQuiet_nil rfl))))) | (apply wpW_here; (case h => (first | (go_big_quiet_skip; exact wpQuiet_nil rfl) | (go_big_quiet_want; go_big_quiet_op; go_big_quiet_on; exact wpQuiet_nil rfl)))) | (apply wpW_held; (case hC => assumption); (case h => (intro wa hCa; simp only [] at hCa; (first | (go_big_quiet_skip; exact wpQuiet_nil rfl) | (go_big_quiet_want; go_big_quiet_op; go_big_quiet_on; exact wpQuiet_nil rfl)))))))
      refine wpW_nil ?_
      have hT1' := Go.Lib.hid hT1
      have hT2' := Go.Lib.hid hT2
      have rw2' := Go.Lib.hid rw2
      have rr2' := Go.Lib.hid rr2
      have hbT' := Go.Lib.hid hbT
      clear hS1 hS2 hS3 hS4 hT1 hT2 rw1 rw2 rr1 rr2 hbT hwT v0 v1 v2 v3 hCz
      go_wp2
      go_roundw
      case rel =>
        refine ⟨k + 1, b21, cp21, b25, cp25, Lw1, Mw1, Lr1, Mr1, by omega, by go_num, by rw [f1.out], by rw [f2.out], f4.out.1, f4.out.2.1, f3.out, f4.out.2.2, ?_, ?_, ?_, ?_, ?_⟩
        · exact (hT1'.out.alloc _).drew
        · exact (rw2'.out.below (below1 wT _) (Nat.le_refl _)).below ((Below.refl _ _).drew) (Nat.le_refl _)
        · exact (hT2'.out.alloc _).drew
        · exact (rr2'.out.below (below1 wT _) (Nat.le_refl _)).below ((Below.refl _ _).drew) (Nat.le_refl _)
        · exact (hbT'.out.alloc hbT'.out.size _).drew
      case measure => (simp [intOf] <;> omega)
    · obtain rfl : k = n := by omega
      have hUt : U.take k = U := List.take_of_length_le (by rw [hlU.out]; exact Nat.le_refl _)
      have hVt : V.take k = V := List.take_of_length_le (by rw [hlV.out]; exact Nat.le_refl _)
      obtain ⟨wo, hwo⟩ : ∃ wo, wo = wr := ⟨_, rfl⟩
      subst hwo
      rw [hUt] at R20_w
      rw [hVt] at R20_r hMr
      rw [hUt]
      have hwb : (wideB U).length = Mw := by rw [wideB_len, hlU.out]; omega
      have hMrb : Mr ≤ 1920 := by rw [hVt, ← hMr] at hrszk; exact hrszk
      have hWl : (wideL U).length = Lw := by rw [wideL_len, hlU.out]; omega
      obtain ⟨s, hs⟩ : ∃ s, s = crcB 4294967295 (wideL U) := ⟨_, rfl⟩
      obtain ⟨t, ht⟩ : ∃ t, t = csfB 0 (wideL U) := ⟨_, rfl⟩
      have hsb : s < 4294967296 := by rw [hs]; exact crcB_lt _ (by decide)
      have htb : t < 18446744073709551616 := by rw [ht]; exact csfB_lt _ (by decide)
      obtain ⟨sm, hsm⟩ : ∃ sm, sm = crcSum (wideL U) := ⟨_, rfl⟩
      have hsm2 : (4294967295 : Int) - (s : Int) = (sm : Int) := by rw [hsm]; unfold crcSum; rw [← hs]; omega
      have hsmb : (sm : Int) < 4294967296 := by omega
      have ckw : Hid (∀ w, Row .u8 w aw Lw cw (wideL U) → Calls Try.prog 22 #[.agg #[.slice aw Lw cw, .int .i64 Mw]] w fun e W' => e = .returned (.int .i64 0) ∧ Below w.heap.size w W') := Go.Lib.hid fun w h => by
        rw [← wide_pack] at h
        rw [← hwb]
        exact RCheck_any w aw Lw cw _ _ h (bounds_of_len (by omega)) 0 (.inl ⟨⟨wideB U, rfl, by omega, rfl⟩, rfl⟩)
      have ckr : Hid (∀ w, Row .u8 w ar Lr cr (pack (runs V)) → Calls Try.prog 22 #[.agg #[.slice ar Lr cr, .int .i64 Mr]] w fun e W' => e = .returned (.int .i64 0) ∧ Below w.heap.size w W') := Go.Lib.hid fun w h => by
        rw [hMr]
        exact RCheck_any w ar Lr cr _ _ h (bounds_of_len (by omega)) 0 (.inl ⟨⟨runs V, rfl, by omega, rfl⟩, rfl⟩)
      have cs : Hid (∀ w, Row .u8 w aw Lw cw (wideL U) → Calls Try.prog 31 #[.slice aw Lw cw] w fun e W' => e = .returned (.tuple #[.int .u32 sm, .int .i64 0]) ∧ Below w.heap.size w W') := Go.Lib.hid fun w h => by
        rw [hsm]; exact CSum_ok w aw Lw cw _ h (by omega)
      have cs6 : Hid (∀ w, Row .u8 w aw Lw cw (wideL U) → Calls Try.prog 32 #[.slice aw Lw cw] w fun e W' => e = .returned (.tuple #[.int .u64 t, .int .i64 0]) ∧ Below w.heap.size w W') := Go.Lib.hid fun w h => by
        rw [ht]; exact SSum_ok w aw Lw cw _ h (by omega)
      have b1 : ((Mw : Int) == 32 * (k : Int)) = true := by rw [beq_iff_eq]; omega
      have b2 : ((Mw : Int) != 32 * (k : Int)) = false := by rw [bne_eq_false_iff_eq]; omega
      have kgx : Hid (∀ w (j : Nat), j < k → Row .u8 w aw Lw cw (wideL U) → Calls Try.prog 33 #[.agg #[.slice aw Lw cw, .int .i64 Mw], .int .i64 (32 * (j : Int)), .int .i64 32] w fun e W' => e = .returned (.tuple #[.int .u64 (U.getD j 0 : Nat), .int .i64 0]) ∧ Below w.heap.size w W') := Go.Lib.hid fun w j hj h => by
        rw [← wide_pack] at h
        have := BGet_ok w aw Lw cw (wideB U) (32 * j) 32 h (by omega) (by decide) (by omega)
        rw [wide_get U (by rw [hlU.out]; exact hj), natB_numB_self (by have := hu32.out j hj; omega), hwb, show ((32 * j : Nat) : Int) = 32 * (j : Int) by omega] at this
        exact this
      have kax : Hid (∀ w (j : Nat), j < k → Row .u8 w aw Lw cw (wideL U) → Calls Try.prog 34 #[.slice aw Lw cw, .int .i64 (4 * (j : Int)), .int .i64 4] w fun e W' => e = .returned (.tuple #[.int .u64 (U.getD j 0 : Nat), .int .i64 0]) ∧ w = W') := Go.Lib.hid fun w j hj h => by
        have := At_ok w aw Lw cw (wideL U) (4 * j) 4 h (by decide) (by omega) (by omega)
        rw [wideL_get U (by rw [hlU.out]; exact hj), ofB_leB _ _ (by omega) (by have := hu32.out j hj; omega), show ((4 * j : Nat) : Int) = 4 * (j : Int) by omega] at this
        exact this
      have krx : Hid (∀ w (j : Nat), j < k → Row .u8 w ar Lr cr (pack (runs V)) → Calls Try.prog 12 #[.agg #[.slice ar Lr cr, .int .i64 Mr], .int .i64 ((runs (V.take j)).length : Nat)] w fun e W' => e = .returned (.tuple #[.int .i64 (V.getD j 0 : Nat), .int .i64 ((runs (V.take (j + 1))).length : Nat), .int .i64 0]) ∧ Below w.heap.size w W') := Go.Lib.hid fun w j hj h => by
        have hjV : j < V.length := by rw [hlV.out]; exact hj
        have hn : V.getD j 0 ≤ 48 := hV48.out _ (by rw [show V.getD j 0 = V[j] by simp [List.getD, hjV]]; exact List.getElem_mem _)
        have e := read_run (runs (V.take j)) (runs (V.drop (j + 1))) hn
        rw [← runs_split V hjV] at e
        have e3 : (runs (V.take (j + 1))).length = (runs (V.take j)).length + runLen (V.getD j 0) := by rw [runs_take_succ V hjV, List.length_append, runB_len hn]
        have hle : (runs (V.take j)).length ≤ (runs V).length := by rw [runs_split V hjV]; simp only [List.length_append]; omega
        have := URead_le w ar Lr cr (runs V) _ h (by omega) hle _ _ _ e
        rw [← hMr, ← e3] at this
        exact this
      have hMrh := Go.Lib.hid hMr
      have hVth := Go.Lib.hid hVt
      rw [← hs, ← ht]
      clear hUt hVt hLw hMw hMr hLr hbw hrw hbr hrr hbl hwb hWl hs ht hsm hrszk
      go_wp2_with (first
        | (go_at_call 22; ((with_reducible refine (ckw.out _ ?h1).mono ?_)); (case h1 => exact R20_w.out); rintro e w21 ⟨rfl, hb21⟩; have hWE21 := Go.Lib.hid hW20.out; have hW21 := Go.Lib.hid (hWE21.out.trans (hb21.mono hWE21.out.size)); have R21_w := Go.Lib.hid (R20_w.out.below hb21 (Nat.le_refl _)); have R21_r := Go.Lib.hid (R20_r.out.below hb21 (Nat.le_refl _)); have BE21_w := Go.Lib.hid B20_w.out; have B21_w := Go.Lib.hid (BE21_w.out.below hb21 BE21_w.out.lt); obtain ⟨k21w0, k21w1, k21w2, k21w3⟩ := B21_w.out.cells; have BE21_r := Go.Lib.hid B20_r.out; have B21_r := Go.Lib.hid (BE21_r.out.below hb21 BE21_r.out.lt); obtain ⟨k21r0, k21r1, k21r2, k21r3⟩ := B21_r.out.cells; clear hb21)
        | (go_at_call 22; ((with_reducible refine (ckr.out _ ?h1).mono ?_)); (case h1 => exact R21_r.out); rintro e w22 ⟨rfl, hb22⟩; have hWE22 := Go.Lib.hid hW21.out; have hW22 := Go.Lib.hid (hWE22.out.trans (hb22.mono hWE22.out.size)); have R22_w := Go.Lib.hid (R21_w.out.below hb22 (Nat.le_refl _)); have R22_r := Go.Lib.hid (R21_r.out.below hb22 (Nat.le_refl _)); have BE22_w := Go.Lib.hid B21_w.out; have B22_w := Go.Lib.hid (BE22_w.out.below hb22 BE22_w.out.lt); obtain ⟨k22w0, k22w1, k22w2, k22w3⟩ := B22_w.out.cells; have BE22_r := Go.Lib.hid B21_r.out; have B22_r := Go.Lib.hid (BE22_r.out.below hb22 BE22_r.out.lt); obtain ⟨k22r0, k22r1, k22r2, k22r3⟩ := B22_r.out.cells; clear hb22)
        | (go_at_call 31; ((with_reducible refine (cs.out _ ?h1).mono ?_)); (case h1 => exact R22_w.out); rintro e w23 ⟨rfl, hb23⟩; have hWE23 := Go.Lib.hid hW22.out; have hW23 := Go.Lib.hid (hWE23.out.trans (hb23.mono hWE23.out.size)); have R23_w := Go.Lib.hid (R22_w.out.below hb23 (Nat.le_refl _)); have R23_r := Go.Lib.hid (R22_r.out.below hb23 (Nat.le_refl _)); have BE23_w := Go.Lib.hid B22_w.out; have B23_w := Go.Lib.hid (BE23_w.out.below hb23 BE23_w.out.lt); obtain ⟨k23w0, k23w1, k23w2, k23w3⟩ := B23_w.out.cells; have BE23_r := Go.Lib.hid B22_r.out; have B23_r := Go.Lib.hid (BE23_r.out.below hb23 BE23_r.out.lt); obtain ⟨k23r0, k23r1, k23r2, k23r3⟩ := B23_r.out.cells; clear hb23)
        | (go_at_call 32; ((with_reducible refine (cs6.out _ ?h1).mono ?_)); (case h1 => exact R23_w.out); rintro e w24 ⟨rfl, hb24⟩; have hWE24 := Go.Lib.hid hW23.out; have hW24 := Go.Lib.hid (hWE24.out.trans (hb24.mono hWE24.out.size)); have R24_w := Go.Lib.hid (R23_w.out.below hb24 (Nat.le_refl _)); have R24_r := Go.Lib.hid (R23_r.out.below hb24 (Nat.le_refl _)); have BE24_w := Go.Lib.hid B23_w.out; have B24_w := Go.Lib.hid (BE24_w.out.below hb24 BE24_w.out.lt); obtain ⟨k24w0, k24w1, k24w2, k24w3⟩ := B24_w.out.cells; have BE24_r := Go.Lib.hid B23_r.out; have B24_r := Go.Lib.hid (BE24_r.out.below hb24 BE24_r.out.lt); obtain ⟨k24r0, k24r1, k24r2, k24r3⟩ := B24_r.out.cells; clear hb24))
      have hrR := R24_r
      have hrW := R24_w
      have hbW := B24_w
      have hbR := B24_r
      have hlB := hW24
      obtain ⟨wp, hwp⟩ : ∃ wp, wp = w24 := ⟨_, rfl⟩
      subst hwp
      clear R21_w R21_r R22_w R22_r R23_w R23_r BE21_w BE22_w BE23_w BE24_w BE21_r BE22_r BE23_r BE24_r B21_w B22_w B23_w B21_r B22_r B23_r hW21 hW22 hW23 hWE21 hWE22 hWE23 hWE24
      go_loopw [24, 25] (fun at_ i w' => ∃ (j p : Nat), j ≤ k ∧ p = (runs (V.take j)).length ∧ at_ = .int .i64 p ∧ i = .int .i64 j ∧ Below wp.heap.size wp w') (fun _ i _ => k - (intOf i).toNat)
      case atStart => exact ⟨0, 0, Nat.zero_le _, rfl, rfl, rfl, Below.refl _ _⟩
      case round =>
        obtain ⟨j, p, hj, hp, rfl, rfl, hb⟩ := hrel
        have hWE30 := Go.Lib.hid (hlB.out.trans (hb.mono hlB.out.size))
        have hW30 := hWE30
        have B30_w := Go.Lib.hid (hbW.out.below hb hbW.out.lt)
        have B30_r := Go.Lib.hid (hbR.out.below hb hbR.out.lt)
        have R30_w := Go.Lib.hid (hrW.out.below hb (Nat.le_refl _))
        have R30_r := Go.Lib.hid (hrR.out.below hb (Nat.le_refl _))
        obtain ⟨e0, e1, e2, e3⟩ := B30_w.out.cells
        obtain ⟨x0, x1, x2, x3⟩ := B30_r.out.cells
        have hbh := Go.Lib.hid hb
        by_cases hlt : j < k
        · obtain ⟨bl, ol, rfl, hblt, hc⟩ := (hr'.out.below hW30.out (Nat.le_refl _)).cells (by omega)
          have hcell := hc j hlt
          have kg := Go.Lib.hid fun w h => kgx.out w j hlt h
          have ka := Go.Lib.hid fun w h => kax.out w j hlt h
          have kr := Go.Lib.hid fun w h => krx.out w j hlt h
          have hub := hu32.out j hlt
          have hzu := hUh.out j hlt
          have hvu := hVh.out j hlt
          obtain ⟨x, hx⟩ : ∃ x, x = l.getD j 0 := ⟨_, rfl⟩
          obtain ⟨u, hu⟩ : ∃ u, u = U.getD j 0 := ⟨_, rfl⟩
          obtain ⟨v, hv⟩ : ∃ v, v = V.getD j 0 := ⟨_, rfl⟩
          obtain ⟨q, hq⟩ : ∃ q, q = (runs (V.take (j + 1))).length := ⟨_, rfl⟩
          rw [← hx] at hcell hzu
          rw [← hu] at hub hzu hvu kg ka
          rw [← hv] at hvu kr
          rw [← hq, ← hp] at kr
          have hqh := Go.Lib.hid hq
          have kb : Hid (∀ w, Calls Try.prog 35 #[.int .u32 u] w fun e W' => e = .returned (.int .i32 x) ∧ w = W') := Go.Lib.hid fun w => by
            have := FBack_ok (u : Int) w (by omega)
            rw [← hzu, zag_zig] at this
            rw [← hzu]
            exact this
          have hqb : q ≤ 1920 := by rw [hq]; exact hrsz.out (j + 1) (by omega)
          have hpb : p ≤ 1920 := by rw [hp]; exact hrsz.out j hj
          have m1 : (if 48 < u then (48 : Int) else (u : Int)) = (v : Int) := by split <;> omega
          have m2 : (if (48 : Int) < (u : Int) then (48 : Int) else (u : Int)) = (v : Int) := by split <;> omega
          have hub' : (u : Int) < 4294967296 := by omega
          have hv48' : (v : Int) ≤ 48 := by omega
          have hlt' : (j : Int) < k := by omega
          have hcellh := Go.Lib.hid hcell
          clear hc hx hu hv hq hp hzu hvu hb
          go_wp2_with (first
            | (go_at_call 33; ((with_reducible refine (kg.out _ ?h1).mono ?_)); (case h1 => exact R30_w.out); rintro e w31 ⟨rfl, hb31⟩; have hWE31 := Go.Lib.hid hW30.out; have hW31 := Go.Lib.hid (hWE31.out.trans (hb31.mono hWE31.out.size)); have R31_w := Go.Lib.hid (R30_w.out.below hb31 (Nat.le_refl _)); have R31_r := Go.Lib.hid (R30_r.out.below hb31 (Nat.le_refl _)); have BE31_w := Go.Lib.hid B30_w.out; have B31_w := Go.Lib.hid (BE31_w.out.below hb31 BE31_w.out.lt); obtain ⟨k31w0, k31w1, k31w2, k31w3⟩ := B31_w.out.cells; have BE31_r := Go.Lib.hid B30_r.out; have B31_r := Go.Lib.hid (BE31_r.out.below hb31 BE31_r.out.lt); obtain ⟨k31r0, k31r1, k31r2, k31r3⟩ := B31_r.out.cells; have hbx31 := Go.Lib.hid hb31; have hcell31 := Go.Lib.hid ((Below.cell hb31 (p := ⟨bl, ol + j, none⟩) hblt).trans hcellh.out); clear hb31)
            | (go_at_call 34; ((with_reducible refine (ka.out _ ?h1).mono ?_)); (case h1 => exact R31_w.out); rintro e wz ⟨rfl, rfl⟩)
            | (go_at_call 12; ((with_reducible refine (kr.out _ ?h1).mono ?_)); (case h1 => exact R31_r.out); rintro e w32 ⟨rfl, hb32⟩; have hWE32 := Go.Lib.hid hW31.out; have hW32 := Go.Lib.hid (hWE32.out.trans (hb32.mono hWE32.out.size)); have R32_w := Go.Lib.hid (R31_w.out.below hb32 (Nat.le_refl _)); have R32_r := Go.Lib.hid (R31_r.out.below hb32 (Nat.le_refl _)); have BE32_w := Go.Lib.hid B31_w.out; have B32_w := Go.Lib.hid (BE32_w.out.below hb32 BE32_w.out.lt); obtain ⟨k32w0, k32w1, k32w2, k32w3⟩ := B32_w.out.cells; have BE32_r := Go.Lib.hid B31_r.out; have B32_r := Go.Lib.hid (BE32_r.out.below hb32 BE32_r.out.lt); obtain ⟨k32r0, k32r1, k32r2, k32r3⟩ := B32_r.out.cells; have hbx32 := Go.Lib.hid (hbx31.out.trans (hb32.mono hbx31.out.size)); have hcell32 := (Below.cell hb32 (p := ⟨bl, ol + j, none⟩) (Nat.lt_of_lt_of_le hblt (hbx31.out.size))).trans hcell31.out; clear hb32))
          go_quiet ((go_at_call 35; refine (kb.out _).mono ?_; rintro e w5 ⟨rfl, rfl⟩; exact ⟨rfl, _, rfl⟩))
          go_wp2
          go_roundw
          case rel => exact ⟨j + 1, q, by omega, hqh.out, rfl, by go_num, Below.drewN (hbh.out.trans (hbx32.out.mono hbh.out.size)) _⟩
          case measure => (simp [intOf] <;> omega)
        · obtain rfl : j = k := by omega
          rw [hVth.out, ← hMrh.out] at hp
          subst hp
          have hfin := hW30.out
          clear hb
          go_wp2
          go_ret
          exact ⟨rfl, hfin⟩

theorem topBits_walk (a0 : Option Addr) (len0 cap0 : Nat) (z0 : List Int) (W : World) (w0 : IsRow .i32 W a0 len0 cap0 z0) :
    Calls Try.prog 9 #[.slice a0 len0 cap0] W fun e w' => e = .returned (.bool true) ∧ Below W.heap.size W w' := by
  have hr := Row.of_isRow w0
  have hm := Nat.le_trans hr.hcap hr.hmax
  unfold maxLen at hm
  by_cases h : 40 < len0
  · exact topBits_out W _ _ _ (by omega) h
  · obtain ⟨l, hl⟩ : ∃ l, l = z0.take len0 := ⟨_, rfl⟩
    rw [← hl] at hr
    refine topBits_in W _ _ _ l hr (by omega) (l.map fun x => (zig x).toNat) _ (fun k hk => ?_) (by rw [List.length_map, hr.hlen]) rfl
    have hk' : k < l.length := by rw [hr.hlen]; exact hk
    have hb := zig_bd (i32_bd (hr.wf _ (getD_mem hk')))
    have e : (l.map fun x => (zig x).toNat).getD k 0 = (zig (l.getD k 0)).toNat := by simp [List.getD, hk']
    rw [e]
    omega
end Go.Proofs.Ytbegifpnbbpinaa
