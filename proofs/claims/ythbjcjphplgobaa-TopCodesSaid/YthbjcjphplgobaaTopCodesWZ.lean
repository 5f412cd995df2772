/- TopCodes: codes, states, pieces, blocks and counts agree. -/
import Derived.Test.YthbjcjphplgobaaZ13
import Derived.Deep.DeepCutAuto

namespace Go.Proofs.Ythbjcjphplgobaa
open Go.RowKit Cad

set_option maxRecDepth 100000 in
theorem topCodes_out (W : World) (al : Option Addr) (ll cl : Nat) (n : Int) (_hll : ll ≤ 9223372036854775807) (h : (40 : Int) < ll) :
    Calls Try.prog 9 #[.slice al ll cl, .int .i64 n] W fun e w' => e = .returned (.bool true) ∧ Below W.heap.size W w' := by
  go_enter Try.func9, Try.ntmps9
  go_wp2_with (go_at_call 30; refine (tcAlive_ok _).mono ?_; rintro e w1 ⟨rfl, hb1⟩; have hW1 := Go.Lib.hid hb1; clear hb1)
  go_ret
  exact ⟨rfl, hW1.out⟩

theorem sub_one {Z : List Int} {bl : List Nat} {t : List Int} (h : Z = bl.map Int.ofNat ++ t) (k : Nat) (hk : k < bl.length) : (Z.drop k).take 1 = [bl.getD k 0].map Int.ofNat := by
  rw [h, List.drop_append_of_le_length (by simp; omega), List.drop_eq_getElem_cons (by simp; omega)]
  simp [List.getD, hk]

set_option maxRecDepth 100000 in
set_option maxHeartbeats 8000000 in
theorem topCodes_in (W : World) (al : Option Addr) (ll cl : Nat) (l : List Int) (m : List Nat) (t : Int) (hr : Row .u32 W al ll cl l) (hl : ll ≤ 40) (hlm : l = m.map Int.ofNat) (hm : m.length = ll) (hm32 : ∀ x ∈ m, x < 4294967296) :
    Calls Try.prog 9 #[.slice al ll cl, .int .i64 t] W fun e w' => e = .returned (.bool true) ∧ Below W.heap.size W w' := by
  have hcap := hr.hcap
  obtain ⟨X, hX⟩ : ∃ X, X = codesD dStart m := ⟨_, rfl⟩
  obtain ⟨A, hA⟩ : ∃ A, A = X.length := ⟨_, rfl⟩
  obtain ⟨mc, hmc⟩ : ∃ n, n = (A + 7) / 8 := ⟨_, rfl⟩
  have h4 : ll ≤ 4000 := by omega
  obtain ⟨-, -, hpl, -⟩ := tc_chain m ll hm hm32 h4 X hX A mc hA hmc
  have hA3 : A ≤ 3240 := by
    have := codesD_len_le m dStart_ok hm32
    rw [← hX, ← hA, hm] at this
    omega
  have en0 := tc_encode ll m hm hm32 h4 X hX A mc hA hmc
  have pk := Go.Lib.hid (tc_pack ll m hm hm32 h4 X hX A mc hA hmc)
  have un := Go.Lib.hid (tc_unpack ll m hm hm32 h4 X hX A mc hA hmc)
  have de := Go.Lib.hid (tc_decode ll m hm hm32 h4 X hX A mc hA hmc)
  obtain ⟨N8, hN8⟩ : ∃ n, n = 8 * mc := ⟨_, rfl⟩
  rw [← hN8] at un de
  obtain ⟨Z, hZ⟩ : ∃ Z, Z = sealB (pack X) := ⟨_, rfl⟩
  rw [← hZ] at pk un
  obtain ⟨PL, hPL⟩ : ∃ n, n = mc + 4 := ⟨_, rfl⟩
  rw [← hPL] at pk un
  rw [← hlm] at en0 de
  have en : Hid (∀ w, Row .u32 w al ll cl l → Res 24 #[.slice al ll cl] w mc (pack X) A 0) := Go.Lib.hid fun w h => en0 w al cl h
  obtain ⟨LZ, hLZ⟩ : ∃ z, z = lens dStart m := ⟨_, rfl⟩
  have by_ : Hid (∀ w, Row .u32 w al ll cl l → Calls Try.prog 12 #[.slice al ll cl] w fun e W' => e = .returned (.tuple #[.int .i64 PL, .int .i64 0]) ∧ Below w.heap.size w W') := Go.Lib.hid fun w h => by
    rw [hlm] at h
    have := TBytes_ok w al ll cl m h h4 hm hm32
    rw [← codesD_sum, ← hX, ← hA, show longB A = PL by rw [hPL, hmc]; rfl] at this
    exact this
  have ea : Hid (∀ w, Row .u32 w al ll cl l → ResI 10 #[.slice al ll cl] w ll (LZ.map Int.ofNat) 0) := Go.Lib.hid fun w h => by
    rw [hlm] at h
    rw [hLZ]
    exact TEach_ok w al ll cl m h h4 hm hm32
  have sm : Hid (∀ w b c, Row .u32 w al ll cl l → Row .u32 w b ll c l → Calls Try.prog 21 #[.slice al ll cl, .slice b ll c] w fun e W' => e = .returned (.bool true) ∧ Below w.heap.size w W') := Go.Lib.hid fun w b c h h' => by
    have := CSame_ok w al ll cl l h b ll c l h'
    simpa using this
  have st : Hid (∀ w, Calls Try.prog 33 #[.int .i64 ll] w fun e W' => e = .returned (.tuple #[.agg #[.int .i64 ll, .int .i64 10, .int .i64 10, .int .u64 16384, .int .u64 16384, .slice none 0 0, .int .i64 0], .int .i64 0]) ∧ Below w.heap.size w W') := Go.Lib.hid fun w => PsStart_ok w ll (by omega)
  unfold Res at en
  unfold ResP at pk
  unfold ResU at un
  unfold ResI at ea
  obtain ⟨bl, p1, p2, p3, p4⟩ := bytes_pack X
  rw [← hA, ← hmc] at p2
  obtain ⟨EA, hEA⟩ : ∃ E, E = after dStart m := ⟨_, rfl⟩
  obtain ⟨C0, hC0⟩ : ∃ C, C = List.replicate (8 * ((X.length + 7) / 8) - X.length) false := ⟨_, rfl⟩
  rw [← hC0] at p4
  have hC8 : C0.length < 8 := by rw [hC0, List.length_replicate]; omega
  obtain ⟨ps, hps⟩ : ∃ ps : List (List Nat), ps = bl.map fun x => [x] := ⟨_, rfl⟩
  have hflat : ps.flatten = bl := by
    rw [hps]; clear hps p1 p2 p3 p4
    induction bl with
    | nil => rfl
    | cons a bl ih => rw [List.map_cons, List.flatten_cons, ih]; rfl
  have F1 : feedS ll [] dStart ps = ⟨m, C0, 0, EA, 0⟩ := by
    rw [feedS_fed _ _ _ _ (ok_start ll h4), List.nil_append, hflat, p4]
    have := fed_codes m 0 C0 dStart hm32 dStart_ok
    rw [Nat.add_zero, hm, ← hX, ← hEA, fed_none EA hC8] at this
    rw [this, if_neg (fun h => h rfl), glueF_ok, List.append_nil]
  have hdrop : Hid (∀ k, k < mc → ps.drop k = [bl.getD k 0] :: ps.drop (k + 1)) := Go.Lib.hid fun k hk => by
    have h : k < ps.length := by rw [hps, List.length_map]; omega
    rw [List.drop_eq_getElem_cons h]
    simp [hps, List.getD, show k < bl.length by omega]
  have hsub : Hid (∀ k, k < mc → (Z.drop k).take 1 = [bl.getD k 0].map Int.ofNat) := Go.Lib.hid fun k hk => sub_one (t := CadL.leB (crcSum (pack X) : Nat) 4) (by rw [hZ, ← p1]; rfl) k (by omega)
  have hb256 : Hid (∀ k, k < mc → bl.getD k 0 < 256) := Go.Lib.hid fun k hk => p3 _ (by rw [show bl.getD k 0 = bl[k] by simp [List.getD, show k < bl.length by omega]]; exact List.getElem_mem _)
  obtain ⟨Fin, hFin⟩ : ∃ F : Fed, F = ⟨m, C0, 0, EA, 0⟩ := ⟨_, rfl⟩
  rw [← hFin] at F1
  have F1 := Go.Lib.hid F1
  have hFin := Go.Lib.hid hFin
  have hpslen : Hid (ps.drop mc = []) := Go.Lib.hid (by rw [hps]; exact List.drop_eq_nil_of_le (by rw [List.length_map]; omega))
  have hwfZ : Hid (∀ x ∈ Z, 0 ≤ x ∧ x ≤ 255) := Go.Lib.hid (by rw [hZ]; exact sealB_wf (pack_wf X))
  have hrt : Hid (rightB Z) := Go.Lib.hid (by rw [hZ]; exact right_seal _)
  have hZlen : Hid (Z.length = PL) := Go.Lib.hid (by rw [hZ, sealB_len, hpl, hPL])
  have hfd := Go.Lib.hid PsFeed_says
  have hok0 := Go.Lib.hid (ok_start ll h4)
  have hmcI : (mc : Int) ≤ 405 := by omega
  have hPLI : (PL : Int) ≤ 409 := by omega
  have hPL4 : ¬ (PL : Int) < 4 := by omega
  have hPLm : (PL : Int) - 4 = (mc : Int) := by omega
  have hmcP : mc < PL := by omega
  have d1 : ¬ (40 : Int) < ll := by omega
  have hllI : (ll : Int) ≤ 40 := by omega
  have hWE0 := Go.Lib.hid (Below.refl W.heap.size W)
  have RE0_l := Go.Lib.hid hr
  have hps0 := Go.Lib.hid hps
  have hbl0 := Go.Lib.hid p2
  have hlm0 := Go.Lib.hid hlm
  have hm0 := Go.Lib.hid hm
  have hm320 := Go.Lib.hid hm32
  have hEA0 := Go.Lib.hid hEA
  have hLZ0 := Go.Lib.hid hLZ
  clear hr hlm hm hm32 hX hA hmc h4 hpl en0 hN8 hZ hPL hLZ p1 p2 p3 p4 hEA hC0 hC8 hps hflat hA3
  go_enter Try.func9, Try.ntmps9
  go_upto_region 19 with (first
    | (go_at_call 30; ((with_reducible refine (tcAlive_ok _).mono ?_)); rintro e w1 ⟨rfl, hb1⟩; have hWE1 := Go.Lib.hid hWE0.out; have hW1 := Go.Lib.hid (hWE1.out.trans (hb1.mono hWE1.out.size)); have R1_l := Go.Lib.hid (RE0_l.out.below hb1 (Nat.le_refl _)); clear hb1)
    | (go_at_call 24; ((with_reducible refine (en.out _ ?h1).mono ?_)); (case h1 => exact R1_l.out); rintro e w2 ⟨b2, cp2, rfl, hr2, hb2⟩; have hWE2 := Go.Lib.hid hW1.out; have hW2 := Go.Lib.hid (hWE2.out.trans (hb2.mono hWE2.out.size)); have R2_l := Go.Lib.hid (R1_l.out.below hb2 (Nat.le_refl _)); have R2_b := Go.Lib.hid hr2; clear hr2; clear hb2)
    | (go_at_call 25; ((with_reducible refine (pk.out _ _ _ ?h1).mono ?_)); (case h1 => exact (R2_b.out.below (below1 w2 (.cells #[(.slice b2 mc cp2), .int .i64 A] 45)) (Nat.le_refl _))); rintro e w3 ⟨b3, cp3, rfl, hr3, hb3⟩; have hWE3 := Go.Lib.hid (hW2.out.alloc hW2.out.size (.cells #[(.slice b2 mc cp2), .int .i64 A] 45)); have hW3 := Go.Lib.hid (hWE3.out.trans (hb3.mono hWE3.out.size)); have R3_l := Go.Lib.hid ((R2_l.out.below (below1 w2 (.cells #[(.slice b2 mc cp2), .int .i64 A] 45)) (Nat.le_refl _)).below hb3 (Nat.le_refl _)); have R3_b := Go.Lib.hid ((R2_b.out.below (below1 w2 (.cells #[(.slice b2 mc cp2), .int .i64 A] 45)) (Nat.le_refl _)).below hb3 (Nat.le_refl _)); have R3_p := Go.Lib.hid hr3; clear hr3; have BE3_b := Go.Lib.hid (box1 w2 (.slice b2 mc cp2) A); have B3_b := Go.Lib.hid (BE3_b.out.below hb3 BE3_b.out.lt); obtain ⟨k3b0, k3b1, k3b2, k3b3⟩ := B3_b.out.cells; clear hb3)
    | (go_at_call 12; ((with_reducible refine (by_.out _ ?h1).mono ?_)); (case h1 => exact R3_l.out); rintro e w4 ⟨rfl, hb4⟩; have hWE4 := Go.Lib.hid hW3.out; have hW4 := Go.Lib.hid (hWE4.out.trans (hb4.mono hWE4.out.size)); have R4_l := Go.Lib.hid (R3_l.out.below hb4 (Nat.le_refl _)); have R4_b := Go.Lib.hid (R3_b.out.below hb4 (Nat.le_refl _)); have R4_p := Go.Lib.hid (R3_p.out.below hb4 (Nat.le_refl _)); have BE4_b := Go.Lib.hid B3_b.out; have B4_b := Go.Lib.hid (BE4_b.out.below hb4 BE4_b.out.lt); obtain ⟨k4b0, k4b1, k4b2, k4b3⟩ := B4_b.out.cells; clear hb4)
    | (go_at_call 10; ((with_reducible refine (ea.out _ ?h1).mono ?_)); (case h1 => exact R4_l.out); rintro e w5 ⟨b5, cp5, rfl, hr5, hb5⟩; have hWE5 := Go.Lib.hid hW4.out; have hW5 := Go.Lib.hid (hWE5.out.trans (hb5.mono hWE5.out.size)); have R5_l := Go.Lib.hid (R4_l.out.below hb5 (Nat.le_refl _)); have R5_b := Go.Lib.hid (R4_b.out.below hb5 (Nat.le_refl _)); have R5_p := Go.Lib.hid (R4_p.out.below hb5 (Nat.le_refl _)); have R5_e := Go.Lib.hid hr5; clear hr5; have BE5_b := Go.Lib.hid B4_b.out; have B5_b := Go.Lib.hid (BE5_b.out.below hb5 BE5_b.out.lt); obtain ⟨k5b0, k5b1, k5b2, k5b3⟩ := B5_b.out.cells; clear hb5)
    | (go_at_call 31; ((with_reducible refine (un.out _ _ _ ?h1).mono ?_)); (case h1 => exact R5_p.out); rintro e w6 ⟨b6, cp6, rfl, hr6, hb6⟩; have hWE6 := Go.Lib.hid hW5.out; have hW6 := Go.Lib.hid (hWE6.out.trans (hb6.mono hWE6.out.size)); have R6_l := Go.Lib.hid (R5_l.out.below hb6 (Nat.le_refl _)); have R6_b := Go.Lib.hid (R5_b.out.below hb6 (Nat.le_refl _)); have R6_p := Go.Lib.hid (R5_p.out.below hb6 (Nat.le_refl _)); have R6_e := Go.Lib.hid (R5_e.out.below hb6 (Nat.le_refl _)); have R6_c := Go.Lib.hid hr6; clear hr6; have BE6_b := Go.Lib.hid B5_b.out; have B6_b := Go.Lib.hid (BE6_b.out.below hb6 BE6_b.out.lt); obtain ⟨k6b0, k6b1, k6b2, k6b3⟩ := B6_b.out.cells; have l6b := B6_b.out.lt; have n6b : w2.heap.size ≠ w6.heap.size := (by omega); clear hb6)
    | (go_at_call 32; ((with_reducible refine (de.out _ _ _ ?h1).mono ?_)); (case h1 => exact (R6_c.out.below (below1 w6 (.cells #[(.slice b6 mc cp6), .int .i64 N8] 45)) (Nat.le_refl _))); rintro e w7 ⟨b7, cp7, rfl, hr7, hb7⟩; have hWE7 := Go.Lib.hid (hW6.out.alloc hW6.out.size (.cells #[(.slice b6 mc cp6), .int .i64 N8] 45)); have hW7 := Go.Lib.hid (hWE7.out.trans (hb7.mono hWE7.out.size)); have R7_l := Go.Lib.hid ((R6_l.out.below (below1 w6 (.cells #[(.slice b6 mc cp6), .int .i64 N8] 45)) (Nat.le_refl _)).below hb7 (Nat.le_refl _)); have R7_b := Go.Lib.hid ((R6_b.out.below (below1 w6 (.cells #[(.slice b6 mc cp6), .int .i64 N8] 45)) (Nat.le_refl _)).below hb7 (Nat.le_refl _)); have R7_p := Go.Lib.hid ((R6_p.out.below (below1 w6 (.cells #[(.slice b6 mc cp6), .int .i64 N8] 45)) (Nat.le_refl _)).below hb7 (Nat.le_refl _)); have R7_e := Go.Lib.hid ((R6_e.out.below (below1 w6 (.cells #[(.slice b6 mc cp6), .int .i64 N8] 45)) (Nat.le_refl _)).below hb7 (Nat.le_refl _)); have R7_c := Go.Lib.hid ((R6_c.out.below (below1 w6 (.cells #[(.slice b6 mc cp6), .int .i64 N8] 45)) (Nat.le_refl _)).below hb7 (Nat.le_refl _)); have R7_m := Go.Lib.hid hr7; clear hr7; have BE7_b := Go.Lib.hid (B6_b.out.alloc (.cells #[(.slice b6 mc cp6), .int .i64 N8] 45)); have B7_b := Go.Lib.hid (BE7_b.out.below hb7 BE7_b.out.lt); obtain ⟨k7b0, k7b1, k7b2, k7b3⟩ := B7_b.out.cells; have BE7_c := Go.Lib.hid (box1 w6 (.slice b6 mc cp6) N8); have B7_c := Go.Lib.hid (BE7_c.out.below hb7 BE7_c.out.lt); obtain ⟨k7c0, k7c1, k7c2, k7c3⟩ := B7_c.out.cells; clear hb7)
    | (go_at_call 21; ((with_reducible refine (sm.out _ _ _ ?h1 ?h2).mono ?_)); (case h1 => exact R7_l.out); (case h2 => exact R7_m.out); rintro e w8 ⟨rfl, hb8⟩; have hWE8 := Go.Lib.hid hW7.out; have hW8 := Go.Lib.hid (hWE8.out.trans (hb8.mono hWE8.out.size)); have R8_l := Go.Lib.hid (R7_l.out.below hb8 (Nat.le_refl _)); have R8_b := Go.Lib.hid (R7_b.out.below hb8 (Nat.le_refl _)); have R8_p := Go.Lib.hid (R7_p.out.below hb8 (Nat.le_refl _)); have R8_e := Go.Lib.hid (R7_e.out.below hb8 (Nat.le_refl _)); have R8_c := Go.Lib.hid (R7_c.out.below hb8 (Nat.le_refl _)); have R8_m := Go.Lib.hid (R7_m.out.below hb8 (Nat.le_refl _)); have BE8_b := Go.Lib.hid B7_b.out; have B8_b := Go.Lib.hid (BE8_b.out.below hb8 BE8_b.out.lt); obtain ⟨k8b0, k8b1, k8b2, k8b3⟩ := B8_b.out.cells; have BE8_c := Go.Lib.hid B7_c.out; have B8_c := Go.Lib.hid (BE8_c.out.below hb8 BE8_c.out.lt); obtain ⟨k8c0, k8c1, k8c2, k8c3⟩ := B8_c.out.cells; clear hb8)
    | (go_at_call 33; ((with_reducible refine (st.out _).mono ?_)); rintro e w9 ⟨rfl, hb9⟩; have hWE9 := Go.Lib.hid hW8.out; have hW9 := Go.Lib.hid (hWE9.out.trans (hb9.mono hWE9.out.size)); have R9_l := Go.Lib.hid (R8_l.out.below hb9 (Nat.le_refl _)); have R9_b := Go.Lib.hid (R8_b.out.below hb9 (Nat.le_refl _)); have R9_p := Go.Lib.hid (R8_p.out.below hb9 (Nat.le_refl _)); have R9_e := Go.Lib.hid (R8_e.out.below hb9 (Nat.le_refl _)); have R9_c := Go.Lib.hid (R8_c.out.below hb9 (Nat.le_refl _)); have R9_m := Go.Lib.hid (R8_m.out.below hb9 (Nat.le_refl _)); have BE9_b := Go.Lib.hid B8_b.out; have B9_b := Go.Lib.hid (BE9_b.out.below hb9 BE9_b.out.lt); obtain ⟨k9b0, k9b1, k9b2, k9b3⟩ := B9_b.out.cells; have BE9_c := Go.Lib.hid B8_c.out; have B9_c := Go.Lib.hid (BE9_c.out.below hb9 BE9_c.out.lt); obtain ⟨k9c0, k9c1, k9c2, k9c3⟩ := B9_c.out.cells; have l9b := B9_b.out.lt; have n9b : w2.heap.size ≠ w9.heap.size := (by omega); have l9c := B9_c.out.lt; have n9c : w6.heap.size ≠ w9.heap.size := (by omega); clear hb9))
  obtain ⟨xs, hxs⟩ : ∃ x, x = w9.heap.size := ⟨_, rfl⟩
  have XU := Go.Lib.hid (resat1 w9 ll 10 10 16384 16384 (.slice none 0 0) 0)
  have BU := Go.Lib.hid (below1 w9 (.cells #[.int .i64 ll, .int .i64 10, .int .i64 10, .int .u64 16384, .int .u64 16384, (.slice none 0 0), .int .i64 0] 63))
  rw [← hxs] at XU BU ⊢
  obtain ⟨u, hu⟩ : ∃ u, u = (w9.alloc (.cells #[.int .i64 ll, .int .i64 10, .int .i64 10, .int .u64 16384, .int .u64 16384, (.slice none 0 0), .int .i64 0] 63)) := ⟨_, rfl⟩
  have su : u.heap.size = xs + 1 := by rw [hu, World.size_alloc, hxs]
  rw [← hu] at XU BU
  rw [← hu]
  have hxs' := Go.Lib.hid hxs
  have HW := Go.Lib.hid hW9.out
  have Rl := Go.Lib.hid R9_l.out
  have Rp := Go.Lib.hid R9_p.out
  have Re := Go.Lib.hid R9_e.out
  clear hWE1 hW1 R1_l hWE2 hW2 R2_l R2_b hWE3 hW3 R3_l R3_b R3_p BE3_b B3_b k3b0 k3b1 k3b2 k3b3 hWE4 hW4 R4_l R4_b R4_p BE4_b B4_b k4b0 k4b1 k4b2 k4b3 hWE5 hW5 R5_l R5_b R5_p R5_e BE5_b B5_b k5b0 k5b1 k5b2 k5b3 hWE6 hW6 R6_l R6_b R6_p R6_e R6_c BE6_b B6_b l6b n6b k6b0 k6b1 k6b2 k6b3 hWE7 hW7 R7_l R7_b R7_p R7_e R7_c R7_m BE7_b B7_b BE7_c B7_c k7b0 k7b1 k7b2 k7b3 k7c0 k7c1 k7c2 k7c3 hWE8 hW8 R8_l R8_b R8_p R8_e R8_c R8_m BE8_b B8_b BE8_c B8_c k8b0 k8b1 k8b2 k8b3 k8c0 k8c1 k8c2 k8c3 hWE9 hW9 R9_l R9_b R9_p R9_e R9_c R9_m BE9_b B9_b BE9_c B9_c l9b n9b l9c n9c k9b0 k9b1 k9b2 k9b3 k9c0 k9c1 k9c2 k9c3
  clear hu hxs en pk by_ ea un de st hWE0 RE0_l
  go_loopg [21, 22] mc (fun gm got i wr => ∃ (k n : Nat) (Q : List Bool) (E : Du) (g : List Nat) (v : Value) (bb : Option Addr) (cc QL QN : Nat), k ≤ mc ∧ gm = mc - k ∧ i = .int .i64 k ∧ got = v ∧ Fin = glueF g (feedS n Q E (ps.drop k)) ∧ ResOkN n E Q ∧ QL = (Q.length + 7) / 8 ∧ QN = Q.length ∧ n + g.length = ll ∧ (∀ x ∈ g, x < 4294967296) ∧
    wr.ownsRow (xs + 1) 30 1 v g.length (nums .u32 (g.map Int.ofNat)) ∧ Row .u8 wr bb QL cc (pack Q) ∧ ResAt wr xs n E.k0 E.k1 E.s0 E.s1 (.slice bb QL cc) QN ∧ Below xs w9 wr ∧ xs + 1 ≤ wr.heap.size)
  case atStart =>
    refine ⟨0, ll, [], dStart, [], .slice none 0 0, none, 0, 0, 0, Nat.zero_le _, rfl, rfl, rfl, ?_, hok0.out, rfl, rfl, by simp, fun x hx => (by cases hx), World.ownsRow_nil _ _ _ _, Row.nil_row _ _, XU.out, BU.out, by omega⟩
    rw [List.drop_zero, F1.out, hFin.out, glueF_ok]; rfl
  case round =>
  obtain ⟨k, n, Q, E, g, v, bb, cc, QL, QN, hk, hg, rfl, rfl, hFl, hQ, hQL, hQN, hml, hl32, ho, hrq, hx, hB, hsz⟩ := hrel
  obtain ⟨av, cv, rfl⟩ := own_form ho
  obtain ⟨w10, hw⟩ : ∃ w, w = wr := ⟨_, rfl⟩
  subst hw
  have hgo := Go.Lib.hid hg
  have hxl := hx.lt
  have hS1 := Go.Lib.hid hx
  have hB1 := Go.Lib.hid hB
  have hR1 := Go.Lib.hid hrq
  have hO1 := Go.Lib.hid ho
  clear hg ho hrq hB
  by_cases hlt : k < mc
  · have hlt' : (k : Int) < mc := by omega
    have hdk := hdrop.out k hlt
    have hsk := hsub.out k hlt
    have h256 := hb256.out k hlt
    obtain ⟨num, hnum⟩ : ∃ x, x = bl.getD k 0 := ⟨_, rfl⟩
    rw [← hnum] at hdk hsk h256
    have hPk : k < PL := by omega
    obtain ⟨pb, po, rfl, hblt, -⟩ := Rp.out.cells (by omega)
    have hpr := Rp.out.sub k 1 (by omega)
    rw [hsk] at hpr
    have hpr := Go.Lib.hid (hpr.below hB1.out (by rw [hxs'.out]; exact Nat.le_refl _))
    have hcp3 : PL ≤ cp3 := Rp.out.hcap
    have hG0 : (fed n (Q ++ bytesB [num]) E).e = 0 := by
      apply Classical.byContradiction
      intro he
      rw [hdk, feedS_er he] at hFl
      have := hFin.out
      rw [hFl, glueF_er _ he] at this
      exact he (congrArg Fed.e this)
    obtain ⟨l1, r1, k1, h1, h2, h3, h4, h5, h6⟩ := fed_is n (Q ++ bytesB [num]) E hQ.d hG0
    obtain ⟨hv, hv2, hv3⟩ := fed_valid hQ.d hQ.n4 h1
    have hst := Go.Lib.hid (show Fin = glueF (g ++ l1) (feedS k1 r1 (after E l1) (ps.drop (k + 1))) by
      rw [hFl, hdk, feedS_ok h1, glueF_glue])
    obtain ⟨E1, hE1⟩ : ∃ e, e = after E l1 := ⟨_, rfl⟩
    rw [← hE1] at hst hv h1
    obtain ⟨GN, hGN⟩ : ∃ x, x = r1.length := ⟨_, rfl⟩
    obtain ⟨GL, hGL⟩ : ∃ x, x = (GN + 7) / 8 := ⟨_, rfl⟩
    obtain ⟨ml, hmlen⟩ : ∃ x, x = l1.length := ⟨_, rfl⟩
    have fd : Hid (∀ w, Row .u8 w bb QL cc (pack Q) → Row .u8 w (some ⟨pb, po + k, none⟩) 1 (cp3 - k) ([num].map Int.ofNat) → Calls Try.prog 34 #[.agg #[.int .i64 n, .int .i64 E.k0, .int .i64 E.k1, .int .u64 E.s0, .int .u64 E.s1, .slice bb QL cc, .int .i64 QN], .slice (some ⟨pb, po + k, none⟩) 1 (cp3 - k)] w fun r W' => ∃ b2 c2 a2 d2, r = .returned (.tuple #[.agg #[.int .i64 k1, .int .i64 E1.k0, .int .i64 E1.k1, .int .u64 E1.s0, .int .u64 E1.s1, .slice b2 GL c2, .int .i64 GN], .slice a2 ml d2, .int .i64 0]) ∧ Row .u8 W' b2 GL c2 (pack r1) ∧ Row .u32 W' a2 ml d2 (l1.map Int.ofNat) ∧ Below w.heap.size w W' ∧ (GL = 0 ∨ ∃ g o, b2 = some ⟨g, o, none⟩ ∧ w.heap.size ≤ g)) := Go.Lib.hid fun w h h' => by
      have := hfd.out w bb cc n E Q _ 1 (cp3 - k) [num] (by rw [← hQL]; exact h) hQ h' rfl (by simpa using h256) (by decide)
      rw [h1, ← hQL, ← hQN] at this
      simp only [] at this
      rw [← hGN, ← hGL] at this
      refine this.mono ?_
      rintro e W' ⟨b2, c2, a2, m2, d2, rfl, g1, g2, g3, g4⟩
      have : m2 = ml := by rw [← g2.hlen, List.length_map, hmlen]
      subst this
      exact ⟨b2, c2, a2, d2, rfl, g1, g2, g3, g4⟩
    have hv' := Go.Lib.hid hv
    have hv3' := Go.Lib.hid hv3
    have hGN' := Go.Lib.hid hGN
    have hGL' := Go.Lib.hid hGL
    have hml' := Go.Lib.hid hml
    have hl' := Go.Lib.hid hl32
    have hlb : g.length + ml ≤ 4000 := by have := hQ.n4; omega
    have hmlen' := Go.Lib.hid hmlen
    have hkl : Hid (k1 + ml = n) := Go.Lib.hid (by omega)
    have hck : k + 1 ≤ cp3 := by omega
    clear h1 h2 h3 h4 h5 h6 hv hv3 hv2 hG0 hdk hsk h256 hnum hFl hQ hQL hQN hml hl32 hE1 hGN hGL hmlen hx
    go_upto_region 21 with (fail)
    go_cut [23, 24, 25] (fun s23 s24 s25 wx => ∃ (x9 : Nat) (b2 : Option Addr) (c2 : Nat) (a2 : Option Addr) (d2 : Nat), s23 = .pointer (some ⟨x9, 0, none⟩) ∧ s24 = .slice a2 ml d2 ∧ s25 = .int .i64 0 ∧ w10.heap.size ≤ x9 ∧ ResAt wx x9 k1 E1.k0 E1.k1 E1.s0 E1.s1 (.slice b2 GL c2) GN ∧ Row .u8 wx b2 GL c2 (pack r1) ∧ Row .u32 wx a2 ml d2 (l1.map Int.ofNat) ∧ Below w10.heap.size w10 wx ∧ (GL = 0 ∨ ∃ g o, b2 = some ⟨g, o, none⟩ ∧ w10.heap.size ≤ g))
    case first =>
      refine wp_region_ord2 (fun w' => Below w10.heap.size w10 w') 6 11 [(1, 0), (2, 0), (3, 0), (4, 0), (5, 0), (0, 2), (6, 4), (7, 0), (8, 0), (9, 0), (10, 0), (11, 4), (12, 4), (13, 0), (14, 0)] [(1, 0), (2, 0), (3, 0), (4, 0), (5, 0), (0, 2), (11, 3), (6, 4), (7, 0), (8, 0), (9, 0), (10, 0), (12, 4), (13, 0), (14, 0)] (by kernel_rfl) (by decide) (by kernel_rfl) (by kernel_rfl) ?hC0 ?_ ?_
      case hC0 => exact (Below.refl _ _).drew
      ·
        simp only [pick, nth]
        refine wpW_name ?_
        intro q0 hq0
        have H0 : Below w10.heap.size w10 q0 := by rw [hq0]; exact (Below.refl _ _).drew
        clear hq0
        (repeat (first | (apply wpW_light; (case h => (intro wa; (first | (go_big_quiet_skip; exact wpQuiet_nil rfl) | (go_big_quiet_want; go_big_quiet_op; go_big_quiet_on; exact wpQuiet_nil rfl))))) | (apply wpW_here; (case h => (first | (go_big_quiet_skip; exact wpQuiet_nil rfl) | (go_big_quiet_want; go_big_quiet_op; go_big_quiet_on; exact wpQuiet_nil rfl)))) | (apply wpW_held; (case hC => assumption); (case h => (intro wa hCa; (obtain ⟨u0, u1, u2, u3, u4, u5, u6, u7, u8, u9, u10, u11, u12, u13⟩ := (hS1.out.below hCa hxl).cells; clear hCa); (first | (go_big_quiet_skip; exact wpQuiet_nil rfl) | (go_big_quiet_want; go_big_quiet_op; go_big_quiet_on; exact wpQuiet_nil rfl)))))))
        refine wpW_last (fun QQ hQQ => ?_) (by rfl)
        go_wp2_with (go_at_call 34; with_reducible refine (fd.out _ (hR1.out.below H0 (Nat.le_refl _)) (hpr.out.below H0 (Nat.le_refl _))).mono ?_; rintro e q1 ⟨b2, c2, a2, d2, rfl, g1, g2, hs, g3⟩)
        (refine hQQ.out _ _ ?_; clear hQQ QQ)
        have H1 := H0.trans (hs.mono H0.size)
        have gf : GL = 0 ∨ ∃ g o, b2 = some ⟨g, o, none⟩ ∧ w10.heap.size ≤ g := g3.imp id fun ⟨g, o, e1, e2⟩ => ⟨g, o, e1, Nat.le_trans H0.size e2⟩
        clear hs g3
        (repeat (first | (apply wpW_light; (case h => (intro wa; (first | (go_big_quiet_skip; exact wpQuiet_nil rfl) | (go_big_quiet_want; go_big_quiet_op; go_big_quiet_on; exact wpQuiet_nil rfl))))) | (apply wpW_here; (case h => (first | (go_big_quiet_skip; exact wpQuiet_nil rfl) | (go_big_quiet_want; go_big_quiet_op; go_big_quiet_on; exact wpQuiet_nil rfl)))) | (apply wpW_held; (case hC => assumption); (case h => (intro wa hCa; simp only [] at hCa; (first | (go_big_quiet_skip; exact wpQuiet_nil rfl) | (go_big_quiet_want; go_big_quiet_op; go_big_quiet_on; exact wpQuiet_nil rfl)))))))
        refine wpW_last (fun QQ hQQ => ?_) (by rfl)
        go_wp2
        (refine hQQ.out _ _ ?_; clear hQQ QQ)
        (repeat (first | (apply wpW_light; (case h => (intro wa; (first | (go_big_quiet_skip; exact wpQuiet_nil rfl) | (go_big_quiet_want; go_big_quiet_op; go_big_quiet_on; exact wpQuiet_nil rfl))))) | (apply wpW_here; (case h => (first | (go_big_quiet_skip; exact wpQuiet_nil rfl) | (go_big_quiet_want; go_big_quiet_op; go_big_quiet_on; exact wpQuiet_nil rfl)))) | (apply wpW_held; (case hC => assumption); (case h => (intro wa hCa; simp only [] at hCa; (first | (go_big_quiet_skip; exact wpQuiet_nil rfl) | (go_big_quiet_want; go_big_quiet_op; go_big_quiet_on; exact wpQuiet_nil rfl)))))))
        refine wpW_name ?_
        intro q2 hq
        have H2 : Below w10.heap.size w10 q2 := by rw [hq]; exact H1.alloc H1.size _
        have hs : Below q1.heap.size q1 q2 := by rw [hq]; exact below1 q1 _
        have g1 := g1.below hs (Nat.le_refl _)
        have g2 := g2.below hs (Nat.le_refl _)
        have x2 : ResAt q2 q1.heap.size 0 0 0 0 0 (.slice none 0 0) 0 := by rw [hq]; exact resat1 q1 0 0 0 0 0 _ 0
        have gx : w10.heap.size ≤ q1.heap.size := H1.size
        obtain ⟨x9, hx9⟩ : ∃ x, x = q1.heap.size := ⟨_, rfl⟩
        rw [← hx9] at x2 gx ⊢
        clear hq hs hx9
        obtain ⟨y0, y1, y2, y3, y4, y5, y6, y7, y8, y9, y10, y11, y12, y13⟩ := x2.cells
        refine wpW_last (fun QQ hQQ => ?_) (by rfl)
        go_wp2
        (refine hQQ.out _ _ ?_; clear hQQ QQ)
        (repeat (first | (apply wpW_light; (case h => (intro wa; (first | (go_big_quiet_skip; exact wpQuiet_nil rfl) | (go_big_quiet_want; go_big_quiet_op; go_big_quiet_on; exact wpQuiet_nil rfl))))) | (apply wpW_here; (case h => (first | (go_big_quiet_skip; exact wpQuiet_nil rfl) | (go_big_quiet_want; go_big_quiet_op; go_big_quiet_on; exact wpQuiet_nil rfl)))) | (apply wpW_held; (case hC => assumption); (case h => (intro wa hCa; simp only [] at hCa; (first | (go_big_quiet_skip; exact wpQuiet_nil rfl) | (go_big_quiet_want; go_big_quiet_op; go_big_quiet_on; exact wpQuiet_nil rfl)))))))
        refine wpW_nil ?_
        go_wp2_with (fail)
        go_meet
        exact ⟨x9, b2, c2, a2, d2, rfl, rfl, rfl, gx, x2.set k1 E1.k0 E1.k1 E1.s0 E1.s1 (.slice b2 GL c2) GN, rows7 (.inl rfl) g1 x2, rows7 (.inr rfl) g2 x2, below7 H2 gx, gf⟩
      ·
        simp only [pick, nth]
        refine wpW_name ?_
        intro q0 hq0
        have H0 : Below w10.heap.size w10 q0 := by rw [hq0]; exact (Below.refl _ _).drew
        clear hq0
        (repeat (first | (apply wpW_light; (case h => (intro wa; (first | (go_big_quiet_skip; exact wpQuiet_nil rfl) | (go_big_quiet_want; go_big_quiet_op; go_big_quiet_on; exact wpQuiet_nil rfl))))) | (apply wpW_here; (case h => (first | (go_big_quiet_skip; exact wpQuiet_nil rfl) | (go_big_quiet_want; go_big_quiet_op; go_big_quiet_on; exact wpQuiet_nil rfl)))) | (apply wpW_held; (case hC => assumption); (case h => (intro wa hCa; (obtain ⟨u0, u1, u2, u3, u4, u5, u6, u7, u8, u9, u10, u11, u12, u13⟩ := (hS1.out.below hCa hxl).cells; clear hCa); (first | (go_big_quiet_skip; exact wpQuiet_nil rfl) | (go_big_quiet_want; go_big_quiet_op; go_big_quiet_on; exact wpQuiet_nil rfl)))))))
        refine wpW_act (fun QQ hQQ => ?_) (by rfl)
        go_wp2
        (refine hQQ _ _ ?hCn ?_; (case hCn => exact H0.alloc H0.size _); clear hQQ QQ)
        (repeat (first | (apply wpW_light; (case h => (intro wa; (first | (go_big_quiet_skip; exact wpQuiet_nil rfl) | (go_big_quiet_want; go_big_quiet_op; go_big_quiet_on; exact wpQuiet_nil rfl))))) | (apply wpW_here; (case h => (first | (go_big_quiet_skip; exact wpQuiet_nil rfl) | (go_big_quiet_want; go_big_quiet_op; go_big_quiet_on; exact wpQuiet_nil rfl)))) | (apply wpW_held; (case hC => assumption); (case h => (intro wa hCa; simp only [] at hCa; (first | (go_big_quiet_skip; exact wpQuiet_nil rfl) | (go_big_quiet_want; go_big_quiet_op; go_big_quiet_on; exact wpQuiet_nil rfl)))))))
        refine wpW_name ?_
        intro q1 hq
        have H1 : Below w10.heap.size w10 q1 := by rw [hq]; exact H0.alloc H0.size _
        have hs : Below q0.heap.size q0 q1 := by rw [hq]; exact below1 q0 _
        have x1 : ResAt q1 q0.heap.size 0 0 0 0 0 (.slice none 0 0) 0 := by rw [hq]; exact resat1 q0 0 0 0 0 0 _ 0
        have gx : w10.heap.size ≤ q0.heap.size := H0.size
        obtain ⟨x9, hx9⟩ : ∃ x, x = q0.heap.size := ⟨_, rfl⟩
        rw [← hx9] at x1 gx ⊢
        clear hq hs hx9
        refine wpW_last (fun QQ hQQ => ?_) (by rfl)
        go_wp2_with (go_at_call 34; with_reducible refine (fd.out _ (hR1.out.below H1 (Nat.le_refl _)) (hpr.out.below H1 (Nat.le_refl _))).mono ?_; rintro e q2 ⟨b2, c2, a2, d2, rfl, g1, g2, hs, g3⟩)
        (refine hQQ.out _ _ ?_; clear hQQ QQ)
        have H2 := H1.trans (hs.mono H1.size)
        have gf : GL = 0 ∨ ∃ g o, b2 = some ⟨g, o, none⟩ ∧ w10.heap.size ≤ g := g3.imp id fun ⟨g, o, e1, e2⟩ => ⟨g, o, e1, Nat.le_trans H1.size e2⟩
        have x2 := x1.below hs x1.lt
        clear hs g3
        (repeat (first | (apply wpW_light; (case h => (intro wa; (first | (go_big_quiet_skip; exact wpQuiet_nil rfl) | (go_big_quiet_want; go_big_quiet_op; go_big_quiet_on; exact wpQuiet_nil rfl))))) | (apply wpW_here; (case h => (first | (go_big_quiet_skip; exact wpQuiet_nil rfl) | (go_big_quiet_want; go_big_quiet_op; go_big_quiet_on; exact wpQuiet_nil rfl)))) | (apply wpW_held; (case hC => assumption); (case h => (intro wa hCa; simp only [] at hCa; (first | (go_big_quiet_skip; exact wpQuiet_nil rfl) | (go_big_quiet_want; go_big_quiet_op; go_big_quiet_on; exact wpQuiet_nil rfl)))))))
        obtain ⟨y0, y1, y2, y3, y4, y5, y6, y7, y8, y9, y10, y11, y12, y13⟩ := x2.cells
        refine wpW_last (fun QQ hQQ => ?_) (by rfl)
        go_wp2
        (refine hQQ.out _ _ ?_; clear hQQ QQ)
        (repeat (first | (apply wpW_light; (case h => (intro wa; (first | (go_big_quiet_skip; exact wpQuiet_nil rfl) | (go_big_quiet_want; go_big_quiet_op; go_big_quiet_on; exact wpQuiet_nil rfl))))) | (apply wpW_here; (case h => (first | (go_big_quiet_skip; exact wpQuiet_nil rfl) | (go_big_quiet_want; go_big_quiet_op; go_big_quiet_on; exact wpQuiet_nil rfl)))) | (apply wpW_held; (case hC => assumption); (case h => (intro wa hCa; simp only [] at hCa; (first | (go_big_quiet_skip; exact wpQuiet_nil rfl) | (go_big_quiet_want; go_big_quiet_op; go_big_quiet_on; exact wpQuiet_nil rfl)))))))
        refine wpW_nil ?_
        go_wp2_with (fail)
        go_meet
        exact ⟨x9, b2, c2, a2, d2, rfl, rfl, rfl, gx, x2.set k1 E1.k0 E1.k1 E1.s0 E1.s1 (.slice b2 GL c2) GN, rows7 (.inl rfl) g1 x2, rows7 (.inr rfl) g2 x2, below7 H2 gx, gf⟩
    case rest =>
    obtain ⟨x9, b2, c2, a2, d2, rfl, rfl, rfl, gx, hx9, g1, g2, H9, gf⟩ := hcut
    obtain ⟨w11, hw⟩ : ∃ w, w = wc := ⟨_, rfl⟩
    subst hw
    have s10 := hS1.out.below H9 hxl
    have B10 := hB1.out.trans (H9.mono (by omega))
    have o10 := own_below hO1.out H9 (Nat.le_refl _)
    have ns : x9 ≠ xs := by omega
    have s10' := Go.Lib.hid s10
    have B10' := Go.Lib.hid B10
    have g1' := Go.Lib.hid g1
    have g2' := Go.Lib.hid g2
    have gf' := Go.Lib.hid gf
    have hz9 := H9.size
    obtain ⟨i0, i1, i2, i3, i4, i5, i6, i7, i8, i9, i10, i11, i12, i13⟩ := s10.cells
    obtain ⟨n0, n1, n2, n3, n4, n5, n6, n7, n8, n9, n10, n11, n12, n13⟩ := hx9.cells
    have hlen1 : (g ++ l1).length = g.length + ml := by rw [List.length_append, hmlen'.out]
    have ap : ∀ b, (Value.slice av g.length cv).ownBlock = some b → b ≠ xs := fun b e => by have := (o10.lt b e).1; omega
    clear s10 B10 g1 g2 gf hblt hS1 hB1 hR1 hpr fd
    go_wp2_with (at_builtin; refine law_appendRowK elU32 _ rfl _ _ rfl (xs + 1) _ g.length (g.map Int.ofNat) rfl (own_setG (own_setG (own_setG (own_setG (own_setG (own_setG (own_setG o10 ap _ _) ap _ _) ap _ _) ap _ _) ap _ _) ap _ _) ap _ _) a2 ml d2 (l1.map Int.ofNat) rfl (rows7 (.inr rfl) g2'.out s10'.out) (by omega) (by simp; omega) ?_)
    intro v5 q5 o5 hg5
    have e5 : (g.map Int.ofNat) ++ (l1.map Int.ofNat) = (g ++ l1).map Int.ofNat := by rw [List.map_append]
    rw [e5, ← hlen1] at o5
    obtain ⟨a5, c5, rfl⟩ := own_form o5
    have s5 := Go.Lib.hid ((s10'.out.set k1 E1.k0 E1.k1 E1.s0 E1.s1 (.slice b2 GL c2) GN).grown hg5 (fun e => ap _ e.symm rfl))
    have r5 := Go.Lib.hid (Row.grown (rows7 (.inl rfl) g1'.out s10'.out) hg5 (gf'.out.imp id fun ⟨g, o, e1, e2⟩ => ⟨g, o, e1, fun e => by have := (hO1.out.lt g e.symm).2; omega⟩))
    have B5 := Go.Lib.hid ((below7 B10'.out (Nat.le_refl _)).grown hg5 (by simp; omega) (fun g e => by have := (o10.lt g e).1; omega))
    have z5s : xs + 1 ≤ q5.heap.size := Nat.le_trans (by simp; omega) hg5.size
    have o5' := Go.Lib.hid o5
    clear o5 hg5 ap e5 hO1 o10 s10' B10' g1' g2' gf' H9 i0 i1 i2 i3 i4 i5 i6 i7 i8 i9 i10 i11 i12 i13 n0 n1 n2 n3 n4 n5 n6 n7 n8 n9 n10 n11 n12 n13
    go_wp2
    go_roundg (mc - (k + 1))
    case measure => (have hgk := hgo.out; omega)
    case rel =>
      have hml2 := hml'.out
      have hGN2 := hGN'.out
      have hGL2 := hGL'.out
      have hkl2 := hkl.out
      refine ⟨k + 1, k1, r1, E1, g ++ l1, _, b2, c2, GL, GN, by omega, rfl, by go_num, rfl, hst.out, hv'.out, by rw [hGL2, hGN2], hGN2, by rw [hlen1]; omega, fun x hx => ?_, o5'.out, r5.out, s5.out, B5.out, z5s⟩
      rcases List.mem_append.1 hx with hx | hx
      · exact hl'.out x hx
      · exact hv3'.out x hx
  · obtain rfl : k = mc := by omega
    have hlt' : ¬ (k : Int) < k := by omega
    have hF : Fin = ⟨g, Q, n, E, 0⟩ := by
      rw [hFl, hpslen.out]
      show glueF g ⟨[], Q, n, E, 0⟩ = _
      rw [glueF_ok, List.append_nil]
    rw [hFin.out] at hF
    obtain ⟨rfl, -, rfl, rfl⟩ : m = g ∧ C0 = Q ∧ 0 = n ∧ EA = E := by
      injection hF with e1 e2 e3 e4
      exact ⟨e1, e2, e3, e4⟩
    have hmle := hm0.out
    have gr0 := Row.of_own hO1.out (natsU _ hl32)
    rw [hmle, ← hlm0.out] at gr0
    have gr := Go.Lib.hid gr0
    rw [hmle]
    have sx : Hid (ResAt w10 xs 0 EA.k0 EA.k1 EA.s0 EA.s1 (.slice bb QL cc) QN) := hS1
    clear gr0 hmle hO1 hx hS1 hF hFl hQ hQL hQN hml hl32 hR1 hsub hdrop hb256 hpslen F1 hFin hfd hok0 hxl XU BU su hgo hbl0 hps0
    go_upto_region 28 with (go_at_call 35; refine (Dstart_ok _).mono ?_; rintro e w11 ⟨rfl, hb⟩; have b11 := Go.Lib.hid hb; clear hb)
    have hx9 := hxs'.out
    have B911 := hB1.out.trans (b11.out.mono (by omega))
    have h9le : w9.heap.size ≤ xs := by omega
    have Rl := Go.Lib.hid (Rl.out.below B911 h9le)
    have Rp := Go.Lib.hid (Rp.out.below B911 h9le)
    have Re := Go.Lib.hid (Re.out.below B911 h9le)
    have gr := Go.Lib.hid (gr.out.below b11.out (Nat.le_refl _))
    have sx := Go.Lib.hid (sx.out.below b11.out sx.out.lt)
    have HW := Go.Lib.hid (HW.out.trans (B911.mono (by have := HW.out.size; omega)))
    obtain ⟨xd, hxd⟩ : ∃ x, x = w11.heap.size := ⟨_, rfl⟩
    have hlx : xs < xd := by rw [hxd]; exact sx.out.lt
    have D0 := Go.Lib.hid (duat1 w11 10 10 16384 16384)
    have DB := Go.Lib.hid (below1 w11 (.cells #[.int .i64 10, .int .i64 10, .int .u64 16384, .int .u64 16384] 52))
    rw [← hxd] at D0 DB ⊢
    have hxd' := Go.Lib.hid hxd
    clear b11 B911 h9le hxd hx9 hB1 hxs' hsz hlt hlt'
    go_loopg [27] ll (fun gm i wr => ∃ j : Nat, j ≤ ll ∧ gm = ll - j ∧ i = .int .i64 j ∧ Below xd w11 wr ∧ DuAt wr xd ((after dStart (m.take j)).k0 : Nat) ((after dStart (m.take j)).k1 : Nat) ((after dStart (m.take j)).s0 : Nat) ((after dStart (m.take j)).s1 : Nat))
    case atStart =>
      exact ⟨0, Nat.zero_le _, rfl, rfl, DB.out, D0.out⟩
    case round =>
    obtain ⟨j, hj, hg, rfl, hB, hd⟩ := hrel
    obtain ⟨w8, hw8⟩ : ∃ w, w = wr := ⟨_, rfl⟩
    subst hw8
    have hgo := Go.Lib.hid hg
    clear hg D0 DB
    by_cases hlt : j < ll
    · have hlt' : (j : Int) < ll := by omega
      have hjm : j < m.length := by rw [hm0.out]; exact hlt
      have hats := after_take_succ m dStart hjm
      obtain ⟨num, hnum⟩ : ∃ v, v = m.getD j 0 := ⟨_, rfl⟩
      have hmk : l.getD j 0 = (num : Int) := by rw [hlm0.out, hnum]; exact natsD m hjm
      have hn32 : num < 4294967296 := by rw [hnum]; exact hm320.out _ (by rw [show m.getD j 0 = m[j] by simp [List.getD, hjm]]; exact List.getElem_mem _)
      have hEok : (after dStart (m.take j)).ok := after_ok _ dStart_ok fun x hx => hm320.out x (List.mem_of_mem_take hx)
      have hzk : (lens dStart m).getD j 0 = dualLen (after dStart (m.take j)) (m.getD j 0) := lens_get m dStart hjm
      obtain ⟨E, hE⟩ : ∃ E, E = after dStart (m.take j) := ⟨_, rfl⟩
      rw [← hE] at hd hats hEok hzk
      rw [← hnum] at hats hzk
      obtain ⟨E2, hE2⟩ : ∃ E', E' = learnD E num := ⟨_, rfl⟩
      rw [← hE2] at hats
      obtain ⟨dl, hdl⟩ : ∃ x, x = dualLen E num := ⟨_, rfl⟩
      rw [← hdl] at hzk
      have ck : Hid (∀ w, Calls Try.prog 27 #[.agg #[.int .i64 E.k0, .int .i64 E.k1, .int .u64 E.s0, .int .u64 E.s1]] w fun e W' => e = .returned (.int .i64 0) ∧ Below w.heap.size w W') := Go.Lib.hid fun w => RdCheck_any w E.k0 E.k1 E.s0 E.s1 (du_wf hEok).1 (du_wf hEok).2.1 (du_wf hEok).2.2.1 (du_wf hEok).2.2.2 0 (.inl ⟨du_ok hEok, rfl⟩)
      have apt : Hid (∀ w, Calls Try.prog 36 #[.agg #[.int .i64 E.k0, .int .i64 E.k1, .int .u64 E.s0, .int .u64 E.s1], .int .u32 num] w fun e W' => e = .returned (.bool true) ∧ Below w.heap.size w W') := Go.Lib.hid fun w => TcApart_ok w E num hEok hn32
      have lng' : Hid (∀ w, Calls Try.prog 28 #[.agg #[.int .i64 E.k0, .int .i64 E.k1, .int .u64 E.s0, .int .u64 E.s1], .int .u32 num] w fun e W' => e = .returned (.tuple #[.int .i64 dl, .int .i64 0]) ∧ Below w.heap.size w W') := Go.Lib.hid fun w => by rw [hdl]; exact DLength_ok w E num hEok hn32
      have lrn' : Hid (∀ w, Calls Try.prog 29 #[.agg #[.int .i64 E.k0, .int .i64 E.k1, .int .u64 E.s0, .int .u64 E.s1], .int .u32 num] w fun e W' => e = .returned (.tuple #[.agg #[.int .i64 E2.k0, .int .i64 E2.k1, .int .u64 E2.s0, .int .u64 E2.s1], .int .i64 0]) ∧ Below w.heap.size w W') := Go.Lib.hid fun w => by rw [hE2]; exact DLearn_ok w E num hEok hn32
      have hats2 := Go.Lib.hid hats
      obtain ⟨lb, lo, rfl, hlblt, hc⟩ := Rl.out.cells (by omega)
      have hcell := hc j hlt
      rw [hmk] at hcell
      obtain ⟨eb, eo, rfl, heb, hec⟩ := Re.out.cells (by omega)
      have hecell := hec j hlt
      rw [show (LZ.map Int.ofNat).getD j 0 = (dl : Int) by rw [natsD LZ (by rw [hLZ0.out, lens_len]; exact hjm), hLZ0.out, hzk]] at hecell
      have hcell' := Go.Lib.hid hcell
      have hecell' := Go.Lib.hid hecell
      have hxdd := hxd'.out
      rw [← hxdd] at hlblt heb
      have hd8 := Go.Lib.hid hd
      have hB8 := Go.Lib.hid hB
      have ltd := hd.lt
      have hz8 : Hid (xd ≤ w8.heap.size) := Go.Lib.hid (Nat.le_of_lt hd.lt)
      clear hats hmk hE hEok hnum hE2 hdl hc hec hjm hzk hcell hecell hd hB hn32 hxdd
      go_upto_region 30 with (fail)
      refine wp_region_ord (fun w' => Below w8.heap.size w8 w') [(0, 2), (1, 3), (2, 0), (3, 0), (4, 2), (5, 0), (6, 0), (7, 0), (8, 2), (9, 3), (10, 0), (11, 0)] (by kernel_rfl) (by kernel_rfl) ?hC0 ?_
      case hC0 => exact (Below.refl _ _).drew
      simp only [pick, nth]
      refine wpW_name ?_
      intro q0 hq0
      have H0 : Below w8.heap.size w8 q0 := by rw [hq0]; exact (Below.refl _ _).drew
      clear hq0
      (repeat (first | (apply wpW_light; (case h => (intro wa; (first | (go_big_quiet_skip; exact wpQuiet_nil rfl) | (go_big_quiet_want; go_big_quiet_op; go_big_quiet_on; exact wpQuiet_nil rfl))))) | (apply wpW_here; (case h => (first | (go_big_quiet_skip; exact wpQuiet_nil rfl) | (go_big_quiet_want; go_big_quiet_op; go_big_quiet_on; exact wpQuiet_nil rfl)))) | (apply wpW_held; (case hC => assumption); (case h => (intro wa hCa; (obtain ⟨v0, v1, v2, v3, v4, v5, v6, v7⟩ := (hd8.out.below hCa ltd).cells; have hca := (Below.cell (hB8.out.trans (hCa.mono hz8.out)) (p := ⟨lb, lo + j, none⟩) hlblt).trans hcell'.out; clear hCa); (first | (go_big_quiet_skip; exact wpQuiet_nil rfl) | (go_big_quiet_want; go_big_quiet_op; go_big_quiet_on; exact wpQuiet_nil rfl)))))))
      refine wpW_act (fun QQ hQQ => ?_) (by rfl)
      go_wp2_with (go_at_call 27; with_reducible refine (ck.out _).mono ?_; rintro e q1 ⟨rfl, hs⟩; have H1 := H0.trans (hs.mono H0.size))
      (refine hQQ _ _ ?hCn ?_; (case hCn => exact H1); clear hQQ QQ)
      clear hs
      (repeat (first | (apply wpW_light; (case h => (intro wa; (first | (go_big_quiet_skip; exact wpQuiet_nil rfl) | (go_big_quiet_want; go_big_quiet_op; go_big_quiet_on; exact wpQuiet_nil rfl))))) | (apply wpW_here; (case h => (first | (go_big_quiet_skip; exact wpQuiet_nil rfl) | (go_big_quiet_want; go_big_quiet_op; go_big_quiet_on; exact wpQuiet_nil rfl)))) | (apply wpW_held; (case hC => assumption); (case h => (intro wa hCa; (obtain ⟨v0, v1, v2, v3, v4, v5, v6, v7⟩ := (hd8.out.below hCa ltd).cells; have hca := (Below.cell (hB8.out.trans (hCa.mono hz8.out)) (p := ⟨lb, lo + j, none⟩) hlblt).trans hcell'.out; clear hCa); (first | (go_big_quiet_skip; exact wpQuiet_nil rfl) | (go_big_quiet_want; go_big_quiet_op; go_big_quiet_on; exact wpQuiet_nil rfl)))))))
      refine wpW_actg (fun QQ hQQ => ?_) (by rfl)
      go_wp2_with (go_at_call 36; with_reducible refine (apt.out _).mono ?_; rintro e q2 ⟨rfl, hs⟩; have H2 := H1.trans (hs.mono H1.size))
      (refine hQQ _ _ ?hCn ?_; (case hCn => exact H2); clear hQQ QQ)
      clear hs
      (repeat (first | (apply wpW_light; (case h => (intro wa; (first | (go_big_quiet_skip; exact wpQuiet_nil rfl) | (go_big_quiet_want; go_big_quiet_op; go_big_quiet_on; exact wpQuiet_nil rfl))))) | (apply wpW_here; (case h => (first | (go_big_quiet_skip; exact wpQuiet_nil rfl) | (go_big_quiet_want; go_big_quiet_op; go_big_quiet_on; exact wpQuiet_nil rfl)))) | (apply wpW_held; (case hC => assumption); (case h => (intro wa hCa; simp only [] at hCa; (first | (go_big_quiet_skip; exact wpQuiet_nil rfl) | (go_big_quiet_want; go_big_quiet_op; go_big_quiet_on; exact wpQuiet_nil rfl)))))))
      refine wpW_nil ?_
      have hd9 := Go.Lib.hid (hd8.out.below H2 ltd)
      have hB9 := Go.Lib.hid (hB8.out.trans (H2.mono hz8.out))
      have ltd9 := hd9.out.lt
      have hz9 : Hid (xd ≤ q2.heap.size) := Go.Lib.hid (Nat.le_of_lt ltd9)
      clear H0 H1 H2 hd8 hB8 ltd hz8
      obtain ⟨w9b, hw⟩ : ∃ w, w = q2 := ⟨_, rfl⟩
      subst hw
      go_upto_region 32 with (fail)
      refine wp_region_ord (fun w' => Below w9b.heap.size w9b w') [(1, 0), (2, 0), (3, 0), (0, 2), (4, 2), (5, 4), (6, 0), (7, 0), (8, 0), (9, 0), (10, 0)] (by kernel_rfl) (by kernel_rfl) ?hC0 ?_
      case hC0 => exact (Below.refl _ _).drew
      simp only [pick, nth]
      refine wpW_name ?_
      intro q0 hq0
      have hB0 : Below w9b.heap.size w9b q0 := by rw [hq0]; exact (Below.refl _ _).drew
      clear hq0
      (repeat (first | (apply wpW_light; (case h => (intro wa; (first | (go_big_quiet_skip; exact wpQuiet_nil rfl) | (go_big_quiet_want; go_big_quiet_op; go_big_quiet_on; exact wpQuiet_nil rfl))))) | (apply wpW_here; (case h => (first | (go_big_quiet_skip; exact wpQuiet_nil rfl) | (go_big_quiet_want; go_big_quiet_op; go_big_quiet_on; exact wpQuiet_nil rfl)))) | (apply wpW_held; (case hC => assumption); (case h => (intro wa hCa; (obtain ⟨v0, v1, v2, v3, v4, v5, v6, v7⟩ := (hd9.out.below hCa ltd9).cells; have hca := (Below.cell (hB9.out.trans (hCa.mono hz9.out)) (p := ⟨lb, lo + j, none⟩) hlblt).trans hcell'.out; clear hCa); (first | (go_big_quiet_skip; exact wpQuiet_nil rfl) | (go_big_quiet_want; go_big_quiet_op; go_big_quiet_on; exact wpQuiet_nil rfl)))))))
      refine wpW_last (fun QQ hQQ => ?_) (by rfl)
      go_wp2_with (go_at_call 28; with_reducible refine (lng'.out _).mono ?_; rintro e q1 ⟨rfl, hs⟩; have hB1 := hB0.trans (hs.mono hB0.size))
      (refine hQQ.out _ _ ?_; clear hQQ QQ)
      clear hs
      (repeat (first | (apply wpW_light; (case h => (intro wa; (first | (go_big_quiet_skip; exact wpQuiet_nil rfl) | (go_big_quiet_want; go_big_quiet_op; go_big_quiet_on; exact wpQuiet_nil rfl))))) | (apply wpW_here; (case h => (first | (go_big_quiet_skip; exact wpQuiet_nil rfl) | (go_big_quiet_want; go_big_quiet_op; go_big_quiet_on; exact wpQuiet_nil rfl)))) | (apply wpW_held; (case hC => assumption); (case h => (intro wa hCa; simp only [] at hCa; (first | (go_big_quiet_skip; exact wpQuiet_nil rfl) | (go_big_quiet_want; go_big_quiet_op; go_big_quiet_on; exact wpQuiet_nil rfl)))))))
      refine wpW_nil ?_
      have hdA := Go.Lib.hid (hd9.out.below hB1 ltd9)
      have hBA := Go.Lib.hid (hB9.out.trans (hB1.mono hz9.out))
      have ltdA := hdA.out.lt
      obtain ⟨wA, hw⟩ : ∃ w, w = q1 := ⟨_, rfl⟩
      subst hw
      have hzA : Hid (xd ≤ wA.heap.size) := Go.Lib.hid (Nat.le_of_lt ltdA)
      clear hB1 hB0 hd9 hB9 ltd9 hz9
      go_upto_region 33 with (fail)
      go_cut [30, 31] (fun s30 s31 wx => ∃ x30 : Nat, s30 = .pointer (some ⟨x30, 0, none⟩) ∧ s31 = .int .i64 0 ∧ wA.heap.size ≤ x30 ∧ Below wA.heap.size wA wx ∧ DuAt wx x30 (E2.k0 : Int) (E2.k1 : Int) (E2.s0 : Int) (E2.s1 : Int))
      case first =>
        refine wp_region_ord2 (fun w' => Below wA.heap.size wA w') 5 9 [(1, 0), (2, 0), (3, 0), (0, 2), (4, 2), (5, 4), (6, 0), (7, 0), (8, 0), (9, 4), (10, 4), (11, 0)] [(1, 0), (2, 0), (3, 0), (0, 2), (4, 2), (9, 3), (5, 4), (6, 0), (7, 0), (8, 0), (10, 4), (11, 0)] (by kernel_rfl) (by decide) (by kernel_rfl) (by kernel_rfl) ?hC0 ?_ ?_
        case hC0 => exact (Below.refl _ _).drew
        ·
          simp only [pick, nth]
          refine wpW_name ?_
          intro q0 hq0
          have hB0 : Below wA.heap.size wA q0 := by rw [hq0]; exact (Below.refl _ _).drew
          clear hq0
          (repeat (first | (apply wpW_light; (case h => (intro wa; (first | (go_big_quiet_skip; exact wpQuiet_nil rfl) | (go_big_quiet_want; go_big_quiet_op; go_big_quiet_on; exact wpQuiet_nil rfl))))) | (apply wpW_here; (case h => (first | (go_big_quiet_skip; exact wpQuiet_nil rfl) | (go_big_quiet_want; go_big_quiet_op; go_big_quiet_on; exact wpQuiet_nil rfl)))) | (apply wpW_held; (case hC => assumption); (case h => (intro wa hCa; (obtain ⟨v0, v1, v2, v3, v4, v5, v6, v7⟩ := (hdA.out.below hCa ltdA).cells; have hca := (Below.cell (hBA.out.trans (hCa.mono hzA.out)) (p := ⟨lb, lo + j, none⟩) hlblt).trans hcell'.out; clear hCa); (first | (go_big_quiet_skip; exact wpQuiet_nil rfl) | (go_big_quiet_want; go_big_quiet_op; go_big_quiet_on; exact wpQuiet_nil rfl)))))))
          refine wpW_last (fun QQ hQQ => ?_) (by rfl)
          go_wp2_with (go_at_call 29; with_reducible refine (lrn'.out _).mono ?_; rintro e q1 ⟨rfl, hs⟩; have hB1 := hB0.trans (hs.mono hB0.size))
          (refine hQQ.out _ _ ?_; clear hQQ QQ)
          clear hs
          (repeat (first | (apply wpW_light; (case h => (intro wa; (first | (go_big_quiet_skip; exact wpQuiet_nil rfl) | (go_big_quiet_want; go_big_quiet_op; go_big_quiet_on; exact wpQuiet_nil rfl))))) | (apply wpW_here; (case h => (first | (go_big_quiet_skip; exact wpQuiet_nil rfl) | (go_big_quiet_want; go_big_quiet_op; go_big_quiet_on; exact wpQuiet_nil rfl)))) | (apply wpW_held; (case hC => assumption); (case h => (intro wa hCa; simp only [] at hCa; (first | (go_big_quiet_skip; exact wpQuiet_nil rfl) | (go_big_quiet_want; go_big_quiet_op; go_big_quiet_on; exact wpQuiet_nil rfl)))))))
          refine wpW_last (fun QQ hQQ => ?_) (by rfl)
          go_wp2
          (refine hQQ.out _ _ ?_; clear hQQ QQ)
          refine wpW_name ?_
          intro q2 hq
          have hB2 : Below wA.heap.size wA q2 := by rw [hq]; exact hB1.alloc hB1.size _
          have gx : wA.heap.size ≤ q1.heap.size := hB1.size
          have n2x : DuAt q2 q1.heap.size 0 0 0 0 := by rw [hq]; exact duat1 q1 _ _ _ _
          clear hq
          obtain ⟨c0, c1, c2, c3, c4, c5, c6, c7⟩ := n2x.cells
          refine wpW_last (fun QQ hQQ => ?_) (by rfl)
          go_wp2
          (refine hQQ.out _ _ ?_; clear hQQ QQ)
          refine wpW_name ?_
          intro q3 hq
          have hB3 : Below wA.heap.size wA q3 := by rw [hq]; exact (((hB2.setCell gx _).setCell gx _).setCell gx _).setCell gx _
          have n3x : DuAt q3 q1.heap.size (E2.k0 : Int) (E2.k1 : Int) (E2.s0 : Int) (E2.s1 : Int) := by rw [hq]; exact n2x.set _ _ _ _
          clear hq c0 c1 c2 c3 c4 c5 c6 c7
          (repeat (first | (apply wpW_light; (case h => (intro wa; (first | (go_big_quiet_skip; exact wpQuiet_nil rfl) | (go_big_quiet_want; go_big_quiet_op; go_big_quiet_on; exact wpQuiet_nil rfl))))) | (apply wpW_here; (case h => (first | (go_big_quiet_skip; exact wpQuiet_nil rfl) | (go_big_quiet_want; go_big_quiet_op; go_big_quiet_on; exact wpQuiet_nil rfl)))) | (apply wpW_held; (case hC => assumption); (case h => (intro wa hCa; simp only [] at hCa; (first | (go_big_quiet_skip; exact wpQuiet_nil rfl) | (go_big_quiet_want; go_big_quiet_op; go_big_quiet_on; exact wpQuiet_nil rfl)))))))
          refine wpW_nil ?_
          go_wp2_with (fail)
          go_meet
          exact ⟨_, rfl, rfl, gx, hB3, n3x⟩
        ·
          simp only [pick, nth]
          refine wpW_name ?_
          intro q0 hq0
          have hB0 : Below wA.heap.size wA q0 := by rw [hq0]; exact (Below.refl _ _).drew
          clear hq0
          (repeat (first | (apply wpW_light; (case h => (intro wa; (first | (go_big_quiet_skip; exact wpQuiet_nil rfl) | (go_big_quiet_want; go_big_quiet_op; go_big_quiet_on; exact wpQuiet_nil rfl))))) | (apply wpW_here; (case h => (first | (go_big_quiet_skip; exact wpQuiet_nil rfl) | (go_big_quiet_want; go_big_quiet_op; go_big_quiet_on; exact wpQuiet_nil rfl)))) | (apply wpW_held; (case hC => assumption); (case h => (intro wa hCa; (obtain ⟨v0, v1, v2, v3, v4, v5, v6, v7⟩ := (hdA.out.below hCa ltdA).cells; have hca := (Below.cell (hBA.out.trans (hCa.mono hzA.out)) (p := ⟨lb, lo + j, none⟩) hlblt).trans hcell'.out; clear hCa); (first | (go_big_quiet_skip; exact wpQuiet_nil rfl) | (go_big_quiet_want; go_big_quiet_op; go_big_quiet_on; exact wpQuiet_nil rfl)))))))
          refine wpW_act (fun QQ hQQ => ?_) (by rfl)
          go_wp2
          (refine hQQ _ _ ?hCn ?_; (case hCn => exact hB0.alloc hB0.size _); clear hQQ QQ)
          refine wpW_name ?_
          intro q1 hq
          have hB1 : Below wA.heap.size wA q1 := by rw [hq]; exact hB0.alloc hB0.size _
          have gx : wA.heap.size ≤ q0.heap.size := hB0.size
          have n1x : DuAt q1 q0.heap.size 0 0 0 0 := by rw [hq]; exact duat1 q0 _ _ _ _
          clear hq
          refine wpW_last (fun QQ hQQ => ?_) (by rfl)
          go_wp2_with (go_at_call 29; with_reducible refine (lrn'.out _).mono ?_; rintro e q2 ⟨rfl, hs⟩; have hB2 := hB1.trans (hs.mono hB1.size))
          (refine hQQ.out _ _ ?_; clear hQQ QQ)
          have n2x := n1x.below hs n1x.lt
          clear hs
          (repeat (first | (apply wpW_light; (case h => (intro wa; (first | (go_big_quiet_skip; exact wpQuiet_nil rfl) | (go_big_quiet_want; go_big_quiet_op; go_big_quiet_on; exact wpQuiet_nil rfl))))) | (apply wpW_here; (case h => (first | (go_big_quiet_skip; exact wpQuiet_nil rfl) | (go_big_quiet_want; go_big_quiet_op; go_big_quiet_on; exact wpQuiet_nil rfl)))) | (apply wpW_held; (case hC => assumption); (case h => (intro wa hCa; simp only [] at hCa; (first | (go_big_quiet_skip; exact wpQuiet_nil rfl) | (go_big_quiet_want; go_big_quiet_op; go_big_quiet_on; exact wpQuiet_nil rfl)))))))
          obtain ⟨c0, c1, c2, c3, c4, c5, c6, c7⟩ := n2x.cells
          refine wpW_last (fun QQ hQQ => ?_) (by rfl)
          go_wp2
          (refine hQQ.out _ _ ?_; clear hQQ QQ)
          refine wpW_name ?_
          intro q3 hq
          have hB3 : Below wA.heap.size wA q3 := by rw [hq]; exact (((hB2.setCell gx _).setCell gx _).setCell gx _).setCell gx _
          have n3x : DuAt q3 q0.heap.size (E2.k0 : Int) (E2.k1 : Int) (E2.s0 : Int) (E2.s1 : Int) := by rw [hq]; exact n2x.set _ _ _ _
          clear hq c0 c1 c2 c3 c4 c5 c6 c7
          (repeat (first | (apply wpW_light; (case h => (intro wa; (first | (go_big_quiet_skip; exact wpQuiet_nil rfl) | (go_big_quiet_want; go_big_quiet_op; go_big_quiet_on; exact wpQuiet_nil rfl))))) | (apply wpW_here; (case h => (first | (go_big_quiet_skip; exact wpQuiet_nil rfl) | (go_big_quiet_want; go_big_quiet_op; go_big_quiet_on; exact wpQuiet_nil rfl)))) | (apply wpW_held; (case hC => assumption); (case h => (intro wa hCa; simp only [] at hCa; (first | (go_big_quiet_skip; exact wpQuiet_nil rfl) | (go_big_quiet_want; go_big_quiet_op; go_big_quiet_on; exact wpQuiet_nil rfl)))))))
          refine wpW_nil ?_
          go_wp2_with (fail)
          go_meet
          exact ⟨_, rfl, rfl, gx, hB3, n3x⟩
      case rest =>
      obtain ⟨x30, rfl, rfl, gx, hB, hx30⟩ := hcut
      obtain ⟨wB, hw⟩ : ∃ w, w = wc := ⟨_, rfl⟩
      subst hw
      have hdB := hdA.out.below hB ltdA
      have hBB := Go.Lib.hid (hBA.out.trans (hB.mono hzA.out))
      have hne : xd ≠ x30 := by omega
      have hdB' := Go.Lib.hid hdB
      have hecell := (Below.cell hBB.out (p := ⟨eb, eo + j, none⟩) heb).trans hecell'.out
      obtain ⟨f0, f1, f2, f3, f4, f5, f6, f7⟩ := hdB.cells
      obtain ⟨g0, g1, g2, g3, g4, g5, g6, g7⟩ := hx30.cells
      clear hdB hB hx30 hdA hBA
      go_wp2
      go_roundg (ll - (j + 1))
      case measure => (have hgk := hgo.out; omega)
      case rel =>
        refine ⟨j + 1, by omega, rfl, by go_num, outp hBB.out (Nat.le_refl _), ?_⟩
        rw [hats2.out]
        exact hdB'.out.set E2.k0 E2.k1 E2.s0 E2.s1
    · obtain rfl : j = ll := by omega
      have hlt' : ¬ (j : Int) < j := by omega
      have hxdd := hxd'.out
      have hwl : w11.heap.size ≤ xd := by omega
      have htk : m.take j = m := List.take_of_length_le (by rw [hm0.out]; exact Nat.le_refl _)
      rw [htk, ← hEA0.out] at hd
      have hd := Go.Lib.hid hd
      have Rl := Go.Lib.hid (Rl.out.below hB hwl)
      have Rp := Go.Lib.hid (Rp.out.below hB hwl)
      have gr := Go.Lib.hid (gr.out.below hB hwl)
      have sx := Go.Lib.hid (sx.out.below hB (by omega))
      have HW := Go.Lib.hid (HW.out.trans (hB.mono (by have := HW.out.size; omega)))
      have q1 := sameD_self EA.k0 EA.k1 EA.s0 EA.s1
      have nxd : xs ≠ xd := by omega
      clear hB htk hxdd hwl
      go_upto_region 39 with (go_at_call 21; with_reducible refine (sm.out _ _ _ Rl.out gr.out).mono ?_; rintro e w12 ⟨rfl, hb⟩; have Rp := Go.Lib.hid (Rp.out.below hb (Nat.le_refl _)); have H12 := Go.Lib.hid (HW.out.trans (hb.mono HW.out.size)); obtain ⟨i0, i1, i2, i3, i4, i5, i6, i7, i8, i9, i10, i11, i12, i13⟩ := (sx.out.below hb sx.out.lt).cells; obtain ⟨f0, f1, f2, f3, f4, f5, f6, f7⟩ := (hd.out.below hb hd.out.lt).cells; clear hb)
      clear i0 i1 i2 i3 i4 i5 i6 i7 i8 i9 i10 i11 i12 i13 f0 f1 f2 f3 f4 f5 f6 f7 sx hd gr Rl HW q1
      rcases (show t < 0 ∨ (¬ t < 0 ∧ (PL : Int) ≤ t) ∨ (¬ t < 0 ∧ ¬ (PL : Int) ≤ t) by omega) with ht | ⟨ht, ht2⟩ | ⟨ht, ht2⟩
      · go_wp2
        go_ret
        exact ⟨rfl, H12.out⟩
      · go_wp2
        go_ret
        exact ⟨rfl, H12.out⟩
      · obtain ⟨pos, rfl⟩ : ∃ n : Nat, t = n := ⟨t.toNat, by omega⟩
        have hpos : pos < PL := by omega
        obtain ⟨d, hdv⟩ : ∃ d : Nat, Z.getD pos 0 = d := ⟨(Z.getD pos 0).toNat, by have := getD_bd hwfZ.out pos; omega⟩
        have hd8 : d < 256 := by have := getD_bd hwfZ.out pos; omega
        have hF := (Flip.zero hwfZ.out (8 * pos + 6) 1).on (by decide) (by rw [hZlen.out]; omega) (d := d) (by rw [show (8 * pos + 6 + 0) / 8 = pos by omega]; exact hdv) hd8
        rw [show (8 * pos + 6 + 0) / 8 = pos by omega, show (8 * pos + 6 + 0) % 8 = 6 by omega] at hF
        have hno : ¬ rightB (Z.set pos ((d ^^^ 2 ^ 6 : Nat) : Int)) := fun h => by
          have := (flip_right hF hwfZ.out (by decide) (by rw [hZlen.out]; omega) hrt.out).1 h
          revert this; decide
        have hFw := Go.Lib.hid hF.wf
        rw [show 2 ^ 6 = 64 from rfl] at hno hFw
        have u2 : Hid (∀ w b c, Row .u8 w b PL c (Z.set pos ((d ^^^ 64 : Nat) : Int)) → Calls Try.prog 31 #[.slice b PL c] w fun r W' => ∃ b' c', r = .returned (.tuple #[.agg #[.slice b' 0 c', .int .i64 0], .int .i64 22]) ∧ Row .u8 W' b' 0 c' [] ∧ Below w.heap.size w W') := Go.Lib.hid fun w b c hw => KUnpack_no w b PL c _ hw (by omega) (by omega) hno
        clear hF hno
        have wfZ' := Go.Lib.hid (u8_wf hwfZ.out)
        go_upto_region 42 with (at_builtin; refine law_appendRow elU8 _ rfl _ _ rfl w12.heap.size _ 0 [] rfl (own_empty w12 5 .u8) b3 PL cp3 Z rfl (Rp.out.below (below1 w12 (.cells #[] 5)) (Nat.le_refl _)) (by omega) (by simp) ?_; intro v5 w13 hown hbx; simp only [Nat.zero_add, List.nil_append] at hown; obtain ⟨o5, p5, rfl⟩ := own_form hown; have hb := (below1 w12 (.cells #[] 5)).trans hbx; have H13 := Go.Lib.hid (H12.out.trans (hb.mono H12.out.size)); have O5 := Go.Lib.hid hown; clear hbx hb hown)
        have hown := O5.out
        obtain ⟨g, hgo, hg1, hg2⟩ : ∃ g, o5 = some ⟨g, 0, none⟩ ∧ w12.heap.size ≤ g ∧ g < w13.heap.size := by
          obtain ⟨g, c, e, h1, h2⟩ := own_pos hown (by omega)
          cases e
          exact ⟨g, rfl, h1, h2⟩
        subst hgo
        have hlz := hZlen.out
        have hc1 := hown.cellAt pos (by omega)
        have hf1 := hown.frozenAt pos
        rw [show (nums .u8 Z)[pos]? = some (.int .u8 (d : Int)) by rw [← hdv]; simp [nums, List.getD, show pos < Z.length by omega]] at hc1
        have ox : Go.bits .xor .u8 (d : Int) 64 = ((d ^^^ 64 : Nat) : Int) := Go.u8_xor_nat d 64 hd8 (by decide)
        have hst := ((hown.stored pos (.int .u8 ((d ^^^ 64 : Nat) : Int))).1)
        rw [nums_set] at hst
        have RZ := Go.Lib.hid (Row.of_own hst (u8_wf hFw.out))
        have HZ := Go.Lib.hid (H13.out.setCell (p := ⟨g, pos, none⟩) (Nat.le_trans H12.out.size hg1) (.int .u8 ((d ^^^ 64 : Nat) : Int)))
        clear hst hown O5 hdv hlz
        go_wp2_with (go_at_call 31; with_reducible refine (u2.out _ _ _ ?h1).mono ?_; (case h1 => exact RZ.out); rintro e w14 ⟨b14, c14, rfl, -, hb⟩; have H14 := Go.Lib.hid (HZ.out.trans (hb.mono HZ.out.size)); clear hb)
        go_ret
        exact ⟨rfl, H14.out.alloc H14.out.size _⟩

theorem topCodes_walk (ax0 : Option Addr) (lenx0 capx0 : Nat) (zx0 : List Int) (x1 : Int) (W : World) (wx0 : IsRow .u32 W ax0 lenx0 capx0 zx0) (wx1 : (Lit.int .i64 x1).wf = true) :
    Calls Try.prog 9 #[.slice ax0 lenx0 capx0, .int .i64 x1] W fun e w' => e = .returned (.bool true) ∧ Below W.heap.size W w' := by
  have hl := Row.of_isRow wx0
  have hm := Nat.le_trans hl.hcap hl.hmax
  unfold maxLen at hm
  by_cases h : (40 : Int) < lenx0
  · exact topCodes_out W _ _ _ _ (by omega) h
  · obtain ⟨m, h2, h3⟩ := nats_of hl.wf
    exact topCodes_in W _ _ _ _ m _ hl (by omega) h2 (by rw [← hl.hlen, h2, List.length_map]) h3
end Go.Proofs.Ythbjcjphplgobaa
