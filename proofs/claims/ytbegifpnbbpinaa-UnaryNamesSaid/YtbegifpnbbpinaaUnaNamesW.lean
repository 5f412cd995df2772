/- UnaryNames: the chapter's examples, limits and errors. -/
import Derived.Test.YtbegifpnbbpinaaUnaL
namespace Go.Proofs.Ytbegifpnbbpinaa
open Go.RowKit Cad

theorem byteN_false (n j : Nat) : byteN (List.replicate n false) j = 0 := by
  have h : ∀ i, (List.replicate n false).getD i false = false := fun i => by
    by_cases hi : i < n
    · simp [List.getD, hi]
    · rw [getD_ge]; simp; omega
  unfold byteN
  rw [h, h, h, h, h, h, h, h]; rfl
theorem rep_true (k i : Nat) (h : i < k) : (List.replicate k true).getD i false = true := by simp [List.getD, h]
theorem pack_false (k : Nat) : pack (List.replicate (8 * k) false) = List.replicate k 0 := by
  apply List.ext_getElem
  · rw [pack_len]; simp; omega
  · intro i h1 h2
    simp [pack, byteN_false]

set_option maxRecDepth 100000 in
set_option maxHeartbeats 4000000 in
theorem unaryNames_in (W : World) (n41 n330 : Nat) (hn41 : (41250 : Int) = n41) (hn330 : (330000 : Int) = n330) :
    Calls Try.prog 3 #[] W fun e w' => e = .returned (.bool true) ∧ Below W.heap.size W w' := by
  have hn1 : n41 = 41250 := by omega
  have hn2 : n330 = 330000 := by omega
  have hnb : n41 ≤ 17592186044416 := by omega
  have hzw : Hid (∀ x ∈ List.replicate n41 (0 : Int), (Lit.int .u8 x).wf = true) := Go.Lib.hid (u8_wf fun x hx => by rw [List.eq_of_mem_replicate hx]; omega)
  obtain ⟨Z, hZ⟩ : ∃ Z, Z = List.replicate n330 false := ⟨_, rfl⟩
  have lZ : Z.length = n330 := by rw [hZ, List.length_replicate]
  have pZ : pack Z = List.replicate n41 0 := by rw [hZ, show n330 = 8 * n41 by omega, pack_false]
  have hv0 : Valid [] 0 := ⟨[], rfl, by simp, rfl⟩
  have hv1 : ¬ Valid [] 1 := fun h => by have := h.n; simp at this
  have hnil : pack [] = [] := rfl
  have lb : Hid (∀ (w : World) (v : Int), (Lit.int .i64 v).wf = true → (v < 0 ∨ 48 < v) → Calls Try.prog 10 #[.int .i64 v] w fun e W' => e = .returned (.tuple #[.int .i64 0, .int .i64 2]) ∧ w = W') := Go.Lib.hid fun w v h1 h2 => ULength_arg w v h1 h2
  have wb : Hid (∀ (w : World) (v : Int), (Lit.int .i64 v).wf = true → (v < 0 ∨ 48 < v) → Calls Try.prog 11 #[.agg #[.slice none 0 0, .int .i64 0], .int .i64 v] w fun e W' => e = .returned (.tuple #[.agg #[.slice none 0 0, .int .i64 0], .int .i64 2]) ∧ Below w.heap.size w W') := Go.Lib.hid fun w v h1 h2 =>
    UWrite_arg w none 0 0 0 [] v (Row.nil_row _ _) (by decide) hv0 h1 h2
  have c1 : Hid (∀ (w : World), Calls Try.prog 11 #[.agg #[.slice none 0 0, .int .i64 1], .int .i64 (-1)] w fun e W' => ∃ b c, e = .returned (.tuple #[.agg #[.slice b 0 c, .int .i64 0], .int .i64 8]) ∧ Row .u8 W' b 0 c [] ∧ Below w.heap.size w W') := Go.Lib.hid fun w =>
    (UWrite_bad w none 0 0 1 [] (-1) (Row.nil_row _ _) (by decide) hv1).mono fun e w' ⟨h1, h2⟩ => ⟨none, 0, h1, Row.nil_row _ _, h2⟩
  have c2 : Hid (∀ (w : World), Calls Try.prog 12 #[.agg #[.slice none 0 0, .int .i64 1], .int .i64 (-1)] w fun e W' => e = .returned (.tuple #[.int .i64 0, .int .i64 0, .int .i64 8]) ∧ Below w.heap.size w W') := Go.Lib.hid fun w =>
    URead_bad w none 0 0 1 [] (-1) (Row.nil_row _ _) (by decide) (by decide) hv1
  have c3 : Hid (∀ (w : World), Calls Try.prog 12 #[.agg #[.slice none 0 0, .int .i64 0], .int .i64 (-1)] w fun e W' => e = .returned (.tuple #[.int .i64 0, .int .i64 0, .int .i64 2]) ∧ Below w.heap.size w W') := Go.Lib.hid fun w =>
    URead_out w none 0 0 0 [] (-1) 2 (Row.nil_row _ _) (by decide) (by decide) hv0 (.inl ⟨by decide, rfl⟩)
  have c4 : Hid (∀ (w : World), Calls Try.prog 12 #[.agg #[.slice none 0 0, .int .i64 0], .int .i64 0] w fun e W' => e = .returned (.tuple #[.int .i64 0, .int .i64 0, .int .i64 24]) ∧ Below w.heap.size w W') := Go.Lib.hid fun w =>
    URead_out w none 0 0 0 [] 0 24 (Row.nil_row _ _) (by decide) (by decide) hv0 (.inr ⟨by decide, by decide, rfl⟩)
  obtain ⟨O, hO⟩ : ∃ O, O = List.replicate 47 true := ⟨_, rfl⟩
  have lO : O.length = 47 := by rw [hO, List.length_replicate]
  have c5 : Hid (∀ (w : World), Calls Try.prog 13 #[.agg #[.slice none 0 0, .int .i64 0], .int .u64 140737488355327, .int .i64 47] w fun e W' => ∃ b c, e = .returned (.tuple #[.agg #[.slice b 6 c, .int .i64 47], .int .i64 0]) ∧ Row .u8 W' b 6 c (pack O) ∧ Below w.heap.size w W') := Go.Lib.hid fun w => by
    have := BPut_ok w none 0 0 [] 140737488355327 47 (by rw [hnil]; exact Row.nil_row _ _) (by simp) (by omega) (by decide)
    have e : numB 140737488355327 47 = O := by
      have h := numB_ones 47 47 (Nat.le_refl _)
      rw [show 2 ^ 47 - 1 = 140737488355327 by decide] at h
      rw [h, hO]; simp
    rw [List.nil_append, e] at this
    exact this
  have c6 : Hid (∀ (w : World) b c, Row .u8 w b 6 c (pack O) → Calls Try.prog 12 #[.agg #[.slice b 6 c, .int .i64 47], .int .i64 0] w fun e W' => e = .returned (.tuple #[.int .i64 0, .int .i64 0, .int .i64 24]) ∧ Below w.heap.size w W') := Go.Lib.hid fun w b c h => by
    have e : readV O 0 = (0, 0, 24) := by
      refine readV_short (n := 47) ?_ (by decide) (by omega)
      rw [List.drop_zero]
      refine lead_eq _ _ _ (by decide) (fun i hi => ?_) (fun _ => getD_ge _ _ (by omega)) (by omega)
      rw [hO]; exact rep_true _ _ hi
    have := URead_le w b 6 c O 0 h (by omega) (Nat.zero_le _) _ _ _ e
    rw [lO] at this
    exact this
  have c7 : Hid (∀ (w : World) b c, Row .u8 w b 6 c (pack O) → Calls Try.prog 12 #[.agg #[.slice b 6 c, .int .i64 47], .int .i64 9223372036854775807] w fun e W' => e = .returned (.tuple #[.int .i64 0, .int .i64 0, .int .i64 24]) ∧ Below w.heap.size w W') := Go.Lib.hid fun w b c h =>
    URead_out w b 6 c 47 (pack O) 9223372036854775807 24 h (by decide) (by decide) ⟨O, by rw [lO]; rfl, by omega, rfl⟩ (.inr ⟨by decide, by decide, rfl⟩)
  have c8 : Hid (∀ (w : World) b c, Row .u8 w b n41 c (List.replicate n41 0) → Calls Try.prog 14 #[.slice b n41 c] w fun e W' => ∃ b c, e = .returned (.tuple #[.agg #[.slice b n41 c, .int .i64 n330], .int .i64 0]) ∧ Row .u8 W' b n41 c (pack Z) ∧ Below w.heap.size w W') := Go.Lib.hid fun w b c h => by
    refine (BOf_ok w b n41 c _ h (by omega)).mono ?_
    rintro e w' ⟨v', rfl, h1, h2⟩
    obtain ⟨a1, p1, rfl⟩ := own_form h1
    exact ⟨a1, p1, by rw [show 8 * (n41 : Int) = n330 by omega], by rw [pZ]; exact Row.of_own h1 hzw.out, h2⟩
  have c9 : Hid (∀ (w : World) b c, Row .u8 w b n41 c (pack Z) → Calls Try.prog 11 #[.agg #[.slice b n41 c, .int .i64 n330], .int .i64 0] w fun e W' => ∃ b c, e = .returned (.tuple #[.agg #[.slice b 0 c, .int .i64 0], .int .i64 18]) ∧ Row .u8 W' b 0 c [] ∧ Below w.heap.size w W') := Go.Lib.hid fun w b c h => by
    have := UWrite_full w b n41 c Z 0 h (by omega) (by rw [lZ, hn2]; decide) (by decide)
    rw [lZ] at this
    exact this.mono fun e w' ⟨h1, h2⟩ => ⟨none, 0, h1, Row.nil_row _ _, h2⟩
  have c10 : Hid (∀ (w : World) b c, Row .u8 w b n41 c (pack Z) → Calls Try.prog 12 #[.agg #[.slice b n41 c, .int .i64 n330], .int .i64 329999] w fun e W' => e = .returned (.tuple #[.int .i64 0, .int .i64 n330, .int .i64 0]) ∧ Below w.heap.size w W') := Go.Lib.hid fun w b c h => by
    obtain ⟨i9, hi9⟩ : ∃ i9 : Nat, i9 = 329999 := ⟨_, rfl⟩
    have e : readV Z i9 = (0, i9 + 0 + 1, 0) := by
      refine readV_zero ?_ (by decide) (by omega)
      refine lead_eq _ _ _ (by decide) (fun i hi => absurd hi (by omega)) (fun _ => ?_) (Nat.zero_le _)
      rw [drop_getD, hZ]
      simp [List.getD, show i9 < n330 by omega]
    have := URead_le w b n41 c Z i9 h (by omega) (by omega) _ _ _ e
    rw [lZ, show ((i9 : Nat) : Int) = 329999 by omega, show ((i9 + 0 + 1 : Nat) : Int) = (n330 : Int) by omega] at this
    exact this
  have hq : (((n330 : Int)) == 330000) = true := by rw [beq_iff_eq]; omega
  have hn330' := Go.Lib.hid hn330
  clear hn1 hn2 hZ lZ pZ hv0 hv1 hnil hO lO hn330
  go_enter Try.func3, Try.ntmps3
  go_wp2
  go_loopw [1] (fun i wr => ∃ v : Int, -1 ≤ v ∧ v ≤ 50 ∧ i = .int .i64 v ∧ Below W.heap.size W wr) (fun i _ => (50 - intOf i).toNat)
  case atStart => exact ⟨-1, by decide, by decide, rfl, Below.refl _ _⟩
  case round =>
    obtain ⟨v, hv1, hv2, rfl, hb⟩ := hrel
    by_cases hend : v ≤ 49
    · by_cases hbad : v < 0 ∨ 48 < v
      · have hwf : (Lit.int .i64 v).wf = true := WalkArith.wf_i64 (by omega)
        have l1 := Go.Lib.hid fun w => lb.out w v hwf hbad
        have u1 := Go.Lib.hid fun w => wb.out w v hwf hbad
        have hb' := Go.Lib.hid hb
        have key : v < 0 ∨ (¬ v < 0 ∧ 48 < v) := by omega
        clear hbad hwf hb
        rcases key with h | ⟨h, h'⟩
        all_goals
          go_wp2_with (first
            | (go_at_call 10; with_reducible refine (l1.out _).mono ?_; rintro e w5 ⟨rfl, rfl⟩)
            | (go_at_call 11; with_reducible refine (u1.out _).mono ?_; rintro e w5 ⟨rfl, hb5⟩; have hb6 := Go.Lib.hid (hb'.out.trans (hb5.mono hb'.out.size)); clear hb5))
          go_roundw
          case rel => exact ⟨v + 1, by omega, by omega, by go_num, hb6.out.alloc hb6.out.size _⟩
          case measure => (simp [intOf] <;> omega)
      · obtain ⟨n, rfl⟩ : ∃ n : Nat, v = n := ⟨v.toNat, by omega⟩
        have hn48 : n ≤ 48 := by omega
        obtain ⟨A, hA⟩ : ∃ A, A = runLen n := ⟨_, rfl⟩
        obtain ⟨X, hX⟩ : ∃ X, X = runB n := ⟨_, rfl⟩
        have lX : X.length = A := by rw [hX, hA, runB_len hn48]
        obtain ⟨mn, hmn⟩ : ∃ q, q = (A + 7) / 8 := ⟨_, rfl⟩
        have ln : Hid (∀ w, Calls Try.prog 10 #[.int .i64 n] w fun r W' => r = .returned (.tuple #[.int .i64 A, .int .i64 0]) ∧ w = W') := Go.Lib.hid fun w => by rw [hA]; exact ULength_ok w n hn48
        have un := Go.Lib.hid fun w => UWrite_alone w n hn48 A mn n A rfl rfl hA.symm hmn.symm (pack X) (by rw [hX])
        have rd : Hid (∀ w b c, Row .u8 w b mn c (pack X) → Calls Try.prog 12 #[.agg #[.slice b mn c, .int .i64 A], .int .i64 0] w fun e W' => e = .returned (.tuple #[.int .i64 n, .int .i64 A, .int .i64 0]) ∧ Below w.heap.size w W') := Go.Lib.hid fun w b c h => by
          have e := read_run [] [] hn48
          rw [List.nil_append, List.append_nil, ← hX, List.length_nil, Nat.zero_add, ← hA] at e
          have hA48 := runLen_le hn48
          have := URead_le w b mn c X 0 h (by omega) (Nat.zero_le _) _ _ _ e
          rw [lX] at this
          exact this
        have hA2 : n = 48 ∧ A = 48 ∨ n < 48 ∧ A = n + 1 := by rw [hA]; unfold runLen; split <;> omega
        have m1 : (if (48 : Int) < (n : Int) + 1 then (48 : Int) else (n : Int) + 1) = (A : Int) := by split <;> omega
        have m2 : (if 48 < n + 1 then (48 : Int) else (n : Int) + 1) = (A : Int) := by split <;> omega
        have m3 : (if 48 ≤ n then (48 : Int) else (n : Int) + 1) = (A : Int) := by split <;> omega
        have m4 : (if 47 < n then (48 : Int) else (n : Int) + 1) = (A : Int) := by split <;> omega
        have hb' := Go.Lib.hid hb
        have g1 : decide ((n : Int) < 0) = false := decide_eq_false (by omega)
        have g2 : decide ((48 : Int) < n) = false := decide_eq_false (by omega)
        clear hbad hb hA hX lX hmn hA2
        go_wp2_with (first
          | (go_at_call 10; with_reducible refine (ln.out _).mono ?_; rintro e w5 ⟨rfl, rfl⟩)
          | (go_at_call 11; with_reducible refine (un.out _).mono ?_; rintro e w5 ⟨b5, cp5, rfl, hr5, hb5⟩; have hb6 := Go.Lib.hid (hb'.out.trans (hb5.mono hb'.out.size)); have hr6 := Go.Lib.hid (hr5.below (below1 w5 (.cells #[.slice b5 mn cp5, .int .i64 A] 27)) (Nat.le_refl _)); have hx5 := Go.Lib.hid (box1 w5 (.slice b5 mn cp5) A); clear hb5 hr5)
          | (go_at_call 12; with_reducible refine (rd.out _ _ _ ?h1).mono ?_; (case h1 => exact hr6.out); rintro e w7 ⟨rfl, hb7⟩; have hb8 := Go.Lib.hid ((hb6.out.alloc hb6.out.size _).trans (hb7.mono (hb6.out.alloc hb6.out.size _).size)); obtain ⟨z0, z1, z2, z3⟩ := (hx5.out.below hb7 hx5.out.lt).cells; clear hb7))
        go_roundw
        case rel => exact ⟨n + 1, by omega, by omega, by go_num, hb8.out⟩
        case measure => (simp [intOf] <;> omega)
    · obtain rfl : v = 50 := by omega
      obtain ⟨w10, hw10⟩ : ∃ w10, w10 = wr := ⟨_, rfl⟩
      subst hw10
      have hW10 := Go.Lib.hid hb
      clear hb lb wb
      go_wp2_with (first
        | (go_at_call 11; ((with_reducible refine (c1.out _).mono ?_)); rintro e w11 ⟨b11, cp11, rfl, hr11, hb11⟩; have hWE11 := Go.Lib.hid (hW10.out.alloc hW10.out.size (.cells #[(.slice none 0 0), .int .i64 1] 27)); have hW11 := Go.Lib.hid (hWE11.out.trans (hb11.mono hWE11.out.size)); have R11_x := Go.Lib.hid hr11; clear hr11; have BE11_d := Go.Lib.hid (box1 w10 (.slice none 0 0) 1); have B11_d := Go.Lib.hid (BE11_d.out.below hb11 BE11_d.out.lt); obtain ⟨k11d0, k11d1, k11d2, k11d3⟩ := B11_d.out.cells; have l11d := B11_d.out.lt; have n11d : w10.heap.size ≠ w11.heap.size := (by omega); clear hb11)
        | (go_at_call 12; ((with_reducible refine (c2.out _).mono ?_)); rintro e w12 ⟨rfl, hb12⟩; have hWE12 := Go.Lib.hid (hW11.out.alloc hW11.out.size (.cells #[(.slice b11 0 cp11), .int .i64 0] 27)); have hW12 := Go.Lib.hid (hWE12.out.trans (hb12.mono hWE12.out.size)); have R12_x := Go.Lib.hid ((R11_x.out.below (below1 w11 (.cells #[(.slice b11 0 cp11), .int .i64 0] 27)) (Nat.le_refl _)).below hb12 (Nat.le_refl _)); have BE12_d := Go.Lib.hid (B11_d.out.alloc (.cells #[(.slice b11 0 cp11), .int .i64 0] 27)); have B12_d := Go.Lib.hid (BE12_d.out.below hb12 BE12_d.out.lt); obtain ⟨k12d0, k12d1, k12d2, k12d3⟩ := B12_d.out.cells; have BE12_x := Go.Lib.hid (box1 w11 (.slice b11 0 cp11) 0); have B12_x := Go.Lib.hid (BE12_x.out.below hb12 BE12_x.out.lt); obtain ⟨k12x0, k12x1, k12x2, k12x3⟩ := B12_x.out.cells; clear hb12)
        | (go_at_call 12; ((with_reducible refine (c3.out _).mono ?_)); rintro e w13 ⟨rfl, hb13⟩; have hWE13 := Go.Lib.hid hW12.out; have hW13 := Go.Lib.hid (hWE13.out.trans (hb13.mono hWE13.out.size)); have R13_x := Go.Lib.hid (R12_x.out.below hb13 (Nat.le_refl _)); have BE13_d := Go.Lib.hid B12_d.out; have B13_d := Go.Lib.hid (BE13_d.out.below hb13 BE13_d.out.lt); obtain ⟨k13d0, k13d1, k13d2, k13d3⟩ := B13_d.out.cells; have BE13_x := Go.Lib.hid B12_x.out; have B13_x := Go.Lib.hid (BE13_x.out.below hb13 BE13_x.out.lt); obtain ⟨k13x0, k13x1, k13x2, k13x3⟩ := B13_x.out.cells; clear hb13)
        | (go_at_call 12; ((with_reducible refine (c4.out _).mono ?_)); rintro e w14 ⟨rfl, hb14⟩; have hWE14 := Go.Lib.hid hW13.out; have hW14 := Go.Lib.hid (hWE14.out.trans (hb14.mono hWE14.out.size)); have R14_x := Go.Lib.hid (R13_x.out.below hb14 (Nat.le_refl _)); have BE14_d := Go.Lib.hid B13_d.out; have B14_d := Go.Lib.hid (BE14_d.out.below hb14 BE14_d.out.lt); obtain ⟨k14d0, k14d1, k14d2, k14d3⟩ := B14_d.out.cells; have BE14_x := Go.Lib.hid B13_x.out; have B14_x := Go.Lib.hid (BE14_x.out.below hb14 BE14_x.out.lt); obtain ⟨k14x0, k14x1, k14x2, k14x3⟩ := B14_x.out.cells; clear hb14)
        | (go_at_call 13; ((with_reducible refine (c5.out _).mono ?_)); rintro e w15 ⟨b15, cp15, rfl, hr15, hb15⟩; have hWE15 := Go.Lib.hid hW14.out; have hW15 := Go.Lib.hid (hWE15.out.trans (hb15.mono hWE15.out.size)); have R15_x := Go.Lib.hid (R14_x.out.below hb15 (Nat.le_refl _)); have R15_o := Go.Lib.hid hr15; clear hr15; have BE15_d := Go.Lib.hid B14_d.out; have B15_d := Go.Lib.hid (BE15_d.out.below hb15 BE15_d.out.lt); obtain ⟨k15d0, k15d1, k15d2, k15d3⟩ := B15_d.out.cells; have BE15_x := Go.Lib.hid B14_x.out; have B15_x := Go.Lib.hid (BE15_x.out.below hb15 BE15_x.out.lt); obtain ⟨k15x0, k15x1, k15x2, k15x3⟩ := B15_x.out.cells; have l15d := B15_d.out.lt; have n15d : w10.heap.size ≠ w15.heap.size := (by omega); have l15x := B15_x.out.lt; have n15x : w11.heap.size ≠ w15.heap.size := (by omega); clear hb15)
        | (go_at_call 12; ((with_reducible refine (c6.out _ _ _ ?h1).mono ?_)); (case h1 => exact (R15_o.out.below (below1 w15 (.cells #[(.slice b15 6 cp15), .int .i64 47] 27)) (Nat.le_refl _))); rintro e w16 ⟨rfl, hb16⟩; have hWE16 := Go.Lib.hid (hW15.out.alloc hW15.out.size (.cells #[(.slice b15 6 cp15), .int .i64 47] 27)); have hW16 := Go.Lib.hid (hWE16.out.trans (hb16.mono hWE16.out.size)); have R16_x := Go.Lib.hid ((R15_x.out.below (below1 w15 (.cells #[(.slice b15 6 cp15), .int .i64 47] 27)) (Nat.le_refl _)).below hb16 (Nat.le_refl _)); have R16_o := Go.Lib.hid ((R15_o.out.below (below1 w15 (.cells #[(.slice b15 6 cp15), .int .i64 47] 27)) (Nat.le_refl _)).below hb16 (Nat.le_refl _)); have BE16_d := Go.Lib.hid (B15_d.out.alloc (.cells #[(.slice b15 6 cp15), .int .i64 47] 27)); have B16_d := Go.Lib.hid (BE16_d.out.below hb16 BE16_d.out.lt); obtain ⟨k16d0, k16d1, k16d2, k16d3⟩ := B16_d.out.cells; have BE16_x := Go.Lib.hid (B15_x.out.alloc (.cells #[(.slice b15 6 cp15), .int .i64 47] 27)); have B16_x := Go.Lib.hid (BE16_x.out.below hb16 BE16_x.out.lt); obtain ⟨k16x0, k16x1, k16x2, k16x3⟩ := B16_x.out.cells; have BE16_o := Go.Lib.hid (box1 w15 (.slice b15 6 cp15) 47); have B16_o := Go.Lib.hid (BE16_o.out.below hb16 BE16_o.out.lt); obtain ⟨k16o0, k16o1, k16o2, k16o3⟩ := B16_o.out.cells; clear hb16)
        | (go_at_call 12; ((with_reducible refine (c7.out _ _ _ ?h1).mono ?_)); (case h1 => exact R16_o.out); rintro e w17 ⟨rfl, hb17⟩; have hWE17 := Go.Lib.hid hW16.out; have hW17 := Go.Lib.hid (hWE17.out.trans (hb17.mono hWE17.out.size)); have R17_x := Go.Lib.hid (R16_x.out.below hb17 (Nat.le_refl _)); have R17_o := Go.Lib.hid (R16_o.out.below hb17 (Nat.le_refl _)); have BE17_d := Go.Lib.hid B16_d.out; have B17_d := Go.Lib.hid (BE17_d.out.below hb17 BE17_d.out.lt); obtain ⟨k17d0, k17d1, k17d2, k17d3⟩ := B17_d.out.cells; have BE17_x := Go.Lib.hid B16_x.out; have B17_x := Go.Lib.hid (BE17_x.out.below hb17 BE17_x.out.lt); obtain ⟨k17x0, k17x1, k17x2, k17x3⟩ := B17_x.out.cells; have BE17_o := Go.Lib.hid B16_o.out; have B17_o := Go.Lib.hid (BE17_o.out.below hb17 BE17_o.out.lt); obtain ⟨k17o0, k17o1, k17o2, k17o3⟩ := B17_o.out.cells; clear hb17)
        | (at_make; refine law_make elU8 w17 rfl _ _ rfl .i64 .i64 41250 41250 n41 rfl rfl hn41 hn41 hnb ?_; intro w18 hown18 hb18 hs18; have hWE18 := Go.Lib.hid hW17.out; have hW18 := Go.Lib.hid (hWE18.out.trans (hb18.mono hWE18.out.size)); have R18_x := Go.Lib.hid (R17_x.out.below hb18 (Nat.le_refl _)); have R18_o := Go.Lib.hid (R17_o.out.below hb18 (Nat.le_refl _)); have BE18_d := Go.Lib.hid B17_d.out; have B18_d := Go.Lib.hid (BE18_d.out.below hb18 BE18_d.out.lt); obtain ⟨k18d0, k18d1, k18d2, k18d3⟩ := B18_d.out.cells; have BE18_x := Go.Lib.hid B17_x.out; have B18_x := Go.Lib.hid (BE18_x.out.below hb18 BE18_x.out.lt); obtain ⟨k18x0, k18x1, k18x2, k18x3⟩ := B18_x.out.cells; have BE18_o := Go.Lib.hid B17_o.out; have B18_o := Go.Lib.hid (BE18_o.out.below hb18 BE18_o.out.lt); obtain ⟨k18o0, k18o1, k18o2, k18o3⟩ := B18_o.out.cells; have R18_z := Go.Lib.hid (Row.of_own hown18 hzw.out); clear hown18 hb18 hs18)
        | (go_at_call 14; ((with_reducible refine (c8.out _ _ _ ?h1).mono ?_)); (case h1 => exact R18_z.out); rintro e w19 ⟨b19, cp19, rfl, hr19, hb19⟩; have hWE19 := Go.Lib.hid hW18.out; have hW19 := Go.Lib.hid (hWE19.out.trans (hb19.mono hWE19.out.size)); have R19_x := Go.Lib.hid (R18_x.out.below hb19 (Nat.le_refl _)); have R19_o := Go.Lib.hid (R18_o.out.below hb19 (Nat.le_refl _)); have R19_z := Go.Lib.hid (R18_z.out.below hb19 (Nat.le_refl _)); have R19_f := Go.Lib.hid hr19; clear hr19; have BE19_d := Go.Lib.hid B18_d.out; have B19_d := Go.Lib.hid (BE19_d.out.below hb19 BE19_d.out.lt); obtain ⟨k19d0, k19d1, k19d2, k19d3⟩ := B19_d.out.cells; have BE19_x := Go.Lib.hid B18_x.out; have B19_x := Go.Lib.hid (BE19_x.out.below hb19 BE19_x.out.lt); obtain ⟨k19x0, k19x1, k19x2, k19x3⟩ := B19_x.out.cells; have BE19_o := Go.Lib.hid B18_o.out; have B19_o := Go.Lib.hid (BE19_o.out.below hb19 BE19_o.out.lt); obtain ⟨k19o0, k19o1, k19o2, k19o3⟩ := B19_o.out.cells; have l19d := B19_d.out.lt; have n19d : w10.heap.size ≠ w19.heap.size := (by omega); have l19x := B19_x.out.lt; have n19x : w11.heap.size ≠ w19.heap.size := (by omega); have l19o := B19_o.out.lt; have n19o : w15.heap.size ≠ w19.heap.size := (by omega); clear hb19)
        | (go_at_call 11; ((with_reducible refine (c9.out _ _ _ ?h1).mono ?_)); (case h1 => exact (R19_f.out.below (below1 w19 (.cells #[(.slice b19 n41 cp19), .int .i64 n330] 27)) (Nat.le_refl _))); rintro e w20 ⟨b20, cp20, rfl, hr20, hb20⟩; have hWE20 := Go.Lib.hid (hW19.out.alloc hW19.out.size (.cells #[(.slice b19 n41 cp19), .int .i64 n330] 27)); have hW20 := Go.Lib.hid (hWE20.out.trans (hb20.mono hWE20.out.size)); have R20_x := Go.Lib.hid ((R19_x.out.below (below1 w19 (.cells #[(.slice b19 n41 cp19), .int .i64 n330] 27)) (Nat.le_refl _)).below hb20 (Nat.le_refl _)); have R20_o := Go.Lib.hid ((R19_o.out.below (below1 w19 (.cells #[(.slice b19 n41 cp19), .int .i64 n330] 27)) (Nat.le_refl _)).below hb20 (Nat.le_refl _)); have R20_z := Go.Lib.hid ((R19_z.out.below (below1 w19 (.cells #[(.slice b19 n41 cp19), .int .i64 n330] 27)) (Nat.le_refl _)).below hb20 (Nat.le_refl _)); have R20_f := Go.Lib.hid ((R19_f.out.below (below1 w19 (.cells #[(.slice b19 n41 cp19), .int .i64 n330] 27)) (Nat.le_refl _)).below hb20 (Nat.le_refl _)); have R20_g := Go.Lib.hid hr20; clear hr20; have BE20_d := Go.Lib.hid (B19_d.out.alloc (.cells #[(.slice b19 n41 cp19), .int .i64 n330] 27)); have B20_d := Go.Lib.hid (BE20_d.out.below hb20 BE20_d.out.lt); obtain ⟨k20d0, k20d1, k20d2, k20d3⟩ := B20_d.out.cells; have BE20_x := Go.Lib.hid (B19_x.out.alloc (.cells #[(.slice b19 n41 cp19), .int .i64 n330] 27)); have B20_x := Go.Lib.hid (BE20_x.out.below hb20 BE20_x.out.lt); obtain ⟨k20x0, k20x1, k20x2, k20x3⟩ := B20_x.out.cells; have BE20_o := Go.Lib.hid (B19_o.out.alloc (.cells #[(.slice b19 n41 cp19), .int .i64 n330] 27)); have B20_o := Go.Lib.hid (BE20_o.out.below hb20 BE20_o.out.lt); obtain ⟨k20o0, k20o1, k20o2, k20o3⟩ := B20_o.out.cells; have BE20_f := Go.Lib.hid (box1 w19 (.slice b19 n41 cp19) n330); have B20_f := Go.Lib.hid (BE20_f.out.below hb20 BE20_f.out.lt); obtain ⟨k20f0, k20f1, k20f2, k20f3⟩ := B20_f.out.cells; have l20d := B20_d.out.lt; have n20d : w10.heap.size ≠ w20.heap.size := (by omega); have l20x := B20_x.out.lt; have n20x : w11.heap.size ≠ w20.heap.size := (by omega); have l20o := B20_o.out.lt; have n20o : w15.heap.size ≠ w20.heap.size := (by omega); have l20f := B20_f.out.lt; have n20f : w19.heap.size ≠ w20.heap.size := (by omega); clear hb20)
        | (go_at_call 12; ((with_reducible refine (c10.out _ _ _ ?h1).mono ?_)); (case h1 => exact (R20_f.out.below (below1 w20 (.cells #[(.slice b20 0 cp20), .int .i64 0] 27)) (Nat.le_refl _))); rintro e w21 ⟨rfl, hb21⟩; have hWE21 := Go.Lib.hid (hW20.out.alloc hW20.out.size (.cells #[(.slice b20 0 cp20), .int .i64 0] 27)); have hW21 := Go.Lib.hid (hWE21.out.trans (hb21.mono hWE21.out.size)); have R21_x := Go.Lib.hid ((R20_x.out.below (below1 w20 (.cells #[(.slice b20 0 cp20), .int .i64 0] 27)) (Nat.le_refl _)).below hb21 (Nat.le_refl _)); have R21_o := Go.Lib.hid ((R20_o.out.below (below1 w20 (.cells #[(.slice b20 0 cp20), .int .i64 0] 27)) (Nat.le_refl _)).below hb21 (Nat.le_refl _)); have R21_z := Go.Lib.hid ((R20_z.out.below (below1 w20 (.cells #[(.slice b20 0 cp20), .int .i64 0] 27)) (Nat.le_refl _)).below hb21 (Nat.le_refl _)); have R21_f := Go.Lib.hid ((R20_f.out.below (below1 w20 (.cells #[(.slice b20 0 cp20), .int .i64 0] 27)) (Nat.le_refl _)).below hb21 (Nat.le_refl _)); have R21_g := Go.Lib.hid ((R20_g.out.below (below1 w20 (.cells #[(.slice b20 0 cp20), .int .i64 0] 27)) (Nat.le_refl _)).below hb21 (Nat.le_refl _)); have BE21_d := Go.Lib.hid (B20_d.out.alloc (.cells #[(.slice b20 0 cp20), .int .i64 0] 27)); have B21_d := Go.Lib.hid (BE21_d.out.below hb21 BE21_d.out.lt); obtain ⟨k21d0, k21d1, k21d2, k21d3⟩ := B21_d.out.cells; have BE21_x := Go.Lib.hid (B20_x.out.alloc (.cells #[(.slice b20 0 cp20), .int .i64 0] 27)); have B21_x := Go.Lib.hid (BE21_x.out.below hb21 BE21_x.out.lt); obtain ⟨k21x0, k21x1, k21x2, k21x3⟩ := B21_x.out.cells; have BE21_o := Go.Lib.hid (B20_o.out.alloc (.cells #[(.slice b20 0 cp20), .int .i64 0] 27)); have B21_o := Go.Lib.hid (BE21_o.out.below hb21 BE21_o.out.lt); obtain ⟨k21o0, k21o1, k21o2, k21o3⟩ := B21_o.out.cells; have BE21_f := Go.Lib.hid (B20_f.out.alloc (.cells #[(.slice b20 0 cp20), .int .i64 0] 27)); have B21_f := Go.Lib.hid (BE21_f.out.below hb21 BE21_f.out.lt); obtain ⟨k21f0, k21f1, k21f2, k21f3⟩ := B21_f.out.cells; have BE21_g := Go.Lib.hid (box1 w20 (.slice b20 0 cp20) 0); have B21_g := Go.Lib.hid (BE21_g.out.below hb21 BE21_g.out.lt); obtain ⟨k21g0, k21g1, k21g2, k21g3⟩ := B21_g.out.cells; clear hb21)
        | (go_at_call 15; refine (alive6_ok _).mono ?_; rintro e w22 ⟨rfl, hb22⟩; have hWE22 := Go.Lib.hid hW21.out; have hW22 := Go.Lib.hid (hWE22.out.trans (hb22.mono hWE22.out.size)); clear hb22))
      go_ret
      exact ⟨rfl, hW22.out⟩

theorem unaryNames_walk (W : World) :
    Calls Try.prog 3 #[] W fun e w' => e = .returned (.bool true) ∧ Below W.heap.size W w' :=
  unaryNames_in W 41250 330000 rfl rfl
end Go.Proofs.Ytbegifpnbbpinaa
