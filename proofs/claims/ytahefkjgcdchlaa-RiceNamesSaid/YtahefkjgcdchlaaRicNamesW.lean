/- RiceNames: the chapter's examples, codes at the cap, limits and errors. -/
import Derived.Test.YtahefkjgcdchlaaRicL
namespace Go.Proofs.Ytahefkjgcdchlaa
open Go.RowKit Cad

theorem byteN_false7 (n j : Nat) : byteN (List.replicate n false) j = 0 := by
  have h : ∀ i, (List.replicate n false).getD i false = false := fun i => by
    by_cases hi : i < n
    · simp [List.getD, hi]
    · rw [getD_ge]; simp; omega
  unfold byteN
  rw [h, h, h, h, h, h, h, h]; rfl
theorem pack_false7 (k : Nat) : pack (List.replicate (8 * k) false) = List.replicate k 0 := by
  apply List.ext_getElem
  · rw [pack_len]; simp; omega
  · intro i h1 h2
    simp [pack, byteN_false7]
theorem cap_less {k p : Nat} (hp : p = 2 ^ k) : partN (48 * p - 1) k = 47 := by
  have h0 : 1 ≤ p := by rw [hp]; exact Nat.pow_pos (by decide)
  have e : 48 * p - 1 = 47 * 2 ^ k + (p - 1) := by rw [← hp]; omega
  rw [e]
  exact partN_of (by decide) (by rw [← hp]; omega)
theorem cap_full {k p : Nat} (hp : p = 2 ^ k) : partN (48 * p) k = 48 := by
  unfold partN
  rw [hp, Nat.mul_div_cancel _ (Nat.pow_pos (by decide))]; rfl

set_option maxRecDepth 100000 in
set_option maxHeartbeats 8000000 in
theorem riceNames_in (W : World) (n41 n330 : Nat) (hn41 : (41249 : Int) = n41) (hn330 : (329992 : Int) = n330) :
    Calls Try.prog 3 #[] W fun e w' => e = .returned (.bool true) ∧ Below W.heap.size W w' := by
  have hn1 : n41 = 41249 := by omega
  have hn2 : n330 = 329992 := by omega
  have hnb : n41 ≤ 17592186044416 := by omega
  have hzw : Hid (∀ x ∈ List.replicate n41 (0 : Int), (Lit.int .u8 x).wf = true) := Go.Lib.hid (u8_wf fun x hx => by rw [List.eq_of_mem_replicate hx]; omega)
  obtain ⟨Z, hZ⟩ : ∃ Z, Z = List.replicate n330 false := ⟨_, rfl⟩
  have lZ : Z.length = n330 := by rw [hZ, List.length_replicate]
  have pZ : pack Z = List.replicate n41 0 := by rw [hZ, show n330 = 8 * n41 by omega, pack_false7]
  have hv1 : ¬ Valid [] 1 := fun h => by have := h.n; simp at this
  have hnil : pack [] = [] := rfl
  obtain ⟨O, hO⟩ : ∃ O, O = numB 0 1 := ⟨_, rfl⟩
  have lO : O.length = 1 := by rw [hO, numB_len]
  have vO : Valid (pack O) 1 := ⟨O, by rw [lO]; rfl, by omega, rfl⟩
  have cO : Hid (∀ (w : World), Calls Try.prog 12 #[.agg #[.slice none 0 0, .int .i64 0], .int .u64 0, .int .i64 1] w fun e W' => ∃ b c, e = .returned (.tuple #[.agg #[.slice b 1 c, .int .i64 1], .int .i64 0]) ∧ Row .u8 W' b 1 c (pack O) ∧ Below w.heap.size w W') := Go.Lib.hid fun w => by
    have := BPut_ok w none 0 0 [] 0 1 (by rw [hnil]; exact Row.nil_row _ _) (by simp) (by omega) (by decide)
    rw [List.nil_append, ← hO] at this
    exact this
  have c1 : Hid (∀ (w : World), Calls Try.prog 10 #[.agg #[.slice none 0 0, .int .i64 1], .int .u32 0, .int .i64 (-1)] w fun e W' => ∃ b c, e = .returned (.tuple #[.agg #[.slice b 0 c, .int .i64 0], .int .i64 8]) ∧ Row .u8 W' b 0 c [] ∧ Below w.heap.size w W') := Go.Lib.hid fun w =>
    (PWrite_bad w none 0 0 1 [] 0 (-1) (Row.nil_row _ _) (by decide) hv1).mono fun e w' ⟨h1, h2⟩ => ⟨none, 0, h1, Row.nil_row _ _, h2⟩
  have c2 : Hid (∀ (w : World), Calls Try.prog 11 #[.agg #[.slice none 0 0, .int .i64 1], .int .i64 (-1), .int .i64 (-1)] w fun e W' => e = .returned (.tuple #[.int .u32 0, .int .i64 0, .int .i64 8]) ∧ Below w.heap.size w W') := Go.Lib.hid fun w =>
    PRead_bad w none 0 0 1 [] (-1) (-1) (Row.nil_row _ _) (by decide) hv1
  have lA : Hid (∀ (w : World), Calls Try.prog 9 #[.int .u32 0, .int .i64 (-1)] w fun e W' => e = .returned (.tuple #[.int .i64 0, .int .i64 2]) ∧ w = W') := Go.Lib.hid fun w => PLength_arg w 0 (-1) (by decide) (.inl (by decide))
  have lB : Hid (∀ (w : World), Calls Try.prog 9 #[.int .u32 0, .int .i64 25] w fun e W' => e = .returned (.tuple #[.int .i64 0, .int .i64 2]) ∧ w = W') := Go.Lib.hid fun w => PLength_arg w 0 25 (by decide) (.inr (by decide))
  have c3 : Hid (∀ (w : World) b c, Row .u8 w b 1 c (pack O) → Calls Try.prog 10 #[.agg #[.slice b 1 c, .int .i64 1], .int .u32 0, .int .i64 25] w fun e W' => ∃ b c, e = .returned (.tuple #[.agg #[.slice b 0 c, .int .i64 0], .int .i64 2]) ∧ Row .u8 W' b 0 c [] ∧ Below w.heap.size w W') := Go.Lib.hid fun w b c h =>
    (PWrite_arg w b 1 c 1 (pack O) 0 25 h (by decide) vO (by decide) (.inr (by decide))).mono fun e w' ⟨h1, h2⟩ => ⟨none, 0, h1, Row.nil_row _ _, h2⟩
  have c4 : Hid (∀ (w : World) b c, Row .u8 w b 1 c (pack O) → Calls Try.prog 11 #[.agg #[.slice b 1 c, .int .i64 1], .int .i64 0, .int .i64 (-1)] w fun e W' => e = .returned (.tuple #[.int .u32 0, .int .i64 0, .int .i64 2]) ∧ Below w.heap.size w W') := Go.Lib.hid fun w b c h => by
    exact PRead_arg w b 1 c 1 (pack O) 0 (-1) h (by decide) vO (by decide) (.inl (by decide))
  have c5 : Hid (∀ (w : World) b c, Row .u8 w b 1 c (pack O) → Calls Try.prog 11 #[.agg #[.slice b 1 c, .int .i64 1], .int .i64 (-1), .int .i64 0] w fun e W' => e = .returned (.tuple #[.int .u32 0, .int .i64 0, .int .i64 2]) ∧ Below w.heap.size w W') := Go.Lib.hid fun w b c h => by
    exact PRead_out w b 1 c 1 (pack O) (-1) 2 0 h (by decide) (by decide) vO (by decide) (.inl ⟨by decide, rfl⟩)
  have c6 : Hid (∀ (w : World) b c, Row .u8 w b 1 c (pack O) → Calls Try.prog 11 #[.agg #[.slice b 1 c, .int .i64 1], .int .i64 1, .int .i64 0] w fun e W' => e = .returned (.tuple #[.int .u32 0, .int .i64 0, .int .i64 24]) ∧ Below w.heap.size w W') := Go.Lib.hid fun w b c h => by
    exact PRead_out w b 1 c 1 (pack O) 1 24 0 h (by decide) (by decide) vO (by decide) (.inr ⟨by decide, by decide, rfl⟩)
  have c7 : Hid (∀ (w : World) b c, Row .u8 w b 1 c (pack O) → Calls Try.prog 11 #[.agg #[.slice b 1 c, .int .i64 1], .int .i64 0, .int .i64 1] w fun e W' => e = .returned (.tuple #[.int .u32 0, .int .i64 0, .int .i64 24]) ∧ Below w.heap.size w W') := Go.Lib.hid fun w b c h => by
    have e : readR O 0 1 = (0, 0, 24) := by rw [hO]; decide
    have := PRead_in w b 1 c O 0 1 h (by omega) (by omega) (by decide) _ _ _ e
    rw [lO] at this
    exact this
  have c8 : Hid (∀ (w : World) b c, Row .u8 w b 1 c (pack O) → Calls Try.prog 11 #[.agg #[.slice b 1 c, .int .i64 1], .int .i64 0, .int .i64 0] w fun e W' => e = .returned (.tuple #[.int .u32 0, .int .i64 1, .int .i64 0]) ∧ Below w.heap.size w W') := Go.Lib.hid fun w b c h => by
    have e : readR O 0 0 = (0, 1, 0) := by rw [hO]; decide
    have := PRead_in w b 1 c O 0 0 h (by omega) (by omega) (by decide) _ _ _ e
    rw [lO] at this
    exact this
  have c11 : Hid (∀ (w : World) b c, Row .u8 w b 1 c (pack O) → Calls Try.prog 11 #[.agg #[.slice b 1 c, .int .i64 1], .int .i64 9223372036854775807, .int .i64 0] w fun e W' => e = .returned (.tuple #[.int .u32 0, .int .i64 0, .int .i64 24]) ∧ Below w.heap.size w W') := Go.Lib.hid fun w b c h => by
    exact PRead_out w b 1 c 1 (pack O) 9223372036854775807 24 0 h (by decide) (by decide) vO (by decide) (.inr ⟨by decide, by decide, rfl⟩)
  have cF : Hid (∀ (w : World) b c, Row .u8 w b n41 c (List.replicate n41 0) → Calls Try.prog 13 #[.slice b n41 c] w fun e W' => ∃ b c, e = .returned (.tuple #[.agg #[.slice b n41 c, .int .i64 n330], .int .i64 0]) ∧ Row .u8 W' b n41 c (pack Z) ∧ Below w.heap.size w W') := Go.Lib.hid fun w b c h => by
    refine (BOf_ok w b n41 c _ h (by omega)).mono ?_
    rintro e w' ⟨v', rfl, h1, h2⟩
    obtain ⟨a1, p1, rfl⟩ := own_form h1
    exact ⟨a1, p1, by rw [show 8 * (n41 : Int) = n330 by omega], by rw [pZ]; exact Row.of_own h1 hzw.out, h2⟩
  have c9 : Hid (∀ (w : World) b c, Row .u8 w b n41 c (pack Z) → Calls Try.prog 10 #[.agg #[.slice b n41 c, .int .i64 n330], .int .u32 0, .int .i64 8] w fun e W' => ∃ b c, e = .returned (.tuple #[.agg #[.slice b 0 c, .int .i64 0], .int .i64 18]) ∧ Row .u8 W' b 0 c [] ∧ Below w.heap.size w W') := Go.Lib.hid fun w b c h => by
    have := PWrite_full w b n41 c Z 0 8 h (by omega) (by rw [lZ, hn2]; decide) (by decide) (by decide)
    rw [lZ] at this
    exact this.mono fun e w' ⟨h1, h2⟩ => ⟨none, 0, h1, Row.nil_row _ _, h2⟩
  have c10 : Hid (∀ (w : World) b c, Row .u8 w b n41 c (pack Z) → Calls Try.prog 10 #[.agg #[.slice b n41 c, .int .i64 n330], .int .u32 255, .int .i64 7] w fun e W' => ∃ b c, e = .returned (.tuple #[.agg #[.slice b 0 c, .int .i64 0], .int .i64 18]) ∧ Row .u8 W' b 0 c [] ∧ Below w.heap.size w W') := Go.Lib.hid fun w b c h => by
    have := PWrite_full w b n41 c Z 255 7 h (by omega) (by rw [lZ, hn2]; decide) (by decide) (by decide)
    rw [lZ] at this
    exact this.mono fun e w' ⟨h1, h2⟩ => ⟨none, 0, h1, Row.nil_row _ _, h2⟩
  obtain ⟨R, hR⟩ : ∃ R, R = runB 48 := ⟨_, rfl⟩
  have lR : R.length = 48 := by rw [hR, runB_len (Nat.le_refl _)]; rfl
  have p1 : Hid (∀ (w : World), Calls Try.prog 12 #[.agg #[.slice none 0 0, .int .i64 0], .int .u64 281474976710655, .int .i64 48] w fun e W' => ∃ b c, e = .returned (.tuple #[.agg #[.slice b 6 c, .int .i64 48], .int .i64 0]) ∧ Row .u8 W' b 6 c (pack R) ∧ Below w.heap.size w W') := Go.Lib.hid fun w => by
    have := BPut_ok w none 0 0 [] 281474976710655 48 (by rw [hnil]; exact Row.nil_row _ _) (by simp) (by omega) (by decide)
    have e : numB 281474976710655 48 = R := by
      have h := run_num (Nat.le_refl 48)
      rw [show 2 ^ 48 - 1 = 281474976710655 by decide, show runLen 48 = 48 by rfl, ← hR] at h
      exact h
    rw [List.nil_append, e] at this
    exact this
  have hn330' := Go.Lib.hid hn330
  have hR' := Go.Lib.hid hR
  have lR' := Go.Lib.hid lR
  clear hn1 hn2 hZ lZ pZ hv1 hnil hO lO vO hn330 hR lR
  go_enter Try.func3, Try.ntmps3
  go_wp2
  go_loopw [1] (fun i wr => ∃ k : Nat, k ≤ 25 ∧ i = .int .i64 k ∧ Below W.heap.size W wr) (fun i _ => 25 - (intOf i).toNat)
  case atStart => exact ⟨0, by decide, rfl, Below.refl _ _⟩
  case round =>
    obtain ⟨k, hk25, rfl, hb⟩ := hrel
    by_cases hend : k ≤ 24
    · have hpb := pow24 hend
      obtain ⟨p, hp⟩ : ∃ p, p = 2 ^ k := ⟨_, rfl⟩
      rw [← hp] at hpb
      have q1 := cap_less hp
      have q2 := cap_full hp
      obtain ⟨C, hC⟩ : ∃ C, C = 48 * p := ⟨_, rfl⟩
      rw [← hC] at q1 q2
      have hCb : 48 ≤ C ∧ C ≤ 805306368 := by omega
      have hC1 : ((C - 1 : Nat) : Int) = (C : Int) - 1 := by omega
      have e1 : (48 : Int) * 2 ^ k = (C : Int) := by rw [hC, hp]; simp
      have l1 : Hid (∀ w, Calls Try.prog 9 #[.int .u32 ((C : Int) - 1), .int .i64 k] w fun r W' => r = .returned (.tuple #[.int .i64 ((48 : Int) + (k : Int)), .int .i64 0]) ∧ w = W') := Go.Lib.hid fun w => by
        have := PLength_ok w (C - 1) k (by omega) hend
        rw [hC1, riceLen_less (by omega), q1, show ((47 + 1 + k : Nat) : Int) = (48 : Int) + (k : Int) by omega] at this
        exact this
      have l2 : Hid (∀ w, Calls Try.prog 9 #[.int .u32 C, .int .i64 k] w fun r W' => r = .returned (.tuple #[.int .i64 80, .int .i64 0]) ∧ w = W') := Go.Lib.hid fun w => by
        have := PLength_ok w C k (by omega) hend
        rw [riceLen_full q2] at this
        exact this
      obtain ⟨X, hX⟩ : ∃ X, X = riceB C k := ⟨_, rfl⟩
      have lX : X.length = 80 := by rw [hX, riceB_len, riceLen_full q2]
      have un := Go.Lib.hid fun w => PWrite_alone w C k (by omega) hend 80 10 C k 80 rfl rfl rfl (riceLen_full q2) rfl (pack X) (by rw [hX])
      have rd : Hid (∀ w b c, Row .u8 w b 10 c (pack X) → Calls Try.prog 11 #[.agg #[.slice b 10 c, .int .i64 80], .int .i64 0, .int .i64 k] w fun e W' => e = .returned (.tuple #[.int .u32 C, .int .i64 80, .int .i64 0]) ∧ Below w.heap.size w W') := Go.Lib.hid fun w b c h => by
        have e := read_rice [] [] (show C < 4294967296 by omega) (k := k)
        rw [List.nil_append, List.append_nil, ← hX, List.length_nil, Nat.zero_add, riceLen_full q2] at e
        have := PRead_in w b 10 c X 0 k h (by omega) (Nat.zero_le _) hend _ _ _ e
        rw [lX] at this
        exact this
      obtain ⟨Y, hY⟩ : ∃ Y, Y = R ++ numB (C - 1) 32 := ⟨_, rfl⟩
      have lY : Y.length = 80 := by rw [hY, List.length_append, lR'.out, numB_len]
      have p2 : Hid (∀ w b c, Row .u8 w b 6 c (pack R) → Calls Try.prog 12 #[.agg #[.slice b 6 c, .int .i64 48], .int .u64 ((C : Int) - 1), .int .i64 32] w fun e W' => ∃ b c, e = .returned (.tuple #[.agg #[.slice b 10 c, .int .i64 80], .int .i64 0]) ∧ Row .u8 W' b 10 c (pack Y) ∧ Below w.heap.size w W') := Go.Lib.hid fun w b c h => by
        have := BPut_ok w b 6 c R (C - 1) 32 h (by rw [lR'.out]; decide) (by decide) (by omega)
        rw [← hY, lR'.out, hC1] at this
        exact this
      have rw_ : Hid (∀ w b c, Row .u8 w b 10 c (pack Y) → Calls Try.prog 11 #[.agg #[.slice b 10 c, .int .i64 80], .int .i64 0, .int .i64 k] w fun e W' => e = .returned (.tuple #[.int .u32 0, .int .i64 0, .int .i64 12]) ∧ Below w.heap.size w W') := Go.Lib.hid fun w b c h => by
        have e := read_run [] (numB (C - 1) 32) (Nat.le_refl 48)
        rw [List.nil_append, ← hR'.out, ← hY, List.length_nil, Nat.zero_add, show runLen 48 = 48 by rfl] at e
        have e2 : natB (midB Y 48 (48 + 32)) = C - 1 := by
          have h1 : Y.drop 48 = numB (C - 1) 32 := by rw [hY, List.drop_left' lR'.out]
          unfold midB
          rw [h1, show 48 + 32 - 48 = 32 by rfl, List.take_of_length_le (by rw [numB_len]; exact Nat.le_refl _), natB_numB]
          exact Nat.mod_eq_of_lt (by omega)
        have e3 := readR_form (k := k) e (by omega) (by rw [e2, q1]; decide)
        have := PRead_in w b 10 c Y 0 k h (by omega) (Nat.zero_le _) hend _ _ _ e3
        rw [lY] at this
        exact this
      have hb' := Go.Lib.hid hb
      have hk24 : (k : Int) ≤ 24 := by omega
      clear hb hC hp hX lX hY lY q1 q2 hC1 hpb p
      go_wp2_with (first
        | (go_at_call 9; with_reducible refine (l1.out _).mono ?_; rintro e w5 ⟨rfl, rfl⟩)
        | (go_at_call 9; with_reducible refine (l2.out _).mono ?_; rintro e w5 ⟨rfl, rfl⟩)
        | (go_at_call 10; with_reducible refine (un.out _).mono ?_; rintro e w5 ⟨b5, cp5, rfl, hr5, hb5⟩; have hb6 := Go.Lib.hid (hb'.out.trans (hb5.mono hb'.out.size)); have hr6 := Go.Lib.hid (hr5.below (below1 w5 (.cells #[.slice b5 10 cp5, .int .i64 80] 28)) (Nat.le_refl _)); clear hb5 hr5)
        | (go_at_call 11; with_reducible refine (rd.out _ _ _ ?h1).mono ?_; (case h1 => exact hr6.out); rintro e w7 ⟨rfl, hb7⟩; have hb8 := Go.Lib.hid ((hb6.out.alloc hb6.out.size _).trans (hb7.mono (hb6.out.alloc hb6.out.size _).size)); clear hb7)
        | (go_at_call 12; with_reducible refine (p1.out _).mono ?_; rintro e w9 ⟨b9, cp9, rfl, hr9, hb9⟩; have hb10 := Go.Lib.hid (hb8.out.trans (hb9.mono hb8.out.size)); have hr10 := Go.Lib.hid (hr9.below (below1 w9 (.cells #[.slice b9 6 cp9, .int .i64 48] 28)) (Nat.le_refl _)); have hx9 := Go.Lib.hid (box1 w9 (.slice b9 6 cp9) 48); clear hb9 hr9)
        | (go_at_call 12; with_reducible refine (p2.out _ _ _ ?h1).mono ?_; (case h1 => exact hr10.out); rintro e w11 ⟨b11, cp11, rfl, hr11, hb11⟩; have hx11 := Go.Lib.hid (hx9.out.below hb11 hx9.out.lt); have hb12 := Go.Lib.hid ((hb10.out.alloc hb10.out.size _).trans (hb11.mono (hb10.out.alloc hb10.out.size _).size)); have hr12 := Go.Lib.hid ((hr11.box hx11.out 0 (.slice b11 10 cp11)).box (hx11.out.set0 (.slice b11 10 cp11)) 1 (.int .i64 80)); have hb13 := Go.Lib.hid ((hb12.out.setCell (p := ⟨w9.heap.size, 0, none⟩) hb10.out.size (.slice b11 10 cp11)).setCell (p := ⟨w9.heap.size, 1, none⟩) hb10.out.size (.int .i64 80)); obtain ⟨v0, v1, v2, v3⟩ := hx11.out.cells; obtain ⟨u0, u1, u2, u3⟩ := (hx11.out.set (.slice b11 10 cp11) 80).cells; clear hb11 hr11)
        | (go_at_call 11; with_reducible refine (rw_.out _ _ _ ?h1).mono ?_; (case h1 => exact hr12.out); rintro e w14 ⟨rfl, hb14⟩; have hb15 := Go.Lib.hid (hb13.out.trans (hb14.mono hb13.out.size)); clear hb14))
      go_roundw
      case rel => exact ⟨k + 1, by omega, by go_num, hb15.out⟩
      case measure => (simp [intOf] <;> omega)
    · obtain rfl : k = 25 := by omega
      obtain ⟨w10, hw10⟩ : ∃ w10, w10 = wr := ⟨_, rfl⟩
      subst hw10
      have hW10 := Go.Lib.hid hb
      clear hb p1
      go_wp2_with (first
        | (go_at_call 12; ((with_reducible refine (cO.out _).mono ?_)); rintro e w11 ⟨b11, cp11, rfl, hr11, hb11⟩; have hWE11 := Go.Lib.hid (hW10.out.alloc hW10.out.size (.cells #[(.slice none 0 0), .int .i64 1] 28)); have hW11 := Go.Lib.hid (hWE11.out.trans (hb11.mono hWE11.out.size)); have R11_o := Go.Lib.hid hr11; clear hr11; have BE11_d := Go.Lib.hid (box1 w10 (.slice none 0 0) 1); have B11_d := Go.Lib.hid (BE11_d.out.below hb11 BE11_d.out.lt); obtain ⟨k11d0, k11d1, k11d2, k11d3⟩ := B11_d.out.cells; have l11d := B11_d.out.lt; have n11d : w10.heap.size ≠ w11.heap.size := (by omega); clear hb11)
        | (go_at_call 10; ((with_reducible refine (c1.out _).mono ?_)); rintro e w12 ⟨b12, cp12, rfl, hr12, hb12⟩; have hWE12 := Go.Lib.hid (hW11.out.alloc hW11.out.size (.cells #[(.slice b11 1 cp11), .int .i64 1] 28)); have hW12 := Go.Lib.hid (hWE12.out.trans (hb12.mono hWE12.out.size)); have R12_o := Go.Lib.hid ((R11_o.out.below (below1 w11 (.cells #[(.slice b11 1 cp11), .int .i64 1] 28)) (Nat.le_refl _)).below hb12 (Nat.le_refl _)); have R12_x := Go.Lib.hid hr12; clear hr12; have BE12_d := Go.Lib.hid (B11_d.out.alloc (.cells #[(.slice b11 1 cp11), .int .i64 1] 28)); have B12_d := Go.Lib.hid (BE12_d.out.below hb12 BE12_d.out.lt); obtain ⟨k12d0, k12d1, k12d2, k12d3⟩ := B12_d.out.cells; have BE12_o := Go.Lib.hid (box1 w11 (.slice b11 1 cp11) 1); have B12_o := Go.Lib.hid (BE12_o.out.below hb12 BE12_o.out.lt); obtain ⟨k12o0, k12o1, k12o2, k12o3⟩ := B12_o.out.cells; have l12d := B12_d.out.lt; have n12d : w10.heap.size ≠ w12.heap.size := (by omega); have l12o := B12_o.out.lt; have n12o : w11.heap.size ≠ w12.heap.size := (by omega); clear hb12)
        | (go_at_call 11; ((with_reducible refine (c2.out _).mono ?_)); rintro e w13 ⟨rfl, hb13⟩; have hWE13 := Go.Lib.hid (hW12.out.alloc hW12.out.size (.cells #[(.slice b12 0 cp12), .int .i64 0] 28)); have hW13 := Go.Lib.hid (hWE13.out.trans (hb13.mono hWE13.out.size)); have R13_o := Go.Lib.hid ((R12_o.out.below (below1 w12 (.cells #[(.slice b12 0 cp12), .int .i64 0] 28)) (Nat.le_refl _)).below hb13 (Nat.le_refl _)); have R13_x := Go.Lib.hid ((R12_x.out.below (below1 w12 (.cells #[(.slice b12 0 cp12), .int .i64 0] 28)) (Nat.le_refl _)).below hb13 (Nat.le_refl _)); have BE13_d := Go.Lib.hid (B12_d.out.alloc (.cells #[(.slice b12 0 cp12), .int .i64 0] 28)); have B13_d := Go.Lib.hid (BE13_d.out.below hb13 BE13_d.out.lt); obtain ⟨k13d0, k13d1, k13d2, k13d3⟩ := B13_d.out.cells; have BE13_o := Go.Lib.hid (B12_o.out.alloc (.cells #[(.slice b12 0 cp12), .int .i64 0] 28)); have B13_o := Go.Lib.hid (BE13_o.out.below hb13 BE13_o.out.lt); obtain ⟨k13o0, k13o1, k13o2, k13o3⟩ := B13_o.out.cells; have BE13_x := Go.Lib.hid (box1 w12 (.slice b12 0 cp12) 0); have B13_x := Go.Lib.hid (BE13_x.out.below hb13 BE13_x.out.lt); obtain ⟨k13x0, k13x1, k13x2, k13x3⟩ := B13_x.out.cells; clear hb13)
        | (go_at_call 9; ((with_reducible refine (lA.out _).mono ?_)); rintro e wz ⟨rfl, rfl⟩)
        | (go_at_call 9; ((with_reducible refine (lB.out _).mono ?_)); rintro e wz ⟨rfl, rfl⟩)
        | (go_at_call 10; ((with_reducible refine (c3.out _ _ _ ?h1).mono ?_)); (case h1 => exact R13_o.out); rintro e w14 ⟨b14, cp14, rfl, hr14, hb14⟩; have hWE14 := Go.Lib.hid hW13.out; have hW14 := Go.Lib.hid (hWE14.out.trans (hb14.mono hWE14.out.size)); have R14_o := Go.Lib.hid (R13_o.out.below hb14 (Nat.le_refl _)); have R14_x := Go.Lib.hid (R13_x.out.below hb14 (Nat.le_refl _)); have R14_y := Go.Lib.hid hr14; clear hr14; have BE14_d := Go.Lib.hid B13_d.out; have B14_d := Go.Lib.hid (BE14_d.out.below hb14 BE14_d.out.lt); obtain ⟨k14d0, k14d1, k14d2, k14d3⟩ := B14_d.out.cells; have BE14_o := Go.Lib.hid B13_o.out; have B14_o := Go.Lib.hid (BE14_o.out.below hb14 BE14_o.out.lt); obtain ⟨k14o0, k14o1, k14o2, k14o3⟩ := B14_o.out.cells; have BE14_x := Go.Lib.hid B13_x.out; have B14_x := Go.Lib.hid (BE14_x.out.below hb14 BE14_x.out.lt); obtain ⟨k14x0, k14x1, k14x2, k14x3⟩ := B14_x.out.cells; have l14d := B14_d.out.lt; have n14d : w10.heap.size ≠ w14.heap.size := (by omega); have l14o := B14_o.out.lt; have n14o : w11.heap.size ≠ w14.heap.size := (by omega); have l14x := B14_x.out.lt; have n14x : w12.heap.size ≠ w14.heap.size := (by omega); clear hb14)
        | (go_at_call 11; ((with_reducible refine (c4.out _ _ _ ?h1).mono ?_)); (case h1 => exact (R14_o.out.below (below1 w14 (.cells #[(.slice b14 0 cp14), .int .i64 0] 28)) (Nat.le_refl _))); rintro e w15 ⟨rfl, hb15⟩; have hWE15 := Go.Lib.hid (hW14.out.alloc hW14.out.size (.cells #[(.slice b14 0 cp14), .int .i64 0] 28)); have hW15 := Go.Lib.hid (hWE15.out.trans (hb15.mono hWE15.out.size)); have R15_o := Go.Lib.hid ((R14_o.out.below (below1 w14 (.cells #[(.slice b14 0 cp14), .int .i64 0] 28)) (Nat.le_refl _)).below hb15 (Nat.le_refl _)); have R15_x := Go.Lib.hid ((R14_x.out.below (below1 w14 (.cells #[(.slice b14 0 cp14), .int .i64 0] 28)) (Nat.le_refl _)).below hb15 (Nat.le_refl _)); have R15_y := Go.Lib.hid ((R14_y.out.below (below1 w14 (.cells #[(.slice b14 0 cp14), .int .i64 0] 28)) (Nat.le_refl _)).below hb15 (Nat.le_refl _)); have BE15_d := Go.Lib.hid (B14_d.out.alloc (.cells #[(.slice b14 0 cp14), .int .i64 0] 28)); have B15_d := Go.Lib.hid (BE15_d.out.below hb15 BE15_d.out.lt); obtain ⟨k15d0, k15d1, k15d2, k15d3⟩ := B15_d.out.cells; have BE15_o := Go.Lib.hid (B14_o.out.alloc (.cells #[(.slice b14 0 cp14), .int .i64 0] 28)); have B15_o := Go.Lib.hid (BE15_o.out.below hb15 BE15_o.out.lt); obtain ⟨k15o0, k15o1, k15o2, k15o3⟩ := B15_o.out.cells; have BE15_x := Go.Lib.hid (B14_x.out.alloc (.cells #[(.slice b14 0 cp14), .int .i64 0] 28)); have B15_x := Go.Lib.hid (BE15_x.out.below hb15 BE15_x.out.lt); obtain ⟨k15x0, k15x1, k15x2, k15x3⟩ := B15_x.out.cells; have BE15_y := Go.Lib.hid (box1 w14 (.slice b14 0 cp14) 0); have B15_y := Go.Lib.hid (BE15_y.out.below hb15 BE15_y.out.lt); obtain ⟨k15y0, k15y1, k15y2, k15y3⟩ := B15_y.out.cells; clear hb15)
        | (go_at_call 11; ((with_reducible refine (c5.out _ _ _ ?h1).mono ?_)); (case h1 => exact R15_o.out); rintro e w16 ⟨rfl, hb16⟩; have hWE16 := Go.Lib.hid hW15.out; have hW16 := Go.Lib.hid (hWE16.out.trans (hb16.mono hWE16.out.size)); have R16_o := Go.Lib.hid (R15_o.out.below hb16 (Nat.le_refl _)); have R16_x := Go.Lib.hid (R15_x.out.below hb16 (Nat.le_refl _)); have R16_y := Go.Lib.hid (R15_y.out.below hb16 (Nat.le_refl _)); have BE16_d := Go.Lib.hid B15_d.out; have B16_d := Go.Lib.hid (BE16_d.out.below hb16 BE16_d.out.lt); obtain ⟨k16d0, k16d1, k16d2, k16d3⟩ := B16_d.out.cells; have BE16_o := Go.Lib.hid B15_o.out; have B16_o := Go.Lib.hid (BE16_o.out.below hb16 BE16_o.out.lt); obtain ⟨k16o0, k16o1, k16o2, k16o3⟩ := B16_o.out.cells; have BE16_x := Go.Lib.hid B15_x.out; have B16_x := Go.Lib.hid (BE16_x.out.below hb16 BE16_x.out.lt); obtain ⟨k16x0, k16x1, k16x2, k16x3⟩ := B16_x.out.cells; have BE16_y := Go.Lib.hid B15_y.out; have B16_y := Go.Lib.hid (BE16_y.out.below hb16 BE16_y.out.lt); obtain ⟨k16y0, k16y1, k16y2, k16y3⟩ := B16_y.out.cells; clear hb16)
        | (go_at_call 11; ((with_reducible refine (c6.out _ _ _ ?h1).mono ?_)); (case h1 => exact R16_o.out); rintro e w17 ⟨rfl, hb17⟩; have hWE17 := Go.Lib.hid hW16.out; have hW17 := Go.Lib.hid (hWE17.out.trans (hb17.mono hWE17.out.size)); have R17_o := Go.Lib.hid (R16_o.out.below hb17 (Nat.le_refl _)); have R17_x := Go.Lib.hid (R16_x.out.below hb17 (Nat.le_refl _)); have R17_y := Go.Lib.hid (R16_y.out.below hb17 (Nat.le_refl _)); have BE17_d := Go.Lib.hid B16_d.out; have B17_d := Go.Lib.hid (BE17_d.out.below hb17 BE17_d.out.lt); obtain ⟨k17d0, k17d1, k17d2, k17d3⟩ := B17_d.out.cells; have BE17_o := Go.Lib.hid B16_o.out; have B17_o := Go.Lib.hid (BE17_o.out.below hb17 BE17_o.out.lt); obtain ⟨k17o0, k17o1, k17o2, k17o3⟩ := B17_o.out.cells; have BE17_x := Go.Lib.hid B16_x.out; have B17_x := Go.Lib.hid (BE17_x.out.below hb17 BE17_x.out.lt); obtain ⟨k17x0, k17x1, k17x2, k17x3⟩ := B17_x.out.cells; have BE17_y := Go.Lib.hid B16_y.out; have B17_y := Go.Lib.hid (BE17_y.out.below hb17 BE17_y.out.lt); obtain ⟨k17y0, k17y1, k17y2, k17y3⟩ := B17_y.out.cells; clear hb17)
        | (go_at_call 11; ((with_reducible refine (c7.out _ _ _ ?h1).mono ?_)); (case h1 => exact R17_o.out); rintro e w18 ⟨rfl, hb18⟩; have hWE18 := Go.Lib.hid hW17.out; have hW18 := Go.Lib.hid (hWE18.out.trans (hb18.mono hWE18.out.size)); have R18_o := Go.Lib.hid (R17_o.out.below hb18 (Nat.le_refl _)); have R18_x := Go.Lib.hid (R17_x.out.below hb18 (Nat.le_refl _)); have R18_y := Go.Lib.hid (R17_y.out.below hb18 (Nat.le_refl _)); have BE18_d := Go.Lib.hid B17_d.out; have B18_d := Go.Lib.hid (BE18_d.out.below hb18 BE18_d.out.lt); obtain ⟨k18d0, k18d1, k18d2, k18d3⟩ := B18_d.out.cells; have BE18_o := Go.Lib.hid B17_o.out; have B18_o := Go.Lib.hid (BE18_o.out.below hb18 BE18_o.out.lt); obtain ⟨k18o0, k18o1, k18o2, k18o3⟩ := B18_o.out.cells; have BE18_x := Go.Lib.hid B17_x.out; have B18_x := Go.Lib.hid (BE18_x.out.below hb18 BE18_x.out.lt); obtain ⟨k18x0, k18x1, k18x2, k18x3⟩ := B18_x.out.cells; have BE18_y := Go.Lib.hid B17_y.out; have B18_y := Go.Lib.hid (BE18_y.out.below hb18 BE18_y.out.lt); obtain ⟨k18y0, k18y1, k18y2, k18y3⟩ := B18_y.out.cells; clear hb18)
        | (go_at_call 11; ((with_reducible refine (c8.out _ _ _ ?h1).mono ?_)); (case h1 => exact R18_o.out); rintro e w19 ⟨rfl, hb19⟩; have hWE19 := Go.Lib.hid hW18.out; have hW19 := Go.Lib.hid (hWE19.out.trans (hb19.mono hWE19.out.size)); have R19_o := Go.Lib.hid (R18_o.out.below hb19 (Nat.le_refl _)); have R19_x := Go.Lib.hid (R18_x.out.below hb19 (Nat.le_refl _)); have R19_y := Go.Lib.hid (R18_y.out.below hb19 (Nat.le_refl _)); have BE19_d := Go.Lib.hid B18_d.out; have B19_d := Go.Lib.hid (BE19_d.out.below hb19 BE19_d.out.lt); obtain ⟨k19d0, k19d1, k19d2, k19d3⟩ := B19_d.out.cells; have BE19_o := Go.Lib.hid B18_o.out; have B19_o := Go.Lib.hid (BE19_o.out.below hb19 BE19_o.out.lt); obtain ⟨k19o0, k19o1, k19o2, k19o3⟩ := B19_o.out.cells; have BE19_x := Go.Lib.hid B18_x.out; have B19_x := Go.Lib.hid (BE19_x.out.below hb19 BE19_x.out.lt); obtain ⟨k19x0, k19x1, k19x2, k19x3⟩ := B19_x.out.cells; have BE19_y := Go.Lib.hid B18_y.out; have B19_y := Go.Lib.hid (BE19_y.out.below hb19 BE19_y.out.lt); obtain ⟨k19y0, k19y1, k19y2, k19y3⟩ := B19_y.out.cells; clear hb19)
        | (at_make; refine law_make elU8 w19 rfl _ _ rfl .i64 .i64 41249 41249 n41 rfl rfl hn41 hn41 hnb ?_; intro w20 hown20 hb20 hs20; have hWE20 := Go.Lib.hid hW19.out; have hW20 := Go.Lib.hid (hWE20.out.trans (hb20.mono hWE20.out.size)); have R20_o := Go.Lib.hid (R19_o.out.below hb20 (Nat.le_refl _)); have R20_x := Go.Lib.hid (R19_x.out.below hb20 (Nat.le_refl _)); have R20_y := Go.Lib.hid (R19_y.out.below hb20 (Nat.le_refl _)); have BE20_d := Go.Lib.hid B19_d.out; have B20_d := Go.Lib.hid (BE20_d.out.below hb20 BE20_d.out.lt); obtain ⟨k20d0, k20d1, k20d2, k20d3⟩ := B20_d.out.cells; have BE20_o := Go.Lib.hid B19_o.out; have B20_o := Go.Lib.hid (BE20_o.out.below hb20 BE20_o.out.lt); obtain ⟨k20o0, k20o1, k20o2, k20o3⟩ := B20_o.out.cells; have BE20_x := Go.Lib.hid B19_x.out; have B20_x := Go.Lib.hid (BE20_x.out.below hb20 BE20_x.out.lt); obtain ⟨k20x0, k20x1, k20x2, k20x3⟩ := B20_x.out.cells; have BE20_y := Go.Lib.hid B19_y.out; have B20_y := Go.Lib.hid (BE20_y.out.below hb20 BE20_y.out.lt); obtain ⟨k20y0, k20y1, k20y2, k20y3⟩ := B20_y.out.cells; have R20_z := Go.Lib.hid (Row.of_own hown20 hzw.out); clear hown20 hb20 hs20)
        | (go_at_call 13; ((with_reducible refine (cF.out _ _ _ ?h1).mono ?_)); (case h1 => exact R20_z.out); rintro e w21 ⟨b21, cp21, rfl, hr21, hb21⟩; have hWE21 := Go.Lib.hid hW20.out; have hW21 := Go.Lib.hid (hWE21.out.trans (hb21.mono hWE21.out.size)); have R21_o := Go.Lib.hid (R20_o.out.below hb21 (Nat.le_refl _)); have R21_x := Go.Lib.hid (R20_x.out.below hb21 (Nat.le_refl _)); have R21_y := Go.Lib.hid (R20_y.out.below hb21 (Nat.le_refl _)); have R21_z := Go.Lib.hid (R20_z.out.below hb21 (Nat.le_refl _)); have R21_f := Go.Lib.hid hr21; clear hr21; have BE21_d := Go.Lib.hid B20_d.out; have B21_d := Go.Lib.hid (BE21_d.out.below hb21 BE21_d.out.lt); obtain ⟨k21d0, k21d1, k21d2, k21d3⟩ := B21_d.out.cells; have BE21_o := Go.Lib.hid B20_o.out; have B21_o := Go.Lib.hid (BE21_o.out.below hb21 BE21_o.out.lt); obtain ⟨k21o0, k21o1, k21o2, k21o3⟩ := B21_o.out.cells; have BE21_x := Go.Lib.hid B20_x.out; have B21_x := Go.Lib.hid (BE21_x.out.below hb21 BE21_x.out.lt); obtain ⟨k21x0, k21x1, k21x2, k21x3⟩ := B21_x.out.cells; have BE21_y := Go.Lib.hid B20_y.out; have B21_y := Go.Lib.hid (BE21_y.out.below hb21 BE21_y.out.lt); obtain ⟨k21y0, k21y1, k21y2, k21y3⟩ := B21_y.out.cells; have l21d := B21_d.out.lt; have n21d : w10.heap.size ≠ w21.heap.size := (by omega); have l21o := B21_o.out.lt; have n21o : w11.heap.size ≠ w21.heap.size := (by omega); have l21x := B21_x.out.lt; have n21x : w12.heap.size ≠ w21.heap.size := (by omega); have l21y := B21_y.out.lt; have n21y : w14.heap.size ≠ w21.heap.size := (by omega); clear hb21)
        | (go_at_call 10; ((with_reducible refine (c9.out _ _ _ ?h1).mono ?_)); (case h1 => exact (R21_f.out.below (below1 w21 (.cells #[(.slice b21 n41 cp21), .int .i64 n330] 28)) (Nat.le_refl _))); rintro e w22 ⟨b22, cp22, rfl, hr22, hb22⟩; have hWE22 := Go.Lib.hid (hW21.out.alloc hW21.out.size (.cells #[(.slice b21 n41 cp21), .int .i64 n330] 28)); have hW22 := Go.Lib.hid (hWE22.out.trans (hb22.mono hWE22.out.size)); have R22_o := Go.Lib.hid ((R21_o.out.below (below1 w21 (.cells #[(.slice b21 n41 cp21), .int .i64 n330] 28)) (Nat.le_refl _)).below hb22 (Nat.le_refl _)); have R22_x := Go.Lib.hid ((R21_x.out.below (below1 w21 (.cells #[(.slice b21 n41 cp21), .int .i64 n330] 28)) (Nat.le_refl _)).below hb22 (Nat.le_refl _)); have R22_y := Go.Lib.hid ((R21_y.out.below (below1 w21 (.cells #[(.slice b21 n41 cp21), .int .i64 n330] 28)) (Nat.le_refl _)).below hb22 (Nat.le_refl _)); have R22_z := Go.Lib.hid ((R21_z.out.below (below1 w21 (.cells #[(.slice b21 n41 cp21), .int .i64 n330] 28)) (Nat.le_refl _)).below hb22 (Nat.le_refl _)); have R22_f := Go.Lib.hid ((R21_f.out.below (below1 w21 (.cells #[(.slice b21 n41 cp21), .int .i64 n330] 28)) (Nat.le_refl _)).below hb22 (Nat.le_refl _)); have R22_g := Go.Lib.hid hr22; clear hr22; have BE22_d := Go.Lib.hid (B21_d.out.alloc (.cells #[(.slice b21 n41 cp21), .int .i64 n330] 28)); have B22_d := Go.Lib.hid (BE22_d.out.below hb22 BE22_d.out.lt); obtain ⟨k22d0, k22d1, k22d2, k22d3⟩ := B22_d.out.cells; have BE22_o := Go.Lib.hid (B21_o.out.alloc (.cells #[(.slice b21 n41 cp21), .int .i64 n330] 28)); have B22_o := Go.Lib.hid (BE22_o.out.below hb22 BE22_o.out.lt); obtain ⟨k22o0, k22o1, k22o2, k22o3⟩ := B22_o.out.cells; have BE22_x := Go.Lib.hid (B21_x.out.alloc (.cells #[(.slice b21 n41 cp21), .int .i64 n330] 28)); have B22_x := Go.Lib.hid (BE22_x.out.below hb22 BE22_x.out.lt); obtain ⟨k22x0, k22x1, k22x2, k22x3⟩ := B22_x.out.cells; have BE22_y := Go.Lib.hid (B21_y.out.alloc (.cells #[(.slice b21 n41 cp21), .int .i64 n330] 28)); have B22_y := Go.Lib.hid (BE22_y.out.below hb22 BE22_y.out.lt); obtain ⟨k22y0, k22y1, k22y2, k22y3⟩ := B22_y.out.cells; have BE22_f := Go.Lib.hid (box1 w21 (.slice b21 n41 cp21) n330); have B22_f := Go.Lib.hid (BE22_f.out.below hb22 BE22_f.out.lt); obtain ⟨k22f0, k22f1, k22f2, k22f3⟩ := B22_f.out.cells; have l22d := B22_d.out.lt; have n22d : w10.heap.size ≠ w22.heap.size := (by omega); have l22o := B22_o.out.lt; have n22o : w11.heap.size ≠ w22.heap.size := (by omega); have l22x := B22_x.out.lt; have n22x : w12.heap.size ≠ w22.heap.size := (by omega); have l22y := B22_y.out.lt; have n22y : w14.heap.size ≠ w22.heap.size := (by omega); have l22f := B22_f.out.lt; have n22f : w21.heap.size ≠ w22.heap.size := (by omega); clear hb22)
        | (go_at_call 10; ((with_reducible refine (c10.out _ _ _ ?h1).mono ?_)); (case h1 => exact (R22_f.out.below (below1 w22 (.cells #[(.slice b22 0 cp22), .int .i64 0] 28)) (Nat.le_refl _))); rintro e w23 ⟨b23, cp23, rfl, hr23, hb23⟩; have hWE23 := Go.Lib.hid (hW22.out.alloc hW22.out.size (.cells #[(.slice b22 0 cp22), .int .i64 0] 28)); have hW23 := Go.Lib.hid (hWE23.out.trans (hb23.mono hWE23.out.size)); have R23_o := Go.Lib.hid ((R22_o.out.below (below1 w22 (.cells #[(.slice b22 0 cp22), .int .i64 0] 28)) (Nat.le_refl _)).below hb23 (Nat.le_refl _)); have R23_x := Go.Lib.hid ((R22_x.out.below (below1 w22 (.cells #[(.slice b22 0 cp22), .int .i64 0] 28)) (Nat.le_refl _)).below hb23 (Nat.le_refl _)); have R23_y := Go.Lib.hid ((R22_y.out.below (below1 w22 (.cells #[(.slice b22 0 cp22), .int .i64 0] 28)) (Nat.le_refl _)).below hb23 (Nat.le_refl _)); have R23_z := Go.Lib.hid ((R22_z.out.below (below1 w22 (.cells #[(.slice b22 0 cp22), .int .i64 0] 28)) (Nat.le_refl _)).below hb23 (Nat.le_refl _)); have R23_f := Go.Lib.hid ((R22_f.out.below (below1 w22 (.cells #[(.slice b22 0 cp22), .int .i64 0] 28)) (Nat.le_refl _)).below hb23 (Nat.le_refl _)); have R23_g := Go.Lib.hid ((R22_g.out.below (below1 w22 (.cells #[(.slice b22 0 cp22), .int .i64 0] 28)) (Nat.le_refl _)).below hb23 (Nat.le_refl _)); have R23_h := Go.Lib.hid hr23; clear hr23; have BE23_d := Go.Lib.hid (B22_d.out.alloc (.cells #[(.slice b22 0 cp22), .int .i64 0] 28)); have B23_d := Go.Lib.hid (BE23_d.out.below hb23 BE23_d.out.lt); obtain ⟨k23d0, k23d1, k23d2, k23d3⟩ := B23_d.out.cells; have BE23_o := Go.Lib.hid (B22_o.out.alloc (.cells #[(.slice b22 0 cp22), .int .i64 0] 28)); have B23_o := Go.Lib.hid (BE23_o.out.below hb23 BE23_o.out.lt); obtain ⟨k23o0, k23o1, k23o2, k23o3⟩ := B23_o.out.cells; have BE23_x := Go.Lib.hid (B22_x.out.alloc (.cells #[(.slice b22 0 cp22), .int .i64 0] 28)); have B23_x := Go.Lib.hid (BE23_x.out.below hb23 BE23_x.out.lt); obtain ⟨k23x0, k23x1, k23x2, k23x3⟩ := B23_x.out.cells; have BE23_y := Go.Lib.hid (B22_y.out.alloc (.cells #[(.slice b22 0 cp22), .int .i64 0] 28)); have B23_y := Go.Lib.hid (BE23_y.out.below hb23 BE23_y.out.lt); obtain ⟨k23y0, k23y1, k23y2, k23y3⟩ := B23_y.out.cells; have BE23_f := Go.Lib.hid (B22_f.out.alloc (.cells #[(.slice b22 0 cp22), .int .i64 0] 28)); have B23_f := Go.Lib.hid (BE23_f.out.below hb23 BE23_f.out.lt); obtain ⟨k23f0, k23f1, k23f2, k23f3⟩ := B23_f.out.cells; have BE23_g := Go.Lib.hid (box1 w22 (.slice b22 0 cp22) 0); have B23_g := Go.Lib.hid (BE23_g.out.below hb23 BE23_g.out.lt); obtain ⟨k23g0, k23g1, k23g2, k23g3⟩ := B23_g.out.cells; have l23d := B23_d.out.lt; have n23d : w10.heap.size ≠ w23.heap.size := (by omega); have l23o := B23_o.out.lt; have n23o : w11.heap.size ≠ w23.heap.size := (by omega); have l23x := B23_x.out.lt; have n23x : w12.heap.size ≠ w23.heap.size := (by omega); have l23y := B23_y.out.lt; have n23y : w14.heap.size ≠ w23.heap.size := (by omega); have l23f := B23_f.out.lt; have n23f : w21.heap.size ≠ w23.heap.size := (by omega); have l23g := B23_g.out.lt; have n23g : w22.heap.size ≠ w23.heap.size := (by omega); clear hb23)
        | (go_at_call 11; ((with_reducible refine (c11.out _ _ _ ?h1).mono ?_)); (case h1 => exact (R23_o.out.below (below1 w23 (.cells #[(.slice b23 0 cp23), .int .i64 0] 28)) (Nat.le_refl _))); rintro e w24 ⟨rfl, hb24⟩; have hWE24 := Go.Lib.hid (hW23.out.alloc hW23.out.size (.cells #[(.slice b23 0 cp23), .int .i64 0] 28)); have hW24 := Go.Lib.hid (hWE24.out.trans (hb24.mono hWE24.out.size)); have R24_o := Go.Lib.hid ((R23_o.out.below (below1 w23 (.cells #[(.slice b23 0 cp23), .int .i64 0] 28)) (Nat.le_refl _)).below hb24 (Nat.le_refl _)); have R24_x := Go.Lib.hid ((R23_x.out.below (below1 w23 (.cells #[(.slice b23 0 cp23), .int .i64 0] 28)) (Nat.le_refl _)).below hb24 (Nat.le_refl _)); have R24_y := Go.Lib.hid ((R23_y.out.below (below1 w23 (.cells #[(.slice b23 0 cp23), .int .i64 0] 28)) (Nat.le_refl _)).below hb24 (Nat.le_refl _)); have R24_z := Go.Lib.hid ((R23_z.out.below (below1 w23 (.cells #[(.slice b23 0 cp23), .int .i64 0] 28)) (Nat.le_refl _)).below hb24 (Nat.le_refl _)); have R24_f := Go.Lib.hid ((R23_f.out.below (below1 w23 (.cells #[(.slice b23 0 cp23), .int .i64 0] 28)) (Nat.le_refl _)).below hb24 (Nat.le_refl _)); have R24_g := Go.Lib.hid ((R23_g.out.below (below1 w23 (.cells #[(.slice b23 0 cp23), .int .i64 0] 28)) (Nat.le_refl _)).below hb24 (Nat.le_refl _)); have R24_h := Go.Lib.hid ((R23_h.out.below (below1 w23 (.cells #[(.slice b23 0 cp23), .int .i64 0] 28)) (Nat.le_refl _)).below hb24 (Nat.le_refl _)); have BE24_d := Go.Lib.hid (B23_d.out.alloc (.cells #[(.slice b23 0 cp23), .int .i64 0] 28)); have B24_d := Go.Lib.hid (BE24_d.out.below hb24 BE24_d.out.lt); obtain ⟨k24d0, k24d1, k24d2, k24d3⟩ := B24_d.out.cells; have BE24_o := Go.Lib.hid (B23_o.out.alloc (.cells #[(.slice b23 0 cp23), .int .i64 0] 28)); have B24_o := Go.Lib.hid (BE24_o.out.below hb24 BE24_o.out.lt); obtain ⟨k24o0, k24o1, k24o2, k24o3⟩ := B24_o.out.cells; have BE24_x := Go.Lib.hid (B23_x.out.alloc (.cells #[(.slice b23 0 cp23), .int .i64 0] 28)); have B24_x := Go.Lib.hid (BE24_x.out.below hb24 BE24_x.out.lt); obtain ⟨k24x0, k24x1, k24x2, k24x3⟩ := B24_x.out.cells; have BE24_y := Go.Lib.hid (B23_y.out.alloc (.cells #[(.slice b23 0 cp23), .int .i64 0] 28)); have B24_y := Go.Lib.hid (BE24_y.out.below hb24 BE24_y.out.lt); obtain ⟨k24y0, k24y1, k24y2, k24y3⟩ := B24_y.out.cells; have BE24_f := Go.Lib.hid (B23_f.out.alloc (.cells #[(.slice b23 0 cp23), .int .i64 0] 28)); have B24_f := Go.Lib.hid (BE24_f.out.below hb24 BE24_f.out.lt); obtain ⟨k24f0, k24f1, k24f2, k24f3⟩ := B24_f.out.cells; have BE24_g := Go.Lib.hid (B23_g.out.alloc (.cells #[(.slice b23 0 cp23), .int .i64 0] 28)); have B24_g := Go.Lib.hid (BE24_g.out.below hb24 BE24_g.out.lt); obtain ⟨k24g0, k24g1, k24g2, k24g3⟩ := B24_g.out.cells; have BE24_h := Go.Lib.hid (box1 w23 (.slice b23 0 cp23) 0); have B24_h := Go.Lib.hid (BE24_h.out.below hb24 BE24_h.out.lt); obtain ⟨k24h0, k24h1, k24h2, k24h3⟩ := B24_h.out.cells; clear hb24)
        | (go_at_call 14; refine (alive7_ok _).mono ?_; rintro e w25 ⟨rfl, hb25⟩; have hWE25 := Go.Lib.hid hW24.out; have hW25 := Go.Lib.hid (hWE25.out.trans (hb25.mono hWE25.out.size)); clear hb25))
      go_ret
      exact ⟨rfl, hW25.out⟩

theorem riceNames_walk (W : World) :
    Calls Try.prog 3 #[] W fun e w' => e = .returned (.bool true) ∧ Below W.heap.size W w' :=
  riceNames_in W 41249 329992 rfl rfl
end Go.Proofs.Ytahefkjgcdchlaa
