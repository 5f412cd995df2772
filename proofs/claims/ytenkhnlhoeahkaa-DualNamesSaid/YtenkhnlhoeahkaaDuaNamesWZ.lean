/- DualNames: the chapter's examples, the ends of learning, limits and errors. -/
import Derived.Test.YtenkhnlhoeahkaaDuaSidesWZ

namespace Go.Proofs.Ytenkhnlhoeahkaa
open Go.RowKit Cad

theorem byteN_false8 (n j : Nat) : byteN (List.replicate n false) j = 0 := by
  have h : ∀ i, (List.replicate n false).getD i false = false := fun i => by
    by_cases hi : i < n
    · simp [List.getD, hi]
    · rw [getD_ge]; simp; omega
  unfold byteN
  rw [h, h, h, h, h, h, h, h]; rfl
theorem pack_false8 (k : Nat) : pack (List.replicate (8 * k) false) = List.replicate k 0 := by
  apply List.ext_getElem
  · rw [pack_len]; simp; omega
  · intro i h1 h2
    simp [pack, byteN_false8]

/-- four cells that hold a state, in a row of states -/
structure Cells4 (w : World) (bk o : Nat) (a b c d : Int) : Prop where
  c0 : w.cell? ⟨bk, o, none⟩ = some (.int .i64 a)
  c1 : w.cell? ⟨bk, o + 1, none⟩ = some (.int .i64 b)
  c2 : w.cell? ⟨bk, o + 2, none⟩ = some (.int .u64 c)
  c3 : w.cell? ⟨bk, o + 3, none⟩ = some (.int .u64 d)
theorem Cells4.below {w w' : World} {bk o B : Nat} {a b c d : Int} (h : Cells4 w bk o a b c d) (hb : Below B w w') (hB : bk < B) : Cells4 w' bk o a b c d :=
  ⟨(Below.cell hb (p := ⟨bk, o, none⟩) hB).trans h.c0, (Below.cell hb (p := ⟨bk, o + 1, none⟩) hB).trans h.c1, (Below.cell hb (p := ⟨bk, o + 2, none⟩) hB).trans h.c2, (Below.cell hb (p := ⟨bk, o + 3, none⟩) hB).trans h.c3⟩
theorem bad_at {w : World} {bk : Nat} (h : w.heap[bk]? = some (.cells #[.int .i64 (-1), .int .i64 0, .int .u64 0, .int .u64 0, .int .i64 0, .int .i64 (-1), .int .u64 0, .int .u64 0, .int .i64 25, .int .i64 0, .int .u64 0, .int .u64 0, .int .i64 0, .int .i64 25, .int .u64 0, .int .u64 0, .int .i64 0, .int .i64 0, .int .u64 68719476736, .int .u64 0, .int .i64 0, .int .i64 0, .int .u64 0, .int .u64 68719476736, .int .i64 25, .int .i64 0, .int .u64 9223372036854775808, .int .u64 0] 30)) (k : Nat) (hk : k < 7) :
    ∃ a b c d : Int, (Lit.int .i64 a).wf = true ∧ (Lit.int .i64 b).wf = true ∧ (Lit.int .u64 c).wf = true ∧ (Lit.int .u64 d).wf = true ∧ ¬ DuOk a b c d ∧ Cells4 w bk (k * 4) a b c d := by
  have key : k = 0 ∨ k = 1 ∨ k = 2 ∨ k = 3 ∨ k = 4 ∨ k = 5 ∨ k = 6 := by omega
  rcases key with rfl | rfl | rfl | rfl | rfl | rfl | rfl
  · exact ⟨(-1), 0, 0, 0, by decide, by decide, by decide, by decide, by unfold DuOk; omega, by unfold World.cell?; rw [h]; rfl, by unfold World.cell?; rw [h]; rfl, by unfold World.cell?; rw [h]; rfl, by unfold World.cell?; rw [h]; rfl⟩
  · exact ⟨0, (-1), 0, 0, by decide, by decide, by decide, by decide, by unfold DuOk; omega, by unfold World.cell?; rw [h]; rfl, by unfold World.cell?; rw [h]; rfl, by unfold World.cell?; rw [h]; rfl, by unfold World.cell?; rw [h]; rfl⟩
  · exact ⟨25, 0, 0, 0, by decide, by decide, by decide, by decide, by unfold DuOk; omega, by unfold World.cell?; rw [h]; rfl, by unfold World.cell?; rw [h]; rfl, by unfold World.cell?; rw [h]; rfl, by unfold World.cell?; rw [h]; rfl⟩
  · exact ⟨0, 25, 0, 0, by decide, by decide, by decide, by decide, by unfold DuOk; omega, by unfold World.cell?; rw [h]; rfl, by unfold World.cell?; rw [h]; rfl, by unfold World.cell?; rw [h]; rfl, by unfold World.cell?; rw [h]; rfl⟩
  · exact ⟨0, 0, 68719476736, 0, by decide, by decide, by decide, by decide, by unfold DuOk; omega, by unfold World.cell?; rw [h]; rfl, by unfold World.cell?; rw [h]; rfl, by unfold World.cell?; rw [h]; rfl, by unfold World.cell?; rw [h]; rfl⟩
  · exact ⟨0, 0, 0, 68719476736, by decide, by decide, by decide, by decide, by unfold DuOk; omega, by unfold World.cell?; rw [h]; rfl, by unfold World.cell?; rw [h]; rfl, by unfold World.cell?; rw [h]; rfl, by unfold World.cell?; rw [h]; rfl⟩
  · exact ⟨25, 0, 9223372036854775808, 0, by decide, by decide, by decide, by decide, by unfold DuOk; omega, by unfold World.cell?; rw [h]; rfl, by unfold World.cell?; rw [h]; rfl, by unfold World.cell?; rw [h]; rfl, by unfold World.cell?; rw [h]; rfl⟩

set_option maxRecDepth 100000 in
set_option maxHeartbeats 40000000 in
theorem dualNames_in (W : World) (n41 n330 : Nat) (hn41 : (41250 : Int) = n41) (hn330 : (330000 : Int) = n330) :
    Calls Try.prog 3 #[] W fun e w' => e = .returned (.bool true) ∧ Below W.heap.size W w' := by
  have hn1 : n41 = 41250 := by omega
  have hn2 : n330 = 330000 := by omega
  have hnb : n41 ≤ 17592186044416 := by omega
  have hzw : Hid (∀ x ∈ List.replicate n41 (0 : Int), (Lit.int .u8 x).wf = true) := Go.Lib.hid (u8_wf fun x hx => by rw [List.eq_of_mem_replicate hx]; omega)
  obtain ⟨F, hF⟩ : ∃ F, F = List.replicate n330 false := ⟨_, rfl⟩
  have lF : F.length = n330 := by rw [hF, List.length_replicate]
  have pF : pack F = List.replicate n41 0 := by rw [hF, show n330 = 8 * n41 by omega, pack_false8]
  have hv1 : ¬ Valid [] 1 := fun h => by have := h.n; simp at this
  have hnil : pack [] = [] := rfl
  have z_ok : Du.ok ⟨0, 0, 0, 0⟩ := ⟨by decide, by decide, by decide, by decide⟩
  obtain ⟨O, hO⟩ : ∃ O, O = [true] := ⟨_, rfl⟩
  have lO : O.length = 1 := by rw [hO]; rfl
  have vO : Valid (pack O) 1 := ⟨O, by rw [lO]; rfl, by omega, rfl⟩
  have cO : Hid (∀ (w : World), Calls Try.prog 10 #[.agg #[.slice none 0 0, .int .i64 0], .int .u64 1, .int .i64 1] w fun e W' => ∃ b c, e = .returned (.tuple #[.agg #[.slice b 1 c, .int .i64 1], .int .i64 0]) ∧ Row .u8 W' b 1 c (pack O) ∧ Below w.heap.size w W') := Go.Lib.hid fun w => by
    have := BPut_ok w none 0 0 [] 1 1 (by rw [hnil]; exact Row.nil_row _ _) (by simp) (by omega) (by decide)
    rw [List.nil_append, show numB 1 1 = O by rw [hO]; rfl] at this
    exact this
  have wO : Hid (∀ a b c d : Int, (Lit.int .i64 a).wf = true → (Lit.int .i64 b).wf = true → (Lit.int .u64 c).wf = true → (Lit.int .u64 d).wf = true → ¬ DuOk a b c d → ∀ w b' c', Row .u8 w b' 1 c' (pack O) → ResD 13 #[.agg #[.slice b' 1 c', .int .i64 1], .agg #[.int .i64 a, .int .i64 b, .int .u64 c, .int .u64 d], .int .u32 0] w 0 [] 0 0 0 0 0 8) := Go.Lib.hid fun a b c d ha hb hc hd hn w b' c' h =>
    DWrite_state w b' 1 c' 1 (pack O) a b c d 0 h (by decide) vO ha hb hc hd hn
  have rO : Hid (∀ a b c d : Int, (Lit.int .i64 a).wf = true → (Lit.int .i64 b).wf = true → (Lit.int .u64 c).wf = true → (Lit.int .u64 d).wf = true → ¬ DuOk a b c d → ∀ w b' c', Row .u8 w b' 1 c' (pack O) → ResR 14 #[.agg #[.slice b' 1 c', .int .i64 1], .int .i64 (-1), .agg #[.int .i64 a, .int .i64 b, .int .u64 c, .int .u64 d]] w 0 0 0 0 0 0 8) := Go.Lib.hid fun a b c d ha hb hc hd hn w b' c' h =>
    DRead_state w b' 1 c' 1 (-1) (pack O) a b c d h (by decide) vO ha hb hc hd hn
  have t1 : Hid (∀ w, Calls Try.prog 11 #[.agg #[.int .i64 24, .int .i64 24, .int .u64 68719476735, .int .u64 68719476735], .int .u32 4294967295] w fun e W' => e = .returned (.tuple #[.agg #[.int .i64 24, .int .i64 24, .int .u64 68719476735, .int .u64 68702699519], .int .i64 0]) ∧ Below w.heap.size w W') := Go.Lib.hid fun w => DLearn_ok w ⟨24, 24, 68719476735, 68719476735⟩ 4294967295 ⟨by decide, by decide, by decide, by decide⟩ (by decide)
  have t2 : Hid (∀ w, Calls Try.prog 11 #[.agg #[.int .i64 0, .int .i64 0, .int .u64 0, .int .u64 0], .int .u32 0] w fun e W' => e = .returned (.tuple #[.agg #[.int .i64 0, .int .i64 0, .int .u64 0, .int .u64 0], .int .i64 0]) ∧ Below w.heap.size w W') := Go.Lib.hid fun w => DLearn_ok w ⟨0, 0, 0, 0⟩ 0 z_ok (by decide)
  have t3 : Hid (∀ w, Calls Try.prog 11 #[.agg #[.int .i64 0, .int .i64 0, .int .u64 32, .int .u64 32], .int .u32 3] w fun e W' => e = .returned (.tuple #[.agg #[.int .i64 1, .int .i64 0, .int .u64 33, .int .u64 32], .int .i64 0]) ∧ Below w.heap.size w W') := Go.Lib.hid fun w => DLearn_ok w ⟨0, 0, 32, 32⟩ 3 ⟨by decide, by decide, by decide, by decide⟩ (by decide)
  have t4 : Hid (∀ w, Calls Try.prog 12 #[.agg #[.int .i64 0, .int .i64 0, .int .u64 0, .int .u64 0], .int .u32 4294967295] w fun e W' => e = .returned (.tuple #[.int .i64 81, .int .i64 0]) ∧ Below w.heap.size w W') := Go.Lib.hid fun w => DLength_ok w ⟨0, 0, 0, 0⟩ 4294967295 z_ok (by decide)
  have t5 : Hid (∀ w, ResD 13 #[.agg #[.slice none 0 0, .int .i64 1], .agg #[.int .i64 0, .int .i64 0, .int .u64 0, .int .u64 0], .int .u32 0] w 0 [] 0 0 0 0 0 8) := Go.Lib.hid fun w => DWrite_bad w none 0 0 1 [] 0 0 0 0 0 (Row.nil_row _ _) (by decide) hv1
  have t6 : Hid (∀ w, ResR 14 #[.agg #[.slice none 0 0, .int .i64 1], .int .i64 (-1), .agg #[.int .i64 0, .int .i64 0, .int .u64 0, .int .u64 0]] w 0 0 0 0 0 0 8) := Go.Lib.hid fun w => DRead_bad w none 0 0 1 (-1) [] 0 0 0 0 (Row.nil_row _ _) (by decide) hv1
  have t7 : Hid (∀ w b c, Row .u8 w b 1 c (pack O) → ResR 14 #[.agg #[.slice b 1 c, .int .i64 1], .int .i64 (-1), .agg #[.int .i64 0, .int .i64 0, .int .u64 0, .int .u64 0]] w 0 0 0 0 0 0 2) := Go.Lib.hid fun w b c h => by
    exact DRead_out w b 1 c 1 (-1) (pack O) ⟨0, 0, 0, 0⟩ 2 h (by decide) (by decide) vO z_ok (.inl ⟨by decide, rfl⟩)
  have t8 : Hid (∀ w b c, Row .u8 w b 1 c (pack O) → ResR 14 #[.agg #[.slice b 1 c, .int .i64 1], .int .i64 1, .agg #[.int .i64 0, .int .i64 0, .int .u64 0, .int .u64 0]] w 0 0 0 0 0 0 24) := Go.Lib.hid fun w b c h => by
    exact DRead_out w b 1 c 1 1 (pack O) ⟨0, 0, 0, 0⟩ 24 h (by decide) (by decide) vO z_ok (.inr ⟨by decide, by decide, rfl⟩)
  have t9 : Hid (∀ w b c, Row .u8 w b 1 c (pack O) → ResR 14 #[.agg #[.slice b 1 c, .int .i64 1], .int .i64 0, .agg #[.int .i64 0, .int .i64 0, .int .u64 0, .int .u64 0]] w 0 0 0 0 0 0 24) := Go.Lib.hid fun w b c h => by
    have e : readD O 0 ⟨0, 0, 0, 0⟩ = (0, 0, 24) := by rw [hO]; decide
    have := DRead_er w b 1 c O 0 ⟨0, 0, 0, 0⟩ h (by omega) (by omega) z_ok 0 0 24 (by decide) e
    rw [lO] at this
    exact this
  have t10 : Hid (∀ w b c, Row .u8 w b 1 c (pack O) → ResR 14 #[.agg #[.slice b 1 c, .int .i64 1], .int .i64 9223372036854775807, .agg #[.int .i64 0, .int .i64 0, .int .u64 0, .int .u64 0]] w 0 0 0 0 0 0 24) := Go.Lib.hid fun w b c h => by
    exact DRead_out w b 1 c 1 9223372036854775807 (pack O) ⟨0, 0, 0, 0⟩ 24 h (by decide) (by decide) vO z_ok (.inr ⟨by decide, by decide, rfl⟩)
  obtain ⟨G, hG⟩ : ∃ G, G = O ++ runB 48 := ⟨_, rfl⟩
  have lG : G.length = 49 := by rw [hG, List.length_append, lO, runB_len (Nat.le_refl _)]; rfl
  obtain ⟨Y, hY⟩ : ∃ Y, Y = G ++ numB 4294967295 32 := ⟨_, rfl⟩
  have lY : Y.length = 81 := by rw [hY, List.length_append, lG, numB_len]
  have t11 : Hid (∀ w b c, Row .u8 w b 1 c (pack O) → Calls Try.prog 10 #[.agg #[.slice b 1 c, .int .i64 1], .int .u64 281474976710655, .int .i64 48] w fun e W' => ∃ b c, e = .returned (.tuple #[.agg #[.slice b 7 c, .int .i64 49], .int .i64 0]) ∧ Row .u8 W' b 7 c (pack G) ∧ Below w.heap.size w W') := Go.Lib.hid fun w b c h => by
    have := BPut_ok w b 1 c O 281474976710655 48 h (by rw [lO]; decide) (by decide) (by decide)
    have e : numB 281474976710655 48 = runB 48 := by
      have h := run_num (Nat.le_refl 48)
      rw [show 2 ^ 48 - 1 = 281474976710655 by decide, show runLen 48 = 48 by rfl] at h
      exact h
    rw [e, ← hG, lO] at this
    exact this
  have t12 : Hid (∀ w b c, Row .u8 w b 7 c (pack G) → Calls Try.prog 10 #[.agg #[.slice b 7 c, .int .i64 49], .int .u64 4294967295, .int .i64 32] w fun e W' => ∃ b c, e = .returned (.tuple #[.agg #[.slice b 11 c, .int .i64 81], .int .i64 0]) ∧ Row .u8 W' b 11 c (pack Y) ∧ Below w.heap.size w W') := Go.Lib.hid fun w b c h => by
    have := BPut_ok w b 7 c G 4294967295 32 h (by rw [lG]; decide) (by decide) (by decide)
    rw [← hY, lG] at this
    exact this
  have t13 : Hid (∀ w b c, Row .u8 w b 11 c (pack Y) → ResR 14 #[.agg #[.slice b 11 c, .int .i64 81], .int .i64 0, .agg #[.int .i64 0, .int .i64 0, .int .u64 0, .int .u64 0]] w 0 0 0 0 0 0 12) := Go.Lib.hid fun w b c h => by
    have hp : partN 4294967295 0 = 48 := by decide
    have hl32 : lowN 48 0 = 32 := rfl
    have e0 : Y = O ++ riceB 4294967295 0 ++ [] := by
      rw [hY, hG, List.append_nil, List.append_assoc]
      unfold riceB lowV
      rw [hp, hl32]
    have e1 := read_rice O [] (v := 4294967295) (k := 0) (by decide)
    rw [← e0, lO, riceLen_full hp] at e1
    have e2 : Y.getD 0 false = true := by rw [hY, hG, hO]; rfl
    have e3 : readD Y 0 ⟨0, 0, 0, 0⟩ = (0, 0, 12) := readD_great (d := ⟨0, 0, 0, 0⟩) (by omega) e2 e1 (by decide)
    have := DRead_er w b 11 c Y 0 ⟨0, 0, 0, 0⟩ h (by omega) (by omega) z_ok 0 0 12 (by decide) e3
    rw [lY] at this
    exact this
  have t14 : Hid (∀ (w : World) b c, Row .u8 w b n41 c (List.replicate n41 0) → Calls Try.prog 16 #[.slice b n41 c] w fun e W' => ∃ b c, e = .returned (.tuple #[.agg #[.slice b n41 c, .int .i64 n330], .int .i64 0]) ∧ Row .u8 W' b n41 c (pack F) ∧ Below w.heap.size w W') := Go.Lib.hid fun w b c h => by
    refine (BOf_ok w b n41 c _ h (by omega)).mono ?_
    rintro e w' ⟨v', rfl, h1, h2⟩
    obtain ⟨a1, p1, rfl⟩ := own_form h1
    exact ⟨a1, p1, by rw [show 8 * (n41 : Int) = n330 by omega], by rw [pF]; exact Row.of_own h1 hzw.out, h2⟩
  have t15 : Hid (∀ (w : World) b c, Row .u8 w b n41 c (pack F) → ResD 13 #[.agg #[.slice b n41 c, .int .i64 n330], .agg #[.int .i64 0, .int .i64 0, .int .u64 0, .int .u64 0], .int .u32 0] w 0 [] 0 0 0 0 0 18) := Go.Lib.hid fun w b c h => by
    have := DWrite_over w b n41 c F ⟨0, 0, 0, 0⟩ 0 h (by omega) (by rw [lF, hn2]; decide) z_ok (by decide)
    rw [lF] at this
    exact this
  unfold ResD at t5 t15
  unfold ResR at t6 t7 t8 t9 t10 t13
  have s0 := sameD_self 0 0 0 0
  have s1 := sameD_self 24 24 68719476735 68702699519
  have s2 := sameD_self 1 0 33 32
  have hn41' := Go.Lib.hid hn41
  clear hn1 hn2 hF lF pF hv1 hnil z_ok hO lO vO hn330 hG lG hY lY
  go_enter Try.func3, Try.ntmps3
  go_wp2_with (go_at_call 10; refine (cO.out _).mono ?_; rintro e w1 ⟨b1, cp1, rfl, hr1, hb1⟩; have hr1' := Go.Lib.hid hr1; have hb1' := Go.Lib.hid hb1; clear hr1 hb1)
  obtain ⟨wl, hwl⟩ : ∃ w, w = (w1.alloc (.cells #[.slice b1 1 cp1, .int .i64 1] 24)).alloc (.cells #[.int .i64 (-1), .int .i64 0, .int .u64 0, .int .u64 0, .int .i64 0, .int .i64 (-1), .int .u64 0, .int .u64 0, .int .i64 25, .int .i64 0, .int .u64 0, .int .u64 0, .int .i64 0, .int .i64 25, .int .u64 0, .int .u64 0, .int .i64 0, .int .i64 0, .int .u64 68719476736, .int .u64 0, .int .i64 0, .int .i64 0, .int .u64 0, .int .u64 68719476736, .int .i64 25, .int .i64 0, .int .u64 9223372036854775808, .int .u64 0] 30) := ⟨_, rfl⟩
  have hB1 : BoxAt wl w1.heap.size (.slice b1 1 cp1) 1 := by rw [hwl]; exact (box1 w1 _ _).alloc _
  have hbad : wl.heap[w1.heap.size + 1]? = some (.cells #[.int .i64 (-1), .int .i64 0, .int .u64 0, .int .u64 0, .int .i64 0, .int .i64 (-1), .int .u64 0, .int .u64 0, .int .i64 25, .int .i64 0, .int .u64 0, .int .u64 0, .int .i64 0, .int .i64 25, .int .u64 0, .int .u64 0, .int .i64 0, .int .i64 0, .int .u64 68719476736, .int .u64 0, .int .i64 0, .int .i64 0, .int .u64 0, .int .u64 68719476736, .int .i64 25, .int .i64 0, .int .u64 9223372036854775808, .int .u64 0] 30) := by rw [hwl, heap_alloc2_new]
  have hRl : Row .u8 wl b1 1 cp1 (pack O) := by rw [hwl]; exact (hr1'.out.below (below1 w1 _) (Nat.le_refl _)).below (below1 _ _) (Nat.le_refl _)
  have hWl : Below W.heap.size W wl := by rw [hwl]; exact (hb1'.out.alloc hb1'.out.size _).alloc (hb1'.out.alloc hb1'.out.size _).size _
  rw [← hwl]
  obtain ⟨x1, hx1⟩ : ∃ x, x = w1.heap.size := ⟨_, rfl⟩
  rw [← hx1] at hB1 hbad
  try rw [← hx1]
  clear hwl hx1 hr1' hb1' cO
  have hl1 := hB1.lt
  have hlb : x1 + 1 < wl.heap.size := by
    apply Classical.byContradiction; intro hx; rw [Array.getElem?_eq_none (by omega)] at hbad; cases hbad
  have hB1' := Go.Lib.hid hB1
  have hbad' := Go.Lib.hid hbad
  have hRl' := Go.Lib.hid hRl
  have hWl' := Go.Lib.hid hWl
  clear hB1 hbad hRl hWl
  go_loopg [4] 7 (fun g i wx => ∃ k : Nat, k ≤ 7 ∧ g = 7 - k ∧ i = .int .i64 k ∧ Below wl.heap.size wl wx)
  case atStart => exact ⟨0, by decide, rfl, rfl, Below.refl _ _⟩
  case round =>
    obtain ⟨k, hk, hg, rfl, hB⟩ := hrel
    by_cases hlt : k < 7
    · have hltI : (k : Int) < 7 := by omega
      obtain ⟨a, b, c, d, wa, wb, wc', wd, hbd, h4⟩ := bad_at hbad'.out k hlt
      have le : Hid (∀ w, Calls Try.prog 11 #[.agg #[.int .i64 a, .int .i64 b, .int .u64 c, .int .u64 d], .int .u32 0] w fun e W' => e = .returned (.tuple #[.agg #[.int .i64 0, .int .i64 0, .int .u64 0, .int .u64 0], .int .i64 8]) ∧ Below w.heap.size w W') := Go.Lib.hid fun w => DLearn_bad w a b c d 0 wa wb wc' wd hbd
      have ln : Hid (∀ w, Calls Try.prog 12 #[.agg #[.int .i64 a, .int .i64 b, .int .u64 c, .int .u64 d], .int .u32 0] w fun e W' => e = .returned (.tuple #[.int .i64 0, .int .i64 8]) ∧ Below w.heap.size w W') := Go.Lib.hid fun w => DLength_bad w a b c d 0 wa wb wc' wd hbd
      have wr' := Go.Lib.hid (wO.out a b c d wa wb wc' wd hbd)
      have rd' := Go.Lib.hid (rO.out a b c d wa wb wc' wd hbd)
      have ck := Go.Lib.hid fun w => DCheck_any w a b c d wa wb wc' wd 8 (.inr ⟨hbd, rfl⟩)
      unfold ResD at wr'
      unfold ResR at rd'
      have h4' := Go.Lib.hid h4
      have hB' := Go.Lib.hid hB
      have hgo := Go.Lib.hid hg
      clear wa wb wc' wd hbd hg
      obtain ⟨i0, i1, i2, i3⟩ := h4.below hB hlb
      clear h4
      have hlw : x1 + 1 < wr.heap.size := Nat.lt_of_lt_of_le hlb hB.size
      clear hB
      go_wp2_with (first
        | (go_at_call 11; with_reducible refine (le.out _).mono ?_; rintro e p1 ⟨rfl, hp1⟩; have hP1 := Go.Lib.hid (hB'.out.trans ((hp1.alloc hp1.size (.cells #[.int .i64 0, .int .i64 0, .int .u64 0, .int .u64 0] 30)).mono hB'.out.size)); obtain ⟨j0, j1, j2, j3⟩ := h4'.out.below (hB'.out.trans (hp1.mono hB'.out.size)) hlb; have hlp : x1 + 1 < p1.heap.size := Nat.lt_of_lt_of_le hlw hp1.size; have hnp : x1 + 1 ≠ p1.heap.size := Nat.ne_of_lt hlp; clear hp1)
        | (go_at_call 12; with_reducible refine (ln.out _).mono ?_; rintro e p2 ⟨rfl, hp2⟩; have hP2 := Go.Lib.hid (hP1.out.trans (hp2.mono hP1.out.size)); clear hp2))
      have B1p := Go.Lib.hid (hB1'.out.below hP2.out hl1)
      have C4p := Go.Lib.hid (h4'.out.below hP2.out hlb)
      have Rp := Go.Lib.hid (hRl'.out.below hP2.out (Nat.le_refl _))
      have hl1p : x1 < p2.heap.size := Nat.lt_of_lt_of_le hl1 hP2.out.size
      have hlbp : x1 + 1 < p2.heap.size := Nat.lt_of_lt_of_le hlb hP2.out.size
      clear i0 i1 i2 i3 j0 j1 j2 j3 hlp hnp hlw hP1
      go_cut [11] (fun s11 wx => s11 = .int .i64 8 ∧ Below wl.heap.size wl wx)
      case first =>
        refine wp_region_ord6 (fun w' => Below p2.heap.size p2 w') 5 10 11 [(1, 0), (2, 0), (3, 0), (0, 2), (4, 2), (5, 4), (6, 0), (7, 0), (8, 0), (9, 0), (10, 4), (11, 4), (12, 4), (13, 4), (14, 0)] [(1, 0), (2, 0), (3, 0), (0, 2), (4, 2), (5, 4), (6, 0), (7, 0), (8, 0), (9, 0), (11, 4), (10, 4), (12, 4), (13, 4), (14, 0)] [(1, 0), (2, 0), (3, 0), (0, 2), (4, 2), (11, 3), (5, 4), (6, 0), (7, 0), (8, 0), (9, 0), (10, 4), (12, 4), (13, 4), (14, 0)] [(1, 0), (2, 0), (3, 0), (0, 2), (4, 2), (10, 3), (5, 4), (6, 0), (7, 0), (8, 0), (9, 0), (11, 4), (12, 4), (13, 4), (14, 0)] [(1, 0), (2, 0), (3, 0), (0, 2), (4, 2), (10, 3), (11, 3), (5, 4), (6, 0), (7, 0), (8, 0), (9, 0), (12, 4), (13, 4), (14, 0)] [(1, 0), (2, 0), (3, 0), (0, 2), (4, 2), (11, 3), (10, 3), (5, 4), (6, 0), (7, 0), (8, 0), (9, 0), (12, 4), (13, 4), (14, 0)] (by kernel_rfl) (by decide) (by kernel_rfl) (by kernel_rfl) (by kernel_rfl) (by kernel_rfl) (by kernel_rfl) (by kernel_rfl) ?hC0 ?_ ?_ ?_ ?_ ?_ ?_
        case hC0 => exact (Below.refl _ _).drew
        · simp only [pick, nth]
          refine wpW_name ?_
          intro q0 hq0
          have hB0 : Below p2.heap.size p2 q0 := by rw [hq0]; exact (Below.refl _ _).drew
          clear hq0
          (repeat (first | (apply wpW_light; (case h => (intro wa; (first | (go_big_quiet_skip; exact wpQuiet_nil rfl) | (go_big_quiet_want; go_big_quiet_op; go_big_quiet_on; exact wpQuiet_nil rfl))))) | (apply wpW_here; (case h => (first | (go_big_quiet_skip; exact wpQuiet_nil rfl) | (go_big_quiet_want; go_big_quiet_op; go_big_quiet_on; exact wpQuiet_nil rfl)))) | (apply wpW_held; (case hC => assumption); (case h => (intro wa hCa; (obtain ⟨t0, t1, t2, t3⟩ := (B1p.out.below hCa hl1p).cells; obtain ⟨v0, v1, v2, v3⟩ := C4p.out.below hCa hlbp; clear hCa); (first | (go_big_quiet_skip; exact wpQuiet_nil rfl) | (go_big_quiet_want; go_big_quiet_op; go_big_quiet_on; exact wpQuiet_nil rfl)))))))
          refine wpW_last (fun QQ hQQ => ?_) (by rfl)
          go_wp2_with (go_at_call 13; with_reducible refine (wr'.out _ _ _ ?h1).mono ?_; (case h1 => exact Rp.out.below hB0 (Nat.le_refl _)); rintro e q1 ⟨b', c', rfl, hrr, hs⟩; have hB1 := hB0.trans (hs.mono hB0.size))
          (refine hQQ.out _ _ ?_; clear hQQ QQ)
          clear hs
          (repeat (first | (apply wpW_light; (case h => (intro wa; (first | (go_big_quiet_skip; exact wpQuiet_nil rfl) | (go_big_quiet_want; go_big_quiet_op; go_big_quiet_on; exact wpQuiet_nil rfl))))) | (apply wpW_here; (case h => (first | (go_big_quiet_skip; exact wpQuiet_nil rfl) | (go_big_quiet_want; go_big_quiet_op; go_big_quiet_on; exact wpQuiet_nil rfl)))) | (apply wpW_held; (case hC => assumption); (case h => (intro wa hCa; simp only [] at hCa; (first | (go_big_quiet_skip; exact wpQuiet_nil rfl) | (go_big_quiet_want; go_big_quiet_op; go_big_quiet_on; exact wpQuiet_nil rfl)))))))
          refine wpW_last (fun QQ hQQ => ?_) (by rfl)
          go_wp2
          (refine hQQ.out _ _ ?_; clear hQQ QQ)
          refine wpW_name ?_
          intro q2 hq
          have hB2 : Below p2.heap.size p2 q2 := by rw [hq]; exact hB1.alloc hB1.size _
          have hs : Below q1.heap.size q1 q2 := by rw [hq]; exact below1 q1 _
          have gx : p2.heap.size ≤ q1.heap.size := hB1.size
          have n2x : BoxAt q2 q1.heap.size (.slice none 0 0) 0 := by rw [hq]; exact box1 q1 _ _
          clear hq hs
          refine wpW_last (fun QQ hQQ => ?_) (by rfl)
          go_wp2
          (refine hQQ.out _ _ ?_; clear hQQ QQ)
          refine wpW_name ?_
          intro q3 hq
          have hB3 : Below p2.heap.size p2 q3 := by rw [hq]; exact hB2.alloc hB2.size _
          have hs : Below q2.heap.size q2 q3 := by rw [hq]; exact below1 q2 _
          have n3x := n2x.below hs n2x.lt
          have exy : q1.heap.size ≠ q2.heap.size := Nat.ne_of_lt n2x.lt
          have gy : p2.heap.size ≤ q2.heap.size := hB2.size
          have n3y : DuAt q3 q2.heap.size 0 0 0 0 := by rw [hq]; exact duat1 q2 _ _ _ _
          clear hq hs
          obtain ⟨c0, c1, c2, c3⟩ := n3x.cells
          refine wpW_last (fun QQ hQQ => ?_) (by rfl)
          go_wp2
          (refine hQQ.out _ _ ?_; clear hQQ QQ)
          refine wpW_name ?_
          intro q4 hq
          have hB4 : Below p2.heap.size p2 q4 := by rw [hq]; exact (hB3.setCell gx _).setCell gx _
          have n4x : BoxAt q4 q1.heap.size ((.slice b' 0 c')) 0 := by rw [hq]; exact n3x.set _ _
          have n4y : DuAt q4 q2.heap.size 0 0 0 0 := by rw [hq]; exact ((n3y.other exy.symm _).other exy.symm _)
          clear hq c0 c1 c2 c3
          obtain ⟨c0, c1, c2, c3, c4, c5, c6, c7⟩ := n4y.cells
          refine wpW_last (fun QQ hQQ => ?_) (by rfl)
          go_wp2
          (refine hQQ.out _ _ ?_; clear hQQ QQ)
          refine wpW_name ?_
          intro q5 hq
          have hB5 : Below p2.heap.size p2 q5 := by rw [hq]; exact (((hB4.setCell gy _).setCell gy _).setCell gy _).setCell gy _
          have n5x : BoxAt q5 q1.heap.size ((.slice b' 0 c')) 0 := by rw [hq]; exact ((((n4x.other exy _).other exy _).other exy _).other exy _)
          have n5y : DuAt q5 q2.heap.size 0 0 0 0 := by rw [hq]; exact n4y.set _ _ _ _
          clear hq c0 c1 c2 c3 c4 c5 c6 c7
          (repeat (first | (apply wpW_light; (case h => (intro wa; (first | (go_big_quiet_skip; exact wpQuiet_nil rfl) | (go_big_quiet_want; go_big_quiet_op; go_big_quiet_on; exact wpQuiet_nil rfl))))) | (apply wpW_here; (case h => (first | (go_big_quiet_skip; exact wpQuiet_nil rfl) | (go_big_quiet_want; go_big_quiet_op; go_big_quiet_on; exact wpQuiet_nil rfl)))) | (apply wpW_held; (case hC => assumption); (case h => (intro wa hCa; simp only [] at hCa; (first | (go_big_quiet_skip; exact wpQuiet_nil rfl) | (go_big_quiet_want; go_big_quiet_op; go_big_quiet_on; exact wpQuiet_nil rfl)))))))
          refine wpW_nil ?_
          go_wp2_with (fail)
          go_meet
          exact ⟨rfl, hP2.out.trans (hB5.mono hP2.out.size)⟩
        · simp only [pick, nth]
          refine wpW_name ?_
          intro q0 hq0
          have hB0 : Below p2.heap.size p2 q0 := by rw [hq0]; exact (Below.refl _ _).drew
          clear hq0
          (repeat (first | (apply wpW_light; (case h => (intro wa; (first | (go_big_quiet_skip; exact wpQuiet_nil rfl) | (go_big_quiet_want; go_big_quiet_op; go_big_quiet_on; exact wpQuiet_nil rfl))))) | (apply wpW_here; (case h => (first | (go_big_quiet_skip; exact wpQuiet_nil rfl) | (go_big_quiet_want; go_big_quiet_op; go_big_quiet_on; exact wpQuiet_nil rfl)))) | (apply wpW_held; (case hC => assumption); (case h => (intro wa hCa; (obtain ⟨t0, t1, t2, t3⟩ := (B1p.out.below hCa hl1p).cells; obtain ⟨v0, v1, v2, v3⟩ := C4p.out.below hCa hlbp; clear hCa); (first | (go_big_quiet_skip; exact wpQuiet_nil rfl) | (go_big_quiet_want; go_big_quiet_op; go_big_quiet_on; exact wpQuiet_nil rfl)))))))
          refine wpW_last (fun QQ hQQ => ?_) (by rfl)
          go_wp2_with (go_at_call 13; with_reducible refine (wr'.out _ _ _ ?h1).mono ?_; (case h1 => exact Rp.out.below hB0 (Nat.le_refl _)); rintro e q1 ⟨b', c', rfl, hrr, hs⟩; have hB1 := hB0.trans (hs.mono hB0.size))
          (refine hQQ.out _ _ ?_; clear hQQ QQ)
          clear hs
          (repeat (first | (apply wpW_light; (case h => (intro wa; (first | (go_big_quiet_skip; exact wpQuiet_nil rfl) | (go_big_quiet_want; go_big_quiet_op; go_big_quiet_on; exact wpQuiet_nil rfl))))) | (apply wpW_here; (case h => (first | (go_big_quiet_skip; exact wpQuiet_nil rfl) | (go_big_quiet_want; go_big_quiet_op; go_big_quiet_on; exact wpQuiet_nil rfl)))) | (apply wpW_held; (case hC => assumption); (case h => (intro wa hCa; simp only [] at hCa; (first | (go_big_quiet_skip; exact wpQuiet_nil rfl) | (go_big_quiet_want; go_big_quiet_op; go_big_quiet_on; exact wpQuiet_nil rfl)))))))
          refine wpW_last (fun QQ hQQ => ?_) (by rfl)
          go_wp2
          (refine hQQ.out _ _ ?_; clear hQQ QQ)
          refine wpW_name ?_
          intro q2 hq
          have hB2 : Below p2.heap.size p2 q2 := by rw [hq]; exact hB1.alloc hB1.size _
          have hs : Below q1.heap.size q1 q2 := by rw [hq]; exact below1 q1 _
          have gy : p2.heap.size ≤ q1.heap.size := hB1.size
          have n2y : DuAt q2 q1.heap.size 0 0 0 0 := by rw [hq]; exact duat1 q1 _ _ _ _
          clear hq hs
          refine wpW_last (fun QQ hQQ => ?_) (by rfl)
          go_wp2
          (refine hQQ.out _ _ ?_; clear hQQ QQ)
          refine wpW_name ?_
          intro q3 hq
          have hB3 : Below p2.heap.size p2 q3 := by rw [hq]; exact hB2.alloc hB2.size _
          have hs : Below q2.heap.size q2 q3 := by rw [hq]; exact below1 q2 _
          have n3y := n2y.below hs n2y.lt
          have eyx : q1.heap.size ≠ q2.heap.size := Nat.ne_of_lt n2y.lt
          have gx : p2.heap.size ≤ q2.heap.size := hB2.size
          have n3x : BoxAt q3 q2.heap.size (.slice none 0 0) 0 := by rw [hq]; exact box1 q2 _ _
          clear hq hs
          obtain ⟨c0, c1, c2, c3⟩ := n3x.cells
          refine wpW_last (fun QQ hQQ => ?_) (by rfl)
          go_wp2
          (refine hQQ.out _ _ ?_; clear hQQ QQ)
          refine wpW_name ?_
          intro q4 hq
          have hB4 : Below p2.heap.size p2 q4 := by rw [hq]; exact (hB3.setCell gx _).setCell gx _
          have n4y : DuAt q4 q1.heap.size 0 0 0 0 := by rw [hq]; exact ((n3y.other eyx _).other eyx _)
          have n4x : BoxAt q4 q2.heap.size ((.slice b' 0 c')) 0 := by rw [hq]; exact n3x.set _ _
          clear hq c0 c1 c2 c3
          obtain ⟨c0, c1, c2, c3, c4, c5, c6, c7⟩ := n4y.cells
          refine wpW_last (fun QQ hQQ => ?_) (by rfl)
          go_wp2
          (refine hQQ.out _ _ ?_; clear hQQ QQ)
          refine wpW_name ?_
          intro q5 hq
          have hB5 : Below p2.heap.size p2 q5 := by rw [hq]; exact (((hB4.setCell gy _).setCell gy _).setCell gy _).setCell gy _
          have n5y : DuAt q5 q1.heap.size 0 0 0 0 := by rw [hq]; exact n4y.set _ _ _ _
          have n5x : BoxAt q5 q2.heap.size ((.slice b' 0 c')) 0 := by rw [hq]; exact ((((n4x.other eyx.symm _).other eyx.symm _).other eyx.symm _).other eyx.symm _)
          clear hq c0 c1 c2 c3 c4 c5 c6 c7
          (repeat (first | (apply wpW_light; (case h => (intro wa; (first | (go_big_quiet_skip; exact wpQuiet_nil rfl) | (go_big_quiet_want; go_big_quiet_op; go_big_quiet_on; exact wpQuiet_nil rfl))))) | (apply wpW_here; (case h => (first | (go_big_quiet_skip; exact wpQuiet_nil rfl) | (go_big_quiet_want; go_big_quiet_op; go_big_quiet_on; exact wpQuiet_nil rfl)))) | (apply wpW_held; (case hC => assumption); (case h => (intro wa hCa; simp only [] at hCa; (first | (go_big_quiet_skip; exact wpQuiet_nil rfl) | (go_big_quiet_want; go_big_quiet_op; go_big_quiet_on; exact wpQuiet_nil rfl)))))))
          refine wpW_nil ?_
          go_wp2_with (fail)
          go_meet
          exact ⟨rfl, hP2.out.trans (hB5.mono hP2.out.size)⟩
        · simp only [pick, nth]
          refine wpW_name ?_
          intro q0 hq0
          have hB0 : Below p2.heap.size p2 q0 := by rw [hq0]; exact (Below.refl _ _).drew
          clear hq0
          (repeat (first | (apply wpW_light; (case h => (intro wa; (first | (go_big_quiet_skip; exact wpQuiet_nil rfl) | (go_big_quiet_want; go_big_quiet_op; go_big_quiet_on; exact wpQuiet_nil rfl))))) | (apply wpW_here; (case h => (first | (go_big_quiet_skip; exact wpQuiet_nil rfl) | (go_big_quiet_want; go_big_quiet_op; go_big_quiet_on; exact wpQuiet_nil rfl)))) | (apply wpW_held; (case hC => assumption); (case h => (intro wa hCa; (obtain ⟨t0, t1, t2, t3⟩ := (B1p.out.below hCa hl1p).cells; obtain ⟨v0, v1, v2, v3⟩ := C4p.out.below hCa hlbp; clear hCa); (first | (go_big_quiet_skip; exact wpQuiet_nil rfl) | (go_big_quiet_want; go_big_quiet_op; go_big_quiet_on; exact wpQuiet_nil rfl)))))))
          refine wpW_act (fun QQ hQQ => ?_) (by rfl)
          go_wp2
          (refine hQQ _ _ ?hCn ?_; (case hCn => exact hB0.alloc hB0.size _); clear hQQ QQ)
          refine wpW_name ?_
          intro q1 hq
          have hB1 : Below p2.heap.size p2 q1 := by rw [hq]; exact hB0.alloc hB0.size _
          have hs : Below q0.heap.size q0 q1 := by rw [hq]; exact below1 q0 _
          have gy : p2.heap.size ≤ q0.heap.size := hB0.size
          have n1y : DuAt q1 q0.heap.size 0 0 0 0 := by rw [hq]; exact duat1 q0 _ _ _ _
          clear hq hs
          refine wpW_last (fun QQ hQQ => ?_) (by rfl)
          go_wp2_with (go_at_call 13; with_reducible refine (wr'.out _ _ _ ?h1).mono ?_; (case h1 => exact Rp.out.below hB1 (Nat.le_refl _)); rintro e q2 ⟨b', c', rfl, hrr, hs⟩; have hB2 := hB1.trans (hs.mono hB1.size))
          (refine hQQ.out _ _ ?_; clear hQQ QQ)
          have n2y := n1y.below hs n1y.lt
          clear hs
          (repeat (first | (apply wpW_light; (case h => (intro wa; (first | (go_big_quiet_skip; exact wpQuiet_nil rfl) | (go_big_quiet_want; go_big_quiet_op; go_big_quiet_on; exact wpQuiet_nil rfl))))) | (apply wpW_here; (case h => (first | (go_big_quiet_skip; exact wpQuiet_nil rfl) | (go_big_quiet_want; go_big_quiet_op; go_big_quiet_on; exact wpQuiet_nil rfl)))) | (apply wpW_held; (case hC => assumption); (case h => (intro wa hCa; simp only [] at hCa; (first | (go_big_quiet_skip; exact wpQuiet_nil rfl) | (go_big_quiet_want; go_big_quiet_op; go_big_quiet_on; exact wpQuiet_nil rfl)))))))
          refine wpW_last (fun QQ hQQ => ?_) (by rfl)
          go_wp2
          (refine hQQ.out _ _ ?_; clear hQQ QQ)
          refine wpW_name ?_
          intro q3 hq
          have hB3 : Below p2.heap.size p2 q3 := by rw [hq]; exact hB2.alloc hB2.size _
          have hs : Below q2.heap.size q2 q3 := by rw [hq]; exact below1 q2 _
          have n3y := n2y.below hs n2y.lt
          have eyx : q0.heap.size ≠ q2.heap.size := Nat.ne_of_lt n2y.lt
          have gx : p2.heap.size ≤ q2.heap.size := hB2.size
          have n3x : BoxAt q3 q2.heap.size (.slice none 0 0) 0 := by rw [hq]; exact box1 q2 _ _
          clear hq hs
          obtain ⟨c0, c1, c2, c3⟩ := n3x.cells
          refine wpW_last (fun QQ hQQ => ?_) (by rfl)
          go_wp2
          (refine hQQ.out _ _ ?_; clear hQQ QQ)
          refine wpW_name ?_
          intro q4 hq
          have hB4 : Below p2.heap.size p2 q4 := by rw [hq]; exact (hB3.setCell gx _).setCell gx _
          have n4y : DuAt q4 q0.heap.size 0 0 0 0 := by rw [hq]; exact ((n3y.other eyx _).other eyx _)
          have n4x : BoxAt q4 q2.heap.size ((.slice b' 0 c')) 0 := by rw [hq]; exact n3x.set _ _
          clear hq c0 c1 c2 c3
          obtain ⟨c0, c1, c2, c3, c4, c5, c6, c7⟩ := n4y.cells
          refine wpW_last (fun QQ hQQ => ?_) (by rfl)
          go_wp2
          (refine hQQ.out _ _ ?_; clear hQQ QQ)
          refine wpW_name ?_
          intro q5 hq
          have hB5 : Below p2.heap.size p2 q5 := by rw [hq]; exact (((hB4.setCell gy _).setCell gy _).setCell gy _).setCell gy _
          have n5y : DuAt q5 q0.heap.size 0 0 0 0 := by rw [hq]; exact n4y.set _ _ _ _
          have n5x : BoxAt q5 q2.heap.size ((.slice b' 0 c')) 0 := by rw [hq]; exact ((((n4x.other eyx.symm _).other eyx.symm _).other eyx.symm _).other eyx.symm _)
          clear hq c0 c1 c2 c3 c4 c5 c6 c7
          (repeat (first | (apply wpW_light; (case h => (intro wa; (first | (go_big_quiet_skip; exact wpQuiet_nil rfl) | (go_big_quiet_want; go_big_quiet_op; go_big_quiet_on; exact wpQuiet_nil rfl))))) | (apply wpW_here; (case h => (first | (go_big_quiet_skip; exact wpQuiet_nil rfl) | (go_big_quiet_want; go_big_quiet_op; go_big_quiet_on; exact wpQuiet_nil rfl)))) | (apply wpW_held; (case hC => assumption); (case h => (intro wa hCa; simp only [] at hCa; (first | (go_big_quiet_skip; exact wpQuiet_nil rfl) | (go_big_quiet_want; go_big_quiet_op; go_big_quiet_on; exact wpQuiet_nil rfl)))))))
          refine wpW_nil ?_
          go_wp2_with (fail)
          go_meet
          exact ⟨rfl, hP2.out.trans (hB5.mono hP2.out.size)⟩
        · simp only [pick, nth]
          refine wpW_name ?_
          intro q0 hq0
          have hB0 : Below p2.heap.size p2 q0 := by rw [hq0]; exact (Below.refl _ _).drew
          clear hq0
          (repeat (first | (apply wpW_light; (case h => (intro wa; (first | (go_big_quiet_skip; exact wpQuiet_nil rfl) | (go_big_quiet_want; go_big_quiet_op; go_big_quiet_on; exact wpQuiet_nil rfl))))) | (apply wpW_here; (case h => (first | (go_big_quiet_skip; exact wpQuiet_nil rfl) | (go_big_quiet_want; go_big_quiet_op; go_big_quiet_on; exact wpQuiet_nil rfl)))) | (apply wpW_held; (case hC => assumption); (case h => (intro wa hCa; (obtain ⟨t0, t1, t2, t3⟩ := (B1p.out.below hCa hl1p).cells; obtain ⟨v0, v1, v2, v3⟩ := C4p.out.below hCa hlbp; clear hCa); (first | (go_big_quiet_skip; exact wpQuiet_nil rfl) | (go_big_quiet_want; go_big_quiet_op; go_big_quiet_on; exact wpQuiet_nil rfl)))))))
          refine wpW_act (fun QQ hQQ => ?_) (by rfl)
          go_wp2
          (refine hQQ _ _ ?hCn ?_; (case hCn => exact hB0.alloc hB0.size _); clear hQQ QQ)
          refine wpW_name ?_
          intro q1 hq
          have hB1 : Below p2.heap.size p2 q1 := by rw [hq]; exact hB0.alloc hB0.size _
          have hs : Below q0.heap.size q0 q1 := by rw [hq]; exact below1 q0 _
          have gx : p2.heap.size ≤ q0.heap.size := hB0.size
          have n1x : BoxAt q1 q0.heap.size (.slice none 0 0) 0 := by rw [hq]; exact box1 q0 _ _
          clear hq hs
          refine wpW_last (fun QQ hQQ => ?_) (by rfl)
          go_wp2_with (go_at_call 13; with_reducible refine (wr'.out _ _ _ ?h1).mono ?_; (case h1 => exact Rp.out.below hB1 (Nat.le_refl _)); rintro e q2 ⟨b', c', rfl, hrr, hs⟩; have hB2 := hB1.trans (hs.mono hB1.size))
          (refine hQQ.out _ _ ?_; clear hQQ QQ)
          have n2x := n1x.below hs n1x.lt
          clear hs
          (repeat (first | (apply wpW_light; (case h => (intro wa; (first | (go_big_quiet_skip; exact wpQuiet_nil rfl) | (go_big_quiet_want; go_big_quiet_op; go_big_quiet_on; exact wpQuiet_nil rfl))))) | (apply wpW_here; (case h => (first | (go_big_quiet_skip; exact wpQuiet_nil rfl) | (go_big_quiet_want; go_big_quiet_op; go_big_quiet_on; exact wpQuiet_nil rfl)))) | (apply wpW_held; (case hC => assumption); (case h => (intro wa hCa; simp only [] at hCa; (first | (go_big_quiet_skip; exact wpQuiet_nil rfl) | (go_big_quiet_want; go_big_quiet_op; go_big_quiet_on; exact wpQuiet_nil rfl)))))))
          refine wpW_last (fun QQ hQQ => ?_) (by rfl)
          go_wp2
          (refine hQQ.out _ _ ?_; clear hQQ QQ)
          refine wpW_name ?_
          intro q3 hq
          have hB3 : Below p2.heap.size p2 q3 := by rw [hq]; exact hB2.alloc hB2.size _
          have hs : Below q2.heap.size q2 q3 := by rw [hq]; exact below1 q2 _
          have n3x := n2x.below hs n2x.lt
          have exy : q0.heap.size ≠ q2.heap.size := Nat.ne_of_lt n2x.lt
          have gy : p2.heap.size ≤ q2.heap.size := hB2.size
          have n3y : DuAt q3 q2.heap.size 0 0 0 0 := by rw [hq]; exact duat1 q2 _ _ _ _
          clear hq hs
          obtain ⟨c0, c1, c2, c3⟩ := n3x.cells
          refine wpW_last (fun QQ hQQ => ?_) (by rfl)
          go_wp2
          (refine hQQ.out _ _ ?_; clear hQQ QQ)
          refine wpW_name ?_
          intro q4 hq
          have hB4 : Below p2.heap.size p2 q4 := by rw [hq]; exact (hB3.setCell gx _).setCell gx _
          have n4x : BoxAt q4 q0.heap.size ((.slice b' 0 c')) 0 := by rw [hq]; exact n3x.set _ _
          have n4y : DuAt q4 q2.heap.size 0 0 0 0 := by rw [hq]; exact ((n3y.other exy.symm _).other exy.symm _)
          clear hq c0 c1 c2 c3
          obtain ⟨c0, c1, c2, c3, c4, c5, c6, c7⟩ := n4y.cells
          refine wpW_last (fun QQ hQQ => ?_) (by rfl)
          go_wp2
          (refine hQQ.out _ _ ?_; clear hQQ QQ)
          refine wpW_name ?_
          intro q5 hq
          have hB5 : Below p2.heap.size p2 q5 := by rw [hq]; exact (((hB4.setCell gy _).setCell gy _).setCell gy _).setCell gy _
          have n5x : BoxAt q5 q0.heap.size ((.slice b' 0 c')) 0 := by rw [hq]; exact ((((n4x.other exy _).other exy _).other exy _).other exy _)
          have n5y : DuAt q5 q2.heap.size 0 0 0 0 := by rw [hq]; exact n4y.set _ _ _ _
          clear hq c0 c1 c2 c3 c4 c5 c6 c7
          (repeat (first | (apply wpW_light; (case h => (intro wa; (first | (go_big_quiet_skip; exact wpQuiet_nil rfl) | (go_big_quiet_want; go_big_quiet_op; go_big_quiet_on; exact wpQuiet_nil rfl))))) | (apply wpW_here; (case h => (first | (go_big_quiet_skip; exact wpQuiet_nil rfl) | (go_big_quiet_want; go_big_quiet_op; go_big_quiet_on; exact wpQuiet_nil rfl)))) | (apply wpW_held; (case hC => assumption); (case h => (intro wa hCa; simp only [] at hCa; (first | (go_big_quiet_skip; exact wpQuiet_nil rfl) | (go_big_quiet_want; go_big_quiet_op; go_big_quiet_on; exact wpQuiet_nil rfl)))))))
          refine wpW_nil ?_
          go_wp2_with (fail)
          go_meet
          exact ⟨rfl, hP2.out.trans (hB5.mono hP2.out.size)⟩
        · simp only [pick, nth]
          refine wpW_name ?_
          intro q0 hq0
          have hB0 : Below p2.heap.size p2 q0 := by rw [hq0]; exact (Below.refl _ _).drew
          clear hq0
          (repeat (first | (apply wpW_light; (case h => (intro wa; (first | (go_big_quiet_skip; exact wpQuiet_nil rfl) | (go_big_quiet_want; go_big_quiet_op; go_big_quiet_on; exact wpQuiet_nil rfl))))) | (apply wpW_here; (case h => (first | (go_big_quiet_skip; exact wpQuiet_nil rfl) | (go_big_quiet_want; go_big_quiet_op; go_big_quiet_on; exact wpQuiet_nil rfl)))) | (apply wpW_held; (case hC => assumption); (case h => (intro wa hCa; (obtain ⟨t0, t1, t2, t3⟩ := (B1p.out.below hCa hl1p).cells; obtain ⟨v0, v1, v2, v3⟩ := C4p.out.below hCa hlbp; clear hCa); (first | (go_big_quiet_skip; exact wpQuiet_nil rfl) | (go_big_quiet_want; go_big_quiet_op; go_big_quiet_on; exact wpQuiet_nil rfl)))))))
          refine wpW_act (fun QQ hQQ => ?_) (by rfl)
          go_wp2
          (refine hQQ _ _ ?hCn ?_; (case hCn => exact hB0.alloc hB0.size _); clear hQQ QQ)
          refine wpW_name ?_
          intro q1 hq
          have hB1 : Below p2.heap.size p2 q1 := by rw [hq]; exact hB0.alloc hB0.size _
          have hs : Below q0.heap.size q0 q1 := by rw [hq]; exact below1 q0 _
          have gx : p2.heap.size ≤ q0.heap.size := hB0.size
          have n1x : BoxAt q1 q0.heap.size (.slice none 0 0) 0 := by rw [hq]; exact box1 q0 _ _
          clear hq hs
          refine wpW_act (fun QQ hQQ => ?_) (by rfl)
          go_wp2
          (refine hQQ _ _ ?hCn ?_; (case hCn => exact hB1.alloc hB1.size _); clear hQQ QQ)
          refine wpW_name ?_
          intro q2 hq
          have hB2 : Below p2.heap.size p2 q2 := by rw [hq]; exact hB1.alloc hB1.size _
          have hs : Below q1.heap.size q1 q2 := by rw [hq]; exact below1 q1 _
          have n2x := n1x.below hs n1x.lt
          have exy : q0.heap.size ≠ q1.heap.size := Nat.ne_of_lt n1x.lt
          have gy : p2.heap.size ≤ q1.heap.size := hB1.size
          have n2y : DuAt q2 q1.heap.size 0 0 0 0 := by rw [hq]; exact duat1 q1 _ _ _ _
          clear hq hs
          refine wpW_last (fun QQ hQQ => ?_) (by rfl)
          go_wp2_with (go_at_call 13; with_reducible refine (wr'.out _ _ _ ?h1).mono ?_; (case h1 => exact Rp.out.below hB2 (Nat.le_refl _)); rintro e q3 ⟨b', c', rfl, hrr, hs⟩; have hB3 := hB2.trans (hs.mono hB2.size))
          (refine hQQ.out _ _ ?_; clear hQQ QQ)
          have n3x := n2x.below hs n2x.lt
          have n3y := n2y.below hs n2y.lt
          clear hs
          (repeat (first | (apply wpW_light; (case h => (intro wa; (first | (go_big_quiet_skip; exact wpQuiet_nil rfl) | (go_big_quiet_want; go_big_quiet_op; go_big_quiet_on; exact wpQuiet_nil rfl))))) | (apply wpW_here; (case h => (first | (go_big_quiet_skip; exact wpQuiet_nil rfl) | (go_big_quiet_want; go_big_quiet_op; go_big_quiet_on; exact wpQuiet_nil rfl)))) | (apply wpW_held; (case hC => assumption); (case h => (intro wa hCa; simp only [] at hCa; (first | (go_big_quiet_skip; exact wpQuiet_nil rfl) | (go_big_quiet_want; go_big_quiet_op; go_big_quiet_on; exact wpQuiet_nil rfl)))))))
          obtain ⟨c0, c1, c2, c3⟩ := n3x.cells
          refine wpW_last (fun QQ hQQ => ?_) (by rfl)
          go_wp2
          (refine hQQ.out _ _ ?_; clear hQQ QQ)
          refine wpW_name ?_
          intro q4 hq
          have hB4 : Below p2.heap.size p2 q4 := by rw [hq]; exact (hB3.setCell gx _).setCell gx _
          have n4x : BoxAt q4 q0.heap.size ((.slice b' 0 c')) 0 := by rw [hq]; exact n3x.set _ _
          have n4y : DuAt q4 q1.heap.size 0 0 0 0 := by rw [hq]; exact ((n3y.other exy.symm _).other exy.symm _)
          clear hq c0 c1 c2 c3
          obtain ⟨c0, c1, c2, c3, c4, c5, c6, c7⟩ := n4y.cells
          refine wpW_last (fun QQ hQQ => ?_) (by rfl)
          go_wp2
          (refine hQQ.out _ _ ?_; clear hQQ QQ)
          refine wpW_name ?_
          intro q5 hq
          have hB5 : Below p2.heap.size p2 q5 := by rw [hq]; exact (((hB4.setCell gy _).setCell gy _).setCell gy _).setCell gy _
          have n5x : BoxAt q5 q0.heap.size ((.slice b' 0 c')) 0 := by rw [hq]; exact ((((n4x.other exy _).other exy _).other exy _).other exy _)
          have n5y : DuAt q5 q1.heap.size 0 0 0 0 := by rw [hq]; exact n4y.set _ _ _ _
          clear hq c0 c1 c2 c3 c4 c5 c6 c7
          (repeat (first | (apply wpW_light; (case h => (intro wa; (first | (go_big_quiet_skip; exact wpQuiet_nil rfl) | (go_big_quiet_want; go_big_quiet_op; go_big_quiet_on; exact wpQuiet_nil rfl))))) | (apply wpW_here; (case h => (first | (go_big_quiet_skip; exact wpQuiet_nil rfl) | (go_big_quiet_want; go_big_quiet_op; go_big_quiet_on; exact wpQuiet_nil rfl)))) | (apply wpW_held; (case hC => assumption); (case h => (intro wa hCa; simp only [] at hCa; (first | (go_big_quiet_skip; exact wpQuiet_nil rfl) | (go_big_quiet_want; go_big_quiet_op; go_big_quiet_on; exact wpQuiet_nil rfl)))))))
          refine wpW_nil ?_
          go_wp2_with (fail)
          go_meet
          exact ⟨rfl, hP2.out.trans (hB5.mono hP2.out.size)⟩
        · simp only [pick, nth]
          refine wpW_name ?_
          intro q0 hq0
          have hB0 : Below p2.heap.size p2 q0 := by rw [hq0]; exact (Below.refl _ _).drew
          clear hq0
          (repeat (first | (apply wpW_light; (case h => (intro wa; (first | (go_big_quiet_skip; exact wpQuiet_nil rfl) | (go_big_quiet_want; go_big_quiet_op; go_big_quiet_on; exact wpQuiet_nil rfl))))) | (apply wpW_here; (case h => (first | (go_big_quiet_skip; exact wpQuiet_nil rfl) | (go_big_quiet_want; go_big_quiet_op; go_big_quiet_on; exact wpQuiet_nil rfl)))) | (apply wpW_held; (case hC => assumption); (case h => (intro wa hCa; (obtain ⟨t0, t1, t2, t3⟩ := (B1p.out.below hCa hl1p).cells; obtain ⟨v0, v1, v2, v3⟩ := C4p.out.below hCa hlbp; clear hCa); (first | (go_big_quiet_skip; exact wpQuiet_nil rfl) | (go_big_quiet_want; go_big_quiet_op; go_big_quiet_on; exact wpQuiet_nil rfl)))))))
          refine wpW_act (fun QQ hQQ => ?_) (by rfl)
          go_wp2
          (refine hQQ _ _ ?hCn ?_; (case hCn => exact hB0.alloc hB0.size _); clear hQQ QQ)
          refine wpW_name ?_
          intro q1 hq
          have hB1 : Below p2.heap.size p2 q1 := by rw [hq]; exact hB0.alloc hB0.size _
          have hs : Below q0.heap.size q0 q1 := by rw [hq]; exact below1 q0 _
          have gy : p2.heap.size ≤ q0.heap.size := hB0.size
          have n1y : DuAt q1 q0.heap.size 0 0 0 0 := by rw [hq]; exact duat1 q0 _ _ _ _
          clear hq hs
          refine wpW_act (fun QQ hQQ => ?_) (by rfl)
          go_wp2
          (refine hQQ _ _ ?hCn ?_; (case hCn => exact hB1.alloc hB1.size _); clear hQQ QQ)
          refine wpW_name ?_
          intro q2 hq
          have hB2 : Below p2.heap.size p2 q2 := by rw [hq]; exact hB1.alloc hB1.size _
          have hs : Below q1.heap.size q1 q2 := by rw [hq]; exact below1 q1 _
          have n2y := n1y.below hs n1y.lt
          have eyx : q0.heap.size ≠ q1.heap.size := Nat.ne_of_lt n1y.lt
          have gx : p2.heap.size ≤ q1.heap.size := hB1.size
          have n2x : BoxAt q2 q1.heap.size (.slice none 0 0) 0 := by rw [hq]; exact box1 q1 _ _
          clear hq hs
          refine wpW_last (fun QQ hQQ => ?_) (by rfl)
          go_wp2_with (go_at_call 13; with_reducible refine (wr'.out _ _ _ ?h1).mono ?_; (case h1 => exact Rp.out.below hB2 (Nat.le_refl _)); rintro e q3 ⟨b', c', rfl, hrr, hs⟩; have hB3 := hB2.trans (hs.mono hB2.size))
          (refine hQQ.out _ _ ?_; clear hQQ QQ)
          have n3y := n2y.below hs n2y.lt
          have n3x := n2x.below hs n2x.lt
          clear hs
          (repeat (first | (apply wpW_light; (case h => (intro wa; (first | (go_big_quiet_skip; exact wpQuiet_nil rfl) | (go_big_quiet_want; go_big_quiet_op; go_big_quiet_on; exact wpQuiet_nil rfl))))) | (apply wpW_here; (case h => (first | (go_big_quiet_skip; exact wpQuiet_nil rfl) | (go_big_quiet_want; go_big_quiet_op; go_big_quiet_on; exact wpQuiet_nil rfl)))) | (apply wpW_held; (case hC => assumption); (case h => (intro wa hCa; simp only [] at hCa; (first | (go_big_quiet_skip; exact wpQuiet_nil rfl) | (go_big_quiet_want; go_big_quiet_op; go_big_quiet_on; exact wpQuiet_nil rfl)))))))
          obtain ⟨c0, c1, c2, c3⟩ := n3x.cells
          refine wpW_last (fun QQ hQQ => ?_) (by rfl)
          go_wp2
          (refine hQQ.out _ _ ?_; clear hQQ QQ)
          refine wpW_name ?_
          intro q4 hq
          have hB4 : Below p2.heap.size p2 q4 := by rw [hq]; exact (hB3.setCell gx _).setCell gx _
          have n4y : DuAt q4 q0.heap.size 0 0 0 0 := by rw [hq]; exact ((n3y.other eyx _).other eyx _)
          have n4x : BoxAt q4 q1.heap.size ((.slice b' 0 c')) 0 := by rw [hq]; exact n3x.set _ _
          clear hq c0 c1 c2 c3
          obtain ⟨c0, c1, c2, c3, c4, c5, c6, c7⟩ := n4y.cells
          refine wpW_last (fun QQ hQQ => ?_) (by rfl)
          go_wp2
          (refine hQQ.out _ _ ?_; clear hQQ QQ)
          refine wpW_name ?_
          intro q5 hq
          have hB5 : Below p2.heap.size p2 q5 := by rw [hq]; exact (((hB4.setCell gy _).setCell gy _).setCell gy _).setCell gy _
          have n5y : DuAt q5 q0.heap.size 0 0 0 0 := by rw [hq]; exact n4y.set _ _ _ _
          have n5x : BoxAt q5 q1.heap.size ((.slice b' 0 c')) 0 := by rw [hq]; exact ((((n4x.other eyx.symm _).other eyx.symm _).other eyx.symm _).other eyx.symm _)
          clear hq c0 c1 c2 c3 c4 c5 c6 c7
          (repeat (first | (apply wpW_light; (case h => (intro wa; (first | (go_big_quiet_skip; exact wpQuiet_nil rfl) | (go_big_quiet_want; go_big_quiet_op; go_big_quiet_on; exact wpQuiet_nil rfl))))) | (apply wpW_here; (case h => (first | (go_big_quiet_skip; exact wpQuiet_nil rfl) | (go_big_quiet_want; go_big_quiet_op; go_big_quiet_on; exact wpQuiet_nil rfl)))) | (apply wpW_held; (case hC => assumption); (case h => (intro wa hCa; simp only [] at hCa; (first | (go_big_quiet_skip; exact wpQuiet_nil rfl) | (go_big_quiet_want; go_big_quiet_op; go_big_quiet_on; exact wpQuiet_nil rfl)))))))
          refine wpW_nil ?_
          go_wp2_with (fail)
          go_meet
          exact ⟨rfl, hP2.out.trans (hB5.mono hP2.out.size)⟩
      case rest =>
      obtain ⟨rfl, hP3⟩ := hcut
      obtain ⟨p3, hw⟩ : ∃ w, w = wc := ⟨_, rfl⟩
      subst hw
      have hP3 := Go.Lib.hid hP3
      have B1q := Go.Lib.hid (hB1'.out.below hP3.out hl1)
      have C4q := Go.Lib.hid (h4'.out.below hP3.out hlb)
      have Rq := Go.Lib.hid (hRl'.out.below hP3.out (Nat.le_refl _))
      have hl1q : x1 < p3.heap.size := Nat.lt_of_lt_of_le hl1 hP3.out.size
      have hlbq : x1 + 1 < p3.heap.size := Nat.lt_of_lt_of_le hlb hP3.out.size
      clear B1p C4p Rp hl1p hlbp hP2
      go_upto_region 9 with (fail)
      go_cut [15] (fun s15 wx => s15 = .int .i64 8 ∧ Below wl.heap.size wl wx)
      case first =>
        refine wp_region_ord2 (fun w' => Below p3.heap.size p3 w') 5 11 [(1, 0), (2, 0), (3, 0), (0, 2), (4, 2), (5, 4), (6, 0), (7, 0), (8, 0), (9, 0), (10, 0), (11, 4), (12, 0), (13, 0), (14, 4), (15, 0)] [(1, 0), (2, 0), (3, 0), (0, 2), (4, 2), (11, 3), (5, 4), (6, 0), (7, 0), (8, 0), (9, 0), (10, 0), (12, 0), (13, 0), (14, 4), (15, 0)] (by kernel_rfl) (by decide) (by kernel_rfl) (by kernel_rfl) ?hC0 ?_ ?_
        case hC0 => exact (Below.refl _ _).drew
        · simp only [pick, nth]
          refine wpW_name ?_
          intro q0 hq0
          have hB0 : Below p3.heap.size p3 q0 := by rw [hq0]; exact (Below.refl _ _).drew
          clear hq0
          (repeat (first | (apply wpW_light; (case h => (intro wa; (first | (go_big_quiet_skip; exact wpQuiet_nil rfl) | (go_big_quiet_want; go_big_quiet_op; go_big_quiet_on; exact wpQuiet_nil rfl))))) | (apply wpW_here; (case h => (first | (go_big_quiet_skip; exact wpQuiet_nil rfl) | (go_big_quiet_want; go_big_quiet_op; go_big_quiet_on; exact wpQuiet_nil rfl)))) | (apply wpW_held; (case hC => assumption); (case h => (intro wa hCa; (obtain ⟨t0, t1, t2, t3⟩ := (B1q.out.below hCa hl1q).cells; obtain ⟨v0, v1, v2, v3⟩ := C4q.out.below hCa hlbq; clear hCa); (first | (go_big_quiet_skip; exact wpQuiet_nil rfl) | (go_big_quiet_want; go_big_quiet_op; go_big_quiet_on; exact wpQuiet_nil rfl)))))))
          refine wpW_last (fun QQ hQQ => ?_) (by rfl)
          go_wp2_with (go_at_call 14; with_reducible refine (rd'.out _ _ _ ?h1).mono ?_; (case h1 => exact Rq.out.below hB0 (Nat.le_refl _)); rintro e q1 ⟨rfl, hs⟩; have hB1 := hB0.trans (hs.mono hB0.size))
          (refine hQQ.out _ _ ?_; clear hQQ QQ)
          clear hs
          (repeat (first | (apply wpW_light; (case h => (intro wa; (first | (go_big_quiet_skip; exact wpQuiet_nil rfl) | (go_big_quiet_want; go_big_quiet_op; go_big_quiet_on; exact wpQuiet_nil rfl))))) | (apply wpW_here; (case h => (first | (go_big_quiet_skip; exact wpQuiet_nil rfl) | (go_big_quiet_want; go_big_quiet_op; go_big_quiet_on; exact wpQuiet_nil rfl)))) | (apply wpW_held; (case hC => assumption); (case h => (intro wa hCa; simp only [] at hCa; (first | (go_big_quiet_skip; exact wpQuiet_nil rfl) | (go_big_quiet_want; go_big_quiet_op; go_big_quiet_on; exact wpQuiet_nil rfl)))))))
          refine wpW_last (fun QQ hQQ => ?_) (by rfl)
          go_wp2
          (refine hQQ.out _ _ ?_; clear hQQ QQ)
          refine wpW_name ?_
          intro q2 hq
          have hB2 : Below p3.heap.size p3 q2 := by rw [hq]; exact hB1.alloc hB1.size _
          have hs : Below q1.heap.size q1 q2 := by rw [hq]; exact below1 q1 _
          have gx : p3.heap.size ≤ q1.heap.size := hB1.size
          have n2x : DuAt q2 q1.heap.size 0 0 0 0 := by rw [hq]; exact duat1 q1 _ _ _ _
          clear hq hs
          (repeat (first | (apply wpW_light; (case h => (intro wa; (first | (go_big_quiet_skip; exact wpQuiet_nil rfl) | (go_big_quiet_want; go_big_quiet_op; go_big_quiet_on; exact wpQuiet_nil rfl))))) | (apply wpW_here; (case h => (first | (go_big_quiet_skip; exact wpQuiet_nil rfl) | (go_big_quiet_want; go_big_quiet_op; go_big_quiet_on; exact wpQuiet_nil rfl)))) | (apply wpW_held; (case hC => assumption); (case h => (intro wa hCa; simp only [] at hCa; (first | (go_big_quiet_skip; exact wpQuiet_nil rfl) | (go_big_quiet_want; go_big_quiet_op; go_big_quiet_on; exact wpQuiet_nil rfl)))))))
          obtain ⟨c0, c1, c2, c3, c4, c5, c6, c7⟩ := n2x.cells
          refine wpW_last (fun QQ hQQ => ?_) (by rfl)
          go_wp2
          (refine hQQ.out _ _ ?_; clear hQQ QQ)
          refine wpW_name ?_
          intro q3 hq
          have hB3 : Below p3.heap.size p3 q3 := by rw [hq]; exact (((hB2.setCell gx _).setCell gx _).setCell gx _).setCell gx _
          have n3x : DuAt q3 q1.heap.size 0 0 0 0 := by rw [hq]; exact n2x.set _ _ _ _
          clear hq c0 c1 c2 c3 c4 c5 c6 c7
          (repeat (first | (apply wpW_light; (case h => (intro wa; (first | (go_big_quiet_skip; exact wpQuiet_nil rfl) | (go_big_quiet_want; go_big_quiet_op; go_big_quiet_on; exact wpQuiet_nil rfl))))) | (apply wpW_here; (case h => (first | (go_big_quiet_skip; exact wpQuiet_nil rfl) | (go_big_quiet_want; go_big_quiet_op; go_big_quiet_on; exact wpQuiet_nil rfl)))) | (apply wpW_held; (case hC => assumption); (case h => (intro wa hCa; simp only [] at hCa; (first | (go_big_quiet_skip; exact wpQuiet_nil rfl) | (go_big_quiet_want; go_big_quiet_op; go_big_quiet_on; exact wpQuiet_nil rfl)))))))
          refine wpW_nil ?_
          go_wp2_with (fail)
          go_meet
          exact ⟨rfl, hP3.out.trans (hB3.mono hP3.out.size)⟩
        · simp only [pick, nth]
          refine wpW_name ?_
          intro q0 hq0
          have hB0 : Below p3.heap.size p3 q0 := by rw [hq0]; exact (Below.refl _ _).drew
          clear hq0
          (repeat (first | (apply wpW_light; (case h => (intro wa; (first | (go_big_quiet_skip; exact wpQuiet_nil rfl) | (go_big_quiet_want; go_big_quiet_op; go_big_quiet_on; exact wpQuiet_nil rfl))))) | (apply wpW_here; (case h => (first | (go_big_quiet_skip; exact wpQuiet_nil rfl) | (go_big_quiet_want; go_big_quiet_op; go_big_quiet_on; exact wpQuiet_nil rfl)))) | (apply wpW_held; (case hC => assumption); (case h => (intro wa hCa; (obtain ⟨t0, t1, t2, t3⟩ := (B1q.out.below hCa hl1q).cells; obtain ⟨v0, v1, v2, v3⟩ := C4q.out.below hCa hlbq; clear hCa); (first | (go_big_quiet_skip; exact wpQuiet_nil rfl) | (go_big_quiet_want; go_big_quiet_op; go_big_quiet_on; exact wpQuiet_nil rfl)))))))
          refine wpW_act (fun QQ hQQ => ?_) (by rfl)
          go_wp2
          (refine hQQ _ _ ?hCn ?_; (case hCn => exact hB0.alloc hB0.size _); clear hQQ QQ)
          refine wpW_name ?_
          intro q1 hq
          have hB1 : Below p3.heap.size p3 q1 := by rw [hq]; exact hB0.alloc hB0.size _
          have hs : Below q0.heap.size q0 q1 := by rw [hq]; exact below1 q0 _
          have gx : p3.heap.size ≤ q0.heap.size := hB0.size
          have n1x : DuAt q1 q0.heap.size 0 0 0 0 := by rw [hq]; exact duat1 q0 _ _ _ _
          clear hq hs
          refine wpW_last (fun QQ hQQ => ?_) (by rfl)
          go_wp2_with (go_at_call 14; with_reducible refine (rd'.out _ _ _ ?h1).mono ?_; (case h1 => exact Rq.out.below hB1 (Nat.le_refl _)); rintro e q2 ⟨rfl, hs⟩; have hB2 := hB1.trans (hs.mono hB1.size))
          (refine hQQ.out _ _ ?_; clear hQQ QQ)
          have n2x := n1x.below hs n1x.lt
          clear hs
          (repeat (first | (apply wpW_light; (case h => (intro wa; (first | (go_big_quiet_skip; exact wpQuiet_nil rfl) | (go_big_quiet_want; go_big_quiet_op; go_big_quiet_on; exact wpQuiet_nil rfl))))) | (apply wpW_here; (case h => (first | (go_big_quiet_skip; exact wpQuiet_nil rfl) | (go_big_quiet_want; go_big_quiet_op; go_big_quiet_on; exact wpQuiet_nil rfl)))) | (apply wpW_held; (case hC => assumption); (case h => (intro wa hCa; simp only [] at hCa; (first | (go_big_quiet_skip; exact wpQuiet_nil rfl) | (go_big_quiet_want; go_big_quiet_op; go_big_quiet_on; exact wpQuiet_nil rfl)))))))
          (repeat (first | (apply wpW_light; (case h => (intro wa; (first | (go_big_quiet_skip; exact wpQuiet_nil rfl) | (go_big_quiet_want; go_big_quiet_op; go_big_quiet_on; exact wpQuiet_nil rfl))))) | (apply wpW_here; (case h => (first | (go_big_quiet_skip; exact wpQuiet_nil rfl) | (go_big_quiet_want; go_big_quiet_op; go_big_quiet_on; exact wpQuiet_nil rfl)))) | (apply wpW_held; (case hC => assumption); (case h => (intro wa hCa; simp only [] at hCa; (first | (go_big_quiet_skip; exact wpQuiet_nil rfl) | (go_big_quiet_want; go_big_quiet_op; go_big_quiet_on; exact wpQuiet_nil rfl)))))))
          obtain ⟨c0, c1, c2, c3, c4, c5, c6, c7⟩ := n2x.cells
          refine wpW_last (fun QQ hQQ => ?_) (by rfl)
          go_wp2
          (refine hQQ.out _ _ ?_; clear hQQ QQ)
          refine wpW_name ?_
          intro q3 hq
          have hB3 : Below p3.heap.size p3 q3 := by rw [hq]; exact (((hB2.setCell gx _).setCell gx _).setCell gx _).setCell gx _
          have n3x : DuAt q3 q0.heap.size 0 0 0 0 := by rw [hq]; exact n2x.set _ _ _ _
          clear hq c0 c1 c2 c3 c4 c5 c6 c7
          (repeat (first | (apply wpW_light; (case h => (intro wa; (first | (go_big_quiet_skip; exact wpQuiet_nil rfl) | (go_big_quiet_want; go_big_quiet_op; go_big_quiet_on; exact wpQuiet_nil rfl))))) | (apply wpW_here; (case h => (first | (go_big_quiet_skip; exact wpQuiet_nil rfl) | (go_big_quiet_want; go_big_quiet_op; go_big_quiet_on; exact wpQuiet_nil rfl)))) | (apply wpW_held; (case hC => assumption); (case h => (intro wa hCa; simp only [] at hCa; (first | (go_big_quiet_skip; exact wpQuiet_nil rfl) | (go_big_quiet_want; go_big_quiet_op; go_big_quiet_on; exact wpQuiet_nil rfl)))))))
          refine wpW_nil ?_
          go_wp2_with (fail)
          go_meet
          exact ⟨rfl, hP3.out.trans (hB3.mono hP3.out.size)⟩
      case rest =>
      obtain ⟨rfl, hP4⟩ := hcut
      have hP4 := Go.Lib.hid hP4
      obtain ⟨i0, i1, i2, i3⟩ := h4'.out.below hP4.out hlb
      clear B1q C4q Rq hl1q hlbq hP3
      go_wp2_with (go_at_call 15; with_reducible refine (ck.out _).mono ?_; rintro e p5 ⟨rfl, hp5⟩; have hP5 := Go.Lib.hid (hP4.out.trans (hp5.mono hP4.out.size)); clear hp5)
      go_roundg (7 - (k + 1))
      case measure => (have hgk := hgo.out; omega)
      case rel => exact ⟨k + 1, by omega, rfl, by go_num, hP5.out⟩
    · obtain rfl : k = 7 := by omega
      obtain ⟨w0, hw⟩ : ∃ w, w = wr := ⟨_, rfl⟩
      subst hw
      have hW0 := Go.Lib.hid (hWl'.out.trans (hB.mono hWl'.out.size))
      have Bone := Go.Lib.hid (hB1'.out.below hB hl1)
      have hWE0 := Go.Lib.hid (hW0.out.alloc hW0.out.size (.cells #[.int .i64 24, .int .i64 24, .int .u64 68719476735, .int .u64 68719476735] 30))
      have BE0_o := Go.Lib.hid (Bone.out.alloc (.cells #[.int .i64 24, .int .i64 24, .int .u64 68719476735, .int .u64 68719476735] 30))
      have BE0_t := Go.Lib.hid (duat1 w0 24 24 68719476735 68719476735)
      have RE0_o := Go.Lib.hid ((hRl'.out.below hB (Nat.le_refl _)).below (below1 w0 (.cells #[.int .i64 24, .int .i64 24, .int .u64 68719476735, .int .u64 68719476735] 30)) (Nat.le_refl _))
      have lo0 := Bone.out.lt
      have no0 : x1 ≠ w0.heap.size := Nat.ne_of_lt lo0
      obtain ⟨z0, z1, z2, z3, z4, z5, z6, z7⟩ := BE0_t.out.cells
      clear hB hW0 Bone hB1' hbad' hRl' hWl' hl1 hlb wO rO hg
      go_wp2_with (first
        | (go_at_call 11; ((with_reducible refine (t1.out _).mono ?_)); rintro e w1 ⟨rfl, hb1⟩; have hWE1 := Go.Lib.hid hWE0.out; have hW1 := Go.Lib.hid (hWE1.out.trans (hb1.mono hWE1.out.size)); have R1_o := Go.Lib.hid (RE0_o.out.below hb1 (Nat.le_refl _)); have BE1_o := Go.Lib.hid BE0_o.out; have B1_o := Go.Lib.hid (BE1_o.out.below hb1 BE1_o.out.lt); obtain ⟨k1o0, k1o1, k1o2, k1o3⟩ := B1_o.out.cells; have BE1_t := Go.Lib.hid BE0_t.out; have B1_t := Go.Lib.hid (BE1_t.out.below hb1 BE1_t.out.lt); obtain ⟨k1t0, k1t1, k1t2, k1t3, k1t4, k1t5, k1t6, k1t7⟩ := B1_t.out.cells; have l1o := B1_o.out.lt; have n1o : x1 ≠ w1.heap.size := (by omega); have l1t := B1_t.out.lt; have n1t : w0.heap.size ≠ w1.heap.size := (by omega); clear hb1)
        | (go_at_call 11; ((with_reducible refine (t2.out _).mono ?_)); rintro e w2 ⟨rfl, hb2⟩; have hWE2 := Go.Lib.hid (hW1.out.alloc hW1.out.size (.cells #[.int .i64 24, .int .i64 24, .int .u64 68719476735, .int .u64 68702699519] 30)); have hW2 := Go.Lib.hid (hWE2.out.trans (hb2.mono hWE2.out.size)); have R2_o := Go.Lib.hid ((R1_o.out.below (below1 w1 (.cells #[.int .i64 24, .int .i64 24, .int .u64 68719476735, .int .u64 68702699519] 30)) (Nat.le_refl _)).below hb2 (Nat.le_refl _)); have BE2_o := Go.Lib.hid (B1_o.out.alloc (.cells #[.int .i64 24, .int .i64 24, .int .u64 68719476735, .int .u64 68702699519] 30)); have B2_o := Go.Lib.hid (BE2_o.out.below hb2 BE2_o.out.lt); obtain ⟨k2o0, k2o1, k2o2, k2o3⟩ := B2_o.out.cells; have BE2_t := Go.Lib.hid (B1_t.out.alloc (.cells #[.int .i64 24, .int .i64 24, .int .u64 68719476735, .int .u64 68702699519] 30)); have B2_t := Go.Lib.hid (BE2_t.out.below hb2 BE2_t.out.lt); obtain ⟨k2t0, k2t1, k2t2, k2t3, k2t4, k2t5, k2t6, k2t7⟩ := B2_t.out.cells; have BE2_s := Go.Lib.hid (duat1 w1 24 24 68719476735 68702699519); have B2_s := Go.Lib.hid (BE2_s.out.below hb2 BE2_s.out.lt); obtain ⟨k2s0, k2s1, k2s2, k2s3, k2s4, k2s5, k2s6, k2s7⟩ := B2_s.out.cells; have l2o := B2_o.out.lt; have n2o : x1 ≠ w2.heap.size := (by omega); have l2t := B2_t.out.lt; have n2t : w0.heap.size ≠ w2.heap.size := (by omega); have l2s := B2_s.out.lt; have n2s : w1.heap.size ≠ w2.heap.size := (by omega); clear hb2)
        | (go_at_call 11; ((with_reducible refine (t3.out _).mono ?_)); rintro e w3 ⟨rfl, hb3⟩; have hWE3 := Go.Lib.hid (hW2.out.alloc hW2.out.size (.cells #[.int .i64 0, .int .i64 0, .int .u64 0, .int .u64 0] 30)); have hW3 := Go.Lib.hid (hWE3.out.trans (hb3.mono hWE3.out.size)); have R3_o := Go.Lib.hid ((R2_o.out.below (below1 w2 (.cells #[.int .i64 0, .int .i64 0, .int .u64 0, .int .u64 0] 30)) (Nat.le_refl _)).below hb3 (Nat.le_refl _)); have BE3_o := Go.Lib.hid (B2_o.out.alloc (.cells #[.int .i64 0, .int .i64 0, .int .u64 0, .int .u64 0] 30)); have B3_o := Go.Lib.hid (BE3_o.out.below hb3 BE3_o.out.lt); obtain ⟨k3o0, k3o1, k3o2, k3o3⟩ := B3_o.out.cells; have BE3_t := Go.Lib.hid (B2_t.out.alloc (.cells #[.int .i64 0, .int .i64 0, .int .u64 0, .int .u64 0] 30)); have B3_t := Go.Lib.hid (BE3_t.out.below hb3 BE3_t.out.lt); obtain ⟨k3t0, k3t1, k3t2, k3t3, k3t4, k3t5, k3t6, k3t7⟩ := B3_t.out.cells; have BE3_s := Go.Lib.hid (B2_s.out.alloc (.cells #[.int .i64 0, .int .i64 0, .int .u64 0, .int .u64 0] 30)); have B3_s := Go.Lib.hid (BE3_s.out.below hb3 BE3_s.out.lt); obtain ⟨k3s0, k3s1, k3s2, k3s3, k3s4, k3s5, k3s6, k3s7⟩ := B3_s.out.cells; have BE3_l := Go.Lib.hid (duat1 w2 0 0 0 0); have B3_l := Go.Lib.hid (BE3_l.out.below hb3 BE3_l.out.lt); obtain ⟨k3l0, k3l1, k3l2, k3l3, k3l4, k3l5, k3l6, k3l7⟩ := B3_l.out.cells; have l3o := B3_o.out.lt; have n3o : x1 ≠ w3.heap.size := (by omega); have l3t := B3_t.out.lt; have n3t : w0.heap.size ≠ w3.heap.size := (by omega); have l3s := B3_s.out.lt; have n3s : w1.heap.size ≠ w3.heap.size := (by omega); have l3l := B3_l.out.lt; have n3l : w2.heap.size ≠ w3.heap.size := (by omega); clear hb3)
        | (go_at_call 12; ((with_reducible refine (t4.out _).mono ?_)); rintro e w4 ⟨rfl, hb4⟩; have hWE4 := Go.Lib.hid (hW3.out.alloc hW3.out.size (.cells #[.int .i64 1, .int .i64 0, .int .u64 33, .int .u64 32] 30)); have hW4 := Go.Lib.hid (hWE4.out.trans (hb4.mono hWE4.out.size)); have R4_o := Go.Lib.hid ((R3_o.out.below (below1 w3 (.cells #[.int .i64 1, .int .i64 0, .int .u64 33, .int .u64 32] 30)) (Nat.le_refl _)).below hb4 (Nat.le_refl _)); have BE4_o := Go.Lib.hid (B3_o.out.alloc (.cells #[.int .i64 1, .int .i64 0, .int .u64 33, .int .u64 32] 30)); have B4_o := Go.Lib.hid (BE4_o.out.below hb4 BE4_o.out.lt); obtain ⟨k4o0, k4o1, k4o2, k4o3⟩ := B4_o.out.cells; have BE4_t := Go.Lib.hid (B3_t.out.alloc (.cells #[.int .i64 1, .int .i64 0, .int .u64 33, .int .u64 32] 30)); have B4_t := Go.Lib.hid (BE4_t.out.below hb4 BE4_t.out.lt); obtain ⟨k4t0, k4t1, k4t2, k4t3, k4t4, k4t5, k4t6, k4t7⟩ := B4_t.out.cells; have BE4_s := Go.Lib.hid (B3_s.out.alloc (.cells #[.int .i64 1, .int .i64 0, .int .u64 33, .int .u64 32] 30)); have B4_s := Go.Lib.hid (BE4_s.out.below hb4 BE4_s.out.lt); obtain ⟨k4s0, k4s1, k4s2, k4s3, k4s4, k4s5, k4s6, k4s7⟩ := B4_s.out.cells; have BE4_l := Go.Lib.hid (B3_l.out.alloc (.cells #[.int .i64 1, .int .i64 0, .int .u64 33, .int .u64 32] 30)); have B4_l := Go.Lib.hid (BE4_l.out.below hb4 BE4_l.out.lt); obtain ⟨k4l0, k4l1, k4l2, k4l3, k4l4, k4l5, k4l6, k4l7⟩ := B4_l.out.cells; have BE4_u := Go.Lib.hid (duat1 w3 1 0 33 32); have B4_u := Go.Lib.hid (BE4_u.out.below hb4 BE4_u.out.lt); obtain ⟨k4u0, k4u1, k4u2, k4u3, k4u4, k4u5, k4u6, k4u7⟩ := B4_u.out.cells; have l4o := B4_o.out.lt; have n4o : x1 ≠ w4.heap.size := (by omega); have l4t := B4_t.out.lt; have n4t : w0.heap.size ≠ w4.heap.size := (by omega); have l4s := B4_s.out.lt; have n4s : w1.heap.size ≠ w4.heap.size := (by omega); have l4l := B4_l.out.lt; have n4l : w2.heap.size ≠ w4.heap.size := (by omega); have l4u := B4_u.out.lt; have n4u : w3.heap.size ≠ w4.heap.size := (by omega); clear hb4)
        | (go_at_call 13; ((with_reducible refine (t5.out _).mono ?_)); rintro e w5 ⟨b5, cp5, rfl, hr5, hb5⟩; have hWE5 := Go.Lib.hid (hW4.out.alloc hW4.out.size (.cells #[(.slice none 0 0), .int .i64 1] 24)); have hW5 := Go.Lib.hid (hWE5.out.trans (hb5.mono hWE5.out.size)); have R5_o := Go.Lib.hid ((R4_o.out.below (below1 w4 (.cells #[(.slice none 0 0), .int .i64 1] 24)) (Nat.le_refl _)).below hb5 (Nat.le_refl _)); have BE5_o := Go.Lib.hid (B4_o.out.alloc (.cells #[(.slice none 0 0), .int .i64 1] 24)); have B5_o := Go.Lib.hid (BE5_o.out.below hb5 BE5_o.out.lt); obtain ⟨k5o0, k5o1, k5o2, k5o3⟩ := B5_o.out.cells; have BE5_t := Go.Lib.hid (B4_t.out.alloc (.cells #[(.slice none 0 0), .int .i64 1] 24)); have B5_t := Go.Lib.hid (BE5_t.out.below hb5 BE5_t.out.lt); obtain ⟨k5t0, k5t1, k5t2, k5t3, k5t4, k5t5, k5t6, k5t7⟩ := B5_t.out.cells; have BE5_s := Go.Lib.hid (B4_s.out.alloc (.cells #[(.slice none 0 0), .int .i64 1] 24)); have B5_s := Go.Lib.hid (BE5_s.out.below hb5 BE5_s.out.lt); obtain ⟨k5s0, k5s1, k5s2, k5s3, k5s4, k5s5, k5s6, k5s7⟩ := B5_s.out.cells; have BE5_l := Go.Lib.hid (B4_l.out.alloc (.cells #[(.slice none 0 0), .int .i64 1] 24)); have B5_l := Go.Lib.hid (BE5_l.out.below hb5 BE5_l.out.lt); obtain ⟨k5l0, k5l1, k5l2, k5l3, k5l4, k5l5, k5l6, k5l7⟩ := B5_l.out.cells; have BE5_u := Go.Lib.hid (B4_u.out.alloc (.cells #[(.slice none 0 0), .int .i64 1] 24)); have B5_u := Go.Lib.hid (BE5_u.out.below hb5 BE5_u.out.lt); obtain ⟨k5u0, k5u1, k5u2, k5u3, k5u4, k5u5, k5u6, k5u7⟩ := B5_u.out.cells; have BE5_g := Go.Lib.hid (box1 w4 (.slice none 0 0) 1); have B5_g := Go.Lib.hid (BE5_g.out.below hb5 BE5_g.out.lt); obtain ⟨k5g0, k5g1, k5g2, k5g3⟩ := B5_g.out.cells; have l5o := B5_o.out.lt; have n5o : x1 ≠ w5.heap.size := (by omega); have o5o : x1 ≠ w5.heap.size + 1 := (by omega); have l5t := B5_t.out.lt; have n5t : w0.heap.size ≠ w5.heap.size := (by omega); have o5t : w0.heap.size ≠ w5.heap.size + 1 := (by omega); have l5s := B5_s.out.lt; have n5s : w1.heap.size ≠ w5.heap.size := (by omega); have o5s : w1.heap.size ≠ w5.heap.size + 1 := (by omega); have l5l := B5_l.out.lt; have n5l : w2.heap.size ≠ w5.heap.size := (by omega); have o5l : w2.heap.size ≠ w5.heap.size + 1 := (by omega); have l5u := B5_u.out.lt; have n5u : w3.heap.size ≠ w5.heap.size := (by omega); have o5u : w3.heap.size ≠ w5.heap.size + 1 := (by omega); have l5g := B5_g.out.lt; have n5g : w4.heap.size ≠ w5.heap.size := (by omega); have o5g : w4.heap.size ≠ w5.heap.size + 1 := (by omega); clear hb5)
        | (go_at_call 14; ((with_reducible refine (t6.out _).mono ?_)); rintro e w6 ⟨rfl, hb6⟩; have hWE6 := Go.Lib.hid ((hW5.out.alloc hW5.out.size (.cells #[(.slice b5 0 cp5), .int .i64 0] 24)).alloc (hW5.out.alloc hW5.out.size (.cells #[(.slice b5 0 cp5), .int .i64 0] 24)).size (.cells #[.int .i64 0, .int .i64 0, .int .u64 0, .int .u64 0] 30)); have hW6 := Go.Lib.hid (hWE6.out.trans (hb6.mono hWE6.out.size)); have R6_o := Go.Lib.hid (((R5_o.out.below (below1 w5 (.cells #[(.slice b5 0 cp5), .int .i64 0] 24)) (Nat.le_refl _)).below (below1 (w5.alloc (.cells #[(.slice b5 0 cp5), .int .i64 0] 24)) (.cells #[.int .i64 0, .int .i64 0, .int .u64 0, .int .u64 0] 30)) (Nat.le_refl _)).below hb6 (Nat.le_refl _)); have BE6_o := Go.Lib.hid ((B5_o.out.alloc (.cells #[(.slice b5 0 cp5), .int .i64 0] 24)).alloc (.cells #[.int .i64 0, .int .i64 0, .int .u64 0, .int .u64 0] 30)); have B6_o := Go.Lib.hid (BE6_o.out.below hb6 BE6_o.out.lt); obtain ⟨k6o0, k6o1, k6o2, k6o3⟩ := B6_o.out.cells; have BE6_t := Go.Lib.hid ((B5_t.out.alloc (.cells #[(.slice b5 0 cp5), .int .i64 0] 24)).alloc (.cells #[.int .i64 0, .int .i64 0, .int .u64 0, .int .u64 0] 30)); have B6_t := Go.Lib.hid (BE6_t.out.below hb6 BE6_t.out.lt); obtain ⟨k6t0, k6t1, k6t2, k6t3, k6t4, k6t5, k6t6, k6t7⟩ := B6_t.out.cells; have BE6_s := Go.Lib.hid ((B5_s.out.alloc (.cells #[(.slice b5 0 cp5), .int .i64 0] 24)).alloc (.cells #[.int .i64 0, .int .i64 0, .int .u64 0, .int .u64 0] 30)); have B6_s := Go.Lib.hid (BE6_s.out.below hb6 BE6_s.out.lt); obtain ⟨k6s0, k6s1, k6s2, k6s3, k6s4, k6s5, k6s6, k6s7⟩ := B6_s.out.cells; have BE6_l := Go.Lib.hid ((B5_l.out.alloc (.cells #[(.slice b5 0 cp5), .int .i64 0] 24)).alloc (.cells #[.int .i64 0, .int .i64 0, .int .u64 0, .int .u64 0] 30)); have B6_l := Go.Lib.hid (BE6_l.out.below hb6 BE6_l.out.lt); obtain ⟨k6l0, k6l1, k6l2, k6l3, k6l4, k6l5, k6l6, k6l7⟩ := B6_l.out.cells; have BE6_u := Go.Lib.hid ((B5_u.out.alloc (.cells #[(.slice b5 0 cp5), .int .i64 0] 24)).alloc (.cells #[.int .i64 0, .int .i64 0, .int .u64 0, .int .u64 0] 30)); have B6_u := Go.Lib.hid (BE6_u.out.below hb6 BE6_u.out.lt); obtain ⟨k6u0, k6u1, k6u2, k6u3, k6u4, k6u5, k6u6, k6u7⟩ := B6_u.out.cells; have BE6_g := Go.Lib.hid ((B5_g.out.alloc (.cells #[(.slice b5 0 cp5), .int .i64 0] 24)).alloc (.cells #[.int .i64 0, .int .i64 0, .int .u64 0, .int .u64 0] 30)); have B6_g := Go.Lib.hid (BE6_g.out.below hb6 BE6_g.out.lt); obtain ⟨k6g0, k6g1, k6g2, k6g3⟩ := B6_g.out.cells; have BE6_wa := Go.Lib.hid ((box1 w5 (.slice b5 0 cp5) 0).alloc (.cells #[.int .i64 0, .int .i64 0, .int .u64 0, .int .u64 0] 30)); have B6_wa := Go.Lib.hid (BE6_wa.out.below hb6 BE6_wa.out.lt); obtain ⟨k6wa0, k6wa1, k6wa2, k6wa3⟩ := B6_wa.out.cells; have BE6_wb := Go.Lib.hid (duat2 w5 (.cells #[(.slice b5 0 cp5), .int .i64 0] 24) 0 0 0 0); have B6_wb := Go.Lib.hid (BE6_wb.out.below hb6 BE6_wb.out.lt); obtain ⟨k6wb0, k6wb1, k6wb2, k6wb3, k6wb4, k6wb5, k6wb6, k6wb7⟩ := B6_wb.out.cells; have l6o := B6_o.out.lt; have n6o : x1 ≠ w6.heap.size := (by omega); have l6t := B6_t.out.lt; have n6t : w0.heap.size ≠ w6.heap.size := (by omega); have l6s := B6_s.out.lt; have n6s : w1.heap.size ≠ w6.heap.size := (by omega); have l6l := B6_l.out.lt; have n6l : w2.heap.size ≠ w6.heap.size := (by omega); have l6u := B6_u.out.lt; have n6u : w3.heap.size ≠ w6.heap.size := (by omega); have l6g := B6_g.out.lt; have n6g : w4.heap.size ≠ w6.heap.size := (by omega); have l6wa := B6_wa.out.lt; have n6wa : w5.heap.size ≠ w6.heap.size := (by omega); have l6wb := B6_wb.out.lt; have n6wb : w5.heap.size + 1 ≠ w6.heap.size := (by omega); clear hb6)
        | (go_at_call 14; ((with_reducible refine (t7.out _ _ _ ?h1).mono ?_)); (case h1 => exact (R6_o.out.below (below1 w6 (.cells #[.int .i64 0, .int .i64 0, .int .u64 0, .int .u64 0] 30)) (Nat.le_refl _))); rintro e w7 ⟨rfl, hb7⟩; have hWE7 := Go.Lib.hid (hW6.out.alloc hW6.out.size (.cells #[.int .i64 0, .int .i64 0, .int .u64 0, .int .u64 0] 30)); have hW7 := Go.Lib.hid (hWE7.out.trans (hb7.mono hWE7.out.size)); have R7_o := Go.Lib.hid ((R6_o.out.below (below1 w6 (.cells #[.int .i64 0, .int .i64 0, .int .u64 0, .int .u64 0] 30)) (Nat.le_refl _)).below hb7 (Nat.le_refl _)); have BE7_o := Go.Lib.hid (B6_o.out.alloc (.cells #[.int .i64 0, .int .i64 0, .int .u64 0, .int .u64 0] 30)); have B7_o := Go.Lib.hid (BE7_o.out.below hb7 BE7_o.out.lt); obtain ⟨k7o0, k7o1, k7o2, k7o3⟩ := B7_o.out.cells; have BE7_t := Go.Lib.hid (B6_t.out.alloc (.cells #[.int .i64 0, .int .i64 0, .int .u64 0, .int .u64 0] 30)); have B7_t := Go.Lib.hid (BE7_t.out.below hb7 BE7_t.out.lt); obtain ⟨k7t0, k7t1, k7t2, k7t3, k7t4, k7t5, k7t6, k7t7⟩ := B7_t.out.cells; have BE7_s := Go.Lib.hid (B6_s.out.alloc (.cells #[.int .i64 0, .int .i64 0, .int .u64 0, .int .u64 0] 30)); have B7_s := Go.Lib.hid (BE7_s.out.below hb7 BE7_s.out.lt); obtain ⟨k7s0, k7s1, k7s2, k7s3, k7s4, k7s5, k7s6, k7s7⟩ := B7_s.out.cells; have BE7_l := Go.Lib.hid (B6_l.out.alloc (.cells #[.int .i64 0, .int .i64 0, .int .u64 0, .int .u64 0] 30)); have B7_l := Go.Lib.hid (BE7_l.out.below hb7 BE7_l.out.lt); obtain ⟨k7l0, k7l1, k7l2, k7l3, k7l4, k7l5, k7l6, k7l7⟩ := B7_l.out.cells; have BE7_u := Go.Lib.hid (B6_u.out.alloc (.cells #[.int .i64 0, .int .i64 0, .int .u64 0, .int .u64 0] 30)); have B7_u := Go.Lib.hid (BE7_u.out.below hb7 BE7_u.out.lt); obtain ⟨k7u0, k7u1, k7u2, k7u3, k7u4, k7u5, k7u6, k7u7⟩ := B7_u.out.cells; have BE7_g := Go.Lib.hid (B6_g.out.alloc (.cells #[.int .i64 0, .int .i64 0, .int .u64 0, .int .u64 0] 30)); have B7_g := Go.Lib.hid (BE7_g.out.below hb7 BE7_g.out.lt); obtain ⟨k7g0, k7g1, k7g2, k7g3⟩ := B7_g.out.cells; have BE7_wa := Go.Lib.hid (B6_wa.out.alloc (.cells #[.int .i64 0, .int .i64 0, .int .u64 0, .int .u64 0] 30)); have B7_wa := Go.Lib.hid (BE7_wa.out.below hb7 BE7_wa.out.lt); obtain ⟨k7wa0, k7wa1, k7wa2, k7wa3⟩ := B7_wa.out.cells; have BE7_wb := Go.Lib.hid (B6_wb.out.alloc (.cells #[.int .i64 0, .int .i64 0, .int .u64 0, .int .u64 0] 30)); have B7_wb := Go.Lib.hid (BE7_wb.out.below hb7 BE7_wb.out.lt); obtain ⟨k7wb0, k7wb1, k7wb2, k7wb3, k7wb4, k7wb5, k7wb6, k7wb7⟩ := B7_wb.out.cells; have BE7_ra := Go.Lib.hid (duat1 w6 0 0 0 0); have B7_ra := Go.Lib.hid (BE7_ra.out.below hb7 BE7_ra.out.lt); obtain ⟨k7ra0, k7ra1, k7ra2, k7ra3, k7ra4, k7ra5, k7ra6, k7ra7⟩ := B7_ra.out.cells; have l7o := B7_o.out.lt; have n7o : x1 ≠ w7.heap.size := (by omega); have l7t := B7_t.out.lt; have n7t : w0.heap.size ≠ w7.heap.size := (by omega); have l7s := B7_s.out.lt; have n7s : w1.heap.size ≠ w7.heap.size := (by omega); have l7l := B7_l.out.lt; have n7l : w2.heap.size ≠ w7.heap.size := (by omega); have l7u := B7_u.out.lt; have n7u : w3.heap.size ≠ w7.heap.size := (by omega); have l7g := B7_g.out.lt; have n7g : w4.heap.size ≠ w7.heap.size := (by omega); have l7wa := B7_wa.out.lt; have n7wa : w5.heap.size ≠ w7.heap.size := (by omega); have l7wb := B7_wb.out.lt; have n7wb : w5.heap.size + 1 ≠ w7.heap.size := (by omega); have l7ra := B7_ra.out.lt; have n7ra : w6.heap.size ≠ w7.heap.size := (by omega); clear hb7)
        | (go_at_call 14; ((with_reducible refine (t8.out _ _ _ ?h1).mono ?_)); (case h1 => exact (R7_o.out.below (below1 w7 (.cells #[.int .i64 0, .int .i64 0, .int .u64 0, .int .u64 0] 30)) (Nat.le_refl _))); rintro e w8 ⟨rfl, hb8⟩; have hWE8 := Go.Lib.hid (hW7.out.alloc hW7.out.size (.cells #[.int .i64 0, .int .i64 0, .int .u64 0, .int .u64 0] 30)); have hW8 := Go.Lib.hid (hWE8.out.trans (hb8.mono hWE8.out.size)); have R8_o := Go.Lib.hid ((R7_o.out.below (below1 w7 (.cells #[.int .i64 0, .int .i64 0, .int .u64 0, .int .u64 0] 30)) (Nat.le_refl _)).below hb8 (Nat.le_refl _)); have BE8_o := Go.Lib.hid (B7_o.out.alloc (.cells #[.int .i64 0, .int .i64 0, .int .u64 0, .int .u64 0] 30)); have B8_o := Go.Lib.hid (BE8_o.out.below hb8 BE8_o.out.lt); obtain ⟨k8o0, k8o1, k8o2, k8o3⟩ := B8_o.out.cells; have BE8_t := Go.Lib.hid (B7_t.out.alloc (.cells #[.int .i64 0, .int .i64 0, .int .u64 0, .int .u64 0] 30)); have B8_t := Go.Lib.hid (BE8_t.out.below hb8 BE8_t.out.lt); obtain ⟨k8t0, k8t1, k8t2, k8t3, k8t4, k8t5, k8t6, k8t7⟩ := B8_t.out.cells; have BE8_s := Go.Lib.hid (B7_s.out.alloc (.cells #[.int .i64 0, .int .i64 0, .int .u64 0, .int .u64 0] 30)); have B8_s := Go.Lib.hid (BE8_s.out.below hb8 BE8_s.out.lt); obtain ⟨k8s0, k8s1, k8s2, k8s3, k8s4, k8s5, k8s6, k8s7⟩ := B8_s.out.cells; have BE8_l := Go.Lib.hid (B7_l.out.alloc (.cells #[.int .i64 0, .int .i64 0, .int .u64 0, .int .u64 0] 30)); have B8_l := Go.Lib.hid (BE8_l.out.below hb8 BE8_l.out.lt); obtain ⟨k8l0, k8l1, k8l2, k8l3, k8l4, k8l5, k8l6, k8l7⟩ := B8_l.out.cells; have BE8_u := Go.Lib.hid (B7_u.out.alloc (.cells #[.int .i64 0, .int .i64 0, .int .u64 0, .int .u64 0] 30)); have B8_u := Go.Lib.hid (BE8_u.out.below hb8 BE8_u.out.lt); obtain ⟨k8u0, k8u1, k8u2, k8u3, k8u4, k8u5, k8u6, k8u7⟩ := B8_u.out.cells; have BE8_g := Go.Lib.hid (B7_g.out.alloc (.cells #[.int .i64 0, .int .i64 0, .int .u64 0, .int .u64 0] 30)); have B8_g := Go.Lib.hid (BE8_g.out.below hb8 BE8_g.out.lt); obtain ⟨k8g0, k8g1, k8g2, k8g3⟩ := B8_g.out.cells; have BE8_wa := Go.Lib.hid (B7_wa.out.alloc (.cells #[.int .i64 0, .int .i64 0, .int .u64 0, .int .u64 0] 30)); have B8_wa := Go.Lib.hid (BE8_wa.out.below hb8 BE8_wa.out.lt); obtain ⟨k8wa0, k8wa1, k8wa2, k8wa3⟩ := B8_wa.out.cells; have BE8_wb := Go.Lib.hid (B7_wb.out.alloc (.cells #[.int .i64 0, .int .i64 0, .int .u64 0, .int .u64 0] 30)); have B8_wb := Go.Lib.hid (BE8_wb.out.below hb8 BE8_wb.out.lt); obtain ⟨k8wb0, k8wb1, k8wb2, k8wb3, k8wb4, k8wb5, k8wb6, k8wb7⟩ := B8_wb.out.cells; have BE8_ra := Go.Lib.hid (B7_ra.out.alloc (.cells #[.int .i64 0, .int .i64 0, .int .u64 0, .int .u64 0] 30)); have B8_ra := Go.Lib.hid (BE8_ra.out.below hb8 BE8_ra.out.lt); obtain ⟨k8ra0, k8ra1, k8ra2, k8ra3, k8ra4, k8ra5, k8ra6, k8ra7⟩ := B8_ra.out.cells; have BE8_rb := Go.Lib.hid (duat1 w7 0 0 0 0); have B8_rb := Go.Lib.hid (BE8_rb.out.below hb8 BE8_rb.out.lt); obtain ⟨k8rb0, k8rb1, k8rb2, k8rb3, k8rb4, k8rb5, k8rb6, k8rb7⟩ := B8_rb.out.cells; have l8o := B8_o.out.lt; have n8o : x1 ≠ w8.heap.size := (by omega); have l8t := B8_t.out.lt; have n8t : w0.heap.size ≠ w8.heap.size := (by omega); have l8s := B8_s.out.lt; have n8s : w1.heap.size ≠ w8.heap.size := (by omega); have l8l := B8_l.out.lt; have n8l : w2.heap.size ≠ w8.heap.size := (by omega); have l8u := B8_u.out.lt; have n8u : w3.heap.size ≠ w8.heap.size := (by omega); have l8g := B8_g.out.lt; have n8g : w4.heap.size ≠ w8.heap.size := (by omega); have l8wa := B8_wa.out.lt; have n8wa : w5.heap.size ≠ w8.heap.size := (by omega); have l8wb := B8_wb.out.lt; have n8wb : w5.heap.size + 1 ≠ w8.heap.size := (by omega); have l8ra := B8_ra.out.lt; have n8ra : w6.heap.size ≠ w8.heap.size := (by omega); have l8rb := B8_rb.out.lt; have n8rb : w7.heap.size ≠ w8.heap.size := (by omega); clear hb8)
        | (go_at_call 14; ((with_reducible refine (t9.out _ _ _ ?h1).mono ?_)); (case h1 => exact (R8_o.out.below (below1 w8 (.cells #[.int .i64 0, .int .i64 0, .int .u64 0, .int .u64 0] 30)) (Nat.le_refl _))); rintro e w9 ⟨rfl, hb9⟩; have hWE9 := Go.Lib.hid (hW8.out.alloc hW8.out.size (.cells #[.int .i64 0, .int .i64 0, .int .u64 0, .int .u64 0] 30)); have hW9 := Go.Lib.hid (hWE9.out.trans (hb9.mono hWE9.out.size)); have R9_o := Go.Lib.hid ((R8_o.out.below (below1 w8 (.cells #[.int .i64 0, .int .i64 0, .int .u64 0, .int .u64 0] 30)) (Nat.le_refl _)).below hb9 (Nat.le_refl _)); have BE9_o := Go.Lib.hid (B8_o.out.alloc (.cells #[.int .i64 0, .int .i64 0, .int .u64 0, .int .u64 0] 30)); have B9_o := Go.Lib.hid (BE9_o.out.below hb9 BE9_o.out.lt); obtain ⟨k9o0, k9o1, k9o2, k9o3⟩ := B9_o.out.cells; have BE9_t := Go.Lib.hid (B8_t.out.alloc (.cells #[.int .i64 0, .int .i64 0, .int .u64 0, .int .u64 0] 30)); have B9_t := Go.Lib.hid (BE9_t.out.below hb9 BE9_t.out.lt); obtain ⟨k9t0, k9t1, k9t2, k9t3, k9t4, k9t5, k9t6, k9t7⟩ := B9_t.out.cells; have BE9_s := Go.Lib.hid (B8_s.out.alloc (.cells #[.int .i64 0, .int .i64 0, .int .u64 0, .int .u64 0] 30)); have B9_s := Go.Lib.hid (BE9_s.out.below hb9 BE9_s.out.lt); obtain ⟨k9s0, k9s1, k9s2, k9s3, k9s4, k9s5, k9s6, k9s7⟩ := B9_s.out.cells; have BE9_l := Go.Lib.hid (B8_l.out.alloc (.cells #[.int .i64 0, .int .i64 0, .int .u64 0, .int .u64 0] 30)); have B9_l := Go.Lib.hid (BE9_l.out.below hb9 BE9_l.out.lt); obtain ⟨k9l0, k9l1, k9l2, k9l3, k9l4, k9l5, k9l6, k9l7⟩ := B9_l.out.cells; have BE9_u := Go.Lib.hid (B8_u.out.alloc (.cells #[.int .i64 0, .int .i64 0, .int .u64 0, .int .u64 0] 30)); have B9_u := Go.Lib.hid (BE9_u.out.below hb9 BE9_u.out.lt); obtain ⟨k9u0, k9u1, k9u2, k9u3, k9u4, k9u5, k9u6, k9u7⟩ := B9_u.out.cells; have BE9_g := Go.Lib.hid (B8_g.out.alloc (.cells #[.int .i64 0, .int .i64 0, .int .u64 0, .int .u64 0] 30)); have B9_g := Go.Lib.hid (BE9_g.out.below hb9 BE9_g.out.lt); obtain ⟨k9g0, k9g1, k9g2, k9g3⟩ := B9_g.out.cells; have BE9_wa := Go.Lib.hid (B8_wa.out.alloc (.cells #[.int .i64 0, .int .i64 0, .int .u64 0, .int .u64 0] 30)); have B9_wa := Go.Lib.hid (BE9_wa.out.below hb9 BE9_wa.out.lt); obtain ⟨k9wa0, k9wa1, k9wa2, k9wa3⟩ := B9_wa.out.cells; have BE9_wb := Go.Lib.hid (B8_wb.out.alloc (.cells #[.int .i64 0, .int .i64 0, .int .u64 0, .int .u64 0] 30)); have B9_wb := Go.Lib.hid (BE9_wb.out.below hb9 BE9_wb.out.lt); obtain ⟨k9wb0, k9wb1, k9wb2, k9wb3, k9wb4, k9wb5, k9wb6, k9wb7⟩ := B9_wb.out.cells; have BE9_ra := Go.Lib.hid (B8_ra.out.alloc (.cells #[.int .i64 0, .int .i64 0, .int .u64 0, .int .u64 0] 30)); have B9_ra := Go.Lib.hid (BE9_ra.out.below hb9 BE9_ra.out.lt); obtain ⟨k9ra0, k9ra1, k9ra2, k9ra3, k9ra4, k9ra5, k9ra6, k9ra7⟩ := B9_ra.out.cells; have BE9_rb := Go.Lib.hid (B8_rb.out.alloc (.cells #[.int .i64 0, .int .i64 0, .int .u64 0, .int .u64 0] 30)); have B9_rb := Go.Lib.hid (BE9_rb.out.below hb9 BE9_rb.out.lt); obtain ⟨k9rb0, k9rb1, k9rb2, k9rb3, k9rb4, k9rb5, k9rb6, k9rb7⟩ := B9_rb.out.cells; have BE9_rc := Go.Lib.hid (duat1 w8 0 0 0 0); have B9_rc := Go.Lib.hid (BE9_rc.out.below hb9 BE9_rc.out.lt); obtain ⟨k9rc0, k9rc1, k9rc2, k9rc3, k9rc4, k9rc5, k9rc6, k9rc7⟩ := B9_rc.out.cells; have l9o := B9_o.out.lt; have n9o : x1 ≠ w9.heap.size := (by omega); have l9t := B9_t.out.lt; have n9t : w0.heap.size ≠ w9.heap.size := (by omega); have l9s := B9_s.out.lt; have n9s : w1.heap.size ≠ w9.heap.size := (by omega); have l9l := B9_l.out.lt; have n9l : w2.heap.size ≠ w9.heap.size := (by omega); have l9u := B9_u.out.lt; have n9u : w3.heap.size ≠ w9.heap.size := (by omega); have l9g := B9_g.out.lt; have n9g : w4.heap.size ≠ w9.heap.size := (by omega); have l9wa := B9_wa.out.lt; have n9wa : w5.heap.size ≠ w9.heap.size := (by omega); have l9wb := B9_wb.out.lt; have n9wb : w5.heap.size + 1 ≠ w9.heap.size := (by omega); have l9ra := B9_ra.out.lt; have n9ra : w6.heap.size ≠ w9.heap.size := (by omega); have l9rb := B9_rb.out.lt; have n9rb : w7.heap.size ≠ w9.heap.size := (by omega); have l9rc := B9_rc.out.lt; have n9rc : w8.heap.size ≠ w9.heap.size := (by omega); clear hb9)
        | (go_at_call 14; ((with_reducible refine (t10.out _ _ _ ?h1).mono ?_)); (case h1 => exact (R9_o.out.below (below1 w9 (.cells #[.int .i64 0, .int .i64 0, .int .u64 0, .int .u64 0] 30)) (Nat.le_refl _))); rintro e w10 ⟨rfl, hb10⟩; have hWE10 := Go.Lib.hid (hW9.out.alloc hW9.out.size (.cells #[.int .i64 0, .int .i64 0, .int .u64 0, .int .u64 0] 30)); have hW10 := Go.Lib.hid (hWE10.out.trans (hb10.mono hWE10.out.size)); have R10_o := Go.Lib.hid ((R9_o.out.below (below1 w9 (.cells #[.int .i64 0, .int .i64 0, .int .u64 0, .int .u64 0] 30)) (Nat.le_refl _)).below hb10 (Nat.le_refl _)); have BE10_o := Go.Lib.hid (B9_o.out.alloc (.cells #[.int .i64 0, .int .i64 0, .int .u64 0, .int .u64 0] 30)); have B10_o := Go.Lib.hid (BE10_o.out.below hb10 BE10_o.out.lt); obtain ⟨k10o0, k10o1, k10o2, k10o3⟩ := B10_o.out.cells; have BE10_t := Go.Lib.hid (B9_t.out.alloc (.cells #[.int .i64 0, .int .i64 0, .int .u64 0, .int .u64 0] 30)); have B10_t := Go.Lib.hid (BE10_t.out.below hb10 BE10_t.out.lt); obtain ⟨k10t0, k10t1, k10t2, k10t3, k10t4, k10t5, k10t6, k10t7⟩ := B10_t.out.cells; have BE10_s := Go.Lib.hid (B9_s.out.alloc (.cells #[.int .i64 0, .int .i64 0, .int .u64 0, .int .u64 0] 30)); have B10_s := Go.Lib.hid (BE10_s.out.below hb10 BE10_s.out.lt); obtain ⟨k10s0, k10s1, k10s2, k10s3, k10s4, k10s5, k10s6, k10s7⟩ := B10_s.out.cells; have BE10_l := Go.Lib.hid (B9_l.out.alloc (.cells #[.int .i64 0, .int .i64 0, .int .u64 0, .int .u64 0] 30)); have B10_l := Go.Lib.hid (BE10_l.out.below hb10 BE10_l.out.lt); obtain ⟨k10l0, k10l1, k10l2, k10l3, k10l4, k10l5, k10l6, k10l7⟩ := B10_l.out.cells; have BE10_u := Go.Lib.hid (B9_u.out.alloc (.cells #[.int .i64 0, .int .i64 0, .int .u64 0, .int .u64 0] 30)); have B10_u := Go.Lib.hid (BE10_u.out.below hb10 BE10_u.out.lt); obtain ⟨k10u0, k10u1, k10u2, k10u3, k10u4, k10u5, k10u6, k10u7⟩ := B10_u.out.cells; have BE10_g := Go.Lib.hid (B9_g.out.alloc (.cells #[.int .i64 0, .int .i64 0, .int .u64 0, .int .u64 0] 30)); have B10_g := Go.Lib.hid (BE10_g.out.below hb10 BE10_g.out.lt); obtain ⟨k10g0, k10g1, k10g2, k10g3⟩ := B10_g.out.cells; have BE10_wa := Go.Lib.hid (B9_wa.out.alloc (.cells #[.int .i64 0, .int .i64 0, .int .u64 0, .int .u64 0] 30)); have B10_wa := Go.Lib.hid (BE10_wa.out.below hb10 BE10_wa.out.lt); obtain ⟨k10wa0, k10wa1, k10wa2, k10wa3⟩ := B10_wa.out.cells; have BE10_wb := Go.Lib.hid (B9_wb.out.alloc (.cells #[.int .i64 0, .int .i64 0, .int .u64 0, .int .u64 0] 30)); have B10_wb := Go.Lib.hid (BE10_wb.out.below hb10 BE10_wb.out.lt); obtain ⟨k10wb0, k10wb1, k10wb2, k10wb3, k10wb4, k10wb5, k10wb6, k10wb7⟩ := B10_wb.out.cells; have BE10_ra := Go.Lib.hid (B9_ra.out.alloc (.cells #[.int .i64 0, .int .i64 0, .int .u64 0, .int .u64 0] 30)); have B10_ra := Go.Lib.hid (BE10_ra.out.below hb10 BE10_ra.out.lt); obtain ⟨k10ra0, k10ra1, k10ra2, k10ra3, k10ra4, k10ra5, k10ra6, k10ra7⟩ := B10_ra.out.cells; have BE10_rb := Go.Lib.hid (B9_rb.out.alloc (.cells #[.int .i64 0, .int .i64 0, .int .u64 0, .int .u64 0] 30)); have B10_rb := Go.Lib.hid (BE10_rb.out.below hb10 BE10_rb.out.lt); obtain ⟨k10rb0, k10rb1, k10rb2, k10rb3, k10rb4, k10rb5, k10rb6, k10rb7⟩ := B10_rb.out.cells; have BE10_rc := Go.Lib.hid (B9_rc.out.alloc (.cells #[.int .i64 0, .int .i64 0, .int .u64 0, .int .u64 0] 30)); have B10_rc := Go.Lib.hid (BE10_rc.out.below hb10 BE10_rc.out.lt); obtain ⟨k10rc0, k10rc1, k10rc2, k10rc3, k10rc4, k10rc5, k10rc6, k10rc7⟩ := B10_rc.out.cells; have BE10_rd := Go.Lib.hid (duat1 w9 0 0 0 0); have B10_rd := Go.Lib.hid (BE10_rd.out.below hb10 BE10_rd.out.lt); obtain ⟨k10rd0, k10rd1, k10rd2, k10rd3, k10rd4, k10rd5, k10rd6, k10rd7⟩ := B10_rd.out.cells; have l10o := B10_o.out.lt; have n10o : x1 ≠ w10.heap.size := (by omega); have l10t := B10_t.out.lt; have n10t : w0.heap.size ≠ w10.heap.size := (by omega); have l10s := B10_s.out.lt; have n10s : w1.heap.size ≠ w10.heap.size := (by omega); have l10l := B10_l.out.lt; have n10l : w2.heap.size ≠ w10.heap.size := (by omega); have l10u := B10_u.out.lt; have n10u : w3.heap.size ≠ w10.heap.size := (by omega); have l10g := B10_g.out.lt; have n10g : w4.heap.size ≠ w10.heap.size := (by omega); have l10wa := B10_wa.out.lt; have n10wa : w5.heap.size ≠ w10.heap.size := (by omega); have l10wb := B10_wb.out.lt; have n10wb : w5.heap.size + 1 ≠ w10.heap.size := (by omega); have l10ra := B10_ra.out.lt; have n10ra : w6.heap.size ≠ w10.heap.size := (by omega); have l10rb := B10_rb.out.lt; have n10rb : w7.heap.size ≠ w10.heap.size := (by omega); have l10rc := B10_rc.out.lt; have n10rc : w8.heap.size ≠ w10.heap.size := (by omega); have l10rd := B10_rd.out.lt; have n10rd : w9.heap.size ≠ w10.heap.size := (by omega); clear hb10)
        | (go_at_call 10; ((with_reducible refine (t11.out _ _ _ ?h1).mono ?_)); (case h1 => exact (R10_o.out.below (below1 w10 (.cells #[.int .i64 0, .int .i64 0, .int .u64 0, .int .u64 0] 30)) (Nat.le_refl _))); rintro e w11 ⟨b11, cp11, rfl, hr11, hb11⟩; have hWE11 := Go.Lib.hid (hW10.out.alloc hW10.out.size (.cells #[.int .i64 0, .int .i64 0, .int .u64 0, .int .u64 0] 30)); have hW11 := Go.Lib.hid (hWE11.out.trans (hb11.mono hWE11.out.size)); have R11_o := Go.Lib.hid ((R10_o.out.below (below1 w10 (.cells #[.int .i64 0, .int .i64 0, .int .u64 0, .int .u64 0] 30)) (Nat.le_refl _)).below hb11 (Nat.le_refl _)); have R11_r := Go.Lib.hid hr11; clear hr11; have BE11_o := Go.Lib.hid (B10_o.out.alloc (.cells #[.int .i64 0, .int .i64 0, .int .u64 0, .int .u64 0] 30)); have B11_o := Go.Lib.hid (BE11_o.out.below hb11 BE11_o.out.lt); obtain ⟨k11o0, k11o1, k11o2, k11o3⟩ := B11_o.out.cells; have BE11_t := Go.Lib.hid (B10_t.out.alloc (.cells #[.int .i64 0, .int .i64 0, .int .u64 0, .int .u64 0] 30)); have B11_t := Go.Lib.hid (BE11_t.out.below hb11 BE11_t.out.lt); obtain ⟨k11t0, k11t1, k11t2, k11t3, k11t4, k11t5, k11t6, k11t7⟩ := B11_t.out.cells; have BE11_s := Go.Lib.hid (B10_s.out.alloc (.cells #[.int .i64 0, .int .i64 0, .int .u64 0, .int .u64 0] 30)); have B11_s := Go.Lib.hid (BE11_s.out.below hb11 BE11_s.out.lt); obtain ⟨k11s0, k11s1, k11s2, k11s3, k11s4, k11s5, k11s6, k11s7⟩ := B11_s.out.cells; have BE11_l := Go.Lib.hid (B10_l.out.alloc (.cells #[.int .i64 0, .int .i64 0, .int .u64 0, .int .u64 0] 30)); have B11_l := Go.Lib.hid (BE11_l.out.below hb11 BE11_l.out.lt); obtain ⟨k11l0, k11l1, k11l2, k11l3, k11l4, k11l5, k11l6, k11l7⟩ := B11_l.out.cells; have BE11_u := Go.Lib.hid (B10_u.out.alloc (.cells #[.int .i64 0, .int .i64 0, .int .u64 0, .int .u64 0] 30)); have B11_u := Go.Lib.hid (BE11_u.out.below hb11 BE11_u.out.lt); obtain ⟨k11u0, k11u1, k11u2, k11u3, k11u4, k11u5, k11u6, k11u7⟩ := B11_u.out.cells; have BE11_g := Go.Lib.hid (B10_g.out.alloc (.cells #[.int .i64 0, .int .i64 0, .int .u64 0, .int .u64 0] 30)); have B11_g := Go.Lib.hid (BE11_g.out.below hb11 BE11_g.out.lt); obtain ⟨k11g0, k11g1, k11g2, k11g3⟩ := B11_g.out.cells; have BE11_wa := Go.Lib.hid (B10_wa.out.alloc (.cells #[.int .i64 0, .int .i64 0, .int .u64 0, .int .u64 0] 30)); have B11_wa := Go.Lib.hid (BE11_wa.out.below hb11 BE11_wa.out.lt); obtain ⟨k11wa0, k11wa1, k11wa2, k11wa3⟩ := B11_wa.out.cells; have BE11_wb := Go.Lib.hid (B10_wb.out.alloc (.cells #[.int .i64 0, .int .i64 0, .int .u64 0, .int .u64 0] 30)); have B11_wb := Go.Lib.hid (BE11_wb.out.below hb11 BE11_wb.out.lt); obtain ⟨k11wb0, k11wb1, k11wb2, k11wb3, k11wb4, k11wb5, k11wb6, k11wb7⟩ := B11_wb.out.cells; have BE11_ra := Go.Lib.hid (B10_ra.out.alloc (.cells #[.int .i64 0, .int .i64 0, .int .u64 0, .int .u64 0] 30)); have B11_ra := Go.Lib.hid (BE11_ra.out.below hb11 BE11_ra.out.lt); obtain ⟨k11ra0, k11ra1, k11ra2, k11ra3, k11ra4, k11ra5, k11ra6, k11ra7⟩ := B11_ra.out.cells; have BE11_rb := Go.Lib.hid (B10_rb.out.alloc (.cells #[.int .i64 0, .int .i64 0, .int .u64 0, .int .u64 0] 30)); have B11_rb := Go.Lib.hid (BE11_rb.out.below hb11 BE11_rb.out.lt); obtain ⟨k11rb0, k11rb1, k11rb2, k11rb3, k11rb4, k11rb5, k11rb6, k11rb7⟩ := B11_rb.out.cells; have BE11_rc := Go.Lib.hid (B10_rc.out.alloc (.cells #[.int .i64 0, .int .i64 0, .int .u64 0, .int .u64 0] 30)); have B11_rc := Go.Lib.hid (BE11_rc.out.below hb11 BE11_rc.out.lt); obtain ⟨k11rc0, k11rc1, k11rc2, k11rc3, k11rc4, k11rc5, k11rc6, k11rc7⟩ := B11_rc.out.cells; have BE11_rd := Go.Lib.hid (B10_rd.out.alloc (.cells #[.int .i64 0, .int .i64 0, .int .u64 0, .int .u64 0] 30)); have B11_rd := Go.Lib.hid (BE11_rd.out.below hb11 BE11_rd.out.lt); obtain ⟨k11rd0, k11rd1, k11rd2, k11rd3, k11rd4, k11rd5, k11rd6, k11rd7⟩ := B11_rd.out.cells; have BE11_re := Go.Lib.hid (duat1 w10 0 0 0 0); have B11_re := Go.Lib.hid (BE11_re.out.below hb11 BE11_re.out.lt); obtain ⟨k11re0, k11re1, k11re2, k11re3, k11re4, k11re5, k11re6, k11re7⟩ := B11_re.out.cells; have l11o := B11_o.out.lt; have n11o : x1 ≠ w11.heap.size := (by omega); have l11t := B11_t.out.lt; have n11t : w0.heap.size ≠ w11.heap.size := (by omega); have l11s := B11_s.out.lt; have n11s : w1.heap.size ≠ w11.heap.size := (by omega); have l11l := B11_l.out.lt; have n11l : w2.heap.size ≠ w11.heap.size := (by omega); have l11u := B11_u.out.lt; have n11u : w3.heap.size ≠ w11.heap.size := (by omega); have l11g := B11_g.out.lt; have n11g : w4.heap.size ≠ w11.heap.size := (by omega); have l11wa := B11_wa.out.lt; have n11wa : w5.heap.size ≠ w11.heap.size := (by omega); have l11wb := B11_wb.out.lt; have n11wb : w5.heap.size + 1 ≠ w11.heap.size := (by omega); have l11ra := B11_ra.out.lt; have n11ra : w6.heap.size ≠ w11.heap.size := (by omega); have l11rb := B11_rb.out.lt; have n11rb : w7.heap.size ≠ w11.heap.size := (by omega); have l11rc := B11_rc.out.lt; have n11rc : w8.heap.size ≠ w11.heap.size := (by omega); have l11rd := B11_rd.out.lt; have n11rd : w9.heap.size ≠ w11.heap.size := (by omega); have l11re := B11_re.out.lt; have n11re : w10.heap.size ≠ w11.heap.size := (by omega); clear hb11)
        | (go_at_call 10; ((with_reducible refine (t12.out _ _ _ ?h1).mono ?_)); (case h1 => exact (R11_r.out.below (below1 w11 (.cells #[(.slice b11 7 cp11), .int .i64 49] 24)) (Nat.le_refl _))); rintro e w12 ⟨b12, cp12, rfl, hr12, hb12⟩; have hWE12 := Go.Lib.hid (hW11.out.alloc hW11.out.size (.cells #[(.slice b11 7 cp11), .int .i64 49] 24)); have hW12 := Go.Lib.hid (hWE12.out.trans (hb12.mono hWE12.out.size)); have R12_o := Go.Lib.hid ((R11_o.out.below (below1 w11 (.cells #[(.slice b11 7 cp11), .int .i64 49] 24)) (Nat.le_refl _)).below hb12 (Nat.le_refl _)); have R12_r := Go.Lib.hid ((R11_r.out.below (below1 w11 (.cells #[(.slice b11 7 cp11), .int .i64 49] 24)) (Nat.le_refl _)).below hb12 (Nat.le_refl _)); have R12_y := Go.Lib.hid hr12; clear hr12; have BE12_o := Go.Lib.hid (B11_o.out.alloc (.cells #[(.slice b11 7 cp11), .int .i64 49] 24)); have B12_o := Go.Lib.hid (BE12_o.out.below hb12 BE12_o.out.lt); obtain ⟨k12o0, k12o1, k12o2, k12o3⟩ := B12_o.out.cells; have BE12_t := Go.Lib.hid (B11_t.out.alloc (.cells #[(.slice b11 7 cp11), .int .i64 49] 24)); have B12_t := Go.Lib.hid (BE12_t.out.below hb12 BE12_t.out.lt); obtain ⟨k12t0, k12t1, k12t2, k12t3, k12t4, k12t5, k12t6, k12t7⟩ := B12_t.out.cells; have BE12_s := Go.Lib.hid (B11_s.out.alloc (.cells #[(.slice b11 7 cp11), .int .i64 49] 24)); have B12_s := Go.Lib.hid (BE12_s.out.below hb12 BE12_s.out.lt); obtain ⟨k12s0, k12s1, k12s2, k12s3, k12s4, k12s5, k12s6, k12s7⟩ := B12_s.out.cells; have BE12_l := Go.Lib.hid (B11_l.out.alloc (.cells #[(.slice b11 7 cp11), .int .i64 49] 24)); have B12_l := Go.Lib.hid (BE12_l.out.below hb12 BE12_l.out.lt); obtain ⟨k12l0, k12l1, k12l2, k12l3, k12l4, k12l5, k12l6, k12l7⟩ := B12_l.out.cells; have BE12_u := Go.Lib.hid (B11_u.out.alloc (.cells #[(.slice b11 7 cp11), .int .i64 49] 24)); have B12_u := Go.Lib.hid (BE12_u.out.below hb12 BE12_u.out.lt); obtain ⟨k12u0, k12u1, k12u2, k12u3, k12u4, k12u5, k12u6, k12u7⟩ := B12_u.out.cells; have BE12_g := Go.Lib.hid (B11_g.out.alloc (.cells #[(.slice b11 7 cp11), .int .i64 49] 24)); have B12_g := Go.Lib.hid (BE12_g.out.below hb12 BE12_g.out.lt); obtain ⟨k12g0, k12g1, k12g2, k12g3⟩ := B12_g.out.cells; have BE12_wa := Go.Lib.hid (B11_wa.out.alloc (.cells #[(.slice b11 7 cp11), .int .i64 49] 24)); have B12_wa := Go.Lib.hid (BE12_wa.out.below hb12 BE12_wa.out.lt); obtain ⟨k12wa0, k12wa1, k12wa2, k12wa3⟩ := B12_wa.out.cells; have BE12_wb := Go.Lib.hid (B11_wb.out.alloc (.cells #[(.slice b11 7 cp11), .int .i64 49] 24)); have B12_wb := Go.Lib.hid (BE12_wb.out.below hb12 BE12_wb.out.lt); obtain ⟨k12wb0, k12wb1, k12wb2, k12wb3, k12wb4, k12wb5, k12wb6, k12wb7⟩ := B12_wb.out.cells; have BE12_ra := Go.Lib.hid (B11_ra.out.alloc (.cells #[(.slice b11 7 cp11), .int .i64 49] 24)); have B12_ra := Go.Lib.hid (BE12_ra.out.below hb12 BE12_ra.out.lt); obtain ⟨k12ra0, k12ra1, k12ra2, k12ra3, k12ra4, k12ra5, k12ra6, k12ra7⟩ := B12_ra.out.cells; have BE12_rb := Go.Lib.hid (B11_rb.out.alloc (.cells #[(.slice b11 7 cp11), .int .i64 49] 24)); have B12_rb := Go.Lib.hid (BE12_rb.out.below hb12 BE12_rb.out.lt); obtain ⟨k12rb0, k12rb1, k12rb2, k12rb3, k12rb4, k12rb5, k12rb6, k12rb7⟩ := B12_rb.out.cells; have BE12_rc := Go.Lib.hid (B11_rc.out.alloc (.cells #[(.slice b11 7 cp11), .int .i64 49] 24)); have B12_rc := Go.Lib.hid (BE12_rc.out.below hb12 BE12_rc.out.lt); obtain ⟨k12rc0, k12rc1, k12rc2, k12rc3, k12rc4, k12rc5, k12rc6, k12rc7⟩ := B12_rc.out.cells; have BE12_rd := Go.Lib.hid (B11_rd.out.alloc (.cells #[(.slice b11 7 cp11), .int .i64 49] 24)); have B12_rd := Go.Lib.hid (BE12_rd.out.below hb12 BE12_rd.out.lt); obtain ⟨k12rd0, k12rd1, k12rd2, k12rd3, k12rd4, k12rd5, k12rd6, k12rd7⟩ := B12_rd.out.cells; have BE12_re := Go.Lib.hid (B11_re.out.alloc (.cells #[(.slice b11 7 cp11), .int .i64 49] 24)); have B12_re := Go.Lib.hid (BE12_re.out.below hb12 BE12_re.out.lt); obtain ⟨k12re0, k12re1, k12re2, k12re3, k12re4, k12re5, k12re6, k12re7⟩ := B12_re.out.cells; have BE12_r := Go.Lib.hid (box1 w11 (.slice b11 7 cp11) 49); have B12_r := Go.Lib.hid (BE12_r.out.below hb12 BE12_r.out.lt); obtain ⟨k12r0, k12r1, k12r2, k12r3⟩ := B12_r.out.cells; clear hb12))
      obtain ⟨wg, hwg⟩ : ∃ w, w = (w12.setCell ⟨w11.heap.size, 0, none⟩ (.slice b12 11 cp12)).setCell ⟨w11.heap.size, 1, none⟩ (.int .i64 81) := ⟨_, rfl⟩
      have lg : W.heap.size ≤ w11.heap.size := hW11.out.size
      have hW60 := Go.Lib.hid ((hW12.out.setCell (p := ⟨w11.heap.size, 0, none⟩) lg (.slice b12 11 cp12)).setCell (p := ⟨w11.heap.size, 1, none⟩) lg (.int .i64 81))
      have B60_r := Go.Lib.hid (B12_r.out.set (.slice b12 11 cp12) 81)
      have ne_o : x1 ≠ w11.heap.size := (by have := BE11_o.out.lt; have := B11_o.out.lt; omega)
      have B60_o := Go.Lib.hid ((B12_o.out.other (p := ⟨w11.heap.size, 0, none⟩) ne_o (.slice b12 11 cp12)).other (p := ⟨w11.heap.size, 1, none⟩) ne_o (.int .i64 81))
      have ne_s : w1.heap.size ≠ w11.heap.size := (by have := BE11_s.out.lt; have := B11_s.out.lt; omega)
      have B60_s := Go.Lib.hid ((B12_s.out.other (p := ⟨w11.heap.size, 0, none⟩) ne_s (.slice b12 11 cp12)).other (p := ⟨w11.heap.size, 1, none⟩) ne_s (.int .i64 81))
      have ne_l : w2.heap.size ≠ w11.heap.size := (by have := BE11_l.out.lt; have := B11_l.out.lt; omega)
      have B60_l := Go.Lib.hid ((B12_l.out.other (p := ⟨w11.heap.size, 0, none⟩) ne_l (.slice b12 11 cp12)).other (p := ⟨w11.heap.size, 1, none⟩) ne_l (.int .i64 81))
      have ne_u : w3.heap.size ≠ w11.heap.size := (by have := BE11_u.out.lt; have := B11_u.out.lt; omega)
      have B60_u := Go.Lib.hid ((B12_u.out.other (p := ⟨w11.heap.size, 0, none⟩) ne_u (.slice b12 11 cp12)).other (p := ⟨w11.heap.size, 1, none⟩) ne_u (.int .i64 81))
      have R60_y := Go.Lib.hid ((R12_y.out.box B12_r.out 0 (.slice b12 11 cp12)).box (B12_r.out.set0 _) 1 (.int .i64 81))
      rw [← hwg] at hW60 B60_r B60_o B60_s B60_l B60_u R60_y ⊢
      obtain ⟨xg, hxg⟩ : ∃ x, x = w11.heap.size := ⟨_, rfl⟩
      rw [← hxg] at B60_r
      try rw [← hxg]
      obtain ⟨x_s, hx_s⟩ : ∃ x, x = w1.heap.size := ⟨_, rfl⟩
      rw [← hx_s] at B60_s
      try rw [← hx_s]
      obtain ⟨x_l, hx_l⟩ : ∃ x, x = w2.heap.size := ⟨_, rfl⟩
      rw [← hx_l] at B60_l
      try rw [← hx_l]
      obtain ⟨x_u, hx_u⟩ : ∃ x, x = w3.heap.size := ⟨_, rfl⟩
      rw [← hx_u] at B60_u
      try rw [← hx_u]
      clear hwg lg hxg ne_o ne_s ne_l ne_u hx_s hx_l hx_u k12o0 k12o1 k12o2 k12o3 k12t0 k12t1 k12t2 k12t3 k12t4 k12t5 k12t6 k12t7 k12s0 k12s1 k12s2 k12s3 k12s4 k12s5 k12s6 k12s7 k12l0 k12l1 k12l2 k12l3 k12l4 k12l5 k12l6 k12l7 k12u0 k12u1 k12u2 k12u3 k12u4 k12u5 k12u6 k12u7 k12g0 k12g1 k12g2 k12g3 k12wa0 k12wa1 k12wa2 k12wa3 k12wb0 k12wb1 k12wb2 k12wb3 k12wb4 k12wb5 k12wb6 k12wb7 k12ra0 k12ra1 k12ra2 k12ra3 k12ra4 k12ra5 k12ra6 k12ra7 k12rb0 k12rb1 k12rb2 k12rb3 k12rb4 k12rb5 k12rb6 k12rb7 k12rc0 k12rc1 k12rc2 k12rc3 k12rc4 k12rc5 k12rc6 k12rc7 k12rd0 k12rd1 k12rd2 k12rd3 k12rd4 k12rd5 k12rd6 k12rd7 k12re0 k12re1 k12re2 k12re3 k12re4 k12re5 k12re6 k12re7 k12r0 k12r1 k12r2 k12r3
      obtain ⟨g0, g1, g2, g3⟩ := B60_r.out.cells
      go_wp2_with (first
        | (go_at_call 14; ((with_reducible refine (t13.out _ _ _ ?h1).mono ?_)); (case h1 => exact R60_y.out); rintro e w61 ⟨rfl, hb61⟩; have hWE61 := Go.Lib.hid hW60.out; have hW61 := Go.Lib.hid (hWE61.out.trans (hb61.mono hWE61.out.size)); have R61_y := Go.Lib.hid (R60_y.out.below hb61 (Nat.le_refl _)); have BE61_r := Go.Lib.hid B60_r.out; have B61_r := Go.Lib.hid (BE61_r.out.below hb61 BE61_r.out.lt); obtain ⟨k61r0, k61r1, k61r2, k61r3⟩ := B61_r.out.cells; have BE61_s := Go.Lib.hid B60_s.out; have B61_s := Go.Lib.hid (BE61_s.out.below hb61 BE61_s.out.lt); obtain ⟨k61s0, k61s1, k61s2, k61s3, k61s4, k61s5, k61s6, k61s7⟩ := B61_s.out.cells; have BE61_l := Go.Lib.hid B60_l.out; have B61_l := Go.Lib.hid (BE61_l.out.below hb61 BE61_l.out.lt); obtain ⟨k61l0, k61l1, k61l2, k61l3, k61l4, k61l5, k61l6, k61l7⟩ := B61_l.out.cells; have BE61_u := Go.Lib.hid B60_u.out; have B61_u := Go.Lib.hid (BE61_u.out.below hb61 BE61_u.out.lt); obtain ⟨k61u0, k61u1, k61u2, k61u3, k61u4, k61u5, k61u6, k61u7⟩ := B61_u.out.cells; have l61r := B61_r.out.lt; have n61r : xg ≠ w61.heap.size := (by omega); have l61s := B61_s.out.lt; have n61s : x_s ≠ w61.heap.size := (by omega); have l61l := B61_l.out.lt; have n61l : x_l ≠ w61.heap.size := (by omega); have l61u := B61_u.out.lt; have n61u : x_u ≠ w61.heap.size := (by omega); clear hb61)
        | (at_make; refine law_make elU8 (w61.alloc (.cells #[.int .i64 0, .int .i64 0, .int .u64 0, .int .u64 0] 30)) rfl _ _ rfl .i64 .i64 41250 41250 n41 rfl rfl hn41 hn41 hnb ?_; intro w62 hown62 hb62 hs62; have hWE62 := Go.Lib.hid (hW61.out.alloc hW61.out.size (.cells #[.int .i64 0, .int .i64 0, .int .u64 0, .int .u64 0] 30)); have hW62 := Go.Lib.hid (hWE62.out.trans (hb62.mono hWE62.out.size)); have R62_y := Go.Lib.hid ((R61_y.out.below (below1 w61 (.cells #[.int .i64 0, .int .i64 0, .int .u64 0, .int .u64 0] 30)) (Nat.le_refl _)).below hb62 (Nat.le_refl _)); have BE62_r := Go.Lib.hid (B61_r.out.alloc (.cells #[.int .i64 0, .int .i64 0, .int .u64 0, .int .u64 0] 30)); have B62_r := Go.Lib.hid (BE62_r.out.below hb62 BE62_r.out.lt); obtain ⟨k62r0, k62r1, k62r2, k62r3⟩ := B62_r.out.cells; have BE62_s := Go.Lib.hid (B61_s.out.alloc (.cells #[.int .i64 0, .int .i64 0, .int .u64 0, .int .u64 0] 30)); have B62_s := Go.Lib.hid (BE62_s.out.below hb62 BE62_s.out.lt); obtain ⟨k62s0, k62s1, k62s2, k62s3, k62s4, k62s5, k62s6, k62s7⟩ := B62_s.out.cells; have BE62_l := Go.Lib.hid (B61_l.out.alloc (.cells #[.int .i64 0, .int .i64 0, .int .u64 0, .int .u64 0] 30)); have B62_l := Go.Lib.hid (BE62_l.out.below hb62 BE62_l.out.lt); obtain ⟨k62l0, k62l1, k62l2, k62l3, k62l4, k62l5, k62l6, k62l7⟩ := B62_l.out.cells; have BE62_u := Go.Lib.hid (B61_u.out.alloc (.cells #[.int .i64 0, .int .i64 0, .int .u64 0, .int .u64 0] 30)); have B62_u := Go.Lib.hid (BE62_u.out.below hb62 BE62_u.out.lt); obtain ⟨k62u0, k62u1, k62u2, k62u3, k62u4, k62u5, k62u6, k62u7⟩ := B62_u.out.cells; have BE62_rf := Go.Lib.hid (duat1 w61 0 0 0 0); have B62_rf := Go.Lib.hid (BE62_rf.out.below hb62 BE62_rf.out.lt); obtain ⟨k62rf0, k62rf1, k62rf2, k62rf3, k62rf4, k62rf5, k62rf6, k62rf7⟩ := B62_rf.out.cells; simp only [World.size_alloc] at hown62; have R62_z := Go.Lib.hid (Row.of_own hown62 hzw.out); clear hown62 hb62 hs62)
        | (go_at_call 16; ((with_reducible refine (t14.out _ _ _ ?h1).mono ?_)); (case h1 => exact R62_z.out); rintro e w63 ⟨b63, cp63, rfl, hr63, hb63⟩; have hWE63 := Go.Lib.hid hW62.out; have hW63 := Go.Lib.hid (hWE63.out.trans (hb63.mono hWE63.out.size)); have R63_y := Go.Lib.hid (R62_y.out.below hb63 (Nat.le_refl _)); have R63_z := Go.Lib.hid (R62_z.out.below hb63 (Nat.le_refl _)); have R63_f := Go.Lib.hid hr63; clear hr63; have BE63_r := Go.Lib.hid B62_r.out; have B63_r := Go.Lib.hid (BE63_r.out.below hb63 BE63_r.out.lt); obtain ⟨k63r0, k63r1, k63r2, k63r3⟩ := B63_r.out.cells; have BE63_s := Go.Lib.hid B62_s.out; have B63_s := Go.Lib.hid (BE63_s.out.below hb63 BE63_s.out.lt); obtain ⟨k63s0, k63s1, k63s2, k63s3, k63s4, k63s5, k63s6, k63s7⟩ := B63_s.out.cells; have BE63_l := Go.Lib.hid B62_l.out; have B63_l := Go.Lib.hid (BE63_l.out.below hb63 BE63_l.out.lt); obtain ⟨k63l0, k63l1, k63l2, k63l3, k63l4, k63l5, k63l6, k63l7⟩ := B63_l.out.cells; have BE63_u := Go.Lib.hid B62_u.out; have B63_u := Go.Lib.hid (BE63_u.out.below hb63 BE63_u.out.lt); obtain ⟨k63u0, k63u1, k63u2, k63u3, k63u4, k63u5, k63u6, k63u7⟩ := B63_u.out.cells; have BE63_rf := Go.Lib.hid B62_rf.out; have B63_rf := Go.Lib.hid (BE63_rf.out.below hb63 BE63_rf.out.lt); obtain ⟨k63rf0, k63rf1, k63rf2, k63rf3, k63rf4, k63rf5, k63rf6, k63rf7⟩ := B63_rf.out.cells; have l63r := B63_r.out.lt; have n63r : xg ≠ w63.heap.size := (by omega); have l63s := B63_s.out.lt; have n63s : x_s ≠ w63.heap.size := (by omega); have l63l := B63_l.out.lt; have n63l : x_l ≠ w63.heap.size := (by omega); have l63u := B63_u.out.lt; have n63u : x_u ≠ w63.heap.size := (by omega); have l63rf := B63_rf.out.lt; have n63rf : w61.heap.size ≠ w63.heap.size := (by omega); clear hb63)
        | (go_at_call 13; ((with_reducible refine (t15.out _ _ _ ?h1).mono ?_)); (case h1 => exact (R63_f.out.below (below1 w63 (.cells #[(.slice b63 n41 cp63), .int .i64 n330] 24)) (Nat.le_refl _))); rintro e w64 ⟨b64, cp64, rfl, hr64, hb64⟩; have hWE64 := Go.Lib.hid (hW63.out.alloc hW63.out.size (.cells #[(.slice b63 n41 cp63), .int .i64 n330] 24)); have hW64 := Go.Lib.hid (hWE64.out.trans (hb64.mono hWE64.out.size)); have R64_y := Go.Lib.hid ((R63_y.out.below (below1 w63 (.cells #[(.slice b63 n41 cp63), .int .i64 n330] 24)) (Nat.le_refl _)).below hb64 (Nat.le_refl _)); have R64_z := Go.Lib.hid ((R63_z.out.below (below1 w63 (.cells #[(.slice b63 n41 cp63), .int .i64 n330] 24)) (Nat.le_refl _)).below hb64 (Nat.le_refl _)); have R64_f := Go.Lib.hid ((R63_f.out.below (below1 w63 (.cells #[(.slice b63 n41 cp63), .int .i64 n330] 24)) (Nat.le_refl _)).below hb64 (Nat.le_refl _)); have BE64_r := Go.Lib.hid (B63_r.out.alloc (.cells #[(.slice b63 n41 cp63), .int .i64 n330] 24)); have B64_r := Go.Lib.hid (BE64_r.out.below hb64 BE64_r.out.lt); obtain ⟨k64r0, k64r1, k64r2, k64r3⟩ := B64_r.out.cells; have BE64_s := Go.Lib.hid (B63_s.out.alloc (.cells #[(.slice b63 n41 cp63), .int .i64 n330] 24)); have B64_s := Go.Lib.hid (BE64_s.out.below hb64 BE64_s.out.lt); obtain ⟨k64s0, k64s1, k64s2, k64s3, k64s4, k64s5, k64s6, k64s7⟩ := B64_s.out.cells; have BE64_l := Go.Lib.hid (B63_l.out.alloc (.cells #[(.slice b63 n41 cp63), .int .i64 n330] 24)); have B64_l := Go.Lib.hid (BE64_l.out.below hb64 BE64_l.out.lt); obtain ⟨k64l0, k64l1, k64l2, k64l3, k64l4, k64l5, k64l6, k64l7⟩ := B64_l.out.cells; have BE64_u := Go.Lib.hid (B63_u.out.alloc (.cells #[(.slice b63 n41 cp63), .int .i64 n330] 24)); have B64_u := Go.Lib.hid (BE64_u.out.below hb64 BE64_u.out.lt); obtain ⟨k64u0, k64u1, k64u2, k64u3, k64u4, k64u5, k64u6, k64u7⟩ := B64_u.out.cells; have BE64_rf := Go.Lib.hid (B63_rf.out.alloc (.cells #[(.slice b63 n41 cp63), .int .i64 n330] 24)); have B64_rf := Go.Lib.hid (BE64_rf.out.below hb64 BE64_rf.out.lt); obtain ⟨k64rf0, k64rf1, k64rf2, k64rf3, k64rf4, k64rf5, k64rf6, k64rf7⟩ := B64_rf.out.cells; have BE64_f := Go.Lib.hid (box1 w63 (.slice b63 n41 cp63) n330); have B64_f := Go.Lib.hid (BE64_f.out.below hb64 BE64_f.out.lt); obtain ⟨k64f0, k64f1, k64f2, k64f3⟩ := B64_f.out.cells; have l64r := B64_r.out.lt; have n64r : xg ≠ w64.heap.size := (by omega); have o64r : xg ≠ w64.heap.size + 1 := (by omega); have l64s := B64_s.out.lt; have n64s : x_s ≠ w64.heap.size := (by omega); have o64s : x_s ≠ w64.heap.size + 1 := (by omega); have l64l := B64_l.out.lt; have n64l : x_l ≠ w64.heap.size := (by omega); have o64l : x_l ≠ w64.heap.size + 1 := (by omega); have l64u := B64_u.out.lt; have n64u : x_u ≠ w64.heap.size := (by omega); have o64u : x_u ≠ w64.heap.size + 1 := (by omega); have l64rf := B64_rf.out.lt; have n64rf : w61.heap.size ≠ w64.heap.size := (by omega); have o64rf : w61.heap.size ≠ w64.heap.size + 1 := (by omega); have l64f := B64_f.out.lt; have n64f : w63.heap.size ≠ w64.heap.size := (by omega); have o64f : w63.heap.size ≠ w64.heap.size + 1 := (by omega); clear hb64)
        | (go_at_call 17; refine (alive8_ok _).mono ?_; rintro e w65 ⟨rfl, hb65⟩; have hWE65 := Go.Lib.hid ((hW64.out.alloc hW64.out.size (.cells #[(.slice b64 0 cp64), .int .i64 0] 24)).alloc (hW64.out.alloc hW64.out.size (.cells #[(.slice b64 0 cp64), .int .i64 0] 24)).size (.cells #[.int .i64 0, .int .i64 0, .int .u64 0, .int .u64 0] 30)); have hW65 := Go.Lib.hid (hWE65.out.trans (hb65.mono hWE65.out.size)); clear hb65))
      go_ret
      exact ⟨rfl, hW65.out⟩

theorem dualNames_walk (W : World) :
    Calls Try.prog 3 #[] W fun e w' => e = .returned (.bool true) ∧ Below W.heap.size W w' :=
  dualNames_in W 41250 330000 rfl rfl
end Go.Proofs.Ytenkhnlhoeahkaa

