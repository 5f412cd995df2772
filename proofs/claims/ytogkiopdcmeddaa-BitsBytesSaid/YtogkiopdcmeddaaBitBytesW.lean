/- BitsBytes: filled up bits are those of their bytes, and each bit is the one that the byte has. -/
import Derived.Test.YtogkiopdcmeddaaBitGotW
namespace Go.Proofs.Ytogkiopdcmeddaa
open Go.RowKit Cad

/-- the guard says no -/
theorem bitsBytes_out (W : World) (a : Option Addr) (len cap : Nat) (l : List Int) (N : Int) (at_ : Int) (hr : Row .u8 W a len cap l) (hN : (Lit.int .i64 N).wf = true)
    (h : ¬ Valid l N ∨ (Valid l N ∧ 1500 < N)) :
    Calls Try.prog 7 #[.agg #[.slice a len cap, .int .i64 N], .int .i64 at_] W fun e w' => e = .returned (.bool true) ∧ Below W.heap.size W w' := by
  have hrE := hr.below (below1 W (.cells #[.slice a len cap, .int .i64 N] 24)) (Nat.le_refl _)
  have hx0' := Go.Lib.hid (box1 W (.slice a len cap) N)
  have hbE' := Go.Lib.hid (below1 W (.cells #[.slice a len cap, .int .i64 N] 24))
  rcases h with h | ⟨hv, h⟩
  · have hck := Go.Lib.hid (RCheck_any _ a len cap N l hrE hN 8 (.inr ⟨h, rfl⟩))
    clear hr hrE hN h
    go_enter Try.func7, Try.ntmps7
    go_wp2_with (first
      | (go_at_call 18; refine hck.out.mono ?_; rintro e w1 ⟨rfl, hb1⟩)
      | (go_at_call 19; refine (alive_ok _).mono ?_; rintro e w2 ⟨rfl, hb2⟩))
    go_ret
    exact ⟨rfl, (hbE'.out.trans (hb1.mono (by simp))).trans (hb2.mono (by have := hb1.size; simp at this; omega))⟩
  · have hck := Go.Lib.hid (RCheck_any _ a len cap N l hrE hN 0 (.inl ⟨hv, rfl⟩))
    have bN := hv.n
    clear hr hrE hN hv
    go_enter Try.func7, Try.ntmps7
    go_wp2_with (first
      | (go_at_call 18; refine hck.out.mono ?_; rintro e w1 ⟨rfl, hb1⟩; obtain ⟨c0, c1, c2, c3⟩ := (hx0'.out.below hb1 (by simp)).cells; have hb1' := Go.Lib.hid hb1; clear hb1)
      | (go_at_call 19; refine (alive_ok _).mono ?_; rintro e w2 ⟨rfl, hb2⟩))
    go_ret
    exact ⟨rfl, (hbE'.out.trans (hb1'.out.mono (by simp))).trans (hb2.mono (by have := hb1'.out.size; simp at this; omega))⟩

theorem take_whole (B : List Bool) {n : Nat} (h : n = 8 * ((B.length + 7) / 8)) : midB (unpack (pack B) n) 0 B.length = B := by
  apply ext_getD (by rw [midB_len _ (Nat.zero_le _) (by rw [unpack_len]; omega)]; omega)
  intro i hi
  rw [midB_len _ (Nat.zero_le _) (by rw [unpack_len]; omega)] at hi
  unfold midB
  rw [List.drop_zero, Nat.sub_zero, getD_take, decide_eq_true (by omega), unpack_getD _ _ _ (by omega), bit_pack]
  simp
theorem natB_one (B : List Bool) {i : Nat} (h : i < B.length) : natB (midB B i (i + 1)) = (B.getD i false).toNat := by
  rw [midB_snoc B (Nat.le_refl _) h]
  have : midB B i i = [] := by simp [midB]
  rw [this]
  simp [natB]

set_option maxHeartbeats 6000000 in
theorem bitsBytes_in (W : World) (a : Option Addr) (len cap : Nat) (B : List Bool) (at_ : Int) (hr : Row .u8 W a len cap (pack B)) (hB : B.length ≤ 1500) (hat : (Lit.int .i64 at_).wf = true) :
    Calls Try.prog 7 #[.agg #[.slice a len cap, .int .i64 B.length], .int .i64 at_] W fun e w' => e = .returned (.bool true) ∧ Below W.heap.size W w' := by
  have hl := hr.hlen
  rw [pack_len] at hl
  have bat := bounds_i64 hat
  have hlb : len ≤ 188 := by omega
  obtain ⟨n8, hn8⟩ : ∃ n8, n8 = 8 * len := ⟨_, rfl⟩
  obtain ⟨X, hX⟩ : ∃ X, X = unpack (pack B) n8 := ⟨_, rfl⟩
  have hXl : X.length = n8 := by rw [hX, unpack_len]
  have hXp : pack X = pack B := by
    rw [hX]
    exact pack_unpack (pack_wf B) (by rw [pack_len]; omega) fun i h1 h2 => by rw [pack_len] at h2; omega
  have hXm : midB X 0 B.length = B := by rw [hX]; exact take_whole B (by omega)
  obtain ⟨L, hL⟩ : ∃ L, L = pack B := ⟨_, rfl⟩
  obtain ⟨nb, hnb⟩ : ∃ nb, nb = B.length := ⟨_, rfl⟩
  have hck : Hid (∀ w, Row .u8 w a len cap L → Calls Try.prog 18 #[.agg #[.slice a len cap, .int .i64 nb]] w fun e W' => e = .returned (.int .i64 0) ∧ Below w.heap.size w W') := Go.Lib.hid fun w hw => by
    rw [hnb]; rw [hL] at hw
    exact RCheck_any _ a len cap B.length (pack B) hw (bounds_of_len (by omega)) 0 (.inl ⟨⟨B, rfl, by omega, rfl⟩, rfl⟩)
  have hal : Hid (∀ w, Row .u8 w a len cap L → Calls Try.prog 15 #[.agg #[.slice a len cap, .int .i64 nb]] w fun e W' => ∃ b c, e = .returned (.tuple #[.agg #[.slice b len c, .int .i64 n8], .int .i64 0]) ∧ Row .u8 W' b len c L ∧ Below w.heap.size w W') := Go.Lib.hid fun w hw => by
    rw [hnb]; rw [hL] at hw ⊢
    refine (BAlign_ok w a len cap B.length (pack B) hw (bounds_of_len (by omega)) ⟨B, rfl, by omega, rfl⟩).mono ?_
    rintro e w' ⟨v', rfl, hown, hb⟩
    obtain ⟨b, c, rfl⟩ := own_form hown
    exact ⟨b, c, by rw [hn8]; simp, Row.of_own hown (u8_wf (pack_wf _)), hb⟩
  have hof : Hid (∀ w, Row .u8 w a len cap L → Calls Try.prog 13 #[.slice a len cap] w fun e W' => ∃ b c, e = .returned (.tuple #[.agg #[.slice b len c, .int .i64 n8], .int .i64 0]) ∧ Row .u8 W' b len c L ∧ Below w.heap.size w W') := Go.Lib.hid fun w hw => by
    rw [hL] at hw ⊢
    refine (BOf_ok w a len cap (pack B) hw (by omega)).mono ?_
    rintro e w' ⟨v', rfl, hown, hb⟩
    obtain ⟨b, c, rfl⟩ := own_form hown
    exact ⟨b, c, by rw [hn8]; simp, Row.of_own hown (u8_wf (pack_wf _)), hb⟩
  have hcut : Hid (∀ w b c, Row .u8 w b len c L → Calls Try.prog 11 #[.agg #[.slice b len c, .int .i64 n8], .int .i64 0, .int .i64 nb] w fun e W' => ∃ b c, e = .returned (.tuple #[.agg #[.slice b len c, .int .i64 nb], .int .i64 0]) ∧ Row .u8 W' b len c L ∧ Below w.heap.size w W') := Go.Lib.hid fun w b c hw => by
    have := BCut_ok w b len c X 0 B.length (by rw [hXp, ← hL]; exact hw) (by omega) (Nat.zero_le _) (by omega)
    rw [hXl, hXm, hl, ← hL, Nat.sub_zero, ← hnb] at this
    exact this
  have hs1 : Hid (∀ w b c b' c', Row .u8 w b len c L → Row .u8 w b' len c' L → Calls Try.prog 17 #[.agg #[.slice b len c, .int .i64 n8], .agg #[.slice b' len c', .int .i64 n8]] w fun e W' => e = .returned (.bool true) ∧ Below w.heap.size w W') := Go.Lib.hid fun w b c b' c' h h' => by
    have := RSame_ok w b len c n8 L h b' len c' n8 L h'
    simpa using this
  have hs2 : Hid (∀ w b c, Row .u8 w b len c L → Row .u8 w a len cap L → Calls Try.prog 17 #[.agg #[.slice b len c, .int .i64 nb], .agg #[.slice a len cap, .int .i64 nb]] w fun e W' => e = .returned (.bool true) ∧ Below w.heap.size w W') := Go.Lib.hid fun w b c h h' => by
    have := RSame_ok w b len c nb L h a len cap nb L h'
    simpa using this
  have hgb : Hid (∀ (i : Nat) w, Row .u8 w a len cap L → i < nb → Calls Try.prog 22 #[.agg #[.slice a len cap, .int .i64 nb], .int .i64 i, .int .i64 1] w fun e W' => e = .returned (.tuple #[.int .u64 ((B.getD i false).toNat : Nat), .int .i64 0]) ∧ Below w.heap.size w W') := Go.Lib.hid fun i w hw hi => by
    have := BGet_ok w a len cap B i 1 (by rw [← hL]; exact hw) (by omega) (by omega) (by omega)
    rw [natB_one B (by omega), ← hnb] at this
    exact this
  have hcellB : Hid (∀ j, L.getD j 0 = (byteN B j : Nat)) := Go.Lib.hid fun j => by rw [hL, pack_getD_any]
  have hbitB : Hid (∀ i, (byteN B (i / 8)).testBit (i % 8) = B.getD i false) := Go.Lib.hid fun i => by
    rw [byteN_tb, decide_eq_true (Nat.mod_lt _ (by decide)), show 8 * (i / 8) + i % 8 = i by omega]; simp
  have hWE0 := Go.Lib.hid (below1 W (.cells #[.slice a len cap, .int .i64 nb] 24))
  have BE0_b := Go.Lib.hid (box1 W (.slice a len cap) nb)
  have RE0_b := Go.Lib.hid (hr.below hWE0.out (Nat.le_refl _))
  rw [← hL] at RE0_b
  rw [← hnb]
  have hnb1 : nb ≤ 1500 := by omega
  have hl' := Go.Lib.hid (show (nb + 7) / 8 = len by omega)
  clear hr hl hn8 hX hXl hXp hXm hL hnb hB hat
  by_cases hin : 0 ≤ at_ ∧ at_ < nb
  · obtain ⟨i, rfl⟩ : ∃ i : Nat, at_ = i := ⟨at_.toNat, by omega⟩
    obtain ⟨_, hi⟩ := hin
    have hgb := Go.Lib.hid (fun w hw => hgb.out i w hw (by omega))
    have hcb := byteN_lt B (i / 8)
    have hci := hcellB.out (i / 8)
    have hil : i / 8 < len := by have := hl'.out; omega
    have hbb := hbitB.out i
    obtain ⟨c, hc⟩ : ∃ c, c = byteN B (i / 8) := ⟨_, rfl⟩
    obtain ⟨y, hy⟩ : ∃ y, y = (B.getD i false).toNat := ⟨_, rfl⟩
    rw [← hc] at hcb hci hbb
    rw [← hy] at hgb
    have hyc : Hid (y = c / 2 ^ (i % 8) % 2) := Go.Lib.hid (by
      rw [hy, ← hbb, Nat.testBit_eq_decide_div_mod_eq]
      have : c / 2 ^ (i % 8) % 2 < 2 := Nat.mod_lt _ (by decide)
      rcases (show c / 2 ^ (i % 8) % 2 = 0 ∨ c / 2 ^ (i % 8) % 2 = 1 by omega) with h | h <;> rw [h] <;> rfl)
    have hcell : Hid (∀ w, Row .u8 w a len cap L → ∃ bb off, a = some ⟨bb, off, none⟩ ∧ w.cell? ⟨bb, off + i / 8, none⟩ = some (.int .u8 (c : Int))) := Go.Lib.hid fun w hw => by
      obtain ⟨bb, off, e, _, h⟩ := hw.cells (by omega)
      exact ⟨bb, off, e, by rw [h _ hil, hci]⟩
    obtain ⟨bb, off, ea, _⟩ := hcell.out _ RE0_b.out
    subst ea
    have hcell : Hid (∀ w, Row .u8 w (some ⟨bb, off, none⟩) len cap L → w.cell? ⟨bb, off + i / 8, none⟩ = some (.int .u8 (c : Int))) := Go.Lib.hid fun w hw => by
      obtain ⟨b', off', e, h⟩ := hcell.out w hw
      cases e
      exact h
    have o1 : Go.bits .and .u8 ((c : Int) / 2 ^ (i % 8)) 1 = (y : Int) := by
      have := Go.u8_and_nat (c / 2 ^ (i % 8)) 1 (Nat.lt_of_le_of_lt (Nat.div_le_self _ _) hcb) (by decide)
      rw [Nat.and_one_is_mod, ← hyc.out] at this
      simpa using this
    have hy2 : y ≤ 1 := by rw [hyc.out]; omega
    clear hc hy hbb hci hcellB hbitB
    go_enter Try.func7, Try.ntmps7
    go_wp2_with (first
      | (go_at_call 18; ((with_reducible refine (hck.out _ RE0_b.out).mono ?_)); rintro e w1 ⟨rfl, hb1⟩; have hWE1 := Go.Lib.hid hWE0.out; have hW1 := Go.Lib.hid (hWE1.out.trans (hb1.mono hWE1.out.size)); have R1_b := Go.Lib.hid (RE0_b.out.below hb1 (Nat.le_refl _)); have BE1_b := Go.Lib.hid BE0_b.out; have B1_b := Go.Lib.hid (BE1_b.out.below hb1 BE1_b.out.lt); obtain ⟨k1b0, k1b1, k1b2, k1b3⟩ := B1_b.out.cells; clear hb1)
      | (go_at_call 15; ((with_reducible refine (hal.out _ R1_b.out).mono ?_)); rintro e w2 ⟨b2, cp2, rfl, hr2, hb2⟩; have hWE2 := Go.Lib.hid hW1.out; have hW2 := Go.Lib.hid (hWE2.out.trans (hb2.mono hWE2.out.size)); have R2_b := Go.Lib.hid (R1_b.out.below hb2 (Nat.le_refl _)); have R2_x := Go.Lib.hid hr2; clear hr2; have BE2_b := Go.Lib.hid B1_b.out; have B2_b := Go.Lib.hid (BE2_b.out.below hb2 BE2_b.out.lt); obtain ⟨k2b0, k2b1, k2b2, k2b3⟩ := B2_b.out.cells; have l2b := B2_b.out.lt; have n2b : W.heap.size ≠ w2.heap.size := (by omega); clear hb2)
      | (go_at_call 13; ((with_reducible refine (hof.out _ ?hrow).mono ?_)); (case hrow => exact (R2_b.out.below (below1 w2 (.cells #[(.slice b2 len cp2), .int .i64 n8] 24)) (Nat.le_refl _))); rintro e w3 ⟨b3, cp3, rfl, hr3, hb3⟩; have hWE3 := Go.Lib.hid (hW2.out.alloc hW2.out.size (.cells #[(.slice b2 len cp2), .int .i64 n8] 24)); have hW3 := Go.Lib.hid (hWE3.out.trans (hb3.mono hWE3.out.size)); have R3_b := Go.Lib.hid ((R2_b.out.below (below1 w2 (.cells #[(.slice b2 len cp2), .int .i64 n8] 24)) (Nat.le_refl _)).below hb3 (Nat.le_refl _)); have R3_x := Go.Lib.hid ((R2_x.out.below (below1 w2 (.cells #[(.slice b2 len cp2), .int .i64 n8] 24)) (Nat.le_refl _)).below hb3 (Nat.le_refl _)); have R3_y := Go.Lib.hid hr3; clear hr3; have BE3_b := Go.Lib.hid (B2_b.out.alloc (.cells #[(.slice b2 len cp2), .int .i64 n8] 24)); have B3_b := Go.Lib.hid (BE3_b.out.below hb3 BE3_b.out.lt); obtain ⟨k3b0, k3b1, k3b2, k3b3⟩ := B3_b.out.cells; have BE3_x := Go.Lib.hid (box1 w2 (.slice b2 len cp2) n8); have B3_x := Go.Lib.hid (BE3_x.out.below hb3 BE3_x.out.lt); obtain ⟨k3x0, k3x1, k3x2, k3x3⟩ := B3_x.out.cells; have l3b := B3_b.out.lt; have n3b : W.heap.size ≠ w3.heap.size := (by omega); have l3x := B3_x.out.lt; have n3x : w2.heap.size ≠ w3.heap.size := (by omega); clear hb3)
      | (go_at_call 11; ((with_reducible refine (hcut.out _ _ _ ?hrow).mono ?_)); (case hrow => exact (R3_x.out.below (below1 w3 (.cells #[(.slice b3 len cp3), .int .i64 n8] 24)) (Nat.le_refl _))); rintro e w4 ⟨b4, cp4, rfl, hr4, hb4⟩; have hWE4 := Go.Lib.hid (hW3.out.alloc hW3.out.size (.cells #[(.slice b3 len cp3), .int .i64 n8] 24)); have hW4 := Go.Lib.hid (hWE4.out.trans (hb4.mono hWE4.out.size)); have R4_b := Go.Lib.hid ((R3_b.out.below (below1 w3 (.cells #[(.slice b3 len cp3), .int .i64 n8] 24)) (Nat.le_refl _)).below hb4 (Nat.le_refl _)); have R4_x := Go.Lib.hid ((R3_x.out.below (below1 w3 (.cells #[(.slice b3 len cp3), .int .i64 n8] 24)) (Nat.le_refl _)).below hb4 (Nat.le_refl _)); have R4_y := Go.Lib.hid ((R3_y.out.below (below1 w3 (.cells #[(.slice b3 len cp3), .int .i64 n8] 24)) (Nat.le_refl _)).below hb4 (Nat.le_refl _)); have R4_k := Go.Lib.hid hr4; clear hr4; have BE4_b := Go.Lib.hid (B3_b.out.alloc (.cells #[(.slice b3 len cp3), .int .i64 n8] 24)); have B4_b := Go.Lib.hid (BE4_b.out.below hb4 BE4_b.out.lt); obtain ⟨k4b0, k4b1, k4b2, k4b3⟩ := B4_b.out.cells; have BE4_x := Go.Lib.hid (B3_x.out.alloc (.cells #[(.slice b3 len cp3), .int .i64 n8] 24)); have B4_x := Go.Lib.hid (BE4_x.out.below hb4 BE4_x.out.lt); obtain ⟨k4x0, k4x1, k4x2, k4x3⟩ := B4_x.out.cells; have BE4_y := Go.Lib.hid (box1 w3 (.slice b3 len cp3) n8); have B4_y := Go.Lib.hid (BE4_y.out.below hb4 BE4_y.out.lt); obtain ⟨k4y0, k4y1, k4y2, k4y3⟩ := B4_y.out.cells; have l4b := B4_b.out.lt; have n4b : W.heap.size ≠ w4.heap.size := (by omega); have l4x := B4_x.out.lt; have n4x : w2.heap.size ≠ w4.heap.size := (by omega); have l4y := B4_y.out.lt; have n4y : w3.heap.size ≠ w4.heap.size := (by omega); clear hb4)
      | (go_at_call 17; ((with_reducible refine (hs1.out _ _ _ _ _ ?h1 ?h2).mono ?_)); (case h1 => exact (R4_x.out.below (below1 w4 (.cells #[(.slice b4 len cp4), .int .i64 nb] 24)) (Nat.le_refl _))); (case h2 => exact (R4_y.out.below (below1 w4 (.cells #[(.slice b4 len cp4), .int .i64 nb] 24)) (Nat.le_refl _))); rintro e w5 ⟨rfl, hb5⟩; have hWE5 := Go.Lib.hid (hW4.out.alloc hW4.out.size (.cells #[(.slice b4 len cp4), .int .i64 nb] 24)); have hW5 := Go.Lib.hid (hWE5.out.trans (hb5.mono hWE5.out.size)); have R5_b := Go.Lib.hid ((R4_b.out.below (below1 w4 (.cells #[(.slice b4 len cp4), .int .i64 nb] 24)) (Nat.le_refl _)).below hb5 (Nat.le_refl _)); have R5_x := Go.Lib.hid ((R4_x.out.below (below1 w4 (.cells #[(.slice b4 len cp4), .int .i64 nb] 24)) (Nat.le_refl _)).below hb5 (Nat.le_refl _)); have R5_y := Go.Lib.hid ((R4_y.out.below (below1 w4 (.cells #[(.slice b4 len cp4), .int .i64 nb] 24)) (Nat.le_refl _)).below hb5 (Nat.le_refl _)); have R5_k := Go.Lib.hid ((R4_k.out.below (below1 w4 (.cells #[(.slice b4 len cp4), .int .i64 nb] 24)) (Nat.le_refl _)).below hb5 (Nat.le_refl _)); have BE5_b := Go.Lib.hid (B4_b.out.alloc (.cells #[(.slice b4 len cp4), .int .i64 nb] 24)); have B5_b := Go.Lib.hid (BE5_b.out.below hb5 BE5_b.out.lt); obtain ⟨k5b0, k5b1, k5b2, k5b3⟩ := B5_b.out.cells; have BE5_x := Go.Lib.hid (B4_x.out.alloc (.cells #[(.slice b4 len cp4), .int .i64 nb] 24)); have B5_x := Go.Lib.hid (BE5_x.out.below hb5 BE5_x.out.lt); obtain ⟨k5x0, k5x1, k5x2, k5x3⟩ := B5_x.out.cells; have BE5_y := Go.Lib.hid (B4_y.out.alloc (.cells #[(.slice b4 len cp4), .int .i64 nb] 24)); have B5_y := Go.Lib.hid (BE5_y.out.below hb5 BE5_y.out.lt); obtain ⟨k5y0, k5y1, k5y2, k5y3⟩ := B5_y.out.cells; have BE5_k := Go.Lib.hid (box1 w4 (.slice b4 len cp4) nb); have B5_k := Go.Lib.hid (BE5_k.out.below hb5 BE5_k.out.lt); obtain ⟨k5k0, k5k1, k5k2, k5k3⟩ := B5_k.out.cells; clear hb5)
      | (go_at_call 17; ((with_reducible refine (hs2.out _ _ _ ?h1 ?h2).mono ?_)); (case h1 => exact R5_k.out); (case h2 => exact R5_b.out); rintro e w6 ⟨rfl, hb6⟩; have hWE6 := Go.Lib.hid hW5.out; have hW6 := Go.Lib.hid (hWE6.out.trans (hb6.mono hWE6.out.size)); have R6_b := Go.Lib.hid (R5_b.out.below hb6 (Nat.le_refl _)); have R6_x := Go.Lib.hid (R5_x.out.below hb6 (Nat.le_refl _)); have R6_y := Go.Lib.hid (R5_y.out.below hb6 (Nat.le_refl _)); have R6_k := Go.Lib.hid (R5_k.out.below hb6 (Nat.le_refl _)); have BE6_b := Go.Lib.hid B5_b.out; have B6_b := Go.Lib.hid (BE6_b.out.below hb6 BE6_b.out.lt); obtain ⟨k6b0, k6b1, k6b2, k6b3⟩ := B6_b.out.cells; have BE6_x := Go.Lib.hid B5_x.out; have B6_x := Go.Lib.hid (BE6_x.out.below hb6 BE6_x.out.lt); obtain ⟨k6x0, k6x1, k6x2, k6x3⟩ := B6_x.out.cells; have BE6_y := Go.Lib.hid B5_y.out; have B6_y := Go.Lib.hid (BE6_y.out.below hb6 BE6_y.out.lt); obtain ⟨k6y0, k6y1, k6y2, k6y3⟩ := B6_y.out.cells; have BE6_k := Go.Lib.hid B5_k.out; have B6_k := Go.Lib.hid (BE6_k.out.below hb6 BE6_k.out.lt); obtain ⟨k6k0, k6k1, k6k2, k6k3⟩ := B6_k.out.cells; clear hb6)
      | (go_at_call 22; ((with_reducible refine (hgb.out _ R6_b.out).mono ?_)); rintro e w7 ⟨rfl, hb7⟩; have hWE7 := Go.Lib.hid hW6.out; have hW7 := Go.Lib.hid (hWE7.out.trans (hb7.mono hWE7.out.size)); have R7_b := Go.Lib.hid (R6_b.out.below hb7 (Nat.le_refl _)); have R7_x := Go.Lib.hid (R6_x.out.below hb7 (Nat.le_refl _)); have R7_y := Go.Lib.hid (R6_y.out.below hb7 (Nat.le_refl _)); have R7_k := Go.Lib.hid (R6_k.out.below hb7 (Nat.le_refl _)); have BE7_b := Go.Lib.hid B6_b.out; have B7_b := Go.Lib.hid (BE7_b.out.below hb7 BE7_b.out.lt); obtain ⟨k7b0, k7b1, k7b2, k7b3⟩ := B7_b.out.cells; have BE7_x := Go.Lib.hid B6_x.out; have B7_x := Go.Lib.hid (BE7_x.out.below hb7 BE7_x.out.lt); obtain ⟨k7x0, k7x1, k7x2, k7x3⟩ := B7_x.out.cells; have BE7_y := Go.Lib.hid B6_y.out; have B7_y := Go.Lib.hid (BE7_y.out.below hb7 BE7_y.out.lt); obtain ⟨k7y0, k7y1, k7y2, k7y3⟩ := B7_y.out.cells; have BE7_k := Go.Lib.hid B6_k.out; have B7_k := Go.Lib.hid (BE7_k.out.below hb7 BE7_k.out.lt); obtain ⟨k7k0, k7k1, k7k2, k7k3⟩ := B7_k.out.cells; have hcl := hcell.out _ R7_b.out; clear hb7)
      | (go_at_call 19; refine (alive_ok _).mono ?_; rintro e w8 ⟨rfl, hb8⟩; have hWE8 := Go.Lib.hid hW7.out; have hW8 := Go.Lib.hid (hWE8.out.trans (hb8.mono hWE8.out.size)); clear hb8))
    go_ret
    exact ⟨rfl, hW8.out⟩
  · have key : at_ < 0 ∨ (¬ at_ < 0 ∧ (nb : Int) ≤ at_) := by omega
    clear hin hcellB hbitB
    rcases key with h | ⟨h, h2⟩
    all_goals
      go_enter Try.func7, Try.ntmps7
      go_wp2_with (first
        | (go_at_call 18; ((with_reducible refine (hck.out _ RE0_b.out).mono ?_)); rintro e w1 ⟨rfl, hb1⟩; have hWE1 := Go.Lib.hid hWE0.out; have hW1 := Go.Lib.hid (hWE1.out.trans (hb1.mono hWE1.out.size)); have R1_b := Go.Lib.hid (RE0_b.out.below hb1 (Nat.le_refl _)); have BE1_b := Go.Lib.hid BE0_b.out; have B1_b := Go.Lib.hid (BE1_b.out.below hb1 BE1_b.out.lt); obtain ⟨k1b0, k1b1, k1b2, k1b3⟩ := B1_b.out.cells; clear hb1)
        | (go_at_call 15; ((with_reducible refine (hal.out _ R1_b.out).mono ?_)); rintro e w2 ⟨b2, cp2, rfl, hr2, hb2⟩; have hWE2 := Go.Lib.hid hW1.out; have hW2 := Go.Lib.hid (hWE2.out.trans (hb2.mono hWE2.out.size)); have R2_b := Go.Lib.hid (R1_b.out.below hb2 (Nat.le_refl _)); have R2_x := Go.Lib.hid hr2; clear hr2; have BE2_b := Go.Lib.hid B1_b.out; have B2_b := Go.Lib.hid (BE2_b.out.below hb2 BE2_b.out.lt); obtain ⟨k2b0, k2b1, k2b2, k2b3⟩ := B2_b.out.cells; have l2b := B2_b.out.lt; have n2b : W.heap.size ≠ w2.heap.size := (by omega); clear hb2)
        | (go_at_call 13; ((with_reducible refine (hof.out _ ?hrow).mono ?_)); (case hrow => exact (R2_b.out.below (below1 w2 (.cells #[(.slice b2 len cp2), .int .i64 n8] 24)) (Nat.le_refl _))); rintro e w3 ⟨b3, cp3, rfl, hr3, hb3⟩; have hWE3 := Go.Lib.hid (hW2.out.alloc hW2.out.size (.cells #[(.slice b2 len cp2), .int .i64 n8] 24)); have hW3 := Go.Lib.hid (hWE3.out.trans (hb3.mono hWE3.out.size)); have R3_b := Go.Lib.hid ((R2_b.out.below (below1 w2 (.cells #[(.slice b2 len cp2), .int .i64 n8] 24)) (Nat.le_refl _)).below hb3 (Nat.le_refl _)); have R3_x := Go.Lib.hid ((R2_x.out.below (below1 w2 (.cells #[(.slice b2 len cp2), .int .i64 n8] 24)) (Nat.le_refl _)).below hb3 (Nat.le_refl _)); have R3_y := Go.Lib.hid hr3; clear hr3; have BE3_b := Go.Lib.hid (B2_b.out.alloc (.cells #[(.slice b2 len cp2), .int .i64 n8] 24)); have B3_b := Go.Lib.hid (BE3_b.out.below hb3 BE3_b.out.lt); obtain ⟨k3b0, k3b1, k3b2, k3b3⟩ := B3_b.out.cells; have BE3_x := Go.Lib.hid (box1 w2 (.slice b2 len cp2) n8); have B3_x := Go.Lib.hid (BE3_x.out.below hb3 BE3_x.out.lt); obtain ⟨k3x0, k3x1, k3x2, k3x3⟩ := B3_x.out.cells; have l3b := B3_b.out.lt; have n3b : W.heap.size ≠ w3.heap.size := (by omega); have l3x := B3_x.out.lt; have n3x : w2.heap.size ≠ w3.heap.size := (by omega); clear hb3)
        | (go_at_call 11; ((with_reducible refine (hcut.out _ _ _ ?hrow).mono ?_)); (case hrow => exact (R3_x.out.below (below1 w3 (.cells #[(.slice b3 len cp3), .int .i64 n8] 24)) (Nat.le_refl _))); rintro e w4 ⟨b4, cp4, rfl, hr4, hb4⟩; have hWE4 := Go.Lib.hid (hW3.out.alloc hW3.out.size (.cells #[(.slice b3 len cp3), .int .i64 n8] 24)); have hW4 := Go.Lib.hid (hWE4.out.trans (hb4.mono hWE4.out.size)); have R4_b := Go.Lib.hid ((R3_b.out.below (below1 w3 (.cells #[(.slice b3 len cp3), .int .i64 n8] 24)) (Nat.le_refl _)).below hb4 (Nat.le_refl _)); have R4_x := Go.Lib.hid ((R3_x.out.below (below1 w3 (.cells #[(.slice b3 len cp3), .int .i64 n8] 24)) (Nat.le_refl _)).below hb4 (Nat.le_refl _)); have R4_y := Go.Lib.hid ((R3_y.out.below (below1 w3 (.cells #[(.slice b3 len cp3), .int .i64 n8] 24)) (Nat.le_refl _)).below hb4 (Nat.le_refl _)); have R4_k := Go.Lib.hid hr4; clear hr4; have BE4_b := Go.Lib.hid (B3_b.out.alloc (.cells #[(.slice b3 len cp3), .int .i64 n8] 24)); have B4_b := Go.Lib.hid (BE4_b.out.below hb4 BE4_b.out.lt); obtain ⟨k4b0, k4b1, k4b2, k4b3⟩ := B4_b.out.cells; have BE4_x := Go.Lib.hid (B3_x.out.alloc (.cells #[(.slice b3 len cp3), .int .i64 n8] 24)); have B4_x := Go.Lib.hid (BE4_x.out.below hb4 BE4_x.out.lt); obtain ⟨k4x0, k4x1, k4x2, k4x3⟩ := B4_x.out.cells; have BE4_y := Go.Lib.hid (box1 w3 (.slice b3 len cp3) n8); have B4_y := Go.Lib.hid (BE4_y.out.below hb4 BE4_y.out.lt); obtain ⟨k4y0, k4y1, k4y2, k4y3⟩ := B4_y.out.cells; have l4b := B4_b.out.lt; have n4b : W.heap.size ≠ w4.heap.size := (by omega); have l4x := B4_x.out.lt; have n4x : w2.heap.size ≠ w4.heap.size := (by omega); have l4y := B4_y.out.lt; have n4y : w3.heap.size ≠ w4.heap.size := (by omega); clear hb4)
        | (go_at_call 17; ((with_reducible refine (hs1.out _ _ _ _ _ ?h1 ?h2).mono ?_)); (case h1 => exact (R4_x.out.below (below1 w4 (.cells #[(.slice b4 len cp4), .int .i64 nb] 24)) (Nat.le_refl _))); (case h2 => exact (R4_y.out.below (below1 w4 (.cells #[(.slice b4 len cp4), .int .i64 nb] 24)) (Nat.le_refl _))); rintro e w5 ⟨rfl, hb5⟩; have hWE5 := Go.Lib.hid (hW4.out.alloc hW4.out.size (.cells #[(.slice b4 len cp4), .int .i64 nb] 24)); have hW5 := Go.Lib.hid (hWE5.out.trans (hb5.mono hWE5.out.size)); have R5_b := Go.Lib.hid ((R4_b.out.below (below1 w4 (.cells #[(.slice b4 len cp4), .int .i64 nb] 24)) (Nat.le_refl _)).below hb5 (Nat.le_refl _)); have R5_x := Go.Lib.hid ((R4_x.out.below (below1 w4 (.cells #[(.slice b4 len cp4), .int .i64 nb] 24)) (Nat.le_refl _)).below hb5 (Nat.le_refl _)); have R5_y := Go.Lib.hid ((R4_y.out.below (below1 w4 (.cells #[(.slice b4 len cp4), .int .i64 nb] 24)) (Nat.le_refl _)).below hb5 (Nat.le_refl _)); have R5_k := Go.Lib.hid ((R4_k.out.below (below1 w4 (.cells #[(.slice b4 len cp4), .int .i64 nb] 24)) (Nat.le_refl _)).below hb5 (Nat.le_refl _)); have BE5_b := Go.Lib.hid (B4_b.out.alloc (.cells #[(.slice b4 len cp4), .int .i64 nb] 24)); have B5_b := Go.Lib.hid (BE5_b.out.below hb5 BE5_b.out.lt); obtain ⟨k5b0, k5b1, k5b2, k5b3⟩ := B5_b.out.cells; have BE5_x := Go.Lib.hid (B4_x.out.alloc (.cells #[(.slice b4 len cp4), .int .i64 nb] 24)); have B5_x := Go.Lib.hid (BE5_x.out.below hb5 BE5_x.out.lt); obtain ⟨k5x0, k5x1, k5x2, k5x3⟩ := B5_x.out.cells; have BE5_y := Go.Lib.hid (B4_y.out.alloc (.cells #[(.slice b4 len cp4), .int .i64 nb] 24)); have B5_y := Go.Lib.hid (BE5_y.out.below hb5 BE5_y.out.lt); obtain ⟨k5y0, k5y1, k5y2, k5y3⟩ := B5_y.out.cells; have BE5_k := Go.Lib.hid (box1 w4 (.slice b4 len cp4) nb); have B5_k := Go.Lib.hid (BE5_k.out.below hb5 BE5_k.out.lt); obtain ⟨k5k0, k5k1, k5k2, k5k3⟩ := B5_k.out.cells; clear hb5)
        | (go_at_call 17; ((with_reducible refine (hs2.out _ _ _ ?h1 ?h2).mono ?_)); (case h1 => exact R5_k.out); (case h2 => exact R5_b.out); rintro e w6 ⟨rfl, hb6⟩; have hWE6 := Go.Lib.hid hW5.out; have hW6 := Go.Lib.hid (hWE6.out.trans (hb6.mono hWE6.out.size)); have R6_b := Go.Lib.hid (R5_b.out.below hb6 (Nat.le_refl _)); have R6_x := Go.Lib.hid (R5_x.out.below hb6 (Nat.le_refl _)); have R6_y := Go.Lib.hid (R5_y.out.below hb6 (Nat.le_refl _)); have R6_k := Go.Lib.hid (R5_k.out.below hb6 (Nat.le_refl _)); have BE6_b := Go.Lib.hid B5_b.out; have B6_b := Go.Lib.hid (BE6_b.out.below hb6 BE6_b.out.lt); obtain ⟨k6b0, k6b1, k6b2, k6b3⟩ := B6_b.out.cells; have BE6_x := Go.Lib.hid B5_x.out; have B6_x := Go.Lib.hid (BE6_x.out.below hb6 BE6_x.out.lt); obtain ⟨k6x0, k6x1, k6x2, k6x3⟩ := B6_x.out.cells; have BE6_y := Go.Lib.hid B5_y.out; have B6_y := Go.Lib.hid (BE6_y.out.below hb6 BE6_y.out.lt); obtain ⟨k6y0, k6y1, k6y2, k6y3⟩ := B6_y.out.cells; have BE6_k := Go.Lib.hid B5_k.out; have B6_k := Go.Lib.hid (BE6_k.out.below hb6 BE6_k.out.lt); obtain ⟨k6k0, k6k1, k6k2, k6k3⟩ := B6_k.out.cells; clear hb6)
        | (go_at_call 19; refine (alive_ok _).mono ?_; rintro e w7 ⟨rfl, hb7⟩; have hWE7 := Go.Lib.hid hW6.out; have hW7 := Go.Lib.hid (hWE7.out.trans (hb7.mono hWE7.out.size)); clear hb7))
      go_ret
      exact ⟨rfl, hW7.out⟩

theorem bitsBytes_walk (ax0_0 : Option Addr) (lenx0_0 capx0_0 : Nat) (zx0_0 : List Int) (x0_1 : Int) (x1 : Int) (W : World) (wx0_0 : IsRow .u8 W ax0_0 lenx0_0 capx0_0 zx0_0) (wx0_1 : (Lit.int .i64 x0_1).wf = true) (wx1 : (Lit.int .i64 x1).wf = true) :
    Calls Try.prog 7 #[.agg #[.slice ax0_0 lenx0_0 capx0_0, .int .i64 x0_1], .int .i64 x1] W fun e w' => e = .returned (.bool true) ∧ Below W.heap.size W w' := by
  have hr := Row.of_isRow wx0_0
  by_cases hv : Valid (zx0_0.take lenx0_0) x0_1
  · by_cases h : 1500 < x0_1
    · exact bitsBytes_out W _ _ _ _ _ _ hr wx0_1 (.inr ⟨hv, h⟩)
    · obtain ⟨B, rfl, hB, e⟩ := hv
      rw [e] at hr
      exact bitsBytes_in W _ _ _ B x1 hr (by omega) wx1
  · exact bitsBytes_out W _ _ _ _ _ _ hr wx0_1 (.inl hv)
end Go.Proofs.Ytogkiopdcmeddaa
