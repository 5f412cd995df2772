/- DualSides: the state stays valid, and both sides learn the same. -/
import Derived.Test.YtenkhnlhoeahkaaDuaPairsWZ

namespace Go.Proofs.Ytenkhnlhoeahkaa
open Go.RowKit Cad

set_option maxRecDepth 100000 in
set_option maxHeartbeats 2000000 in
theorem dualSides_out (W : World) (aa : Option Addr) (len cap : Nat) (z : List Int) (N a b c d : Int) (al : Option Addr) (ll cl : Nat) (l : List Int) (hr : Row .u8 W aa len cap z) (hN : (Lit.int .i64 N).wf = true) (hl : Row .u32 W al ll cl l) (hll : ll ≤ 9223372036854775807) (r s : Int) (hk : chk z N r) (hs : chkD a b c d s)
    (ha : (Lit.int .i64 a).wf = true) (hb : (Lit.int .i64 b).wf = true) (hc : (Lit.int .u64 c).wf = true) (hd : (Lit.int .u64 d).wf = true)
    (h : r = 8 ∨ (r = 0 ∧ 500 < N) ∨ (r = 0 ∧ ¬ 500 < N ∧ s = 8) ∨ (r = 0 ∧ ¬ 500 < N ∧ s = 0 ∧ (12 : Int) < ll)) :
    Calls Try.prog 6 #[.agg #[.slice aa len cap, .int .i64 N], .agg #[.int .i64 a, .int .i64 b, .int .u64 c, .int .u64 d], .slice al ll cl] W fun e w' => e = .returned (.bool true) ∧ Below W.heap.size W w' := by
  have hWE0 := Go.Lib.hid ((below1 W (.cells #[.slice aa len cap, .int .i64 N] 24)).alloc (below1 W (.cells #[.slice aa len cap, .int .i64 N] 24)).size (.cells #[.int .i64 a, .int .i64 b, .int .u64 c, .int .u64 d] 30))
  have BE0_f := Go.Lib.hid ((box1 W (.slice aa len cap) N).alloc (.cells #[.int .i64 a, .int .i64 b, .int .u64 c, .int .u64 d] 30))
  have BE0_d := Go.Lib.hid (duat2 W (.cells #[.slice aa len cap, .int .i64 N] 24) a b c d)
  have RE0_f := Go.Lib.hid (hr.below hWE0.out (Nat.le_refl _))
  have RE0_l := Go.Lib.hid (hl.below hWE0.out (Nat.le_refl _))
  obtain ⟨z0, z1, z2, z3⟩ := BE0_f.out.cells
  have hck : Hid (∀ w, Row .u8 w aa len cap z → Calls Try.prog 28 #[.agg #[.slice aa len cap, .int .i64 N]] w fun e W' => e = .returned (.int .i64 r) ∧ Below w.heap.size w W') := Go.Lib.hid fun w h => RCheck_any w aa len cap N z h hN r hk
  have hcd := Go.Lib.hid fun w => RdCheck_any w a b c d ha hb hc hd s hs
  clear hr hN hk hs ha hb hc hd hl
  rcases h with rfl | ⟨rfl, h⟩ | ⟨rfl, h1, rfl⟩ | ⟨rfl, h1, rfl, h2⟩
  · go_enter Try.func6, Try.ntmps6
    go_wp2_with (first
      | (go_at_call 28; ((with_reducible refine (hck.out _ ?h1).mono ?_)); (case h1 => exact RE0_f.out); rintro e w1 ⟨rfl, hb1⟩; have hWE1 := Go.Lib.hid hWE0.out; have hW1 := Go.Lib.hid (hWE1.out.trans (hb1.mono hWE1.out.size)); have R1_f := Go.Lib.hid (RE0_f.out.below hb1 (Nat.le_refl _)); have R1_l := Go.Lib.hid (RE0_l.out.below hb1 (Nat.le_refl _)); have BE1_f := Go.Lib.hid BE0_f.out; have B1_f := Go.Lib.hid (BE1_f.out.below hb1 BE1_f.out.lt); obtain ⟨k1f0, k1f1, k1f2, k1f3⟩ := B1_f.out.cells; have BE1_d := Go.Lib.hid BE0_d.out; have B1_d := Go.Lib.hid (BE1_d.out.below hb1 BE1_d.out.lt); obtain ⟨k1d0, k1d1, k1d2, k1d3, k1d4, k1d5, k1d6, k1d7⟩ := B1_d.out.cells; clear hb1)
      | (go_at_call 17; refine (alive8_ok _).mono ?_; rintro e w2 ⟨rfl, hb2⟩; have hWE2 := Go.Lib.hid hW1.out; have hW2 := Go.Lib.hid (hWE2.out.trans (hb2.mono hWE2.out.size)); clear hb2))
    go_ret
    exact ⟨rfl, hW2.out⟩
  · go_enter Try.func6, Try.ntmps6
    go_wp2_with (first
      | (go_at_call 28; ((with_reducible refine (hck.out _ ?h1).mono ?_)); (case h1 => exact RE0_f.out); rintro e w1 ⟨rfl, hb1⟩; have hWE1 := Go.Lib.hid hWE0.out; have hW1 := Go.Lib.hid (hWE1.out.trans (hb1.mono hWE1.out.size)); have R1_f := Go.Lib.hid (RE0_f.out.below hb1 (Nat.le_refl _)); have R1_l := Go.Lib.hid (RE0_l.out.below hb1 (Nat.le_refl _)); have BE1_f := Go.Lib.hid BE0_f.out; have B1_f := Go.Lib.hid (BE1_f.out.below hb1 BE1_f.out.lt); obtain ⟨k1f0, k1f1, k1f2, k1f3⟩ := B1_f.out.cells; have BE1_d := Go.Lib.hid BE0_d.out; have B1_d := Go.Lib.hid (BE1_d.out.below hb1 BE1_d.out.lt); obtain ⟨k1d0, k1d1, k1d2, k1d3, k1d4, k1d5, k1d6, k1d7⟩ := B1_d.out.cells; clear hb1)
      | (go_at_call 17; refine (alive8_ok _).mono ?_; rintro e w2 ⟨rfl, hb2⟩; have hWE2 := Go.Lib.hid hW1.out; have hW2 := Go.Lib.hid (hWE2.out.trans (hb2.mono hWE2.out.size)); clear hb2))
    go_ret
    exact ⟨rfl, hW2.out⟩
  · have d1 : decide ((500 : Int) < N) = false := decide_eq_false h1
    go_enter Try.func6, Try.ntmps6
    go_wp2_with (first
      | (go_at_call 28; ((with_reducible refine (hck.out _ ?h1).mono ?_)); (case h1 => exact RE0_f.out); rintro e w1 ⟨rfl, hb1⟩; have hWE1 := Go.Lib.hid hWE0.out; have hW1 := Go.Lib.hid (hWE1.out.trans (hb1.mono hWE1.out.size)); have R1_f := Go.Lib.hid (RE0_f.out.below hb1 (Nat.le_refl _)); have R1_l := Go.Lib.hid (RE0_l.out.below hb1 (Nat.le_refl _)); have BE1_f := Go.Lib.hid BE0_f.out; have B1_f := Go.Lib.hid (BE1_f.out.below hb1 BE1_f.out.lt); obtain ⟨k1f0, k1f1, k1f2, k1f3⟩ := B1_f.out.cells; have BE1_d := Go.Lib.hid BE0_d.out; have B1_d := Go.Lib.hid (BE1_d.out.below hb1 BE1_d.out.lt); obtain ⟨k1d0, k1d1, k1d2, k1d3, k1d4, k1d5, k1d6, k1d7⟩ := B1_d.out.cells; clear hb1)
      | (go_at_call 25; ((with_reducible refine (hcd.out _).mono ?_)); rintro e w2 ⟨rfl, hb2⟩; have hWE2 := Go.Lib.hid hW1.out; have hW2 := Go.Lib.hid (hWE2.out.trans (hb2.mono hWE2.out.size)); have R2_f := Go.Lib.hid (R1_f.out.below hb2 (Nat.le_refl _)); have R2_l := Go.Lib.hid (R1_l.out.below hb2 (Nat.le_refl _)); have BE2_f := Go.Lib.hid B1_f.out; have B2_f := Go.Lib.hid (BE2_f.out.below hb2 BE2_f.out.lt); obtain ⟨k2f0, k2f1, k2f2, k2f3⟩ := B2_f.out.cells; have BE2_d := Go.Lib.hid B1_d.out; have B2_d := Go.Lib.hid (BE2_d.out.below hb2 BE2_d.out.lt); obtain ⟨k2d0, k2d1, k2d2, k2d3, k2d4, k2d5, k2d6, k2d7⟩ := B2_d.out.cells; clear hb2)
      | (go_at_call 17; refine (alive8_ok _).mono ?_; rintro e w3 ⟨rfl, hb3⟩; have hWE3 := Go.Lib.hid hW2.out; have hW3 := Go.Lib.hid (hWE3.out.trans (hb3.mono hWE3.out.size)); clear hb3))
    go_ret
    exact ⟨rfl, hW3.out⟩
  · have d1 : decide ((500 : Int) < N) = false := decide_eq_false h1
    go_enter Try.func6, Try.ntmps6
    go_wp2_with (first
      | (go_at_call 28; ((with_reducible refine (hck.out _ ?h1).mono ?_)); (case h1 => exact RE0_f.out); rintro e w1 ⟨rfl, hb1⟩; have hWE1 := Go.Lib.hid hWE0.out; have hW1 := Go.Lib.hid (hWE1.out.trans (hb1.mono hWE1.out.size)); have R1_f := Go.Lib.hid (RE0_f.out.below hb1 (Nat.le_refl _)); have R1_l := Go.Lib.hid (RE0_l.out.below hb1 (Nat.le_refl _)); have BE1_f := Go.Lib.hid BE0_f.out; have B1_f := Go.Lib.hid (BE1_f.out.below hb1 BE1_f.out.lt); obtain ⟨k1f0, k1f1, k1f2, k1f3⟩ := B1_f.out.cells; have BE1_d := Go.Lib.hid BE0_d.out; have B1_d := Go.Lib.hid (BE1_d.out.below hb1 BE1_d.out.lt); obtain ⟨k1d0, k1d1, k1d2, k1d3, k1d4, k1d5, k1d6, k1d7⟩ := B1_d.out.cells; clear hb1)
      | (go_at_call 25; ((with_reducible refine (hcd.out _).mono ?_)); rintro e w2 ⟨rfl, hb2⟩; have hWE2 := Go.Lib.hid hW1.out; have hW2 := Go.Lib.hid (hWE2.out.trans (hb2.mono hWE2.out.size)); have R2_f := Go.Lib.hid (R1_f.out.below hb2 (Nat.le_refl _)); have R2_l := Go.Lib.hid (R1_l.out.below hb2 (Nat.le_refl _)); have BE2_f := Go.Lib.hid B1_f.out; have B2_f := Go.Lib.hid (BE2_f.out.below hb2 BE2_f.out.lt); obtain ⟨k2f0, k2f1, k2f2, k2f3⟩ := B2_f.out.cells; have BE2_d := Go.Lib.hid B1_d.out; have B2_d := Go.Lib.hid (BE2_d.out.below hb2 BE2_d.out.lt); obtain ⟨k2d0, k2d1, k2d2, k2d3, k2d4, k2d5, k2d6, k2d7⟩ := B2_d.out.cells; clear hb2)
      | (go_at_call 17; refine (alive8_ok _).mono ?_; rintro e w3 ⟨rfl, hb3⟩; have hWE3 := Go.Lib.hid hW2.out; have hW3 := Go.Lib.hid (hWE3.out.trans (hb3.mono hWE3.out.size)); clear hb3))
    go_ret
    exact ⟨rfl, hW3.out⟩

set_option maxRecDepth 100000 in
set_option maxHeartbeats 40000000 in
theorem dualSides_in (W : World) (aa : Option Addr) (len cap : Nat) (F : List Bool) (D : Du) (al : Option Addr) (ll cl : Nat) (l : List Int) (m : List Nat) (hr : Row .u8 W aa len cap (pack F)) (hF : F.length ≤ 500) (hd : D.ok) (hl : Row .u32 W al ll cl l) (h12 : ll ≤ 12)
    (hm : m.length = ll) (hml : ∀ k, k < ll → l.getD k 0 = ((m.getD k 0 : Nat) : Int)) (hm32 : ∀ x ∈ m, x < 4294967296) :
    Calls Try.prog 6 #[.agg #[.slice aa len cap, .int .i64 F.length], .agg #[.int .i64 D.k0, .int .i64 D.k1, .int .u64 D.s0, .int .u64 D.s1], .slice al ll cl] W fun e w' => e = .returned (.bool true) ∧ Below W.heap.size W w' := by
  have hWE0 := Go.Lib.hid ((below1 W (.cells #[.slice aa len cap, .int .i64 F.length] 24)).alloc (below1 W (.cells #[.slice aa len cap, .int .i64 F.length] 24)).size (.cells #[.int .i64 D.k0, .int .i64 D.k1, .int .u64 D.s0, .int .u64 D.s1] 30))
  have BE0_f := Go.Lib.hid ((box1 W (.slice aa len cap) F.length).alloc (.cells #[.int .i64 D.k0, .int .i64 D.k1, .int .u64 D.s0, .int .u64 D.s1] 30))
  have BE0_d := Go.Lib.hid (duat2 W (.cells #[.slice aa len cap, .int .i64 F.length] 24) (D.k0 : Int) (D.k1 : Int) (D.s0 : Int) (D.s1 : Int))
  have RE0_f := Go.Lib.hid (hr.below hWE0.out (Nat.le_refl _))
  have RE0_l := Go.Lib.hid (hl.below hWE0.out (Nat.le_refl _))
  obtain ⟨z0, z1, z2, z3⟩ := BE0_f.out.cells
  obtain ⟨N, hN⟩ : ∃ N, N = F.length := ⟨_, rfl⟩
  have hlen : len = (N + 7) / 8 := by have := hr.hlen; rw [pack_len] at this; omega
  have hck : Hid (∀ w, Row .u8 w aa len cap (pack F) → Calls Try.prog 28 #[.agg #[.slice aa len cap, .int .i64 N]] w fun e W' => e = .returned (.int .i64 0) ∧ Below w.heap.size w W') := Go.Lib.hid fun w h => by
    rw [hN]
    exact RCheck_any w aa len cap F.length (pack F) h (bounds_of_len (by omega)) 0 (.inl ⟨⟨F, rfl, by omega, rfl⟩, rfl⟩)
  have hcd := Go.Lib.hid fun w => RdCheck_any w D.k0 D.k1 D.s0 D.s1 (du_wf hd).1 (du_wf hd).2.1 (du_wf hd).2.2.1 (du_wf hd).2.2.2 0 (.inl ⟨du_ok hd, rfl⟩)
  have hsize : Hid (∀ k, k ≤ ll → (F ++ codesD D (m.take k)).length ≤ 500 + 81 * 12) := Go.Lib.hid fun k hk => by
    have := codesD_len_le (m.take k) hd (fun x hx => hm32 x (List.mem_of_mem_take hx))
    rw [List.length_take] at this
    rw [List.length_append]
    have : min k m.length ≤ 12 := by omega
    omega
  have hev : Hid (∀ k, (after D (m.take k)).ok) := Go.Lib.hid fun k => after_ok _ hd fun x hx => hm32 x (List.mem_of_mem_take hx)
  have h32 : Hid (∀ k, k < ll → m.getD k 0 < 4294967296) := Go.Lib.hid fun k hk => hm32 _ (by rw [show m.getD k 0 = m[k] by simp [List.getD, show k < m.length by omega]]; exact List.getElem_mem _)
  have hm' := Go.Lib.hid hm
  have hml' := Go.Lib.hid hml
  have hN' := Go.Lib.hid hN
  have hlen' := Go.Lib.hid hlen
  have hd' := Go.Lib.hid hd
  have d1 : decide ((500 : Int) < N) = false := decide_eq_false (by omega)
  have d2 : decide ((12 : Int) < ll) = false := decide_eq_false (by omega)
  have hN5 : (N : Int) ≤ 500 := by omega
  have hl12 : (ll : Int) ≤ 12 := by omega
  rw [← hN] at hWE0 BE0_f BE0_d RE0_f RE0_l z0 z1 z2 z3 ⊢
  clear hr hl hm hml hm32 hN hlen hF hd
  go_enter Try.func6, Try.ntmps6
  go_wp2_with (first
    | (go_at_call 28; ((with_reducible refine (hck.out _ ?h1).mono ?_)); (case h1 => exact RE0_f.out); rintro e w1 ⟨rfl, hb1⟩; have hWE1 := Go.Lib.hid hWE0.out; have hW1 := Go.Lib.hid (hWE1.out.trans (hb1.mono hWE1.out.size)); have R1_f := Go.Lib.hid (RE0_f.out.below hb1 (Nat.le_refl _)); have R1_l := Go.Lib.hid (RE0_l.out.below hb1 (Nat.le_refl _)); have BE1_f := Go.Lib.hid BE0_f.out; have B1_f := Go.Lib.hid (BE1_f.out.below hb1 BE1_f.out.lt); obtain ⟨k1f0, k1f1, k1f2, k1f3⟩ := B1_f.out.cells; have BE1_d := Go.Lib.hid BE0_d.out; have B1_d := Go.Lib.hid (BE1_d.out.below hb1 BE1_d.out.lt); obtain ⟨k1d0, k1d1, k1d2, k1d3, k1d4, k1d5, k1d6, k1d7⟩ := B1_d.out.cells; clear hb1)
    | (go_at_call 25; ((with_reducible refine (hcd.out _).mono ?_)); rintro e w2 ⟨rfl, hb2⟩; have hWE2 := Go.Lib.hid hW1.out; have hW2 := Go.Lib.hid (hWE2.out.trans (hb2.mono hWE2.out.size)); have R2_f := Go.Lib.hid (R1_f.out.below hb2 (Nat.le_refl _)); have R2_l := Go.Lib.hid (R1_l.out.below hb2 (Nat.le_refl _)); have BE2_f := Go.Lib.hid B1_f.out; have B2_f := Go.Lib.hid (BE2_f.out.below hb2 BE2_f.out.lt); obtain ⟨k2f0, k2f1, k2f2, k2f3⟩ := B2_f.out.cells; have BE2_d := Go.Lib.hid B1_d.out; have B2_d := Go.Lib.hid (BE2_d.out.below hb2 BE2_d.out.lt); obtain ⟨k2d0, k2d1, k2d2, k2d3, k2d4, k2d5, k2d6, k2d7⟩ := B2_d.out.cells; clear hb2))
  clear hWE0 BE0_f BE0_d RE0_f RE0_l hWE1 hW1 BE1_f B1_f BE1_d B1_d R1_f R1_l hWE2 BE2_f BE2_d k1f0 k1f1 k1f2 k1f3 k1d0 k1d1 k1d2 k1d3 k1d4 k1d5 k1d6 k1d7 k2f0 k2f1 k2f2 k2f3 k2d0 k2d1 k2d2 k2d3 k2d4 k2d5 k2d6 k2d7
  go_cut [7, 8] (fun s7 s8 wx => ∃ xb xn : Nat, s7 = .pointer (some ⟨xb, 0, none⟩) ∧ s8 = .pointer (some ⟨xn, 0, none⟩) ∧ W.heap.size + 1 < xb ∧ W.heap.size + 1 < xn ∧ xb ≠ xn ∧ SidesAt W aa len cap N D al ll cl l xb xn wx aa len cap N F D)
  case first =>
    have hlt2 := B2_d.out.lt
    have hlf2 := B2_f.out.lt
    refine wp_region_ord2 (fun w' => Below w2.heap.size w2 w') 2 3 [(0, 2), (1, 2), (2, 3), (3, 3), (4, 3), (5, 4)] [(0, 2), (1, 2), (3, 3), (2, 3), (4, 3), (5, 4)] (by kernel_rfl) (by decide) (by kernel_rfl) (by kernel_rfl) ?hC0 ?_ ?_
    case hC0 => exact (Below.refl _ _).drew
    · simp only [pick, nth]
      refine wpW_name ?_
      intro q0 hq0
      have hB0 : Below w2.heap.size w2 q0 := by rw [hq0]; exact (Below.refl _ _).drew
      clear hq0
      (repeat (first | (apply wpW_light; (case h => (intro wa; (first | (go_big_quiet_skip; exact wpQuiet_nil rfl) | (go_big_quiet_want; go_big_quiet_op; go_big_quiet_on; exact wpQuiet_nil rfl))))) | (apply wpW_here; (case h => (first | (go_big_quiet_skip; exact wpQuiet_nil rfl) | (go_big_quiet_want; go_big_quiet_op; go_big_quiet_on; exact wpQuiet_nil rfl)))) | (apply wpW_held; (case hC => assumption); (case h => (intro wa hCa; (obtain ⟨u0, u1, u2, u3⟩ := (B2_f.out.below hCa hlf2).cells; obtain ⟨v0, v1, v2, v3, v4, v5, v6, v7⟩ := (B2_d.out.below hCa hlt2).cells; clear hCa); (first | (go_big_quiet_skip; exact wpQuiet_nil rfl) | (go_big_quiet_want; go_big_quiet_op; go_big_quiet_on; exact wpQuiet_nil rfl)))))))
      refine wpW_act (fun QQ hQQ => ?_) (by rfl)
      go_wp2
      (refine hQQ _ _ ?hCn ?_; (case hCn => exact hB0.alloc hB0.size _); clear hQQ QQ)
      refine wpW_name ?_
      intro q1 hq
      have hB1 : Below w2.heap.size w2 q1 := by rw [hq]; exact hB0.alloc hB0.size _
      have hs : Below q0.heap.size q0 q1 := by rw [hq]; exact below1 q0 _
      have gb : w2.heap.size ≤ q0.heap.size := hB0.size
      have n1b : BoxAt q1 q0.heap.size (.slice none 0 0) 0 := by rw [hq]; exact box1 q0 _ _
      clear hq hs
      refine wpW_act (fun QQ hQQ => ?_) (by rfl)
      go_wp2
      (refine hQQ _ _ ?hCn ?_; (case hCn => exact hB1.alloc hB1.size _); clear hQQ QQ)
      refine wpW_name ?_
      intro q2 hq
      have hB2 : Below w2.heap.size w2 q2 := by rw [hq]; exact hB1.alloc hB1.size _
      have hs : Below q1.heap.size q1 q2 := by rw [hq]; exact below1 q1 _
      have n2b := n1b.below hs n1b.lt
      have ebn : q0.heap.size ≠ q1.heap.size := Nat.ne_of_lt n1b.lt
      have gn : w2.heap.size ≤ q1.heap.size := hB1.size
      have n2n : DuAt q2 q1.heap.size 0 0 0 0 := by rw [hq]; exact duat1 q1 _ _ _ _
      clear hq hs
      obtain ⟨c0, c1, c2, c3⟩ := n2b.cells
      refine wpW_act (fun QQ hQQ => ?_) (by rfl)
      go_wp2
      (refine hQQ _ _ ?hCn ?_; (case hCn => exact (hB2.setCell gb _).setCell gb _); clear hQQ QQ)
      refine wpW_name ?_
      intro q3 hq
      have hB3 : Below w2.heap.size w2 q3 := by rw [hq]; exact (hB2.setCell gb _).setCell gb _
      have n3b : BoxAt q3 q0.heap.size (.slice aa len cap) N := by rw [hq]; exact n2b.set _ _
      have n3n : DuAt q3 q1.heap.size 0 0 0 0 := by rw [hq]; exact ((n2n.other ebn.symm _).other ebn.symm _)
      clear hq c0 c1 c2 c3
      obtain ⟨c0, c1, c2, c3, c4, c5, c6, c7⟩ := n3n.cells
      refine wpW_last (fun QQ hQQ => ?_) (by rfl)
      go_wp2
      (refine hQQ.out _ _ ?_; clear hQQ QQ)
      refine wpW_name ?_
      intro q4 hq
      have hB4 : Below w2.heap.size w2 q4 := by rw [hq]; exact (((hB3.setCell gn _).setCell gn _).setCell gn _).setCell gn _
      have n4b : BoxAt q4 q0.heap.size (.slice aa len cap) N := by rw [hq]; exact ((((n3b.other ebn _).other ebn _).other ebn _).other ebn _)
      have n4n : DuAt q4 q1.heap.size (D.k0 : Int) (D.k1 : Int) (D.s0 : Int) (D.s1 : Int) := by rw [hq]; exact n3n.set _ _ _ _
      clear hq c0 c1 c2 c3 c4 c5 c6 c7
      refine wpW_nil ?_
      go_wp2_with (fail)
      go_meet
      exact ⟨_, _, rfl, rfl, by have := gb; omega, by have := gn; omega, ebn, ⟨B2_f.out.below hB4 hlf2, B2_d.out.below hB4 hlt2, n4b, n4n, R2_f.out.below hB4 (Nat.le_refl _), R2_l.out.below hB4 (Nat.le_refl _), hW2.out.trans (hB4.mono hW2.out.size)⟩⟩
    · simp only [pick, nth]
      refine wpW_name ?_
      intro q0 hq0
      have hB0 : Below w2.heap.size w2 q0 := by rw [hq0]; exact (Below.refl _ _).drew
      clear hq0
      (repeat (first | (apply wpW_light; (case h => (intro wa; (first | (go_big_quiet_skip; exact wpQuiet_nil rfl) | (go_big_quiet_want; go_big_quiet_op; go_big_quiet_on; exact wpQuiet_nil rfl))))) | (apply wpW_here; (case h => (first | (go_big_quiet_skip; exact wpQuiet_nil rfl) | (go_big_quiet_want; go_big_quiet_op; go_big_quiet_on; exact wpQuiet_nil rfl)))) | (apply wpW_held; (case hC => assumption); (case h => (intro wa hCa; (obtain ⟨u0, u1, u2, u3⟩ := (B2_f.out.below hCa hlf2).cells; obtain ⟨v0, v1, v2, v3, v4, v5, v6, v7⟩ := (B2_d.out.below hCa hlt2).cells; clear hCa); (first | (go_big_quiet_skip; exact wpQuiet_nil rfl) | (go_big_quiet_want; go_big_quiet_op; go_big_quiet_on; exact wpQuiet_nil rfl)))))))
      refine wpW_act (fun QQ hQQ => ?_) (by rfl)
      go_wp2
      (refine hQQ _ _ ?hCn ?_; (case hCn => exact hB0.alloc hB0.size _); clear hQQ QQ)
      refine wpW_name ?_
      intro q1 hq
      have hB1 : Below w2.heap.size w2 q1 := by rw [hq]; exact hB0.alloc hB0.size _
      have hs : Below q0.heap.size q0 q1 := by rw [hq]; exact below1 q0 _
      have gn : w2.heap.size ≤ q0.heap.size := hB0.size
      have n1n : DuAt q1 q0.heap.size 0 0 0 0 := by rw [hq]; exact duat1 q0 _ _ _ _
      clear hq hs
      refine wpW_act (fun QQ hQQ => ?_) (by rfl)
      go_wp2
      (refine hQQ _ _ ?hCn ?_; (case hCn => exact hB1.alloc hB1.size _); clear hQQ QQ)
      refine wpW_name ?_
      intro q2 hq
      have hB2 : Below w2.heap.size w2 q2 := by rw [hq]; exact hB1.alloc hB1.size _
      have hs : Below q1.heap.size q1 q2 := by rw [hq]; exact below1 q1 _
      have n2n := n1n.below hs n1n.lt
      have enb : q0.heap.size ≠ q1.heap.size := Nat.ne_of_lt n1n.lt
      have gb : w2.heap.size ≤ q1.heap.size := hB1.size
      have n2b : BoxAt q2 q1.heap.size (.slice none 0 0) 0 := by rw [hq]; exact box1 q1 _ _
      clear hq hs
      obtain ⟨c0, c1, c2, c3⟩ := n2b.cells
      refine wpW_act (fun QQ hQQ => ?_) (by rfl)
      go_wp2
      (refine hQQ _ _ ?hCn ?_; (case hCn => exact (hB2.setCell gb _).setCell gb _); clear hQQ QQ)
      refine wpW_name ?_
      intro q3 hq
      have hB3 : Below w2.heap.size w2 q3 := by rw [hq]; exact (hB2.setCell gb _).setCell gb _
      have n3n : DuAt q3 q0.heap.size 0 0 0 0 := by rw [hq]; exact ((n2n.other enb _).other enb _)
      have n3b : BoxAt q3 q1.heap.size (.slice aa len cap) N := by rw [hq]; exact n2b.set _ _
      clear hq c0 c1 c2 c3
      obtain ⟨c0, c1, c2, c3, c4, c5, c6, c7⟩ := n3n.cells
      refine wpW_last (fun QQ hQQ => ?_) (by rfl)
      go_wp2
      (refine hQQ.out _ _ ?_; clear hQQ QQ)
      refine wpW_name ?_
      intro q4 hq
      have hB4 : Below w2.heap.size w2 q4 := by rw [hq]; exact (((hB3.setCell gn _).setCell gn _).setCell gn _).setCell gn _
      have n4n : DuAt q4 q0.heap.size (D.k0 : Int) (D.k1 : Int) (D.s0 : Int) (D.s1 : Int) := by rw [hq]; exact n3n.set _ _ _ _
      have n4b : BoxAt q4 q1.heap.size (.slice aa len cap) N := by rw [hq]; exact ((((n3b.other enb.symm _).other enb.symm _).other enb.symm _).other enb.symm _)
      clear hq c0 c1 c2 c3 c4 c5 c6 c7
      refine wpW_nil ?_
      go_wp2_with (fail)
      go_meet
      exact ⟨_, _, rfl, rfl, by have := gb; omega, by have := gn; omega, enb.symm, ⟨B2_f.out.below hB4 hlf2, B2_d.out.below hB4 hlt2, n4b, n4n, R2_f.out.below hB4 (Nat.le_refl _), R2_l.out.below hB4 (Nat.le_refl _), hW2.out.trans (hB4.mono hW2.out.size)⟩⟩
  case rest =>
  obtain ⟨xb, xn, rfl, rfl, hx1, hx2, hne, hS0⟩ := hcut
  have hS0' := Go.Lib.hid hS0
  clear hS0 B2_f B2_d R2_f R2_l hW2 hck hcd
  go_wp2
  go_loopg [9] ll (fun g i wr => ∃ (k : Nat) (au : Option Addr) (Ln cu M : Nat), k ≤ ll ∧ g = ll - k ∧ i = .int .i64 k ∧ M = (F ++ codesD D (m.take k)).length ∧ Ln = (M + 7) / 8 ∧ SidesAt W aa len cap N D al ll cl l xb xn wr au Ln cu M (F ++ codesD D (m.take k)) (after D (m.take k)))
  case atStart =>
    refine ⟨0, aa, len, cap, N, Nat.zero_le _, rfl, rfl, by simp [codesD, hN'.out], hlen'.out, ?_⟩
    have e1 : F ++ codesD D (m.take 0) = F := by simp [codesD]
    have e2 : after D (m.take 0) = D := by simp [after]
    rw [e1, e2]
    exact hS0'.out
  case round =>
  obtain ⟨k, au, Ln, cu, M, hk, hg, rfl, hM, hL, hS⟩ := hrel
  have hMb : M ≤ 1472 := by rw [hM]; exact hsize.out k hk
  have hS' := Go.Lib.hid hS
  have hg' := Go.Lib.hid hg
  by_cases hlt : k < ll
  · have hlt' : (k : Int) < ll := by omega
    have hts := codesD_take_succ m D (show k < m.length by rw [hm'.out]; exact hlt)
    have hta := after_take_succ m D (show k < m.length by rw [hm'.out]; exact hlt)
    have hv32 := h32.out k hlt
    have hmk := hml'.out k hlt
    have hEo := hev.out k
    obtain ⟨v, hv⟩ : ∃ v, v = m.getD k 0 := ⟨_, rfl⟩
    rw [← hv] at hts hta hv32 hmk
    have hs1 := hsize.out (k + 1) (by omega)
    have hE1 := hev.out (k + 1)
    obtain ⟨E, hE⟩ : ∃ E, E = after D (m.take k) := ⟨_, rfl⟩
    obtain ⟨X, hX⟩ : ∃ X, X = F ++ codesD D (m.take k) := ⟨_, rfl⟩
    rw [← hE] at hts hta hEo hS
    rw [← hX] at hM hS
    obtain ⟨E', hE'⟩ : ∃ E', E' = learnD E v := ⟨_, rfl⟩
    obtain ⟨X', hX'⟩ : ∃ X', X' = X ++ dualB E v := ⟨_, rfl⟩
    obtain ⟨T, hT⟩ : ∃ T, T = dualLen E v := ⟨_, rfl⟩
    obtain ⟨M', hM'⟩ : ∃ M', M' = M + T := ⟨_, rfl⟩
    obtain ⟨L', hL'⟩ : ∃ L', L' = (M' + 7) / 8 := ⟨_, rfl⟩
    rw [← hE'] at hta
    have hXX : F ++ codesD D (m.take (k + 1)) = X' := by rw [hts, ← List.append_assoc, ← hX, hX']
    rw [hXX] at hs1
    rw [hta] at hE1
    have lX' : X'.length = M' := by rw [hX', List.length_append, dualB_len, ← hM, hM', hT]
    have hM'b : M' ≤ 1472 := by omega
    have hT1 := dualLen_pos E v
    have hT2 := dualLen_le hEo.1 hEo.2.1 v
    rw [← hT] at hT1 hT2
    have ln : Hid (∀ w, Calls Try.prog 12 #[.agg #[.int .i64 E.k0, .int .i64 E.k1, .int .u64 E.s0, .int .u64 E.s1], .int .u32 v] w fun e W' => e = .returned (.tuple #[.int .i64 T, .int .i64 0]) ∧ Below w.heap.size w W') := Go.Lib.hid fun w => by rw [hT]; exact DLength_ok w E v hEo hv32
    have le : Hid (∀ w, Calls Try.prog 11 #[.agg #[.int .i64 E.k0, .int .i64 E.k1, .int .u64 E.s0, .int .u64 E.s1], .int .u32 v] w fun e W' => e = .returned (.tuple #[.agg #[.int .i64 E'.k0, .int .i64 E'.k1, .int .u64 E'.s0, .int .u64 E'.s1], .int .i64 0]) ∧ Below w.heap.size w W') := Go.Lib.hid fun w => by rw [hE']; exact DLearn_ok w E v hEo hv32
    have wr' : Hid (∀ w, Row .u8 w au Ln cu (pack X) → ResD 13 #[.agg #[.slice au Ln cu, .int .i64 M], .agg #[.int .i64 E.k0, .int .i64 E.k1, .int .u64 E.s0, .int .u64 E.s1], .int .u32 v] w L' (pack X') M' E'.k0 E'.k1 E'.s0 E'.s1 0) := Go.Lib.hid fun w h => by
      have := DWrite_ok w au Ln cu X E v h (by omega) hEo hv32
      rw [← hM, ← hT, ← hM', ← hL', ← hX', ← hE'] at this
      exact this
    have rd : Hid (∀ w b c, Row .u8 w b L' c (pack X') → ResR 14 #[.agg #[.slice b L' c, .int .i64 M'], .int .i64 M, .agg #[.int .i64 E.k0, .int .i64 E.k1, .int .u64 E.s0, .int .u64 E.s1]] w v M' E'.k0 E'.k1 E'.s0 E'.s1 0) := Go.Lib.hid fun w b c h => by
      have e := read_dual X [] hv32 (d := E)
      rw [List.append_nil, ← hX', ← hM, ← hT, ← hM'] at e
      have := DRead_ok w b L' c X' M E h (by omega) (by omega) hEo _ _ e
      rw [lX', ← hE'] at this
      exact this
    have hcd : Hid (∀ w, Calls Try.prog 25 #[.agg #[.int .i64 E'.k0, .int .i64 E'.k1, .int .u64 E'.s0, .int .u64 E'.s1]] w fun e W' => e = .returned (.int .i64 0) ∧ Below w.heap.size w W') := Go.Lib.hid fun w => RdCheck_any w E'.k0 E'.k1 E'.s0 E'.s1 (du_wf hE1).1 (du_wf hE1).2.1 (du_wf hE1).2.2.1 (du_wf hE1).2.2.2 0 (.inl ⟨du_ok hE1, rfl⟩)
    unfold ResD at wr'
    unfold ResR at rd
    have hXX' := Go.Lib.hid hXX
    have hta' := Go.Lib.hid hta
    have lX2 := Go.Lib.hid lX'
    have hL2 := Go.Lib.hid hL'
    have hq := sameD_self E'.k0 E'.k1 E'.s0 E'.s1
    have hMT : (M : Int) + (T : Int) = (M' : Int) := by omega
    have dT1 : decide ((T : Int) < 1) = false := decide_eq_false (by omega)
    have dT2 : decide ((81 : Int) < T) = false := decide_eq_false (by omega)
    clear hts hta hXX lX' hX hX' hE hE' hT hM' hL' hM hL hE1 hs1 hEo hS' hg
    obtain ⟨bl, ol, rfl, hblt, hc⟩ := hS.l.cells (by omega)
    have hcell := hc k hlt
    rw [hmk] at hcell
    have hS1 := Go.Lib.hid hS
    have hnl := hS.n.lt
    have hbl := hS.b.lt
    clear hc hS hv
    go_upto_region 7 with (fail)
    go_cut [10, 11] (fun s10 s11 wx => s10 = .int .i64 T ∧ s11 = .int .i64 0 ∧ SidesAt W aa len cap N D (some ⟨bl, ol, none⟩) ll cl l xb xn wx au Ln cu M X E)
    case first =>
      refine wp_region_ord (fun w' => Below wr.heap.size wr w') [(1, 0), (2, 0), (3, 0), (0, 2), (4, 2), (5, 4), (6, 0), (7, 0), (8, 0), (9, 0), (10, 0)] (by kernel_rfl) (by kernel_rfl) ?hC0 ?_
      case hC0 => exact (Below.refl _ _).drew
      simp only [pick, nth]
      refine wpW_name ?_
      intro q0 hq0
      have hB0 : Below wr.heap.size wr q0 := by rw [hq0]; exact (Below.refl _ _).drew
      clear hq0
      (repeat (first | (apply wpW_light; (case h => (intro wa; (first | (go_big_quiet_skip; exact wpQuiet_nil rfl) | (go_big_quiet_want; go_big_quiet_op; go_big_quiet_on; exact wpQuiet_nil rfl))))) | (apply wpW_here; (case h => (first | (go_big_quiet_skip; exact wpQuiet_nil rfl) | (go_big_quiet_want; go_big_quiet_op; go_big_quiet_on; exact wpQuiet_nil rfl)))) | (apply wpW_held; (case hC => assumption); (case h => (intro wa hCa; (obtain ⟨v0, v1, v2, v3, v4, v5, v6, v7⟩ := (hS1.out.n.below hCa hnl).cells; have hca := (Below.cell hCa (p := ⟨bl, ol + k, none⟩) hblt).trans hcell; clear hCa); (first | (go_big_quiet_skip; exact wpQuiet_nil rfl) | (go_big_quiet_want; go_big_quiet_op; go_big_quiet_on; exact wpQuiet_nil rfl)))))))
      refine wpW_last (fun QQ hQQ => ?_) (by rfl)
      go_wp2_with (go_at_call 12; with_reducible refine (ln.out _).mono ?_; rintro e q1 ⟨rfl, hs⟩; have hB1 := hB0.trans (hs.mono hB0.size))
      (refine hQQ.out _ _ ?_; clear hQQ QQ)
      clear hs
      (repeat (first | (apply wpW_light; (case h => (intro wa; (first | (go_big_quiet_skip; exact wpQuiet_nil rfl) | (go_big_quiet_want; go_big_quiet_op; go_big_quiet_on; exact wpQuiet_nil rfl))))) | (apply wpW_here; (case h => (first | (go_big_quiet_skip; exact wpQuiet_nil rfl) | (go_big_quiet_want; go_big_quiet_op; go_big_quiet_on; exact wpQuiet_nil rfl)))) | (apply wpW_held; (case hC => assumption); (case h => (intro wa hCa; simp only [] at hCa; (first | (go_big_quiet_skip; exact wpQuiet_nil rfl) | (go_big_quiet_want; go_big_quiet_op; go_big_quiet_on; exact wpQuiet_nil rfl)))))))
      refine wpW_nil ?_
      go_wp2_with (fail)
      go_meet
      exact ⟨rfl, rfl, hS1.out.below hB1⟩
    case rest =>
    obtain ⟨rfl, rfl, hS2⟩ := hcut
    clear hcell hblt hnl hbl hS1
    obtain ⟨wc7, hw⟩ : ∃ w, w = wc := ⟨_, rfl⟩
    subst hw
    have hS1 := Go.Lib.hid hS2
    obtain ⟨bl2, ol2, heq, hblt, hc⟩ := hS2.l.cells (by omega)
    cases heq
    have hcell := hc k hlt
    rw [hmk] at hcell
    have hnl := hS2.n.lt
    have hbl := hS2.b.lt
    clear hc hS2
    go_upto_region 8 with (fail)
    go_cut [12, 13] (fun s12 s13 wx => ∃ x12 : Nat, s12 = .pointer (some ⟨x12, 0, none⟩) ∧ s13 = .int .i64 0 ∧ SidesAt W aa len cap N D (some ⟨bl, ol, none⟩) ll cl l xb xn wx au Ln cu M X E ∧ DuAt wx x12 (E'.k0 : Int) (E'.k1 : Int) (E'.s0 : Int) (E'.s1 : Int))
    case first =>
      refine wp_region_ord2 (fun w' => Below wc7.heap.size wc7 w') 5 9 [(1, 0), (2, 0), (3, 0), (0, 2), (4, 2), (5, 4), (6, 0), (7, 0), (8, 0), (9, 4), (10, 4), (11, 0)] [(1, 0), (2, 0), (3, 0), (0, 2), (4, 2), (9, 3), (5, 4), (6, 0), (7, 0), (8, 0), (10, 4), (11, 0)] (by kernel_rfl) (by decide) (by kernel_rfl) (by kernel_rfl) ?hC0 ?_ ?_
      case hC0 => exact (Below.refl _ _).drew
      · simp only [pick, nth]
        refine wpW_name ?_
        intro q0 hq0
        have hB0 : Below wc7.heap.size wc7 q0 := by rw [hq0]; exact (Below.refl _ _).drew
        clear hq0
        (repeat (first | (apply wpW_light; (case h => (intro wa; (first | (go_big_quiet_skip; exact wpQuiet_nil rfl) | (go_big_quiet_want; go_big_quiet_op; go_big_quiet_on; exact wpQuiet_nil rfl))))) | (apply wpW_here; (case h => (first | (go_big_quiet_skip; exact wpQuiet_nil rfl) | (go_big_quiet_want; go_big_quiet_op; go_big_quiet_on; exact wpQuiet_nil rfl)))) | (apply wpW_held; (case hC => assumption); (case h => (intro wa hCa; (obtain ⟨v0, v1, v2, v3, v4, v5, v6, v7⟩ := (hS1.out.n.below hCa hnl).cells; have hca := (Below.cell hCa (p := ⟨bl, ol + k, none⟩) hblt).trans hcell; clear hCa); (first | (go_big_quiet_skip; exact wpQuiet_nil rfl) | (go_big_quiet_want; go_big_quiet_op; go_big_quiet_on; exact wpQuiet_nil rfl)))))))
        refine wpW_last (fun QQ hQQ => ?_) (by rfl)
        go_wp2_with (go_at_call 11; with_reducible refine (le.out _).mono ?_; rintro e q1 ⟨rfl, hs⟩; have hB1 := hB0.trans (hs.mono hB0.size))
        (refine hQQ.out _ _ ?_; clear hQQ QQ)
        clear hs
        (repeat (first | (apply wpW_light; (case h => (intro wa; (first | (go_big_quiet_skip; exact wpQuiet_nil rfl) | (go_big_quiet_want; go_big_quiet_op; go_big_quiet_on; exact wpQuiet_nil rfl))))) | (apply wpW_here; (case h => (first | (go_big_quiet_skip; exact wpQuiet_nil rfl) | (go_big_quiet_want; go_big_quiet_op; go_big_quiet_on; exact wpQuiet_nil rfl)))) | (apply wpW_held; (case hC => assumption); (case h => (intro wa hCa; simp only [] at hCa; (first | (go_big_quiet_skip; exact wpQuiet_nil rfl) | (go_big_quiet_want; go_big_quiet_op; go_big_quiet_on; exact wpQuiet_nil rfl)))))))
        refine wpW_last (fun QQ hQQ => ?_) (by rfl)
        go_wp2
        (refine hQQ.out _ _ ?_; clear hQQ QQ)
        refine wpW_name ?_
        intro q2 hq
        have hB2 : Below wc7.heap.size wc7 q2 := by rw [hq]; exact hB1.alloc hB1.size _
        have hs : Below q1.heap.size q1 q2 := by rw [hq]; exact below1 q1 _
        have gx : wc7.heap.size ≤ q1.heap.size := hB1.size
        have n2x : DuAt q2 q1.heap.size 0 0 0 0 := by rw [hq]; exact duat1 q1 _ _ _ _
        clear hq hs
        obtain ⟨c0, c1, c2, c3, c4, c5, c6, c7⟩ := n2x.cells
        refine wpW_last (fun QQ hQQ => ?_) (by rfl)
        go_wp2
        (refine hQQ.out _ _ ?_; clear hQQ QQ)
        refine wpW_name ?_
        intro q3 hq
        have hB3 : Below wc7.heap.size wc7 q3 := by rw [hq]; exact (((hB2.setCell gx _).setCell gx _).setCell gx _).setCell gx _
        have n3x : DuAt q3 q1.heap.size (E'.k0 : Int) (E'.k1 : Int) (E'.s0 : Int) (E'.s1 : Int) := by rw [hq]; exact n2x.set _ _ _ _
        clear hq c0 c1 c2 c3 c4 c5 c6 c7
        (repeat (first | (apply wpW_light; (case h => (intro wa; (first | (go_big_quiet_skip; exact wpQuiet_nil rfl) | (go_big_quiet_want; go_big_quiet_op; go_big_quiet_on; exact wpQuiet_nil rfl))))) | (apply wpW_here; (case h => (first | (go_big_quiet_skip; exact wpQuiet_nil rfl) | (go_big_quiet_want; go_big_quiet_op; go_big_quiet_on; exact wpQuiet_nil rfl)))) | (apply wpW_held; (case hC => assumption); (case h => (intro wa hCa; simp only [] at hCa; (first | (go_big_quiet_skip; exact wpQuiet_nil rfl) | (go_big_quiet_want; go_big_quiet_op; go_big_quiet_on; exact wpQuiet_nil rfl)))))))
        refine wpW_nil ?_
        go_wp2_with (fail)
        go_meet
        exact ⟨_, rfl, rfl, hS1.out.below hB3, n3x⟩
      · simp only [pick, nth]
        refine wpW_name ?_
        intro q0 hq0
        have hB0 : Below wc7.heap.size wc7 q0 := by rw [hq0]; exact (Below.refl _ _).drew
        clear hq0
        (repeat (first | (apply wpW_light; (case h => (intro wa; (first | (go_big_quiet_skip; exact wpQuiet_nil rfl) | (go_big_quiet_want; go_big_quiet_op; go_big_quiet_on; exact wpQuiet_nil rfl))))) | (apply wpW_here; (case h => (first | (go_big_quiet_skip; exact wpQuiet_nil rfl) | (go_big_quiet_want; go_big_quiet_op; go_big_quiet_on; exact wpQuiet_nil rfl)))) | (apply wpW_held; (case hC => assumption); (case h => (intro wa hCa; (obtain ⟨v0, v1, v2, v3, v4, v5, v6, v7⟩ := (hS1.out.n.below hCa hnl).cells; have hca := (Below.cell hCa (p := ⟨bl, ol + k, none⟩) hblt).trans hcell; clear hCa); (first | (go_big_quiet_skip; exact wpQuiet_nil rfl) | (go_big_quiet_want; go_big_quiet_op; go_big_quiet_on; exact wpQuiet_nil rfl)))))))
        refine wpW_act (fun QQ hQQ => ?_) (by rfl)
        go_wp2
        (refine hQQ _ _ ?hCn ?_; (case hCn => exact hB0.alloc hB0.size _); clear hQQ QQ)
        refine wpW_name ?_
        intro q1 hq
        have hB1 : Below wc7.heap.size wc7 q1 := by rw [hq]; exact hB0.alloc hB0.size _
        have hs : Below q0.heap.size q0 q1 := by rw [hq]; exact below1 q0 _
        have gx : wc7.heap.size ≤ q0.heap.size := hB0.size
        have n1x : DuAt q1 q0.heap.size 0 0 0 0 := by rw [hq]; exact duat1 q0 _ _ _ _
        clear hq hs
        refine wpW_last (fun QQ hQQ => ?_) (by rfl)
        go_wp2_with (go_at_call 11; with_reducible refine (le.out _).mono ?_; rintro e q2 ⟨rfl, hs⟩; have hB2 := hB1.trans (hs.mono hB1.size))
        (refine hQQ.out _ _ ?_; clear hQQ QQ)
        have n2x := n1x.below hs n1x.lt
        clear hs
        (repeat (first | (apply wpW_light; (case h => (intro wa; (first | (go_big_quiet_skip; exact wpQuiet_nil rfl) | (go_big_quiet_want; go_big_quiet_op; go_big_quiet_on; exact wpQuiet_nil rfl))))) | (apply wpW_here; (case h => (first | (go_big_quiet_skip; exact wpQuiet_nil rfl) | (go_big_quiet_want; go_big_quiet_op; go_big_quiet_on; exact wpQuiet_nil rfl)))) | (apply wpW_held; (case hC => assumption); (case h => (intro wa hCa; simp only [] at hCa; (first | (go_big_quiet_skip; exact wpQuiet_nil rfl) | (go_big_quiet_want; go_big_quiet_op; go_big_quiet_on; exact wpQuiet_nil rfl)))))))
        obtain ⟨c0, c1, c2, c3, c4, c5, c6, c7⟩ := n2x.cells
        refine wpW_last (fun QQ hQQ => ?_) (by rfl)
        go_wp2
        (refine hQQ.out _ _ ?_; clear hQQ QQ)
        refine wpW_name ?_
        intro q3 hq
        have hB3 : Below wc7.heap.size wc7 q3 := by rw [hq]; exact (((hB2.setCell gx _).setCell gx _).setCell gx _).setCell gx _
        have n3x : DuAt q3 q0.heap.size (E'.k0 : Int) (E'.k1 : Int) (E'.s0 : Int) (E'.s1 : Int) := by rw [hq]; exact n2x.set _ _ _ _
        clear hq c0 c1 c2 c3 c4 c5 c6 c7
        (repeat (first | (apply wpW_light; (case h => (intro wa; (first | (go_big_quiet_skip; exact wpQuiet_nil rfl) | (go_big_quiet_want; go_big_quiet_op; go_big_quiet_on; exact wpQuiet_nil rfl))))) | (apply wpW_here; (case h => (first | (go_big_quiet_skip; exact wpQuiet_nil rfl) | (go_big_quiet_want; go_big_quiet_op; go_big_quiet_on; exact wpQuiet_nil rfl)))) | (apply wpW_held; (case hC => assumption); (case h => (intro wa hCa; simp only [] at hCa; (first | (go_big_quiet_skip; exact wpQuiet_nil rfl) | (go_big_quiet_want; go_big_quiet_op; go_big_quiet_on; exact wpQuiet_nil rfl)))))))
        refine wpW_nil ?_
        go_wp2_with (fail)
        go_meet
        exact ⟨_, rfl, rfl, hS1.out.below hB3, n3x⟩
    case rest =>
    obtain ⟨x12, rfl, rfl, hS2, hx12⟩ := hcut
    clear hcell hblt hnl hbl hS1
    obtain ⟨wc8, hw⟩ : ∃ w, w = wc := ⟨_, rfl⟩
    subst hw
    have hS1 := Go.Lib.hid hS2
    obtain ⟨bl2, ol2, heq, hblt, hc⟩ := hS2.l.cells (by omega)
    cases heq
    have hcell := hc k hlt
    rw [hmk] at hcell
    have hnl := hS2.n.lt
    have hbl := hS2.b.lt
    clear hc hS2
    have hl12x := hx12.lt
    go_upto_region 9 with (fail)
    go_cut [14, 15, 16] (fun s14 s15 s16 wx => ∃ (x14 x15 : Nat) (b' : Option Addr) (c' : Nat), s14 = .pointer (some ⟨x14, 0, none⟩) ∧ s15 = .pointer (some ⟨x15, 0, none⟩) ∧ s16 = .int .i64 0 ∧ xb ≠ x15 ∧ SidesAt W aa len cap N D (some ⟨bl, ol, none⟩) ll cl l xb xn wx au Ln cu M X E ∧ DuAt wx x12 (E'.k0 : Int) (E'.k1 : Int) (E'.s0 : Int) (E'.s1 : Int) ∧ BoxAt wx x14 (.slice b' L' c') M' ∧ DuAt wx x15 (E'.k0 : Int) (E'.k1 : Int) (E'.s0 : Int) (E'.s1 : Int) ∧ Row .u8 wx b' L' c' (pack X'))
    case first =>
      refine wp_region_ord6 (fun w' => Below wc8.heap.size wc8 w') 6 11 12 [(2, 0), (3, 0), (4, 0), (0, 2), (1, 2), (5, 2), (6, 4), (7, 0), (8, 0), (9, 0), (10, 0), (11, 4), (12, 4), (13, 4), (14, 4), (15, 0)] [(2, 0), (3, 0), (4, 0), (0, 2), (1, 2), (5, 2), (6, 4), (7, 0), (8, 0), (9, 0), (10, 0), (12, 4), (11, 4), (13, 4), (14, 4), (15, 0)] [(2, 0), (3, 0), (4, 0), (0, 2), (1, 2), (5, 2), (12, 3), (6, 4), (7, 0), (8, 0), (9, 0), (10, 0), (11, 4), (13, 4), (14, 4), (15, 0)] [(2, 0), (3, 0), (4, 0), (0, 2), (1, 2), (5, 2), (11, 3), (6, 4), (7, 0), (8, 0), (9, 0), (10, 0), (12, 4), (13, 4), (14, 4), (15, 0)] [(2, 0), (3, 0), (4, 0), (0, 2), (1, 2), (5, 2), (11, 3), (12, 3), (6, 4), (7, 0), (8, 0), (9, 0), (10, 0), (13, 4), (14, 4), (15, 0)] [(2, 0), (3, 0), (4, 0), (0, 2), (1, 2), (5, 2), (12, 3), (11, 3), (6, 4), (7, 0), (8, 0), (9, 0), (10, 0), (13, 4), (14, 4), (15, 0)] (by kernel_rfl) (by decide) (by kernel_rfl) (by kernel_rfl) (by kernel_rfl) (by kernel_rfl) (by kernel_rfl) (by kernel_rfl) ?hC0 ?_ ?_ ?_ ?_ ?_ ?_
      case hC0 => exact (Below.refl _ _).drew
      · simp only [pick, nth]
        refine wpW_name ?_
        intro q0 hq0
        have hB0 : Below wc8.heap.size wc8 q0 := by rw [hq0]; exact (Below.refl _ _).drew
        clear hq0
        (repeat (first | (apply wpW_light; (case h => (intro wa; (first | (go_big_quiet_skip; exact wpQuiet_nil rfl) | (go_big_quiet_want; go_big_quiet_op; go_big_quiet_on; exact wpQuiet_nil rfl))))) | (apply wpW_here; (case h => (first | (go_big_quiet_skip; exact wpQuiet_nil rfl) | (go_big_quiet_want; go_big_quiet_op; go_big_quiet_on; exact wpQuiet_nil rfl)))) | (apply wpW_held; (case hC => assumption); (case h => (intro wa hCa; (obtain ⟨t0, t1, t2, t3⟩ := (hS1.out.b.below hCa hbl).cells; obtain ⟨v0, v1, v2, v3, v4, v5, v6, v7⟩ := (hS1.out.n.below hCa hnl).cells; have hca := (Below.cell hCa (p := ⟨bl, ol + k, none⟩) hblt).trans hcell; clear hCa); (first | (go_big_quiet_skip; exact wpQuiet_nil rfl) | (go_big_quiet_want; go_big_quiet_op; go_big_quiet_on; exact wpQuiet_nil rfl)))))))
        refine wpW_last (fun QQ hQQ => ?_) (by rfl)
        go_wp2_with (go_at_call 13; with_reducible refine (wr'.out _ ?h1).mono ?_; (case h1 => exact hS1.out.r.below hB0 (Nat.le_refl _)); rintro e q1 ⟨b', c', rfl, r1, hs⟩; have hB1 := hB0.trans (hs.mono hB0.size))
        (refine hQQ.out _ _ ?_; clear hQQ QQ)
        clear hs
        (repeat (first | (apply wpW_light; (case h => (intro wa; (first | (go_big_quiet_skip; exact wpQuiet_nil rfl) | (go_big_quiet_want; go_big_quiet_op; go_big_quiet_on; exact wpQuiet_nil rfl))))) | (apply wpW_here; (case h => (first | (go_big_quiet_skip; exact wpQuiet_nil rfl) | (go_big_quiet_want; go_big_quiet_op; go_big_quiet_on; exact wpQuiet_nil rfl)))) | (apply wpW_held; (case hC => assumption); (case h => (intro wa hCa; simp only [] at hCa; (first | (go_big_quiet_skip; exact wpQuiet_nil rfl) | (go_big_quiet_want; go_big_quiet_op; go_big_quiet_on; exact wpQuiet_nil rfl)))))))
        refine wpW_last (fun QQ hQQ => ?_) (by rfl)
        go_wp2
        (refine hQQ.out _ _ ?_; clear hQQ QQ)
        refine wpW_name ?_
        intro q2 hq
        have hB2 : Below wc8.heap.size wc8 q2 := by rw [hq]; exact hB1.alloc hB1.size _
        have hs : Below q1.heap.size q1 q2 := by rw [hq]; exact below1 q1 _
        have r2 := r1.below hs (Nat.le_refl _)
        have gx : wc8.heap.size ≤ q1.heap.size := hB1.size
        have n2x : BoxAt q2 q1.heap.size (.slice none 0 0) 0 := by rw [hq]; exact box1 q1 _ _
        clear hq hs
        refine wpW_last (fun QQ hQQ => ?_) (by rfl)
        go_wp2
        (refine hQQ.out _ _ ?_; clear hQQ QQ)
        refine wpW_name ?_
        intro q3 hq
        have hB3 : Below wc8.heap.size wc8 q3 := by rw [hq]; exact hB2.alloc hB2.size _
        have hs : Below q2.heap.size q2 q3 := by rw [hq]; exact below1 q2 _
        have n3x := n2x.below hs n2x.lt
        have r3 := r2.below hs (Nat.le_refl _)
        have exy : q1.heap.size ≠ q2.heap.size := Nat.ne_of_lt n2x.lt
        have gy : wc8.heap.size ≤ q2.heap.size := hB2.size
        have n3y : DuAt q3 q2.heap.size 0 0 0 0 := by rw [hq]; exact duat1 q2 _ _ _ _
        clear hq hs
        obtain ⟨c0, c1, c2, c3⟩ := n3x.cells
        refine wpW_last (fun QQ hQQ => ?_) (by rfl)
        go_wp2
        (refine hQQ.out _ _ ?_; clear hQQ QQ)
        refine wpW_name ?_
        intro q4 hq
        have hB4 : Below wc8.heap.size wc8 q4 := by rw [hq]; exact (hB3.setCell gx _).setCell gx _
        have n4x : BoxAt q4 q1.heap.size ((.slice b' L' c')) M' := by rw [hq]; exact n3x.set _ _
        have n4y : DuAt q4 q2.heap.size 0 0 0 0 := by rw [hq]; exact ((n3y.other exy.symm _).other exy.symm _)
        have r4 : Row .u8 q4 b' L' c' (pack X') := by rw [hq]; exact (r3.box n3x 0 _).box (n3x.set0 _) 1 _
        clear hq c0 c1 c2 c3
        obtain ⟨c0, c1, c2, c3, c4, c5, c6, c7⟩ := n4y.cells
        refine wpW_last (fun QQ hQQ => ?_) (by rfl)
        go_wp2
        (refine hQQ.out _ _ ?_; clear hQQ QQ)
        refine wpW_name ?_
        intro q5 hq
        have hB5 : Below wc8.heap.size wc8 q5 := by rw [hq]; exact (((hB4.setCell gy _).setCell gy _).setCell gy _).setCell gy _
        have n5x : BoxAt q5 q1.heap.size ((.slice b' L' c')) M' := by rw [hq]; exact ((((n4x.other exy _).other exy _).other exy _).other exy _)
        have n5y : DuAt q5 q2.heap.size (E'.k0 : Int) (E'.k1 : Int) (E'.s0 : Int) (E'.s1 : Int) := by rw [hq]; exact n4y.set _ _ _ _
        have r5 : Row .u8 q5 b' L' c' (pack X') := by rw [hq]; exact (((r4.boxD (.inl rfl) n4y 0 _).boxD (.inl rfl) (n4y.set0 _) 1 _).boxD (.inl rfl) ((n4y.set0 _).set1 _) 2 _).boxD (.inl rfl) (((n4y.set0 _).set1 _).set2 _) 3 _
        clear hq c0 c1 c2 c3 c4 c5 c6 c7
        (repeat (first | (apply wpW_light; (case h => (intro wa; (first | (go_big_quiet_skip; exact wpQuiet_nil rfl) | (go_big_quiet_want; go_big_quiet_op; go_big_quiet_on; exact wpQuiet_nil rfl))))) | (apply wpW_here; (case h => (first | (go_big_quiet_skip; exact wpQuiet_nil rfl) | (go_big_quiet_want; go_big_quiet_op; go_big_quiet_on; exact wpQuiet_nil rfl)))) | (apply wpW_held; (case hC => assumption); (case h => (intro wa hCa; simp only [] at hCa; (first | (go_big_quiet_skip; exact wpQuiet_nil rfl) | (go_big_quiet_want; go_big_quiet_op; go_big_quiet_on; exact wpQuiet_nil rfl)))))))
        refine wpW_nil ?_
        go_wp2_with (fail)
        go_meet
        exact ⟨_, _, b', c', rfl, rfl, rfl, by have := gy; omega, hS1.out.below hB5, hx12.below hB5 hl12x, n5x, n5y, r5⟩
      · simp only [pick, nth]
        refine wpW_name ?_
        intro q0 hq0
        have hB0 : Below wc8.heap.size wc8 q0 := by rw [hq0]; exact (Below.refl _ _).drew
        clear hq0
        (repeat (first | (apply wpW_light; (case h => (intro wa; (first | (go_big_quiet_skip; exact wpQuiet_nil rfl) | (go_big_quiet_want; go_big_quiet_op; go_big_quiet_on; exact wpQuiet_nil rfl))))) | (apply wpW_here; (case h => (first | (go_big_quiet_skip; exact wpQuiet_nil rfl) | (go_big_quiet_want; go_big_quiet_op; go_big_quiet_on; exact wpQuiet_nil rfl)))) | (apply wpW_held; (case hC => assumption); (case h => (intro wa hCa; (obtain ⟨t0, t1, t2, t3⟩ := (hS1.out.b.below hCa hbl).cells; obtain ⟨v0, v1, v2, v3, v4, v5, v6, v7⟩ := (hS1.out.n.below hCa hnl).cells; have hca := (Below.cell hCa (p := ⟨bl, ol + k, none⟩) hblt).trans hcell; clear hCa); (first | (go_big_quiet_skip; exact wpQuiet_nil rfl) | (go_big_quiet_want; go_big_quiet_op; go_big_quiet_on; exact wpQuiet_nil rfl)))))))
        refine wpW_last (fun QQ hQQ => ?_) (by rfl)
        go_wp2_with (go_at_call 13; with_reducible refine (wr'.out _ ?h1).mono ?_; (case h1 => exact hS1.out.r.below hB0 (Nat.le_refl _)); rintro e q1 ⟨b', c', rfl, r1, hs⟩; have hB1 := hB0.trans (hs.mono hB0.size))
        (refine hQQ.out _ _ ?_; clear hQQ QQ)
        clear hs
        (repeat (first | (apply wpW_light; (case h => (intro wa; (first | (go_big_quiet_skip; exact wpQuiet_nil rfl) | (go_big_quiet_want; go_big_quiet_op; go_big_quiet_on; exact wpQuiet_nil rfl))))) | (apply wpW_here; (case h => (first | (go_big_quiet_skip; exact wpQuiet_nil rfl) | (go_big_quiet_want; go_big_quiet_op; go_big_quiet_on; exact wpQuiet_nil rfl)))) | (apply wpW_held; (case hC => assumption); (case h => (intro wa hCa; simp only [] at hCa; (first | (go_big_quiet_skip; exact wpQuiet_nil rfl) | (go_big_quiet_want; go_big_quiet_op; go_big_quiet_on; exact wpQuiet_nil rfl)))))))
        refine wpW_last (fun QQ hQQ => ?_) (by rfl)
        go_wp2
        (refine hQQ.out _ _ ?_; clear hQQ QQ)
        refine wpW_name ?_
        intro q2 hq
        have hB2 : Below wc8.heap.size wc8 q2 := by rw [hq]; exact hB1.alloc hB1.size _
        have hs : Below q1.heap.size q1 q2 := by rw [hq]; exact below1 q1 _
        have r2 := r1.below hs (Nat.le_refl _)
        have gy : wc8.heap.size ≤ q1.heap.size := hB1.size
        have n2y : DuAt q2 q1.heap.size 0 0 0 0 := by rw [hq]; exact duat1 q1 _ _ _ _
        clear hq hs
        refine wpW_last (fun QQ hQQ => ?_) (by rfl)
        go_wp2
        (refine hQQ.out _ _ ?_; clear hQQ QQ)
        refine wpW_name ?_
        intro q3 hq
        have hB3 : Below wc8.heap.size wc8 q3 := by rw [hq]; exact hB2.alloc hB2.size _
        have hs : Below q2.heap.size q2 q3 := by rw [hq]; exact below1 q2 _
        have n3y := n2y.below hs n2y.lt
        have r3 := r2.below hs (Nat.le_refl _)
        have eyx : q1.heap.size ≠ q2.heap.size := Nat.ne_of_lt n2y.lt
        have gx : wc8.heap.size ≤ q2.heap.size := hB2.size
        have n3x : BoxAt q3 q2.heap.size (.slice none 0 0) 0 := by rw [hq]; exact box1 q2 _ _
        clear hq hs
        obtain ⟨c0, c1, c2, c3⟩ := n3x.cells
        refine wpW_last (fun QQ hQQ => ?_) (by rfl)
        go_wp2
        (refine hQQ.out _ _ ?_; clear hQQ QQ)
        refine wpW_name ?_
        intro q4 hq
        have hB4 : Below wc8.heap.size wc8 q4 := by rw [hq]; exact (hB3.setCell gx _).setCell gx _
        have n4y : DuAt q4 q1.heap.size 0 0 0 0 := by rw [hq]; exact ((n3y.other eyx _).other eyx _)
        have n4x : BoxAt q4 q2.heap.size ((.slice b' L' c')) M' := by rw [hq]; exact n3x.set _ _
        have r4 : Row .u8 q4 b' L' c' (pack X') := by rw [hq]; exact (r3.box n3x 0 _).box (n3x.set0 _) 1 _
        clear hq c0 c1 c2 c3
        obtain ⟨c0, c1, c2, c3, c4, c5, c6, c7⟩ := n4y.cells
        refine wpW_last (fun QQ hQQ => ?_) (by rfl)
        go_wp2
        (refine hQQ.out _ _ ?_; clear hQQ QQ)
        refine wpW_name ?_
        intro q5 hq
        have hB5 : Below wc8.heap.size wc8 q5 := by rw [hq]; exact (((hB4.setCell gy _).setCell gy _).setCell gy _).setCell gy _
        have n5y : DuAt q5 q1.heap.size (E'.k0 : Int) (E'.k1 : Int) (E'.s0 : Int) (E'.s1 : Int) := by rw [hq]; exact n4y.set _ _ _ _
        have n5x : BoxAt q5 q2.heap.size ((.slice b' L' c')) M' := by rw [hq]; exact ((((n4x.other eyx.symm _).other eyx.symm _).other eyx.symm _).other eyx.symm _)
        have r5 : Row .u8 q5 b' L' c' (pack X') := by rw [hq]; exact (((r4.boxD (.inl rfl) n4y 0 _).boxD (.inl rfl) (n4y.set0 _) 1 _).boxD (.inl rfl) ((n4y.set0 _).set1 _) 2 _).boxD (.inl rfl) (((n4y.set0 _).set1 _).set2 _) 3 _
        clear hq c0 c1 c2 c3 c4 c5 c6 c7
        (repeat (first | (apply wpW_light; (case h => (intro wa; (first | (go_big_quiet_skip; exact wpQuiet_nil rfl) | (go_big_quiet_want; go_big_quiet_op; go_big_quiet_on; exact wpQuiet_nil rfl))))) | (apply wpW_here; (case h => (first | (go_big_quiet_skip; exact wpQuiet_nil rfl) | (go_big_quiet_want; go_big_quiet_op; go_big_quiet_on; exact wpQuiet_nil rfl)))) | (apply wpW_held; (case hC => assumption); (case h => (intro wa hCa; simp only [] at hCa; (first | (go_big_quiet_skip; exact wpQuiet_nil rfl) | (go_big_quiet_want; go_big_quiet_op; go_big_quiet_on; exact wpQuiet_nil rfl)))))))
        refine wpW_nil ?_
        go_wp2_with (fail)
        go_meet
        exact ⟨_, _, b', c', rfl, rfl, rfl, by have := gy; omega, hS1.out.below hB5, hx12.below hB5 hl12x, n5x, n5y, r5⟩
      · simp only [pick, nth]
        refine wpW_name ?_
        intro q0 hq0
        have hB0 : Below wc8.heap.size wc8 q0 := by rw [hq0]; exact (Below.refl _ _).drew
        clear hq0
        (repeat (first | (apply wpW_light; (case h => (intro wa; (first | (go_big_quiet_skip; exact wpQuiet_nil rfl) | (go_big_quiet_want; go_big_quiet_op; go_big_quiet_on; exact wpQuiet_nil rfl))))) | (apply wpW_here; (case h => (first | (go_big_quiet_skip; exact wpQuiet_nil rfl) | (go_big_quiet_want; go_big_quiet_op; go_big_quiet_on; exact wpQuiet_nil rfl)))) | (apply wpW_held; (case hC => assumption); (case h => (intro wa hCa; (obtain ⟨t0, t1, t2, t3⟩ := (hS1.out.b.below hCa hbl).cells; obtain ⟨v0, v1, v2, v3, v4, v5, v6, v7⟩ := (hS1.out.n.below hCa hnl).cells; have hca := (Below.cell hCa (p := ⟨bl, ol + k, none⟩) hblt).trans hcell; clear hCa); (first | (go_big_quiet_skip; exact wpQuiet_nil rfl) | (go_big_quiet_want; go_big_quiet_op; go_big_quiet_on; exact wpQuiet_nil rfl)))))))
        refine wpW_act (fun QQ hQQ => ?_) (by rfl)
        go_wp2
        (refine hQQ _ _ ?hCn ?_; (case hCn => exact hB0.alloc hB0.size _); clear hQQ QQ)
        refine wpW_name ?_
        intro q1 hq
        have hB1 : Below wc8.heap.size wc8 q1 := by rw [hq]; exact hB0.alloc hB0.size _
        have hs : Below q0.heap.size q0 q1 := by rw [hq]; exact below1 q0 _
        have gy : wc8.heap.size ≤ q0.heap.size := hB0.size
        have n1y : DuAt q1 q0.heap.size 0 0 0 0 := by rw [hq]; exact duat1 q0 _ _ _ _
        clear hq hs
        refine wpW_last (fun QQ hQQ => ?_) (by rfl)
        go_wp2_with (go_at_call 13; with_reducible refine (wr'.out _ ?h1).mono ?_; (case h1 => exact hS1.out.r.below hB1 (Nat.le_refl _)); rintro e q2 ⟨b', c', rfl, r2, hs⟩; have hB2 := hB1.trans (hs.mono hB1.size))
        (refine hQQ.out _ _ ?_; clear hQQ QQ)
        have n2y := n1y.below hs n1y.lt
        clear hs
        (repeat (first | (apply wpW_light; (case h => (intro wa; (first | (go_big_quiet_skip; exact wpQuiet_nil rfl) | (go_big_quiet_want; go_big_quiet_op; go_big_quiet_on; exact wpQuiet_nil rfl))))) | (apply wpW_here; (case h => (first | (go_big_quiet_skip; exact wpQuiet_nil rfl) | (go_big_quiet_want; go_big_quiet_op; go_big_quiet_on; exact wpQuiet_nil rfl)))) | (apply wpW_held; (case hC => assumption); (case h => (intro wa hCa; simp only [] at hCa; (first | (go_big_quiet_skip; exact wpQuiet_nil rfl) | (go_big_quiet_want; go_big_quiet_op; go_big_quiet_on; exact wpQuiet_nil rfl)))))))
        refine wpW_last (fun QQ hQQ => ?_) (by rfl)
        go_wp2
        (refine hQQ.out _ _ ?_; clear hQQ QQ)
        refine wpW_name ?_
        intro q3 hq
        have hB3 : Below wc8.heap.size wc8 q3 := by rw [hq]; exact hB2.alloc hB2.size _
        have hs : Below q2.heap.size q2 q3 := by rw [hq]; exact below1 q2 _
        have n3y := n2y.below hs n2y.lt
        have r3 := r2.below hs (Nat.le_refl _)
        have eyx : q0.heap.size ≠ q2.heap.size := Nat.ne_of_lt n2y.lt
        have gx : wc8.heap.size ≤ q2.heap.size := hB2.size
        have n3x : BoxAt q3 q2.heap.size (.slice none 0 0) 0 := by rw [hq]; exact box1 q2 _ _
        clear hq hs
        obtain ⟨c0, c1, c2, c3⟩ := n3x.cells
        refine wpW_last (fun QQ hQQ => ?_) (by rfl)
        go_wp2
        (refine hQQ.out _ _ ?_; clear hQQ QQ)
        refine wpW_name ?_
        intro q4 hq
        have hB4 : Below wc8.heap.size wc8 q4 := by rw [hq]; exact (hB3.setCell gx _).setCell gx _
        have n4y : DuAt q4 q0.heap.size 0 0 0 0 := by rw [hq]; exact ((n3y.other eyx _).other eyx _)
        have n4x : BoxAt q4 q2.heap.size ((.slice b' L' c')) M' := by rw [hq]; exact n3x.set _ _
        have r4 : Row .u8 q4 b' L' c' (pack X') := by rw [hq]; exact (r3.box n3x 0 _).box (n3x.set0 _) 1 _
        clear hq c0 c1 c2 c3
        obtain ⟨c0, c1, c2, c3, c4, c5, c6, c7⟩ := n4y.cells
        refine wpW_last (fun QQ hQQ => ?_) (by rfl)
        go_wp2
        (refine hQQ.out _ _ ?_; clear hQQ QQ)
        refine wpW_name ?_
        intro q5 hq
        have hB5 : Below wc8.heap.size wc8 q5 := by rw [hq]; exact (((hB4.setCell gy _).setCell gy _).setCell gy _).setCell gy _
        have n5y : DuAt q5 q0.heap.size (E'.k0 : Int) (E'.k1 : Int) (E'.s0 : Int) (E'.s1 : Int) := by rw [hq]; exact n4y.set _ _ _ _
        have n5x : BoxAt q5 q2.heap.size ((.slice b' L' c')) M' := by rw [hq]; exact ((((n4x.other eyx.symm _).other eyx.symm _).other eyx.symm _).other eyx.symm _)
        have r5 : Row .u8 q5 b' L' c' (pack X') := by rw [hq]; exact (((r4.boxD (.inl rfl) n4y 0 _).boxD (.inl rfl) (n4y.set0 _) 1 _).boxD (.inl rfl) ((n4y.set0 _).set1 _) 2 _).boxD (.inl rfl) (((n4y.set0 _).set1 _).set2 _) 3 _
        clear hq c0 c1 c2 c3 c4 c5 c6 c7
        (repeat (first | (apply wpW_light; (case h => (intro wa; (first | (go_big_quiet_skip; exact wpQuiet_nil rfl) | (go_big_quiet_want; go_big_quiet_op; go_big_quiet_on; exact wpQuiet_nil rfl))))) | (apply wpW_here; (case h => (first | (go_big_quiet_skip; exact wpQuiet_nil rfl) | (go_big_quiet_want; go_big_quiet_op; go_big_quiet_on; exact wpQuiet_nil rfl)))) | (apply wpW_held; (case hC => assumption); (case h => (intro wa hCa; simp only [] at hCa; (first | (go_big_quiet_skip; exact wpQuiet_nil rfl) | (go_big_quiet_want; go_big_quiet_op; go_big_quiet_on; exact wpQuiet_nil rfl)))))))
        refine wpW_nil ?_
        go_wp2_with (fail)
        go_meet
        exact ⟨_, _, b', c', rfl, rfl, rfl, by have := gy; omega, hS1.out.below hB5, hx12.below hB5 hl12x, n5x, n5y, r5⟩
      · simp only [pick, nth]
        refine wpW_name ?_
        intro q0 hq0
        have hB0 : Below wc8.heap.size wc8 q0 := by rw [hq0]; exact (Below.refl _ _).drew
        clear hq0
        (repeat (first | (apply wpW_light; (case h => (intro wa; (first | (go_big_quiet_skip; exact wpQuiet_nil rfl) | (go_big_quiet_want; go_big_quiet_op; go_big_quiet_on; exact wpQuiet_nil rfl))))) | (apply wpW_here; (case h => (first | (go_big_quiet_skip; exact wpQuiet_nil rfl) | (go_big_quiet_want; go_big_quiet_op; go_big_quiet_on; exact wpQuiet_nil rfl)))) | (apply wpW_held; (case hC => assumption); (case h => (intro wa hCa; (obtain ⟨t0, t1, t2, t3⟩ := (hS1.out.b.below hCa hbl).cells; obtain ⟨v0, v1, v2, v3, v4, v5, v6, v7⟩ := (hS1.out.n.below hCa hnl).cells; have hca := (Below.cell hCa (p := ⟨bl, ol + k, none⟩) hblt).trans hcell; clear hCa); (first | (go_big_quiet_skip; exact wpQuiet_nil rfl) | (go_big_quiet_want; go_big_quiet_op; go_big_quiet_on; exact wpQuiet_nil rfl)))))))
        refine wpW_act (fun QQ hQQ => ?_) (by rfl)
        go_wp2
        (refine hQQ _ _ ?hCn ?_; (case hCn => exact hB0.alloc hB0.size _); clear hQQ QQ)
        refine wpW_name ?_
        intro q1 hq
        have hB1 : Below wc8.heap.size wc8 q1 := by rw [hq]; exact hB0.alloc hB0.size _
        have hs : Below q0.heap.size q0 q1 := by rw [hq]; exact below1 q0 _
        have gx : wc8.heap.size ≤ q0.heap.size := hB0.size
        have n1x : BoxAt q1 q0.heap.size (.slice none 0 0) 0 := by rw [hq]; exact box1 q0 _ _
        clear hq hs
        refine wpW_last (fun QQ hQQ => ?_) (by rfl)
        go_wp2_with (go_at_call 13; with_reducible refine (wr'.out _ ?h1).mono ?_; (case h1 => exact hS1.out.r.below hB1 (Nat.le_refl _)); rintro e q2 ⟨b', c', rfl, r2, hs⟩; have hB2 := hB1.trans (hs.mono hB1.size))
        (refine hQQ.out _ _ ?_; clear hQQ QQ)
        have n2x := n1x.below hs n1x.lt
        clear hs
        (repeat (first | (apply wpW_light; (case h => (intro wa; (first | (go_big_quiet_skip; exact wpQuiet_nil rfl) | (go_big_quiet_want; go_big_quiet_op; go_big_quiet_on; exact wpQuiet_nil rfl))))) | (apply wpW_here; (case h => (first | (go_big_quiet_skip; exact wpQuiet_nil rfl) | (go_big_quiet_want; go_big_quiet_op; go_big_quiet_on; exact wpQuiet_nil rfl)))) | (apply wpW_held; (case hC => assumption); (case h => (intro wa hCa; simp only [] at hCa; (first | (go_big_quiet_skip; exact wpQuiet_nil rfl) | (go_big_quiet_want; go_big_quiet_op; go_big_quiet_on; exact wpQuiet_nil rfl)))))))
        refine wpW_last (fun QQ hQQ => ?_) (by rfl)
        go_wp2
        (refine hQQ.out _ _ ?_; clear hQQ QQ)
        refine wpW_name ?_
        intro q3 hq
        have hB3 : Below wc8.heap.size wc8 q3 := by rw [hq]; exact hB2.alloc hB2.size _
        have hs : Below q2.heap.size q2 q3 := by rw [hq]; exact below1 q2 _
        have n3x := n2x.below hs n2x.lt
        have r3 := r2.below hs (Nat.le_refl _)
        have exy : q0.heap.size ≠ q2.heap.size := Nat.ne_of_lt n2x.lt
        have gy : wc8.heap.size ≤ q2.heap.size := hB2.size
        have n3y : DuAt q3 q2.heap.size 0 0 0 0 := by rw [hq]; exact duat1 q2 _ _ _ _
        clear hq hs
        obtain ⟨c0, c1, c2, c3⟩ := n3x.cells
        refine wpW_last (fun QQ hQQ => ?_) (by rfl)
        go_wp2
        (refine hQQ.out _ _ ?_; clear hQQ QQ)
        refine wpW_name ?_
        intro q4 hq
        have hB4 : Below wc8.heap.size wc8 q4 := by rw [hq]; exact (hB3.setCell gx _).setCell gx _
        have n4x : BoxAt q4 q0.heap.size ((.slice b' L' c')) M' := by rw [hq]; exact n3x.set _ _
        have n4y : DuAt q4 q2.heap.size 0 0 0 0 := by rw [hq]; exact ((n3y.other exy.symm _).other exy.symm _)
        have r4 : Row .u8 q4 b' L' c' (pack X') := by rw [hq]; exact (r3.box n3x 0 _).box (n3x.set0 _) 1 _
        clear hq c0 c1 c2 c3
        obtain ⟨c0, c1, c2, c3, c4, c5, c6, c7⟩ := n4y.cells
        refine wpW_last (fun QQ hQQ => ?_) (by rfl)
        go_wp2
        (refine hQQ.out _ _ ?_; clear hQQ QQ)
        refine wpW_name ?_
        intro q5 hq
        have hB5 : Below wc8.heap.size wc8 q5 := by rw [hq]; exact (((hB4.setCell gy _).setCell gy _).setCell gy _).setCell gy _
        have n5x : BoxAt q5 q0.heap.size ((.slice b' L' c')) M' := by rw [hq]; exact ((((n4x.other exy _).other exy _).other exy _).other exy _)
        have n5y : DuAt q5 q2.heap.size (E'.k0 : Int) (E'.k1 : Int) (E'.s0 : Int) (E'.s1 : Int) := by rw [hq]; exact n4y.set _ _ _ _
        have r5 : Row .u8 q5 b' L' c' (pack X') := by rw [hq]; exact (((r4.boxD (.inl rfl) n4y 0 _).boxD (.inl rfl) (n4y.set0 _) 1 _).boxD (.inl rfl) ((n4y.set0 _).set1 _) 2 _).boxD (.inl rfl) (((n4y.set0 _).set1 _).set2 _) 3 _
        clear hq c0 c1 c2 c3 c4 c5 c6 c7
        (repeat (first | (apply wpW_light; (case h => (intro wa; (first | (go_big_quiet_skip; exact wpQuiet_nil rfl) | (go_big_quiet_want; go_big_quiet_op; go_big_quiet_on; exact wpQuiet_nil rfl))))) | (apply wpW_here; (case h => (first | (go_big_quiet_skip; exact wpQuiet_nil rfl) | (go_big_quiet_want; go_big_quiet_op; go_big_quiet_on; exact wpQuiet_nil rfl)))) | (apply wpW_held; (case hC => assumption); (case h => (intro wa hCa; simp only [] at hCa; (first | (go_big_quiet_skip; exact wpQuiet_nil rfl) | (go_big_quiet_want; go_big_quiet_op; go_big_quiet_on; exact wpQuiet_nil rfl)))))))
        refine wpW_nil ?_
        go_wp2_with (fail)
        go_meet
        exact ⟨_, _, b', c', rfl, rfl, rfl, by have := gy; omega, hS1.out.below hB5, hx12.below hB5 hl12x, n5x, n5y, r5⟩
      · simp only [pick, nth]
        refine wpW_name ?_
        intro q0 hq0
        have hB0 : Below wc8.heap.size wc8 q0 := by rw [hq0]; exact (Below.refl _ _).drew
        clear hq0
        (repeat (first | (apply wpW_light; (case h => (intro wa; (first | (go_big_quiet_skip; exact wpQuiet_nil rfl) | (go_big_quiet_want; go_big_quiet_op; go_big_quiet_on; exact wpQuiet_nil rfl))))) | (apply wpW_here; (case h => (first | (go_big_quiet_skip; exact wpQuiet_nil rfl) | (go_big_quiet_want; go_big_quiet_op; go_big_quiet_on; exact wpQuiet_nil rfl)))) | (apply wpW_held; (case hC => assumption); (case h => (intro wa hCa; (obtain ⟨t0, t1, t2, t3⟩ := (hS1.out.b.below hCa hbl).cells; obtain ⟨v0, v1, v2, v3, v4, v5, v6, v7⟩ := (hS1.out.n.below hCa hnl).cells; have hca := (Below.cell hCa (p := ⟨bl, ol + k, none⟩) hblt).trans hcell; clear hCa); (first | (go_big_quiet_skip; exact wpQuiet_nil rfl) | (go_big_quiet_want; go_big_quiet_op; go_big_quiet_on; exact wpQuiet_nil rfl)))))))
        refine wpW_act (fun QQ hQQ => ?_) (by rfl)
        go_wp2
        (refine hQQ _ _ ?hCn ?_; (case hCn => exact hB0.alloc hB0.size _); clear hQQ QQ)
        refine wpW_name ?_
        intro q1 hq
        have hB1 : Below wc8.heap.size wc8 q1 := by rw [hq]; exact hB0.alloc hB0.size _
        have hs : Below q0.heap.size q0 q1 := by rw [hq]; exact below1 q0 _
        have gx : wc8.heap.size ≤ q0.heap.size := hB0.size
        have n1x : BoxAt q1 q0.heap.size (.slice none 0 0) 0 := by rw [hq]; exact box1 q0 _ _
        clear hq hs
        refine wpW_act (fun QQ hQQ => ?_) (by rfl)
        go_wp2
        (refine hQQ _ _ ?hCn ?_; (case hCn => exact hB1.alloc hB1.size _); clear hQQ QQ)
        refine wpW_name ?_
        intro q2 hq
        have hB2 : Below wc8.heap.size wc8 q2 := by rw [hq]; exact hB1.alloc hB1.size _
        have hs : Below q1.heap.size q1 q2 := by rw [hq]; exact below1 q1 _
        have n2x := n1x.below hs n1x.lt
        have exy : q0.heap.size ≠ q1.heap.size := Nat.ne_of_lt n1x.lt
        have gy : wc8.heap.size ≤ q1.heap.size := hB1.size
        have n2y : DuAt q2 q1.heap.size 0 0 0 0 := by rw [hq]; exact duat1 q1 _ _ _ _
        clear hq hs
        refine wpW_last (fun QQ hQQ => ?_) (by rfl)
        go_wp2_with (go_at_call 13; with_reducible refine (wr'.out _ ?h1).mono ?_; (case h1 => exact hS1.out.r.below hB2 (Nat.le_refl _)); rintro e q3 ⟨b', c', rfl, r3, hs⟩; have hB3 := hB2.trans (hs.mono hB2.size))
        (refine hQQ.out _ _ ?_; clear hQQ QQ)
        have n3x := n2x.below hs n2x.lt
        have n3y := n2y.below hs n2y.lt
        clear hs
        (repeat (first | (apply wpW_light; (case h => (intro wa; (first | (go_big_quiet_skip; exact wpQuiet_nil rfl) | (go_big_quiet_want; go_big_quiet_op; go_big_quiet_on; exact wpQuiet_nil rfl))))) | (apply wpW_here; (case h => (first | (go_big_quiet_skip; exact wpQuiet_nil rfl) | (go_big_quiet_want; go_big_quiet_op; go_big_quiet_on; exact wpQuiet_nil rfl)))) | (apply wpW_held; (case hC => assumption); (case h => (intro wa hCa; simp only [] at hCa; (first | (go_big_quiet_skip; exact wpQuiet_nil rfl) | (go_big_quiet_want; go_big_quiet_op; go_big_quiet_on; exact wpQuiet_nil rfl)))))))
        obtain ⟨c0, c1, c2, c3⟩ := n3x.cells
        refine wpW_last (fun QQ hQQ => ?_) (by rfl)
        go_wp2
        (refine hQQ.out _ _ ?_; clear hQQ QQ)
        refine wpW_name ?_
        intro q4 hq
        have hB4 : Below wc8.heap.size wc8 q4 := by rw [hq]; exact (hB3.setCell gx _).setCell gx _
        have n4x : BoxAt q4 q0.heap.size ((.slice b' L' c')) M' := by rw [hq]; exact n3x.set _ _
        have n4y : DuAt q4 q1.heap.size 0 0 0 0 := by rw [hq]; exact ((n3y.other exy.symm _).other exy.symm _)
        have r4 : Row .u8 q4 b' L' c' (pack X') := by rw [hq]; exact (r3.box n3x 0 _).box (n3x.set0 _) 1 _
        clear hq c0 c1 c2 c3
        obtain ⟨c0, c1, c2, c3, c4, c5, c6, c7⟩ := n4y.cells
        refine wpW_last (fun QQ hQQ => ?_) (by rfl)
        go_wp2
        (refine hQQ.out _ _ ?_; clear hQQ QQ)
        refine wpW_name ?_
        intro q5 hq
        have hB5 : Below wc8.heap.size wc8 q5 := by rw [hq]; exact (((hB4.setCell gy _).setCell gy _).setCell gy _).setCell gy _
        have n5x : BoxAt q5 q0.heap.size ((.slice b' L' c')) M' := by rw [hq]; exact ((((n4x.other exy _).other exy _).other exy _).other exy _)
        have n5y : DuAt q5 q1.heap.size (E'.k0 : Int) (E'.k1 : Int) (E'.s0 : Int) (E'.s1 : Int) := by rw [hq]; exact n4y.set _ _ _ _
        have r5 : Row .u8 q5 b' L' c' (pack X') := by rw [hq]; exact (((r4.boxD (.inl rfl) n4y 0 _).boxD (.inl rfl) (n4y.set0 _) 1 _).boxD (.inl rfl) ((n4y.set0 _).set1 _) 2 _).boxD (.inl rfl) (((n4y.set0 _).set1 _).set2 _) 3 _
        clear hq c0 c1 c2 c3 c4 c5 c6 c7
        (repeat (first | (apply wpW_light; (case h => (intro wa; (first | (go_big_quiet_skip; exact wpQuiet_nil rfl) | (go_big_quiet_want; go_big_quiet_op; go_big_quiet_on; exact wpQuiet_nil rfl))))) | (apply wpW_here; (case h => (first | (go_big_quiet_skip; exact wpQuiet_nil rfl) | (go_big_quiet_want; go_big_quiet_op; go_big_quiet_on; exact wpQuiet_nil rfl)))) | (apply wpW_held; (case hC => assumption); (case h => (intro wa hCa; simp only [] at hCa; (first | (go_big_quiet_skip; exact wpQuiet_nil rfl) | (go_big_quiet_want; go_big_quiet_op; go_big_quiet_on; exact wpQuiet_nil rfl)))))))
        refine wpW_nil ?_
        go_wp2_with (fail)
        go_meet
        exact ⟨_, _, b', c', rfl, rfl, rfl, by have := gy; omega, hS1.out.below hB5, hx12.below hB5 hl12x, n5x, n5y, r5⟩
      · simp only [pick, nth]
        refine wpW_name ?_
        intro q0 hq0
        have hB0 : Below wc8.heap.size wc8 q0 := by rw [hq0]; exact (Below.refl _ _).drew
        clear hq0
        (repeat (first | (apply wpW_light; (case h => (intro wa; (first | (go_big_quiet_skip; exact wpQuiet_nil rfl) | (go_big_quiet_want; go_big_quiet_op; go_big_quiet_on; exact wpQuiet_nil rfl))))) | (apply wpW_here; (case h => (first | (go_big_quiet_skip; exact wpQuiet_nil rfl) | (go_big_quiet_want; go_big_quiet_op; go_big_quiet_on; exact wpQuiet_nil rfl)))) | (apply wpW_held; (case hC => assumption); (case h => (intro wa hCa; (obtain ⟨t0, t1, t2, t3⟩ := (hS1.out.b.below hCa hbl).cells; obtain ⟨v0, v1, v2, v3, v4, v5, v6, v7⟩ := (hS1.out.n.below hCa hnl).cells; have hca := (Below.cell hCa (p := ⟨bl, ol + k, none⟩) hblt).trans hcell; clear hCa); (first | (go_big_quiet_skip; exact wpQuiet_nil rfl) | (go_big_quiet_want; go_big_quiet_op; go_big_quiet_on; exact wpQuiet_nil rfl)))))))
        refine wpW_act (fun QQ hQQ => ?_) (by rfl)
        go_wp2
        (refine hQQ _ _ ?hCn ?_; (case hCn => exact hB0.alloc hB0.size _); clear hQQ QQ)
        refine wpW_name ?_
        intro q1 hq
        have hB1 : Below wc8.heap.size wc8 q1 := by rw [hq]; exact hB0.alloc hB0.size _
        have hs : Below q0.heap.size q0 q1 := by rw [hq]; exact below1 q0 _
        have gy : wc8.heap.size ≤ q0.heap.size := hB0.size
        have n1y : DuAt q1 q0.heap.size 0 0 0 0 := by rw [hq]; exact duat1 q0 _ _ _ _
        clear hq hs
        refine wpW_act (fun QQ hQQ => ?_) (by rfl)
        go_wp2
        (refine hQQ _ _ ?hCn ?_; (case hCn => exact hB1.alloc hB1.size _); clear hQQ QQ)
        refine wpW_name ?_
        intro q2 hq
        have hB2 : Below wc8.heap.size wc8 q2 := by rw [hq]; exact hB1.alloc hB1.size _
        have hs : Below q1.heap.size q1 q2 := by rw [hq]; exact below1 q1 _
        have n2y := n1y.below hs n1y.lt
        have eyx : q0.heap.size ≠ q1.heap.size := Nat.ne_of_lt n1y.lt
        have gx : wc8.heap.size ≤ q1.heap.size := hB1.size
        have n2x : BoxAt q2 q1.heap.size (.slice none 0 0) 0 := by rw [hq]; exact box1 q1 _ _
        clear hq hs
        refine wpW_last (fun QQ hQQ => ?_) (by rfl)
        go_wp2_with (go_at_call 13; with_reducible refine (wr'.out _ ?h1).mono ?_; (case h1 => exact hS1.out.r.below hB2 (Nat.le_refl _)); rintro e q3 ⟨b', c', rfl, r3, hs⟩; have hB3 := hB2.trans (hs.mono hB2.size))
        (refine hQQ.out _ _ ?_; clear hQQ QQ)
        have n3y := n2y.below hs n2y.lt
        have n3x := n2x.below hs n2x.lt
        clear hs
        (repeat (first | (apply wpW_light; (case h => (intro wa; (first | (go_big_quiet_skip; exact wpQuiet_nil rfl) | (go_big_quiet_want; go_big_quiet_op; go_big_quiet_on; exact wpQuiet_nil rfl))))) | (apply wpW_here; (case h => (first | (go_big_quiet_skip; exact wpQuiet_nil rfl) | (go_big_quiet_want; go_big_quiet_op; go_big_quiet_on; exact wpQuiet_nil rfl)))) | (apply wpW_held; (case hC => assumption); (case h => (intro wa hCa; simp only [] at hCa; (first | (go_big_quiet_skip; exact wpQuiet_nil rfl) | (go_big_quiet_want; go_big_quiet_op; go_big_quiet_on; exact wpQuiet_nil rfl)))))))
        obtain ⟨c0, c1, c2, c3⟩ := n3x.cells
        refine wpW_last (fun QQ hQQ => ?_) (by rfl)
        go_wp2
        (refine hQQ.out _ _ ?_; clear hQQ QQ)
        refine wpW_name ?_
        intro q4 hq
        have hB4 : Below wc8.heap.size wc8 q4 := by rw [hq]; exact (hB3.setCell gx _).setCell gx _
        have n4y : DuAt q4 q0.heap.size 0 0 0 0 := by rw [hq]; exact ((n3y.other eyx _).other eyx _)
        have n4x : BoxAt q4 q1.heap.size ((.slice b' L' c')) M' := by rw [hq]; exact n3x.set _ _
        have r4 : Row .u8 q4 b' L' c' (pack X') := by rw [hq]; exact (r3.box n3x 0 _).box (n3x.set0 _) 1 _
        clear hq c0 c1 c2 c3
        obtain ⟨c0, c1, c2, c3, c4, c5, c6, c7⟩ := n4y.cells
        refine wpW_last (fun QQ hQQ => ?_) (by rfl)
        go_wp2
        (refine hQQ.out _ _ ?_; clear hQQ QQ)
        refine wpW_name ?_
        intro q5 hq
        have hB5 : Below wc8.heap.size wc8 q5 := by rw [hq]; exact (((hB4.setCell gy _).setCell gy _).setCell gy _).setCell gy _
        have n5y : DuAt q5 q0.heap.size (E'.k0 : Int) (E'.k1 : Int) (E'.s0 : Int) (E'.s1 : Int) := by rw [hq]; exact n4y.set _ _ _ _
        have n5x : BoxAt q5 q1.heap.size ((.slice b' L' c')) M' := by rw [hq]; exact ((((n4x.other eyx.symm _).other eyx.symm _).other eyx.symm _).other eyx.symm _)
        have r5 : Row .u8 q5 b' L' c' (pack X') := by rw [hq]; exact (((r4.boxD (.inl rfl) n4y 0 _).boxD (.inl rfl) (n4y.set0 _) 1 _).boxD (.inl rfl) ((n4y.set0 _).set1 _) 2 _).boxD (.inl rfl) (((n4y.set0 _).set1 _).set2 _) 3 _
        clear hq c0 c1 c2 c3 c4 c5 c6 c7
        (repeat (first | (apply wpW_light; (case h => (intro wa; (first | (go_big_quiet_skip; exact wpQuiet_nil rfl) | (go_big_quiet_want; go_big_quiet_op; go_big_quiet_on; exact wpQuiet_nil rfl))))) | (apply wpW_here; (case h => (first | (go_big_quiet_skip; exact wpQuiet_nil rfl) | (go_big_quiet_want; go_big_quiet_op; go_big_quiet_on; exact wpQuiet_nil rfl)))) | (apply wpW_held; (case hC => assumption); (case h => (intro wa hCa; simp only [] at hCa; (first | (go_big_quiet_skip; exact wpQuiet_nil rfl) | (go_big_quiet_want; go_big_quiet_op; go_big_quiet_on; exact wpQuiet_nil rfl)))))))
        refine wpW_nil ?_
        go_wp2_with (fail)
        go_meet
        exact ⟨_, _, b', c', rfl, rfl, rfl, by have := gy; omega, hS1.out.below hB5, hx12.below hB5 hl12x, n5x, n5y, r5⟩
    case rest =>
    obtain ⟨x14, x15, b', c', rfl, rfl, rfl, hn15, hS2, hx12', hx14, hx15, hr'⟩ := hcut
    clear hcell hblt hnl hbl hS1
    obtain ⟨wc9, hw⟩ : ∃ w, w = wc := ⟨_, rfl⟩
    subst hw
    have hS1 := Go.Lib.hid hS2
    obtain ⟨bl2, ol2, heq, hblt, hc⟩ := hS2.l.cells (by omega)
    cases heq
    have hcell := hc k hlt
    rw [hmk] at hcell
    have hnl := hS2.n.lt
    have hbl := hS2.b.lt
    clear hc hS2
    have hx14' := Go.Lib.hid hx14
    have hx15' := Go.Lib.hid hx15
    have hr2 := Go.Lib.hid hr'
    obtain ⟨a0, a1, a2, a3⟩ := hS1.out.b.cells
    obtain ⟨b0, b1, b2, b3, b4, b5, b6, b7⟩ := hS1.out.n.cells
    obtain ⟨e0, e1, e2, e3, e4, e5, e6, e7⟩ := hx12'.cells
    obtain ⟨f0, f1, f2, f3⟩ := hx14.cells
    obtain ⟨g0, g1, g2, g3, g4, g5, g6, g7⟩ := hx15.cells
    clear hx12 hx12' hx14 hx15 hr' hl12x
    go_wp2_with (first
      | (go_at_call 25; with_reducible refine (hcd.out _).mono ?_; rintro e p1 ⟨rfl, hp1⟩; have hSp := Go.Lib.hid (hS1.out.below hp1); have hx14p := Go.Lib.hid (hx14'.out.below hp1 hx14'.out.lt); have hx15p := Go.Lib.hid (hx15'.out.below hp1 hx15'.out.lt); have hrp := Go.Lib.hid (hr2.out.below hp1 (Nat.le_refl _)); have hcp := (Below.cell hp1 (p := ⟨bl, ol + k, none⟩) hblt).trans hcell; have hbp := Nat.lt_of_lt_of_le hblt hp1.size; obtain ⟨a0', a1', a2', a3'⟩ := hSp.out.b.cells; obtain ⟨b0', b1', b2', b3', b4', b5', b6', b7'⟩ := hSp.out.n.cells; obtain ⟨f0', f1', f2', f3'⟩ := hx14p.out.cells; obtain ⟨g0', g1', g2', g3', g4', g5', g6', g7'⟩ := hx15p.out.cells; clear hp1)
      | (go_at_call 14; with_reducible refine (rd.out _ _ _ ?h1).mono ?_; (case h1 => exact hrp.out); rintro e p2 ⟨rfl, hp2⟩; have hP : Below p1.heap.size p1 (p2.alloc (.cells #[.int .i64 E'.k0, .int .i64 E'.k1, .int .u64 E'.s0, .int .u64 E'.s1] 30)) := hp2.alloc hp2.size _; have hSq := Go.Lib.hid (hSp.out.below hP); have hx14q := Go.Lib.hid (hx14p.out.below hP hx14p.out.lt); have hx15q := Go.Lib.hid (hx15p.out.below hP hx15p.out.lt); have hrq := Go.Lib.hid (hrp.out.below hP (Nat.le_refl _)); have hcq := (Below.cell hP (p := ⟨bl, ol + k, none⟩) hbp).trans hcp; have hl15 := hx15p.out.lt; have hl14 := hx14p.out.lt; have hq1 : x15 < p2.heap.size := Nat.lt_of_lt_of_le hl15 hp2.size; have hq2 : x14 < p2.heap.size := Nat.lt_of_lt_of_le hl14 hp2.size; have hq3 : x15 ≠ p2.heap.size := Nat.ne_of_lt hq1; have hq4 : x14 ≠ p2.heap.size := Nat.ne_of_lt hq2; obtain ⟨f0', f1', f2', f3'⟩ := (hx14p.out.below hp2 hx14p.out.lt).cells; obtain ⟨g0', g1', g2', g3', g4', g5', g6', g7'⟩ := (hx15p.out.below hp2 hx15p.out.lt).cells; have hcr := (Below.cell hp2 (p := ⟨bl, ol + k, none⟩) hbp).trans hcp; have hbq : bl < p2.heap.size := Nat.lt_of_lt_of_le hbp hp2.size; have hbn : bl ≠ p2.heap.size := Nat.ne_of_lt hbq; clear hp2 hP))
    obtain ⟨q, hqe⟩ : ∃ q, q = p2.alloc (.cells #[.int .i64 E'.k0, .int .i64 E'.k1, .int .u64 E'.s0, .int .u64 E'.s1] 30) := ⟨_, rfl⟩
    rw [← hqe] at hSq hx14q hx15q hrq hcq ⊢
    clear hqe f0' f1' f2' f3' g0' g1' g2' g3' g4' g5' g6' g7' a0 a1 a2 a3 b0 b1 b2 b3 b4 b5 b6 b7 e0 e1 e2 e3 e4 e5 e6 e7 f0 f1 f2 f3 g0 g1 g2 g3 g4 g5 g6 g7 a0' a1' a2' a3' b0' b1' b2' b3' b4' b5' b6' b7' hcr hbq hbn hcp hbp
    refine wp_region_ord (fun w' => DuAt w' x15 (E'.k0 : Int) (E'.k1 : Int) (E'.s0 : Int) (E'.s1 : Int)) [(0, 1), (1, 2), (2, 3), (3, 4)] (by kernel_rfl) (by kernel_rfl) ?hC0 ?_
    case hC0 => exact hx15q.out.drew
    simp only [pick, nth]
    refine wpW_name ?_
    intro q0 hq0
    have hSd : SidesAt W aa len cap N D (some ⟨bl, ol, none⟩) ll cl l xb xn q0 au Ln cu M X E := by rw [hq0]; exact hSq.out.below (Below.refl _ _).drew
    have hx14d : BoxAt q0 x14 (.slice b' L' c') M' := by rw [hq0]; exact hx14q.out.drew
    have hx15d : DuAt q0 x15 (E'.k0 : Int) (E'.k1 : Int) (E'.s0 : Int) (E'.s1 : Int) := by rw [hq0]; exact hx15q.out.drew
    have hrd : Row .u8 q0 b' L' c' (pack X') := by rw [hq0]; exact hrq.out.below (Below.refl _ _).drew (Nat.le_refl _)
    clear hq0 hSq hx14q hx15q hrq hcq
    obtain ⟨f0, f1, f2, f3⟩ := hx14d.cells
    (repeat (first | (apply wpW_light; (case h => (intro wa; (first | (go_big_quiet_skip; exact wpQuiet_nil rfl) | (go_big_quiet_want; go_big_quiet_op; go_big_quiet_on; exact wpQuiet_nil rfl))))) | (apply wpW_here; (case h => (first | (go_big_quiet_skip; exact wpQuiet_nil rfl) | (go_big_quiet_want; go_big_quiet_op; go_big_quiet_on; exact wpQuiet_nil rfl)))) | (apply wpW_held; (case hC => assumption); (case h => (intro wa hCa; obtain ⟨u0, u1, u2, u3, u4, u5, u6, u7⟩ := hCa.cells; (first | (go_big_quiet_skip; exact wpQuiet_nil rfl) | (go_big_quiet_want; go_big_quiet_op; go_big_quiet_on; exact wpQuiet_nil rfl)))))))
    clear f0 f1 f2 f3
    obtain ⟨a0, a1, a2, a3⟩ := hSd.b.cells
    refine wpW_act (fun QQ hQQ => ?_) (by rfl)
    go_wp2
    (refine hQQ _ _ ?hCn ?_; (case hCn => exact (hx15d.other hn15.symm _).other hn15.symm _); clear hQQ QQ)
    refine wpW_name ?_
    intro q1 hq1
    have hSn : SidesAt W aa len cap N D (some ⟨bl, ol, none⟩) ll cl l xb xn (((((q1.setCell ⟨xn, 0, none⟩ (.int .i64 E'.k0)).setCell ⟨xn, 1, none⟩ (.int .i64 E'.k1)).setCell ⟨xn, 2, none⟩ (.int .u64 E'.s0)).setCell ⟨xn, 3, none⟩ (.int .u64 E'.s1))) b' L' c' M' X' E' := by rw [hq1]; exact hSd.next hx1 hx2 hne E' (M' := M') hrd
    have hnq : DuAt q1 xn (E.k0 : Int) (E.k1 : Int) (E.s0 : Int) (E.s1 : Int) := by rw [hq1]; exact (hSd.n.other hne.symm _).other hne.symm _
    clear hq1 a0 a1 a2 a3 hSd hrd hx14d hx15d
    obtain ⟨b0, b1, b2, b3, b4, b5, b6, b7⟩ := hnq.cells
    refine wpW_last (fun QQ hQQ => ?_) (by rfl)
    go_wp2
    (refine hQQ.out _ _ ?_; clear hQQ QQ)
    refine wpW_nil ?_
    go_wp2
    go_roundg (ll - (k + 1))
    case measure => (have hgo := hg'.out; omega)
    case rel =>
      refine ⟨k + 1, b', L', c', M', by omega, rfl, by go_num, by rw [hXX'.out, lX2.out], hL2.out, ?_⟩
      rw [hXX'.out, hta'.out]
      exact hSn
  · obtain rfl : k = ll := by omega
    obtain ⟨wb, hw⟩ : ∃ w, w = wr := ⟨_, rfl⟩
    subst hw
    have hmt : m.take k = m := List.take_of_length_le (by rw [hm'.out]; exact Nat.le_refl _)
    rw [hmt] at hS hM
    have hEo := hev.out k
    rw [hmt] at hEo
    obtain ⟨E, hE⟩ : ∃ E, E = after D m := ⟨_, rfl⟩
    obtain ⟨X, hX⟩ : ∃ X, X = F ++ codesD D m := ⟨_, rfl⟩
    rw [← hE, ← hX] at hS
    rw [← hX] at hM
    rw [← hE] at hEo
    have hE' := Go.Lib.hid hE
    have hX' := Go.Lib.hid hX
    have hM' := Go.Lib.hid hM
    have hS1 := Go.Lib.hid hS
    have hfl := hS.f.lt
    have hdl := hS.d.lt
    have hnl := hS.n.lt
    have hbl := hS.b.lt
    have hq := sameD_self E.k0 E.k1 E.s0 E.s1
    have hlt' : ¬ (k : Int) < (k : Int) := by omega
    clear hE hX hM hL hS hS' hg hg' hmt
    go_upto_region 16 with (fail)
    go_cut [21, 22] (fun s21 s22 wx => s21 = .int .i64 N ∧ ∃ x22 : Nat, s22 = .pointer (some ⟨x22, 0, none⟩) ∧ wb.heap.size ≤ x22 ∧ DuAt wx x22 (D.k0 : Int) (D.k1 : Int) (D.s0 : Int) (D.s1 : Int) ∧ Below wb.heap.size wb wx)
    case first =>
      refine wp_region_ord (fun w' => Below wb.heap.size wb w') [(0, 0), (1, 2), (2, 2), (3, 3), (4, 0), (5, 4)] (by kernel_rfl) (by kernel_rfl) ?hC0 ?_
      case hC0 => exact (Below.refl _ _).drew
      simp only [pick, nth]
      refine wpW_name ?_
      intro q0 hq0
      have hB0 : Below wb.heap.size wb q0 := by rw [hq0]; exact (Below.refl _ _).drew
      clear hq0
      (repeat (first | (apply wpW_light; (case h => (intro wa; (first | (go_big_quiet_skip; exact wpQuiet_nil rfl) | (go_big_quiet_want; go_big_quiet_op; go_big_quiet_on; exact wpQuiet_nil rfl))))) | (apply wpW_here; (case h => (first | (go_big_quiet_skip; exact wpQuiet_nil rfl) | (go_big_quiet_want; go_big_quiet_op; go_big_quiet_on; exact wpQuiet_nil rfl)))) | (apply wpW_held; (case hC => assumption); (case h => (intro wa hCa; (obtain ⟨u0, u1, u2, u3⟩ := (hS1.out.f.below hCa hfl).cells; obtain ⟨v0, v1, v2, v3, v4, v5, v6, v7⟩ := (hS1.out.d.below hCa hdl).cells; clear hCa); (first | (go_big_quiet_skip; exact wpQuiet_nil rfl) | (go_big_quiet_want; go_big_quiet_op; go_big_quiet_on; exact wpQuiet_nil rfl)))))))
      refine wpW_act (fun QQ hQQ => ?_) (by rfl)
      go_wp2
      (refine hQQ _ _ ?hCn ?_; (case hCn => exact hB0.alloc hB0.size _); clear hQQ QQ)
      refine wpW_name ?_
      intro q1 hq
      have hB1 : Below wb.heap.size wb q1 := by rw [hq]; exact hB0.alloc hB0.size _
      have hs : Below q0.heap.size q0 q1 := by rw [hq]; exact below1 q0 _
      have gx : wb.heap.size ≤ q0.heap.size := hB0.size
      have n1x : DuAt q1 q0.heap.size 0 0 0 0 := by rw [hq]; exact duat1 q0 _ _ _ _
      clear hq hs
      (repeat (first | (apply wpW_light; (case h => (intro wa; (first | (go_big_quiet_skip; exact wpQuiet_nil rfl) | (go_big_quiet_want; go_big_quiet_op; go_big_quiet_on; exact wpQuiet_nil rfl))))) | (apply wpW_here; (case h => (first | (go_big_quiet_skip; exact wpQuiet_nil rfl) | (go_big_quiet_want; go_big_quiet_op; go_big_quiet_on; exact wpQuiet_nil rfl)))) | (apply wpW_held; (case hC => assumption); (case h => (intro wa hCa; simp only [] at hCa; (first | (go_big_quiet_skip; exact wpQuiet_nil rfl) | (go_big_quiet_want; go_big_quiet_op; go_big_quiet_on; exact wpQuiet_nil rfl)))))))
      obtain ⟨c0, c1, c2, c3, c4, c5, c6, c7⟩ := n1x.cells
      refine wpW_last (fun QQ hQQ => ?_) (by rfl)
      go_wp2
      (refine hQQ.out _ _ ?_; clear hQQ QQ)
      refine wpW_name ?_
      intro q2 hq
      have hB2 : Below wb.heap.size wb q2 := by rw [hq]; exact (((hB1.setCell gx _).setCell gx _).setCell gx _).setCell gx _
      have n2x : DuAt q2 q0.heap.size (D.k0 : Int) (D.k1 : Int) (D.s0 : Int) (D.s1 : Int) := by rw [hq]; exact n1x.set _ _ _ _
      clear hq c0 c1 c2 c3 c4 c5 c6 c7
      refine wpW_nil ?_
      go_wp2_with (fail)
      go_meet
      exact ⟨rfl, _, rfl, gx, n2x, hB2⟩
    case rest =>
    obtain ⟨rfl, x22, rfl, hx22, hd22, hB22⟩ := hcut
    have hB22' := Go.Lib.hid hB22
    have hd22' := Go.Lib.hid hd22
    clear hB22 hd22
    go_wp2
    go_loopg [21, 23] k (fun g at_ i wx => ∃ j : Nat, j ≤ k ∧ g = k - j ∧ i = .int .i64 j ∧ at_ = .int .i64 ((F ++ codesD D (m.take j)).length : Nat) ∧ DuAt wx x22 ((after D (m.take j)).k0 : Int) ((after D (m.take j)).k1 : Int) ((after D (m.take j)).s0 : Int) ((after D (m.take j)).s1 : Int) ∧ Below wb.heap.size wb wx)
    case atStart =>
      refine ⟨0, Nat.zero_le _, rfl, rfl, by simp [codesD, hN'.out], ?_, hB22'.out⟩
      have e2 : after D (m.take 0) = D := by simp [after]
      rw [e2]
      exact hd22'.out
    case round =>
    obtain ⟨j, hj, hg, rfl, rfl, hdj, hBj⟩ := hrel
    by_cases hlt : j < k
    · have hltI : (j : Int) < k := by omega
      have hsp := codesD_split m D (show j < m.length by rw [hm'.out]; exact hlt)
      have hts := codesD_take_succ m D (show j < m.length by rw [hm'.out]; exact hlt)
      have hta := after_take_succ m D (show j < m.length by rw [hm'.out]; exact hlt)
      have hv32 := h32.out j hlt
      have hmk := hml'.out j hlt
      have hGo := hev.out j
      have hs0 := hsize.out j (by omega)
      have hs1 := hsize.out (j + 1) (by omega)
      obtain ⟨v, hv⟩ : ∃ v, v = m.getD j 0 := ⟨_, rfl⟩
      rw [← hv] at hsp hts hta hv32 hmk
      obtain ⟨G, hG⟩ : ∃ G, G = after D (m.take j) := ⟨_, rfl⟩
      rw [← hG] at hsp hts hta hGo hdj
      obtain ⟨G', hG'⟩ : ∃ G', G' = learnD G v := ⟨_, rfl⟩
      rw [← hG'] at hta
      have hlX : (F ++ codesD D (m.take (j + 1))).length = (F ++ codesD D (m.take j)).length + dualLen G v := by
        rw [hts, List.length_append, List.length_append, List.length_append, dualB_len]; omega
      have hXs : X = (F ++ codesD D (m.take j)) ++ dualB G v ++ codesD (after D (m.take (j + 1))) (m.drop (j + 1)) := by
        rw [hX'.out]; conv => lhs; rw [hsp]
        simp
      obtain ⟨Y, hY⟩ : ∃ Y, Y = F ++ codesD D (m.take j) := ⟨_, rfl⟩
      rw [← hY] at hlX hXs hs0
      obtain ⟨y, hy⟩ : ∃ y, y = Y.length := ⟨_, rfl⟩
      obtain ⟨y', hy'⟩ : ∃ y', y' = (F ++ codesD D (m.take (j + 1))).length := ⟨_, rfl⟩
      have rd : Hid (∀ w, Row .u8 w au Ln cu (pack X) → ResR 14 #[.agg #[.slice au Ln cu, .int .i64 M], .int .i64 y, .agg #[.int .i64 G.k0, .int .i64 G.k1, .int .u64 G.s0, .int .u64 G.s1]] w v y' G'.k0 G'.k1 G'.s0 G'.s1 0) := Go.Lib.hid fun w h => by
        have e := read_dual Y (codesD (after D (m.take (j + 1))) (m.drop (j + 1))) hv32 (d := G)
        rw [← hXs, ← hlX, ← hy', ← hy] at e
        have hyX : y ≤ X.length := by rw [hy, hXs, List.length_append, List.length_append]; omega
        have := DRead_ok w au Ln cu X y G h (by rw [← hM'.out]; omega) hyX hGo _ _ e
        rw [← hM'.out, ← hG'] at this
        exact this
      unfold ResR at rd
      have hyb : y ≤ 1472 := by omega
      have hyb' : y' ≤ 1472 := by omega
      have hta' := Go.Lib.hid hta
      have hy2 := Go.Lib.hid hy'
      have hS3 := hS1.out.below hBj
      obtain ⟨bl, ol, rfl, hblt, hc⟩ := hS3.l.cells (by omega)
      have hcell := hc j hlt
      rw [hmk] at hcell
      have hS2 := Go.Lib.hid hS3
      have hBj' := Go.Lib.hid hBj
      have hdj' := Go.Lib.hid hdj
      obtain ⟨a0, a1, a2, a3⟩ := hS3.b.cells
      obtain ⟨b0, b1, b2, b3, b4, b5, b6, b7⟩ := hdj.cells
      rw [← hY, ← hy]
      clear hsp hts hta hv hG hG' hlX hXs hY hy hy' hc hS3 hBj hdj hGo hs0 hs1
      go_wp2_with (go_at_call 14; with_reducible refine (rd.out _ ?h1).mono ?_; (case h1 => exact hS2.out.r); rintro e p2 ⟨rfl, hp2⟩; have hP : Below wr.heap.size wr (p2.alloc (.cells #[.int .i64 G'.k0, .int .i64 G'.k1, .int .u64 G'.s0, .int .u64 G'.s1] 30)) := hp2.alloc hp2.size _; have hBq := Go.Lib.hid (hBj'.out.trans (hP.mono hBj'.out.size)); have hdq := Go.Lib.hid (hdj'.out.below hP hdj'.out.lt); have hcr := (Below.cell hp2 (p := ⟨bl, ol + j, none⟩) hblt).trans hcell; have hbq : bl < p2.heap.size := Nat.lt_of_lt_of_le hblt hp2.size; have hbn : bl ≠ p2.heap.size := Nat.ne_of_lt hbq; clear hp2 hP)
      have hdz := Go.Lib.hid (duat1 p2 (G'.k0 : Int) (G'.k1 : Int) (G'.s0 : Int) (G'.s1 : Int))
      obtain ⟨q, hqe⟩ : ∃ q, q = p2.alloc (.cells #[.int .i64 G'.k0, .int .i64 G'.k1, .int .u64 G'.s0, .int .u64 G'.s1] 30) := ⟨_, rfl⟩
      obtain ⟨xz, hxz⟩ : ∃ x, x = p2.heap.size := ⟨_, rfl⟩
      rw [← hqe] at hBq hdq hdz ⊢
      rw [← hxz] at hdz
      try rw [← hxz]
      clear hqe hxz hcr hbq hbn a0 a1 a2 a3 b0 b1 b2 b3 b4 b5 b6 b7
      refine wp_region_ord (fun _ => True) [(0, 0), (1, 1), (2, 0), (3, 4)] (by kernel_rfl) (by kernel_rfl) ?hC0 ?_
      case hC0 => trivial
      simp only [pick, nth]
      refine wpW_name ?_
      intro q0 hq0
      have hz0 : DuAt q0 xz (G'.k0 : Int) (G'.k1 : Int) (G'.s0 : Int) (G'.s1 : Int) := by rw [hq0]; exact hdz.out.drew
      have hd0 : DuAt q0 x22 (G.k0 : Int) (G.k1 : Int) (G.s0 : Int) (G.s1 : Int) := by rw [hq0]; exact hdq.out.drew
      have hB0 : Below wb.heap.size wb q0 := by rw [hq0]; exact hBq.out.drew
      clear hq0 hdz hdq hBq
      obtain ⟨g0, g1, g2, g3, g4, g5, g6, g7⟩ := hz0.cells
      (repeat (first | (apply wpW_light; (case h => (intro wa; (first | (go_big_quiet_skip; exact wpQuiet_nil rfl) | (go_big_quiet_want; go_big_quiet_op; go_big_quiet_on; exact wpQuiet_nil rfl))))) | (apply wpW_here; (case h => (first | (go_big_quiet_skip; exact wpQuiet_nil rfl) | (go_big_quiet_want; go_big_quiet_op; go_big_quiet_on; exact wpQuiet_nil rfl)))) | (apply wpW_held; (case hC => assumption); (case h => (intro wa hCa; simp only [] at hCa; (first | (go_big_quiet_skip; exact wpQuiet_nil rfl) | (go_big_quiet_want; go_big_quiet_op; go_big_quiet_on; exact wpQuiet_nil rfl)))))))
      clear g0 g1 g2 g3 g4 g5 g6 g7
      obtain ⟨b0, b1, b2, b3, b4, b5, b6, b7⟩ := hd0.cells
      refine wpW_last (fun QQ hQQ => ?_) (by rfl)
      go_wp2
      (refine hQQ.out _ _ ?_; clear hQQ QQ)
      refine wpW_nil ?_
      go_wp2
      go_roundg (k - (j + 1))
      case measure => omega
      case rel =>
        refine ⟨j + 1, by omega, rfl, by go_num, by rw [hy2.out], ?_, ?_⟩
        · rw [hta'.out]; exact hd0.set _ _ _ _
        · exact outp hB0 hx22
    · obtain rfl : j = k := by omega
      have hmt : m.take j = m := List.take_of_length_le (by rw [hm'.out]; exact Nat.le_refl _)
      rw [hmt] at hdj ⊢
      rw [← hE'.out] at hdj
      rw [← hX'.out, ← hM'.out]
      have hS3 := hS1.out.below hBj
      have hS2 := Go.Lib.hid hS3
      obtain ⟨a0, a1, a2, a3⟩ := hS3.b.cells
      obtain ⟨c0, c1, c2, c3, c4, c5, c6, c7⟩ := hS3.n.cells
      obtain ⟨b0, b1, b2, b3, b4, b5, b6, b7⟩ := hdj.cells
      clear hdj hBj hS3 hmt
      go_wp2_with (go_at_call 17; refine (alive8_ok _).mono ?_; rintro e w5 ⟨rfl, hb5⟩; have hW5 := Go.Lib.hid (hS2.out.w.trans (hb5.mono hS2.out.w.size)); clear hb5)
      go_ret
      exact ⟨rfl, hW5.out⟩

theorem u32_nats {l : List Int} (h : ∀ x ∈ l, (Lit.int .u32 x).wf = true) : ∃ m : List Nat, m.length = l.length ∧ (∀ k, k < l.length → l.getD k 0 = ((m.getD k 0 : Nat) : Int)) ∧ ∀ x ∈ m, x < 4294967296 := by
  induction l with
  | nil => exact ⟨[], rfl, fun k hk => absurd hk (by simp), fun x hx => by cases hx⟩
  | cons a l ih =>
    obtain ⟨m, h1, h2, h3⟩ := ih fun x hx => h x (List.mem_cons_of_mem _ hx)
    obtain ⟨n, hn, hn32⟩ := nat_u32 (h a (List.mem_cons_self ..))
    refine ⟨n :: m, by simp [h1], fun k hk => ?_, fun x hx => ?_⟩
    · cases k with
      | zero => simpa using hn
      | succ k => simpa using h2 k (by simpa using hk)
    · rcases List.mem_cons.1 hx with rfl | hx
      · exact hn32
      · exact h3 x hx

theorem dualSides_walk (ax0_0 : Option Addr) (lenx0_0 capx0_0 : Nat) (zx0_0 : List Int) (x0_1 : Int) (x1_0 : Int) (x1_1 : Int) (x1_2 : Int) (x1_3 : Int) (ax2 : Option Addr) (lenx2 capx2 : Nat) (zx2 : List Int) (W : World) (wx0_0 : IsRow .u8 W ax0_0 lenx0_0 capx0_0 zx0_0) (wx0_1 : (Lit.int .i64 x0_1).wf = true) (wx1_0 : (Lit.int .i64 x1_0).wf = true) (wx1_1 : (Lit.int .i64 x1_1).wf = true) (wx1_2 : (Lit.int .u64 x1_2).wf = true) (wx1_3 : (Lit.int .u64 x1_3).wf = true) (wx2 : IsRow .u32 W ax2 lenx2 capx2 zx2) :
    Calls Try.prog 6 #[.agg #[.slice ax0_0 lenx0_0 capx0_0, .int .i64 x0_1], .agg #[.int .i64 x1_0, .int .i64 x1_1, .int .u64 x1_2, .int .u64 x1_3], .slice ax2 lenx2 capx2] W fun e w' => e = .returned (.bool true) ∧ Below W.heap.size W w' := by
  have hr := Row.of_isRow wx0_0
  have hl := Row.of_isRow wx2
  have hm := Nat.le_trans hl.hcap hl.hmax
  unfold maxLen at hm
  have hkk : ∃ r, chk (zx0_0.take lenx0_0) x0_1 r := by
    by_cases hv : Valid (zx0_0.take lenx0_0) x0_1
    · exact ⟨0, .inl ⟨hv, rfl⟩⟩
    · exact ⟨8, .inr ⟨hv, rfl⟩⟩
  obtain ⟨r, hk⟩ := hkk
  have hss : ∃ s, chkD x1_0 x1_1 x1_2 x1_3 s := by
    by_cases h : DuOk x1_0 x1_1 x1_2 x1_3
    · exact ⟨0, .inl ⟨h, rfl⟩⟩
    · exact ⟨8, .inr ⟨h, rfl⟩⟩
  obtain ⟨s, hs⟩ := hss
  have hr8 : r = 0 ∨ r = 8 := by rcases hk with ⟨_, h⟩ | ⟨_, h⟩ <;> simp [h]
  have hs8 : s = 0 ∨ s = 8 := by rcases hs with ⟨_, h⟩ | ⟨_, h⟩ <;> simp [h]
  by_cases h : r = 8 ∨ (r = 0 ∧ 500 < x0_1) ∨ (r = 0 ∧ ¬ 500 < x0_1 ∧ s = 8) ∨ (r = 0 ∧ ¬ 500 < x0_1 ∧ s = 0 ∧ (12 : Int) < lenx2)
  · exact dualSides_out W _ _ _ _ _ _ _ _ _ _ _ _ _ hr wx0_1 hl (by omega) r s hk hs wx1_0 wx1_1 wx1_2 wx1_3 h
  · rcases hk with ⟨⟨B, hB1, hB2, hB3⟩, rfl⟩ | ⟨_, rfl⟩
    · rcases hs with ⟨hd0, rfl⟩ | ⟨_, rfl⟩
      · obtain ⟨D, hD, rfl, rfl, rfl, rfl⟩ := du_of hd0 wx1_2 wx1_3
        obtain ⟨m, hm1, hm2, hm3⟩ := u32_nats hl.wf
        have hll := hl.hlen
        rw [hB3] at hr
        rw [← hB1] at h ⊢
        exact dualSides_in W _ _ _ B D _ _ _ _ m hr (by omega) hD hl (by omega) (by omega) (fun k hk => hm2 k (by omega)) hm3
      · omega
    · omega
end Go.Proofs.Ytenkhnlhoeahkaa
