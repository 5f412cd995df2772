/- CoderParts: the code of numbers begins with the code of the first ones; what is behind are the codes of the others. -/
import Derived.Test.YtifbigmgiakakaaZ9

namespace Go.Proofs.Ytifbigmgiakakaa
open Go.RowKit Cad

set_option maxRecDepth 100000 in
theorem coderParts_out (W : World) (al : Option Addr) (ll cl : Nat) (n : Int) (_hll : ll ≤ 9223372036854775807) (h : (100 : Int) < ll ∨ (¬ (100 : Int) < ll ∧ n < 0) ∨ (¬ (100 : Int) < ll ∧ ¬ n < 0 ∧ (ll : Int) < n)) :
    Calls Try.prog 7 #[.slice al ll cl, .int .i64 n] W fun e w' => e = .returned (.bool true) ∧ Below W.heap.size W w' := by
  have hWE0 := Go.Lib.hid (Below.refl W.heap.size W)
  rcases h with h1 | ⟨h1, h2⟩ | ⟨h1, h2, h3⟩
  · go_enter Try.func7, Try.ntmps7
    go_wp2_with (first
      | (go_at_call 16; refine (alive9_ok _).mono ?_; rintro e w1 ⟨rfl, hb1⟩; have hWE1 := Go.Lib.hid hWE0.out; have hW1 := Go.Lib.hid (hWE1.out.trans (hb1.mono hWE1.out.size)); clear hb1))
    go_ret
    exact ⟨rfl, hW1.out⟩
  · have d1 : decide ((100 : Int) < ll) = false := decide_eq_false h1
    go_enter Try.func7, Try.ntmps7
    go_wp2_with (first
      | (go_at_call 16; refine (alive9_ok _).mono ?_; rintro e w1 ⟨rfl, hb1⟩; have hWE1 := Go.Lib.hid hWE0.out; have hW1 := Go.Lib.hid (hWE1.out.trans (hb1.mono hWE1.out.size)); clear hb1))
    go_ret
    exact ⟨rfl, hW1.out⟩
  · have d1 : decide ((100 : Int) < ll) = false := decide_eq_false h1
    have d2 : decide (n < 0) = false := decide_eq_false h2
    go_enter Try.func7, Try.ntmps7
    go_wp2_with (first
      | (go_at_call 16; refine (alive9_ok _).mono ?_; rintro e w1 ⟨rfl, hb1⟩; have hWE1 := Go.Lib.hid hWE0.out; have hW1 := Go.Lib.hid (hWE1.out.trans (hb1.mono hWE1.out.size)); clear hb1))
    go_ret
    exact ⟨rfl, hW1.out⟩

set_option maxRecDepth 100000 in
set_option maxHeartbeats 40000000 in
theorem coderParts_in (W : World) (al : Option Addr) (ll cl : Nat) (l : List Int) (m : List Nat) (t : Nat) (hl : Row .u32 W al ll cl l) (h100 : ll ≤ 100) (hlm : l = m.map Int.ofNat) (hm : m.length = ll) (hm32 : ∀ x ∈ m, x < 4294967296) (ht : t ≤ ll) :
    Calls Try.prog 7 #[.slice al ll cl, .int .i64 t] W fun e w' => e = .returned (.bool true) ∧ Below W.heap.size W w' := by
  have hcap := hl.hcap
  have hWE0 := Go.Lib.hid (Below.refl W.heap.size W)
  have RE0_l := Go.Lib.hid hl
  obtain ⟨XA, hXA⟩ : ∃ Z, Z = codesD dStart m := ⟨_, rfl⟩
  obtain ⟨A, hA⟩ : ∃ A, A = XA.length := ⟨_, rfl⟩
  obtain ⟨La, hLa⟩ : ∃ q, q = (A + 7) / 8 := ⟨_, rfl⟩
  obtain ⟨EA, hEA⟩ : ∃ E, E = after dStart m := ⟨_, rfl⟩
  have t32 : ∀ k, ∀ x ∈ m.take k, x < 4294967296 := fun k x hx => hm32 x (List.mem_of_mem_take hx)
  have hsize : Hid (∀ k, k ≤ ll → (codesD dStart (m.take k)).length ≤ 8100) := Go.Lib.hid fun k hk => by
    have := codesD_len_le (m.take k) dStart_ok (t32 k)
    rw [List.length_take] at this
    have : min k m.length ≤ 100 := by omega
    omega
  have hev : Hid (∀ k, (after dStart (m.take k)).ok) := Go.Lib.hid fun k => after_ok _ dStart_ok (t32 k)
  have h32 : Hid (∀ k, k < ll → m.getD k 0 < 4294967296) := Go.Lib.hid fun k hk => hm32 _ (by rw [show m.getD k 0 = m[k] by simp [List.getD, show k < m.length by omega]]; exact List.getElem_mem _)
  have hml : Hid (∀ k, k < ll → l.getD k 0 = ((m.getD k 0 : Nat) : Int)) := Go.Lib.hid fun k hk => by rw [hlm]; exact natsD m (by omega)
  have en : Hid (∀ w, Row .u32 w al ll cl l → Res 11 #[.slice al ll cl] w La (pack XA) A 0) := Go.Lib.hid fun w h => by
    rw [hlm] at h
    have := PEncode_ok w al ll cl m h (by omega) hm hm32
    rw [← hXA, ← hA, ← hLa] at this
    exact this
  have af : Hid (∀ w, Row .u32 w al ll cl l → ResA 12 #[.slice al ll cl] w EA.k0 EA.k1 EA.s0 EA.s1 0) := Go.Lib.hid fun w h => by
    rw [hlm] at h
    rw [hEA]
    exact PAfter_m w al ll cl m h (by omega) hm hm32
  obtain ⟨Xt, hXt⟩ : ∃ Z, Z = codesD dStart (m.take t) := ⟨_, rfl⟩
  obtain ⟨Mt, hMt⟩ : ∃ A, A = Xt.length := ⟨_, rfl⟩
  obtain ⟨Lt, hLt⟩ : ∃ q, q = (Mt + 7) / 8 := ⟨_, rfl⟩
  obtain ⟨Et, hEt⟩ : ∃ E, E = after dStart (m.take t) := ⟨_, rfl⟩
  have lt : (m.take t).length = t := by rw [List.length_take]; omega
  have et : Hid (∀ w, Row .u32 w al ll cl l → Res 11 #[.slice al t cl] w Lt (pack Xt) Mt 0) := Go.Lib.hid fun w h => by
    have h' := h.take t ht
    rw [hlm, map_take] at h'
    have := PEncode_ok w al t cl (m.take t) h' (by omega) lt (t32 t)
    rw [← hXt, ← hMt, ← hLt] at this
    exact this
  have at_ : Hid (∀ w, Row .u32 w al ll cl l → ResA 12 #[.slice al t cl] w Et.k0 Et.k1 Et.s0 Et.s1 0) := Go.Lib.hid fun w h => by
    have h' := h.take t ht
    rw [hlm, map_take] at h'
    rw [hEt]
    exact PAfter_m w al t cl (m.take t) h' (by omega) lt (t32 t)
  have hEtok : Et.ok := by rw [hEt]; exact hev.out t
  have ck := Go.Lib.hid fun w => RdCheck_any w Et.k0 Et.k1 Et.s0 Et.s1 (du_wf hEtok).1 (du_wf hEtok).2.1 (du_wf hEtok).2.2.1 (du_wf hEtok).2.2.2 0 (.inl ⟨du_ok hEtok, rfl⟩)
  unfold Res at en et
  unfold ResA at af at_
  have hm' := Go.Lib.hid hm
  have hXA' := Go.Lib.hid hXA
  have hA' := Go.Lib.hid hA
  have hLa' := Go.Lib.hid hLa
  have hEA' := Go.Lib.hid hEA
  have hXt' := Go.Lib.hid hXt
  have hMt' := Go.Lib.hid hMt
  have hLt' := Go.Lib.hid hLt
  have hEt' := Go.Lib.hid hEt
  have d1 : decide ((100 : Int) < ll) = false := decide_eq_false (by omega)
  have d2 : decide ((t : Int) < 0) = false := decide_eq_false (by omega)
  have d3 : decide ((ll : Int) < t) = false := decide_eq_false (by omega)
  have hl1 : (ll : Int) ≤ 100 := by omega
  have htc : t ≤ cl := by omega
  clear hl hlm hm hm32 hXA hA hLa hEA hXt hMt hLt hEt lt t32 hEtok
  go_enter Try.func7, Try.ntmps7
  go_wp2_with (first
    | (go_at_call 11; ((with_reducible refine (en.out _ ?h1).mono ?_)); (case h1 => exact RE0_l.out); rintro e w1 ⟨b1, cp1, rfl, hr1, hb1⟩; have hWE1 := Go.Lib.hid hWE0.out; have hW1 := Go.Lib.hid (hWE1.out.trans (hb1.mono hWE1.out.size)); have R1_l := Go.Lib.hid (RE0_l.out.below hb1 (Nat.le_refl _)); have R1_a := Go.Lib.hid hr1; clear hr1; clear hb1)
    | (go_at_call 11; ((with_reducible refine (et.out _ ?h1).mono ?_)); (case h1 => exact (R1_l.out.below (below1 w1 (.cells #[(.slice b1 La cp1), .int .i64 A] 24)) (Nat.le_refl _))); rintro e w2 ⟨b2, cp2, rfl, hr2, hb2⟩; have hWE2 := Go.Lib.hid (hW1.out.alloc hW1.out.size (.cells #[(.slice b1 La cp1), .int .i64 A] 24)); have hW2 := Go.Lib.hid (hWE2.out.trans (hb2.mono hWE2.out.size)); have R2_l := Go.Lib.hid ((R1_l.out.below (below1 w1 (.cells #[(.slice b1 La cp1), .int .i64 A] 24)) (Nat.le_refl _)).below hb2 (Nat.le_refl _)); have R2_a := Go.Lib.hid ((R1_a.out.below (below1 w1 (.cells #[(.slice b1 La cp1), .int .i64 A] 24)) (Nat.le_refl _)).below hb2 (Nat.le_refl _)); have R2_b := Go.Lib.hid hr2; clear hr2; have BE2_a := Go.Lib.hid (box1 w1 (.slice b1 La cp1) A); have B2_a := Go.Lib.hid (BE2_a.out.below hb2 BE2_a.out.lt); obtain ⟨k2a0, k2a1, k2a2, k2a3⟩ := B2_a.out.cells; have l2a := B2_a.out.lt; have n2a : w1.heap.size ≠ w2.heap.size := (by omega); clear hb2)
    | (go_at_call 12; ((with_reducible refine (at_.out _ ?h1).mono ?_)); (case h1 => exact (R2_l.out.below (below1 w2 (.cells #[(.slice b2 Lt cp2), .int .i64 Mt] 24)) (Nat.le_refl _))); rintro e w3 ⟨rfl, hb3⟩; have hWE3 := Go.Lib.hid (hW2.out.alloc hW2.out.size (.cells #[(.slice b2 Lt cp2), .int .i64 Mt] 24)); have hW3 := Go.Lib.hid (hWE3.out.trans (hb3.mono hWE3.out.size)); have R3_l := Go.Lib.hid ((R2_l.out.below (below1 w2 (.cells #[(.slice b2 Lt cp2), .int .i64 Mt] 24)) (Nat.le_refl _)).below hb3 (Nat.le_refl _)); have R3_a := Go.Lib.hid ((R2_a.out.below (below1 w2 (.cells #[(.slice b2 Lt cp2), .int .i64 Mt] 24)) (Nat.le_refl _)).below hb3 (Nat.le_refl _)); have R3_b := Go.Lib.hid ((R2_b.out.below (below1 w2 (.cells #[(.slice b2 Lt cp2), .int .i64 Mt] 24)) (Nat.le_refl _)).below hb3 (Nat.le_refl _)); have BE3_a := Go.Lib.hid (B2_a.out.alloc (.cells #[(.slice b2 Lt cp2), .int .i64 Mt] 24)); have B3_a := Go.Lib.hid (BE3_a.out.below hb3 BE3_a.out.lt); obtain ⟨k3a0, k3a1, k3a2, k3a3⟩ := B3_a.out.cells; have BE3_b := Go.Lib.hid (box1 w2 (.slice b2 Lt cp2) Mt); have B3_b := Go.Lib.hid (BE3_b.out.below hb3 BE3_b.out.lt); obtain ⟨k3b0, k3b1, k3b2, k3b3⟩ := B3_b.out.cells; have l3a := B3_a.out.lt; have n3a : w1.heap.size ≠ w3.heap.size := (by omega); have l3b := B3_b.out.lt; have n3b : w2.heap.size ≠ w3.heap.size := (by omega); clear hb3)
    | (go_at_call 27; ((with_reducible refine (ck.out _).mono ?_)); rintro e w4 ⟨rfl, hb4⟩; have hWE4 := Go.Lib.hid (hW3.out.alloc hW3.out.size (.cells #[.int .i64 Et.k0, .int .i64 Et.k1, .int .u64 Et.s0, .int .u64 Et.s1] 31)); have hW4 := Go.Lib.hid (hWE4.out.trans (hb4.mono hWE4.out.size)); have R4_l := Go.Lib.hid ((R3_l.out.below (below1 w3 (.cells #[.int .i64 Et.k0, .int .i64 Et.k1, .int .u64 Et.s0, .int .u64 Et.s1] 31)) (Nat.le_refl _)).below hb4 (Nat.le_refl _)); have R4_a := Go.Lib.hid ((R3_a.out.below (below1 w3 (.cells #[.int .i64 Et.k0, .int .i64 Et.k1, .int .u64 Et.s0, .int .u64 Et.s1] 31)) (Nat.le_refl _)).below hb4 (Nat.le_refl _)); have R4_b := Go.Lib.hid ((R3_b.out.below (below1 w3 (.cells #[.int .i64 Et.k0, .int .i64 Et.k1, .int .u64 Et.s0, .int .u64 Et.s1] 31)) (Nat.le_refl _)).below hb4 (Nat.le_refl _)); have BE4_a := Go.Lib.hid (B3_a.out.alloc (.cells #[.int .i64 Et.k0, .int .i64 Et.k1, .int .u64 Et.s0, .int .u64 Et.s1] 31)); have B4_a := Go.Lib.hid (BE4_a.out.below hb4 BE4_a.out.lt); obtain ⟨k4a0, k4a1, k4a2, k4a3⟩ := B4_a.out.cells; have BE4_b := Go.Lib.hid (B3_b.out.alloc (.cells #[.int .i64 Et.k0, .int .i64 Et.k1, .int .u64 Et.s0, .int .u64 Et.s1] 31)); have B4_b := Go.Lib.hid (BE4_b.out.below hb4 BE4_b.out.lt); obtain ⟨k4b0, k4b1, k4b2, k4b3⟩ := B4_b.out.cells; have BE4_n := Go.Lib.hid (duat1 w3 Et.k0 Et.k1 Et.s0 Et.s1); have B4_n := Go.Lib.hid (BE4_n.out.below hb4 BE4_n.out.lt); obtain ⟨k4n0, k4n1, k4n2, k4n3, k4n4, k4n5, k4n6, k4n7⟩ := B4_n.out.cells; clear hb4))
  obtain ⟨xa, hxa⟩ : ∃ x, x = w1.heap.size := ⟨_, rfl⟩
  obtain ⟨xb, hxb⟩ : ∃ x, x = w2.heap.size := ⟨_, rfl⟩
  obtain ⟨xn, hxn⟩ : ∃ x, x = w3.heap.size := ⟨_, rfl⟩
  have hne : xb ≠ xn := by rw [hxb, hxn]; have := BE3_b.out.lt; have := B3_b.out.lt; omega
  have hab : xa ≠ xb := by rw [hxa, hxb]; have := B2_a.out.lt; omega
  have han : xa ≠ xn := by rw [hxa, hxn]; have := B3_a.out.lt; omega
  have hx1 : W.heap.size ≤ xb := by rw [hxb]; exact hW2.out.size
  have hx2 : W.heap.size ≤ xn := by rw [hxn]; exact hW3.out.size
  have hS0 : PartsAt W al ll cl l xa b1 La cp1 A XA xb xn w4 b2 Lt cp2 Mt Xt Et := by
    rw [hxa, hxb, hxn]
    exact ⟨B4_a.out, R4_a.out, B4_b.out, B4_n.out, R4_b.out, R4_l.out, hW4.out⟩
  obtain ⟨ba, hba⟩ : ∃ x, x = b1 := ⟨_, rfl⟩
  obtain ⟨ca, hca⟩ : ∃ x, x = cp1 := ⟨_, rfl⟩
  rw [← hba, ← hca] at hS0
  have hS0' := Go.Lib.hid hS0
  try rw [← hxa]
  try rw [← hxb]
  try rw [← hxn]
  clear hS0 hxa hxb hxn hba hca hW1 hW2 hW3 hW4 hWE0 hWE1 hWE2 hWE3 hWE4 RE0_l R1_l R2_l R3_l R4_l R1_a R2_a R3_a R4_a R2_b R3_b R4_b BE2_a BE3_a BE4_a BE3_b BE4_b BE4_n B2_a B3_a B4_a B3_b B4_b B4_n k2a0 k2a1 k2a2 k2a3 k3a0 k3a1 k3a2 k3a3 k3b0 k3b1 k3b2 k3b3 k4a0 k4a1 k4a2 k4a3 k4b0 k4b1 k4b2 k4b3 k4n0 k4n1 k4n2 k4n3 k4n4 k4n5 k4n6 k4n7 en et at_ ck
  go_wp2
  go_loopg [11] (ll - t) (fun g i wr => ∃ (k : Nat) (au : Option Addr) (Ln cu M : Nat), t ≤ k ∧ k ≤ ll ∧ g = ll - k ∧ i = .int .i64 k ∧ M = (codesD dStart (m.take k)).length ∧ Ln = (M + 7) / 8 ∧ PartsAt W al ll cl l xa ba La ca A XA xb xn wr au Ln cu M (codesD dStart (m.take k)) (after dStart (m.take k)))
  case atStart =>
    refine ⟨t, b2, Lt, cp2, Mt, Nat.le_refl _, ht, rfl, rfl, by rw [← hXt'.out]; exact hMt'.out, hLt'.out, ?_⟩
    rw [← hXt'.out, ← hEt'.out]
    exact hS0'.out
  case round =>
  obtain ⟨k, au, Ln, cu, M, htk, hk, hg, rfl, hM, hL, hS⟩ := hrel
  have hMb : M ≤ 8100 := by rw [hM]; exact hsize.out k hk
  have hg' := Go.Lib.hid hg
  clear hg hS0'
  by_cases hlt : k < ll
  · have hlt' : (k : Int) < ll := by omega
    have hts := codesD_take_succ m dStart (show k < m.length by rw [hm'.out]; exact hlt)
    have hta := after_take_succ m dStart (show k < m.length by rw [hm'.out]; exact hlt)
    have hv32 := h32.out k hlt
    have hmk := hml.out k hlt
    have hEo := hev.out k
    obtain ⟨v, hv⟩ : ∃ v, v = m.getD k 0 := ⟨_, rfl⟩
    rw [← hv] at hts hta hv32 hmk
    have hs1 := hsize.out (k + 1) (by omega)
    obtain ⟨E, hE⟩ : ∃ E, E = after dStart (m.take k) := ⟨_, rfl⟩
    obtain ⟨X, hX⟩ : ∃ X, X = codesD dStart (m.take k) := ⟨_, rfl⟩
    rw [← hE] at hts hta hEo hS
    rw [← hX] at hM hS hts
    obtain ⟨E', hE'⟩ : ∃ E', E' = learnD E v := ⟨_, rfl⟩
    obtain ⟨X', hX'⟩ : ∃ X', X' = X ++ dualB E v := ⟨_, rfl⟩
    obtain ⟨T, hT⟩ : ∃ T, T = dualLen E v := ⟨_, rfl⟩
    obtain ⟨M', hM'⟩ : ∃ M', M' = M + T := ⟨_, rfl⟩
    obtain ⟨L', hL'⟩ : ∃ L', L' = (M' + 7) / 8 := ⟨_, rfl⟩
    rw [← hE'] at hta
    rw [← hX'] at hts
    rw [hts] at hs1
    have lX' : X'.length = M' := by rw [hX', List.length_append, dualB_len, ← hM, hM', hT]
    have wr' : Hid (∀ w, Row .u8 w au Ln cu (pack X) → ResD 28 #[.agg #[.slice au Ln cu, .int .i64 M], .agg #[.int .i64 E.k0, .int .i64 E.k1, .int .u64 E.s0, .int .u64 E.s1], .int .u32 v] w L' (pack X') M' E'.k0 E'.k1 E'.s0 E'.s1 0) := Go.Lib.hid fun w h => by
      have := DWrite_ok w au Ln cu X E v h (by omega) hEo hv32
      rw [← hM, ← hT, ← hM', ← hL', ← hX', ← hE'] at this
      exact this
    unfold ResD at wr'
    have hts' := Go.Lib.hid hts
    have hta' := Go.Lib.hid hta
    have lX2 := Go.Lib.hid lX'
    have hL2 := Go.Lib.hid hL'
    have hS1 := Go.Lib.hid hS
    obtain ⟨bl, ol, heq, hblt, hc⟩ := hS.l.cells (by omega)
    subst heq
    have hcell := hc k hlt
    rw [hmk] at hcell
    have hnl := hS.n.lt
    have hbl := hS.b.lt
    obtain ⟨w9, hw⟩ : ∃ w, w = wr := ⟨_, rfl⟩
    subst hw
    clear hts hta hX hE hE' hX' hT hM' hL' hv hmk hEo hv32 hs1 lX' hM hL hc hS hMb
    go_upto_region 11 with (fail)
    go_cut [12, 13, 14] (fun s12 s13 s14 wx => ∃ (x14 x15 : Nat) (b' : Option Addr) (c' : Nat), s12 = .pointer (some ⟨x14, 0, none⟩) ∧ s13 = .pointer (some ⟨x15, 0, none⟩) ∧ s14 = .int .i64 0 ∧ xb ≠ x15 ∧ PartsAt W (some ⟨bl, ol, none⟩) ll cl l xa ba La ca A XA xb xn wx au Ln cu M X E ∧ BoxAt wx x14 (.slice b' L' c') M' ∧ DuAt wx x15 (E'.k0 : Int) (E'.k1 : Int) (E'.s0 : Int) (E'.s1 : Int) ∧ Row .u8 wx b' L' c' (pack X'))
    case first =>
      refine wp_region_ord6 (fun w' => Below w9.heap.size w9 w') 6 11 12 [(2, 0), (3, 0), (4, 0), (0, 2), (1, 2), (5, 2), (6, 4), (7, 0), (8, 0), (9, 0), (10, 0), (11, 4), (12, 4), (13, 4), (14, 4), (15, 0)] [(2, 0), (3, 0), (4, 0), (0, 2), (1, 2), (5, 2), (6, 4), (7, 0), (8, 0), (9, 0), (10, 0), (12, 4), (11, 4), (13, 4), (14, 4), (15, 0)] [(2, 0), (3, 0), (4, 0), (0, 2), (1, 2), (5, 2), (12, 3), (6, 4), (7, 0), (8, 0), (9, 0), (10, 0), (11, 4), (13, 4), (14, 4), (15, 0)] [(2, 0), (3, 0), (4, 0), (0, 2), (1, 2), (5, 2), (11, 3), (6, 4), (7, 0), (8, 0), (9, 0), (10, 0), (12, 4), (13, 4), (14, 4), (15, 0)] [(2, 0), (3, 0), (4, 0), (0, 2), (1, 2), (5, 2), (11, 3), (12, 3), (6, 4), (7, 0), (8, 0), (9, 0), (10, 0), (13, 4), (14, 4), (15, 0)] [(2, 0), (3, 0), (4, 0), (0, 2), (1, 2), (5, 2), (12, 3), (11, 3), (6, 4), (7, 0), (8, 0), (9, 0), (10, 0), (13, 4), (14, 4), (15, 0)] (by kernel_rfl) (by decide) (by kernel_rfl) (by kernel_rfl) (by kernel_rfl) (by kernel_rfl) (by kernel_rfl) (by kernel_rfl) ?hC0 ?_ ?_ ?_ ?_ ?_ ?_
      case hC0 => exact (Below.refl _ _).drew
      · simp only [pick, nth]
        refine wpW_name ?_
        intro q0 hq0
        have hB0 : Below w9.heap.size w9 q0 := by rw [hq0]; exact (Below.refl _ _).drew
        clear hq0
        (repeat (first | (apply wpW_light; (case h => (intro wa; (first | (go_big_quiet_skip; exact wpQuiet_nil rfl) | (go_big_quiet_want; go_big_quiet_op; go_big_quiet_on; exact wpQuiet_nil rfl))))) | (apply wpW_here; (case h => (first | (go_big_quiet_skip; exact wpQuiet_nil rfl) | (go_big_quiet_want; go_big_quiet_op; go_big_quiet_on; exact wpQuiet_nil rfl)))) | (apply wpW_held; (case hC => assumption); (case h => (intro wa hCa; (obtain ⟨t0, t1, t2, t3⟩ := (hS1.out.b.below hCa hbl).cells; obtain ⟨v0, v1, v2, v3, v4, v5, v6, v7⟩ := (hS1.out.n.below hCa hnl).cells; have hcl := (Below.cell hCa (p := ⟨bl, ol + k, none⟩) hblt).trans hcell; clear hCa); (first | (go_big_quiet_skip; exact wpQuiet_nil rfl) | (go_big_quiet_want; go_big_quiet_op; go_big_quiet_on; exact wpQuiet_nil rfl)))))))
        refine wpW_last (fun QQ hQQ => ?_) (by rfl)
        go_wp2_with (go_at_call 28; with_reducible refine (wr'.out _ ?h1).mono ?_; (case h1 => exact hS1.out.r.below hB0 (Nat.le_refl _)); rintro e q1 ⟨b', c', rfl, r1, hs⟩; have hB1 := hB0.trans (hs.mono hB0.size))
        (refine hQQ.out _ _ ?_; clear hQQ QQ)
        clear hs
        (repeat (first | (apply wpW_light; (case h => (intro wa; (first | (go_big_quiet_skip; exact wpQuiet_nil rfl) | (go_big_quiet_want; go_big_quiet_op; go_big_quiet_on; exact wpQuiet_nil rfl))))) | (apply wpW_here; (case h => (first | (go_big_quiet_skip; exact wpQuiet_nil rfl) | (go_big_quiet_want; go_big_quiet_op; go_big_quiet_on; exact wpQuiet_nil rfl)))) | (apply wpW_held; (case hC => assumption); (case h => (intro wa hCa; simp only [] at hCa; (first | (go_big_quiet_skip; exact wpQuiet_nil rfl) | (go_big_quiet_want; go_big_quiet_op; go_big_quiet_on; exact wpQuiet_nil rfl)))))))
        refine wpW_last (fun QQ hQQ => ?_) (by rfl)
        go_wp2
        (refine hQQ.out _ _ ?_; clear hQQ QQ)
        refine wpW_name ?_
        intro q2 hq
        have hB2 : Below w9.heap.size w9 q2 := by rw [hq]; exact hB1.alloc hB1.size _
        have hs : Below q1.heap.size q1 q2 := by rw [hq]; exact below1 q1 _
        have r2 := r1.below hs (Nat.le_refl _)
        have gx : w9.heap.size ≤ q1.heap.size := hB1.size
        have n2x : BoxAt q2 q1.heap.size (.slice none 0 0) 0 := by rw [hq]; exact box1 q1 _ _
        clear hq hs
        refine wpW_last (fun QQ hQQ => ?_) (by rfl)
        go_wp2
        (refine hQQ.out _ _ ?_; clear hQQ QQ)
        refine wpW_name ?_
        intro q3 hq
        have hB3 : Below w9.heap.size w9 q3 := by rw [hq]; exact hB2.alloc hB2.size _
        have hs : Below q2.heap.size q2 q3 := by rw [hq]; exact below1 q2 _
        have n3x := n2x.below hs n2x.lt
        have r3 := r2.below hs (Nat.le_refl _)
        have exy : q1.heap.size ≠ q2.heap.size := Nat.ne_of_lt n2x.lt
        have gy : w9.heap.size ≤ q2.heap.size := hB2.size
        have n3y : DuAt q3 q2.heap.size 0 0 0 0 := by rw [hq]; exact duat1 q2 _ _ _ _
        clear hq hs
        obtain ⟨c0, c1, c2, c3⟩ := n3x.cells
        refine wpW_last (fun QQ hQQ => ?_) (by rfl)
        go_wp2
        (refine hQQ.out _ _ ?_; clear hQQ QQ)
        refine wpW_name ?_
        intro q4 hq
        have hB4 : Below w9.heap.size w9 q4 := by rw [hq]; exact (hB3.setCell gx _).setCell gx _
        have n4x : BoxAt q4 q1.heap.size ((.slice b' L' c')) M' := by rw [hq]; exact n3x.set _ _
        have n4y : DuAt q4 q2.heap.size 0 0 0 0 := by rw [hq]; exact ((n3y.other exy.symm _).other exy.symm _)
        have r4 : Row .u8 q4 b' L' c' (pack X') := by rw [hq]; exact (r3.box n3x 0 _).box (n3x.set0 _) 1 _
        clear hq c0 c1 c2 c3
        obtain ⟨c0, c1, c2, c3, c4, c5, c6, c7⟩ := n4y.cells
        refine wpW_last (fun QQ hQQ => ?_) (by rfl)
        go_wp2
        (refine hQQ.out _ _ ?_; clear hQQ QQ)
        refine wpW_name ?_
        intro q5 hq
        have hB5 : Below w9.heap.size w9 q5 := by rw [hq]; exact (((hB4.setCell gy _).setCell gy _).setCell gy _).setCell gy _
        have n5x : BoxAt q5 q1.heap.size ((.slice b' L' c')) M' := by rw [hq]; exact ((((n4x.other exy _).other exy _).other exy _).other exy _)
        have n5y : DuAt q5 q2.heap.size (E'.k0 : Int) (E'.k1 : Int) (E'.s0 : Int) (E'.s1 : Int) := by rw [hq]; exact n4y.set _ _ _ _
        have r5 : Row .u8 q5 b' L' c' (pack X') := by rw [hq]; exact (((r4.boxD (.inl rfl) n4y 0 _).boxD (.inl rfl) (n4y.set0 _) 1 _).boxD (.inl rfl) ((n4y.set0 _).set1 _) 2 _).boxD (.inl rfl) (((n4y.set0 _).set1 _).set2 _) 3 _
        clear hq c0 c1 c2 c3 c4 c5 c6 c7
        (repeat (first | (apply wpW_light; (case h => (intro wa; (first | (go_big_quiet_skip; exact wpQuiet_nil rfl) | (go_big_quiet_want; go_big_quiet_op; go_big_quiet_on; exact wpQuiet_nil rfl))))) | (apply wpW_here; (case h => (first | (go_big_quiet_skip; exact wpQuiet_nil rfl) | (go_big_quiet_want; go_big_quiet_op; go_big_quiet_on; exact wpQuiet_nil rfl)))) | (apply wpW_held; (case hC => assumption); (case h => (intro wa hCa; simp only [] at hCa; (first | (go_big_quiet_skip; exact wpQuiet_nil rfl) | (go_big_quiet_want; go_big_quiet_op; go_big_quiet_on; exact wpQuiet_nil rfl)))))))
        refine wpW_nil ?_
        go_wp2_with (fail)
        go_meet
        exact ⟨_, _, b', c', rfl, rfl, rfl, by have := gy; omega, hS1.out.below hB5, n5x, n5y, r5⟩
      · simp only [pick, nth]
        refine wpW_name ?_
        intro q0 hq0
        have hB0 : Below w9.heap.size w9 q0 := by rw [hq0]; exact (Below.refl _ _).drew
        clear hq0
        (repeat (first | (apply wpW_light; (case h => (intro wa; (first | (go_big_quiet_skip; exact wpQuiet_nil rfl) | (go_big_quiet_want; go_big_quiet_op; go_big_quiet_on; exact wpQuiet_nil rfl))))) | (apply wpW_here; (case h => (first | (go_big_quiet_skip; exact wpQuiet_nil rfl) | (go_big_quiet_want; go_big_quiet_op; go_big_quiet_on; exact wpQuiet_nil rfl)))) | (apply wpW_held; (case hC => assumption); (case h => (intro wa hCa; (obtain ⟨t0, t1, t2, t3⟩ := (hS1.out.b.below hCa hbl).cells; obtain ⟨v0, v1, v2, v3, v4, v5, v6, v7⟩ := (hS1.out.n.below hCa hnl).cells; have hcl := (Below.cell hCa (p := ⟨bl, ol + k, none⟩) hblt).trans hcell; clear hCa); (first | (go_big_quiet_skip; exact wpQuiet_nil rfl) | (go_big_quiet_want; go_big_quiet_op; go_big_quiet_on; exact wpQuiet_nil rfl)))))))
        refine wpW_last (fun QQ hQQ => ?_) (by rfl)
        go_wp2_with (go_at_call 28; with_reducible refine (wr'.out _ ?h1).mono ?_; (case h1 => exact hS1.out.r.below hB0 (Nat.le_refl _)); rintro e q1 ⟨b', c', rfl, r1, hs⟩; have hB1 := hB0.trans (hs.mono hB0.size))
        (refine hQQ.out _ _ ?_; clear hQQ QQ)
        clear hs
        (repeat (first | (apply wpW_light; (case h => (intro wa; (first | (go_big_quiet_skip; exact wpQuiet_nil rfl) | (go_big_quiet_want; go_big_quiet_op; go_big_quiet_on; exact wpQuiet_nil rfl))))) | (apply wpW_here; (case h => (first | (go_big_quiet_skip; exact wpQuiet_nil rfl) | (go_big_quiet_want; go_big_quiet_op; go_big_quiet_on; exact wpQuiet_nil rfl)))) | (apply wpW_held; (case hC => assumption); (case h => (intro wa hCa; simp only [] at hCa; (first | (go_big_quiet_skip; exact wpQuiet_nil rfl) | (go_big_quiet_want; go_big_quiet_op; go_big_quiet_on; exact wpQuiet_nil rfl)))))))
        refine wpW_last (fun QQ hQQ => ?_) (by rfl)
        go_wp2
        (refine hQQ.out _ _ ?_; clear hQQ QQ)
        refine wpW_name ?_
        intro q2 hq
        have hB2 : Below w9.heap.size w9 q2 := by rw [hq]; exact hB1.alloc hB1.size _
        have hs : Below q1.heap.size q1 q2 := by rw [hq]; exact below1 q1 _
        have r2 := r1.below hs (Nat.le_refl _)
        have gy : w9.heap.size ≤ q1.heap.size := hB1.size
        have n2y : DuAt q2 q1.heap.size 0 0 0 0 := by rw [hq]; exact duat1 q1 _ _ _ _
        clear hq hs
        refine wpW_last (fun QQ hQQ => ?_) (by rfl)
        go_wp2
        (refine hQQ.out _ _ ?_; clear hQQ QQ)
        refine wpW_name ?_
        intro q3 hq
        have hB3 : Below w9.heap.size w9 q3 := by rw [hq]; exact hB2.alloc hB2.size _
        have hs : Below q2.heap.size q2 q3 := by rw [hq]; exact below1 q2 _
        have n3y := n2y.below hs n2y.lt
        have r3 := r2.below hs (Nat.le_refl _)
        have eyx : q1.heap.size ≠ q2.heap.size := Nat.ne_of_lt n2y.lt
        have gx : w9.heap.size ≤ q2.heap.size := hB2.size
        have n3x : BoxAt q3 q2.heap.size (.slice none 0 0) 0 := by rw [hq]; exact box1 q2 _ _
        clear hq hs
        obtain ⟨c0, c1, c2, c3⟩ := n3x.cells
        refine wpW_last (fun QQ hQQ => ?_) (by rfl)
        go_wp2
        (refine hQQ.out _ _ ?_; clear hQQ QQ)
        refine wpW_name ?_
        intro q4 hq
        have hB4 : Below w9.heap.size w9 q4 := by rw [hq]; exact (hB3.setCell gx _).setCell gx _
        have n4y : DuAt q4 q1.heap.size 0 0 0 0 := by rw [hq]; exact ((n3y.other eyx _).other eyx _)
        have n4x : BoxAt q4 q2.heap.size ((.slice b' L' c')) M' := by rw [hq]; exact n3x.set _ _
        have r4 : Row .u8 q4 b' L' c' (pack X') := by rw [hq]; exact (r3.box n3x 0 _).box (n3x.set0 _) 1 _
        clear hq c0 c1 c2 c3
        obtain ⟨c0, c1, c2, c3, c4, c5, c6, c7⟩ := n4y.cells
        refine wpW_last (fun QQ hQQ => ?_) (by rfl)
        go_wp2
        (refine hQQ.out _ _ ?_; clear hQQ QQ)
        refine wpW_name ?_
        intro q5 hq
        have hB5 : Below w9.heap.size w9 q5 := by rw [hq]; exact (((hB4.setCell gy _).setCell gy _).setCell gy _).setCell gy _
        have n5y : DuAt q5 q1.heap.size (E'.k0 : Int) (E'.k1 : Int) (E'.s0 : Int) (E'.s1 : Int) := by rw [hq]; exact n4y.set _ _ _ _
        have n5x : BoxAt q5 q2.heap.size ((.slice b' L' c')) M' := by rw [hq]; exact ((((n4x.other eyx.symm _).other eyx.symm _).other eyx.symm _).other eyx.symm _)
        have r5 : Row .u8 q5 b' L' c' (pack X') := by rw [hq]; exact (((r4.boxD (.inl rfl) n4y 0 _).boxD (.inl rfl) (n4y.set0 _) 1 _).boxD (.inl rfl) ((n4y.set0 _).set1 _) 2 _).boxD (.inl rfl) (((n4y.set0 _).set1 _).set2 _) 3 _
        clear hq c0 c1 c2 c3 c4 c5 c6 c7
        (repeat (first | (apply wpW_light; (case h => (intro wa; (first | (go_big_quiet_skip; exact wpQuiet_nil rfl) | (go_big_quiet_want; go_big_quiet_op; go_big_quiet_on; exact wpQuiet_nil rfl))))) | (apply wpW_here; (case h => (first | (go_big_quiet_skip; exact wpQuiet_nil rfl) | (go_big_quiet_want; go_big_quiet_op; go_big_quiet_on; exact wpQuiet_nil rfl)))) | (apply wpW_held; (case hC => assumption); (case h => (intro wa hCa; simp only [] at hCa; (first | (go_big_quiet_skip; exact wpQuiet_nil rfl) | (go_big_quiet_want; go_big_quiet_op; go_big_quiet_on; exact wpQuiet_nil rfl)))))))
        refine wpW_nil ?_
        go_wp2_with (fail)
        go_meet
        exact ⟨_, _, b', c', rfl, rfl, rfl, by have := gy; omega, hS1.out.below hB5, n5x, n5y, r5⟩
      · simp only [pick, nth]
        refine wpW_name ?_
        intro q0 hq0
        have hB0 : Below w9.heap.size w9 q0 := by rw [hq0]; exact (Below.refl _ _).drew
        clear hq0
        (repeat (first | (apply wpW_light; (case h => (intro wa; (first | (go_big_quiet_skip; exact wpQuiet_nil rfl) | (go_big_quiet_want; go_big_quiet_op; go_big_quiet_on; exact wpQuiet_nil rfl))))) | (apply wpW_here; (case h => (first | (go_big_quiet_skip; exact wpQuiet_nil rfl) | (go_big_quiet_want; go_big_quiet_op; go_big_quiet_on; exact wpQuiet_nil rfl)))) | (apply wpW_held; (case hC => assumption); (case h => (intro wa hCa; (obtain ⟨t0, t1, t2, t3⟩ := (hS1.out.b.below hCa hbl).cells; obtain ⟨v0, v1, v2, v3, v4, v5, v6, v7⟩ := (hS1.out.n.below hCa hnl).cells; have hcl := (Below.cell hCa (p := ⟨bl, ol + k, none⟩) hblt).trans hcell; clear hCa); (first | (go_big_quiet_skip; exact wpQuiet_nil rfl) | (go_big_quiet_want; go_big_quiet_op; go_big_quiet_on; exact wpQuiet_nil rfl)))))))
        refine wpW_act (fun QQ hQQ => ?_) (by rfl)
        go_wp2
        (refine hQQ _ _ ?hCn ?_; (case hCn => exact hB0.alloc hB0.size _); clear hQQ QQ)
        refine wpW_name ?_
        intro q1 hq
        have hB1 : Below w9.heap.size w9 q1 := by rw [hq]; exact hB0.alloc hB0.size _
        have hs : Below q0.heap.size q0 q1 := by rw [hq]; exact below1 q0 _
        have gy : w9.heap.size ≤ q0.heap.size := hB0.size
        have n1y : DuAt q1 q0.heap.size 0 0 0 0 := by rw [hq]; exact duat1 q0 _ _ _ _
        clear hq hs
        refine wpW_last (fun QQ hQQ => ?_) (by rfl)
        go_wp2_with (go_at_call 28; with_reducible refine (wr'.out _ ?h1).mono ?_; (case h1 => exact hS1.out.r.below hB1 (Nat.le_refl _)); rintro e q2 ⟨b', c', rfl, r2, hs⟩; have hB2 := hB1.trans (hs.mono hB1.size))
        (refine hQQ.out _ _ ?_; clear hQQ QQ)
        have n2y := n1y.below hs n1y.lt
        clear hs
        (repeat (first | (apply wpW_light; (case h => (intro wa; (first | (go_big_quiet_skip; exact wpQuiet_nil rfl) | (go_big_quiet_want; go_big_quiet_op; go_big_quiet_on; exact wpQuiet_nil rfl))))) | (apply wpW_here; (case h => (first | (go_big_quiet_skip; exact wpQuiet_nil rfl) | (go_big_quiet_want; go_big_quiet_op; go_big_quiet_on; exact wpQuiet_nil rfl)))) | (apply wpW_held; (case hC => assumption); (case h => (intro wa hCa; simp only [] at hCa; (first | (go_big_quiet_skip; exact wpQuiet_nil rfl) | (go_big_quiet_want; go_big_quiet_op; go_big_quiet_on; exact wpQuiet_nil rfl)))))))
        refine wpW_last (fun QQ hQQ => ?_) (by rfl)
        go_wp2
        (refine hQQ.out _ _ ?_; clear hQQ QQ)
        refine wpW_name ?_
        intro q3 hq
        have hB3 : Below w9.heap.size w9 q3 := by rw [hq]; exact hB2.alloc hB2.size _
        have hs : Below q2.heap.size q2 q3 := by rw [hq]; exact below1 q2 _
        have n3y := n2y.below hs n2y.lt
        have r3 := r2.below hs (Nat.le_refl _)
        have eyx : q0.heap.size ≠ q2.heap.size := Nat.ne_of_lt n2y.lt
        have gx : w9.heap.size ≤ q2.heap.size := hB2.size
        have n3x : BoxAt q3 q2.heap.size (.slice none 0 0) 0 := by rw [hq]; exact box1 q2 _ _
        clear hq hs
        obtain ⟨c0, c1, c2, c3⟩ := n3x.cells
        refine wpW_last (fun QQ hQQ => ?_) (by rfl)
        go_wp2
        (refine hQQ.out _ _ ?_; clear hQQ QQ)
        refine wpW_name ?_
        intro q4 hq
        have hB4 : Below w9.heap.size w9 q4 := by rw [hq]; exact (hB3.setCell gx _).setCell gx _
        have n4y : DuAt q4 q0.heap.size 0 0 0 0 := by rw [hq]; exact ((n3y.other eyx _).other eyx _)
        have n4x : BoxAt q4 q2.heap.size ((.slice b' L' c')) M' := by rw [hq]; exact n3x.set _ _
        have r4 : Row .u8 q4 b' L' c' (pack X') := by rw [hq]; exact (r3.box n3x 0 _).box (n3x.set0 _) 1 _
        clear hq c0 c1 c2 c3
        obtain ⟨c0, c1, c2, c3, c4, c5, c6, c7⟩ := n4y.cells
        refine wpW_last (fun QQ hQQ => ?_) (by rfl)
        go_wp2
        (refine hQQ.out _ _ ?_; clear hQQ QQ)
        refine wpW_name ?_
        intro q5 hq
        have hB5 : Below w9.heap.size w9 q5 := by rw [hq]; exact (((hB4.setCell gy _).setCell gy _).setCell gy _).setCell gy _
        have n5y : DuAt q5 q0.heap.size (E'.k0 : Int) (E'.k1 : Int) (E'.s0 : Int) (E'.s1 : Int) := by rw [hq]; exact n4y.set _ _ _ _
        have n5x : BoxAt q5 q2.heap.size ((.slice b' L' c')) M' := by rw [hq]; exact ((((n4x.other eyx.symm _).other eyx.symm _).other eyx.symm _).other eyx.symm _)
        have r5 : Row .u8 q5 b' L' c' (pack X') := by rw [hq]; exact (((r4.boxD (.inl rfl) n4y 0 _).boxD (.inl rfl) (n4y.set0 _) 1 _).boxD (.inl rfl) ((n4y.set0 _).set1 _) 2 _).boxD (.inl rfl) (((n4y.set0 _).set1 _).set2 _) 3 _
        clear hq c0 c1 c2 c3 c4 c5 c6 c7
        (repeat (first | (apply wpW_light; (case h => (intro wa; (first | (go_big_quiet_skip; exact wpQuiet_nil rfl) | (go_big_quiet_want; go_big_quiet_op; go_big_quiet_on; exact wpQuiet_nil rfl))))) | (apply wpW_here; (case h => (first | (go_big_quiet_skip; exact wpQuiet_nil rfl) | (go_big_quiet_want; go_big_quiet_op; go_big_quiet_on; exact wpQuiet_nil rfl)))) | (apply wpW_held; (case hC => assumption); (case h => (intro wa hCa; simp only [] at hCa; (first | (go_big_quiet_skip; exact wpQuiet_nil rfl) | (go_big_quiet_want; go_big_quiet_op; go_big_quiet_on; exact wpQuiet_nil rfl)))))))
        refine wpW_nil ?_
        go_wp2_with (fail)
        go_meet
        exact ⟨_, _, b', c', rfl, rfl, rfl, by have := gy; omega, hS1.out.below hB5, n5x, n5y, r5⟩
      · simp only [pick, nth]
        refine wpW_name ?_
        intro q0 hq0
        have hB0 : Below w9.heap.size w9 q0 := by rw [hq0]; exact (Below.refl _ _).drew
        clear hq0
        (repeat (first | (apply wpW_light; (case h => (intro wa; (first | (go_big_quiet_skip; exact wpQuiet_nil rfl) | (go_big_quiet_want; go_big_quiet_op; go_big_quiet_on; exact wpQuiet_nil rfl))))) | (apply wpW_here; (case h => (first | (go_big_quiet_skip; exact wpQuiet_nil rfl) | (go_big_quiet_want; go_big_quiet_op; go_big_quiet_on; exact wpQuiet_nil rfl)))) | (apply wpW_held; (case hC => assumption); (case h => (intro wa hCa; (obtain ⟨t0, t1, t2, t3⟩ := (hS1.out.b.below hCa hbl).cells; obtain ⟨v0, v1, v2, v3, v4, v5, v6, v7⟩ := (hS1.out.n.below hCa hnl).cells; have hcl := (Below.cell hCa (p := ⟨bl, ol + k, none⟩) hblt).trans hcell; clear hCa); (first | (go_big_quiet_skip; exact wpQuiet_nil rfl) | (go_big_quiet_want; go_big_quiet_op; go_big_quiet_on; exact wpQuiet_nil rfl)))))))
        refine wpW_act (fun QQ hQQ => ?_) (by rfl)
        go_wp2
        (refine hQQ _ _ ?hCn ?_; (case hCn => exact hB0.alloc hB0.size _); clear hQQ QQ)
        refine wpW_name ?_
        intro q1 hq
        have hB1 : Below w9.heap.size w9 q1 := by rw [hq]; exact hB0.alloc hB0.size _
        have hs : Below q0.heap.size q0 q1 := by rw [hq]; exact below1 q0 _
        have gx : w9.heap.size ≤ q0.heap.size := hB0.size
        have n1x : BoxAt q1 q0.heap.size (.slice none 0 0) 0 := by rw [hq]; exact box1 q0 _ _
        clear hq hs
        refine wpW_last (fun QQ hQQ => ?_) (by rfl)
        go_wp2_with (go_at_call 28; with_reducible refine (wr'.out _ ?h1).mono ?_; (case h1 => exact hS1.out.r.below hB1 (Nat.le_refl _)); rintro e q2 ⟨b', c', rfl, r2, hs⟩; have hB2 := hB1.trans (hs.mono hB1.size))
        (refine hQQ.out _ _ ?_; clear hQQ QQ)
        have n2x := n1x.below hs n1x.lt
        clear hs
        (repeat (first | (apply wpW_light; (case h => (intro wa; (first | (go_big_quiet_skip; exact wpQuiet_nil rfl) | (go_big_quiet_want; go_big_quiet_op; go_big_quiet_on; exact wpQuiet_nil rfl))))) | (apply wpW_here; (case h => (first | (go_big_quiet_skip; exact wpQuiet_nil rfl) | (go_big_quiet_want; go_big_quiet_op; go_big_quiet_on; exact wpQuiet_nil rfl)))) | (apply wpW_held; (case hC => assumption); (case h => (intro wa hCa; simp only [] at hCa; (first | (go_big_quiet_skip; exact wpQuiet_nil rfl) | (go_big_quiet_want; go_big_quiet_op; go_big_quiet_on; exact wpQuiet_nil rfl)))))))
        refine wpW_last (fun QQ hQQ => ?_) (by rfl)
        go_wp2
        (refine hQQ.out _ _ ?_; clear hQQ QQ)
        refine wpW_name ?_
        intro q3 hq
        have hB3 : Below w9.heap.size w9 q3 := by rw [hq]; exact hB2.alloc hB2.size _
        have hs : Below q2.heap.size q2 q3 := by rw [hq]; exact below1 q2 _
        have n3x := n2x.below hs n2x.lt
        have r3 := r2.below hs (Nat.le_refl _)
        have exy : q0.heap.size ≠ q2.heap.size := Nat.ne_of_lt n2x.lt
        have gy : w9.heap.size ≤ q2.heap.size := hB2.size
        have n3y : DuAt q3 q2.heap.size 0 0 0 0 := by rw [hq]; exact duat1 q2 _ _ _ _
        clear hq hs
        obtain ⟨c0, c1, c2, c3⟩ := n3x.cells
        refine wpW_last (fun QQ hQQ => ?_) (by rfl)
        go_wp2
        (refine hQQ.out _ _ ?_; clear hQQ QQ)
        refine wpW_name ?_
        intro q4 hq
        have hB4 : Below w9.heap.size w9 q4 := by rw [hq]; exact (hB3.setCell gx _).setCell gx _
        have n4x : BoxAt q4 q0.heap.size ((.slice b' L' c')) M' := by rw [hq]; exact n3x.set _ _
        have n4y : DuAt q4 q2.heap.size 0 0 0 0 := by rw [hq]; exact ((n3y.other exy.symm _).other exy.symm _)
        have r4 : Row .u8 q4 b' L' c' (pack X') := by rw [hq]; exact (r3.box n3x 0 _).box (n3x.set0 _) 1 _
        clear hq c0 c1 c2 c3
        obtain ⟨c0, c1, c2, c3, c4, c5, c6, c7⟩ := n4y.cells
        refine wpW_last (fun QQ hQQ => ?_) (by rfl)
        go_wp2
        (refine hQQ.out _ _ ?_; clear hQQ QQ)
        refine wpW_name ?_
        intro q5 hq
        have hB5 : Below w9.heap.size w9 q5 := by rw [hq]; exact (((hB4.setCell gy _).setCell gy _).setCell gy _).setCell gy _
        have n5x : BoxAt q5 q0.heap.size ((.slice b' L' c')) M' := by rw [hq]; exact ((((n4x.other exy _).other exy _).other exy _).other exy _)
        have n5y : DuAt q5 q2.heap.size (E'.k0 : Int) (E'.k1 : Int) (E'.s0 : Int) (E'.s1 : Int) := by rw [hq]; exact n4y.set _ _ _ _
        have r5 : Row .u8 q5 b' L' c' (pack X') := by rw [hq]; exact (((r4.boxD (.inl rfl) n4y 0 _).boxD (.inl rfl) (n4y.set0 _) 1 _).boxD (.inl rfl) ((n4y.set0 _).set1 _) 2 _).boxD (.inl rfl) (((n4y.set0 _).set1 _).set2 _) 3 _
        clear hq c0 c1 c2 c3 c4 c5 c6 c7
        (repeat (first | (apply wpW_light; (case h => (intro wa; (first | (go_big_quiet_skip; exact wpQuiet_nil rfl) | (go_big_quiet_want; go_big_quiet_op; go_big_quiet_on; exact wpQuiet_nil rfl))))) | (apply wpW_here; (case h => (first | (go_big_quiet_skip; exact wpQuiet_nil rfl) | (go_big_quiet_want; go_big_quiet_op; go_big_quiet_on; exact wpQuiet_nil rfl)))) | (apply wpW_held; (case hC => assumption); (case h => (intro wa hCa; simp only [] at hCa; (first | (go_big_quiet_skip; exact wpQuiet_nil rfl) | (go_big_quiet_want; go_big_quiet_op; go_big_quiet_on; exact wpQuiet_nil rfl)))))))
        refine wpW_nil ?_
        go_wp2_with (fail)
        go_meet
        exact ⟨_, _, b', c', rfl, rfl, rfl, by have := gy; omega, hS1.out.below hB5, n5x, n5y, r5⟩
      · simp only [pick, nth]
        refine wpW_name ?_
        intro q0 hq0
        have hB0 : Below w9.heap.size w9 q0 := by rw [hq0]; exact (Below.refl _ _).drew
        clear hq0
        (repeat (first | (apply wpW_light; (case h => (intro wa; (first | (go_big_quiet_skip; exact wpQuiet_nil rfl) | (go_big_quiet_want; go_big_quiet_op; go_big_quiet_on; exact wpQuiet_nil rfl))))) | (apply wpW_here; (case h => (first | (go_big_quiet_skip; exact wpQuiet_nil rfl) | (go_big_quiet_want; go_big_quiet_op; go_big_quiet_on; exact wpQuiet_nil rfl)))) | (apply wpW_held; (case hC => assumption); (case h => (intro wa hCa; (obtain ⟨t0, t1, t2, t3⟩ := (hS1.out.b.below hCa hbl).cells; obtain ⟨v0, v1, v2, v3, v4, v5, v6, v7⟩ := (hS1.out.n.below hCa hnl).cells; have hcl := (Below.cell hCa (p := ⟨bl, ol + k, none⟩) hblt).trans hcell; clear hCa); (first | (go_big_quiet_skip; exact wpQuiet_nil rfl) | (go_big_quiet_want; go_big_quiet_op; go_big_quiet_on; exact wpQuiet_nil rfl)))))))
        refine wpW_act (fun QQ hQQ => ?_) (by rfl)
        go_wp2
        (refine hQQ _ _ ?hCn ?_; (case hCn => exact hB0.alloc hB0.size _); clear hQQ QQ)
        refine wpW_name ?_
        intro q1 hq
        have hB1 : Below w9.heap.size w9 q1 := by rw [hq]; exact hB0.alloc hB0.size _
        have hs : Below q0.heap.size q0 q1 := by rw [hq]; exact below1 q0 _
        have gx : w9.heap.size ≤ q0.heap.size := hB0.size
        have n1x : BoxAt q1 q0.heap.size (.slice none 0 0) 0 := by rw [hq]; exact box1 q0 _ _
        clear hq hs
        refine wpW_act (fun QQ hQQ => ?_) (by rfl)
        go_wp2
        (refine hQQ _ _ ?hCn ?_; (case hCn => exact hB1.alloc hB1.size _); clear hQQ QQ)
        refine wpW_name ?_
        intro q2 hq
        have hB2 : Below w9.heap.size w9 q2 := by rw [hq]; exact hB1.alloc hB1.size _
        have hs : Below q1.heap.size q1 q2 := by rw [hq]; exact below1 q1 _
        have n2x := n1x.below hs n1x.lt
        have exy : q0.heap.size ≠ q1.heap.size := Nat.ne_of_lt n1x.lt
        have gy : w9.heap.size ≤ q1.heap.size := hB1.size
        have n2y : DuAt q2 q1.heap.size 0 0 0 0 := by rw [hq]; exact duat1 q1 _ _ _ _
        clear hq hs
        refine wpW_last (fun QQ hQQ => ?_) (by rfl)
        go_wp2_with (go_at_call 28; with_reducible refine (wr'.out _ ?h1).mono ?_; (case h1 => exact hS1.out.r.below hB2 (Nat.le_refl _)); rintro e q3 ⟨b', c', rfl, r3, hs⟩; have hB3 := hB2.trans (hs.mono hB2.size))
        (refine hQQ.out _ _ ?_; clear hQQ QQ)
        have n3x := n2x.below hs n2x.lt
        have n3y := n2y.below hs n2y.lt
        clear hs
        (repeat (first | (apply wpW_light; (case h => (intro wa; (first | (go_big_quiet_skip; exact wpQuiet_nil rfl) | (go_big_quiet_want; go_big_quiet_op; go_big_quiet_on; exact wpQuiet_nil rfl))))) | (apply wpW_here; (case h => (first | (go_big_quiet_skip; exact wpQuiet_nil rfl) | (go_big_quiet_want; go_big_quiet_op; go_big_quiet_on; exact wpQuiet_nil rfl)))) | (apply wpW_held; (case hC => assumption); (case h => (intro wa hCa; simp only [] at hCa; (first | (go_big_quiet_skip; exact wpQuiet_nil rfl) | (go_big_quiet_want; go_big_quiet_op; go_big_quiet_on; exact wpQuiet_nil rfl)))))))
        obtain ⟨c0, c1, c2, c3⟩ := n3x.cells
        refine wpW_last (fun QQ hQQ => ?_) (by rfl)
        go_wp2
        (refine hQQ.out _ _ ?_; clear hQQ QQ)
        refine wpW_name ?_
        intro q4 hq
        have hB4 : Below w9.heap.size w9 q4 := by rw [hq]; exact (hB3.setCell gx _).setCell gx _
        have n4x : BoxAt q4 q0.heap.size ((.slice b' L' c')) M' := by rw [hq]; exact n3x.set _ _
        have n4y : DuAt q4 q1.heap.size 0 0 0 0 := by rw [hq]; exact ((n3y.other exy.symm _).other exy.symm _)
        have r4 : Row .u8 q4 b' L' c' (pack X') := by rw [hq]; exact (r3.box n3x 0 _).box (n3x.set0 _) 1 _
        clear hq c0 c1 c2 c3
        obtain ⟨c0, c1, c2, c3, c4, c5, c6, c7⟩ := n4y.cells
        refine wpW_last (fun QQ hQQ => ?_) (by rfl)
        go_wp2
        (refine hQQ.out _ _ ?_; clear hQQ QQ)
        refine wpW_name ?_
        intro q5 hq
        have hB5 : Below w9.heap.size w9 q5 := by rw [hq]; exact (((hB4.setCell gy _).setCell gy _).setCell gy _).setCell gy _
        have n5x : BoxAt q5 q0.heap.size ((.slice b' L' c')) M' := by rw [hq]; exact ((((n4x.other exy _).other exy _).other exy _).other exy _)
        have n5y : DuAt q5 q1.heap.size (E'.k0 : Int) (E'.k1 : Int) (E'.s0 : Int) (E'.s1 : Int) := by rw [hq]; exact n4y.set _ _ _ _
        have r5 : Row .u8 q5 b' L' c' (pack X') := by rw [hq]; exact (((r4.boxD (.inl rfl) n4y 0 _).boxD (.inl rfl) (n4y.set0 _) 1 _).boxD (.inl rfl) ((n4y.set0 _).set1 _) 2 _).boxD (.inl rfl) (((n4y.set0 _).set1 _).set2 _) 3 _
        clear hq c0 c1 c2 c3 c4 c5 c6 c7
        (repeat (first | (apply wpW_light; (case h => (intro wa; (first | (go_big_quiet_skip; exact wpQuiet_nil rfl) | (go_big_quiet_want; go_big_quiet_op; go_big_quiet_on; exact wpQuiet_nil rfl))))) | (apply wpW_here; (case h => (first | (go_big_quiet_skip; exact wpQuiet_nil rfl) | (go_big_quiet_want; go_big_quiet_op; go_big_quiet_on; exact wpQuiet_nil rfl)))) | (apply wpW_held; (case hC => assumption); (case h => (intro wa hCa; simp only [] at hCa; (first | (go_big_quiet_skip; exact wpQuiet_nil rfl) | (go_big_quiet_want; go_big_quiet_op; go_big_quiet_on; exact wpQuiet_nil rfl)))))))
        refine wpW_nil ?_
        go_wp2_with (fail)
        go_meet
        exact ⟨_, _, b', c', rfl, rfl, rfl, by have := gy; omega, hS1.out.below hB5, n5x, n5y, r5⟩
      · simp only [pick, nth]
        refine wpW_name ?_
        intro q0 hq0
        have hB0 : Below w9.heap.size w9 q0 := by rw [hq0]; exact (Below.refl _ _).drew
        clear hq0
        (repeat (first | (apply wpW_light; (case h => (intro wa; (first | (go_big_quiet_skip; exact wpQuiet_nil rfl) | (go_big_quiet_want; go_big_quiet_op; go_big_quiet_on; exact wpQuiet_nil rfl))))) | (apply wpW_here; (case h => (first | (go_big_quiet_skip; exact wpQuiet_nil rfl) | (go_big_quiet_want; go_big_quiet_op; go_big_quiet_on; exact wpQuiet_nil rfl)))) | (apply wpW_held; (case hC => assumption); (case h => (intro wa hCa; (obtain ⟨t0, t1, t2, t3⟩ := (hS1.out.b.below hCa hbl).cells; obtain ⟨v0, v1, v2, v3, v4, v5, v6, v7⟩ := (hS1.out.n.below hCa hnl).cells; have hcl := (Below.cell hCa (p := ⟨bl, ol + k, none⟩) hblt).trans hcell; clear hCa); (first | (go_big_quiet_skip; exact wpQuiet_nil rfl) | (go_big_quiet_want; go_big_quiet_op; go_big_quiet_on; exact wpQuiet_nil rfl)))))))
        refine wpW_act (fun QQ hQQ => ?_) (by rfl)
        go_wp2
        (refine hQQ _ _ ?hCn ?_; (case hCn => exact hB0.alloc hB0.size _); clear hQQ QQ)
        refine wpW_name ?_
        intro q1 hq
        have hB1 : Below w9.heap.size w9 q1 := by rw [hq]; exact hB0.alloc hB0.size _
        have hs : Below q0.heap.size q0 q1 := by rw [hq]; exact below1 q0 _
        have gy : w9.heap.size ≤ q0.heap.size := hB0.size
        have n1y : DuAt q1 q0.heap.size 0 0 0 0 := by rw [hq]; exact duat1 q0 _ _ _ _
        clear hq hs
        refine wpW_act (fun QQ hQQ => ?_) (by rfl)
        go_wp2
        (refine hQQ _ _ ?hCn ?_; (case hCn => exact hB1.alloc hB1.size _); clear hQQ QQ)
        refine wpW_name ?_
        intro q2 hq
        have hB2 : Below w9.heap.size w9 q2 := by rw [hq]; exact hB1.alloc hB1.size _
        have hs : Below q1.heap.size q1 q2 := by rw [hq]; exact below1 q1 _
        have n2y := n1y.below hs n1y.lt
        have eyx : q0.heap.size ≠ q1.heap.size := Nat.ne_of_lt n1y.lt
        have gx : w9.heap.size ≤ q1.heap.size := hB1.size
        have n2x : BoxAt q2 q1.heap.size (.slice none 0 0) 0 := by rw [hq]; exact box1 q1 _ _
        clear hq hs
        refine wpW_last (fun QQ hQQ => ?_) (by rfl)
        go_wp2_with (go_at_call 28; with_reducible refine (wr'.out _ ?h1).mono ?_; (case h1 => exact hS1.out.r.below hB2 (Nat.le_refl _)); rintro e q3 ⟨b', c', rfl, r3, hs⟩; have hB3 := hB2.trans (hs.mono hB2.size))
        (refine hQQ.out _ _ ?_; clear hQQ QQ)
        have n3y := n2y.below hs n2y.lt
        have n3x := n2x.below hs n2x.lt
        clear hs
        (repeat (first | (apply wpW_light; (case h => (intro wa; (first | (go_big_quiet_skip; exact wpQuiet_nil rfl) | (go_big_quiet_want; go_big_quiet_op; go_big_quiet_on; exact wpQuiet_nil rfl))))) | (apply wpW_here; (case h => (first | (go_big_quiet_skip; exact wpQuiet_nil rfl) | (go_big_quiet_want; go_big_quiet_op; go_big_quiet_on; exact wpQuiet_nil rfl)))) | (apply wpW_held; (case hC => assumption); (case h => (intro wa hCa; simp only [] at hCa; (first | (go_big_quiet_skip; exact wpQuiet_nil rfl) | (go_big_quiet_want; go_big_quiet_op; go_big_quiet_on; exact wpQuiet_nil rfl)))))))
        obtain ⟨c0, c1, c2, c3⟩ := n3x.cells
        refine wpW_last (fun QQ hQQ => ?_) (by rfl)
        go_wp2
        (refine hQQ.out _ _ ?_; clear hQQ QQ)
        refine wpW_name ?_
        intro q4 hq
        have hB4 : Below w9.heap.size w9 q4 := by rw [hq]; exact (hB3.setCell gx _).setCell gx _
        have n4y : DuAt q4 q0.heap.size 0 0 0 0 := by rw [hq]; exact ((n3y.other eyx _).other eyx _)
        have n4x : BoxAt q4 q1.heap.size ((.slice b' L' c')) M' := by rw [hq]; exact n3x.set _ _
        have r4 : Row .u8 q4 b' L' c' (pack X') := by rw [hq]; exact (r3.box n3x 0 _).box (n3x.set0 _) 1 _
        clear hq c0 c1 c2 c3
        obtain ⟨c0, c1, c2, c3, c4, c5, c6, c7⟩ := n4y.cells
        refine wpW_last (fun QQ hQQ => ?_) (by rfl)
        go_wp2
        (refine hQQ.out _ _ ?_; clear hQQ QQ)
        refine wpW_name ?_
        intro q5 hq
        have hB5 : Below w9.heap.size w9 q5 := by rw [hq]; exact (((hB4.setCell gy _).setCell gy _).setCell gy _).setCell gy _
        have n5y : DuAt q5 q0.heap.size (E'.k0 : Int) (E'.k1 : Int) (E'.s0 : Int) (E'.s1 : Int) := by rw [hq]; exact n4y.set _ _ _ _
        have n5x : BoxAt q5 q1.heap.size ((.slice b' L' c')) M' := by rw [hq]; exact ((((n4x.other eyx.symm _).other eyx.symm _).other eyx.symm _).other eyx.symm _)
        have r5 : Row .u8 q5 b' L' c' (pack X') := by rw [hq]; exact (((r4.boxD (.inl rfl) n4y 0 _).boxD (.inl rfl) (n4y.set0 _) 1 _).boxD (.inl rfl) ((n4y.set0 _).set1 _) 2 _).boxD (.inl rfl) (((n4y.set0 _).set1 _).set2 _) 3 _
        clear hq c0 c1 c2 c3 c4 c5 c6 c7
        (repeat (first | (apply wpW_light; (case h => (intro wa; (first | (go_big_quiet_skip; exact wpQuiet_nil rfl) | (go_big_quiet_want; go_big_quiet_op; go_big_quiet_on; exact wpQuiet_nil rfl))))) | (apply wpW_here; (case h => (first | (go_big_quiet_skip; exact wpQuiet_nil rfl) | (go_big_quiet_want; go_big_quiet_op; go_big_quiet_on; exact wpQuiet_nil rfl)))) | (apply wpW_held; (case hC => assumption); (case h => (intro wa hCa; simp only [] at hCa; (first | (go_big_quiet_skip; exact wpQuiet_nil rfl) | (go_big_quiet_want; go_big_quiet_op; go_big_quiet_on; exact wpQuiet_nil rfl)))))))
        refine wpW_nil ?_
        go_wp2_with (fail)
        go_meet
        exact ⟨_, _, b', c', rfl, rfl, rfl, by have := gy; omega, hS1.out.below hB5, n5x, n5y, r5⟩
    case rest =>
    obtain ⟨x14, x15, b', c', rfl, rfl, rfl, hn15, hS2, hx14, hx15, hr'⟩ := hcut
    clear hcell hblt hnl hbl hS1
    have hSq := Go.Lib.hid hS2
    have hx14q := Go.Lib.hid hx14
    have hx15q := Go.Lib.hid hx15
    have hrq := Go.Lib.hid hr'
    clear hS2 hx14 hx15 hr'
    go_wp2
    refine wp_region_ord (fun w' => DuAt w' x15 (E'.k0 : Int) (E'.k1 : Int) (E'.s0 : Int) (E'.s1 : Int)) [(0, 1), (1, 2), (2, 3), (3, 4)] (by kernel_rfl) (by kernel_rfl) ?hC0 ?_
    case hC0 => exact hx15q.out.drew
    simp only [pick, nth]
    refine wpW_name ?_
    intro q0 hq0
    have hSd : PartsAt W (some ⟨bl, ol, none⟩) ll cl l xa ba La ca A XA xb xn q0 au Ln cu M X E := by rw [hq0]; exact hSq.out.below (Below.refl _ _).drew
    have hx14d : BoxAt q0 x14 (.slice b' L' c') M' := by rw [hq0]; exact hx14q.out.drew
    have hx15d : DuAt q0 x15 (E'.k0 : Int) (E'.k1 : Int) (E'.s0 : Int) (E'.s1 : Int) := by rw [hq0]; exact hx15q.out.drew
    have hrd : Row .u8 q0 b' L' c' (pack X') := by rw [hq0]; exact hrq.out.below (Below.refl _ _).drew (Nat.le_refl _)
    clear hq0 hSq hx14q hx15q hrq
    obtain ⟨f0, f1, f2, f3⟩ := hx14d.cells
    (repeat (first | (apply wpW_light; (case h => (intro wa; (first | (go_big_quiet_skip; exact wpQuiet_nil rfl) | (go_big_quiet_want; go_big_quiet_op; go_big_quiet_on; exact wpQuiet_nil rfl))))) | (apply wpW_here; (case h => (first | (go_big_quiet_skip; exact wpQuiet_nil rfl) | (go_big_quiet_want; go_big_quiet_op; go_big_quiet_on; exact wpQuiet_nil rfl)))) | (apply wpW_held; (case hC => assumption); (case h => (intro wa hCa; obtain ⟨u0, u1, u2, u3, u4, u5, u6, u7⟩ := hCa.cells; (first | (go_big_quiet_skip; exact wpQuiet_nil rfl) | (go_big_quiet_want; go_big_quiet_op; go_big_quiet_on; exact wpQuiet_nil rfl)))))))
    clear f0 f1 f2 f3
    obtain ⟨a0, a1, a2, a3⟩ := hSd.b.cells
    refine wpW_act (fun QQ hQQ => ?_) (by rfl)
    go_wp2
    (refine hQQ _ _ ?hCn ?_; (case hCn => exact (hx15d.other hn15.symm _).other hn15.symm _); clear hQQ QQ)
    refine wpW_name ?_
    intro q1 hq1
    have hSn : PartsAt W (some ⟨bl, ol, none⟩) ll cl l xa ba La ca A XA xb xn (((((q1.setCell ⟨xn, 0, none⟩ (.int .i64 E'.k0)).setCell ⟨xn, 1, none⟩ (.int .i64 E'.k1)).setCell ⟨xn, 2, none⟩ (.int .u64 E'.s0)).setCell ⟨xn, 3, none⟩ (.int .u64 E'.s1))) b' L' c' M' X' E' := by rw [hq1]; exact hSd.next hx1 hx2 hab han hne E' (M' := M') hrd
    have hnq : DuAt q1 xn (E.k0 : Int) (E.k1 : Int) (E.s0 : Int) (E.s1 : Int) := by rw [hq1]; exact (hSd.n.other hne.symm _).other hne.symm _
    clear hq1 a0 a1 a2 a3 hSd hrd hx14d hx15d
    obtain ⟨b0, b1', b2', b3, b4, b5, b6, b7⟩ := hnq.cells
    refine wpW_last (fun QQ hQQ => ?_) (by rfl)
    go_wp2
    (refine hQQ.out _ _ ?_; clear hQQ QQ)
    refine wpW_nil ?_
    go_wp2
    go_roundg (ll - (k + 1))
    case measure => (have hgo := hg'.out; omega)
    case rel =>
      refine ⟨k + 1, b', L', c', M', by omega, by omega, rfl, by go_num, by rw [hts'.out, lX2.out], hL2.out, ?_⟩
      rw [hts'.out, hta'.out]
      exact hSn
  · obtain rfl : k = ll := by omega
    obtain ⟨w10, hw⟩ : ∃ w, w = wr := ⟨_, rfl⟩
    subst hw
    have hmt : m.take k = m := List.take_of_length_le (by rw [hm'.out]; exact Nat.le_refl _)
    rw [hmt, ← hXA'.out] at hM
    rw [hmt, ← hXA'.out, ← hEA'.out] at hS
    obtain rfl : M = A := by rw [hM, hA'.out]
    obtain rfl : Ln = La := by rw [hL, hLa'.out]
    have hlt' : ¬ (k : Int) < (k : Int) := by omega
    have hq := sameD_self EA.k0 EA.k1 EA.s0 EA.s1
    have sm : Hid (∀ w b c b' c', Row .u8 w b Ln c (pack XA) → Row .u8 w b' Ln c' (pack XA) → Calls Try.prog 20 #[.agg #[.slice b Ln c, .int .i64 M], .agg #[.slice b' Ln c', .int .i64 M]] w fun e W' => e = .returned (.bool true) ∧ Below w.heap.size w W') := Go.Lib.hid fun w b c b' c' h h' => by
      have := RSame_ok w b Ln c M (pack XA) h b' Ln c' M (pack XA) h'
      simpa using this
    have hW10 := Go.Lib.hid hS.w
    have B10_a := Go.Lib.hid hS.a
    have B10_b := Go.Lib.hid hS.b
    have B10_n := Go.Lib.hid hS.n
    have R10_l := Go.Lib.hid hS.l
    have R10_a := Go.Lib.hid hS.ra
    have R10_b := Go.Lib.hid hS.r
    obtain ⟨y0, y1, y2, y3⟩ := hS.a.cells
    obtain ⟨z0, z1, z2, z3⟩ := hS.b.cells
    obtain ⟨t0, t1, t2, t3, t4, t5, t6, t7⟩ := hS.n.cells
    clear hS hM hL hmt hg' hMb
    go_wp2_with (first
      | (go_at_call 12; ((with_reducible refine (af.out _ ?h1).mono ?_)); (case h1 => exact R10_l.out); rintro e w11 ⟨rfl, hb11⟩; have hWE11 := Go.Lib.hid hW10.out; have hW11 := Go.Lib.hid (hWE11.out.trans (hb11.mono hWE11.out.size)); have R11_l := Go.Lib.hid (R10_l.out.below hb11 (Nat.le_refl _)); have R11_a := Go.Lib.hid (R10_a.out.below hb11 (Nat.le_refl _)); have R11_b := Go.Lib.hid (R10_b.out.below hb11 (Nat.le_refl _)); have BE11_a := Go.Lib.hid B10_a.out; have B11_a := Go.Lib.hid (BE11_a.out.below hb11 BE11_a.out.lt); obtain ⟨k11a0, k11a1, k11a2, k11a3⟩ := B11_a.out.cells; have BE11_b := Go.Lib.hid B10_b.out; have B11_b := Go.Lib.hid (BE11_b.out.below hb11 BE11_b.out.lt); obtain ⟨k11b0, k11b1, k11b2, k11b3⟩ := B11_b.out.cells; have BE11_n := Go.Lib.hid B10_n.out; have B11_n := Go.Lib.hid (BE11_n.out.below hb11 BE11_n.out.lt); obtain ⟨k11n0, k11n1, k11n2, k11n3, k11n4, k11n5, k11n6, k11n7⟩ := B11_n.out.cells; have l11a := B11_a.out.lt; have n11a : xa ≠ w11.heap.size := (by omega); have l11b := B11_b.out.lt; have n11b : xb ≠ w11.heap.size := (by omega); have l11n := B11_n.out.lt; have n11n : xn ≠ w11.heap.size := (by omega); clear hb11)
      | (go_at_call 20; ((with_reducible refine (sm.out _ _ _ _ _ ?h1 ?h2).mono ?_)); (case h1 => exact (R11_a.out.below (below1 w11 (.cells #[.int .i64 EA.k0, .int .i64 EA.k1, .int .u64 EA.s0, .int .u64 EA.s1] 31)) (Nat.le_refl _))); (case h2 => exact (R11_b.out.below (below1 w11 (.cells #[.int .i64 EA.k0, .int .i64 EA.k1, .int .u64 EA.s0, .int .u64 EA.s1] 31)) (Nat.le_refl _))); rintro e w12 ⟨rfl, hb12⟩; have hWE12 := Go.Lib.hid (hW11.out.alloc hW11.out.size (.cells #[.int .i64 EA.k0, .int .i64 EA.k1, .int .u64 EA.s0, .int .u64 EA.s1] 31)); have hW12 := Go.Lib.hid (hWE12.out.trans (hb12.mono hWE12.out.size)); have R12_l := Go.Lib.hid ((R11_l.out.below (below1 w11 (.cells #[.int .i64 EA.k0, .int .i64 EA.k1, .int .u64 EA.s0, .int .u64 EA.s1] 31)) (Nat.le_refl _)).below hb12 (Nat.le_refl _)); have R12_a := Go.Lib.hid ((R11_a.out.below (below1 w11 (.cells #[.int .i64 EA.k0, .int .i64 EA.k1, .int .u64 EA.s0, .int .u64 EA.s1] 31)) (Nat.le_refl _)).below hb12 (Nat.le_refl _)); have R12_b := Go.Lib.hid ((R11_b.out.below (below1 w11 (.cells #[.int .i64 EA.k0, .int .i64 EA.k1, .int .u64 EA.s0, .int .u64 EA.s1] 31)) (Nat.le_refl _)).below hb12 (Nat.le_refl _)); have BE12_a := Go.Lib.hid (B11_a.out.alloc (.cells #[.int .i64 EA.k0, .int .i64 EA.k1, .int .u64 EA.s0, .int .u64 EA.s1] 31)); have B12_a := Go.Lib.hid (BE12_a.out.below hb12 BE12_a.out.lt); obtain ⟨k12a0, k12a1, k12a2, k12a3⟩ := B12_a.out.cells; have BE12_b := Go.Lib.hid (B11_b.out.alloc (.cells #[.int .i64 EA.k0, .int .i64 EA.k1, .int .u64 EA.s0, .int .u64 EA.s1] 31)); have B12_b := Go.Lib.hid (BE12_b.out.below hb12 BE12_b.out.lt); obtain ⟨k12b0, k12b1, k12b2, k12b3⟩ := B12_b.out.cells; have BE12_n := Go.Lib.hid (B11_n.out.alloc (.cells #[.int .i64 EA.k0, .int .i64 EA.k1, .int .u64 EA.s0, .int .u64 EA.s1] 31)); have B12_n := Go.Lib.hid (BE12_n.out.below hb12 BE12_n.out.lt); obtain ⟨k12n0, k12n1, k12n2, k12n3, k12n4, k12n5, k12n6, k12n7⟩ := B12_n.out.cells; have BE12_y := Go.Lib.hid (duat1 w11 EA.k0 EA.k1 EA.s0 EA.s1); have B12_y := Go.Lib.hid (BE12_y.out.below hb12 BE12_y.out.lt); obtain ⟨k12y0, k12y1, k12y2, k12y3, k12y4, k12y5, k12y6, k12y7⟩ := B12_y.out.cells; clear hb12)
      | (go_at_call 16; refine (alive9_ok _).mono ?_; rintro e w13 ⟨rfl, hb13⟩; have hWE13 := Go.Lib.hid hW12.out; have hW13 := Go.Lib.hid (hWE13.out.trans (hb13.mono hWE13.out.size)); clear hb13))
    go_ret
    exact ⟨rfl, hW13.out⟩

theorem coderParts_walk (ax0 : Option Addr) (lenx0 capx0 : Nat) (zx0 : List Int) (x1 : Int) (W : World) (wx0 : IsRow .u32 W ax0 lenx0 capx0 zx0) (wx1 : (Lit.int .i64 x1).wf = true) :
    Calls Try.prog 7 #[.slice ax0 lenx0 capx0, .int .i64 x1] W fun e w' => e = .returned (.bool true) ∧ Below W.heap.size W w' := by
  have hl := Row.of_isRow wx0
  have hm := Nat.le_trans hl.hcap hl.hmax
  unfold maxLen at hm
  by_cases h : (100 : Int) < lenx0 ∨ (¬ (100 : Int) < lenx0 ∧ x1 < 0) ∨ (¬ (100 : Int) < lenx0 ∧ ¬ x1 < 0 ∧ (lenx0 : Int) < x1)
  · exact coderParts_out W _ _ _ _ (by omega) h
  · obtain ⟨n, rfl⟩ : ∃ n : Nat, x1 = n := ⟨x1.toNat, by omega⟩
    obtain ⟨m, h2, h3⟩ := nats_of hl.wf
    exact coderParts_in W _ _ _ _ m n hl (by omega) h2 (by rw [← hl.hlen, h2, List.length_map]) h3 (by omega)
end Go.Proofs.Ytifbigmgiakakaa
