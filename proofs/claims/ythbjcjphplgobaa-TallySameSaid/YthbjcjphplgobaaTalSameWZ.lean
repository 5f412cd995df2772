/- TallySame: counted without coding they are as long as the codes, and as the block. -/
import Derived.Test.YthbjcjphplgobaaZ13
import Derived.Deep.DeepCutAuto

namespace Go.Proofs.Ythbjcjphplgobaa
open Go.RowKit Cad

set_option maxRecDepth 100000 in
theorem tallySame_out (W : World) (al : Option Addr) (ll cl : Nat) (_hll : ll ≤ 9223372036854775807) (h : (150 : Int) < ll) :
    Calls Try.prog 6 #[.slice al ll cl] W fun e w' => e = .returned (.bool true) ∧ Below W.heap.size W w' := by
  go_enter Try.func6, Try.ntmps6
  go_wp2_with (go_at_call 16; refine (alive12_ok _).mono ?_; rintro e w1 ⟨rfl, hb1⟩)
  go_ret
  exact ⟨rfl, hb1⟩

set_option maxRecDepth 100000 in
set_option maxHeartbeats 4000000 in
theorem tallySame_in (W : World) (al : Option Addr) (ll cl : Nat) (l : List Int) (m : List Nat) (hr : Row .u32 W al ll cl l) (hl : ll ≤ 150) (hlm : l = m.map Int.ofNat) (hm : m.length = ll) (hm32 : ∀ x ∈ m, x < 4294967296) :
    Calls Try.prog 6 #[.slice al ll cl] W fun e w' => e = .returned (.bool true) ∧ Below W.heap.size W w' := by
  have hbd := lens_bd m dStart_ok hm32
  have hsl := sum_lens m hm32
  have hcs := codesD_sum m dStart
  have hLl : (lens dStart m).length = ll := by rw [lens_len, hm]
  have hall := hsl m.length
  rw [List.take_of_length_le (by rw [lens_len]; exact Nat.le_refl _), hm] at hall
  obtain ⟨Z, hZ⟩ : ∃ Z, Z = lens dStart m := ⟨_, rfl⟩
  rw [← hZ] at hbd hsl hcs hLl hall
  obtain ⟨X, hX⟩ : ∃ X, X = codesD dStart m := ⟨_, rfl⟩
  rw [← hX] at hcs
  obtain ⟨N, hN⟩ : ∃ N, N = X.length := ⟨_, rfl⟩
  obtain ⟨La, hLa⟩ : ∃ q, q = (N + 7) / 8 := ⟨_, rfl⟩
  obtain ⟨K, hK⟩ : ∃ q, q = La + 4 := ⟨_, rfl⟩
  obtain ⟨P, hP⟩ : ∃ P, P = sealB (pack X) := ⟨_, rfl⟩
  have hNs : Z.sum = N := by rw [hN, hcs]
  have hN81 : N ≤ 81 * ll := by omega
  have en : Hid (∀ w, Row .u32 w al ll cl l → Res 24 #[.slice al ll cl] w La (pack X) N 0) := Go.Lib.hid fun w h => by
    rw [hlm] at h
    have := PEncode_ok w al ll cl m h (by omega) hm hm32
    rw [← hX, ← hN, ← hLa] at this
    exact this
  have pk : Hid (∀ w b c, Row .u8 w b La c (pack X) → ResP 25 #[.agg #[.slice b La c, .int .i64 N]] w K P 0) := Go.Lib.hid fun w b c h => by
    rw [hK, hP, hN]
    exact KPack_ok w b La c X.length (pack X) h (bounds_of_len (by omega)) ⟨X, rfl, by omega, rfl⟩
  have le : Hid (∀ w, Row .u32 w al ll cl l → Calls Try.prog 11 #[.slice al ll cl] w fun r W' => r = .returned (.tuple #[.int .i64 N, .int .i64 0]) ∧ Below w.heap.size w W') := Go.Lib.hid fun w h => by
    rw [hlm] at h
    have := TLength_ok w al ll cl m h (by omega) hm hm32
    rw [← hZ, hNs] at this
    exact this
  have by_ : Hid (∀ w, Row .u32 w al ll cl l → Calls Try.prog 12 #[.slice al ll cl] w fun r W' => r = .returned (.tuple #[.int .i64 K, .int .i64 0]) ∧ Below w.heap.size w W') := Go.Lib.hid fun w h => by
    rw [hlm] at h
    have := TBytes_ok w al ll cl m h (by omega) hm hm32
    rw [← hZ, hNs, show longB N = K by rw [hK, hLa]; rfl] at this
    exact this
  have ea : Hid (∀ w, Row .u32 w al ll cl l → ResI 10 #[.slice al ll cl] w ll (Z.map Int.ofNat) 0) := Go.Lib.hid fun w h => by
    rw [hlm] at h
    have := TEach_ok w al ll cl m h (by omega) hm hm32
    rw [← hZ] at this
    exact this
  obtain ⟨M, hM⟩ : ∃ M, M = 81 * ll := ⟨_, rfl⟩
  have mo : Hid (∀ w, Calls Try.prog 14 #[.int .i64 ll] w fun r W' => r = .returned (.tuple #[.int .i64 M, .int .i64 0]) ∧ Below w.heap.size w W') := Go.Lib.hid fun w => by rw [hM]; exact TMost_ok w ll (by omega)
  unfold Res at en
  unfold ResP at pk
  unfold ResI at ea
  have hWE0 := Go.Lib.hid (Below.refl W.heap.size W)
  have RE0_l := Go.Lib.hid hr
  have d1 : ¬ (150 : Int) < ll := by omega
  have hllI : (ll : Int) ≤ 150 := by omega
  have d2 : ¬ (M : Int) < N := by omega
  have hNI : (N : Int) ≤ 12150 := by omega
  have hbd' := Go.Lib.hid hbd
  have hsl' := Go.Lib.hid hsl
  have hLl' := Go.Lib.hid hLl
  have hNs' := Go.Lib.hid hNs
  have hm' := Go.Lib.hid hm
  clear hr hlm hm hm32 hZ hX hN hLa hK hP hM hbd hsl hcs hLl hall hNs hN81
  go_enter Try.func6, Try.ntmps6
  go_upto_region 13 with (first
    | (go_at_call 24; ((with_reducible refine (en.out _ ?h1).mono ?_)); (case h1 => exact RE0_l.out); rintro e w1 ⟨b1, cp1, rfl, hr1, hb1⟩; have hWE1 := Go.Lib.hid hWE0.out; have hW1 := Go.Lib.hid (hWE1.out.trans (hb1.mono hWE1.out.size)); have R1_l := Go.Lib.hid (RE0_l.out.below hb1 (Nat.le_refl _)); have R1_a := Go.Lib.hid hr1; clear hr1; clear hb1)
    | (go_at_call 25; ((with_reducible refine (pk.out _ _ _ ?h1).mono ?_)); (case h1 => exact (R1_a.out.below (below1 w1 (.cells #[(.slice b1 La cp1), .int .i64 N] 45)) (Nat.le_refl _))); rintro e w2 ⟨b2, cp2, rfl, hr2, hb2⟩; have hWE2 := Go.Lib.hid (hW1.out.alloc hW1.out.size (.cells #[(.slice b1 La cp1), .int .i64 N] 45)); have hW2 := Go.Lib.hid (hWE2.out.trans (hb2.mono hWE2.out.size)); have R2_l := Go.Lib.hid ((R1_l.out.below (below1 w1 (.cells #[(.slice b1 La cp1), .int .i64 N] 45)) (Nat.le_refl _)).below hb2 (Nat.le_refl _)); have R2_a := Go.Lib.hid ((R1_a.out.below (below1 w1 (.cells #[(.slice b1 La cp1), .int .i64 N] 45)) (Nat.le_refl _)).below hb2 (Nat.le_refl _)); have R2_p := Go.Lib.hid hr2; clear hr2; have BE2_a := Go.Lib.hid (box1 w1 (.slice b1 La cp1) N); have B2_a := Go.Lib.hid (BE2_a.out.below hb2 BE2_a.out.lt); obtain ⟨k2a0, k2a1, k2a2, k2a3⟩ := B2_a.out.cells; clear hb2)
    | (go_at_call 11; ((with_reducible refine (le.out _ ?h1).mono ?_)); (case h1 => exact R2_l.out); rintro e w3 ⟨rfl, hb3⟩; have hWE3 := Go.Lib.hid hW2.out; have hW3 := Go.Lib.hid (hWE3.out.trans (hb3.mono hWE3.out.size)); have R3_l := Go.Lib.hid (R2_l.out.below hb3 (Nat.le_refl _)); have R3_a := Go.Lib.hid (R2_a.out.below hb3 (Nat.le_refl _)); have R3_p := Go.Lib.hid (R2_p.out.below hb3 (Nat.le_refl _)); have BE3_a := Go.Lib.hid B2_a.out; have B3_a := Go.Lib.hid (BE3_a.out.below hb3 BE3_a.out.lt); obtain ⟨k3a0, k3a1, k3a2, k3a3⟩ := B3_a.out.cells; clear hb3)
    | (go_at_call 12; ((with_reducible refine (by_.out _ ?h1).mono ?_)); (case h1 => exact R3_l.out); rintro e w4 ⟨rfl, hb4⟩; have hWE4 := Go.Lib.hid hW3.out; have hW4 := Go.Lib.hid (hWE4.out.trans (hb4.mono hWE4.out.size)); have R4_l := Go.Lib.hid (R3_l.out.below hb4 (Nat.le_refl _)); have R4_a := Go.Lib.hid (R3_a.out.below hb4 (Nat.le_refl _)); have R4_p := Go.Lib.hid (R3_p.out.below hb4 (Nat.le_refl _)); have BE4_a := Go.Lib.hid B3_a.out; have B4_a := Go.Lib.hid (BE4_a.out.below hb4 BE4_a.out.lt); obtain ⟨k4a0, k4a1, k4a2, k4a3⟩ := B4_a.out.cells; clear hb4)
    | (go_at_call 10; ((with_reducible refine (ea.out _ ?h1).mono ?_)); (case h1 => exact R4_l.out); rintro e w5 ⟨b5, cp5, rfl, hr5, hb5⟩; have hWE5 := Go.Lib.hid hW4.out; have hW5 := Go.Lib.hid (hWE5.out.trans (hb5.mono hWE5.out.size)); have R5_l := Go.Lib.hid (R4_l.out.below hb5 (Nat.le_refl _)); have R5_a := Go.Lib.hid (R4_a.out.below hb5 (Nat.le_refl _)); have R5_p := Go.Lib.hid (R4_p.out.below hb5 (Nat.le_refl _)); have R5_e := Go.Lib.hid hr5; clear hr5; have BE5_a := Go.Lib.hid B4_a.out; have B5_a := Go.Lib.hid (BE5_a.out.below hb5 BE5_a.out.lt); obtain ⟨k5a0, k5a1, k5a2, k5a3⟩ := B5_a.out.cells; clear hb5)
    | (go_at_call 14; ((with_reducible refine (mo.out _).mono ?_)); rintro e w6 ⟨rfl, hb6⟩; have hWE6 := Go.Lib.hid hW5.out; have hW6 := Go.Lib.hid (hWE6.out.trans (hb6.mono hWE6.out.size)); have R6_l := Go.Lib.hid (R5_l.out.below hb6 (Nat.le_refl _)); have R6_a := Go.Lib.hid (R5_a.out.below hb6 (Nat.le_refl _)); have R6_p := Go.Lib.hid (R5_p.out.below hb6 (Nat.le_refl _)); have R6_e := Go.Lib.hid (R5_e.out.below hb6 (Nat.le_refl _)); have BE6_a := Go.Lib.hid B5_a.out; have B6_a := Go.Lib.hid (BE6_a.out.below hb6 BE6_a.out.lt); obtain ⟨k6a0, k6a1, k6a2, k6a3⟩ := B6_a.out.cells; clear hb6))
  go_loopw [15, 16] (fun n i wr => ∃ k : Nat, k ≤ ll ∧ i = .int .i64 k ∧ n = .int .i64 ((Z.take k).sum : Nat) ∧ wr = w6) (fun _ i _ => ll - (intOf i).toNat)
  case atStart => exact ⟨0, Nat.zero_le _, rfl, rfl, rfl⟩
  case round =>
    obtain ⟨k, hk, rfl, rfl, rfl⟩ := hrel
    by_cases hlt : k < ll
    · have hlt' : (k : Int) < ll := by omega
      have hkL : k < Z.length := by rw [hLl'.out]; exact hlt
      have hsn := sum_snoc Z hkL
      have hs1 := hsl'.out (k + 1)
      rw [hm'.out] at hs1
      obtain ⟨bb, off, rfl, -, hcc⟩ := R6_e.out.cells (by omega)
      have hcell := hcc k hlt
      have hg : (Z.map Int.ofNat).getD k 0 = ((Z.getD k 0 : Nat) : Int) := by simp [List.getD, hkL]
      rw [hg] at hcell
      have hxb := hbd'.out (Z.getD k 0) (by rw [show Z.getD k 0 = Z[k] by simp [List.getD, hkL]]; exact List.getElem_mem _)
      obtain ⟨x, hx⟩ : ∃ x, x = Z.getD k 0 := ⟨_, rfl⟩
      obtain ⟨s, hs⟩ : ∃ s, s = (Z.take k).sum := ⟨_, rfl⟩
      obtain ⟨t, ht⟩ : ∃ t, t = (Z.take (k + 1)).sum := ⟨_, rfl⟩
      rw [← hx, ← hs, ← ht] at hsn
      rw [← hx] at hcell hxb
      rw [← ht] at hs1
      rw [← hs]
      have ht' := Go.Lib.hid ht
      have hadd : (s : Int) + (x : Int) = (t : Int) := by omega
      have htI : (t : Int) ≤ 324810 := by omega
      have x1 : ¬ (x : Int) < 1 := by omega
      have x2 : ¬ (81 : Int) < x := by omega
      clear hcc hg hx hs ht hsn hs1 hkL hxb
      go_wp2
      go_roundw
      case rel => exact ⟨k + 1, by omega, by go_num, by rw [← ht'.out], trivial⟩
      case measure => (simp [intOf] <;> omega)
    · obtain rfl : k = ll := by omega
      have e : Z.take k = Z := List.take_of_length_le (by rw [hLl'.out]; exact Nat.le_refl _)
      rw [e, hNs'.out]
      go_wp2_with (go_at_call 16; refine (alive12_ok _).mono ?_; rintro e w7 ⟨rfl, hb⟩; have hWZ := Go.Lib.hid (hW6.out.trans (hb.mono hW6.out.size)); clear hb)
      go_ret
      exact ⟨by simp, hWZ.out⟩

theorem tallySame_walk (ax0 : Option Addr) (lenx0 capx0 : Nat) (zx0 : List Int) (W : World) (wx0 : IsRow .u32 W ax0 lenx0 capx0 zx0) :
    Calls Try.prog 6 #[.slice ax0 lenx0 capx0] W fun e w' => e = .returned (.bool true) ∧ Below W.heap.size W w' := by
  have hr := Row.of_isRow wx0
  have hm := Nat.le_trans hr.hcap hr.hmax
  unfold maxLen at hm
  by_cases h1 : (150 : Int) < lenx0
  · exact tallySame_out W _ _ _ (by omega) h1
  obtain ⟨m, h4, h5⟩ := nats_of hr.wf
  exact tallySame_in W _ _ _ _ m hr (by omega) h4 (by rw [← hr.hlen, h4, List.length_map]) h5
end Go.Proofs.Ythbjcjphplgobaa
