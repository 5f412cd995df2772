/- CoderZeros: zeros have few bits; behind them the first sum is no greater, the second pair the same. -/
import Derived.Test.YtifbigmgiakakaaZ9

namespace Go.Proofs.Ytifbigmgiakakaa
open Go.RowKit Cad

set_option maxRecDepth 100000 in
theorem coderZeros_out (W : World) (al : Option Addr) (ll cl : Nat) (n : Int) (_hll : ll ≤ 9223372036854775807) (h : (100 : Int) < ll ∨ (¬ (100 : Int) < ll ∧ n < 0) ∨ (¬ (100 : Int) < ll ∧ ¬ n < 0 ∧ 500 < n)) :
    Calls Try.prog 10 #[.slice al ll cl, .int .i64 n] W fun e w' => e = .returned (.bool true) ∧ Below W.heap.size W w' := by
  have hWE0 := Go.Lib.hid (Below.refl W.heap.size W)
  rcases h with h1 | ⟨h1, h2⟩ | ⟨h1, h2, h3⟩
  · go_enter Try.func10, Try.ntmps10
    go_wp2_with (first
      | (go_at_call 16; refine (alive9_ok _).mono ?_; rintro e w1 ⟨rfl, hb1⟩; have hWE1 := Go.Lib.hid hWE0.out; have hW1 := Go.Lib.hid (hWE1.out.trans (hb1.mono hWE1.out.size)); clear hb1))
    go_ret
    exact ⟨rfl, hW1.out⟩
  · have d1 : decide ((100 : Int) < ll) = false := decide_eq_false h1
    go_enter Try.func10, Try.ntmps10
    go_wp2_with (first
      | (go_at_call 16; refine (alive9_ok _).mono ?_; rintro e w1 ⟨rfl, hb1⟩; have hWE1 := Go.Lib.hid hWE0.out; have hW1 := Go.Lib.hid (hWE1.out.trans (hb1.mono hWE1.out.size)); clear hb1))
    go_ret
    exact ⟨rfl, hW1.out⟩
  · have d1 : decide ((100 : Int) < ll) = false := decide_eq_false h1
    have d2 : decide (n < 0) = false := decide_eq_false h2
    go_enter Try.func10, Try.ntmps10
    go_wp2_with (first
      | (go_at_call 16; refine (alive9_ok _).mono ?_; rintro e w1 ⟨rfl, hb1⟩; have hWE1 := Go.Lib.hid hWE0.out; have hW1 := Go.Lib.hid (hWE1.out.trans (hb1.mono hWE1.out.size)); clear hb1))
    go_ret
    exact ⟨rfl, hW1.out⟩

set_option maxRecDepth 100000 in
set_option maxHeartbeats 8000000 in
theorem coderZeros_in (W : World) (al : Option Addr) (ll cl : Nat) (l : List Int) (m : List Nat) (n : Nat) (hl : Row .u32 W al ll cl l) (h100 : ll ≤ 100) (hlm : l = m.map Int.ofNat) (hm : m.length = ll) (hm32 : ∀ x ∈ m, x < 4294967296) (hn : n ≤ 500) :
    Calls Try.prog 10 #[.slice al ll cl, .int .i64 n] W fun e w' => e = .returned (.bool true) ∧ Below W.heap.size W w' := by
  have hWE0 := Go.Lib.hid (Below.refl W.heap.size W)
  have RE0_l := Go.Lib.hid hl
  have hz32 : ∀ x ∈ List.replicate n 0, x < 4294967296 := fun x hx => by rw [List.eq_of_mem_replicate hx]; decide
  have hall : ∀ k, ∀ x ∈ m ++ List.replicate k 0, x < 4294967296 := fun k x hx => by
    rcases List.mem_append.1 hx with hx | hx
    · exact hm32 x hx
    · rw [List.eq_of_mem_replicate hx]; decide
  obtain ⟨Z, hZ⟩ : ∃ Z, Z = codesD dStart (List.replicate n 0) := ⟨_, rfl⟩
  obtain ⟨A, hA⟩ : ∃ A, A = Z.length := ⟨_, rfl⟩
  obtain ⟨mn, hmn⟩ : ∃ q, q = (A + 7) / 8 := ⟨_, rfl⟩
  obtain ⟨E, hE⟩ : ∃ E, E = after dStart m := ⟨_, rfl⟩
  obtain ⟨X, hX⟩ : ∃ X, X = after dStart (m ++ List.replicate n 0) := ⟨_, rfl⟩
  have hEok : E.ok := by rw [hE]; exact after_ok _ dStart_ok hm32
  have hXE : X = after E (List.replicate n 0) := by rw [hX, after_append, hE]
  obtain ⟨z1, z2, z3⟩ := zeros_s n E
  rw [← hXE] at z1 z2 z3
  have z4 := decs_le n E.s0
  rw [← z1] at z4
  have hA11 : A ≤ 11 * n := by have := zeros_start n; rw [← hZ, ← hA] at this; exact this
  have wfl := Go.Lib.hid hl.wf
  have wfz : Hid (∀ x ∈ List.replicate n (0 : Int), (Lit.int .u32 x).wf = true) := Go.Lib.hid fun x hx => by rw [List.eq_of_mem_replicate hx]; decide
  have e1 : Hid (∀ w b c, Row .u32 w b n c (List.replicate n 0) → Calls Try.prog 11 #[.slice b n c] w fun e W' => ∃ b c, e = .returned (.tuple #[.agg #[.slice b mn c, .int .i64 A], .int .i64 0]) ∧ Row .u8 W' b mn c (pack Z) ∧ Below w.heap.size w W') := Go.Lib.hid fun w b c h => by
    have := PEncode_ok w b n c (List.replicate n 0) (by rw [List.map_replicate]; exact h) (by omega) (by simp) hz32
    rw [← hZ, ← hA, ← hmn] at this
    exact this
  have a1 : Hid (∀ w, Row .u32 w al ll cl l → ResA 12 #[.slice al ll cl] w E.k0 E.k1 E.s0 E.s1 0) := Go.Lib.hid fun w h => by
    rw [hlm] at h
    rw [hE]
    exact PAfter_m w al ll cl m h (by omega) hm hm32
  have a2 : Hid (∀ w b c, Row .u32 w b (ll + n) c ((m ++ List.replicate n 0).map Int.ofNat) → ResA 12 #[.slice b (ll + n) c] w X.k0 E.k1 X.s0 E.s1 0) := Go.Lib.hid fun w b c h => by
    have := PAfter_m w b (ll + n) c (m ++ List.replicate n 0) h (by omega) (by simp [hm]) (hall n)
    rw [← hX, z2, z3] at this
    exact this
  unfold ResA at a1 a2
  have hwfa : Hid (∀ k, ∀ x ∈ (m ++ List.replicate k 0).map Int.ofNat, (Lit.int .u32 x).wf = true) := Go.Lib.hid fun k => natsU _ (hall k)
  have hend : Hid (((n : Int) < 500) ∨ (¬ ((n : Int) < 500) ∧ (X.k0 : Int) = 0)) := Go.Lib.hid (by
    by_cases h : n < 500
    · exact .inl (by omega)
    · refine .inr ⟨by omega, ?_⟩
      have := zeros_end hEok (show 500 ≤ n by omega)
      rw [← hXE] at this
      rw [this]; rfl)
  have d1 : decide ((100 : Int) < ll) = false := decide_eq_false (by omega)
  have d2 : decide ((n : Int) < 0) = false := decide_eq_false (by omega)
  have d3 : decide ((500 : Int) < n) = false := decide_eq_false (by omega)
  have d4 : decide (11 * (n : Int) < A) = false := decide_eq_false (by omega)
  have hn0 : (0 : Int) ≤ n := by omega
  have hn5 : (n : Int) ≤ 500 := by omega
  have hl1 : (ll : Int) ≤ 100 := by omega
  have hA' : (A : Int) ≤ 11 * (n : Int) := by omega
  have hs0 : (X.s0 : Int) ≤ E.s0 := by omega
  have hlm' := Go.Lib.hid hlm
  obtain ⟨x0, hx0⟩ : ∃ x : Nat, x = X.k0 := ⟨_, rfl⟩
  obtain ⟨x2, hx2⟩ : ∃ x : Nat, x = X.s0 := ⟨_, rfl⟩
  rw [← hx0, ← hx2] at a2
  rw [← hx0] at hend
  rw [← hx2] at hs0
  clear hl hlm hm hm32 hz32 hall hZ hA hmn hE hX hXE z1 z2 z3 z4 hA11 hEok hx0 hx2
  go_enter Try.func10, Try.ntmps10
  go_wp2_with (first
    | (at_make; refine law_make elU32 W rfl _ _ rfl .i64 .i64 _ _ n rfl rfl (by omega) (by omega) (by omega) ?_; intro w1 hown1 hb1 hs1; have hWE1 := Go.Lib.hid hWE0.out; have hW1 := Go.Lib.hid (hWE1.out.trans (hb1.mono hWE1.out.size)); have R1_l := Go.Lib.hid (RE0_l.out.below hb1 (Nat.le_refl _)); have R1_z := Go.Lib.hid (Row.of_own hown1 wfz.out); clear hown1 hb1 hs1)
    | (go_at_call 11; ((with_reducible refine (e1.out _ _ _ ?h1).mono ?_)); (case h1 => exact R1_z.out); rintro e w2 ⟨b2, cp2, rfl, hr2, hb2⟩; have hWE2 := Go.Lib.hid hW1.out; have hW2 := Go.Lib.hid (hWE2.out.trans (hb2.mono hWE2.out.size)); have R2_l := Go.Lib.hid (R1_l.out.below hb2 (Nat.le_refl _)); have R2_z := Go.Lib.hid (R1_z.out.below hb2 (Nat.le_refl _)); clear hb2)
    | (go_at_call 12; ((with_reducible refine (a1.out _ ?h1).mono ?_)); (case h1 => exact (R2_l.out.below (below1 w2 (.cells #[(.slice b2 mn cp2), .int .i64 A] 24)) (Nat.le_refl _))); rintro e w3 ⟨rfl, hb3⟩; have hWE3 := Go.Lib.hid (hW2.out.alloc hW2.out.size (.cells #[(.slice b2 mn cp2), .int .i64 A] 24)); have hW3 := Go.Lib.hid (hWE3.out.trans (hb3.mono hWE3.out.size)); have R3_l := Go.Lib.hid ((R2_l.out.below (below1 w2 (.cells #[(.slice b2 mn cp2), .int .i64 A] 24)) (Nat.le_refl _)).below hb3 (Nat.le_refl _)); have R3_z := Go.Lib.hid ((R2_z.out.below (below1 w2 (.cells #[(.slice b2 mn cp2), .int .i64 A] 24)) (Nat.le_refl _)).below hb3 (Nat.le_refl _)); have BE3_b := Go.Lib.hid (box1 w2 (.slice b2 mn cp2) A); have B3_b := Go.Lib.hid (BE3_b.out.below hb3 BE3_b.out.lt); obtain ⟨k3b0, k3b1, k3b2, k3b3⟩ := B3_b.out.cells; have l3b := B3_b.out.lt; have n3b : w2.heap.size ≠ w3.heap.size := (by omega); clear hb3)
    | (at_builtin; refine law_appendRow elU32 _ rfl _ _ rfl (w3.heap.size + 1) _ 0 [] rfl (by have h := own_empty (w3.alloc (.cells #[.int .i64 E.k0, .int .i64 E.k1, .int .u64 E.s0, .int .u64 E.s1] 31)) 57 .u32; simp only [World.size_alloc] at h; exact h) al ll cl l rfl ((R3_l.out.below (below1 w3 (.cells #[.int .i64 E.k0, .int .i64 E.k1, .int .u64 E.s0, .int .u64 E.s1] 31)) (Nat.le_refl _)).below (below1 (w3.alloc (.cells #[.int .i64 E.k0, .int .i64 E.k1, .int .u64 E.s0, .int .u64 E.s1] 31)) (.cells #[] 57)) (Nat.le_refl _)) (by omega) (by simp) ?_; intro v4 w4 hown4 hbx4; simp only [Nat.zero_add, List.nil_append] at hown4; obtain ⟨o4, p4, rfl⟩ := own_form hown4; have hb4 := (below1 (w3.alloc (.cells #[.int .i64 E.k0, .int .i64 E.k1, .int .u64 E.s0, .int .u64 E.s1] 31)) (.cells #[] 57)).trans (hbx4.mono (by simp)); clear hbx4; have hWE4 := Go.Lib.hid (hW3.out.alloc hW3.out.size (.cells #[.int .i64 E.k0, .int .i64 E.k1, .int .u64 E.s0, .int .u64 E.s1] 31)); have hW4 := Go.Lib.hid (hWE4.out.trans (hb4.mono hWE4.out.size)); have R4_l := Go.Lib.hid ((R3_l.out.below (below1 w3 (.cells #[.int .i64 E.k0, .int .i64 E.k1, .int .u64 E.s0, .int .u64 E.s1] 31)) (Nat.le_refl _)).below hb4 (Nat.le_refl _)); have R4_z := Go.Lib.hid ((R3_z.out.below (below1 w3 (.cells #[.int .i64 E.k0, .int .i64 E.k1, .int .u64 E.s0, .int .u64 E.s1] 31)) (Nat.le_refl _)).below hb4 (Nat.le_refl _)); have BE4_b := Go.Lib.hid (B3_b.out.alloc (.cells #[.int .i64 E.k0, .int .i64 E.k1, .int .u64 E.s0, .int .u64 E.s1] 31)); have B4_b := Go.Lib.hid (BE4_b.out.below hb4 BE4_b.out.lt); obtain ⟨k4b0, k4b1, k4b2, k4b3⟩ := B4_b.out.cells; have BE4_d := Go.Lib.hid (duat1 w3 E.k0 E.k1 E.s0 E.s1); have B4_d := Go.Lib.hid (BE4_d.out.below hb4 BE4_d.out.lt); obtain ⟨k4d0, k4d1, k4d2, k4d3, k4d4, k4d5, k4d6, k4d7⟩ := B4_d.out.cells; have R4_o := Go.Lib.hid (Row.of_own hown4 wfl.out); have O4_o := Go.Lib.hid hown4; have hsz4 := hb4.size; clear hown4 hb4))
  obtain ⟨base, hbase⟩ : ∃ x, x = w3.heap.size + 1 := ⟨_, rfl⟩
  rw [← hbase] at O4_o
  have lb : w2.heap.size < base := by rw [hbase]; have := BE4_b.out.lt; simpa using this
  have ld : w3.heap.size < base := by rw [hbase]; exact Nat.lt_succ_self _
  have lW : W.heap.size ≤ base := by rw [hbase]; have := hWE4.out.size; simpa using this
  have lw : base ≤ w4.heap.size := by rw [hbase]; simpa using hsz4
  obtain ⟨xb, hxb⟩ : ∃ x, x = w2.heap.size := ⟨_, rfl⟩
  obtain ⟨xd, hxd⟩ : ∃ x, x = w3.heap.size := ⟨_, rfl⟩
  have hW5 := Go.Lib.hid hW4.out
  have B5_b := Go.Lib.hid B4_b.out
  have B5_d := Go.Lib.hid B4_d.out
  have O5_o := Go.Lib.hid O4_o.out
  rw [← hxb] at B5_b lb
  rw [← hxd] at B5_d ld
  try rw [← hxb]
  try rw [← hxd]
  have l5 : w4.heap.size = w4.heap.size := rfl
  clear hbase hxb hxd R1_l R2_l R3_l R4_l R1_z R2_z R3_z R4_z R4_o O4_o B4_b B4_d hW4 hWE4 BE4_b BE4_d hW1 hW2 hW3 hWE1 hWE2 hWE3 B3_b BE3_b k4b0 k4b1 k4b2 k4b3 k4d0 k4d1 k4d2 k4d3 k4d4 k4d5 k4d6 k4d7 k3b0 k3b1 k3b2 k3b3 l5
  go_wp2
  go_loopg [9, 10] n (fun g all i wr => ∃ (k : Nat) (v : Value), k ≤ n ∧ g = n - k ∧ i = .int .i64 k ∧ all = v ∧ wr.ownsRow base 57 1 v (ll + k) (nums .u32 ((m ++ List.replicate k 0).map Int.ofNat)) ∧ BoxAt wr xb (.slice b2 mn cp2) A ∧ DuAt wr xd E.k0 E.k1 E.s0 E.s1 ∧ Below W.heap.size W wr ∧ base ≤ wr.heap.size)
  case atStart => exact ⟨0, _, Nat.zero_le _, rfl, rfl, rfl, (by rw [List.replicate_zero, List.append_nil, ← hlm'.out]; exact O5_o.out), B5_b.out, B5_d.out, hW5.out, lw⟩
  case round =>
  obtain ⟨k, v, hk, hg, rfl, rfl, ho, hb, hd, hB, hsz⟩ := hrel
  obtain ⟨av, cv, rfl⟩ := own_form ho
  have hgo := Go.Lib.hid hg
  have hb' := Go.Lib.hid hb
  have hd' := Go.Lib.hid hd
  have hB' := Go.Lib.hid hB
  clear hg hb hd hB O5_o B5_b B5_d hW5
  by_cases hlt : k < n
  · have hlt' : (k : Int) < n := by omega
    clear e1 a1 a2
    go_wp2_with (at_builtin; refine law_append1 elU32 _ rfl _ _ rfl base _ (ll + k) ((m ++ List.replicate k 0).map Int.ofNat) rfl ho 0 rfl (by omega) (by omega) ?_; intro v2 q2 o2 hb2; obtain ⟨a2, c2, rfl⟩ := own_form o2; have b2' := Go.Lib.hid (hb'.out.below hb2 lb); have d2' := Go.Lib.hid (hd'.out.below hb2 ld); have B2' := Go.Lib.hid (hB'.out.trans (hb2.mono lW)); have z2 : base ≤ q2.heap.size := Nat.le_trans hsz hb2.size; have o2' := Go.Lib.hid o2; clear hb2 o2)
    go_roundg (n - (k + 1))
    case measure => (have hgk := hgo.out; omega)
    case rel =>
      refine ⟨k + 1, _, by omega, rfl, by go_num, rfl, ?_, b2'.out, d2'.out, B2'.out, z2⟩
      have e : ((m ++ List.replicate k 0).map Int.ofNat) ++ [0] = (m ++ List.replicate (k + 1) 0).map Int.ofNat := by
        rw [List.replicate_succ', ← List.append_assoc, List.map_append (l₂ := [0])]; rfl
      rw [← e]
      exact o2'.out
  · obtain rfl : k = n := by omega
    have hlt' : ¬ (k : Int) < k := by omega
    have Ro := Go.Lib.hid (Row.of_own ho (hwfa.out k))
    obtain ⟨w5, hw5⟩ : ∃ w, w = wr := ⟨_, rfl⟩
    subst hw5
    have hW5 := hB'
    have B5_b := hb'
    have B5_d := hd'
    obtain ⟨f0, f1, f2, f3⟩ := B5_b.out.cells
    obtain ⟨g0, g1, g2, g3, g4, g5, g6, g7⟩ := B5_d.out.cells
    clear ho hb' hd' hB' lb ld lW lw hsz hgo
    rcases hend.out with he | ⟨he, hk0⟩
    · clear hend
      go_wp2_with (first
        | (go_at_call 12; ((with_reducible refine (a2.out _ _ _ Ro.out).mono ?_)); rintro e w6 ⟨rfl, hb6⟩; have hWE6 := Go.Lib.hid hW5.out; have hW6 := Go.Lib.hid (hWE6.out.trans (hb6.mono hWE6.out.size)); have BE6_b := Go.Lib.hid B5_b.out; have B6_b := Go.Lib.hid (BE6_b.out.below hb6 BE6_b.out.lt); obtain ⟨k6b0, k6b1, k6b2, k6b3⟩ := B6_b.out.cells; have BE6_d := Go.Lib.hid B5_d.out; have B6_d := Go.Lib.hid (BE6_d.out.below hb6 BE6_d.out.lt); obtain ⟨k6d0, k6d1, k6d2, k6d3, k6d4, k6d5, k6d6, k6d7⟩ := B6_d.out.cells; have l6b := B6_b.out.lt; have n6b : xb ≠ w6.heap.size := (by omega); have l6d := B6_d.out.lt; have n6d : xd ≠ w6.heap.size := (by omega); clear hb6)
        | (go_at_call 16; refine (alive9_ok _).mono ?_; rintro e w7 ⟨rfl, hb7⟩; have hWE7 := Go.Lib.hid (hW6.out.alloc hW6.out.size (.cells #[.int .i64 x0, .int .i64 E.k1, .int .u64 x2, .int .u64 E.s1] 31)); have hW7 := Go.Lib.hid (hWE7.out.trans (hb7.mono hWE7.out.size)); clear hb7))
      go_ret
      exact ⟨rfl, hW7.out⟩
    · clear hend
      rw [hk0] at a2
      clear hk0
      go_wp2_with (first
        | (go_at_call 12; ((with_reducible refine (a2.out _ _ _ Ro.out).mono ?_)); rintro e w6 ⟨rfl, hb6⟩; have hWE6 := Go.Lib.hid hW5.out; have hW6 := Go.Lib.hid (hWE6.out.trans (hb6.mono hWE6.out.size)); have BE6_b := Go.Lib.hid B5_b.out; have B6_b := Go.Lib.hid (BE6_b.out.below hb6 BE6_b.out.lt); obtain ⟨k6b0, k6b1, k6b2, k6b3⟩ := B6_b.out.cells; have BE6_d := Go.Lib.hid B5_d.out; have B6_d := Go.Lib.hid (BE6_d.out.below hb6 BE6_d.out.lt); obtain ⟨k6d0, k6d1, k6d2, k6d3, k6d4, k6d5, k6d6, k6d7⟩ := B6_d.out.cells; have l6b := B6_b.out.lt; have n6b : xb ≠ w6.heap.size := (by omega); have l6d := B6_d.out.lt; have n6d : xd ≠ w6.heap.size := (by omega); clear hb6)
        | (go_at_call 16; refine (alive9_ok _).mono ?_; rintro e w7 ⟨rfl, hb7⟩; have hWE7 := Go.Lib.hid (hW6.out.alloc hW6.out.size (.cells #[.int .i64 0, .int .i64 E.k1, .int .u64 x2, .int .u64 E.s1] 31)); have hW7 := Go.Lib.hid (hWE7.out.trans (hb7.mono hWE7.out.size)); clear hb7))
      go_ret
      exact ⟨rfl, hW7.out⟩

theorem coderZeros_walk (ax0 : Option Addr) (lenx0 capx0 : Nat) (zx0 : List Int) (x1 : Int) (W : World) (wx0 : IsRow .u32 W ax0 lenx0 capx0 zx0) (wx1 : (Lit.int .i64 x1).wf = true) :
    Calls Try.prog 10 #[.slice ax0 lenx0 capx0, .int .i64 x1] W fun e w' => e = .returned (.bool true) ∧ Below W.heap.size W w' := by
  have hl := Row.of_isRow wx0
  have hm := Nat.le_trans hl.hcap hl.hmax
  unfold maxLen at hm
  by_cases h : (100 : Int) < lenx0 ∨ (¬ (100 : Int) < lenx0 ∧ x1 < 0) ∨ (¬ (100 : Int) < lenx0 ∧ ¬ x1 < 0 ∧ 500 < x1)
  · exact coderZeros_out W _ _ _ _ (by omega) h
  · obtain ⟨n, rfl⟩ : ∃ n : Nat, x1 = n := ⟨x1.toNat, by omega⟩
    obtain ⟨m, h2, h3⟩ := nats_of hl.wf
    exact coderZeros_in W _ _ _ _ m n hl (by omega) h2 (by rw [← hl.hlen, h2, List.length_map]) h3 (by omega)
end Go.Proofs.Ytifbigmgiakakaa
