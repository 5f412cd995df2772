/- CoderCut: a code that is cut off is too short for all numbers, and gives the first ones. -/
import Derived.Test.YtifbigmgiakakaaZ9

namespace Go.Proofs.Ytifbigmgiakakaa
open Go.RowKit Cad

set_option maxRecDepth 100000 in
theorem coderCut_out (W : World) (al : Option Addr) (ll cl : Nat) (left : Int) (_hll : ll ≤ 9223372036854775807) (h : (ll : Int) < 1 ∨ (¬ (ll : Int) < 1 ∧ (100 : Int) < ll)) :
    Calls Try.prog 9 #[.slice al ll cl, .int .i64 left] W fun e w' => e = .returned (.bool true) ∧ Below W.heap.size W w' := by
  have hWE0 := Go.Lib.hid (Below.refl W.heap.size W)
  rcases h with h1 | ⟨h1, h2⟩
  · go_enter Try.func9, Try.ntmps9
    go_wp2_with (first
      | (go_at_call 16; refine (alive9_ok _).mono ?_; rintro e w1 ⟨rfl, hb1⟩; have hWE1 := Go.Lib.hid hWE0.out; have hW1 := Go.Lib.hid (hWE1.out.trans (hb1.mono hWE1.out.size)); clear hb1))
    go_ret
    exact ⟨rfl, hW1.out⟩
  · have d1 : decide ((ll : Int) < 1) = false := decide_eq_false h1
    go_enter Try.func9, Try.ntmps9
    go_wp2_with (first
      | (go_at_call 16; refine (alive9_ok _).mono ?_; rintro e w1 ⟨rfl, hb1⟩; have hWE1 := Go.Lib.hid hWE0.out; have hW1 := Go.Lib.hid (hWE1.out.trans (hb1.mono hWE1.out.size)); clear hb1))
    go_ret
    exact ⟨rfl, hW1.out⟩

set_option maxRecDepth 100000 in
set_option maxHeartbeats 8000000 in
theorem coderCut_in (W : World) (al : Option Addr) (ll cl : Nat) (l : List Int) (m : List Nat) (left : Int) (hl : Row .u32 W al ll cl l) (h1 : 1 ≤ ll) (h100 : ll ≤ 100) (hlm : l = m.map Int.ofNat) (hm : m.length = ll) (hm32 : ∀ x ∈ m, x < 4294967296) (wl : (Lit.int .i64 left).wf = true) :
    Calls Try.prog 9 #[.slice al ll cl, .int .i64 left] W fun e w' => e = .returned (.bool true) ∧ Below W.heap.size W w' := by
  have bl := bounds_i64 wl
  have hcap := hl.hcap
  have hWE0 := Go.Lib.hid (Below.refl W.heap.size W)
  have RE0_l := Go.Lib.hid hl
  obtain ⟨Z, hZ⟩ : ∃ Z, Z = codesD dStart m := ⟨_, rfl⟩
  obtain ⟨A, hA⟩ : ∃ A, A = Z.length := ⟨_, rfl⟩
  obtain ⟨mn, hmn⟩ : ∃ q, q = (A + 7) / 8 := ⟨_, rfl⟩
  have hA81 : A ≤ 8100 := by
    have := codesD_len_le m dStart_ok hm32
    rw [← hZ, ← hA, hm] at this
    omega
  have en : Hid (∀ w, Row .u32 w al ll cl l → Res 11 #[.slice al ll cl] w mn (pack Z) A 0) := Go.Lib.hid fun w h => by
    rw [hlm] at h
    have := PEncode_ok w al ll cl m h (by omega) hm hm32
    rw [← hZ, ← hA, ← hmn] at this
    exact this
  unfold Res at en
  have d1 : decide ((ll : Int) < 1) = false := decide_eq_false (by omega)
  have d2 : decide ((100 : Int) < ll) = false := decide_eq_false (by omega)
  have hl1 : (ll : Int) ≤ 100 := by omega
  by_cases hin : 0 ≤ left ∧ left < A
  · obtain ⟨t, rfl⟩ : ∃ t : Nat, left = t := ⟨left.toNat, by omega⟩
    obtain ⟨P, hP⟩ : ∃ P, P = midB Z 0 t := ⟨_, rfl⟩
    have hP2 : P = (codesD dStart m).take t := by rw [hP, hZ]; unfold midB; rw [List.drop_zero, Nat.sub_zero]
    obtain ⟨mp, hmp⟩ : ∃ q, q = (P.length + 7) / 8 := ⟨_, rfl⟩
    have lP : P.length = t := by rw [hP, midB_len _ (Nat.zero_le _) (by omega)]; omega
    have kn : Hid (∀ w a c, Row .u8 w a mn c (pack Z) → Calls Try.prog 29 #[.agg #[.slice a mn c, .int .i64 A], .int .i64 0, .int .i64 t] w fun e W' => ∃ b c, e = .returned (.tuple #[.agg #[.slice b mp c, .int .i64 t], .int .i64 0]) ∧ Row .u8 W' b mp c (pack P) ∧ Below w.heap.size w W') := Go.Lib.hid fun w a c h => by
      have := BCut_ok w a mn c Z 0 t h (by omega) (Nat.zero_le _) (by omega)
      rw [← hP, ← hmp, ← hA] at this
      exact this
    have dec : ∀ (k : Nat), k ≤ ll → ((codesD dStart (m.take k)).length ≤ t → decD P k 0 dStart = (m.take k, (codesD dStart (m.take k)).length, 0)) ∧ (t < (codesD dStart (m.take k)).length → decD P k 0 dStart = ([], 0, 24)) := fun k hk => by
      have := dec_part hm32 dStart_ok (left := t) (n := k) (by rw [← hZ, ← hA]; omega) (by omega)
      rw [← hP2] at this
      exact this
    have rl : Hid (∀ w b c, Row .u8 w b mp c (pack P) → Calls Try.prog 13 #[.agg #[.slice b mp c, .int .i64 t], .int .i64 ll] w fun r W' => ∃ a c, r = .returned (.tuple #[.slice a 0 c, .int .i64 0, .int .i64 24]) ∧ Below w.heap.size w W') := Go.Lib.hid fun w b c h => by
      have e := (dec ll (Nat.le_refl _)).2 (by rw [List.take_of_length_le (by omega), ← hZ, ← hA]; omega)
      have := PDecode_m w b mp c P ll h (by omega) (by omega) _ _ _ e
      rw [lP] at this
      refine this.mono ?_
      rintro r W' ⟨a, k, c, rfl, h2, h3⟩
      obtain rfl : k = 0 := h2.hlen.symm
      exact ⟨a, c, rfl, h3⟩
    have enk : Hid (∀ k, k ≤ ll → ∀ w, Row .u32 w al ll cl l → Res 11 #[.slice al k cl] w (((codesD dStart (m.take k)).length + 7) / 8) (pack (codesD dStart (m.take k))) (codesD dStart (m.take k)).length 0) := Go.Lib.hid fun k hk w h => by
      have h' := h.take k hk
      rw [hlm, map_take] at h'
      exact PEncode_ok w al k cl (m.take k) h' (by omega) (by rw [List.length_take]; omega) (fun x hx => hm32 x (List.mem_of_mem_take hx))
    have rdk : Hid (∀ k, k ≤ ll → (codesD dStart (m.take k)).length ≤ t → ∀ w b c, Row .u8 w b mp c (pack P) → ResL 13 #[.agg #[.slice b mp c, .int .i64 t], .int .i64 k] w (l.take k) (codesD dStart (m.take k)).length 0) := Go.Lib.hid fun k hk ht w b c h => by
      have := PDecode_m w b mp c P k h (by omega) (by omega) _ _ _ ((dec k hk).1 ht)
      rw [lP, ← map_take, ← hlm] at this
      exact this
    have rnk : Hid (∀ k, k ≤ ll → t < (codesD dStart (m.take k)).length → ∀ w b c, Row .u8 w b mp c (pack P) → Calls Try.prog 13 #[.agg #[.slice b mp c, .int .i64 t], .int .i64 k] w fun r W' => ∃ a c, r = .returned (.tuple #[.slice a 0 c, .int .i64 0, .int .i64 24]) ∧ Below w.heap.size w W') := Go.Lib.hid fun k hk ht w b c h => by
      have := PDecode_m w b mp c P k h (by omega) (by omega) _ _ _ ((dec k hk).2 ht)
      rw [lP] at this
      refine this.mono ?_
      rintro r W' ⟨a, k, c, rfl, h2, h3⟩
      obtain rfl : k = 0 := h2.hlen.symm
      exact ⟨a, c, rfl, h3⟩
    have smk : Hid (∀ k, k ≤ ll → ∀ w b j c, Row .u32 w b j c (l.take k) → Row .u32 w al ll cl l → Calls Try.prog 21 #[.slice b j c, .slice al k cl] w fun e W' => e = .returned (.bool true) ∧ Below w.heap.size w W') := Go.Lib.hid fun k hk w b j c h h' => by
      have := CSame_ok w b j c _ h al k cl _ (h'.take k hk)
      simpa using this
    have hk : (t : Int) < A := hin.2
    have d4 : decide ((t : Int) < 0) = false := decide_eq_false (by omega)
    have d5 : decide ((A : Int) ≤ t) = false := decide_eq_false (by omega)
    have hl' := Go.Lib.hid hl
    clear hin hA hZ hlm hm hm32 hmn hP hP2 hmp lP dec hl hA81 wl bl
    go_enter Try.func9, Try.ntmps9
    go_wp2_with (first
      | (go_at_call 11; ((with_reducible refine (en.out _ ?h1).mono ?_)); (case h1 => exact RE0_l.out); rintro e w1 ⟨b1, cp1, rfl, hr1, hb1⟩; have hWE1 := Go.Lib.hid hWE0.out; have hW1 := Go.Lib.hid (hWE1.out.trans (hb1.mono hWE1.out.size)); have R1_l := Go.Lib.hid (RE0_l.out.below hb1 (Nat.le_refl _)); have R1_x := Go.Lib.hid hr1; clear hr1; clear hb1)
      | (go_at_call 29; ((with_reducible refine (kn.out _ _ _ ?h1).mono ?_)); (case h1 => exact (R1_x.out.below (below1 w1 (.cells #[(.slice b1 mn cp1), .int .i64 A] 24)) (Nat.le_refl _))); rintro e w2 ⟨b2, cp2, rfl, hr2, hb2⟩; have hWE2 := Go.Lib.hid (hW1.out.alloc hW1.out.size (.cells #[(.slice b1 mn cp1), .int .i64 A] 24)); have hW2 := Go.Lib.hid (hWE2.out.trans (hb2.mono hWE2.out.size)); have R2_l := Go.Lib.hid ((R1_l.out.below (below1 w1 (.cells #[(.slice b1 mn cp1), .int .i64 A] 24)) (Nat.le_refl _)).below hb2 (Nat.le_refl _)); have R2_x := Go.Lib.hid ((R1_x.out.below (below1 w1 (.cells #[(.slice b1 mn cp1), .int .i64 A] 24)) (Nat.le_refl _)).below hb2 (Nat.le_refl _)); have R2_p := Go.Lib.hid hr2; clear hr2; have BE2_x := Go.Lib.hid (box1 w1 (.slice b1 mn cp1) A); have B2_x := Go.Lib.hid (BE2_x.out.below hb2 BE2_x.out.lt); obtain ⟨k2x0, k2x1, k2x2, k2x3⟩ := B2_x.out.cells; have l2x := B2_x.out.lt; have n2x : w1.heap.size ≠ w2.heap.size := (by omega); clear hb2)
      | (go_at_call 13; ((with_reducible refine (rl.out _ _ _ ?h1).mono ?_)); (case h1 => exact (R2_p.out.below (below1 w2 (.cells #[(.slice b2 mp cp2), .int .i64 t] 24)) (Nat.le_refl _))); rintro e w3 ⟨b3, cp3, rfl, hb3⟩; have hWE3 := Go.Lib.hid (hW2.out.alloc hW2.out.size (.cells #[(.slice b2 mp cp2), .int .i64 t] 24)); have hW3 := Go.Lib.hid (hWE3.out.trans (hb3.mono hWE3.out.size)); have R3_l := Go.Lib.hid ((R2_l.out.below (below1 w2 (.cells #[(.slice b2 mp cp2), .int .i64 t] 24)) (Nat.le_refl _)).below hb3 (Nat.le_refl _)); have R3_x := Go.Lib.hid ((R2_x.out.below (below1 w2 (.cells #[(.slice b2 mp cp2), .int .i64 t] 24)) (Nat.le_refl _)).below hb3 (Nat.le_refl _)); have R3_p := Go.Lib.hid ((R2_p.out.below (below1 w2 (.cells #[(.slice b2 mp cp2), .int .i64 t] 24)) (Nat.le_refl _)).below hb3 (Nat.le_refl _)); have BE3_x := Go.Lib.hid (B2_x.out.alloc (.cells #[(.slice b2 mp cp2), .int .i64 t] 24)); have B3_x := Go.Lib.hid (BE3_x.out.below hb3 BE3_x.out.lt); obtain ⟨k3x0, k3x1, k3x2, k3x3⟩ := B3_x.out.cells; have BE3_p := Go.Lib.hid (box1 w2 (.slice b2 mp cp2) t); have B3_p := Go.Lib.hid (BE3_p.out.below hb3 BE3_p.out.lt); obtain ⟨k3p0, k3p1, k3p2, k3p3⟩ := B3_p.out.cells; clear hb3))
    have hW4 := Go.Lib.hid hW3.out
    have B4_p := Go.Lib.hid B3_p.out
    have R4_p := Go.Lib.hid R3_p.out
    obtain ⟨xp, hxp⟩ : ∃ x, x = w2.heap.size := ⟨_, rfl⟩
    rw [← hxp] at B4_p
    try rw [← hxp]
    clear hxp hW3 B3_p R3_p hW2 hW1 hWE0 hWE1 hWE2 hWE3 BE2_x BE3_x BE3_p B2_x B3_x R1_l R2_l R3_l R1_x R2_x R3_x R2_p RE0_l k2x0 k2x1 k2x2 k2x3 k3x0 k3x1 k3x2 k3x3 k3p0 k3p1 k3p2 k3p3 en kn rl
    go_wp2
    go_loopg [12] ll (fun g i wr => ∃ (k : Nat), k ≤ ll ∧ g = ll - k ∧ i = .int .i64 k ∧ BoxAt wr xp (.slice b2 mp cp2) t ∧ Row .u8 wr b2 mp cp2 (pack P) ∧ Below W.heap.size W wr)
    case atStart => exact ⟨0, Nat.zero_le _, rfl, rfl, B4_p.out, R4_p.out, hW4.out⟩
    case round =>
    obtain ⟨k, hkl, hg, rfl, hb, hr, hB⟩ := hrel
    obtain ⟨w60, hw60⟩ : ∃ w, w = wr := ⟨_, rfl⟩
    subst hw60
    have B60_p := Go.Lib.hid hb
    have R60_p := Go.Lib.hid hr
    have hW60 := Go.Lib.hid hB
    have R60_l := Go.Lib.hid (hl'.out.below hB (Nat.le_refl _))
    have hgo := Go.Lib.hid hg
    clear hb hr hB hg B4_p R4_p hW4
    by_cases hlt : k < ll
    · have hlt' : (k : Int) < ll := by omega
      have hkc : k ≤ cl := by omega
      have ek := Go.Lib.hid (enk.out k hkl)
      have sk := Go.Lib.hid (smk.out k hkl)
      have d0 := rdk.out k hkl
      have d9 := rnk.out k hkl
      obtain ⟨Zk, hZk⟩ : ∃ Z, Z = codesD dStart (m.take k) := ⟨_, rfl⟩
      rw [← hZk] at ek d0 d9
      obtain ⟨Ak, hAk⟩ : ∃ A, A = Zk.length := ⟨_, rfl⟩
      rw [← hAk] at ek d0 d9
      obtain ⟨mk, hmk⟩ : ∃ q, q = (Ak + 7) / 8 := ⟨_, rfl⟩
      rw [← hmk] at ek
      unfold Res at ek
      obtain ⟨p0, p1, p2, p3⟩ := B60_p.out.cells
      by_cases hc : Ak ≤ t
      · have dk := Go.Lib.hid fun w (h : Row .u8 w b2 mp cp2 (pack P)) => d0 hc w _ _ h
        unfold ResL at dk
        have d6 : decide ((Ak : Int) ≤ t) = true := decide_eq_true (by omega)
        have hc' : (Ak : Int) ≤ t := by omega
        clear d0 d9 hZk hAk hmk enk rdk rnk smk hc
        go_wp2_with (first
          | (go_at_call 11; ((with_reducible refine (ek.out _ ?h1).mono ?_)); (case h1 => exact R60_l.out); rintro e w61 ⟨b61, cp61, rfl, hr61, hb61⟩; have hWE61 := Go.Lib.hid hW60.out; have hW61 := Go.Lib.hid (hWE61.out.trans (hb61.mono hWE61.out.size)); have R61_l := Go.Lib.hid (R60_l.out.below hb61 (Nat.le_refl _)); have R61_p := Go.Lib.hid (R60_p.out.below hb61 (Nat.le_refl _)); have BE61_p := Go.Lib.hid B60_p.out; have B61_p := Go.Lib.hid (BE61_p.out.below hb61 BE61_p.out.lt); obtain ⟨k61p0, k61p1, k61p2, k61p3⟩ := B61_p.out.cells; have l61p := B61_p.out.lt; have n61p : xp ≠ w61.heap.size := (by omega); clear hb61)
          | (go_at_call 13; ((with_reducible refine (dk.out _ ?h1).mono ?_)); (case h1 => exact (R61_p.out.below (below1 w61 (.cells #[(.slice b61 mk cp61), .int .i64 Ak] 24)) (Nat.le_refl _))); rintro e w62 ⟨b62, n62, cp62, rfl, hr62, hb62⟩; have hWE62 := Go.Lib.hid (hW61.out.alloc hW61.out.size (.cells #[(.slice b61 mk cp61), .int .i64 Ak] 24)); have hW62 := Go.Lib.hid (hWE62.out.trans (hb62.mono hWE62.out.size)); have R62_l := Go.Lib.hid ((R61_l.out.below (below1 w61 (.cells #[(.slice b61 mk cp61), .int .i64 Ak] 24)) (Nat.le_refl _)).below hb62 (Nat.le_refl _)); have R62_p := Go.Lib.hid ((R61_p.out.below (below1 w61 (.cells #[(.slice b61 mk cp61), .int .i64 Ak] 24)) (Nat.le_refl _)).below hb62 (Nat.le_refl _)); have R62_m := Go.Lib.hid hr62; clear hr62; have BE62_p := Go.Lib.hid (B61_p.out.alloc (.cells #[(.slice b61 mk cp61), .int .i64 Ak] 24)); have B62_p := Go.Lib.hid (BE62_p.out.below hb62 BE62_p.out.lt); obtain ⟨k62p0, k62p1, k62p2, k62p3⟩ := B62_p.out.cells; have BE62_c := Go.Lib.hid (box1 w61 (.slice b61 mk cp61) Ak); have B62_c := Go.Lib.hid (BE62_c.out.below hb62 BE62_c.out.lt); obtain ⟨k62c0, k62c1, k62c2, k62c3⟩ := B62_c.out.cells; clear hb62)
          | (go_at_call 21; ((with_reducible refine (sk.out _ _ _ _ ?h1 ?h2).mono ?_)); (case h1 => exact R62_m.out); (case h2 => exact R62_l.out); rintro e w63 ⟨rfl, hb63⟩; have hWE63 := Go.Lib.hid hW62.out; have hW63 := Go.Lib.hid (hWE63.out.trans (hb63.mono hWE63.out.size)); have R63_l := Go.Lib.hid (R62_l.out.below hb63 (Nat.le_refl _)); have R63_p := Go.Lib.hid (R62_p.out.below hb63 (Nat.le_refl _)); have R63_m := Go.Lib.hid (R62_m.out.below hb63 (Nat.le_refl _)); have BE63_p := Go.Lib.hid B62_p.out; have B63_p := Go.Lib.hid (BE63_p.out.below hb63 BE63_p.out.lt); obtain ⟨k63p0, k63p1, k63p2, k63p3⟩ := B63_p.out.cells; have BE63_c := Go.Lib.hid B62_c.out; have B63_c := Go.Lib.hid (BE63_c.out.below hb63 BE63_c.out.lt); obtain ⟨k63c0, k63c1, k63c2, k63c3⟩ := B63_c.out.cells; clear hb63))
        go_roundg (ll - (k + 1))
        case measure => (have hgk := hgo.out; omega)
        case rel => exact ⟨k + 1, by omega, rfl, by go_num, B63_p.out, R63_p.out, hW63.out⟩
      · have dk := Go.Lib.hid fun w (h : Row .u8 w b2 mp cp2 (pack P)) => d9 (by omega) w _ _ h
        have d6 : decide ((Ak : Int) ≤ t) = false := decide_eq_false (by omega)
        have hc' : ¬ (Ak : Int) ≤ t := by omega
        clear d0 d9 hZk hAk hmk enk rdk rnk smk hc
        go_wp2_with (first
          | (go_at_call 11; ((with_reducible refine (ek.out _ ?h1).mono ?_)); (case h1 => exact R60_l.out); rintro e w61 ⟨b61, cp61, rfl, hr61, hb61⟩; have hWE61 := Go.Lib.hid hW60.out; have hW61 := Go.Lib.hid (hWE61.out.trans (hb61.mono hWE61.out.size)); have R61_l := Go.Lib.hid (R60_l.out.below hb61 (Nat.le_refl _)); have R61_p := Go.Lib.hid (R60_p.out.below hb61 (Nat.le_refl _)); have BE61_p := Go.Lib.hid B60_p.out; have B61_p := Go.Lib.hid (BE61_p.out.below hb61 BE61_p.out.lt); obtain ⟨k61p0, k61p1, k61p2, k61p3⟩ := B61_p.out.cells; have l61p := B61_p.out.lt; have n61p : xp ≠ w61.heap.size := (by omega); clear hb61)
          | (go_at_call 13; ((with_reducible refine (dk.out _ ?h1).mono ?_)); (case h1 => exact (R61_p.out.below (below1 w61 (.cells #[(.slice b61 mk cp61), .int .i64 Ak] 24)) (Nat.le_refl _))); rintro e w62 ⟨b62, cp62, rfl, hb62⟩; have hWE62 := Go.Lib.hid (hW61.out.alloc hW61.out.size (.cells #[(.slice b61 mk cp61), .int .i64 Ak] 24)); have hW62 := Go.Lib.hid (hWE62.out.trans (hb62.mono hWE62.out.size)); have R62_l := Go.Lib.hid ((R61_l.out.below (below1 w61 (.cells #[(.slice b61 mk cp61), .int .i64 Ak] 24)) (Nat.le_refl _)).below hb62 (Nat.le_refl _)); have R62_p := Go.Lib.hid ((R61_p.out.below (below1 w61 (.cells #[(.slice b61 mk cp61), .int .i64 Ak] 24)) (Nat.le_refl _)).below hb62 (Nat.le_refl _)); have BE62_p := Go.Lib.hid (B61_p.out.alloc (.cells #[(.slice b61 mk cp61), .int .i64 Ak] 24)); have B62_p := Go.Lib.hid (BE62_p.out.below hb62 BE62_p.out.lt); obtain ⟨k62p0, k62p1, k62p2, k62p3⟩ := B62_p.out.cells; have BE62_c := Go.Lib.hid (box1 w61 (.slice b61 mk cp61) Ak); have B62_c := Go.Lib.hid (BE62_c.out.below hb62 BE62_c.out.lt); obtain ⟨k62c0, k62c1, k62c2, k62c3⟩ := B62_c.out.cells; clear hb62))
        go_roundg (ll - (k + 1))
        case measure => (have hgk := hgo.out; omega)
        case rel => exact ⟨k + 1, by omega, rfl, by go_num, B62_p.out, R62_p.out, hW62.out⟩
    · obtain rfl : k = ll := by omega
      have hlt' : ¬ (k : Int) < k := by omega
      go_wp2_with (go_at_call 16; refine (alive9_ok _).mono ?_; rintro e w99 ⟨rfl, hb99⟩; have hW99 := Go.Lib.hid (hW60.out.trans (hb99.mono hW60.out.size)); clear hb99)
      go_ret
      exact ⟨rfl, hW99.out⟩
  · have key : left < 0 ∨ (¬ left < 0 ∧ (A : Int) ≤ left) := by omega
    clear hin hA hZ hlm hm hm32 hmn hl hA81 wl
    rcases key with h | ⟨h, h'⟩
    all_goals
      go_enter Try.func9, Try.ntmps9
      go_wp2_with (first
        | (go_at_call 11; ((with_reducible refine (en.out _ ?h1).mono ?_)); (case h1 => exact RE0_l.out); rintro e w1 ⟨b1, cp1, rfl, hr1, hb1⟩; have hWE1 := Go.Lib.hid hWE0.out; have hW1 := Go.Lib.hid (hWE1.out.trans (hb1.mono hWE1.out.size)); have R1_l := Go.Lib.hid (RE0_l.out.below hb1 (Nat.le_refl _)); have R1_x := Go.Lib.hid hr1; clear hr1; clear hb1)
        | (go_at_call 16; refine (alive9_ok _).mono ?_; rintro e w2 ⟨rfl, hb2⟩; have hWE2 := Go.Lib.hid (hW1.out.alloc hW1.out.size (.cells #[(.slice b1 mn cp1), .int .i64 A] 24)); have hW2 := Go.Lib.hid (hWE2.out.trans (hb2.mono hWE2.out.size)); clear hb2))
      go_ret
      exact ⟨rfl, hW2.out⟩

theorem coderCut_walk (ax0 : Option Addr) (lenx0 capx0 : Nat) (zx0 : List Int) (x1 : Int) (W : World) (wx0 : IsRow .u32 W ax0 lenx0 capx0 zx0) (wx1 : (Lit.int .i64 x1).wf = true) :
    Calls Try.prog 9 #[.slice ax0 lenx0 capx0, .int .i64 x1] W fun e w' => e = .returned (.bool true) ∧ Below W.heap.size W w' := by
  have hl := Row.of_isRow wx0
  have hm := Nat.le_trans hl.hcap hl.hmax
  unfold maxLen at hm
  by_cases h : (lenx0 : Int) < 1 ∨ (¬ (lenx0 : Int) < 1 ∧ (100 : Int) < lenx0)
  · exact coderCut_out W _ _ _ _ (by omega) h
  · obtain ⟨m, h2, h3⟩ := nats_of hl.wf
    exact coderCut_in W _ _ _ _ m _ hl (by omega) (by omega) h2 (by rw [← hl.hlen, h2, List.length_map]) h3 wx1
end Go.Proofs.Ytifbigmgiakakaa
