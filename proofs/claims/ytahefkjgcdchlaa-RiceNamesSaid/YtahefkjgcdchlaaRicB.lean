/- Contracts of the package rice: Length, Write. -/
import Derived.Test.YtahefkjgcdchlaaRicA
import Derived.Test.YtahefkjgcdchlaaUnaA
namespace Go.Proofs.Ytahefkjgcdchlaa
open Go.RowKit Cad

theorem PLength_ok (W : World) (v k : Nat) (hv : v < 4294967296) (hk : k ≤ 24) :
    Calls Try.prog 9 #[.int .u32 v, .int .i64 k] W fun e W' => e = .returned (.tuple #[.int .i64 (riceLen v k : Nat), .int .i64 0]) ∧ W = W' := by
  have hpa := Go.Lib.hid fun w => PisParameter_ok w k hk
  have hru := Go.Lib.hid fun w => PrunOf_ok w v k hv hk
  have hle := Go.Lib.hid fun w => ULength_ok w (partN v k) (partN_le v k)
  have hlo := Go.Lib.hid fun w => PlowBits_ok w (partN v k) k (partN_le v k) hk
  have h1 := runLen_le (partN_le v k)
  have h2 := lowN_le (q := partN v k) hk
  unfold riceLen
  obtain ⟨q, hq⟩ : ∃ q, q = partN v k := ⟨_, rfl⟩
  rw [← hq] at hru hle hlo h1 h2 ⊢
  obtain ⟨r, hr⟩ : ∃ r, r = runLen q := ⟨_, rfl⟩
  obtain ⟨n, hn⟩ : ∃ n, n = lowN q k := ⟨_, rfl⟩
  rw [← hr] at hle h1 ⊢
  rw [← hn] at hlo h2 ⊢
  clear hq hr hn
  go_enter Try.func9, Try.ntmps9
  go_wp2_with (first
    | (go_at_call 24; refine (hpa.out _).mono ?_; rintro e w1 ⟨rfl, rfl⟩)
    | (go_at_call 25; refine (hru.out _).mono ?_; rintro e w1 ⟨rfl, rfl⟩)
    | (go_at_call 26; refine (hle.out _).mono ?_; rintro e w1 ⟨rfl, rfl⟩)
    | (go_at_call 27; refine (hlo.out _).mono ?_; rintro e w1 ⟨rfl, rfl⟩))
  go_ret2
  exact ⟨by go_num, rfl⟩
theorem PLength_arg (W : World) (v : Nat) (k : Int) (hk : (Lit.int .i64 k).wf = true) (h : k < 0 ∨ 24 < k) :
    Calls Try.prog 9 #[.int .u32 v, .int .i64 k] W fun e W' => e = .returned (.tuple #[.int .i64 0, .int .i64 2]) ∧ W = W' := by
  have hpa := Go.Lib.hid fun w => PisParameter_no w k hk h
  clear hk h
  go_enter Try.func9, Try.ntmps9
  go_wp2_with (go_at_call 24; refine (hpa.out _).mono ?_; rintro e w1 ⟨rfl, rfl⟩)
  go_ret2
  exact ⟨rfl, rfl⟩

theorem PWrite_bad (W : World) (a : Option Addr) (len cap : Nat) (N : Int) (l : List Int) (v : Nat) (k : Int) (hr : Row .u8 W a len cap l) (hN : (Lit.int .i64 N).wf = true) (hv : ¬ Valid l N) :
    Calls Try.prog 10 #[.agg #[.slice a len cap, .int .i64 N], .int .u32 v, .int .i64 k] W fun e W' => e = .returned (.tuple #[.agg #[.slice none 0 0, .int .i64 0], .int .i64 8]) ∧ Below W.heap.size W W' := by
  obtain ⟨W0, hW0, hbE, hs0, hx0, hy0⟩ := two_boxes W (.slice a len cap) N
  have hrE := hr.below hbE (Nat.le_refl _)
  have hck := Go.Lib.hid (BCheck_any W0 a len cap N l hrE hN 8 (.inr ⟨hv, rfl⟩))
  have hy0' := Go.Lib.hid hy0
  have hbE' := Go.Lib.hid hbE
  clear hr hrE hx0 hy0 hbE hN
  go_enter Try.func10, Try.ntmps10
  go_wp2_with (go_at_call 28; rw [← hW0]; refine hck.out.mono ?_; rintro e w1 ⟨rfl, hb1⟩; obtain ⟨e0, e1, f0, f1⟩ := (hy0'.out.below hb1 (by omega)).cells; have hb1' := Go.Lib.hid hb1; clear hb1 hW0)
  (try simp only [Exit.inBlock, Exit.then])
  refine bodyPost_ret (results_box_tmp (by rfl) _ _ (W.heap.size + 1) _ _ rfl ((hy0'.out.below hb1'.out (by omega)).set _ _)) rfl ?_
  exact ⟨rfl, ((hbE'.out.trans (hb1'.out.mono (by omega))).setCell (by simp) _).setCell (by simp) _⟩

theorem PWrite_arg (W : World) (a : Option Addr) (len cap : Nat) (N : Int) (l : List Int) (v : Nat) (k : Int) (hr : Row .u8 W a len cap l) (hN : (Lit.int .i64 N).wf = true) (hv : Valid l N) (hk : (Lit.int .i64 k).wf = true) (h : k < 0 ∨ 24 < k) :
    Calls Try.prog 10 #[.agg #[.slice a len cap, .int .i64 N], .int .u32 v, .int .i64 k] W fun e W' => e = .returned (.tuple #[.agg #[.slice none 0 0, .int .i64 0], .int .i64 2]) ∧ Below W.heap.size W W' := by
  obtain ⟨W0, hW0, hbE, hs0, hx0, hy0⟩ := two_boxes W (.slice a len cap) N
  have hrE := hr.below hbE (Nat.le_refl _)
  have hck := Go.Lib.hid (BCheck_any W0 a len cap N l hrE hN 0 (.inl ⟨hv, rfl⟩))
  have hpa := Go.Lib.hid fun w => PisParameter_no w k hk h
  have hy0' := Go.Lib.hid hy0
  have hbE' := Go.Lib.hid hbE
  clear hr hrE hx0 hy0 hbE hN hk h
  go_enter Try.func10, Try.ntmps10
  go_wp2_with (first
    | (go_at_call 28; rw [← hW0]; refine hck.out.mono ?_; rintro e w1 ⟨rfl, hb1⟩; obtain ⟨e0, e1, f0, f1⟩ := (hy0'.out.below hb1 (by omega)).cells; have hb1' := Go.Lib.hid hb1; clear hb1 hW0)
    | (go_at_call 24; refine (hpa.out _).mono ?_; rintro e w1 ⟨rfl, rfl⟩))
  (try simp only [Exit.inBlock, Exit.then])
  refine bodyPost_ret (results_box_tmp (by rfl) _ _ (W.heap.size + 1) _ _ rfl ((hy0'.out.below hb1'.out (by omega)).set _ _)) rfl ?_
  exact ⟨rfl, ((hbE'.out.trans (hb1'.out.mono (by omega))).setCell (by simp) _).setCell (by simp) _⟩

set_option maxHeartbeats 400000 in
/-- what Put does with the run, whether it is full or not -/
theorem PWrite_put (W : World) (a : Option Addr) (len cap : Nat) (B : List Bool) (v k : Nat) (hr : Row .u8 W a len cap (pack B)) (hB : B.length + runLen (partN v k) ≤ 330000) (hv : v < 4294967296) (hk : k ≤ 24) (P : Option Addr → Nat → Nat → Nat → Nat → World → Prop)
    (hput : ∀ w b c, Row .u8 w b ((B.length + runLen (partN v k) + 7) / 8) c (pack (B ++ runB (partN v k))) → Calls Try.prog 12 #[.agg #[.slice b ((B.length + runLen (partN v k) + 7) / 8) c, .int .i64 ((B.length + runLen (partN v k) : Nat) : Int)], .int .u64 (lowV v k : Nat), .int .i64 (lowN (partN v k) k : Nat)] w fun e W' => ∃ b m c t x, e = .returned (.tuple #[.agg #[.slice b m c, .int .i64 (t : Nat)], .int .i64 (x : Nat)]) ∧ P b m c t x W' ∧ Below w.heap.size w W')
    (hP : ∀ b m c t x w y N N', P b m c t x w → BoxAt w y (.slice none 0 0) N → P b m c t x ((w.setCell ⟨y, 0, none⟩ (.slice b m c)).setCell ⟨y, 1, none⟩ (.int .i64 N'))) :
    Calls Try.prog 10 #[.agg #[.slice a len cap, .int .i64 B.length], .int .u32 v, .int .i64 k] W fun e W' => ∃ b m c t x, e = .returned (.tuple #[.agg #[.slice b m c, .int .i64 (t : Nat)], .int .i64 (x : Nat)]) ∧ P b m c t x W' ∧ Below W.heap.size W W' := by
  obtain ⟨W0, hW0, hbE, hs0, hx0, hy0⟩ := two_boxes W (.slice a len cap) B.length
  have hrE := hr.below hbE (Nat.le_refl _)
  have hck := Go.Lib.hid (BCheck_any W0 a len cap B.length (pack B) hrE (bounds_of_len (by omega)) 0 (.inl ⟨⟨B, rfl, by omega, rfl⟩, rfl⟩))
  have hpa := Go.Lib.hid fun w => PisParameter_ok w k hk
  have hru := Go.Lib.hid fun w => PrunOf_ok w v k hv hk
  have hlo := Go.Lib.hid fun w => PlowBits_ok w (partN v k) k (partN_le v k) hk
  have hun := Go.Lib.hid fun w hw => UWrite_ok w a len cap B (partN v k) hw hB (partN_le v k)
  have hx0' := Go.Lib.hid hx0
  have hy0' := Go.Lib.hid hy0
  have hbE' := Go.Lib.hid hbE
  have hrE' := Go.Lib.hid hrE
  have hs0' := Go.Lib.hid hs0
  have hpu := Go.Lib.hid hput
  have hP' := Go.Lib.hid hP
  have h2 := lowN_le (q := partN v k) hk
  obtain ⟨q, hq⟩ : ∃ q, q = partN v k := ⟨_, rfl⟩
  obtain ⟨low, hlow⟩ : ∃ low, low = lowV v k := ⟨_, rfl⟩
  have hlv : low = v % 2 ^ lowN q k := by rw [hlow, hq]; rfl
  rw [← hlow] at hpu
  rw [← hq] at hru hlo hun hpu h2
  obtain ⟨n, hn⟩ : ∃ n, n = lowN q k := ⟨_, rfl⟩
  rw [← hn] at hlo hpu hlv h2
  obtain ⟨m1, hm1⟩ : ∃ m1, m1 = (B.length + runLen q + 7) / 8 := ⟨_, rfl⟩
  obtain ⟨N1, hN1⟩ : ∃ N1, N1 = B.length + runLen q := ⟨_, rfl⟩
  rw [← hm1, ← hN1] at hun hpu
  obtain ⟨p, hp⟩ : ∃ p, p = 2 ^ n := ⟨_, rfl⟩
  have hp32 : p ≤ 4294967296 := by rw [hp]; exact Nat.le_trans (Nat.pow_le_pow_right (n := 2) (by decide) h2) (by decide)
  have hp0 : 1 ≤ p := by rw [hp]; exact Nat.pow_pos (by decide)
  have e1 : (1 : Int) * 2 ^ n = (p : Int) := by rw [hp]; simp
  have e2 : (2 : Int) ^ n = (p : Int) := by rw [hp]; simp
  have hand : v &&& (p - 1) = low := by rw [hp, hlv]; exact Nat.and_two_pow_sub_one_eq_mod v n
  have o1 := Go.u64_and_nat v (p - 1) (by omega) (by omega)
  rw [show ((p - 1 : Nat) : Int) = (p : Int) - 1 by omega, hand] at o1
  clear hand hx0 hy0 hbE hrE hr hput hP hq hlow hn hm1 hN1 hlv hp
  go_enter Try.func10, Try.ntmps10
  go_wp2_with (first
    | (go_at_call 28; rw [← hW0]; refine hck.out.mono ?_; rintro e w1 ⟨rfl, hb1⟩; obtain ⟨c0, c1, c2, c3⟩ := (hx0'.out.below hb1 (by omega)).cells; have hb1' := Go.Lib.hid hb1; clear hb1 hW0)
    | (go_at_call 24; refine (hpa.out _).mono ?_; rintro e w2 ⟨rfl, rfl⟩)
    | (go_at_call 25; refine (hru.out _).mono ?_; rintro e w2 ⟨rfl, rfl⟩)
    | (go_at_call 29; refine (hun.out _ (hrE'.out.below hb1'.out (Nat.le_refl _))).mono ?_; rintro e w2 ⟨b2, cp2, rfl, hr2, hb2⟩; have hb12 := Go.Lib.hid (hb1'.out.trans (hb2.mono hb1'.out.size)); have hr2' := Go.Lib.hid hr2; have hxz := Go.Lib.hid (box1 w2 (.slice b2 m1 cp2) N1); clear hr2 hb2)
    | (go_at_call 27; refine (hlo.out _).mono ?_; rintro e w3 ⟨rfl, rfl⟩))
  have hbA := Go.Lib.hid (hb12.out.alloc hb12.out.size (.cells #[.slice b2 m1 cp2, .int .i64 N1] 28))
  have hrA := Go.Lib.hid (hr2'.out.below (below1 w2 (.cells #[.slice b2 m1 cp2, .int .i64 N1] 28)) (Nat.le_refl _))
  obtain ⟨z0, z1, z2, z3⟩ := hxz.out.cells
  clear c0 c1 c2 c3
  refine wp_region_ord (fun _ => True) [(0, 1), (1, 0), (2, 0), (3, 0), (4, 0), (5, 0), (6, 0), (7, 0), (8, 3), (9, 0), (10, 0), (11, 3), (12, 0)] (by kernel_rfl) (by kernel_rfl) ?hC0 ?_
  case hC0 => trivial
  simp only [pick, nth]
  (repeat (first | (apply wpW_light; (case h => (intro wa; (first | (go_big_quiet_skip; exact wpQuiet_nil rfl) | (go_big_quiet_want; go_big_quiet_op; go_big_quiet_on; exact wpQuiet_nil rfl))))) | (apply wpW_here; (case h => (first | (go_big_quiet_skip; exact wpQuiet_nil rfl) | (go_big_quiet_want; go_big_quiet_op; go_big_quiet_on; exact wpQuiet_nil rfl)))) | (apply wpW_held; (case hC => assumption); (case h => (intro wa hCa; simp only [] at hCa; (first | (go_big_quiet_skip; exact wpQuiet_nil rfl) | (go_big_quiet_want; go_big_quiet_op; go_big_quiet_on; exact wpQuiet_nil rfl)))))))
  refine wpW_act (fun QQ hQQ => ?_) (by rfl)
  go_wp2_with (go_at_call 12; refine (hpu.out _ _ _ (hrA.out.below (Below.refl _ _).drew (Nat.le_refl _))).mono ?_; rintro e w3 ⟨b3, m3, cp3, t3, x3, rfl, hp3, hb3⟩; have hb13 := hbA.out.drew.trans (hb3.mono hbA.out.drew.size); obtain ⟨e0, e1, f0, f1⟩ := (hy0'.out.below hb13 (by omega)).cells)
  refine hQQ _ _ trivial ?_
  (repeat (first | (apply wpW_light; (case h => (intro wa; (first | (go_big_quiet_skip; exact wpQuiet_nil rfl) | (go_big_quiet_want; go_big_quiet_op; go_big_quiet_on; exact wpQuiet_nil rfl))))) | (apply wpW_here; (case h => (first | (go_big_quiet_skip; exact wpQuiet_nil rfl) | (go_big_quiet_want; go_big_quiet_op; go_big_quiet_on; exact wpQuiet_nil rfl)))) | (apply wpW_held; (case hC => assumption); (case h => (intro wa hCa; simp only [] at hCa; (first | (go_big_quiet_skip; exact wpQuiet_nil rfl) | (go_big_quiet_want; go_big_quiet_op; go_big_quiet_on; exact wpQuiet_nil rfl)))))))
  refine wpW_act (fun QQ hQQ => ?_) (by rfl)
  go_wp2
  refine hQQ _ _ trivial ?_
  (repeat (first | (apply wpW_light; (case h => (intro wa; (first | (go_big_quiet_skip; exact wpQuiet_nil rfl) | (go_big_quiet_want; go_big_quiet_op; go_big_quiet_on; exact wpQuiet_nil rfl))))) | (apply wpW_here; (case h => (first | (go_big_quiet_skip; exact wpQuiet_nil rfl) | (go_big_quiet_want; go_big_quiet_op; go_big_quiet_on; exact wpQuiet_nil rfl)))) | (apply wpW_held; (case hC => assumption); (case h => (intro wa hCa; simp only [] at hCa; (first | (go_big_quiet_skip; exact wpQuiet_nil rfl) | (go_big_quiet_want; go_big_quiet_op; go_big_quiet_on; exact wpQuiet_nil rfl)))))))
  refine wpW_nil ?_
  go_wp2
  (try simp only [Exit.inBlock, Exit.then])
  have hy3 := hy0'.out.below hb13 (by omega)
  refine bodyPost_ret (results_box_tmp (by rfl) _ _ (W.heap.size + 1) _ _ rfl (hy3.set _ _)) rfl ?_
  refine ⟨b3, m3, cp3, t3, x3, by simp, hP'.out _ _ _ _ _ _ _ _ _ hp3 hy3, ?_⟩
  exact ((hbE'.out.trans (hb13.mono (by omega))).setCell (by simp) _).setCell (by simp) _

theorem PWrite_ok (W : World) (a : Option Addr) (len cap : Nat) (B : List Bool) (v k : Nat) (hr : Row .u8 W a len cap (pack B)) (hB : B.length + riceLen v k ≤ 330000) (hv : v < 4294967296) (hk : k ≤ 24) :
    Calls Try.prog 10 #[.agg #[.slice a len cap, .int .i64 B.length], .int .u32 v, .int .i64 k] W fun e W' => ∃ b c, e = .returned (.tuple #[.agg #[.slice b ((B.length + riceLen v k + 7) / 8) c, .int .i64 ((B.length + riceLen v k : Nat) : Int)], .int .i64 0]) ∧
      Row .u8 W' b ((B.length + riceLen v k + 7) / 8) c (pack (B ++ riceB v k)) ∧ Below W.heap.size W W' := by
  have hl : riceLen v k = runLen (partN v k) + lowN (partN v k) k := rfl
  have h2 := lowN_le (q := partN v k) hk
  refine (PWrite_put W a len cap B v k hr (by omega) hv hk (fun b m c t x w => t = B.length + riceLen v k ∧ x = 0 ∧ m = (B.length + riceLen v k + 7) / 8 ∧ Row .u8 w b m c (pack (B ++ riceB v k))) ?_ ?_).mono ?_
  · intro w b c hw
    have hrl := runB_len (partN_le v k)
    have := BPut_ok w b _ c (B ++ runB (partN v k)) (lowV v k) (lowN (partN v k) k) hw (by rw [List.length_append, hrl]; omega) (by omega) (lowV_lt v k)
    rw [List.length_append, hrl, List.append_assoc] at this
    refine this.mono ?_
    rintro e w1 ⟨b, c, rfl, h1, h2⟩
    rw [Nat.add_assoc B.length, ← hl] at h1
    exact ⟨b, _, c, _, 0, rfl, ⟨by rw [hl]; omega, rfl, by rw [Nat.add_assoc B.length, ← hl], by rw [Nat.add_assoc B.length, ← hl]; exact h1⟩, h2⟩
  · rintro b m c t x w y N N' ⟨h1, h2, h3, h4⟩ hx
    exact ⟨h1, h2, h3, (h4.box hx 0 _).box (hx.set0 _) 1 _⟩
  · rintro e w1 ⟨b, m, c, t, x, rfl, ⟨rfl, rfl, rfl, h4⟩, h2⟩
    exact ⟨b, c, rfl, h4, h2⟩

theorem PWrite_fullrun (W : World) (a : Option Addr) (len cap : Nat) (B : List Bool) (v k : Nat) (hr : Row .u8 W a len cap (pack B)) (hB : B.length ≤ 330000) (hf : 330000 < B.length + runLen (partN v k)) (hv : v < 4294967296) (hk : k ≤ 24) :
    Calls Try.prog 10 #[.agg #[.slice a len cap, .int .i64 B.length], .int .u32 v, .int .i64 k] W fun e W' => e = .returned (.tuple #[.agg #[.slice none 0 0, .int .i64 0], .int .i64 18]) ∧ Below W.heap.size W W' := by
  obtain ⟨W0, hW0, hbE, hs0, hx0, hy0⟩ := two_boxes W (.slice a len cap) B.length
  have hrE := hr.below hbE (Nat.le_refl _)
  have hck := Go.Lib.hid (BCheck_any W0 a len cap B.length (pack B) hrE (bounds_of_len (by omega)) 0 (.inl ⟨⟨B, rfl, by omega, rfl⟩, rfl⟩))
  have hpa := Go.Lib.hid fun w => PisParameter_ok w k hk
  have hru := Go.Lib.hid fun w => PrunOf_ok w v k hv hk
  have hun := Go.Lib.hid fun w hw => UWrite_full w a len cap B (partN v k) hw hB hf (partN_le v k)
  have hx0' := Go.Lib.hid hx0
  have hy0' := Go.Lib.hid hy0
  have hbE' := Go.Lib.hid hbE
  have hrE' := Go.Lib.hid hrE
  obtain ⟨q, hq⟩ : ∃ q, q = partN v k := ⟨_, rfl⟩
  rw [← hq] at hru hun
  clear hx0 hy0 hbE hrE hr hq hf
  go_enter Try.func10, Try.ntmps10
  go_wp2_with (first
    | (go_at_call 28; rw [← hW0]; refine hck.out.mono ?_; rintro e w1 ⟨rfl, hb1⟩; obtain ⟨c0, c1, c2, c3⟩ := (hx0'.out.below hb1 (by omega)).cells; have hb1' := Go.Lib.hid hb1; clear hb1 hW0)
    | (go_at_call 24; refine (hpa.out _).mono ?_; rintro e w2 ⟨rfl, rfl⟩)
    | (go_at_call 25; refine (hru.out _).mono ?_; rintro e w2 ⟨rfl, rfl⟩)
    | (go_at_call 29; refine (hun.out _ (hrE'.out.below hb1'.out (Nat.le_refl _))).mono ?_; rintro e w2 ⟨rfl, hb2⟩; have hb12 := Go.Lib.hid (hb1'.out.trans (hb2.mono hb1'.out.size)); have hy2 := Go.Lib.hid (hy0'.out.below hb12.out (by omega)); obtain ⟨e0, e1, f0, f1⟩ := hy2.out.cells; have hyl := hy2.out.lt; have hyn : ¬ W.heap.size + 1 = w2.heap.size := (by omega); clear hb2))
  (try simp only [Exit.inBlock, Exit.then])
  refine bodyPost_ret (results_box_tmp (by rfl) _ _ (W.heap.size + 1) _ _ rfl ((hy2.out.set _ _).alloc _)) rfl ?_
  have hz := ((hbE'.out.trans (hb12.out.mono (by omega))).setCell (p := ⟨W.heap.size + 1, 0, none⟩) (by simp) (.slice none 0 0)).setCell (p := ⟨W.heap.size + 1, 1, none⟩) (by simp) (.int .i64 0)
  exact ⟨rfl, hz.alloc hz.size _⟩

theorem PWrite_full (W : World) (a : Option Addr) (len cap : Nat) (B : List Bool) (v k : Nat) (hr : Row .u8 W a len cap (pack B)) (hB : B.length ≤ 330000) (hf : 330000 < B.length + riceLen v k) (hv : v < 4294967296) (hk : k ≤ 24) :
    Calls Try.prog 10 #[.agg #[.slice a len cap, .int .i64 B.length], .int .u32 v, .int .i64 k] W fun e W' => e = .returned (.tuple #[.agg #[.slice none 0 0, .int .i64 0], .int .i64 18]) ∧ Below W.heap.size W W' := by
  have hl : riceLen v k = runLen (partN v k) + lowN (partN v k) k := rfl
  have h2 := lowN_le (q := partN v k) hk
  by_cases hrun : 330000 < B.length + runLen (partN v k)
  · exact PWrite_fullrun W a len cap B v k hr hB hrun hv hk
  refine (PWrite_put W a len cap B v k hr (by omega) hv hk (fun b m c t x w => t = 0 ∧ x = 18 ∧ m = 0 ∧ b = none ∧ c = 0) ?_ ?_).mono ?_
  · intro w b c hw
    have hrl := runB_len (partN_le v k)
    have := BPut_full w b _ c (B ++ runB (partN v k)) (lowV v k) (lowN (partN v k) k) hw (by rw [List.length_append, hrl]; omega) (by rw [List.length_append, hrl]; omega) (by omega) (lowV_lt v k)
    rw [List.length_append, hrl] at this
    refine this.mono ?_
    rintro e w1 ⟨rfl, h2⟩
    exact ⟨none, 0, 0, 0, 18, rfl, ⟨rfl, rfl, rfl, rfl, rfl⟩, h2⟩
  · intro b m c t x w y N N' h _
    exact h
  · rintro e w1 ⟨b, m, c, t, x, rfl, ⟨rfl, rfl, rfl, rfl, rfl⟩, h2⟩
    exact ⟨rfl, h2⟩
end Go.Proofs.Ytahefkjgcdchlaa
