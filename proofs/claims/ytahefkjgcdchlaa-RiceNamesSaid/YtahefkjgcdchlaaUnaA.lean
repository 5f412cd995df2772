/- Contracts of the package unary. -/
import Derived.Test.YtahefkjgcdchlaaMyBitM
import Derived.Test.YtahefkjgcdchlaaUnaP
import Derived.Test.YtahefkjgcdchlaaRegX
namespace Go.Proofs.Ytahefkjgcdchlaa
open Go.RowKit Cad

theorem ULength_ok (W : World) (n : Nat) (h : n ≤ 48) :
    Calls Try.prog 26 #[.int .i64 n] W fun e W' => e = .returned (.tuple #[.int .i64 (runLen n : Nat), .int .i64 0]) ∧ W = W' := by
  unfold runLen
  by_cases e : n = 48
  · subst e
    go_enter Try.func26, Try.ntmps26
    go_wp2
    go_ret2
    exact ⟨rfl, rfl⟩
  · rw [if_neg e]
    have h1 : (n : Int) < 48 := by omega
    go_enter Try.func26, Try.ntmps26
    go_wp2
    go_ret2
    exact ⟨by go_num, rfl⟩
theorem ULength_arg (W : World) (n : Int) (hn : (Lit.int .i64 n).wf = true) (h : n < 0 ∨ 48 < n) :
    Calls Try.prog 26 #[.int .i64 n] W fun e W' => e = .returned (.tuple #[.int .i64 0, .int .i64 2]) ∧ W = W' := by
  have bn := bounds_i64 hn
  have key : n < 0 ∨ (¬ n < 0 ∧ 48 < n) := by omega
  rcases key with h | ⟨h, h'⟩
  all_goals
    go_enter Try.func26, Try.ntmps26
    go_wp2
    go_ret2
    exact ⟨rfl, rfl⟩

theorem UWrite_bad (W : World) (a : Option Addr) (len cap : Nat) (N : Int) (l : List Int) (n : Int) (hr : Row .u8 W a len cap l) (hN : (Lit.int .i64 N).wf = true) (hv : ¬ Valid l N) :
    Calls Try.prog 29 #[.agg #[.slice a len cap, .int .i64 N], .int .i64 n] W fun e W' => e = .returned (.tuple #[.agg #[.slice none 0 0, .int .i64 0], .int .i64 8]) ∧ Below W.heap.size W W' := by
  obtain ⟨W0, hW0, hbE, hs0, hx0, hy0⟩ := two_boxes W (.slice a len cap) N
  have hrE := hr.below hbE (Nat.le_refl _)
  have hck := Go.Lib.hid (BCheck_any W0 a len cap N l hrE hN 8 (.inr ⟨hv, rfl⟩))
  have hy0' := Go.Lib.hid hy0
  have hbE' := Go.Lib.hid hbE
  clear hr hrE hx0 hy0 hbE hN
  go_enter Try.func29, Try.ntmps29
  go_wp2_with (go_at_call 28; rw [← hW0]; refine hck.out.mono ?_; rintro e w1 ⟨rfl, hb1⟩; obtain ⟨e0, e1, f0, f1⟩ := (hy0'.out.below hb1 (by omega)).cells; have hb1' := Go.Lib.hid hb1; clear hb1 hW0)
  (try simp only [Exit.inBlock, Exit.then])
  refine bodyPost_ret (results_box_tmp (by rfl) _ _ (W.heap.size + 1) _ _ rfl ((hy0'.out.below hb1'.out (by omega)).set _ _)) rfl ?_
  exact ⟨rfl, ((hbE'.out.trans (hb1'.out.mono (by omega))).setCell (by simp) _).setCell (by simp) _⟩

theorem UWrite_arg (W : World) (a : Option Addr) (len cap : Nat) (N : Int) (l : List Int) (n : Int) (hr : Row .u8 W a len cap l) (hN : (Lit.int .i64 N).wf = true) (hv : Valid l N) (hn : (Lit.int .i64 n).wf = true) (h : n < 0 ∨ 48 < n) :
    Calls Try.prog 29 #[.agg #[.slice a len cap, .int .i64 N], .int .i64 n] W fun e W' => e = .returned (.tuple #[.agg #[.slice none 0 0, .int .i64 0], .int .i64 2]) ∧ Below W.heap.size W W' := by
  obtain ⟨W0, hW0, hbE, hs0, hx0, hy0⟩ := two_boxes W (.slice a len cap) N
  have hrE := hr.below hbE (Nat.le_refl _)
  have hck := Go.Lib.hid (BCheck_any W0 a len cap N l hrE hN 0 (.inl ⟨hv, rfl⟩))
  have hle := Go.Lib.hid (fun w => ULength_arg w n hn h)
  have hy0' := Go.Lib.hid hy0
  have hbE' := Go.Lib.hid hbE
  clear hr hrE hx0 hy0 hbE hN hn h
  go_enter Try.func29, Try.ntmps29
  go_wp2_with (first
    | (go_at_call 28; rw [← hW0]; refine hck.out.mono ?_; rintro e w1 ⟨rfl, hb1⟩; obtain ⟨e0, e1, f0, f1⟩ := (hy0'.out.below hb1 (by omega)).cells; have hb1' := Go.Lib.hid hb1; clear hb1 hW0)
    | (go_at_call 26; refine (hle.out _).mono ?_; rintro e w2 ⟨rfl, rfl⟩))
  (try simp only [Exit.inBlock, Exit.then])
  refine bodyPost_ret (results_box_tmp (by rfl) _ _ (W.heap.size + 1) _ _ rfl ((hy0'.out.below hb1'.out (by omega)).set _ _)) rfl ?_
  exact ⟨rfl, ((hbE'.out.trans (hb1'.out.mono (by omega))).setCell (by simp) _).setCell (by simp) _⟩

/-- what Put does, whether it is full or not: results as a slice and a count, an error -/
theorem UWrite_put (W : World) (a : Option Addr) (len cap : Nat) (B : List Bool) (n : Nat) (hr : Row .u8 W a len cap (pack B)) (hB : B.length ≤ 330000) (hn : n ≤ 48) (P : Option Addr → Nat → Nat → Nat → Nat → World → Prop)
    (hput : ∀ w, Row .u8 w a len cap (pack B) → Calls Try.prog 12 #[.agg #[.slice a len cap, .int .i64 B.length], .int .u64 (2 ^ n - 1 : Nat), .int .i64 (runLen n : Nat)] w fun e W' => ∃ b m c k x, e = .returned (.tuple #[.agg #[.slice b m c, .int .i64 (k : Nat)], .int .i64 (x : Nat)]) ∧ P b m c k x W' ∧ Below w.heap.size w W')
    (hP : ∀ b m c k x w y N N', P b m c k x w → BoxAt w y (.slice none 0 0) N → P b m c k x ((w.setCell ⟨y, 0, none⟩ (.slice b m c)).setCell ⟨y, 1, none⟩ (.int .i64 N'))) :
    Calls Try.prog 29 #[.agg #[.slice a len cap, .int .i64 B.length], .int .i64 n] W fun e W' => ∃ b m c k x, e = .returned (.tuple #[.agg #[.slice b m c, .int .i64 (k : Nat)], .int .i64 (x : Nat)]) ∧ P b m c k x W' ∧ Below W.heap.size W W' := by
  obtain ⟨W0, hW0, hbE, hs0, hx0, hy0⟩ := two_boxes W (.slice a len cap) B.length
  have hrE := hr.below hbE (Nat.le_refl _)
  have hck := Go.Lib.hid (BCheck_any W0 a len cap B.length (pack B) hrE (bounds_of_len (by omega)) 0 (.inl ⟨⟨B, rfl, by omega, rfl⟩, rfl⟩))
  have hle := Go.Lib.hid (fun w => ULength_ok w n hn)
  have hx0' := Go.Lib.hid hx0
  have hy0' := Go.Lib.hid hy0
  have hbE' := Go.Lib.hid hbE
  have hrE' := Go.Lib.hid hrE
  have hs0' := Go.Lib.hid hs0
  have hpu := Go.Lib.hid hput
  have hP' := Go.Lib.hid hP
  have hp48 : 2 ^ n ≤ 281474976710656 := Nat.le_trans (Nat.pow_le_pow_right (n := 2) (by decide) hn) (by decide)
  have hp0 : 0 < 2 ^ n := Nat.pow_pos (by decide)
  obtain ⟨p, hp⟩ : ∃ p, p = 2 ^ n := ⟨_, rfl⟩
  have e1 : (1 : Int) * 2 ^ n = (p : Int) := by rw [hp]; simp
  have e2 : (2 : Int) ^ n = (p : Int) := by rw [hp]; simp
  rw [← hp] at hpu hp48 hp0
  have e3 : Hid (((p - 1 : Nat) : Int) = (p : Int) - 1) := Go.Lib.hid (by omega)
  rw [e3.out] at hpu
  obtain ⟨q, hq⟩ : ∃ q, q = runLen n := ⟨_, rfl⟩
  rw [← hq] at hpu hle
  clear hx0 hy0 hbE hrE hr hput hP hp hq
  go_enter Try.func29, Try.ntmps29
  go_wp2_with (first
    | (go_at_call 28; rw [← hW0]; refine hck.out.mono ?_; rintro e w1 ⟨rfl, hb1⟩; obtain ⟨c0, c1, c2, c3⟩ := (hx0'.out.below hb1 (by omega)).cells; have hb1' := Go.Lib.hid hb1; clear hb1 hW0)
    | (go_at_call 26; refine (hle.out _).mono ?_; rintro e w2 ⟨rfl, rfl⟩))
  refine wp_region_ord (fun _ => True) [(0, 1), (1, 0), (2, 0), (3, 0), (4, 0), (5, 3), (6, 0), (7, 0), (8, 3), (9, 0)] (by kernel_rfl) (by kernel_rfl) ?hC0 ?_
  case hC0 => trivial
  simp only [pick, nth]
  (repeat (first | (apply wpW_light; (case h => (intro wa; (first | (go_big_quiet_skip; exact wpQuiet_nil rfl) | (go_big_quiet_want; go_big_quiet_op; go_big_quiet_on; exact wpQuiet_nil rfl))))) | (apply wpW_here; (case h => (first | (go_big_quiet_skip; exact wpQuiet_nil rfl) | (go_big_quiet_want; go_big_quiet_op; go_big_quiet_on; exact wpQuiet_nil rfl)))) | (apply wpW_held; (case hC => assumption); (case h => (intro wa hCa; simp only [] at hCa; (first | (go_big_quiet_skip; exact wpQuiet_nil rfl) | (go_big_quiet_want; go_big_quiet_op; go_big_quiet_on; exact wpQuiet_nil rfl)))))))
  refine wpW_act (fun QQ hQQ => ?_) (by rfl)
  go_wp2_with (go_at_call 12; refine (hpu.out _ (hrE'.out.below hb1'.out.drew (Nat.le_refl _))).mono ?_; rintro e w3 ⟨b3, m3, cp3, k3, x3, rfl, hp3, hb3⟩; have hb13 := hb1'.out.drew.trans (hb3.mono hb1'.out.drew.size); obtain ⟨e0, e1, f0, f1⟩ := (hy0'.out.below hb13 (by omega)).cells)
  refine hQQ _ _ trivial ?_
  (repeat (first | (apply wpW_light; (case h => (intro wa; (first | (go_big_quiet_skip; exact wpQuiet_nil rfl) | (go_big_quiet_want; go_big_quiet_op; go_big_quiet_on; exact wpQuiet_nil rfl))))) | (apply wpW_here; (case h => (first | (go_big_quiet_skip; exact wpQuiet_nil rfl) | (go_big_quiet_want; go_big_quiet_op; go_big_quiet_on; exact wpQuiet_nil rfl)))) | (apply wpW_held; (case hC => assumption); (case h => (intro wa hCa; simp only [] at hCa; (first | (go_big_quiet_skip; exact wpQuiet_nil rfl) | (go_big_quiet_want; go_big_quiet_op; go_big_quiet_on; exact wpQuiet_nil rfl)))))))
  refine wpW_act (fun QQ hQQ => ?_) (by rfl)
  go_wp2
  refine hQQ _ _ trivial ?_
  (repeat (first | (apply wpW_light; (case h => (intro wa; (first | (go_big_quiet_skip; exact wpQuiet_nil rfl) | (go_big_quiet_want; go_big_quiet_op; go_big_quiet_on; exact wpQuiet_nil rfl))))) | (apply wpW_here; (case h => (first | (go_big_quiet_skip; exact wpQuiet_nil rfl) | (go_big_quiet_want; go_big_quiet_op; go_big_quiet_on; exact wpQuiet_nil rfl)))) | (apply wpW_held; (case hC => assumption); (case h => (intro wa hCa; simp only [] at hCa; (first | (go_big_quiet_skip; exact wpQuiet_nil rfl) | (go_big_quiet_want; go_big_quiet_op; go_big_quiet_on; exact wpQuiet_nil rfl)))))))
  refine wpW_nil ?_
  go_wp2
  (try simp only [Exit.inBlock, Exit.then])
  have hy3 := hy0'.out.below hb13 (by omega)
  refine bodyPost_ret (results_box_tmp (by rfl) _ _ (W.heap.size + 1) _ _ rfl (hy3.set _ _)) rfl ?_
  refine ⟨b3, m3, cp3, k3, x3, by simp, hP'.out _ _ _ _ _ _ _ _ _ hp3 hy3, ?_⟩
  exact ((hbE'.out.trans (hb13.mono (by omega))).setCell (by simp) _).setCell (by simp) _

theorem UWrite_ok (W : World) (a : Option Addr) (len cap : Nat) (B : List Bool) (n : Nat) (hr : Row .u8 W a len cap (pack B)) (hB : B.length + runLen n ≤ 330000) (hn : n ≤ 48) :
    Calls Try.prog 29 #[.agg #[.slice a len cap, .int .i64 B.length], .int .i64 n] W fun e W' => ∃ b c, e = .returned (.tuple #[.agg #[.slice b ((B.length + runLen n + 7) / 8) c, .int .i64 ((B.length + runLen n : Nat) : Int)], .int .i64 0]) ∧
      Row .u8 W' b ((B.length + runLen n + 7) / 8) c (pack (B ++ runB n)) ∧ Below W.heap.size W W' := by
  refine (UWrite_put W a len cap B n hr (by omega) hn (fun b m c k x w => k = B.length + runLen n ∧ x = 0 ∧ m = (B.length + runLen n + 7) / 8 ∧ Row .u8 w b m c (pack (B ++ runB n))) ?_ ?_).mono ?_
  · intro w hw
    have hl := runLen_le hn
    have hlt : 2 ^ n - 1 < 2 ^ runLen n := by
      have h1 : 2 ^ n ≤ 2 ^ runLen n := Nat.pow_le_pow_right (by decide) (by unfold runLen; split <;> omega)
      have h0 : 0 < 2 ^ n := Nat.pow_pos (by decide)
      omega
    refine (BPut_ok w a len cap B (2 ^ n - 1) (runLen n) hw hB (by omega) hlt).mono ?_
    rintro e w1 ⟨b, c, rfl, h1, h2⟩
    rw [run_num hn] at h1
    exact ⟨b, _, c, _, 0, rfl, ⟨rfl, rfl, rfl, h1⟩, h2⟩
  · rintro b m c k x w y N N' ⟨h1, h2, h3, h4⟩ hx
    exact ⟨h1, h2, h3, (h4.box hx 0 _).box (hx.set0 _) 1 _⟩
  · rintro e w1 ⟨b, m, c, k, x, rfl, ⟨rfl, rfl, rfl, h4⟩, h2⟩
    exact ⟨b, c, rfl, h4, h2⟩

theorem UWrite_full (W : World) (a : Option Addr) (len cap : Nat) (B : List Bool) (n : Nat) (hr : Row .u8 W a len cap (pack B)) (hB : B.length ≤ 330000) (hf : 330000 < B.length + runLen n) (hn : n ≤ 48) :
    Calls Try.prog 29 #[.agg #[.slice a len cap, .int .i64 B.length], .int .i64 n] W fun e W' => e = .returned (.tuple #[.agg #[.slice none 0 0, .int .i64 0], .int .i64 18]) ∧ Below W.heap.size W W' := by
  refine (UWrite_put W a len cap B n hr (by omega) hn (fun b m c k x w => k = 0 ∧ x = 18 ∧ m = 0 ∧ b = none ∧ c = 0) ?_ ?_).mono ?_
  · intro w hw
    have hl := runLen_le hn
    have hlt : 2 ^ n - 1 < 2 ^ runLen n := by
      have h1 : 2 ^ n ≤ 2 ^ runLen n := Nat.pow_le_pow_right (by decide) (by unfold runLen; split <;> omega)
      have h0 : 0 < 2 ^ n := Nat.pow_pos (by decide)
      omega
    refine (BPut_full w a len cap B (2 ^ n - 1) (runLen n) hw hB hf (by omega) hlt).mono ?_
    rintro e w1 ⟨rfl, h2⟩
    exact ⟨none, 0, 0, 0, 18, rfl, ⟨rfl, rfl, rfl, rfl, rfl⟩, h2⟩
  · intro b m c k x w y N N' h _
    exact h
  · rintro e w1 ⟨b, m, c, k, x, rfl, ⟨rfl, rfl, rfl, rfl, rfl⟩, h2⟩
    exact ⟨rfl, h2⟩
end Go.Proofs.Ytahefkjgcdchlaa
