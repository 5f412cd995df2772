/- Contracts of the reference of rice: Write, Got, Read. -/
import Derived.Test.YtahefkjgcdchlaaRicS
namespace Go.Proofs.Ytahefkjgcdchlaa
open Go.RowKit Cad

theorem RrWrite_bad (W : World) (a : Option Addr) (len cap : Nat) (N : Int) (l : List Int) (v : Nat) (k : Int) (hr : Row .u8 W a len cap l) (hN : (Lit.int .i64 N).wf = true) (hv : ¬ Valid l N) :
    Calls Try.prog 18 #[.agg #[.slice a len cap, .int .i64 N], .int .u32 v, .int .i64 k] W fun e W' => e = .returned (.tuple #[.agg #[.slice none 0 0, .int .i64 0], .int .i64 8]) ∧ Below W.heap.size W W' := by
  obtain ⟨W0, hW0, hbE, hs0, hx0, hy0⟩ := two_boxes W (.slice a len cap) N
  have hrE := hr.below hbE (Nat.le_refl _)
  have hck := Go.Lib.hid (RCheck_any W0 a len cap N l hrE hN 8 (.inr ⟨hv, rfl⟩))
  have hy0' := Go.Lib.hid hy0
  have hbE' := Go.Lib.hid hbE
  clear hr hrE hx0 hy0 hbE hN
  go_enter Try.func18, Try.ntmps18
  go_wp2_with (go_at_call 21; rw [← hW0]; refine hck.out.mono ?_; rintro e w1 ⟨rfl, hb1⟩; obtain ⟨e0, e1, f0, f1⟩ := (hy0'.out.below hb1 (by omega)).cells; have hb1' := Go.Lib.hid hb1; clear hb1 hW0)
  (try simp only [Exit.inBlock, Exit.then])
  refine bodyPost_ret (results_box_tmp (by rfl) _ _ (W.heap.size + 1) _ _ rfl ((hy0'.out.below hb1'.out (by omega)).set _ _)) rfl ?_
  exact ⟨rfl, ((hbE'.out.trans (hb1'.out.mono (by omega))).setCell (by simp) _).setCell (by simp) _⟩

theorem RrWrite_arg (W : World) (a : Option Addr) (len cap : Nat) (N : Int) (l : List Int) (v : Nat) (k : Int) (hr : Row .u8 W a len cap l) (hN : (Lit.int .i64 N).wf = true) (hv : Valid l N) (hk : (Lit.int .i64 k).wf = true) (h : k < 0 ∨ 24 < k) :
    Calls Try.prog 18 #[.agg #[.slice a len cap, .int .i64 N], .int .u32 v, .int .i64 k] W fun e W' => e = .returned (.tuple #[.agg #[.slice none 0 0, .int .i64 0], .int .i64 2]) ∧ Below W.heap.size W W' := by
  obtain ⟨W0, hW0, hbE, hs0, hx0, hy0⟩ := two_boxes W (.slice a len cap) N
  have hrE := hr.below hbE (Nat.le_refl _)
  have hck := Go.Lib.hid (RCheck_any W0 a len cap N l hrE hN 0 (.inl ⟨hv, rfl⟩))
  have hpa := Go.Lib.hid fun w => RrParameter_no w k hk h
  have hy0' := Go.Lib.hid hy0
  have hbE' := Go.Lib.hid hbE
  clear hr hrE hx0 hy0 hbE hN hk h
  go_enter Try.func18, Try.ntmps18
  go_wp2_with (first
    | (go_at_call 21; rw [← hW0]; refine hck.out.mono ?_; rintro e w1 ⟨rfl, hb1⟩; obtain ⟨e0, e1, f0, f1⟩ := (hy0'.out.below hb1 (by omega)).cells; have hb1' := Go.Lib.hid hb1; clear hb1 hW0)
    | (go_at_call 36; refine (hpa.out _).mono ?_; rintro e w1 ⟨rfl, rfl⟩))
  (try simp only [Exit.inBlock, Exit.then])
  refine bodyPost_ret (results_box_tmp (by rfl) _ _ (W.heap.size + 1) _ _ rfl ((hy0'.out.below hb1'.out (by omega)).set _ _)) rfl ?_
  exact ⟨rfl, ((hbE'.out.trans (hb1'.out.mono (by omega))).setCell (by simp) _).setCell (by simp) _⟩

theorem RrWrite_full (W : World) (a : Option Addr) (len cap : Nat) (B : List Bool) (v k : Nat) (hr : Row .u8 W a len cap (pack B)) (hB : B.length ≤ 330000) (hf : 330000 < B.length + riceLen v k) (hv : v < 4294967296) (hk : k ≤ 24) :
    Calls Try.prog 18 #[.agg #[.slice a len cap, .int .i64 B.length], .int .u32 v, .int .i64 k] W fun e W' => e = .returned (.tuple #[.agg #[.slice none 0 0, .int .i64 0], .int .i64 18]) ∧ Below W.heap.size W W' := by
  obtain ⟨W0, hW0, hbE, hs0, hx0, hy0⟩ := two_boxes W (.slice a len cap) B.length
  have hrE := hr.below hbE (Nat.le_refl _)
  have hck := Go.Lib.hid (RCheck_any W0 a len cap B.length (pack B) hrE (bounds_of_len (by omega)) 0 (.inl ⟨⟨B, rfl, hB, rfl⟩, rfl⟩))
  have hpa := Go.Lib.hid fun w => RrParameter_ok w k hk
  have hlo := Go.Lib.hid (fun w => RrLong_ok w v k hv hk)
  have hx0' := Go.Lib.hid hx0
  have hy0' := Go.Lib.hid hy0
  have hbE' := Go.Lib.hid hbE
  have hq2 := riceLen_le v hk
  obtain ⟨q, hq⟩ : ∃ q, q = riceLen v k := ⟨_, rfl⟩
  rw [← hq] at hlo hf hq2
  have hf' : (330000 : Int) < (B.length : Int) + (q : Int) := by omega
  clear hr hrE hx0 hy0 hbE hf hq
  go_enter Try.func18, Try.ntmps18
  go_wp2_with (first
    | (go_at_call 21; rw [← hW0]; refine hck.out.mono ?_; rintro e w1 ⟨rfl, hb1⟩; obtain ⟨c0, c1, c2, c3⟩ := (hx0'.out.below hb1 (by omega)).cells; obtain ⟨e0, e1, f0, f1⟩ := (hy0'.out.below hb1 (by omega)).cells; have hb1' := Go.Lib.hid hb1; clear hb1 hW0)
    | (go_at_call 36; refine (hpa.out _).mono ?_; rintro e w1 ⟨rfl, rfl⟩))
  go_quiet ((go_at_call 37; refine (hlo.out _).mono ?_; rintro e w2 ⟨rfl, rfl⟩; exact ⟨rfl, _, rfl⟩))
  go_wp2
  (try simp only [Exit.inBlock, Exit.then])
  refine bodyPost_ret (results_box_tmp (by rfl) _ _ (W.heap.size + 1) _ _ rfl (((hy0'.out.below (Below.drewN hb1'.out _) (by omega))).set _ _)) rfl ?_
  exact ⟨rfl, ((hbE'.out.trans ((Below.drewN hb1'.out _).mono (by omega))).setCell (by simp) _).setCell (by simp) _⟩

theorem RrWrite_ok (W : World) (a : Option Addr) (len cap : Nat) (B : List Bool) (v k : Nat) (hr : Row .u8 W a len cap (pack B)) (hB : B.length + riceLen v k ≤ 330000) (hv : v < 4294967296) (hk : k ≤ 24) :
    Calls Try.prog 18 #[.agg #[.slice a len cap, .int .i64 B.length], .int .u32 v, .int .i64 k] W fun e W' => ∃ b c, e = .returned (.tuple #[.agg #[.slice b ((B.length + riceLen v k + 7) / 8) c, .int .i64 ((B.length + riceLen v k : Nat) : Int)], .int .i64 0]) ∧
      Row .u8 W' b ((B.length + riceLen v k + 7) / 8) c (pack (B ++ riceB v k)) ∧ Below W.heap.size W W' := by
  obtain ⟨W0, hW0, hbE, hs0, hx0, hy0⟩ := two_boxes W (.slice a len cap) B.length
  have hrE := hr.below hbE (Nat.le_refl _)
  have hl := hr.hlen
  rw [pack_len] at hl
  have hck := Go.Lib.hid (RCheck_any W0 a len cap B.length (pack B) hrE (bounds_of_len (by omega)) 0 (.inl ⟨⟨B, rfl, by omega, rfl⟩, rfl⟩))
  have hpa := Go.Lib.hid fun w => RrParameter_ok w k hk
  have hlo := Go.Lib.hid (fun w => RrLong_ok w v k hv hk)
  have hx0' := Go.Lib.hid hx0
  have hy0' := Go.Lib.hid hy0
  have hbE' := Go.Lib.hid hbE
  have htw : Hid (∀ w, Below W0.heap.size W0 w → Calls Try.prog 16 #[.agg #[.slice a len cap, .int .i64 B.length]] w fun e W' => ∃ v', e = .returned (.agg #[v', .int .i64 B.length]) ∧
      W'.ownsRow w.heap.size 5 1 v' len (nums .u8 (pack B)) ∧ Below w.heap.size w W') := Go.Lib.hid fun w hw => RTwin_ok w a len cap B.length (pack B) (hrE.below hw (Nat.le_refl _)) (by omega)
  obtain ⟨q, hq⟩ : ∃ q, q = riceLen v k := ⟨_, rfl⟩
  obtain ⟨m, hm⟩ : ∃ m, m = (B.length + riceLen v k + 7) / 8 := ⟨_, rfl⟩
  obtain ⟨M, hM⟩ : ∃ M, M = B.length + riceLen v k := ⟨_, rfl⟩
  have hBl : (B ++ riceB v k).length = B.length + riceLen v k := by rw [List.length_append, riceB_len]
  have had : Hid (∀ (w : World) (base : Nat) v', base ≤ w.heap.size → w.ownsRow base 5 1 v' len (nums .u8 (pack B)) → Calls Try.prog 38 #[.agg #[v', .int .i64 B.length], .int .u32 v, .int .i64 k] w fun e W' => ∃ v', e = .returned (.agg #[v', .int .i64 (M : Nat)]) ∧
      W'.ownsRow base 5 1 v' m (nums .u8 (pack (B ++ riceB v k))) ∧ Below base w W') := Go.Lib.hid fun w base v' hb ho => by
    rw [← hl] at ho
    refine (RrAdd_ok w base v' B v k ho hb (by omega) hv hk).mono ?_
    rintro e w1 ⟨v', rfl, h1, h2⟩
    rw [hBl, ← hm] at h1
    rw [← hM]
    exact ⟨v', rfl, h1, h2.bel⟩
  rw [← hm, ← hM]
  have hq2 := riceLen_le v hk
  rw [← hq] at hlo hB hq2
  have hf' : (B.length : Int) + (q : Int) ≤ 330000 := by omega
  clear hr hrE hx0 hy0 hbE hB hq hm hM hBl hl
  go_enter Try.func18, Try.ntmps18
  go_wp2_with (first
    | (go_at_call 21; rw [← hW0]; refine hck.out.mono ?_; rintro e w1 ⟨rfl, hb1⟩; obtain ⟨c0, c1, c2, c3⟩ := (hx0'.out.below hb1 (by omega)).cells; have hb1' := Go.Lib.hid hb1; clear hb1 hW0)
    | (go_at_call 36; refine (hpa.out _).mono ?_; rintro e w1 ⟨rfl, rfl⟩))
  go_quiet ((go_at_call 37; refine (hlo.out _).mono ?_; rintro e w2 ⟨rfl, rfl⟩; exact ⟨rfl, _, rfl⟩))
  go_wp2_with (first
    | (go_at_call 16; with_reducible refine (htw.out _ ?hb).mono ?_; (case hb => exact Below.drewN hb1'.out _); rintro e w2 ⟨v2, rfl, ho2, hb2⟩; obtain ⟨a2, cp2, rfl⟩ := own_form ho2; have hb12 := Go.Lib.hid ((Below.drewN hb1'.out nq).trans (hb2.mono (Below.drewN hb1'.out nq).size)); have ho2' := Go.Lib.hid (own_base ho2 (Below.drewN hb1'.out nq).size); clear ho2 hb2)
    | (go_at_call 38; with_reducible refine (had.out _ W0.heap.size _ ?hb ?ho).mono ?_; (case hb => exact hb12.out.size); (case ho => exact ho2'.out); rintro e w3 ⟨v3, rfl, ho3, hb3⟩; obtain ⟨a3, cp3, rfl⟩ := own_form ho3; have hb13 := Go.Lib.hid (hb12.out.trans hb3); obtain ⟨e0, e1, f0, f1⟩ := (hy0'.out.below hb13.out (by omega)).cells; have ho3' := Go.Lib.hid ho3; clear ho3 hb3))
  (try simp only [Exit.inBlock, Exit.then])
  have hy3 := hy0'.out.below hb13.out (by omega)
  have hr3 := Row.of_own ho3'.out (u8_wf (pack_wf _))
  refine bodyPost_ret (results_box_tmp (by rfl) _ _ (W.heap.size + 1) _ _ rfl (hy3.set _ _)) rfl ?_
  refine ⟨a3, cp3, rfl, (hr3.box hy3 0 _).box (hy3.set0 _) 1 _, ?_⟩
  exact ((hbE'.out.trans (hb13.out.mono (by omega))).setCell (by simp) _).setCell (by simp) _

set_option maxHeartbeats 800000 in
theorem RrGot_ok (W : World) (a : Option Addr) (len cap : Nat) (B : List Bool) (i k : Nat) (hr : Row .u8 W a len cap (pack B)) (hB : B.length ≤ 330000) (hi : i < B.length) (hk : k ≤ 24) (v p er : Nat) (hv : readR B i k = (v, p, er)) :
    Calls Try.prog 39 #[.agg #[.slice a len cap, .int .i64 B.length], .int .i64 i, .int .i64 k] W fun e W' => e = .returned (.tuple #[.int .u32 v, .int .i64 p, .int .i64 er]) ∧ Below W.heap.size W W' := by
  have hbE' := Go.Lib.hid (below1 W (.cells #[.slice a len cap, .int .i64 B.length] 28))
  have hx0' := Go.Lib.hid (box1 W (.slice a len cap) B.length)
  have hrE' := Go.Lib.hid (hr.below hbE'.out (Nat.le_refl _))
  have hsz := Go.Lib.hid (World.size_alloc W (.cells #[.slice a len cap, .int .i64 B.length] 28))
  obtain ⟨W0, hW0⟩ : ∃ W0, W0 = W.alloc (.cells #[.slice a len cap, .int .i64 B.length] 28) := ⟨_, rfl⟩
  rw [← hW0] at hbE' hx0' hrE' hsz
  have hlt0 : W.heap.size < W0.heap.size := by have := hsz.out; omega
  have hle0 := Nat.le_of_lt hlt0
  have hiI : (i : Int) < (B.length : Int) := by omega
  obtain ⟨g, m, hg⟩ : ∃ g m, gotV B i = (g, m) := ⟨_, _, rfl⟩
  have hgo : Hid (∀ w, Below W0.heap.size W0 w → Calls Try.prog 50 #[.agg #[.slice a len cap, .int .i64 B.length], .int .i64 i] w fun e W' => e = .returned (.tuple #[.int .i64 g, .int .i64 m]) ∧ Below w.heap.size w W') := Go.Lib.hid fun w hw =>
    RuGot_ok w a len cap B i (hrE'.out.below hw (Nat.le_refl _)) hB hi g m hg
  have hc0 := hx0'.out.cells
  obtain ⟨z0, z1, z2, z3⟩ := hc0
  rw [hW0] at z0 z1 z2 z3
  rcases gotV_read hg with ⟨hneg, rfl, hrd⟩ | ⟨q, rfl, hrd⟩
  · rw [readR_no hrd (by decide)] at hv
    cases hv
    have hn1 : decide (g < 0) = true := decide_eq_true hneg
    have hn2 : ¬ g = 48 := by omega
    have hn3 : (g == 48) = false := by simpa using hn2
    clear hr hg hrd
    go_enter Try.func39, Try.ntmps39
    go_wp2_with (first
      | (go_at_call 50; rw [← hW0]; clear hW0; refine (hgo.out _ (Below.refl _ _)).mono ?_; rintro e w1 ⟨rfl, hb1⟩; obtain ⟨c0, c1, c2, c3⟩ := (hx0'.out.below hb1 hlt0).cells; have hb1' := Go.Lib.hid hb1; clear hb1))
    go_ret3
    exact ⟨rfl, hbE'.out.trans (hb1'.out.mono hle0)⟩
  obtain ⟨hq, -, -, hmB, -⟩ := read_is hrd (Nat.le_of_lt hi)
  have h2 := lowN_le (q := q) hk
  obtain ⟨n, hn⟩ : ∃ n, n = lowN q k := ⟨_, rfl⟩
  rw [← hn] at h2
  have hnn : (q = 48 ∧ n = 32) ∨ (q < 48 ∧ n = k) := by
    rw [hn]
    by_cases h : q < 48
    · exact .inr ⟨h, if_pos h⟩
    · exact .inl ⟨by omega, if_neg h⟩
  have hq0 : decide ((q : Int) < 0) = false := decide_eq_false (by omega)
  by_cases hs : B.length < m + n
  · rw [readR_short hrd (by omega)] at hv
    cases hv
    have hs' : (B.length : Int) - (m : Int) < (n : Int) := by omega
    clear hr hg hrd hn hs
    rcases hnn with ⟨rfl, rfl⟩ | ⟨h48, rfl⟩
    · go_enter Try.func39, Try.ntmps39
      go_wp2_with (first
        | (go_at_call 50; rw [← hW0]; clear hW0; refine (hgo.out _ (Below.refl _ _)).mono ?_; rintro e w1 ⟨rfl, hb1⟩; obtain ⟨c0, c1, c2, c3⟩ := (hx0'.out.below hb1 hlt0).cells; have hb1' := Go.Lib.hid hb1; clear hb1))
      go_ret3
      exact ⟨rfl, hbE'.out.trans (hb1'.out.mono hle0)⟩
    · have h48' : ¬ (q : Int) = 48 := by omega
      have h48b : ((q : Int) == 48) = false := by simpa using h48'
      go_enter Try.func39, Try.ntmps39
      go_wp2_with (first
        | (go_at_call 50; rw [← hW0]; clear hW0; refine (hgo.out _ (Below.refl _ _)).mono ?_; rintro e w1 ⟨rfl, hb1⟩; obtain ⟨c0, c1, c2, c3⟩ := (hx0'.out.below hb1 hlt0).cells; have hb1' := Go.Lib.hid hb1; clear hb1))
      go_ret3
      exact ⟨rfl, hbE'.out.trans (hb1'.out.mono hle0)⟩
  have hva : Hid (∀ w, Below W0.heap.size W0 w → Calls Try.prog 51 #[.agg #[.slice a len cap, .int .i64 B.length], .int .i64 m, .int .i64 n] w fun e W' => e = .returned (.int .u64 (natB (midB B m (m + n)) : Nat)) ∧ Below w.heap.size w W') := Go.Lib.hid fun w hw => by
    have := RValue_ok w a len cap B (hrE'.out.below hw (Nat.le_refl _)) hB m n (by omega) (by omega)
    unfold getN at this
    unfold midB
    rw [show m + n - m = n by omega]
    exact this
  have hlow : natB (midB B m (m + n)) < 2 ^ n := by
    have := natB_lt (midB B m (m + n))
    rw [midB_len B (show m ≤ m + n by omega) (by omega), show m + n - m = n by omega] at this
    exact this
  have hp32 : 2 ^ n ≤ 4294967296 := Nat.le_trans (Nat.pow_le_pow_right (n := 2) (by decide) h2) (by decide)
  have hs' : decide ((B.length : Int) - (m : Int) < (n : Int)) = false := decide_eq_false (by omega)
  have hmI : (m : Int) + (n : Int) = ((m + n : Nat) : Int) := by omega
  have hmb : m + n ≤ 330000 := by omega
  rcases hnn with ⟨rfl, rfl⟩ | ⟨h48, rfl⟩
  · obtain ⟨low, hl⟩ : ∃ low, low = natB (midB B m (m + 32)) := ⟨_, rfl⟩
    have hlow32 : low < 4294967296 := by rw [hl]; omega
    have hpa := Go.Lib.hid fun w => RrPart_ok w low k hlow32 hk
    have hs2 : m + 32 ≤ B.length := by omega
    have e32 : ((32 : Nat) : Int) = 32 := rfl
    rw [e32] at hva hs' hmI
    clear e32
    by_cases hpp : partN low k = 48
    · rw [readR_full hrd (by omega) (by rw [← hl]; exact hpp)] at hv
      rw [← hl] at hva hv
      cases hv
      rw [hpp] at hpa
      clear hr hg hrd hn hs hpp hlow hl hp32 hmI
      go_enter Try.func39, Try.ntmps39
      go_wp2_with (first
        | (go_at_call 50; rw [← hW0]; clear hW0; refine (hgo.out _ (Below.refl _ _)).mono ?_; rintro e w1 ⟨rfl, hb1⟩; obtain ⟨c0, c1, c2, c3⟩ := (hx0'.out.below hb1 hlt0).cells; have hb1' := Go.Lib.hid hb1; clear hb1)
        | (go_at_call 51; refine (hva.out _ hb1'.out).mono ?_; rintro e w2 ⟨rfl, hb2⟩; have hb12 := Go.Lib.hid (hb1'.out.trans (hb2.mono hb1'.out.size)); clear hb2)
        | (go_at_call 46; refine (hpa.out _).mono ?_; rintro e w3 ⟨rfl, rfl⟩))
      go_ret3
      exact ⟨by go_num, hbE'.out.trans (hb12.out.mono hle0)⟩
    · rw [readR_form hrd (by omega) (by rw [← hl]; exact hpp)] at hv
      rw [← hl] at hva
      cases hv
      have hpl := partN_le low k
      obtain ⟨r, hrr⟩ : ∃ r, r = partN low k := ⟨_, rfl⟩
      rw [← hrr] at hpa hpp hpl
      have hr48 : (r : Int) < 48 := by omega
      clear hr hg hrd hn hs hlow hl hp32 hmI hrr
      go_enter Try.func39, Try.ntmps39
      go_wp2_with (first
        | (go_at_call 50; rw [← hW0]; clear hW0; refine (hgo.out _ (Below.refl _ _)).mono ?_; rintro e w1 ⟨rfl, hb1⟩; obtain ⟨c0, c1, c2, c3⟩ := (hx0'.out.below hb1 hlt0).cells; have hb1' := Go.Lib.hid hb1; clear hb1)
        | (go_at_call 51; refine (hva.out _ hb1'.out).mono ?_; rintro e w2 ⟨rfl, hb2⟩; have hb12 := Go.Lib.hid (hb1'.out.trans (hb2.mono hb1'.out.size)); clear hb2)
        | (go_at_call 46; refine (hpa.out _).mono ?_; rintro e w3 ⟨rfl, rfl⟩))
      go_ret3
      exact ⟨rfl, hbE'.out.trans (hb12.out.mono hle0)⟩
  · rw [readR_less hrd (by omega) h48] at hv
    obtain ⟨low, hl⟩ : ∃ low, low = natB (midB B m (m + n)) := ⟨_, rfl⟩
    rw [← hl] at hv hva hlow
    have hlt := less_lt hk h48 hlow
    cases hv
    have hpw := Go.Lib.hid fun w => RrPower_ok w n hk
    obtain ⟨pw, hpw2⟩ : ∃ pw, pw = 2 ^ n := ⟨_, rfl⟩
    rw [← hpw2] at hpw hlt hp32 hlow ⊢
    obtain ⟨x, hx⟩ : ∃ x, x = q * pw := ⟨_, rfl⟩
    rw [← hx] at hlt ⊢
    have e1 : (q : Int) * (pw : Int) = (x : Int) := by rw [hx]; simp
    have h48' : ¬ (q : Int) = 48 := by omega
    have h48b : ((q : Int) == 48) = false := by simpa using h48'
    have h48c : (q : Int) < 48 := by omega
    have hlow32 : low < 4294967296 := by omega
    clear hr hg hrd hn hs hl hpw2 hx hmI
    go_enter Try.func39, Try.ntmps39
    go_wp2_with (first
      | (go_at_call 50; rw [← hW0]; clear hW0; refine (hgo.out _ (Below.refl _ _)).mono ?_; rintro e w1 ⟨rfl, hb1⟩; obtain ⟨c0, c1, c2, c3⟩ := (hx0'.out.below hb1 hlt0).cells; have hb1' := Go.Lib.hid hb1; clear hb1)
      | (go_at_call 51; refine (hva.out _ hb1'.out).mono ?_; rintro e w2 ⟨rfl, hb2⟩; have hb12 := Go.Lib.hid (hb1'.out.trans (hb2.mono hb1'.out.size)); clear hb2)
      | (go_at_call 49; refine (hpw.out _).mono ?_; rintro e w3 ⟨rfl, rfl⟩))
    go_ret3
    exact ⟨by go_num, hbE'.out.trans (hb12.out.mono hle0)⟩

theorem RrRead_bad (W : World) (a : Option Addr) (len cap : Nat) (N : Int) (l : List Int) (i k : Int) (hr : Row .u8 W a len cap l) (hN : (Lit.int .i64 N).wf = true) (hv : ¬ Valid l N) :
    Calls Try.prog 19 #[.agg #[.slice a len cap, .int .i64 N], .int .i64 i, .int .i64 k] W fun e W' => e = .returned (.tuple #[.int .u32 0, .int .i64 0, .int .i64 8]) ∧ Below W.heap.size W W' := by
  have hbE' := Go.Lib.hid (below1 W (.cells #[.slice a len cap, .int .i64 N] 28))
  have hck := Go.Lib.hid (RCheck_any _ a len cap N l (hr.below hbE'.out (Nat.le_refl _)) hN 8 (.inr ⟨hv, rfl⟩))
  clear hr hN hv
  go_enter Try.func19, Try.ntmps19
  go_wp2_with (go_at_call 21; refine hck.out.mono ?_; rintro e w1 ⟨rfl, hb1⟩; have hb1' := Go.Lib.hid hb1; clear hb1)
  go_ret3
  exact ⟨rfl, hbE'.out.trans (hb1'.out.mono (by simp))⟩
theorem RrRead_arg (W : World) (a : Option Addr) (len cap : Nat) (N : Int) (l : List Int) (i k : Int) (hr : Row .u8 W a len cap l) (hN : (Lit.int .i64 N).wf = true) (hv : Valid l N) (hk : (Lit.int .i64 k).wf = true) (h : k < 0 ∨ 24 < k) :
    Calls Try.prog 19 #[.agg #[.slice a len cap, .int .i64 N], .int .i64 i, .int .i64 k] W fun e W' => e = .returned (.tuple #[.int .u32 0, .int .i64 0, .int .i64 2]) ∧ Below W.heap.size W W' := by
  have hbE' := Go.Lib.hid (below1 W (.cells #[.slice a len cap, .int .i64 N] 28))
  have hck := Go.Lib.hid (RCheck_any _ a len cap N l (hr.below hbE'.out (Nat.le_refl _)) hN 0 (.inl ⟨hv, rfl⟩))
  have hpa := Go.Lib.hid fun w => RrParameter_no w k hk h
  clear hr hN hv hk h
  go_enter Try.func19, Try.ntmps19
  go_wp2_with (first
    | (go_at_call 21; refine hck.out.mono ?_; rintro e w1 ⟨rfl, hb1⟩; have hb1' := Go.Lib.hid hb1; clear hb1)
    | (go_at_call 36; refine (hpa.out _).mono ?_; rintro e w2 ⟨rfl, rfl⟩))
  go_ret3
  exact ⟨rfl, hbE'.out.trans (hb1'.out.mono (by simp))⟩
theorem RrRead_neg (W : World) (a : Option Addr) (len cap : Nat) (N : Int) (l : List Int) (i : Int) (k : Nat) (hr : Row .u8 W a len cap l) (hN : (Lit.int .i64 N).wf = true) (hv : Valid l N) (hk : k ≤ 24) (h : i < 0) :
    Calls Try.prog 19 #[.agg #[.slice a len cap, .int .i64 N], .int .i64 i, .int .i64 k] W fun e W' => e = .returned (.tuple #[.int .u32 0, .int .i64 0, .int .i64 2]) ∧ Below W.heap.size W W' := by
  have hbE' := Go.Lib.hid (below1 W (.cells #[.slice a len cap, .int .i64 N] 28))
  have hck := Go.Lib.hid (RCheck_any _ a len cap N l (hr.below hbE'.out (Nat.le_refl _)) hN 0 (.inl ⟨hv, rfl⟩))
  have hpa := Go.Lib.hid fun w => RrParameter_ok w k hk
  have hi : decide (i < 0) = true := decide_eq_true h
  clear hr hN hv
  go_enter Try.func19, Try.ntmps19
  go_wp2_with (first
    | (go_at_call 21; refine hck.out.mono ?_; rintro e w1 ⟨rfl, hb1⟩; have hb1' := Go.Lib.hid hb1; clear hb1)
    | (go_at_call 36; refine (hpa.out _).mono ?_; rintro e w2 ⟨rfl, rfl⟩))
  go_ret3
  exact ⟨rfl, hbE'.out.trans (hb1'.out.mono (by simp))⟩
/-- behind the end -/
theorem RrGot_end (W : World) (a : Option Addr) (len cap : Nat) (N : Int) (i k : Int) (h : N ≤ i) :
    Calls Try.prog 39 #[.agg #[.slice a len cap, .int .i64 N], .int .i64 i, .int .i64 k] W fun e W' => e = .returned (.tuple #[.int .u32 0, .int .i64 0, .int .i64 24]) ∧ Below W.heap.size W W' := by
  have hbE' := Go.Lib.hid (below1 W (.cells #[.slice a len cap, .int .i64 N] 28))
  have hx0' := Go.Lib.hid (box1 W (.slice a len cap) N)
  obtain ⟨z0, z1, z2, z3⟩ := hx0'.out.cells
  go_enter Try.func39, Try.ntmps39
  go_wp2
  go_ret3
  exact ⟨rfl, hbE'.out⟩
/-- what Got says, said by Read -/
theorem RrRead_got (W : World) (a : Option Addr) (len cap : Nat) (N : Int) (l : List Int) (i : Int) (k : Nat) (v p er : Int) (hr : Row .u8 W a len cap l) (hN : (Lit.int .i64 N).wf = true) (hv : Valid l N) (hk : k ≤ 24) (h : ¬ i < 0)
    (hg : ∀ w, Row .u8 w a len cap l → Calls Try.prog 39 #[.agg #[.slice a len cap, .int .i64 N], .int .i64 i, .int .i64 k] w fun e W' => e = .returned (.tuple #[.int .u32 v, .int .i64 p, .int .i64 er]) ∧ Below w.heap.size w W') :
    Calls Try.prog 19 #[.agg #[.slice a len cap, .int .i64 N], .int .i64 i, .int .i64 k] W fun e W' => e = .returned (.tuple #[.int .u32 v, .int .i64 p, .int .i64 er]) ∧ Below W.heap.size W W' := by
  have hbE' := Go.Lib.hid (below1 W (.cells #[.slice a len cap, .int .i64 N] 28))
  have hx0' := Go.Lib.hid (box1 W (.slice a len cap) N)
  have hrE' := Go.Lib.hid (hr.below hbE'.out (Nat.le_refl _))
  have hck := Go.Lib.hid (RCheck_any _ a len cap N l hrE'.out hN 0 (.inl ⟨hv, rfl⟩))
  have hpa := Go.Lib.hid fun w => RrParameter_ok w k hk
  have hgo := Go.Lib.hid hg
  have hi : decide (i < 0) = false := decide_eq_false h
  clear hr hN hv hg
  go_enter Try.func19, Try.ntmps19
  go_wp2_with (first
    | (go_at_call 21; refine hck.out.mono ?_; rintro e w1 ⟨rfl, hb1⟩; obtain ⟨c0, c1, c2, c3⟩ := (hx0'.out.below hb1 (by simp)).cells; have hb1' := Go.Lib.hid hb1; clear hb1)
    | (go_at_call 36; refine (hpa.out _).mono ?_; rintro e w2 ⟨rfl, rfl⟩)
    | (go_at_call 39; refine (hgo.out _ (hrE'.out.below hb1'.out (Nat.le_refl _))).mono ?_; rintro e w3 ⟨rfl, hb3⟩; have hb13 := Go.Lib.hid (hb1'.out.trans (hb3.mono hb1'.out.size)); clear hb3))
  go_ret3
  exact ⟨rfl, hbE'.out.trans (hb13.out.mono (by simp))⟩
end Go.Proofs.Ytahefkjgcdchlaa
