/- Contracts of the reference of unary: Write and Read. -/
import Derived.Test.YtbegifpnbbpinaaUnaR
namespace Go.Proofs.Ytbegifpnbbpinaa
open Go.RowKit Cad

theorem RuWrite_bad (W : World) (a : Option Addr) (len cap : Nat) (N : Int) (l : List Int) (n : Int) (hr : Row .u8 W a len cap l) (hN : (Lit.int .i64 N).wf = true) (hv : ¬ Valid l N) :
    Calls Try.prog 19 #[.agg #[.slice a len cap, .int .i64 N], .int .i64 n] W fun e W' => e = .returned (.tuple #[.agg #[.slice none 0 0, .int .i64 0], .int .i64 8]) ∧ Below W.heap.size W W' := by
  obtain ⟨W0, hW0, hbE, hs0, hx0, hy0⟩ := two_boxes W (.slice a len cap) N
  have hrE := hr.below hbE (Nat.le_refl _)
  have hck := Go.Lib.hid (RCheck_any W0 a len cap N l hrE hN 8 (.inr ⟨hv, rfl⟩))
  have hy0' := Go.Lib.hid hy0
  have hbE' := Go.Lib.hid hbE
  clear hr hrE hx0 hy0 hbE hN
  go_enter Try.func19, Try.ntmps19
  go_wp2_with (go_at_call 22; rw [← hW0]; refine hck.out.mono ?_; rintro e w1 ⟨rfl, hb1⟩; obtain ⟨e0, e1, f0, f1⟩ := (hy0'.out.below hb1 (by omega)).cells; have hb1' := Go.Lib.hid hb1; clear hb1 hW0)
  (try simp only [Exit.inBlock, Exit.then])
  refine bodyPost_ret (results_box_tmp (by rfl) _ _ (W.heap.size + 1) _ _ rfl ((hy0'.out.below hb1'.out (by omega)).set _ _)) rfl ?_
  exact ⟨rfl, ((hbE'.out.trans (hb1'.out.mono (by omega))).setCell (by simp) _).setCell (by simp) _⟩

theorem RuWrite_arg (W : World) (a : Option Addr) (len cap : Nat) (N : Int) (l : List Int) (n : Int) (hr : Row .u8 W a len cap l) (hN : (Lit.int .i64 N).wf = true) (hv : Valid l N) (hn : (Lit.int .i64 n).wf = true) (h : n < 0 ∨ 48 < n) :
    Calls Try.prog 19 #[.agg #[.slice a len cap, .int .i64 N], .int .i64 n] W fun e W' => e = .returned (.tuple #[.agg #[.slice none 0 0, .int .i64 0], .int .i64 2]) ∧ Below W.heap.size W W' := by
  obtain ⟨W0, hW0, hbE, hs0, hx0, hy0⟩ := two_boxes W (.slice a len cap) N
  have hrE := hr.below hbE (Nat.le_refl _)
  have hck := Go.Lib.hid (RCheck_any W0 a len cap N l hrE hN 0 (.inl ⟨hv, rfl⟩))
  have hy0' := Go.Lib.hid hy0
  have hbE' := Go.Lib.hid hbE
  have bn := bounds_i64 hn
  have key : n < 0 ∨ (¬ n < 0 ∧ 48 < n) := by omega
  clear hr hrE hx0 hy0 hbE hN hn h
  rcases key with h | ⟨h, h'⟩
  all_goals
    go_enter Try.func19, Try.ntmps19
    go_wp2_with (go_at_call 22; rw [← hW0]; refine hck.out.mono ?_; rintro e w1 ⟨rfl, hb1⟩; obtain ⟨e0, e1, f0, f1⟩ := (hy0'.out.below hb1 (by omega)).cells; have hb1' := Go.Lib.hid hb1; clear hb1 hW0)
    (try simp only [Exit.inBlock, Exit.then])
    refine bodyPost_ret (results_box_tmp (by rfl) _ _ (W.heap.size + 1) _ _ rfl ((hy0'.out.below hb1'.out (by omega)).set _ _)) rfl ?_
    exact ⟨rfl, ((hbE'.out.trans (hb1'.out.mono (by omega))).setCell (by simp) _).setCell (by simp) _⟩

theorem RuWrite_full (W : World) (a : Option Addr) (len cap : Nat) (B : List Bool) (n : Nat) (hr : Row .u8 W a len cap (pack B)) (hB : B.length ≤ 330000) (hf : 330000 < B.length + runLen n) (hn : n ≤ 48) :
    Calls Try.prog 19 #[.agg #[.slice a len cap, .int .i64 B.length], .int .i64 n] W fun e W' => e = .returned (.tuple #[.agg #[.slice none 0 0, .int .i64 0], .int .i64 18]) ∧ Below W.heap.size W W' := by
  obtain ⟨W0, hW0, hbE, hs0, hx0, hy0⟩ := two_boxes W (.slice a len cap) B.length
  have hrE := hr.below hbE (Nat.le_refl _)
  have hck := Go.Lib.hid (RCheck_any W0 a len cap B.length (pack B) hrE (bounds_of_len (by omega)) 0 (.inl ⟨⟨B, rfl, hB, rfl⟩, rfl⟩))
  have hlo := Go.Lib.hid (fun w => RuLong_ok w n hn)
  have hx0' := Go.Lib.hid hx0
  have hy0' := Go.Lib.hid hy0
  have hbE' := Go.Lib.hid hbE
  have hn1 : ¬ (n : Int) < 0 := by omega
  have hn2 : (n : Int) ≤ 48 := by omega
  obtain ⟨q, hq⟩ : ∃ q, q = runLen n := ⟨_, rfl⟩
  rw [← hq] at hlo hf
  have hf' : (330000 : Int) < (B.length : Int) + (q : Int) := by omega
  have hq2 : (q : Int) ≤ 48 := by have := runLen_le hn; omega
  clear hr hrE hx0 hy0 hbE hf hq
  go_enter Try.func19, Try.ntmps19
  go_wp2_with (go_at_call 22; rw [← hW0]; refine hck.out.mono ?_; rintro e w1 ⟨rfl, hb1⟩; obtain ⟨c0, c1, c2, c3⟩ := (hx0'.out.below hb1 (by omega)).cells; obtain ⟨e0, e1, f0, f1⟩ := (hy0'.out.below hb1 (by omega)).cells; have hb1' := Go.Lib.hid hb1; clear hb1 hW0)
  go_quiet ((go_at_call 42; refine (hlo.out _).mono ?_; rintro e w2 ⟨rfl, rfl⟩; exact ⟨rfl, _, rfl⟩))
  go_wp2
  (try simp only [Exit.inBlock, Exit.then])
  refine bodyPost_ret (results_box_tmp (by rfl) _ _ (W.heap.size + 1) _ _ rfl (((hy0'.out.below (Below.drewN hb1'.out _) (by omega))).set _ _)) rfl ?_
  exact ⟨rfl, ((hbE'.out.trans ((Below.drewN hb1'.out _).mono (by omega))).setCell (by simp) _).setCell (by simp) _⟩

theorem RuWrite_ok (W : World) (a : Option Addr) (len cap : Nat) (B : List Bool) (n : Nat) (hr : Row .u8 W a len cap (pack B)) (hB : B.length + runLen n ≤ 330000) (hn : n ≤ 48) :
    Calls Try.prog 19 #[.agg #[.slice a len cap, .int .i64 B.length], .int .i64 n] W fun e W' => ∃ b c, e = .returned (.tuple #[.agg #[.slice b ((B.length + runLen n + 7) / 8) c, .int .i64 ((B.length + runLen n : Nat) : Int)], .int .i64 0]) ∧
      Row .u8 W' b ((B.length + runLen n + 7) / 8) c (pack (B ++ runB n)) ∧ Below W.heap.size W W' := by
  obtain ⟨W0, hW0, hbE, hs0, hx0, hy0⟩ := two_boxes W (.slice a len cap) B.length
  have hrE := hr.below hbE (Nat.le_refl _)
  have hl := hr.hlen
  rw [pack_len] at hl
  have hck := Go.Lib.hid (RCheck_any W0 a len cap B.length (pack B) hrE (bounds_of_len (by omega)) 0 (.inl ⟨⟨B, rfl, by omega, rfl⟩, rfl⟩))
  have hlo := Go.Lib.hid (fun w => RuLong_ok w n hn)
  have hx0' := Go.Lib.hid hx0
  have hy0' := Go.Lib.hid hy0
  have hbE' := Go.Lib.hid hbE
  have hn1 : ¬ (n : Int) < 0 := by omega
  have hn2 : (n : Int) ≤ 48 := by omega
  have htw : Hid (∀ w, Below W0.heap.size W0 w → Calls Try.prog 17 #[.agg #[.slice a len cap, .int .i64 B.length]] w fun e W' => ∃ v', e = .returned (.agg #[v', .int .i64 B.length]) ∧
      W'.ownsRow w.heap.size 5 1 v' len (nums .u8 (pack B)) ∧ Below w.heap.size w W') := Go.Lib.hid fun w hw => RTwin_ok w a len cap B.length (pack B) (hrE.below hw (Nat.le_refl _)) (by omega)
  obtain ⟨q, hq⟩ : ∃ q, q = runLen n := ⟨_, rfl⟩
  obtain ⟨m, hm⟩ : ∃ m, m = (B.length + runLen n + 7) / 8 := ⟨_, rfl⟩
  obtain ⟨M, hM⟩ : ∃ M, M = B.length + runLen n := ⟨_, rfl⟩
  have hBl : (B ++ runB n).length = B.length + runLen n := by rw [List.length_append, runB_len hn]
  have had : Hid (∀ (w : World) (base : Nat) v, base ≤ w.heap.size → w.ownsRow base 5 1 v len (nums .u8 (pack B)) → Calls Try.prog 43 #[.agg #[v, .int .i64 B.length], .int .i64 n] w fun e W' => ∃ v', e = .returned (.agg #[v', .int .i64 (M : Nat)]) ∧
      W'.ownsRow base 5 1 v' m (nums .u8 (pack (B ++ runB n))) ∧ Below base w W') := Go.Lib.hid fun w base v hb ho => by
    rw [← hl] at ho
    refine (RuAdd_ok w base v B n ho hb (by omega) hn).mono ?_
    rintro e w1 ⟨v', rfl, h1, h2⟩
    rw [hBl, ← hm] at h1
    rw [← hM]
    exact ⟨v', rfl, h1, h2.bel⟩
  rw [← hm, ← hM]
  rw [← hq] at hlo hB
  have hf' : (B.length : Int) + (q : Int) ≤ 330000 := by omega
  have hq2 : (q : Int) ≤ 48 := by have := runLen_le hn; omega
  clear hr hrE hx0 hy0 hbE hB hq hm hM hBl hl
  go_enter Try.func19, Try.ntmps19
  go_wp2_with (go_at_call 22; rw [← hW0]; refine hck.out.mono ?_; rintro e w1 ⟨rfl, hb1⟩; obtain ⟨c0, c1, c2, c3⟩ := (hx0'.out.below hb1 (by omega)).cells; have hb1' := Go.Lib.hid hb1; clear hb1 hW0)
  go_quiet ((go_at_call 42; refine (hlo.out _).mono ?_; rintro e w2 ⟨rfl, rfl⟩; exact ⟨rfl, _, rfl⟩))
  go_wp2_with (first
    | (go_at_call 17; with_reducible refine (htw.out _ ?hb).mono ?_; (case hb => exact Below.drewN hb1'.out _); rintro e w2 ⟨v2, rfl, ho2, hb2⟩; obtain ⟨a2, cp2, rfl⟩ := own_form ho2; have hb12 := Go.Lib.hid ((Below.drewN hb1'.out nq).trans (hb2.mono (Below.drewN hb1'.out nq).size)); have ho2' := Go.Lib.hid (own_base ho2 (Below.drewN hb1'.out nq).size); clear ho2 hb2)
    | (go_at_call 43; with_reducible refine (had.out _ W0.heap.size _ ?hb ?ho).mono ?_; (case hb => exact hb12.out.size); (case ho => exact ho2'.out); rintro e w3 ⟨v3, rfl, ho3, hb3⟩; obtain ⟨a3, cp3, rfl⟩ := own_form ho3; have hb13 := Go.Lib.hid (hb12.out.trans hb3); obtain ⟨e0, e1, f0, f1⟩ := (hy0'.out.below hb13.out (by omega)).cells; have ho3' := Go.Lib.hid ho3; clear ho3 hb3))
  (try simp only [Exit.inBlock, Exit.then])
  have hy3 := hy0'.out.below hb13.out (by omega)
  have hr3 := Row.of_own ho3'.out (u8_wf (pack_wf _))
  refine bodyPost_ret (results_box_tmp (by rfl) _ _ (W.heap.size + 1) _ _ rfl (hy3.set _ _)) rfl ?_
  refine ⟨a3, cp3, rfl, (hr3.box hy3 0 _).box (hy3.set0 _) 1 _, ?_⟩
  exact ((hbE'.out.trans (hb13.out.mono (by omega))).setCell (by simp) _).setCell (by simp) _

/-- what Got says: the number and the index behind it, or -1 and 0 -/
def gotV (B : List Bool) (i : Nat) : Int × Nat :=
  let n := lead (B.drop i) 48
  if n = 48 then (48, i + 48) else if i + n < B.length then ((n : Int), i + n + 1) else (-1, 0)
theorem gotV_read {B : List Bool} {i : Nat} {g : Int} {m : Nat} (h : gotV B i = (g, m)) : (g < 0 ∧ m = 0 ∧ readV B i = (0, 0, 24)) ∨ ∃ p : Nat, g = p ∧ readV B i = (p, m, 0) := by
  unfold gotV at h
  unfold readV
  simp only at h ⊢
  split at h
  · rename_i e
    cases h
    right; exact ⟨48, rfl, by rw [if_pos e]⟩
  · rename_i e
    rw [if_neg e]
    split at h
    · rename_i e2
      cases h
      right; exact ⟨_, rfl, by rw [if_pos e2]⟩
    · rename_i e2
      cases h
      left; exact ⟨by decide, rfl, by rw [if_neg e2]⟩

theorem RuGot_ok (W : World) (a : Option Addr) (len cap : Nat) (B : List Bool) (i : Nat) (hr : Row .u8 W a len cap (pack B)) (hB : B.length ≤ 330000) (hi : i < B.length) (g : Int) (m : Nat) (hv : gotV B i = (g, m)) :
    Calls Try.prog 44 #[.agg #[.slice a len cap, .int .i64 B.length], .int .i64 i] W fun e W' => e = .returned (.tuple #[.int .i64 g, .int .i64 m]) ∧ Below W.heap.size W W' := by
  have hl := hr.hlen
  rw [pack_len] at hl
  have hbE' := Go.Lib.hid (below1 W (.cells #[.slice a len cap, .int .i64 B.length] 27))
  have hx0' := Go.Lib.hid (show BoxAt (W.alloc (.cells #[.slice a len cap, .int .i64 B.length] 27)) W.heap.size (.slice a len cap) B.length from heap_alloc_new _ _)
  have hrE := Go.Lib.hid (hr.below hbE'.out (Nat.le_refl _))
  have hv' := Go.Lib.hid hv
  have hsz := Go.Lib.hid (World.size_alloc W (.cells #[.slice a len cap, .int .i64 B.length] 27))
  obtain ⟨W0, hW0⟩ : ∃ W0, W0 = W.alloc (.cells #[.slice a len cap, .int .i64 B.length] 27) := ⟨_, rfl⟩
  rw [← hW0] at hbE' hx0' hrE hsz
  clear hr hv
  go_enter Try.func44, Try.ntmps44
  go_wp2
  rw [← hW0]
  clear hW0
  go_loopw [6] (fun n wr => ∃ k : Nat, k ≤ 48 ∧ i + k ≤ B.length ∧ n = .int .i64 k ∧ (∀ j, j < k → (B.drop i).getD j false = true) ∧ Below W0.heap.size W0 wr) (fun n _ => 48 - (intOf n).toNat)
  case atStart => exact ⟨0, by omega, by omega, rfl, fun j h => by omega, Below.refl _ _⟩
  case round =>
    obtain ⟨k, hk, hik, rfl, hones, hb⟩ := hrel
    have hones' := Go.Lib.hid hones
    obtain ⟨x0, x1, x2, x3⟩ := (hx0'.out.below hb (by have := hsz.out; omega)).cells
    have hrr := hrE.out.below hb (Nat.le_refl _)
    have hb' := Go.Lib.hid hb
    have hlen : (B.drop i).length = B.length - i := by simp
    have hdg := drop_getD B i k
    clear hones
    by_cases hin : i + k < B.length
    · have hin' : (i : Int) + (k : Int) < (B.length : Int) := by omega
      by_cases hlt : k < 48
      · have hlt' : (k : Int) < 48 := by omega
        have hc := RAt_ok wr a len cap B.length (pack B) hrr (i + k) (by omega)
        rw [bit_pack] at hc
        have e1 : ((i + k : Nat) : Int) = (i : Int) + (k : Int) := by omega
        rw [e1] at hc
        cases hbit : B.getD (i + k) false with
        | true =>
          rw [hbit] at hc hdg
          have hc' := Go.Lib.hid hc
          clear hc hb hrr e1 hin
          go_wp2_with (go_at_call 24; with_reducible refine hc'.out.mono ?_; rintro e w1 ⟨rfl, hb1⟩; have hb1' := Go.Lib.hid (hb'.out.trans (hb1.mono hb'.out.size)); clear hb1)
          go_roundw
          case rel => exact ⟨k + 1, by omega, by omega, by go_num, fun j hj => by
            by_cases e : j = k
            · subst e; exact hdg
            · exact hones'.out j (by omega), hb1'.out⟩
          case measure => (simp [intOf] <;> omega)
        | false =>
          rw [hbit] at hc hdg
          have hc' := Go.Lib.hid hc
          have hlv := lead_eq (B.drop i) 48 k hk hones'.out (fun _ => hdg) (by omega)
          have hz := hv'.out
          unfold gotV at hz
          simp only [hlv] at hz
          rw [if_neg (by omega), if_pos hin] at hz
          cases hz
          clear hc hb hrr e1 hlv
          have h48 : ¬ (k : Int) = 48 := by omega
          go_wp2_with (go_at_call 24; with_reducible refine hc'.out.mono ?_; rintro e w1 ⟨rfl, hb1⟩; have hb1' := Go.Lib.hid (hb'.out.trans (hb1.mono hb'.out.size)); obtain ⟨z0, z1, z2, z3⟩ := (hx0'.out.below hb1'.out (by have := hsz.out; omega)).cells; clear hb1)
          go_ret2
          exact ⟨by go_num, hbE'.out.trans (hb1'.out.mono (by have := hsz.out; omega))⟩
      · obtain rfl : k = 48 := by omega
        have hlv := lead_eq (B.drop i) 48 48 hk hones'.out (fun h => absurd h (by omega)) (by omega)
        have hz := hv'.out
        unfold gotV at hz
        simp only [hlv, if_true] at hz
        cases hz
        clear hb hrr hlv
        go_wp2
        go_ret2
        exact ⟨by go_num, hbE'.out.trans (hb'.out.mono (by have := hsz.out; omega))⟩
    · have hin' : (B.length : Int) ≤ (i : Int) + (k : Int) := by omega
      by_cases h48 : k = 48
      · subst h48
        have hlv := lead_eq (B.drop i) 48 48 hk hones'.out (fun h => absurd h (by omega)) (by omega)
        have hz := hv'.out
        unfold gotV at hz
        simp only [hlv, if_true] at hz
        cases hz
        clear hb hrr hlv
        go_wp2
        go_ret2
        exact ⟨by go_num, hbE'.out.trans (hb'.out.mono (by have := hsz.out; omega))⟩
      · have hlv := lead_eq (B.drop i) 48 k hk hones'.out (fun _ => by rw [hdg]; exact getD_ge _ _ (by omega)) (by omega)
        have hz := hv'.out
        unfold gotV at hz
        simp only [hlv] at hz
        rw [if_neg h48, if_neg hin] at hz
        cases hz
        have h48' : ¬ (k : Int) = 48 := by omega
        clear hb hrr hlv
        go_wp2
        go_ret2
        exact ⟨by go_num, hbE'.out.trans (hb'.out.mono (by have := hsz.out; omega))⟩

theorem RuRead_bad (W : World) (a : Option Addr) (len cap : Nat) (N : Int) (l : List Int) (i : Int) (hr : Row .u8 W a len cap l) (hN : (Lit.int .i64 N).wf = true) (hv : ¬ Valid l N) :
    Calls Try.prog 20 #[.agg #[.slice a len cap, .int .i64 N], .int .i64 i] W fun e W' => e = .returned (.tuple #[.int .i64 0, .int .i64 0, .int .i64 8]) ∧ Below W.heap.size W W' := by
  have hbE' := Go.Lib.hid (below1 W (.cells #[.slice a len cap, .int .i64 N] 27))
  have hck := Go.Lib.hid (RCheck_any _ a len cap N l (hr.below hbE'.out (Nat.le_refl _)) hN 8 (.inr ⟨hv, rfl⟩))
  clear hr hN hv
  go_enter Try.func20, Try.ntmps20
  go_wp2_with (go_at_call 22; refine hck.out.mono ?_; rintro e w1 ⟨rfl, hb1⟩; have hb1' := Go.Lib.hid hb1; clear hb1)
  go_ret3
  exact ⟨rfl, hbE'.out.trans (hb1'.out.mono (by simp))⟩
theorem RuRead_out (W : World) (a : Option Addr) (len cap : Nat) (N : Int) (l : List Int) (i er : Int) (hr : Row .u8 W a len cap l) (hN : (Lit.int .i64 N).wf = true) (hv : Valid l N) (h : (i < 0 ∧ er = 2) ∨ (¬ i < 0 ∧ N ≤ i ∧ er = 24)) :
    Calls Try.prog 20 #[.agg #[.slice a len cap, .int .i64 N], .int .i64 i] W fun e W' => e = .returned (.tuple #[.int .i64 0, .int .i64 0, .int .i64 er]) ∧ Below W.heap.size W W' := by
  have hbE' := Go.Lib.hid (below1 W (.cells #[.slice a len cap, .int .i64 N] 27))
  have hx0' := Go.Lib.hid (show BoxAt (W.alloc (.cells #[.slice a len cap, .int .i64 N] 27)) W.heap.size (.slice a len cap) N from heap_alloc_new _ _)
  have hck := Go.Lib.hid (RCheck_any _ a len cap N l (hr.below hbE'.out (Nat.le_refl _)) hN 0 (.inl ⟨hv, rfl⟩))
  clear hr hN hv
  rcases h with ⟨h, rfl⟩ | ⟨h, h', rfl⟩
  all_goals
    go_enter Try.func20, Try.ntmps20
    go_wp2_with (go_at_call 22; refine hck.out.mono ?_; rintro e w1 ⟨rfl, hb1⟩; obtain ⟨c0, c1, c2, c3⟩ := (hx0'.out.below hb1 (by simp)).cells; have hb1' := Go.Lib.hid hb1; clear hb1)
    go_ret3
    exact ⟨rfl, hbE'.out.trans (hb1'.out.mono (by simp))⟩
theorem RuRead_in (W : World) (a : Option Addr) (len cap : Nat) (B : List Bool) (i : Nat) (hr : Row .u8 W a len cap (pack B)) (hB : B.length ≤ 330000) (hi : i < B.length) (p q er : Nat) (hv : readV B i = (p, q, er)) :
    Calls Try.prog 20 #[.agg #[.slice a len cap, .int .i64 B.length], .int .i64 i] W fun e W' => e = .returned (.tuple #[.int .i64 p, .int .i64 q, .int .i64 er]) ∧ Below W.heap.size W W' := by
  have hbE' := Go.Lib.hid (below1 W (.cells #[.slice a len cap, .int .i64 B.length] 27))
  have hx0' := Go.Lib.hid (show BoxAt (W.alloc (.cells #[.slice a len cap, .int .i64 B.length] 27)) W.heap.size (.slice a len cap) B.length from heap_alloc_new _ _)
  have hrE := Go.Lib.hid (hr.below hbE'.out (Nat.le_refl _))
  have hck := Go.Lib.hid (RCheck_any _ a len cap B.length (pack B) hrE.out (bounds_of_len (by omega)) 0 (.inl ⟨⟨B, rfl, by omega, rfl⟩, rfl⟩))
  obtain ⟨g, m, hg⟩ : ∃ g m, gotV B i = (g, m) := ⟨_, _, rfl⟩
  obtain ⟨W0, hW0⟩ : ∃ W0, W0 = W.alloc (.cells #[.slice a len cap, .int .i64 B.length] 27) := ⟨_, rfl⟩
  have hgot : Hid (∀ w, Below W0.heap.size W0 w → Calls Try.prog 44 #[.agg #[.slice a len cap, .int .i64 B.length], .int .i64 i] w fun e W' => e = .returned (.tuple #[.int .i64 g, .int .i64 m]) ∧ Below w.heap.size w W') := Go.Lib.hid fun w hw =>
    RuGot_ok w a len cap B i (by rw [hW0] at hw; exact hrE.out.below hw (Nat.le_refl _)) hB hi g m hg
  rw [← hW0] at hck hbE' hx0'
  have hlt : W.heap.size < W0.heap.size := by rw [hW0]; simp
  have hg' := gotV_read hg
  have hi' : (i : Int) < (B.length : Int) := by omega
  clear hr hrE hg
  rcases hg' with ⟨hneg, rfl, hrd⟩ | ⟨p', rfl, hrd⟩
  all_goals
    rw [hv] at hrd
    cases hrd
    clear hv
    go_enter Try.func20, Try.ntmps20
    go_wp2_with (first
      | (go_at_call 22; rw [← hW0]; refine hck.out.mono ?_; rintro e w1 ⟨rfl, hb1⟩; obtain ⟨c0, c1, c2, c3⟩ := (hx0'.out.below hb1 hlt).cells; have hb1' := Go.Lib.hid hb1; clear hb1 hW0)
      | (go_at_call 44; refine (hgot.out _ hb1'.out).mono ?_; rintro e w2 ⟨rfl, hb2⟩; have hb2' := Go.Lib.hid (hb1'.out.trans (hb2.mono hb1'.out.size)); clear hb2))
    go_ret3
    exact ⟨rfl, hbE'.out.trans (hb2'.out.mono (Nat.le_of_lt hlt))⟩
end Go.Proofs.Ytbegifpnbbpinaa
