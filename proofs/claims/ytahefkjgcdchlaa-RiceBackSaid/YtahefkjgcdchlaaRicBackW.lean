/- RiceBack: codes behind each other, with any parameters, are read as the numbers; at most 80 bits. -/
import Derived.Test.YtahefkjgcdchlaaRicL
namespace Go.Proofs.Ytahefkjgcdchlaa
open Go.RowKit Cad

/-- the numbers and parameters ahead of the first parameter that is none -/
theorem good_pairs : ∀ l ks : List Int, l.length = ks.length → (∀ x ∈ l, (Lit.int .u32 x).wf = true) → ∃ m : List (Nat × Nat), m.length ≤ l.length ∧ (∀ k, k < m.length → l.getD k 0 = (((m.getD k (0, 0)).1 : Nat) : Int) ∧ ks.getD k 0 = (((m.getD k (0, 0)).2 : Nat) : Int)) ∧ (∀ x ∈ m, x.1 < 4294967296 ∧ x.2 ≤ 24) ∧ (m.length < l.length → ks.getD m.length 0 < 0 ∨ 24 < ks.getD m.length 0)
  | [], _, _, _ => ⟨[], by simp, by simp, by simp, by simp⟩
  | x :: l, [], h, _ => by simp at h
  | x :: l, y :: ks, h, hw => by
    by_cases hy : y < 0 ∨ 24 < y
    · exact ⟨[], by simp, by simp, by simp, fun _ => by simpa [List.getD] using hy⟩
    · obtain ⟨m, h1, h2, h3, h4⟩ := good_pairs l ks (by simpa using h) fun z hz => hw z (List.mem_cons_of_mem _ hz)
      obtain ⟨n, rfl, hn⟩ := nat_u32 (hw x (List.mem_cons_self ..))
      refine ⟨(n, y.toNat) :: m, by simpa using h1, fun k hk => ?_, fun z hz => ?_, fun h => ?_⟩
      · cases k with
        | zero => simp [List.getD]; omega
        | succ k => simpa [List.getD] using h2 k (by simpa using hk)
      · rcases List.mem_cons.1 hz with rfl | hz
        · exact ⟨hn, by simp; omega⟩
        · exact h3 z hz
      · simpa [List.getD] using h4 (by simpa using h)

set_option maxRecDepth 100000 in
theorem riceBack_out (W : World) (a : Option Addr) (len cap : Nat) (l : List Int) (N : Int) (al : Option Addr) (ll cl : Nat) (ak : Option Addr) (lk ck : Nat) (hll : ll ≤ 9223372036854775807) (hlk : lk ≤ 9223372036854775807) (hr : Row .u8 W a len cap l) (hN : (Lit.int .i64 N).wf = true) (r : Int) (hk : chk l N r)
    (h : r = 8 ∨ (r = 0 ∧ (500 < N ∨ 12 < ll ∨ lk ≠ ll))) :
    Calls Try.prog 5 #[.agg #[.slice a len cap, .int .i64 N], .slice al ll cl, .slice ak lk ck] W fun e w' => e = .returned (.bool true) ∧ Below W.heap.size W w' := by
  have hWE0 := Go.Lib.hid (below1 W (.cells #[.slice a len cap, .int .i64 N] 28))
  have BE0_f := Go.Lib.hid (box1 W (.slice a len cap) N)
  have RE0_f := Go.Lib.hid (hr.below hWE0.out (Nat.le_refl _))
  have hck : Hid (∀ w, Row .u8 w a len cap l → Calls Try.prog 21 #[.agg #[.slice a len cap, .int .i64 N]] w fun e W' => e = .returned (.int .i64 r) ∧ Below w.heap.size w W') := Go.Lib.hid fun w h => RCheck_any w a len cap N l h hN r hk
  have key : r = 8 ∨ (r = 0 ∧ 500 < N) ∨ (r = 0 ∧ ¬ 500 < N ∧ (12 : Int) < ll) ∨ (r = 0 ∧ ¬ 500 < N ∧ ¬ (12 : Int) < ll ∧ lk ≠ ll) := by omega
  clear h hr hN hk
  rcases key with rfl | ⟨rfl, h⟩ | ⟨rfl, h1, h2⟩ | ⟨rfl, h1, h2, h3⟩
  · go_enter Try.func5, Try.ntmps5
    go_wp2_with (first
      | (go_at_call 21; ((with_reducible refine (hck.out _ ?h1).mono ?_)); (case h1 => exact RE0_f.out); rintro e w1 ⟨rfl, hb1⟩; have hWE1 := Go.Lib.hid hWE0.out; have hW1 := Go.Lib.hid (hWE1.out.trans (hb1.mono hWE1.out.size)); have R1_f := Go.Lib.hid (RE0_f.out.below hb1 (Nat.le_refl _)); have BE1_f := Go.Lib.hid BE0_f.out; have B1_f := Go.Lib.hid (BE1_f.out.below hb1 BE1_f.out.lt); obtain ⟨k1f0, k1f1, k1f2, k1f3⟩ := B1_f.out.cells; clear hb1)
      | (go_at_call 14; refine (alive7_ok _).mono ?_; rintro e w2 ⟨rfl, hb2⟩; have hWE2 := Go.Lib.hid hW1.out; have hW2 := Go.Lib.hid (hWE2.out.trans (hb2.mono hWE2.out.size)); clear hb2))
    go_ret
    exact ⟨rfl, hW2.out⟩
  · go_enter Try.func5, Try.ntmps5
    go_wp2_with (first
      | (go_at_call 21; ((with_reducible refine (hck.out _ ?h1).mono ?_)); (case h1 => exact RE0_f.out); rintro e w1 ⟨rfl, hb1⟩; have hWE1 := Go.Lib.hid hWE0.out; have hW1 := Go.Lib.hid (hWE1.out.trans (hb1.mono hWE1.out.size)); have R1_f := Go.Lib.hid (RE0_f.out.below hb1 (Nat.le_refl _)); have BE1_f := Go.Lib.hid BE0_f.out; have B1_f := Go.Lib.hid (BE1_f.out.below hb1 BE1_f.out.lt); obtain ⟨k1f0, k1f1, k1f2, k1f3⟩ := B1_f.out.cells; clear hb1)
      | (go_at_call 14; refine (alive7_ok _).mono ?_; rintro e w2 ⟨rfl, hb2⟩; have hWE2 := Go.Lib.hid hW1.out; have hW2 := Go.Lib.hid (hWE2.out.trans (hb2.mono hWE2.out.size)); clear hb2))
    go_ret
    exact ⟨rfl, hW2.out⟩
  · have d1 : decide ((500 : Int) < N) = false := decide_eq_false h1
    go_enter Try.func5, Try.ntmps5
    go_wp2_with (first
      | (go_at_call 21; ((with_reducible refine (hck.out _ ?h1).mono ?_)); (case h1 => exact RE0_f.out); rintro e w1 ⟨rfl, hb1⟩; have hWE1 := Go.Lib.hid hWE0.out; have hW1 := Go.Lib.hid (hWE1.out.trans (hb1.mono hWE1.out.size)); have R1_f := Go.Lib.hid (RE0_f.out.below hb1 (Nat.le_refl _)); have BE1_f := Go.Lib.hid BE0_f.out; have B1_f := Go.Lib.hid (BE1_f.out.below hb1 BE1_f.out.lt); obtain ⟨k1f0, k1f1, k1f2, k1f3⟩ := B1_f.out.cells; clear hb1)
      | (go_at_call 14; refine (alive7_ok _).mono ?_; rintro e w2 ⟨rfl, hb2⟩; have hWE2 := Go.Lib.hid hW1.out; have hW2 := Go.Lib.hid (hWE2.out.trans (hb2.mono hWE2.out.size)); clear hb2))
    go_ret
    exact ⟨rfl, hW2.out⟩
  · have d1 : decide ((500 : Int) < N) = false := decide_eq_false h1
    have d2 : decide ((12 : Int) < ll) = false := decide_eq_false h2
    have d3 : ((lk : Int) == (ll : Int)) = false := by rw [beq_eq_false_iff_ne]; omega
    have d4 : (lk == ll) = false := by rw [beq_eq_false_iff_ne]; exact h3
    have d5 : ¬ lk = ll := h3
    clear h3
    go_enter Try.func5, Try.ntmps5
    go_wp2_with (first
      | (go_at_call 21; ((with_reducible refine (hck.out _ ?h1).mono ?_)); (case h1 => exact RE0_f.out); rintro e w1 ⟨rfl, hb1⟩; have hWE1 := Go.Lib.hid hWE0.out; have hW1 := Go.Lib.hid (hWE1.out.trans (hb1.mono hWE1.out.size)); have R1_f := Go.Lib.hid (RE0_f.out.below hb1 (Nat.le_refl _)); have BE1_f := Go.Lib.hid BE0_f.out; have B1_f := Go.Lib.hid (BE1_f.out.below hb1 BE1_f.out.lt); obtain ⟨k1f0, k1f1, k1f2, k1f3⟩ := B1_f.out.cells; clear hb1)
      | (go_at_call 14; refine (alive7_ok _).mono ?_; rintro e w2 ⟨rfl, hb2⟩; have hWE2 := Go.Lib.hid hW1.out; have hW2 := Go.Lib.hid (hWE2.out.trans (hb2.mono hWE2.out.size)); clear hb2))
    go_ret
    exact ⟨rfl, hW2.out⟩

set_option maxRecDepth 100000 in
set_option maxHeartbeats 16000000 in
theorem riceBack_in (W : World) (a : Option Addr) (len cap : Nat) (F : List Bool) (hr : Row .u8 W a len cap (pack F)) (hF : F.length ≤ 500) (al : Option Addr) (ll cl : Nat) (l : List Int) (hl : Row .u32 W al ll cl l) (ak : Option Addr) (ck : Nat) (ks : List Int) (hks : Row .i64 W ak ll ck ks) (h20 : ll ≤ 12)
    (J : Nat) (m : List (Nat × Nat)) (hJ : m.length = J) (hJl : J ≤ ll) (hm : ∀ k, k < J → l.getD k 0 = (((m.getD k (0, 0)).1 : Nat) : Int) ∧ ks.getD k 0 = (((m.getD k (0, 0)).2 : Nat) : Int)) (hm48 : ∀ x ∈ m, x.1 < 4294967296 ∧ x.2 ≤ 24) (hbad : J < ll → ks.getD J 0 < 0 ∨ 24 < ks.getD J 0) :
    Calls Try.prog 5 #[.agg #[.slice a len cap, .int .i64 F.length], .slice al ll cl, .slice ak ll ck] W fun e w' => e = .returned (.bool true) ∧ Below W.heap.size W w' := by
  have hWE0 := Go.Lib.hid (below1 W (.cells #[.slice a len cap, .int .i64 F.length] 28))
  have BE0_f := Go.Lib.hid (box1 W (.slice a len cap) F.length)
  have RE0_f := Go.Lib.hid (hr.below hWE0.out (Nat.le_refl _))
  obtain ⟨N, hN⟩ : ∃ N, N = F.length := ⟨_, rfl⟩
  have hlen : len = (N + 7) / 8 := by have := hr.hlen; rw [pack_len] at this; omega
  have hlen' := Go.Lib.hid hlen
  have hrun48 : Hid (∀ k, k < J → (m.getD k (0, 0)).1 < 4294967296 ∧ (m.getD k (0, 0)).2 ≤ 24) := Go.Lib.hid fun k hk => hm48 _ (by rw [show m.getD k (0, 0) = m[k] by simp [List.getD, show k < m.length by omega]]; exact List.getElem_mem _)
  have hck : Hid (∀ w, Row .u8 w a len cap (pack F) → Calls Try.prog 21 #[.agg #[.slice a len cap, .int .i64 N]] w fun e W' => e = .returned (.int .i64 0) ∧ Below w.heap.size w W') := Go.Lib.hid fun w h => by
    rw [hN]
    exact RCheck_any w a len cap F.length (pack F) h (bounds_of_len (by omega)) 0 (.inl ⟨⟨F, rfl, by omega, rfl⟩, rfl⟩)
  have hsize : Hid (∀ k, k ≤ J → (F ++ codes (m.take k)).length ≤ 500 + 80 * 12) := Go.Lib.hid fun k hk => by
    have := codes_len_le (m.take k) (fun x hx => (hm48 x (List.mem_of_mem_take hx)).2)
    rw [List.length_take] at this
    rw [List.length_append]
    have : min k m.length ≤ 12 := by omega
    omega
  have hl' := Go.Lib.hid hl
  have hk' := Go.Lib.hid hks
  have hm' := Go.Lib.hid hm
  have hbad' := Go.Lib.hid hbad
  have hJ' := Go.Lib.hid hJ
  have hN' := Go.Lib.hid hN
  have d1 : decide ((500 : Int) < N) = false := decide_eq_false (by omega)
  have d2 : decide ((12 : Int) < ll) = false := decide_eq_false (by omega)
  have hN5 : (N : Int) ≤ 500 := by omega
  have hl20 : (ll : Int) ≤ 12 := by omega
  rw [← hN] at hWE0 BE0_f RE0_f ⊢
  clear hr hl hks hm hbad hJ hF hN hm48 hlen
  go_enter Try.func5, Try.ntmps5
  go_wp2_with (first
    | (go_at_call 21; ((with_reducible refine (hck.out _ ?h1).mono ?_)); (case h1 => exact RE0_f.out); rintro e w1 ⟨rfl, hb1⟩; have hWE1 := Go.Lib.hid hWE0.out; have hW1 := Go.Lib.hid (hWE1.out.trans (hb1.mono hWE1.out.size)); have R1_f := Go.Lib.hid (RE0_f.out.below hb1 (Nat.le_refl _)); have BE1_f := Go.Lib.hid BE0_f.out; have B1_f := Go.Lib.hid (BE1_f.out.below hb1 BE1_f.out.lt); obtain ⟨k1f0, k1f1, k1f2, k1f3⟩ := B1_f.out.cells; clear hb1))
  have R1_f' := R1_f
  clear hWE0 RE0_f BE0_f hWE1
  have hbx0 := Go.Lib.hid (box1 w1 (.slice a len cap) N)
  have hbf0 := Go.Lib.hid (B1_f.out.alloc (.cells #[.slice a len cap, .int .i64 N] 28))
  have hbl0 := Go.Lib.hid (hW1.out.alloc hW1.out.size (.cells #[.slice a len cap, .int .i64 N] 28))
  have hrb0 := Go.Lib.hid (R1_f.out.below (below1 w1 (.cells #[.slice a len cap, .int .i64 N] 28)) (Nat.le_refl _))
  have hxb : W.heap.size < w1.heap.size := B1_f.out.lt
  obtain ⟨w2, hw2⟩ : ∃ w2, w2 = w1.alloc (.cells #[.slice a len cap, .int .i64 N] 28) := ⟨_, rfl⟩
  obtain ⟨xb, hxbe⟩ : ∃ xb, xb = w1.heap.size := ⟨_, rfl⟩
  rw [← hw2, ← hxbe] at hbx0
  rw [← hw2] at hbf0 hbl0 hrb0
  rw [← hxbe] at hxb
  try rw [← hw2]
  try rw [← hxbe]
  clear hw2 hxbe R1_f R1_f' hW1 B1_f k1f0 k1f1 k1f2 k1f3
  go_loopw [8] (fun i wr => ∃ (k : Nat) (au : Option Addr) (cu : Nat) (M L : Nat), k ≤ J ∧ i = .int .i64 k ∧ M = (F ++ codes (m.take k)).length ∧ L = (M + 7) / 8 ∧ BoxAt wr W.heap.size (.slice a len cap) N ∧ BoxAt wr xb (.slice au L cu) M ∧
    Row .u8 wr au L cu (pack (F ++ codes (m.take k))) ∧ Below W.heap.size W wr) (fun i _ => J - (intOf i).toNat)
  case atStart => exact ⟨0, a, cap, N, len, Nat.zero_le _, rfl, by simp [codes, hN'.out], hlen'.out, hbf0.out, hbx0.out, by simpa [codes] using hrb0.out, hbl0.out⟩
  case round =>
    obtain ⟨k, au, cu, M, L, hk, rfl, hM, hL, hbf, hbx, hrb, hbl⟩ := hrel
    obtain ⟨e0, e1, e2, e3⟩ := hbf.cells
    obtain ⟨x0, x1, x2, x3⟩ := hbx.cells
    have hbf' := Go.Lib.hid hbf
    have hbx' := Go.Lib.hid hbx
    have hrb' := Go.Lib.hid hrb
    have hbl' := Go.Lib.hid hbl
    have hM' := Go.Lib.hid hM
    have hL' := Go.Lib.hid hL
    have hMb : M ≤ 1460 := by rw [hM]; exact hsize.out k hk
    have hrl := hl'.out.below hbl (Nat.le_refl _)
    have hrk := hk'.out.below hbl (Nat.le_refl _)
    have hrl' := Go.Lib.hid hrl
    have hrk' := Go.Lib.hid hrk
    by_cases hlt : k < ll
    · obtain ⟨bl, ol, rfl, hblt, hc⟩ := hrl.cells (by omega)
      obtain ⟨bk, ok, rfl, hbkt, hkc⟩ := hrk.cells (by omega)
      have hcell := hc k hlt
      have kcell := hkc k hlt
      have hlt' : (k : Int) < ll := by omega
      by_cases hgood : k < J
      · obtain ⟨hv32, hn24⟩ := hrun48.out k hgood
        rw [(hm'.out k hgood).1] at hcell
        rw [(hm'.out k hgood).2] at kcell
        have hts := codes_take_succ m (show k < m.length by rw [hJ'.out]; exact hgood)
        obtain ⟨v, hv⟩ : ∃ v, v = (m.getD k (0, 0)).1 := ⟨_, rfl⟩
        obtain ⟨n, hn⟩ : ∃ n, n = (m.getD k (0, 0)).2 := ⟨_, rfl⟩
        rw [← hv] at hcell hv32 hts
        rw [← hn] at kcell hn24 hts
        obtain ⟨A, hA⟩ : ∃ A, A = riceLen v n := ⟨_, rfl⟩
        obtain ⟨M1, hM1⟩ : ∃ M1, M1 = M + A := ⟨_, rfl⟩
        obtain ⟨L1, hL1⟩ : ∃ L1, L1 = (M1 + 7) / 8 := ⟨_, rfl⟩
        have hsz1 : (F ++ codes (m.take (k + 1))).length = M1 := by
          rw [hts, ← List.append_assoc, List.length_append, riceB_len, ← hM, ← hA, hM1]
        have hA80 : A ≤ 80 := by rw [hA]; exact riceLen_le v hn24
        have hAn : n + 1 ≤ A := by rw [hA]; exact riceLen_ge v hn24
        have hwr : Hid (∀ w, Row .u8 w au L cu (pack (F ++ codes (m.take k))) → Calls Try.prog 10 #[.agg #[.slice au L cu, .int .i64 M], .int .u32 v, .int .i64 n] w fun e W' => ∃ b c, e = .returned (.tuple #[.agg #[.slice b L1 c, .int .i64 M1], .int .i64 0]) ∧ Row .u8 W' b L1 c (pack (F ++ codes (m.take (k + 1)))) ∧ Below w.heap.size w W') := Go.Lib.hid fun w h => by
          have := PWrite_ok w au L cu (F ++ codes (m.take k)) v n h (by rw [← hM, ← hA]; omega) hv32 hn24
          rw [List.append_assoc, ← hts, ← hM, ← hA, ← hM1, ← hL1] at this
          exact this
        have hle : Hid (∀ w, Calls Try.prog 9 #[.int .u32 v, .int .i64 n] w fun r W' => r = .returned (.tuple #[.int .i64 A, .int .i64 0]) ∧ w = W') := Go.Lib.hid fun w => by rw [hA]; exact PLength_ok w v n hv32 hn24
        have hsum : (M : Int) + (A : Int) = (M1 : Int) := by omega
        have hM1b : M1 ≤ 1540 := by omega
        have hsz1' := Go.Lib.hid hsz1
        have hL1' := Go.Lib.hid hL1
        have hn' : (n : Int) ≤ 24 := by omega
        have hnv := Go.Lib.hid hv
        have hnk := Go.Lib.hid hn
        have g1 : decide ((n : Int) < 0) = false := decide_eq_false (by omega)
        have g2 : decide ((24 : Int) < n) = false := decide_eq_false (by omega)
        have g3 : decide ((A : Int) < (n : Int) + 1) = false := decide_eq_false (by omega)
        have g4 : decide ((80 : Int) < A) = false := decide_eq_false (by omega)
        clear hbf hbx hrb hbl hM hL hrl hrk hc hkc hn hv hA hM1 hL1 hsz1 hts
        go_wp2
        have hCr : Below wr.heap.size wr wr.drew := (Below.refl _ _).drew
        refine wp_region_ord2 (fun w' => Below wr.heap.size wr w') 9 13 [(0, 1), (1, 0), (2, 0), (3, 0), (4, 1), (5, 0), (6, 0), (7, 0), (8, 1), (9, 3), (10, 0), (11, 0), (12, 0), (13, 3), (14, 3), (15, 0)] [(0, 2), (1, 0), (2, 0), (3, 0), (4, 2), (5, 0), (6, 0), (7, 0), (8, 2), (13, 3), (9, 3), (10, 0), (11, 0), (12, 0), (14, 3), (15, 0)] (by kernel_rfl) (by decide) (by kernel_rfl) (by kernel_rfl) ?hC0 ?_ ?_
        case hC0 => exact hCr
        · simp only [pick, nth]
          (repeat (first | (apply wpW_light; (case h => (intro wa; (first | (go_big_quiet_skip; exact wpQuiet_nil rfl) | (go_big_quiet_want; go_big_quiet_op; go_big_quiet_on; exact wpQuiet_nil rfl))))) | (apply wpW_here; (case h => (first | (go_big_quiet_skip; exact wpQuiet_nil rfl) | (go_big_quiet_want; go_big_quiet_op; go_big_quiet_on; exact wpQuiet_nil rfl)))) | (apply wpW_held; (case hC => assumption); (case h => (intro wa hCa; simp only [] at hCa; (first | (go_big_quiet_skip; exact wpQuiet_nil rfl) | (go_big_quiet_want; go_big_quiet_op; go_big_quiet_on; exact wpQuiet_nil rfl)))))))
          refine wpW_act (fun QQ hQQ => ?_) (by rfl)
          go_wp2_with (go_at_call 10; with_reducible refine (hwr.out _ ?h1).mono ?_; (case h1 => exact hrb'.out.below hCr (Nat.le_refl _)); rintro e w3 ⟨b3, cp3, rfl, hr3, hb3⟩; have hC3 := hCr.trans (hb3.mono hCr.size); have hr3' := Go.Lib.hid hr3; clear hr3 hb3)
          (refine hQQ _ _ ?hCn ?_; (case hCn => exact hC3); clear hQQ QQ)
          (repeat (first | (apply wpW_light; (case h => (intro wa; (first | (go_big_quiet_skip; exact wpQuiet_nil rfl) | (go_big_quiet_want; go_big_quiet_op; go_big_quiet_on; exact wpQuiet_nil rfl))))) | (apply wpW_here; (case h => (first | (go_big_quiet_skip; exact wpQuiet_nil rfl) | (go_big_quiet_want; go_big_quiet_op; go_big_quiet_on; exact wpQuiet_nil rfl)))) | (apply wpW_held; (case hC => assumption); (case h => (intro wa hCa; simp only [] at hCa; (first | (go_big_quiet_skip; exact wpQuiet_nil rfl) | (go_big_quiet_want; go_big_quiet_op; go_big_quiet_on; exact wpQuiet_nil rfl)))))))
          refine wpW_act (fun QQ hQQ => ?_) (by rfl)
          go_wp2
          (refine hQQ _ _ ?hCn ?_; (case hCn => exact hC3.alloc hC3.size _); clear hQQ QQ)
          (repeat (first | (apply wpW_light; (case h => (intro wa; (first | (go_big_quiet_skip; exact wpQuiet_nil rfl) | (go_big_quiet_want; go_big_quiet_op; go_big_quiet_on; exact wpQuiet_nil rfl))))) | (apply wpW_here; (case h => (first | (go_big_quiet_skip; exact wpQuiet_nil rfl) | (go_big_quiet_want; go_big_quiet_op; go_big_quiet_on; exact wpQuiet_nil rfl)))) | (apply wpW_held; (case hC => assumption); (case h => (intro wa hCa; simp only [] at hCa; (first | (go_big_quiet_skip; exact wpQuiet_nil rfl) | (go_big_quiet_want; go_big_quiet_op; go_big_quiet_on; exact wpQuiet_nil rfl)))))))
          refine wpW_act (fun QQ hQQ => ?_) (by rfl)
          go_wp2
          (refine hQQ _ _ ?hCn ?_; (case hCn => exact hC3.alloc hC3.size _); clear hQQ QQ)
          (repeat (first | (apply wpW_light; (case h => (intro wa; (first | (go_big_quiet_skip; exact wpQuiet_nil rfl) | (go_big_quiet_want; go_big_quiet_op; go_big_quiet_on; exact wpQuiet_nil rfl))))) | (apply wpW_here; (case h => (first | (go_big_quiet_skip; exact wpQuiet_nil rfl) | (go_big_quiet_want; go_big_quiet_op; go_big_quiet_on; exact wpQuiet_nil rfl)))) | (apply wpW_held; (case hC => assumption); (case h => (intro wa hCa; simp only [] at hCa; (first | (go_big_quiet_skip; exact wpQuiet_nil rfl) | (go_big_quiet_want; go_big_quiet_op; go_big_quiet_on; exact wpQuiet_nil rfl)))))))
          refine wpW_nil ?_
          have hblz : Below W.heap.size W (w3.alloc (.cells #[.slice b3 L1 cp3, .int .i64 M1] 28)) := hbl'.out.trans ((hC3.alloc hC3.size (.cells #[.slice b3 L1 cp3, .int .i64 M1] 28)).mono hbl'.out.size)
          have hbfz : BoxAt (w3.alloc (.cells #[.slice b3 L1 cp3, .int .i64 M1] 28)) W.heap.size (.slice a len cap) N := (hbf'.out.below hC3 hbf'.out.lt).alloc _
          have hbxz : BoxAt (w3.alloc (.cells #[.slice b3 L1 cp3, .int .i64 M1] 28)) xb (.slice au L cu) M := (hbx'.out.below hC3 hbx'.out.lt).alloc _
          have hrlz : Row .u32 (w3.alloc (.cells #[.slice b3 L1 cp3, .int .i64 M1] 28)) (some ⟨bl, ol, none⟩) ll cl l := hrl'.out.below (hC3.alloc hC3.size (.cells #[.slice b3 L1 cp3, .int .i64 M1] 28)) (Nat.le_refl _)
          have hrkz : Row .i64 (w3.alloc (.cells #[.slice b3 L1 cp3, .int .i64 M1] 28)) (some ⟨bk, ok, none⟩) ll ck ks := hrk'.out.below (hC3.alloc hC3.size (.cells #[.slice b3 L1 cp3, .int .i64 M1] 28)) (Nat.le_refl _)
          have hrz : Row .u8 (w3.alloc (.cells #[.slice b3 L1 cp3, .int .i64 M1] 28)) b3 L1 cp3 (pack (F ++ codes (m.take (k + 1)))) := hr3'.out.below (below1 w3 _) (Nat.le_refl _)
          have hbnz : BoxAt (w3.alloc (.cells #[.slice b3 L1 cp3, .int .i64 M1] 28)) (w3.heap.size) (.slice b3 L1 cp3) M1 := box1 w3 (.slice b3 L1 cp3) M1
          obtain ⟨wz, hwz⟩ : ∃ wz, wz = w3.alloc (.cells #[.slice b3 L1 cp3, .int .i64 M1] 28) := ⟨_, rfl⟩
          obtain ⟨xn, hxn⟩ : ∃ xn, xn = w3.heap.size := ⟨_, rfl⟩
          have hxnW : W.heap.size < xn := by rw [hxn]; have := hbf'.out.lt; have := hC3.size; omega
          have hxnb : xb ≠ xn := by rw [hxn]; have := hbx'.out.lt; have := hC3.size; omega
          rw [← hwz] at hbfz hbxz hblz hrlz hrkz hrz hbnz ⊢
          rw [← hxn] at hbnz ⊢
          clear hwz hxn hC3 hr3' hCr hcell kcell 
          obtain ⟨q0, q1, q2, q3⟩ := hbfz.cells
          obtain ⟨y0, y1, y2, y3⟩ := hbxz.cells
          obtain ⟨p0, p1, p2, p3⟩ := hbnz.cells
          obtain ⟨blk3, ol3, heq3, hblt3, hc3⟩ := hrlz.cells (by omega)
          cases heq3
          obtain ⟨blk4, ol4, heq4, hblt4, hc4⟩ := hrkz.cells (by omega)
          cases heq4
          have hcell3 := hc3 k hlt
          rw [(hm'.out k hgood).1, ← hnv.out] at hcell3
          have hcell4 := hc4 k hlt
          rw [(hm'.out k hgood).2, ← hnk.out] at hcell4
          have hDz : ∀ n, Below wz.heap.size wz (wz.drewN n) := fun n => Below.drewN (Below.refl _ _) n
          have hbfz' := Go.Lib.hid hbfz
          have hbxz' := Go.Lib.hid hbxz
          have hblz' := Go.Lib.hid hblz
          have hrz' := Go.Lib.hid hrz
          have hDz' := Go.Lib.hid hDz
          clear hc3 hc4 hbfz hbxz hblz hrz hrlz hrkz hbnz hDz
          go_wp2
          go_quiet ((go_at_call 9; refine (hle.out _).mono ?_; rintro e w5 ⟨rfl, rfl⟩; exact ⟨rfl, _, rfl⟩))
          go_wp2
          have hbfq := hbfz'.out.below (hDz'.out nq) hbfz'.out.lt
          have hbxq := hbxz'.out.below (hDz'.out nq) hbxz'.out.lt
          have hblq := hblz'.out.trans ((hDz'.out nq).mono hblz'.out.size)
          have hrq := hrz'.out.below (hDz'.out nq) (Nat.le_refl _)
          go_roundw
          case rel =>
            refine ⟨k + 1, b3, cp3, M1, L1, by omega, by go_num, hsz1'.out.symm, hL1'.out, ?_, ?_, ?_, ?_⟩
            · exact (hbfq.other (p := ⟨xb, 0, none⟩) (Nat.ne_of_lt hxb) _).other (p := ⟨xb, 1, none⟩) (Nat.ne_of_lt hxb) _
            · exact hbxq.set _ _
            · exact (hrq.box hbxq 0 _).box (hbxq.set0 _) 1 _
            · exact (hblq.setCell (Nat.le_of_lt hxb) _).setCell (Nat.le_of_lt hxb) _
          case measure => (simp [intOf] <;> omega)
        · simp only [pick, nth]
          (repeat (first | (apply wpW_light; (case h => (intro wa; (first | (go_big_quiet_skip; exact wpQuiet_nil rfl) | (go_big_quiet_want; go_big_quiet_op; go_big_quiet_on; exact wpQuiet_nil rfl))))) | (apply wpW_here; (case h => (first | (go_big_quiet_skip; exact wpQuiet_nil rfl) | (go_big_quiet_want; go_big_quiet_op; go_big_quiet_on; exact wpQuiet_nil rfl)))) | (apply wpW_held; (case hC => assumption); (case h => (intro wa hCa; (have hxa := (hbx'.out.below hCa hbx'.out.lt).cells; obtain ⟨x0, x1, x2, x3⟩ := hxa; have hca := (Below.cell hCa (p := ⟨bl, ol + k, none⟩) hblt).trans hcell; have hka := (Below.cell hCa (p := ⟨bk, ok + k, none⟩) hbkt).trans kcell; clear hCa); (first | (go_big_quiet_skip; exact wpQuiet_nil rfl) | (go_big_quiet_want; go_big_quiet_op; go_big_quiet_on; exact wpQuiet_nil rfl)))))))
          refine wpW_act (fun QQ hQQ => ?_) (by rfl)
          go_wp2
          have hC9 : Below wr.heap.size wr (wr.drew.alloc (.cells #[.slice none 0 0, .int .i64 0] 28)) := hCr.alloc hCr.size _
          (refine hQQ _ _ ?hCn ?_; (case hCn => exact hC9); clear hQQ QQ)
          (repeat (first | (apply wpW_light; (case h => (intro wa; (first | (go_big_quiet_skip; exact wpQuiet_nil rfl) | (go_big_quiet_want; go_big_quiet_op; go_big_quiet_on; exact wpQuiet_nil rfl))))) | (apply wpW_here; (case h => (first | (go_big_quiet_skip; exact wpQuiet_nil rfl) | (go_big_quiet_want; go_big_quiet_op; go_big_quiet_on; exact wpQuiet_nil rfl)))) | (apply wpW_held; (case hC => assumption); (case h => (intro wa hCa; simp only [] at hCa; (first | (go_big_quiet_skip; exact wpQuiet_nil rfl) | (go_big_quiet_want; go_big_quiet_op; go_big_quiet_on; exact wpQuiet_nil rfl)))))))
          refine wpW_act (fun QQ hQQ => ?_) (by rfl)
          go_wp2_with (go_at_call 10; with_reducible refine (hwr.out _ ?h1).mono ?_; (case h1 => exact hrb'.out.below hC9 (Nat.le_refl _)); rintro e w3 ⟨b3, cp3, rfl, hr3, hb3⟩; have hC3 := hC9.trans (hb3.mono hC9.size); have hn3 : BoxAt w3 wr.heap.size (.slice none 0 0) 0 := (box1 wr.drew (.slice none 0 0) 0).below hb3 (by simp); obtain ⟨n30, n31, n32, n33⟩ := hn3.cells; have hn3' := Go.Lib.hid hn3; have hr3' := Go.Lib.hid hr3; clear hr3 hb3 hn3)
          (refine hQQ _ _ ?hCn ?_; (case hCn => exact hC3); clear hQQ QQ)
          (repeat (first | (apply wpW_light; (case h => (intro wa; (first | (go_big_quiet_skip; exact wpQuiet_nil rfl) | (go_big_quiet_want; go_big_quiet_op; go_big_quiet_on; exact wpQuiet_nil rfl))))) | (apply wpW_here; (case h => (first | (go_big_quiet_skip; exact wpQuiet_nil rfl) | (go_big_quiet_want; go_big_quiet_op; go_big_quiet_on; exact wpQuiet_nil rfl)))) | (apply wpW_held; (case hC => assumption); (case h => (intro wa hCa; simp only [] at hCa; (first | (go_big_quiet_skip; exact wpQuiet_nil rfl) | (go_big_quiet_want; go_big_quiet_op; go_big_quiet_on; exact wpQuiet_nil rfl)))))))
          refine wpW_act (fun QQ hQQ => ?_) (by rfl)
          go_wp2
          (refine hQQ _ _ ?hCn ?_; (case hCn => exact (hC3.setCell (Nat.le_refl _) _).setCell (Nat.le_refl _) _); clear hQQ QQ)
          (repeat (first | (apply wpW_light; (case h => (intro wa; (first | (go_big_quiet_skip; exact wpQuiet_nil rfl) | (go_big_quiet_want; go_big_quiet_op; go_big_quiet_on; exact wpQuiet_nil rfl))))) | (apply wpW_here; (case h => (first | (go_big_quiet_skip; exact wpQuiet_nil rfl) | (go_big_quiet_want; go_big_quiet_op; go_big_quiet_on; exact wpQuiet_nil rfl)))) | (apply wpW_held; (case hC => assumption); (case h => (intro wa hCa; simp only [] at hCa; (first | (go_big_quiet_skip; exact wpQuiet_nil rfl) | (go_big_quiet_want; go_big_quiet_op; go_big_quiet_on; exact wpQuiet_nil rfl)))))))
          refine wpW_nil ?_
          have hblz : Below W.heap.size W ((w3.setCell ⟨wr.heap.size, 0, none⟩ (.slice b3 L1 cp3)).setCell ⟨wr.heap.size, 1, none⟩ (.int .i64 M1)) := hbl'.out.trans (((hC3.setCell (p := ⟨wr.heap.size, 0, none⟩) (Nat.le_refl _) (.slice b3 L1 cp3)).setCell (p := ⟨wr.heap.size, 1, none⟩) (Nat.le_refl _) (.int .i64 M1)).mono hbl'.out.size)
          have hbfz : BoxAt ((w3.setCell ⟨wr.heap.size, 0, none⟩ (.slice b3 L1 cp3)).setCell ⟨wr.heap.size, 1, none⟩ (.int .i64 M1)) W.heap.size (.slice a len cap) N := ((hbf'.out.below hC3 hbf'.out.lt).other (p := ⟨wr.heap.size, 0, none⟩) (Nat.ne_of_lt hbf'.out.lt) _).other (p := ⟨wr.heap.size, 1, none⟩) (Nat.ne_of_lt hbf'.out.lt) _
          have hbxz : BoxAt ((w3.setCell ⟨wr.heap.size, 0, none⟩ (.slice b3 L1 cp3)).setCell ⟨wr.heap.size, 1, none⟩ (.int .i64 M1)) xb (.slice au L cu) M := ((hbx'.out.below hC3 hbx'.out.lt).other (p := ⟨wr.heap.size, 0, none⟩) (Nat.ne_of_lt hbx'.out.lt) _).other (p := ⟨wr.heap.size, 1, none⟩) (Nat.ne_of_lt hbx'.out.lt) _
          have hrlz : Row .u32 ((w3.setCell ⟨wr.heap.size, 0, none⟩ (.slice b3 L1 cp3)).setCell ⟨wr.heap.size, 1, none⟩ (.int .i64 M1)) (some ⟨bl, ol, none⟩) ll cl l := hrl'.out.below ((hC3.setCell (p := ⟨wr.heap.size, 0, none⟩) (Nat.le_refl _) (.slice b3 L1 cp3)).setCell (p := ⟨wr.heap.size, 1, none⟩) (Nat.le_refl _) (.int .i64 M1)) (Nat.le_refl _)
          have hrkz : Row .i64 ((w3.setCell ⟨wr.heap.size, 0, none⟩ (.slice b3 L1 cp3)).setCell ⟨wr.heap.size, 1, none⟩ (.int .i64 M1)) (some ⟨bk, ok, none⟩) ll ck ks := hrk'.out.below ((hC3.setCell (p := ⟨wr.heap.size, 0, none⟩) (Nat.le_refl _) (.slice b3 L1 cp3)).setCell (p := ⟨wr.heap.size, 1, none⟩) (Nat.le_refl _) (.int .i64 M1)) (Nat.le_refl _)
          have hrz : Row .u8 ((w3.setCell ⟨wr.heap.size, 0, none⟩ (.slice b3 L1 cp3)).setCell ⟨wr.heap.size, 1, none⟩ (.int .i64 M1)) b3 L1 cp3 (pack (F ++ codes (m.take (k + 1)))) := (hr3'.out.box hn3'.out 0 _).box (hn3'.out.set0 _) 1 _
          have hbnz : BoxAt ((w3.setCell ⟨wr.heap.size, 0, none⟩ (.slice b3 L1 cp3)).setCell ⟨wr.heap.size, 1, none⟩ (.int .i64 M1)) (wr.heap.size) (.slice b3 L1 cp3) M1 := hn3'.out.set _ _
          obtain ⟨wz, hwz⟩ : ∃ wz, wz = (w3.setCell ⟨wr.heap.size, 0, none⟩ (.slice b3 L1 cp3)).setCell ⟨wr.heap.size, 1, none⟩ (.int .i64 M1) := ⟨_, rfl⟩
          obtain ⟨xn, hxn⟩ : ∃ xn, xn = wr.heap.size := ⟨_, rfl⟩
          have hxnW : W.heap.size < xn := by rw [hxn]; have := hbf'.out.lt; omega
          have hxnb : xb ≠ xn := by rw [hxn]; have := hbx'.out.lt; omega
          rw [← hwz] at hbfz hbxz hblz hrlz hrkz hrz hbnz ⊢
          rw [← hxn] at hbnz ⊢
          clear hwz hxn hC3 hr3' hCr hcell kcell hn3' n30 n31 n32 n33 hC9
          obtain ⟨q0, q1, q2, q3⟩ := hbfz.cells
          obtain ⟨y0, y1, y2, y3⟩ := hbxz.cells
          obtain ⟨p0, p1, p2, p3⟩ := hbnz.cells
          obtain ⟨blk3, ol3, heq3, hblt3, hc3⟩ := hrlz.cells (by omega)
          cases heq3
          obtain ⟨blk4, ol4, heq4, hblt4, hc4⟩ := hrkz.cells (by omega)
          cases heq4
          have hcell3 := hc3 k hlt
          rw [(hm'.out k hgood).1, ← hnv.out] at hcell3
          have hcell4 := hc4 k hlt
          rw [(hm'.out k hgood).2, ← hnk.out] at hcell4
          have hDz : ∀ n, Below wz.heap.size wz (wz.drewN n) := fun n => Below.drewN (Below.refl _ _) n
          have hbfz' := Go.Lib.hid hbfz
          have hbxz' := Go.Lib.hid hbxz
          have hblz' := Go.Lib.hid hblz
          have hrz' := Go.Lib.hid hrz
          have hDz' := Go.Lib.hid hDz
          clear hc3 hc4 hbfz hbxz hblz hrz hrlz hrkz hbnz hDz
          go_wp2
          go_quiet ((go_at_call 9; refine (hle.out _).mono ?_; rintro e w5 ⟨rfl, rfl⟩; exact ⟨rfl, _, rfl⟩))
          go_wp2
          have hbfq := hbfz'.out.below (hDz'.out nq) hbfz'.out.lt
          have hbxq := hbxz'.out.below (hDz'.out nq) hbxz'.out.lt
          have hblq := hblz'.out.trans ((hDz'.out nq).mono hblz'.out.size)
          have hrq := hrz'.out.below (hDz'.out nq) (Nat.le_refl _)
          go_roundw
          case rel =>
            refine ⟨k + 1, b3, cp3, M1, L1, by omega, by go_num, hsz1'.out.symm, hL1'.out, ?_, ?_, ?_, ?_⟩
            · exact (hbfq.other (p := ⟨xb, 0, none⟩) (Nat.ne_of_lt hxb) _).other (p := ⟨xb, 1, none⟩) (Nat.ne_of_lt hxb) _
            · exact hbxq.set _ _
            · exact (hrq.box hbxq 0 _).box (hbxq.set0 _) 1 _
            · exact (hblq.setCell (Nat.le_of_lt hxb) _).setCell (Nat.le_of_lt hxb) _
          case measure => (simp [intOf] <;> omega)
      · obtain rfl : k = J := by omega
        have hb1 := hbad'.out hlt
        obtain ⟨x, hx⟩ : ∃ x, x = ks.getD k 0 := ⟨_, rfl⟩
        rw [← hx] at kcell hb1
        have key : x < 0 ∨ (¬ x < 0 ∧ 24 < x) := by omega
        clear hbf hbx hrb hbl hM hL hrl hrk hc hkc hx hb1 hcell
        rcases key with h | ⟨h, h'⟩
        all_goals
          go_wp2_with (go_at_call 14; refine (alive7_ok _).mono ?_; rintro e w5 ⟨rfl, hb5⟩)
          go_ret
          exact ⟨rfl, hbl'.out.trans (hb5.mono hbl'.out.size)⟩
    · obtain rfl : k = ll := by omega
      obtain rfl : J = k := by omega
      have hall : m.take J = m := by rw [List.take_of_length_le (by rw [hJ'.out]; exact Nat.le_refl _)]
      rw [hall] at hrb hM
      have hrb' := Go.Lib.hid hrb
      have hM' := Go.Lib.hid hM
      obtain ⟨B, hB⟩ : ∃ B, B = F ++ codes m := ⟨_, rfl⟩
      rw [← hB] at hM hrb hM' hrb'
      have hrd : Hid (∀ w j, j < J → Row .u8 w au L cu (pack B) → Calls Try.prog 11 #[.agg #[.slice au L cu, .int .i64 M], .int .i64 ((F ++ codes (m.take j)).length : Nat), .int .i64 ((m.getD j (0, 0)).2 : Nat)] w fun e W' => e = .returned (.tuple #[.int .u32 ((m.getD j (0, 0)).1 : Nat), .int .i64 ((F ++ codes (m.take (j + 1))).length : Nat), .int .i64 0]) ∧ Below w.heap.size w W') := Go.Lib.hid fun w j hj h => by
        have hjm : j < m.length := by rw [hJ'.out]; exact hj
        obtain ⟨hv32, hn24⟩ := hrun48.out j hj
        have e := read_rice (F ++ codes (m.take j)) (codes (m.drop (j + 1))) hv32 (k := (m.getD j (0, 0)).2)
        have e2 : F ++ codes (m.take j) ++ riceB (m.getD j (0, 0)).1 (m.getD j (0, 0)).2 ++ codes (m.drop (j + 1)) = B := by
          rw [hB, List.append_assoc, List.append_assoc, ← List.append_assoc (codes _), ← codes_split m hjm]
        rw [e2] at e
        have e3 : (F ++ codes (m.take (j + 1))).length = (F ++ codes (m.take j)).length + riceLen (m.getD j (0, 0)).1 (m.getD j (0, 0)).2 := by
          rw [codes_take_succ m hjm, ← List.append_assoc, List.length_append, riceB_len]
        have hle : (F ++ codes (m.take j)).length ≤ B.length := by
          rw [← e2]; simp only [List.length_append]; omega
        have := PRead_in w au L cu B _ _ h (by omega) hle hn24 _ _ _ e
        rw [← hM, ← e3] at this
        exact this
      have hMe : Hid (M = (F ++ codes (m.take J)).length) := Go.Lib.hid (by rw [hall, ← hB]; exact hM)
      have h0 : Hid ((F ++ codes (m.take 0)).length = N) := Go.Lib.hid (by simp [codes, hN'.out])
      clear hbf hbx hrb hbl hM hL hrl hrk hB hall hrl' hrk'
      obtain ⟨wo, hwo⟩ : ∃ wo, wo = wr := ⟨_, rfl⟩
      subst hwo
      go_wp2
      go_loopw [14, 15] (fun at_ i w' => ∃ (j p : Nat), j ≤ J ∧ p = (F ++ codes (m.take j)).length ∧ at_ = .int .i64 p ∧ i = .int .i64 j ∧ Below wo.heap.size wo w') (fun _ i _ => J - (intOf i).toNat)
      case atStart => exact ⟨0, N, Nat.zero_le _, h0.out.symm, rfl, rfl, Below.refl _ _⟩
      case round =>
        obtain ⟨j, p, hj, hp, rfl, rfl, hb⟩ := hrel
        have hbf2 := hbf'.out.below hb hbf'.out.lt
        have hbx2 := hbx'.out.below hb hbx'.out.lt
        have hr2 := Go.Lib.hid (hrb'.out.below hb (Nat.le_refl _))
        obtain ⟨e0, e1, e2, e3⟩ := hbf2.cells
        obtain ⟨x0, x1, x2, x3⟩ := hbx2.cells
        have hb' := Go.Lib.hid hb
        have hbl2 := hbl'.out.trans (hb.mono hbl'.out.size)
        have hpb : p ≤ 1460 := by rw [hp]; exact hsize.out j hj
        by_cases hlt : j < J
        · obtain ⟨blk, ol, rfl, hblt, hc⟩ := (hl'.out.below hbl2 (Nat.le_refl _)).cells (by omega)
          obtain ⟨bk, ok, rfl, hbkt, hkc⟩ := (hk'.out.below hbl2 (Nat.le_refl _)).cells (by omega)
          have hcell := hc j hlt
          rw [(hm'.out j hlt).1] at hcell
          have kcell := hkc j hlt
          rw [(hm'.out j hlt).2] at kcell
          have hrj := Go.Lib.hid (hrd.out wr.drew j hlt (hr2.out.below (Below.refl _ _).drew (Nat.le_refl _)))
          rw [← hp] at hrj
          have hqb := hsize.out (j + 1) hlt
          obtain ⟨q, hq⟩ : ∃ q, q = (F ++ codes (m.take (j + 1))).length := ⟨_, rfl⟩
          obtain ⟨v, hv⟩ : ∃ v, v = (m.getD j (0, 0)).1 := ⟨_, rfl⟩
          obtain ⟨n, hn⟩ : ∃ n, n = (m.getD j (0, 0)).2 := ⟨_, rfl⟩
          rw [← hq] at hrj hqb
          rw [← hv] at hrj hcell
          rw [← hn] at hrj kcell
          have hq' := Go.Lib.hid hq
          have hlt' : (j : Int) < J := by omega
          have hcell' := Go.Lib.hid hcell
          have hCd : Below wr.heap.size wr wr.drew := (Below.refl _ _).drew
          clear hbf2 hbx2 hb hbl2 hp hq hn hv hc hkc
          go_wp2
          refine wp_region_ord (fun _ => True) [(0, 1), (1, 0), (2, 0), (3, 0), (4, 0), (5, 1), (6, 3), (7, 0), (8, 0), (9, 0), (10, 0), (11, 0), (12, 0), (13, 0)] (by kernel_rfl) (by kernel_rfl) ?hC0 ?_
          case hC0 => trivial
          simp only [pick, nth]
          (repeat (first | (apply wpW_light; (case h => (intro wa; (first | (go_big_quiet_skip; exact wpQuiet_nil rfl) | (go_big_quiet_want; go_big_quiet_op; go_big_quiet_on; exact wpQuiet_nil rfl))))) | (apply wpW_here; (case h => (first | (go_big_quiet_skip; exact wpQuiet_nil rfl) | (go_big_quiet_want; go_big_quiet_op; go_big_quiet_on; exact wpQuiet_nil rfl)))) | (apply wpW_held; (case hC => assumption); (case h => (intro wa hCa; simp only [] at hCa; (first | (go_big_quiet_skip; exact wpQuiet_nil rfl) | (go_big_quiet_want; go_big_quiet_op; go_big_quiet_on; exact wpQuiet_nil rfl)))))))
          refine wpW_act (fun QQ hQQ => ?_) (by rfl)
          go_wp2_with (go_at_call 11; with_reducible refine hrj.out.mono ?_; rintro e w5 ⟨rfl, hb5⟩; have hcell5 := (Below.cell (hCd.trans (hb5.mono hCd.size)) (p := ⟨blk, ol + j, none⟩) (Nat.lt_of_lt_of_le hblt (Nat.le_refl _))).trans hcell'.out; have hb6 := Go.Lib.hid (hb'.out.trans ((hCd.trans (hb5.mono hCd.size)).mono hb'.out.size)); clear hb5)
          (refine hQQ _ _ ?hCn ?_; (case hCn => trivial); clear hQQ QQ)
          (repeat (first | (apply wpW_light; (case h => (intro wa; (first | (go_big_quiet_skip; exact wpQuiet_nil rfl) | (go_big_quiet_want; go_big_quiet_op; go_big_quiet_on; exact wpQuiet_nil rfl))))) | (apply wpW_here; (case h => (first | (go_big_quiet_skip; exact wpQuiet_nil rfl) | (go_big_quiet_want; go_big_quiet_op; go_big_quiet_on; exact wpQuiet_nil rfl)))) | (apply wpW_held; (case hC => assumption); (case h => (intro wa hCa; simp only [] at hCa; (first | (go_big_quiet_skip; exact wpQuiet_nil rfl) | (go_big_quiet_want; go_big_quiet_op; go_big_quiet_on; exact wpQuiet_nil rfl)))))))
          refine wpW_nil ?_
          go_wp2
          go_roundw
          case rel => exact ⟨j + 1, q, by omega, hq'.out, rfl, by go_num, hb6.out⟩
          case measure => (simp [intOf] <;> omega)
        · obtain rfl : j = J := by omega
          rw [← hMe.out] at hp
          subst hp
          have hW10 := Go.Lib.hid hbl2
          clear hbf2 hbx2 hb hbl2
          go_wp2_with (go_at_call 14; refine (alive7_ok _).mono ?_; rintro e w11 ⟨rfl, hb11⟩)
          go_ret
          exact ⟨rfl, hW10.out.trans (hb11.mono hW10.out.size)⟩

theorem riceBack_walk (ax0_0 : Option Addr) (lenx0_0 capx0_0 : Nat) (zx0_0 : List Int) (x0_1 : Int) (ax1 : Option Addr) (lenx1 capx1 : Nat) (zx1 : List Int) (ax2 : Option Addr) (lenx2 capx2 : Nat) (zx2 : List Int) (W : World) (wx0_0 : IsRow .u8 W ax0_0 lenx0_0 capx0_0 zx0_0) (wx0_1 : (Lit.int .i64 x0_1).wf = true) (wx1 : IsRow .u32 W ax1 lenx1 capx1 zx1) (wx2 : IsRow .i64 W ax2 lenx2 capx2 zx2) :
    Calls Try.prog 5 #[.agg #[.slice ax0_0 lenx0_0 capx0_0, .int .i64 x0_1], .slice ax1 lenx1 capx1, .slice ax2 lenx2 capx2] W fun e w' => e = .returned (.bool true) ∧ Below W.heap.size W w' := by
  have hr := Row.of_isRow wx0_0
  have hl := Row.of_isRow wx1
  have hk2 := Row.of_isRow wx2
  have hlm := Nat.le_trans hl.hcap hl.hmax
  have hkm := Nat.le_trans hk2.hcap hk2.hmax
  unfold maxLen at hlm hkm
  have hkk : ∃ r, chk (zx0_0.take lenx0_0) x0_1 r := by
    by_cases hv : Valid (zx0_0.take lenx0_0) x0_1
    · exact ⟨0, .inl ⟨hv, rfl⟩⟩
    · exact ⟨8, .inr ⟨hv, rfl⟩⟩
  obtain ⟨r, hk⟩ := hkk
  by_cases h : r = 8 ∨ (r = 0 ∧ (500 < x0_1 ∨ 12 < lenx1 ∨ lenx2 ≠ lenx1))
  · exact riceBack_out W _ _ _ _ _ _ _ _ _ _ _ (by omega) (by omega) hr wx0_1 r hk h
  · rcases hk with ⟨⟨B, hB1, hB2, hB3⟩, rfl⟩ | ⟨_, rfl⟩
    · rw [hB3] at hr
      rw [← hB1] at h ⊢
      obtain rfl : lenx2 = lenx1 := by omega
      obtain ⟨m, h1, h2, h3, h4⟩ := good_pairs (zx1.take lenx2) (zx2.take lenx2) (by rw [hl.hlen, hk2.hlen]) hl.wf
      rw [hl.hlen] at h1 h4
      exact riceBack_in W _ _ _ B hr (by omega) _ _ _ _ hl _ _ _ hk2 (by omega) m.length m rfl h1 h2 h3 h4
    · omega
end Go.Proofs.Ytahefkjgcdchlaa
