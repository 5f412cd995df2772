/- UnaryBack: runs behind each other are read as the numbers, in one way. -/
import Derived.Test.YtbegifpnbbpinaaUnaL
namespace Go.Proofs.Ytbegifpnbbpinaa
open Go.RowKit Cad

/-- the numbers ahead of the first one that has no run -/
theorem good_part : ∀ l : List Int, ∃ m : List Nat, m.length ≤ l.length ∧ (∀ k, k < m.length → l.getD k 0 = ((m.getD k 0 : Nat) : Int)) ∧ (∀ x ∈ m, x ≤ 48) ∧ (m.length < l.length → l.getD m.length 0 < 0 ∨ 48 < l.getD m.length 0)
  | [] => ⟨[], by simp, by simp, by simp, by simp⟩
  | x :: l => by
    by_cases hx : x < 0 ∨ 48 < x
    · exact ⟨[], by simp, by simp, by simp, fun _ => by simpa [List.getD] using hx⟩
    · obtain ⟨m, h1, h2, h3, h4⟩ := good_part l
      refine ⟨x.toNat :: m, by simpa using h1, fun k hk => ?_, fun y hy => ?_, fun h => ?_⟩
      · cases k with
        | zero => simp [List.getD]; omega
        | succ k => simpa [List.getD] using h2 k (by simpa using hk)
      · rcases List.mem_cons.1 hy with rfl | hy
        · omega
        · exact h3 y hy
      · simpa [List.getD] using h4 (by simpa using h)

set_option maxRecDepth 100000 in
theorem unaryBack_out (W : World) (a : Option Addr) (len cap : Nat) (l : List Int) (N : Int) (al : Option Addr) (ll cl : Nat) (hll : ll ≤ 9223372036854775807) (hr : Row .u8 W a len cap l) (hN : (Lit.int .i64 N).wf = true) (r : Int) (hk : chk l N r)
    (h : r = 8 ∨ (r = 0 ∧ (500 < N ∨ 20 < ll))) :
    Calls Try.prog 5 #[.agg #[.slice a len cap, .int .i64 N], .slice al ll cl] W fun e w' => e = .returned (.bool true) ∧ Below W.heap.size W w' := by
  have hWE0 := Go.Lib.hid (below1 W (.cells #[.slice a len cap, .int .i64 N] 27))
  have BE0_f := Go.Lib.hid (box1 W (.slice a len cap) N)
  have RE0_f := Go.Lib.hid (hr.below hWE0.out (Nat.le_refl _))
  have hck : Hid (∀ w, Row .u8 w a len cap l → Calls Try.prog 22 #[.agg #[.slice a len cap, .int .i64 N]] w fun e W' => e = .returned (.int .i64 r) ∧ Below w.heap.size w W') := Go.Lib.hid fun w h => RCheck_any w a len cap N l h hN r hk
  have key : r = 8 ∨ (r = 0 ∧ 500 < N) ∨ (r = 0 ∧ ¬ 500 < N ∧ (20 : Int) < ll) := by omega
  clear h hr hN hk
  rcases key with rfl | ⟨rfl, h⟩ | ⟨rfl, h1, h2⟩
  · go_enter Try.func5, Try.ntmps5
    go_wp2_with (first
      | (go_at_call 22; ((with_reducible refine (hck.out _ ?h1).mono ?_)); (case h1 => exact RE0_f.out); rintro e w1 ⟨rfl, hb1⟩; have hWE1 := Go.Lib.hid hWE0.out; have hW1 := Go.Lib.hid (hWE1.out.trans (hb1.mono hWE1.out.size)); have R1_f := Go.Lib.hid (RE0_f.out.below hb1 (Nat.le_refl _)); have BE1_f := Go.Lib.hid BE0_f.out; have B1_f := Go.Lib.hid (BE1_f.out.below hb1 BE1_f.out.lt); obtain ⟨k1f0, k1f1, k1f2, k1f3⟩ := B1_f.out.cells; clear hb1)
      | (go_at_call 15; refine (alive6_ok _).mono ?_; rintro e w2 ⟨rfl, hb2⟩; have hWE2 := Go.Lib.hid hW1.out; have hW2 := Go.Lib.hid (hWE2.out.trans (hb2.mono hWE2.out.size)); clear hb2))
    go_ret
    exact ⟨rfl, hW2.out⟩
  · go_enter Try.func5, Try.ntmps5
    go_wp2_with (first
      | (go_at_call 22; ((with_reducible refine (hck.out _ ?h1).mono ?_)); (case h1 => exact RE0_f.out); rintro e w1 ⟨rfl, hb1⟩; have hWE1 := Go.Lib.hid hWE0.out; have hW1 := Go.Lib.hid (hWE1.out.trans (hb1.mono hWE1.out.size)); have R1_f := Go.Lib.hid (RE0_f.out.below hb1 (Nat.le_refl _)); have BE1_f := Go.Lib.hid BE0_f.out; have B1_f := Go.Lib.hid (BE1_f.out.below hb1 BE1_f.out.lt); obtain ⟨k1f0, k1f1, k1f2, k1f3⟩ := B1_f.out.cells; clear hb1)
      | (go_at_call 15; refine (alive6_ok _).mono ?_; rintro e w2 ⟨rfl, hb2⟩; have hWE2 := Go.Lib.hid hW1.out; have hW2 := Go.Lib.hid (hWE2.out.trans (hb2.mono hWE2.out.size)); clear hb2))
    go_ret
    exact ⟨rfl, hW2.out⟩
  · have d1 : decide ((500 : Int) < N) = false := decide_eq_false h1
    go_enter Try.func5, Try.ntmps5
    go_wp2_with (first
      | (go_at_call 22; ((with_reducible refine (hck.out _ ?h1).mono ?_)); (case h1 => exact RE0_f.out); rintro e w1 ⟨rfl, hb1⟩; have hWE1 := Go.Lib.hid hWE0.out; have hW1 := Go.Lib.hid (hWE1.out.trans (hb1.mono hWE1.out.size)); have R1_f := Go.Lib.hid (RE0_f.out.below hb1 (Nat.le_refl _)); have BE1_f := Go.Lib.hid BE0_f.out; have B1_f := Go.Lib.hid (BE1_f.out.below hb1 BE1_f.out.lt); obtain ⟨k1f0, k1f1, k1f2, k1f3⟩ := B1_f.out.cells; clear hb1)
      | (go_at_call 15; refine (alive6_ok _).mono ?_; rintro e w2 ⟨rfl, hb2⟩; have hWE2 := Go.Lib.hid hW1.out; have hW2 := Go.Lib.hid (hWE2.out.trans (hb2.mono hWE2.out.size)); clear hb2))
    go_ret
    exact ⟨rfl, hW2.out⟩

set_option maxRecDepth 100000 in
set_option maxHeartbeats 8000000 in
theorem unaryBack_in (W : World) (a : Option Addr) (len cap : Nat) (F : List Bool) (hr : Row .u8 W a len cap (pack F)) (hF : F.length ≤ 500) (al : Option Addr) (ll cl : Nat) (l : List Int) (hl : Row .i64 W al ll cl l) (h20 : ll ≤ 20)
    (J : Nat) (m : List Nat) (hJ : m.length = J) (hJl : J ≤ ll) (hm : ∀ k, k < J → l.getD k 0 = ((m.getD k 0 : Nat) : Int)) (hm48 : ∀ x ∈ m, x ≤ 48) (hbad : J < ll → l.getD J 0 < 0 ∨ 48 < l.getD J 0) :
    Calls Try.prog 5 #[.agg #[.slice a len cap, .int .i64 F.length], .slice al ll cl] W fun e w' => e = .returned (.bool true) ∧ Below W.heap.size W w' := by
  have hWE0 := Go.Lib.hid (below1 W (.cells #[.slice a len cap, .int .i64 F.length] 27))
  have BE0_f := Go.Lib.hid (box1 W (.slice a len cap) F.length)
  have RE0_f := Go.Lib.hid (hr.below hWE0.out (Nat.le_refl _))
  obtain ⟨N, hN⟩ : ∃ N, N = F.length := ⟨_, rfl⟩
  have hlen : len = (N + 7) / 8 := by have := hr.hlen; rw [pack_len] at this; omega
  have hlen' := Go.Lib.hid hlen
  have hrun48 : Hid (∀ k, k < J → (m.getD k 0) ≤ 48) := Go.Lib.hid fun k hk => hm48 _ (by rw [show m.getD k 0 = m[k] by simp [List.getD, show k < m.length by omega]]; exact List.getElem_mem _)
  have hck : Hid (∀ w, Row .u8 w a len cap (pack F) → Calls Try.prog 22 #[.agg #[.slice a len cap, .int .i64 N]] w fun e W' => e = .returned (.int .i64 0) ∧ Below w.heap.size w W') := Go.Lib.hid fun w h => by
    rw [hN]
    exact RCheck_any w a len cap F.length (pack F) h (bounds_of_len (by omega)) 0 (.inl ⟨⟨F, rfl, by omega, rfl⟩, rfl⟩)
  have hsize : Hid (∀ k, k ≤ J → (F ++ runs (m.take k)).length ≤ 500 + 48 * 20) := Go.Lib.hid fun k hk => by
    have := runs_len_le (m.take k) (fun x hx => hm48 x (List.mem_of_mem_take hx))
    rw [List.length_take] at this
    rw [List.length_append]
    have : min k m.length ≤ 20 := by omega
    omega
  have hl' := Go.Lib.hid hl
  have hll := Go.Lib.hid hl.hlen
  have hm' := Go.Lib.hid hm
  have hbad' := Go.Lib.hid hbad
  have hJ' := Go.Lib.hid hJ
  have hN' := Go.Lib.hid hN
  have d1 : decide ((500 : Int) < N) = false := decide_eq_false (by omega)
  have d2 : decide ((20 : Int) < ll) = false := decide_eq_false (by omega)
  have hN5 : (N : Int) ≤ 500 := by omega
  have hl20 : (ll : Int) ≤ 20 := by omega
  rw [← hN] at hWE0 BE0_f RE0_f ⊢
  have hrf0 := Go.Lib.hid hr
  clear hr hl hm hbad hJ hF hN hm48 hlen
  go_enter Try.func5, Try.ntmps5
  go_wp2_with (first
    | (go_at_call 22; ((with_reducible refine (hck.out _ ?h1).mono ?_)); (case h1 => exact RE0_f.out); rintro e w1 ⟨rfl, hb1⟩; have hWE1 := Go.Lib.hid hWE0.out; have hW1 := Go.Lib.hid (hWE1.out.trans (hb1.mono hWE1.out.size)); have R1_f := Go.Lib.hid (RE0_f.out.below hb1 (Nat.le_refl _)); have BE1_f := Go.Lib.hid BE0_f.out; have B1_f := Go.Lib.hid (BE1_f.out.below hb1 BE1_f.out.lt); obtain ⟨k1f0, k1f1, k1f2, k1f3⟩ := B1_f.out.cells; clear hb1))
  have R1_f' := R1_f
  clear hWE0 RE0_f BE0_f hWE1
  have hbx0 := Go.Lib.hid (box1 w1 (.slice a len cap) N)
  have hbf0 := Go.Lib.hid (B1_f.out.alloc (.cells #[.slice a len cap, .int .i64 N] 27))
  have hbl0 := Go.Lib.hid (hW1.out.alloc hW1.out.size (.cells #[.slice a len cap, .int .i64 N] 27))
  have hrb0 := Go.Lib.hid (R1_f.out.below (below1 w1 (.cells #[.slice a len cap, .int .i64 N] 27)) (Nat.le_refl _))
  have hxb : W.heap.size < w1.heap.size := B1_f.out.lt
  obtain ⟨w2, hw2⟩ : ∃ w2, w2 = w1.alloc (.cells #[.slice a len cap, .int .i64 N] 27) := ⟨_, rfl⟩
  obtain ⟨xb, hxbe⟩ : ∃ xb, xb = w1.heap.size := ⟨_, rfl⟩
  rw [← hw2, ← hxbe] at hbx0
  rw [← hw2] at hbf0 hbl0 hrb0
  rw [← hxbe] at hxb
  try rw [← hw2]
  try rw [← hxbe]
  clear hw2 hxbe R1_f R1_f' hW1 B1_f k1f0 k1f1 k1f2 k1f3
  go_loopw [6] (fun i wr => ∃ (k : Nat) (au : Option Addr) (cu : Nat) (M L : Nat), k ≤ J ∧ i = .int .i64 k ∧ M = (F ++ runs (m.take k)).length ∧ L = (M + 7) / 8 ∧ BoxAt wr W.heap.size (.slice a len cap) N ∧ BoxAt wr xb (.slice au L cu) M ∧
    Row .u8 wr au L cu (pack (F ++ runs (m.take k))) ∧ Below W.heap.size W wr) (fun i _ => J - (intOf i).toNat)
  case atStart => exact ⟨0, a, cap, N, len, Nat.zero_le _, rfl, by simp [runs, hN'.out], hlen'.out, hbf0.out, hbx0.out, by simpa [runs] using hrb0.out, hbl0.out⟩
  case round =>
    obtain ⟨k, au, cu, M, L, hk, rfl, hM, hL, hbf, hbx, hrb, hbl⟩ := hrel
    obtain ⟨e0, e1, e2, e3⟩ := hbf.cells
    obtain ⟨x0, x1, x2, x3⟩ := hbx.cells
    have hbf' := Go.Lib.hid hbf
    have hbx' := Go.Lib.hid hbx
    have hrb' := Go.Lib.hid hrb
    have hbl' := Go.Lib.hid hbl
    have hM' := Go.Lib.hid hM
    have hL' := Go.Lib.hid hL
    have hMb : M ≤ 1460 := by rw [hM]; exact hsize.out k hk
    have hrl := hl'.out.below hbl (Nat.le_refl _)
    have hrl' := Go.Lib.hid hrl
    by_cases hlt : k < ll
    · obtain ⟨bl, ol, rfl, hblt, hc⟩ := hrl.cells (by omega)
      have hcell := hc k hlt
      have hlt' : (k : Int) < ll := by omega
      by_cases hgood : k < J
      · have hn48 := hrun48.out k hgood
        rw [hm'.out k hgood] at hcell
        have hts := runs_take_succ m (show k < m.length by rw [hJ'.out]; exact hgood)
        obtain ⟨n, hn⟩ : ∃ n, n = m.getD k 0 := ⟨_, rfl⟩
        rw [← hn] at hcell hn48 hts
        obtain ⟨A, hA⟩ : ∃ A, A = runLen n := ⟨_, rfl⟩
        obtain ⟨M1, hM1⟩ : ∃ M1, M1 = M + A := ⟨_, rfl⟩
        obtain ⟨L1, hL1⟩ : ∃ L1, L1 = (M1 + 7) / 8 := ⟨_, rfl⟩
        have hsz1 : (F ++ runs (m.take (k + 1))).length = M1 := by
          rw [hts, ← List.append_assoc, List.length_append, runB_len hn48, ← hM, ← hA, hM1]
        have hA48 : A ≤ 48 := by rw [hA]; exact runLen_le hn48
        have hwr : Hid (∀ w, Row .u8 w au L cu (pack (F ++ runs (m.take k))) → Calls Try.prog 11 #[.agg #[.slice au L cu, .int .i64 M], .int .i64 n] w fun e W' => ∃ b c, e = .returned (.tuple #[.agg #[.slice b L1 c, .int .i64 M1], .int .i64 0]) ∧ Row .u8 W' b L1 c (pack (F ++ runs (m.take (k + 1)))) ∧ Below w.heap.size w W') := Go.Lib.hid fun w h => by
          have := UWrite_ok w au L cu (F ++ runs (m.take k)) n h (by rw [← hM, ← hA]; omega) hn48
          rw [List.append_assoc, ← hts, ← hM, ← hA, ← hM1, ← hL1] at this
          exact this
        have hle : Hid (∀ w, Calls Try.prog 10 #[.int .i64 n] w fun r W' => r = .returned (.tuple #[.int .i64 A, .int .i64 0]) ∧ w = W') := Go.Lib.hid fun w => by rw [hA]; exact ULength_ok w n hn48
        have hsum : (M : Int) + (A : Int) = (M1 : Int) := by omega
        have hsz1' := Go.Lib.hid hsz1
        have hL1' := Go.Lib.hid hL1
        have hn' : (n : Int) ≤ 48 := by omega
        have hnn := Go.Lib.hid hn
        have g1 : decide ((n : Int) < 0) = false := decide_eq_false (by omega)
        have g2 : decide ((48 : Int) < n) = false := decide_eq_false (by omega)
        clear hbf hbx hrb hbl hM hL hrl hc hn hA hM1 hL1 hsz1 hts
        go_wp2
        have hCr : Below wr.heap.size wr wr.drew := (Below.refl _ _).drew
        refine wp_region_ord2 (fun w' => Below wr.heap.size wr w') 5 9 [(0, 1), (1, 0), (2, 0), (3, 0), (4, 1), (5, 3), (6, 0), (7, 0), (8, 0), (9, 3), (10, 3), (11, 0)] [(0, 2), (1, 0), (2, 0), (3, 0), (4, 2), (9, 3), (5, 3), (6, 0), (7, 0), (8, 0), (10, 3), (11, 0)] (by kernel_rfl) (by decide) (by kernel_rfl) (by kernel_rfl) ?hC0 ?_ ?_
        case hC0 => exact hCr
        · simp only [pick, nth]
          (repeat (first | (apply wpW_light; (case h => (intro wa; (first | (go_big_quiet_skip; exact wpQuiet_nil rfl) | (go_big_quiet_want; go_big_quiet_op; go_big_quiet_on; exact wpQuiet_nil rfl))))) | (apply wpW_here; (case h => (first | (go_big_quiet_skip; exact wpQuiet_nil rfl) | (go_big_quiet_want; go_big_quiet_op; go_big_quiet_on; exact wpQuiet_nil rfl)))) | (apply wpW_held; (case hC => assumption); (case h => (intro wa hCa; simp only [] at hCa; (first | (go_big_quiet_skip; exact wpQuiet_nil rfl) | (go_big_quiet_want; go_big_quiet_op; go_big_quiet_on; exact wpQuiet_nil rfl)))))))
          refine wpW_act (fun QQ hQQ => ?_) (by rfl)
          go_wp2_with (go_at_call 11; with_reducible refine (hwr.out _ ?h1).mono ?_; (case h1 => exact hrb'.out.below hCr (Nat.le_refl _)); rintro e w3 ⟨b3, cp3, rfl, hr3, hb3⟩; have hC3 := hCr.trans (hb3.mono hCr.size); have hr3' := Go.Lib.hid hr3; clear hr3 hb3)
          (refine hQQ _ _ ?hCn ?_; (case hCn => exact hC3); clear hQQ QQ)
          (repeat (first | (apply wpW_light; (case h => (intro wa; (first | (go_big_quiet_skip; exact wpQuiet_nil rfl) | (go_big_quiet_want; go_big_quiet_op; go_big_quiet_on; exact wpQuiet_nil rfl))))) | (apply wpW_here; (case h => (first | (go_big_quiet_skip; exact wpQuiet_nil rfl) | (go_big_quiet_want; go_big_quiet_op; go_big_quiet_on; exact wpQuiet_nil rfl)))) | (apply wpW_held; (case hC => assumption); (case h => (intro wa hCa; simp only [] at hCa; (first | (go_big_quiet_skip; exact wpQuiet_nil rfl) | (go_big_quiet_want; go_big_quiet_op; go_big_quiet_on; exact wpQuiet_nil rfl)))))))
          refine wpW_act (fun QQ hQQ => ?_) (by rfl)
          go_wp2
          (refine hQQ _ _ ?hCn ?_; (case hCn => exact hC3.alloc hC3.size _); clear hQQ QQ)
          (repeat (first | (apply wpW_light; (case h => (intro wa; (first | (go_big_quiet_skip; exact wpQuiet_nil rfl) | (go_big_quiet_want; go_big_quiet_op; go_big_quiet_on; exact wpQuiet_nil rfl))))) | (apply wpW_here; (case h => (first | (go_big_quiet_skip; exact wpQuiet_nil rfl) | (go_big_quiet_want; go_big_quiet_op; go_big_quiet_on; exact wpQuiet_nil rfl)))) | (apply wpW_held; (case hC => assumption); (case h => (intro wa hCa; simp only [] at hCa; (first | (go_big_quiet_skip; exact wpQuiet_nil rfl) | (go_big_quiet_want; go_big_quiet_op; go_big_quiet_on; exact wpQuiet_nil rfl)))))))
          refine wpW_act (fun QQ hQQ => ?_) (by rfl)
          go_wp2
          (refine hQQ _ _ ?hCn ?_; (case hCn => exact hC3.alloc hC3.size _); clear hQQ QQ)
          (repeat (first | (apply wpW_light; (case h => (intro wa; (first | (go_big_quiet_skip; exact wpQuiet_nil rfl) | (go_big_quiet_want; go_big_quiet_op; go_big_quiet_on; exact wpQuiet_nil rfl))))) | (apply wpW_here; (case h => (first | (go_big_quiet_skip; exact wpQuiet_nil rfl) | (go_big_quiet_want; go_big_quiet_op; go_big_quiet_on; exact wpQuiet_nil rfl)))) | (apply wpW_held; (case hC => assumption); (case h => (intro wa hCa; simp only [] at hCa; (first | (go_big_quiet_skip; exact wpQuiet_nil rfl) | (go_big_quiet_want; go_big_quiet_op; go_big_quiet_on; exact wpQuiet_nil rfl)))))))
          refine wpW_nil ?_
          have hbfz : BoxAt (w3.alloc (.cells #[.slice b3 L1 cp3, .int .i64 M1] 27)) W.heap.size (.slice a len cap) N := (hbf'.out.below hC3 hbf'.out.lt).alloc _
          have hbxz : BoxAt (w3.alloc (.cells #[.slice b3 L1 cp3, .int .i64 M1] 27)) xb (.slice au L cu) M := (hbx'.out.below hC3 hbx'.out.lt).alloc _
          have hblz : Below W.heap.size W (w3.alloc (.cells #[.slice b3 L1 cp3, .int .i64 M1] 27)) := hbl'.out.trans ((hC3.alloc hC3.size (.cells #[.slice b3 L1 cp3, .int .i64 M1] 27)).mono hbl'.out.size)
          have hrlz : Row .i64 (w3.alloc (.cells #[.slice b3 L1 cp3, .int .i64 M1] 27)) (some ⟨bl, ol, none⟩) ll cl l := hrl'.out.below (hC3.alloc hC3.size (.cells #[.slice b3 L1 cp3, .int .i64 M1] 27)) (Nat.le_refl _)
          have hrz : Row .u8 (w3.alloc (.cells #[.slice b3 L1 cp3, .int .i64 M1] 27)) b3 L1 cp3 (pack (F ++ runs (m.take (k + 1)))) := hr3'.out.below (below1 w3 _) (Nat.le_refl _)
          have hbnz : BoxAt (w3.alloc (.cells #[.slice b3 L1 cp3, .int .i64 M1] 27)) (w3.heap.size) (.slice b3 L1 cp3) M1 := box1 w3 (.slice b3 L1 cp3) M1
          obtain ⟨wz, hwz⟩ : ∃ wz, wz = w3.alloc (.cells #[.slice b3 L1 cp3, .int .i64 M1] 27) := ⟨_, rfl⟩
          obtain ⟨xn, hxn⟩ : ∃ xn, xn = w3.heap.size := ⟨_, rfl⟩
          have hxnW : W.heap.size < xn := by rw [hxn]; have := hbf'.out.lt; have := hC3.size; omega
          have hxnb : xb ≠ xn := by rw [hxn]; have := hbx'.out.lt; have := hC3.size; omega
          rw [← hwz] at hbfz hbxz hblz hrlz hrz hbnz ⊢
          rw [← hxn] at hbnz ⊢
          clear hwz hxn hC3 hr3' hCr hcell 
          obtain ⟨q0, q1, q2, q3⟩ := hbfz.cells
          obtain ⟨y0, y1, y2, y3⟩ := hbxz.cells
          obtain ⟨p0, p1, p2, p3⟩ := hbnz.cells
          obtain ⟨blk3, ol3, heq3, hblt3, hc3⟩ := hrlz.cells (by omega)
          cases heq3
          have hcell3 := hc3 k hlt
          rw [hm'.out k hgood, ← hnn.out] at hcell3
          have hbfz' := Go.Lib.hid hbfz
          have hbxz' := Go.Lib.hid hbxz
          have hblz' := Go.Lib.hid hblz
          have hrz' := Go.Lib.hid hrz
          clear hc3 hbfz hbxz hblz hrz hrlz hbnz
          go_wp2_with (go_at_call 10; with_reducible refine (hle.out _).mono ?_; rintro e w5 ⟨rfl, rfl⟩)
          go_roundw
          case rel =>
            refine ⟨k + 1, b3, cp3, M1, L1, by omega, by go_num, hsz1'.out.symm, hL1'.out, ?_, ?_, ?_, ?_⟩
            · exact (hbfz'.out.other (p := ⟨xb, 0, none⟩) (Nat.ne_of_lt hxb) _).other (p := ⟨xb, 1, none⟩) (Nat.ne_of_lt hxb) _
            · exact hbxz'.out.set _ _
            · exact (hrz'.out.box hbxz'.out 0 _).box (hbxz'.out.set0 _) 1 _
            · exact (hblz'.out.setCell (Nat.le_of_lt hxb) _).setCell (Nat.le_of_lt hxb) _
          case measure => (simp [intOf] <;> omega)
        · simp only [pick, nth]
          (repeat (first | (apply wpW_light; (case h => (intro wa; (first | (go_big_quiet_skip; exact wpQuiet_nil rfl) | (go_big_quiet_want; go_big_quiet_op; go_big_quiet_on; exact wpQuiet_nil rfl))))) | (apply wpW_here; (case h => (first | (go_big_quiet_skip; exact wpQuiet_nil rfl) | (go_big_quiet_want; go_big_quiet_op; go_big_quiet_on; exact wpQuiet_nil rfl)))) | (apply wpW_held; (case hC => assumption); (case h => (intro wa hCa; (have hxa := (hbx'.out.below hCa hbx'.out.lt).cells; obtain ⟨x0, x1, x2, x3⟩ := hxa; have hca := (Below.cell hCa (p := ⟨bl, ol + k, none⟩) hblt).trans hcell; clear hCa); (first | (go_big_quiet_skip; exact wpQuiet_nil rfl) | (go_big_quiet_want; go_big_quiet_op; go_big_quiet_on; exact wpQuiet_nil rfl)))))))
          refine wpW_act (fun QQ hQQ => ?_) (by rfl)
          go_wp2
          have hC9 : Below wr.heap.size wr (wr.drew.alloc (.cells #[.slice none 0 0, .int .i64 0] 27)) := hCr.alloc hCr.size _
          (refine hQQ _ _ ?hCn ?_; (case hCn => exact hC9); clear hQQ QQ)
          (repeat (first | (apply wpW_light; (case h => (intro wa; (first | (go_big_quiet_skip; exact wpQuiet_nil rfl) | (go_big_quiet_want; go_big_quiet_op; go_big_quiet_on; exact wpQuiet_nil rfl))))) | (apply wpW_here; (case h => (first | (go_big_quiet_skip; exact wpQuiet_nil rfl) | (go_big_quiet_want; go_big_quiet_op; go_big_quiet_on; exact wpQuiet_nil rfl)))) | (apply wpW_held; (case hC => assumption); (case h => (intro wa hCa; simp only [] at hCa; (first | (go_big_quiet_skip; exact wpQuiet_nil rfl) | (go_big_quiet_want; go_big_quiet_op; go_big_quiet_on; exact wpQuiet_nil rfl)))))))
          refine wpW_act (fun QQ hQQ => ?_) (by rfl)
          go_wp2_with (go_at_call 11; with_reducible refine (hwr.out _ ?h1).mono ?_; (case h1 => exact hrb'.out.below hC9 (Nat.le_refl _)); rintro e w3 ⟨b3, cp3, rfl, hr3, hb3⟩; have hC3 := hC9.trans (hb3.mono hC9.size); have hn3 : BoxAt w3 wr.heap.size (.slice none 0 0) 0 := (box1 wr.drew (.slice none 0 0) 0).below hb3 (by simp); obtain ⟨n30, n31, n32, n33⟩ := hn3.cells; have hn3' := Go.Lib.hid hn3; have hr3' := Go.Lib.hid hr3; clear hr3 hb3 hn3)
          (refine hQQ _ _ ?hCn ?_; (case hCn => exact hC3); clear hQQ QQ)
          (repeat (first | (apply wpW_light; (case h => (intro wa; (first | (go_big_quiet_skip; exact wpQuiet_nil rfl) | (go_big_quiet_want; go_big_quiet_op; go_big_quiet_on; exact wpQuiet_nil rfl))))) | (apply wpW_here; (case h => (first | (go_big_quiet_skip; exact wpQuiet_nil rfl) | (go_big_quiet_want; go_big_quiet_op; go_big_quiet_on; exact wpQuiet_nil rfl)))) | (apply wpW_held; (case hC => assumption); (case h => (intro wa hCa; simp only [] at hCa; (first | (go_big_quiet_skip; exact wpQuiet_nil rfl) | (go_big_quiet_want; go_big_quiet_op; go_big_quiet_on; exact wpQuiet_nil rfl)))))))
          refine wpW_act (fun QQ hQQ => ?_) (by rfl)
          go_wp2
          (refine hQQ _ _ ?hCn ?_; (case hCn => exact (hC3.setCell (Nat.le_refl _) _).setCell (Nat.le_refl _) _); clear hQQ QQ)
          (repeat (first | (apply wpW_light; (case h => (intro wa; (first | (go_big_quiet_skip; exact wpQuiet_nil rfl) | (go_big_quiet_want; go_big_quiet_op; go_big_quiet_on; exact wpQuiet_nil rfl))))) | (apply wpW_here; (case h => (first | (go_big_quiet_skip; exact wpQuiet_nil rfl) | (go_big_quiet_want; go_big_quiet_op; go_big_quiet_on; exact wpQuiet_nil rfl)))) | (apply wpW_held; (case hC => assumption); (case h => (intro wa hCa; simp only [] at hCa; (first | (go_big_quiet_skip; exact wpQuiet_nil rfl) | (go_big_quiet_want; go_big_quiet_op; go_big_quiet_on; exact wpQuiet_nil rfl)))))))
          refine wpW_nil ?_
          have hbfz : BoxAt ((w3.setCell ⟨wr.heap.size, 0, none⟩ (.slice b3 L1 cp3)).setCell ⟨wr.heap.size, 1, none⟩ (.int .i64 M1)) W.heap.size (.slice a len cap) N := ((hbf'.out.below hC3 hbf'.out.lt).other (p := ⟨wr.heap.size, 0, none⟩) (Nat.ne_of_lt hbf'.out.lt) _).other (p := ⟨wr.heap.size, 1, none⟩) (Nat.ne_of_lt hbf'.out.lt) _
          have hbxz : BoxAt ((w3.setCell ⟨wr.heap.size, 0, none⟩ (.slice b3 L1 cp3)).setCell ⟨wr.heap.size, 1, none⟩ (.int .i64 M1)) xb (.slice au L cu) M := ((hbx'.out.below hC3 hbx'.out.lt).other (p := ⟨wr.heap.size, 0, none⟩) (Nat.ne_of_lt hbx'.out.lt) _).other (p := ⟨wr.heap.size, 1, none⟩) (Nat.ne_of_lt hbx'.out.lt) _
          have hblz : Below W.heap.size W ((w3.setCell ⟨wr.heap.size, 0, none⟩ (.slice b3 L1 cp3)).setCell ⟨wr.heap.size, 1, none⟩ (.int .i64 M1)) := hbl'.out.trans (((hC3.setCell (p := ⟨wr.heap.size, 0, none⟩) (Nat.le_refl _) (.slice b3 L1 cp3)).setCell (p := ⟨wr.heap.size, 1, none⟩) (Nat.le_refl _) (.int .i64 M1)).mono hbl'.out.size)
          have hrlz : Row .i64 ((w3.setCell ⟨wr.heap.size, 0, none⟩ (.slice b3 L1 cp3)).setCell ⟨wr.heap.size, 1, none⟩ (.int .i64 M1)) (some ⟨bl, ol, none⟩) ll cl l := hrl'.out.below ((hC3.setCell (p := ⟨wr.heap.size, 0, none⟩) (Nat.le_refl _) (.slice b3 L1 cp3)).setCell (p := ⟨wr.heap.size, 1, none⟩) (Nat.le_refl _) (.int .i64 M1)) (Nat.le_refl _)
          have hrz : Row .u8 ((w3.setCell ⟨wr.heap.size, 0, none⟩ (.slice b3 L1 cp3)).setCell ⟨wr.heap.size, 1, none⟩ (.int .i64 M1)) b3 L1 cp3 (pack (F ++ runs (m.take (k + 1)))) := (hr3'.out.box hn3'.out 0 _).box (hn3'.out.set0 _) 1 _
          have hbnz : BoxAt ((w3.setCell ⟨wr.heap.size, 0, none⟩ (.slice b3 L1 cp3)).setCell ⟨wr.heap.size, 1, none⟩ (.int .i64 M1)) (wr.heap.size) (.slice b3 L1 cp3) M1 := hn3'.out.set _ _
          obtain ⟨wz, hwz⟩ : ∃ wz, wz = (w3.setCell ⟨wr.heap.size, 0, none⟩ (.slice b3 L1 cp3)).setCell ⟨wr.heap.size, 1, none⟩ (.int .i64 M1) := ⟨_, rfl⟩
          obtain ⟨xn, hxn⟩ : ∃ xn, xn = wr.heap.size := ⟨_, rfl⟩
          have hxnW : W.heap.size < xn := by rw [hxn]; have := hbf'.out.lt; omega
          have hxnb : xb ≠ xn := by rw [hxn]; have := hbx'.out.lt; omega
          rw [← hwz] at hbfz hbxz hblz hrlz hrz hbnz ⊢
          rw [← hxn] at hbnz ⊢
          clear hwz hxn hC3 hr3' hCr hcell hn3' n30 n31 n32 n33 hC9
          obtain ⟨q0, q1, q2, q3⟩ := hbfz.cells
          obtain ⟨y0, y1, y2, y3⟩ := hbxz.cells
          obtain ⟨p0, p1, p2, p3⟩ := hbnz.cells
          obtain ⟨blk3, ol3, heq3, hblt3, hc3⟩ := hrlz.cells (by omega)
          cases heq3
          have hcell3 := hc3 k hlt
          rw [hm'.out k hgood, ← hnn.out] at hcell3
          have hbfz' := Go.Lib.hid hbfz
          have hbxz' := Go.Lib.hid hbxz
          have hblz' := Go.Lib.hid hblz
          have hrz' := Go.Lib.hid hrz
          clear hc3 hbfz hbxz hblz hrz hrlz hbnz
          go_wp2_with (go_at_call 10; with_reducible refine (hle.out _).mono ?_; rintro e w5 ⟨rfl, rfl⟩)
          go_roundw
          case rel =>
            refine ⟨k + 1, b3, cp3, M1, L1, by omega, by go_num, hsz1'.out.symm, hL1'.out, ?_, ?_, ?_, ?_⟩
            · exact (hbfz'.out.other (p := ⟨xb, 0, none⟩) (Nat.ne_of_lt hxb) _).other (p := ⟨xb, 1, none⟩) (Nat.ne_of_lt hxb) _
            · exact hbxz'.out.set _ _
            · exact (hrz'.out.box hbxz'.out 0 _).box (hbxz'.out.set0 _) 1 _
            · exact (hblz'.out.setCell (Nat.le_of_lt hxb) _).setCell (Nat.le_of_lt hxb) _
          case measure => (simp [intOf] <;> omega)
      · obtain rfl : k = J := by omega
        have hb1 := hbad'.out hlt
        obtain ⟨x, hx⟩ : ∃ x, x = l.getD k 0 := ⟨_, rfl⟩
        rw [← hx] at hcell hb1
        have key : x < 0 ∨ (¬ x < 0 ∧ 48 < x) := by omega
        clear hbf hbx hrb hbl hM hL hrl hc hx hb1
        rcases key with h | ⟨h, h'⟩
        all_goals
          go_wp2_with (go_at_call 15; refine (alive6_ok _).mono ?_; rintro e w5 ⟨rfl, hb5⟩)
          go_ret
          exact ⟨rfl, hbl'.out.trans (hb5.mono hbl'.out.size)⟩
    · obtain rfl : k = ll := by omega
      obtain rfl : J = k := by omega
      have hall : m.take J = m := by rw [List.take_of_length_le (by rw [hJ'.out]; exact Nat.le_refl _)]
      rw [hall] at hrb hM
      have hrb' := Go.Lib.hid hrb
      have hM' := Go.Lib.hid hM
      obtain ⟨B, hB⟩ : ∃ B, B = F ++ runs m := ⟨_, rfl⟩
      rw [← hB] at hM hrb hM' hrb'
      have hrd : Hid (∀ w j, j < J → Row .u8 w au L cu (pack B) → Calls Try.prog 12 #[.agg #[.slice au L cu, .int .i64 M], .int .i64 ((F ++ runs (m.take j)).length : Nat)] w fun e W' => e = .returned (.tuple #[.int .i64 (m.getD j 0 : Nat), .int .i64 ((F ++ runs (m.take (j + 1))).length : Nat), .int .i64 0]) ∧ Below w.heap.size w W') := Go.Lib.hid fun w j hj h => by
        have hjm : j < m.length := by rw [hJ'.out]; exact hj
        have hn := hrun48.out j hj
        have e := read_run (F ++ runs (m.take j)) (runs (m.drop (j + 1))) hn
        have e2 : F ++ runs (m.take j) ++ runB (m.getD j 0) ++ runs (m.drop (j + 1)) = B := by
          rw [hB, List.append_assoc, List.append_assoc, ← List.append_assoc (runs _), ← runs_split m hjm]
        rw [e2] at e
        have e3 : (F ++ runs (m.take (j + 1))).length = (F ++ runs (m.take j)).length + runLen (m.getD j 0) := by
          rw [runs_take_succ m hjm, ← List.append_assoc, List.length_append, runB_len hn]
        have hle : (F ++ runs (m.take j)).length ≤ B.length := by
          rw [← e2]; simp only [List.length_append]; omega
        have := URead_le w au L cu B _ h (by omega) hle _ _ _ e
        rw [← hM, ← e3] at this
        exact this
      have hcut : Hid (∀ w, Row .u8 w au L cu (pack B) → Calls Try.prog 23 #[.agg #[.slice au L cu, .int .i64 M], .int .i64 0, .int .i64 N] w fun e W' => ∃ b c, e = .returned (.tuple #[.agg #[.slice b len c, .int .i64 N], .int .i64 0]) ∧ Row .u8 W' b len c (pack F) ∧ Below w.heap.size w W') := Go.Lib.hid fun w h => by
        have hle : F.length ≤ B.length := by rw [hB, List.length_append]; omega
        have := BCut_ok w au L cu B 0 F.length h (by omega) (Nat.zero_le _) hle
        have e : midB B 0 F.length = F := by
          rw [hB, mid_front F _ (Nat.zero_le _) (Nat.le_refl _)]
          unfold midB
          rw [List.drop_zero, Nat.sub_zero, List.take_length]
        rw [e, ← hM, Nat.sub_zero, ← hN'.out, ← hlen'.out] at this
        exact this
      have hsame : Hid (∀ w b c, Row .u8 w b len c (pack F) → Row .u8 w a len cap (pack F) → Calls Try.prog 21 #[.agg #[.slice b len c, .int .i64 N], .agg #[.slice a len cap, .int .i64 N]] w fun e W' => e = .returned (.bool true) ∧ Below w.heap.size w W') := Go.Lib.hid fun w b c h h' => by
        have := RSame_ok w b len c N (pack F) h a len cap N (pack F) h'
        simpa using this
      have hrf := Go.Lib.hid (hrf0.out.below hbl (Nat.le_refl _))
      have hMe : Hid (M = (F ++ runs (m.take J)).length) := Go.Lib.hid (by rw [hall, ← hB]; exact hM)
      have hstep : Hid (∀ j, j < J → (F ++ runs (m.take j)).length < (F ++ runs (m.take (j + 1))).length ∧ (F ++ runs (m.take (j + 1))).length ≤ 1460) := Go.Lib.hid fun j hj => by
        have hjm : j < m.length := by rw [hJ'.out]; exact hj
        have h1 := hsize.out (j + 1) hj
        refine ⟨?_, h1⟩
        have e3 : (F ++ runs (m.take (j + 1))).length = (F ++ runs (m.take j)).length + runLen (m.getD j 0) := by
          rw [runs_take_succ m hjm, ← List.append_assoc, List.length_append, runB_len (hrun48.out j hj)]
        have := runLen_pos (m.getD j 0)
        omega
      have h0 : Hid ((F ++ runs (m.take 0)).length = N) := Go.Lib.hid (by simp [runs, hN'.out])
      clear hbf hbx hrb hbl hM hL hrl hB hall hrl'
      obtain ⟨wo, hwo⟩ : ∃ wo, wo = wr := ⟨_, rfl⟩
      subst hwo
      go_wp2
      go_loopw [12, 13] (fun at_ i w' => ∃ (j p : Nat), j ≤ J ∧ p = (F ++ runs (m.take j)).length ∧ at_ = .int .i64 p ∧ i = .int .i64 j ∧ Below wo.heap.size wo w') (fun _ i _ => J - (intOf i).toNat)
      case atStart => exact ⟨0, N, Nat.zero_le _, h0.out.symm, rfl, rfl, Below.refl _ _⟩
      case round =>
        obtain ⟨j, p, hj, hp, rfl, rfl, hb⟩ := hrel
        have hbf2 := hbf'.out.below hb hbf'.out.lt
        have hbx2 := hbx'.out.below hb hbx'.out.lt
        have hr2 := Go.Lib.hid (hrb'.out.below hb (Nat.le_refl _))
        obtain ⟨e0, e1, e2, e3⟩ := hbf2.cells
        obtain ⟨x0, x1, x2, x3⟩ := hbx2.cells
        have hb' := Go.Lib.hid hb
        have hbl2 := hbl'.out.trans (hb.mono hbl'.out.size)
        have hpb : p ≤ 1460 := by rw [hp]; exact hsize.out j hj
        by_cases hlt : j < J
        · obtain ⟨blk, ol, rfl, hblt, hc⟩ := (hl'.out.below hbl2 (Nat.le_refl _)).cells (by omega)
          have hcell := hc j hlt
          rw [hm'.out j hlt] at hcell
          have hrj := Go.Lib.hid (hrd.out wr j hlt hr2.out)
          have hst := hstep.out j hlt
          rw [← hp] at hrj hst
          obtain ⟨q, hq⟩ : ∃ q, q = (F ++ runs (m.take (j + 1))).length := ⟨_, rfl⟩
          obtain ⟨n, hn⟩ : ∃ n, n = m.getD j 0 := ⟨_, rfl⟩
          rw [← hq] at hrj hst
          rw [← hn] at hrj hcell
          have hq' := Go.Lib.hid hq
          have hpq : (p : Int) < q := by omega
          have hpq2 : decide ((q : Int) ≤ p) = false := decide_eq_false (by omega)
          have hlt' : (j : Int) < J := by omega
          have hcell' := Go.Lib.hid hcell
          clear hbf2 hbx2 hb hbl2 hp hq hn hc
          go_wp2_with (go_at_call 12; with_reducible refine hrj.out.mono ?_; rintro e w5 ⟨rfl, hb5⟩; have hcell5 := (Below.cell hb5 (p := ⟨blk, ol + j, none⟩) (Nat.lt_of_lt_of_le hblt (Nat.le_refl _))).trans hcell'.out; have hb6 := Go.Lib.hid (hb'.out.trans (hb5.mono hb'.out.size)); clear hb5)
          go_roundw
          case rel => exact ⟨j + 1, q, by omega, hq'.out, rfl, by go_num, hb6.out⟩
          case measure => (simp [intOf] <;> omega)
        · obtain rfl : j = J := by omega
          rw [← hMe.out] at hp
          subst hp
          have hW10 := Go.Lib.hid hbl2
          have R10_f := Go.Lib.hid (hrf.out.below hb (Nat.le_refl _))
          have R10_b := hr2
          have B10_f := Go.Lib.hid hbf2
          have B10_b := Go.Lib.hid hbx2
          clear hbf2 hbx2 hb hbl2
          go_wp2_with (first
            | (go_at_call 23; ((with_reducible refine (hcut.out _ ?h1).mono ?_)); (case h1 => exact R10_b.out); rintro e w11 ⟨b11, cp11, rfl, hr11, hb11⟩; have hWE11 := Go.Lib.hid hW10.out; have hW11 := Go.Lib.hid (hWE11.out.trans (hb11.mono hWE11.out.size)); have R11_f := Go.Lib.hid (R10_f.out.below hb11 (Nat.le_refl _)); have R11_b := Go.Lib.hid (R10_b.out.below hb11 (Nat.le_refl _)); have R11_p := Go.Lib.hid hr11; clear hr11; have BE11_f := Go.Lib.hid B10_f.out; have B11_f := Go.Lib.hid (BE11_f.out.below hb11 BE11_f.out.lt); obtain ⟨k11f0, k11f1, k11f2, k11f3⟩ := B11_f.out.cells; have BE11_b := Go.Lib.hid B10_b.out; have B11_b := Go.Lib.hid (BE11_b.out.below hb11 BE11_b.out.lt); obtain ⟨k11b0, k11b1, k11b2, k11b3⟩ := B11_b.out.cells; have l11f := B11_f.out.lt; have n11f : W.heap.size ≠ w11.heap.size := (by omega); have l11b := B11_b.out.lt; have n11b : xb ≠ w11.heap.size := (by omega); clear hb11)
            | (go_at_call 21; ((with_reducible refine (hsame.out _ _ _ ?h1 ?h2).mono ?_)); (case h1 => exact (R11_p.out.below (below1 w11 (.cells #[(.slice b11 len cp11), .int .i64 N] 27)) (Nat.le_refl _))); (case h2 => exact (R11_f.out.below (below1 w11 (.cells #[(.slice b11 len cp11), .int .i64 N] 27)) (Nat.le_refl _))); rintro e w12 ⟨rfl, hb12⟩; have hWE12 := Go.Lib.hid (hW11.out.alloc hW11.out.size (.cells #[(.slice b11 len cp11), .int .i64 N] 27)); have hW12 := Go.Lib.hid (hWE12.out.trans (hb12.mono hWE12.out.size)); have R12_f := Go.Lib.hid ((R11_f.out.below (below1 w11 (.cells #[(.slice b11 len cp11), .int .i64 N] 27)) (Nat.le_refl _)).below hb12 (Nat.le_refl _)); have R12_b := Go.Lib.hid ((R11_b.out.below (below1 w11 (.cells #[(.slice b11 len cp11), .int .i64 N] 27)) (Nat.le_refl _)).below hb12 (Nat.le_refl _)); have R12_p := Go.Lib.hid ((R11_p.out.below (below1 w11 (.cells #[(.slice b11 len cp11), .int .i64 N] 27)) (Nat.le_refl _)).below hb12 (Nat.le_refl _)); have BE12_f := Go.Lib.hid (B11_f.out.alloc (.cells #[(.slice b11 len cp11), .int .i64 N] 27)); have B12_f := Go.Lib.hid (BE12_f.out.below hb12 BE12_f.out.lt); obtain ⟨k12f0, k12f1, k12f2, k12f3⟩ := B12_f.out.cells; have BE12_b := Go.Lib.hid (B11_b.out.alloc (.cells #[(.slice b11 len cp11), .int .i64 N] 27)); have B12_b := Go.Lib.hid (BE12_b.out.below hb12 BE12_b.out.lt); obtain ⟨k12b0, k12b1, k12b2, k12b3⟩ := B12_b.out.cells; have BE12_p := Go.Lib.hid (box1 w11 (.slice b11 len cp11) N); have B12_p := Go.Lib.hid (BE12_p.out.below hb12 BE12_p.out.lt); obtain ⟨k12p0, k12p1, k12p2, k12p3⟩ := B12_p.out.cells; clear hb12)
            | (go_at_call 15; refine (alive6_ok _).mono ?_; rintro e w13 ⟨rfl, hb13⟩; have hWE13 := Go.Lib.hid hW12.out; have hW13 := Go.Lib.hid (hWE13.out.trans (hb13.mono hWE13.out.size)); clear hb13))
          go_ret
          exact ⟨rfl, hW13.out⟩

theorem unaryBack_walk (ax0_0 : Option Addr) (lenx0_0 capx0_0 : Nat) (zx0_0 : List Int) (x0_1 : Int) (ax1 : Option Addr) (lenx1 capx1 : Nat) (zx1 : List Int) (W : World) (wx0_0 : IsRow .u8 W ax0_0 lenx0_0 capx0_0 zx0_0) (wx0_1 : (Lit.int .i64 x0_1).wf = true) (wx1 : IsRow .i64 W ax1 lenx1 capx1 zx1) :
    Calls Try.prog 5 #[.agg #[.slice ax0_0 lenx0_0 capx0_0, .int .i64 x0_1], .slice ax1 lenx1 capx1] W fun e w' => e = .returned (.bool true) ∧ Below W.heap.size W w' := by
  have hr := Row.of_isRow wx0_0
  have hl := Row.of_isRow wx1
  have hlm := Nat.le_trans hl.hcap hl.hmax
  unfold maxLen at hlm
  have hkk : ∃ r, chk (zx0_0.take lenx0_0) x0_1 r := by
    by_cases hv : Valid (zx0_0.take lenx0_0) x0_1
    · exact ⟨0, .inl ⟨hv, rfl⟩⟩
    · exact ⟨8, .inr ⟨hv, rfl⟩⟩
  obtain ⟨r, hk⟩ := hkk
  by_cases h : r = 8 ∨ (r = 0 ∧ (500 < x0_1 ∨ 20 < lenx1))
  · exact unaryBack_out W _ _ _ _ _ _ _ _ (by omega) hr wx0_1 r hk h
  · rcases hk with ⟨⟨B, hB1, hB2, hB3⟩, rfl⟩ | ⟨_, rfl⟩
    · rw [hB3] at hr
      rw [← hB1] at h ⊢
      obtain ⟨m, h1, h2, h3, h4⟩ := good_part (zx1.take lenx1)
      rw [hl.hlen] at h1 h4
      exact unaryBack_in W _ _ _ B hr (by omega) _ _ _ _ hl (by omega) m.length m rfl h1 h2 h3 h4
    · omega
end Go.Proofs.Ytbegifpnbbpinaa
