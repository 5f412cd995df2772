/- Texts of the proof, one behind the other: UnaB, UnaR, UnaS, BitLawA, BitGotW, BitPartsW, UnaL, Le, LeM, LeB. -/
import Derived.Test.YtbegifpnbbpinaaZ4
import Derived.Test.YtbegifpnbbpinaaRows
import Derived.WalkKit
import Derived.ProofKit
import Derived.OpenShut
import Derived.Below
import Derived.IntWalk
import Derived.LoopTactic
import Derived.Lib.Hide
import Derived.Outline
import Derived.Laws.OwnMore
import Derived.OwnWalk
/- Contracts of the package unary: Read. -/
namespace Go.Proofs.Ytbegifpnbbpinaa
open Go.RowKit Cad

/-- a variable that holds an int: its block -/
def IntAt (w : World) (y : Nat) (n : Int) : Prop := w.heap[y]? = some (.cells #[.int .i64 n] 3)
theorem IntAt.cell {w : World} {y : Nat} {n : Int} (h : IntAt w y n) : w.cell? ⟨y, 0, none⟩ = some (.int .i64 n) ∧ w.frozen? ⟨y, 0, none⟩ = false := by
  unfold IntAt at h
  refine ⟨?_, ?_⟩
  · unfold World.cell?; rw [h]; rfl
  · unfold World.frozen?; rw [h]; simp
theorem IntAt.below {w w' : World} {y B : Nat} {n : Int} (h : IntAt w y n) (hb : Below B w w') (hy : y < B) : IntAt w' y n := by
  unfold IntAt at h ⊢
  rw [hb.block y hy, h]

theorem URbit (W : World) (x y : Nat) (v : Value) (N at_ : Int) (k : Int) (hx : BoxAt W x v N) (hy : IntAt W y at_) (r s er : Int) (s64 : at_ + k = s)
    (hb : -9223372036854775808 ≤ s ∧ s ≤ 9223372036854775807)
    (hg : Hid (Calls Try.prog 33 #[.agg #[v, .int .i64 N], .int .i64 s, .int .i64 1] W fun e W' => e = .returned (.tuple #[.int .u64 r, .int .i64 er]) ∧ Below W.heap.size W W')) :
    Calls Try.prog 37 #[.int .i64 k, .pointer (some ⟨x, 0, none⟩), .pointer (some ⟨y, 0, none⟩)] W fun e W' => e = .returned (.tuple #[.int .u64 r, .int .i64 er]) ∧ Below W.heap.size W W' := by
  obtain ⟨x0, x1, x2, x3⟩ := hx.cells
  obtain ⟨y0, y1⟩ := hy.cell
  clear hx hy
  go_enter Try.func37, Try.ntmps37
  go_wp2_with (go_at_call 33; refine hg.out.mono ?_; rintro e w1 ⟨rfl, hb1⟩)
  go_ret2
  exact ⟨rfl, hb1⟩

/-- the two variables of Read: the bits, the index -/
theorem read_boxes (W : World) (v : Value) (N at_ : Int) : ∃ W0, W0 = (W.alloc (.cells #[v, .int .i64 N] 27)).alloc (.cells #[.int .i64 at_] 3) ∧ Below W.heap.size W W0 ∧ W0.heap.size = W.heap.size + 1 + 1 ∧
    BoxAt W0 W.heap.size v N ∧ IntAt W0 (W.heap.size + 1) at_ := by
  refine ⟨_, rfl, ((Below.refl W.heap.size W).alloc (Nat.le_refl _) _).alloc (by simp) _, by simp, ?_, ?_⟩
  · unfold BoxAt; rw [Below.heap_alloc _ _ _ (by simp), heap_alloc_new]
  · unfold IntAt; rw [heap_alloc2_new]

/-- the first bit is not got -/
theorem URead_no (W : World) (a : Option Addr) (len cap : Nat) (N at_ er : Int) (hat : (Lit.int .i64 at_).wf = true) (her : er = 8 ∨ er = 2 ∨ er = 24)
    (hg : ∀ w, Below W.heap.size W w → Calls Try.prog 33 #[.agg #[.slice a len cap, .int .i64 N], .int .i64 at_, .int .i64 1] w fun e W' => e = .returned (.tuple #[.int .u64 0, .int .i64 er]) ∧ Below w.heap.size w W') :
    Calls Try.prog 12 #[.agg #[.slice a len cap, .int .i64 N], .int .i64 at_] W fun e W' => e = .returned (.tuple #[.int .i64 0, .int .i64 0, .int .i64 er]) ∧ Below W.heap.size W W' := by
  have hmf : ∀ (fn : Fn) (first cap : Array Value) (w : World), (Instr.makeFunc fn first cap).run Try.prog w = .ok (.func fn first cap) w := fun _ _ _ _ => rfl
  obtain ⟨W0, hW0, hbE, hs0, hx0, hy0⟩ := read_boxes W (.slice a len cap) N at_
  have bat := bounds_i64 hat
  have hc : Hid (Calls Try.prog 37 #[.int .i64 0, .pointer (some ⟨W.heap.size, 0, none⟩), .pointer (some ⟨W.heap.size + 1, 0, none⟩)] W0 fun e W' => e = .returned (.tuple #[.int .u64 0, .int .i64 er]) ∧ Below W0.heap.size W0 W') :=
    Go.Lib.hid (URbit W0 _ _ _ N at_ 0 hx0 hy0 0 at_ er (by omega) bat (Go.Lib.hid (hg W0 hbE)))
  have hbE' := Go.Lib.hid hbE
  have hne : er ≠ 0 := by omega
  have hne' : (er != 0) = true := by simpa using hne
  clear hx0 hy0 hbE hg her hat
  go_enter Try.func12, Try.ntmps12
  go_wp2
  refine wp_loop_once ?_
  go_wp2_with (go_at_call 37; rw [← hW0]; refine hc.out.mono ?_; rintro e w1 ⟨rfl, hb1⟩)
  go_ret3
  exact ⟨rfl, hbE'.out.trans (hb1.mono (by omega))⟩

theorem bit_one (B : List Bool) (i : Nat) (h : i < B.length) : natB (midB B i (i + 1)) = (B.getD i false).toNat := by
  have e : midB B i (i + 1) = [B.getD i false] := by
    unfold midB
    rw [List.drop_eq_getElem_cons h, show i + 1 - i = 1 by omega, List.take_succ_cons, List.take_zero]
    simp [List.getD, h]
  rw [e]; simp [natB]

theorem URead_in (W : World) (a : Option Addr) (len cap : Nat) (B : List Bool) (i : Nat) (hr : Row .u8 W a len cap (pack B)) (hB : B.length ≤ 330000) (hi : i < B.length) (p q er : Nat) (hv : readV B i = (p, q, er)) :
    Calls Try.prog 12 #[.agg #[.slice a len cap, .int .i64 B.length], .int .i64 i] W fun e W' => e = .returned (.tuple #[.int .i64 p, .int .i64 q, .int .i64 er]) ∧ Below W.heap.size W W' := by
  have hmf : ∀ (fn : Fn) (first cap : Array Value) (w : World), (Instr.makeFunc fn first cap).run Try.prog w = .ok (.func fn first cap) w := fun _ _ _ _ => rfl
  obtain ⟨W0, hW0, hbE, hs0, hx0, hy0⟩ := read_boxes W (.slice a len cap) B.length i
  have hrE := Go.Lib.hid (hr.below hbE (Nat.le_refl _))
  have hx0' := Go.Lib.hid hx0
  have hy0' := Go.Lib.hid hy0
  have hbE' := Go.Lib.hid hbE
  have hs0' := Go.Lib.hid hs0
  have hv' := Go.Lib.hid hv
  have hone := Go.Lib.hid (bit_one B)
  clear hx0 hy0 hbE hr hv
  go_enter Try.func12, Try.ntmps12
  go_wp2
  rw [← hW0]
  clear hW0
  go_loopw [4] (fun n wr => ∃ k : Nat, k ≤ 48 ∧ i + k ≤ B.length ∧ n = .int .i64 k ∧ (∀ j, j < k → (B.drop i).getD j false = true) ∧ Below W0.heap.size W0 wr) (fun n _ => 48 - (intOf n).toNat)
  case atStart => exact ⟨0, by omega, by omega, rfl, fun j h => by omega, Below.refl _ _⟩
  case round =>
    obtain ⟨k, hk, hik, rfl, hones, hb⟩ := hrel
    have hones' := Go.Lib.hid hones
    have hxr := hx0'.out.below hb (by omega)
    have hyr := hy0'.out.below hb (by omega)
    have hrr := hrE.out.below hb (Nat.le_refl _)
    obtain ⟨y0, y1⟩ := hyr.cell
    have hb' := Go.Lib.hid hb
    have hlen : (B.drop i).length = B.length - i := by simp
    clear hones
    by_cases hlt : k < 48
    · have hlt' : (k : Int) < 48 := by omega
      by_cases hin : i + k < B.length
      · have hg := BGet_ok wr a len cap B (i + k) 1 hrr hB (by omega) (by omega)
        rw [hone.out _ hin] at hg
        have hc := URbit wr _ _ _ B.length i k hxr hyr _ ((i + k : Nat) : Int) 0 (by omega) (by omega) (Go.Lib.hid hg)
        have hdg := drop_getD B i k
        cases hbit : B.getD (i + k) false with
        | true =>
          rw [hbit] at hc hdg
          have hc' := Go.Lib.hid hc
          clear hc hg hb hxr hyr hrr
          go_wp2_with (go_at_call 37; refine hc'.out.mono ?_; rintro e w1 ⟨rfl, hb1⟩; have hb1' := Go.Lib.hid (hb'.out.trans (hb1.mono hb'.out.size)); clear hb1)
          go_roundw
          case rel => exact ⟨k + 1, by omega, by omega, by go_num, fun j hj => by
            by_cases e : j = k
            · subst e; exact hdg
            · exact hones'.out j (by omega), hb1'.out⟩
          case measure => (simp [intOf] <;> omega)
        | false =>
          rw [hbit] at hc hdg
          have hc' := Go.Lib.hid hc
          have hl := lead_eq (B.drop i) 48 k hk hones'.out (fun _ => hdg) (by omega)
          have hz := readV_zero hl hlt hin
          rw [hv'.out] at hz
          cases hz
          clear hc hg hb hxr hyr hrr
          go_wp2_with (go_at_call 37; refine hc'.out.mono ?_; rintro e w1 ⟨rfl, hb1⟩; have hb1' := Go.Lib.hid (hb'.out.trans (hb1.mono hb'.out.size)); obtain ⟨z0, z1⟩ := (hy0'.out.below hb1'.out (by omega)).cell; clear hb1)
          go_quiet (fail)
          go_wp2
          go_ret3
          exact ⟨by go_num, Below.drewN (hbE'.out.trans (hb1'.out.mono (by omega))) _⟩
      · have hv : Valid (pack B) B.length := ⟨B, rfl, hB, rfl⟩
        have hg := BGet_short wr a len cap B.length (pack B) ((i + k : Nat) : Int) 1 hrr (bounds_of_len (by omega)) hv (by omega) (by omega) (by omega)
        have hc := URbit wr _ _ _ B.length i k hxr hyr _ ((i + k : Nat) : Int) 24 (by omega) (by omega) (Go.Lib.hid hg)
        have hc' := Go.Lib.hid hc
        have hl := lead_eq (B.drop i) 48 k hk hones'.out (fun _ => getD_ge _ _ (by omega)) (by omega)
        have hz := readV_short hl hlt (by omega)
        rw [hv'.out] at hz
        cases hz
        clear hc hg hb hxr hyr hrr hv
        go_wp2_with (go_at_call 37; refine hc'.out.mono ?_; rintro e w1 ⟨rfl, hb1⟩; have hb1' := Go.Lib.hid (hb'.out.trans (hb1.mono hb'.out.size)); clear hb1)
        go_ret3
        exact ⟨rfl, hbE'.out.trans (hb1'.out.mono (by omega))⟩
    · obtain rfl : k = 48 := by omega
      have hl := lead_eq (B.drop i) 48 48 hk hones'.out (fun h => absurd h (by omega)) (by omega)
      have hz := readV_full hl
      rw [hv'.out] at hz
      cases hz
      clear hb hxr hyr hrr
      go_wp2
      go_quiet (fail)
      go_wp2
      go_ret3
      exact ⟨by go_num, Below.drewN (hbE'.out.trans (hb'.out.mono (by omega))) _⟩
end Go.Proofs.Ytbegifpnbbpinaa

/- Contracts of the reference of unary. -/
namespace Go.Proofs.Ytbegifpnbbpinaa
open Go.RowKit Cad

theorem RuLong_ok (W : World) (n : Nat) (h : n ≤ 48) :
    Calls Try.prog 42 #[.int .i64 n] W fun e W' => e = .returned (.int .i64 (runLen n : Nat)) ∧ W = W' := by
  unfold runLen
  by_cases e : n = 48
  · subst e
    go_enter Try.func42, Try.ntmps42
    go_wp2
    go_ret
    exact ⟨rfl, rfl⟩
  · rw [if_neg e]
    have h1 : ¬ (n : Int) = 48 := by omega
    go_enter Try.func42, Try.ntmps42
    go_wp2
    go_ret
    exact ⟨by go_num, rfl⟩
theorem RuLength_ok (W : World) (n : Nat) (h : n ≤ 48) :
    Calls Try.prog 18 #[.int .i64 n] W fun e W' => e = .returned (.tuple #[.int .i64 (runLen n : Nat), .int .i64 0]) ∧ W = W' := by
  have hl := Go.Lib.hid (fun w => RuLong_ok w n h)
  go_enter Try.func18, Try.ntmps18
  go_wp2_with (go_at_call 42; refine (hl.out _).mono ?_; rintro e w1 ⟨rfl, rfl⟩)
  go_ret2
  exact ⟨rfl, rfl⟩
theorem RuLength_arg (W : World) (n : Int) (hn : (Lit.int .i64 n).wf = true) (h : n < 0 ∨ 48 < n) :
    Calls Try.prog 18 #[.int .i64 n] W fun e W' => e = .returned (.tuple #[.int .i64 0, .int .i64 2]) ∧ W = W' := by
  have bn := bounds_i64 hn
  have key : n < 0 ∨ (¬ n < 0 ∧ 48 < n) := by omega
  rcases key with h | ⟨h, h'⟩
  all_goals
    go_enter Try.func18, Try.ntmps18
    go_wp2
    go_ret2
    exact ⟨rfl, rfl⟩

set_option maxHeartbeats 1600000 in
theorem RuAdd_ok (W : World) (base : Nat) (v : Value) (B : List Bool) (n : Nat) (hown : W.ownsRow base 5 1 v ((B.length + 7) / 8) (nums .u8 (pack B))) (hbase : base ≤ W.heap.size) (hB : B.length ≤ 330000) (hn : n ≤ 48) :
    Calls Try.prog 43 #[.agg #[v, .int .i64 B.length], .int .i64 n] W fun e W' => ∃ v', e = .returned (.agg #[v', .int .i64 ((B.length + runLen n : Nat) : Int)]) ∧
      W'.ownsRow base 5 1 v' (((B ++ runB n).length + 7) / 8) (nums .u8 (pack (B ++ runB n))) ∧ Kept base W W' := by
  obtain ⟨av, cv, rfl⟩ := own_form hown
  obtain ⟨W0, hW0, hbE, hs0, hx0, hy0⟩ := two_boxes W (.slice av ((B.length + 7) / 8) cv) B.length
  have hk0 : Kept base W W0 := by rw [hW0]; exact ((Kept.refl base W).alloc hbase _).alloc hbase _
  have hown0 : W0.ownsRow base 5 1 (.slice av ((B.length + 7) / 8) cv) ((B.length + 7) / 8) (nums .u8 (pack B)) := own_below hown hbE (Nat.le_refl _)
  have hx0' := Go.Lib.hid hx0
  have hy0' := Go.Lib.hid hy0
  have hk0' := Go.Lib.hid hk0
  have hown0' := Go.Lib.hid hown0
  clear hx0 hy0 hk0 hown0 hown hbE
  go_enter Try.func43, Try.ntmps43
  go_wp2
  rw [← hW0]
  clear hW0
  go_loopw [5] (fun i wr => ∃ (k : Nat) (u : Value), k ≤ n ∧ i = .int .i64 k ∧ BoxAt wr W.heap.size u ((B.length : Int) + (k : Int)) ∧ BoxAt wr (W.heap.size + 1) (.slice none 0 0) 0 ∧
    wr.ownsRow base 5 1 u (((B ++ List.replicate k true).length + 7) / 8) (nums .u8 (pack (B ++ List.replicate k true))) ∧ Kept base W wr) (fun i _ => n - (intOf i).toNat)
  case atStart => exact ⟨0, _, Nat.zero_le _, rfl, hx0'.out, hy0'.out, by simpa using hown0'.out, hk0'.out⟩
  case round =>
    obtain ⟨k, u, hk, rfl, hx, hy, ho, hkp⟩ := hrel
    obtain ⟨au, cu, rfl⟩ := own_form ho
    obtain ⟨x0, x1, x2, x3⟩ := hx.cells
    obtain ⟨L, hL⟩ : ∃ L, L = ((B ++ List.replicate k true).length + 7) / 8 := ⟨_, rfl⟩
    rw [← hL] at hx x0 ho
    have hL' := Go.Lib.hid hL
    have hx' := Go.Lib.hid hx
    have hy' := Go.Lib.hid hy
    have ho' := Go.Lib.hid ho
    have hkp' := Go.Lib.hid hkp
    have hBl : (B ++ List.replicate k true).length = B.length + k := by simp
    have hbw : base ≤ wr.heap.size := Nat.le_trans hbase hkp.bel.size
    by_cases hlt : k < n
    · obtain ⟨L1, hL1⟩ : ∃ L1, L1 = ((B ++ List.replicate (k + 1) true).length + 7) / 8 := ⟨_, rfl⟩
      have hL1' := Go.Lib.hid hL1
      have hc : Hid (Calls Try.prog 54 #[.agg #[.slice au L cu, .int .i64 ((B.length : Int) + (k : Int))], .int .i64 1] wr fun e W' => ∃ v', e = .returned (.agg #[v', .int .i64 ((B.length : Int) + ((k : Int) + 1))]) ∧
          W'.ownsRow base 5 1 v' L1 (nums .u8 (pack (B ++ List.replicate (k + 1) true))) ∧ Kept base wr W') := Go.Lib.hid (by
        have := RAdd_any wr base (.slice au L cu) (B ++ List.replicate k true) true (by rw [← hL]; exact ho) hbw (by omega)
        rw [hBl, List.append_assoc, ← List.replicate_succ'] at this
        have e1 : ((B.length + k : Nat) : Int) = (B.length : Int) + (k : Int) := by omega
        have e2 : ((B.length + k + 1 : Nat) : Int) = (B.length : Int) + ((k : Int) + 1) := by omega
        rw [e1, e2, ← hL1] at this
        exact this)
      clear hL1
      clear hx hy ho hkp hL
      go_wp2_with (go_at_call 54; with_reducible refine hc.out.mono ?_; rintro e w1 ⟨v1, rfl, ho1, hk1⟩; obtain ⟨a1, c1, rfl⟩ := own_form ho1; have hx1 := Go.Lib.hid (hx'.out.kept hk1); have hy1 := Go.Lib.hid (hy'.out.kept hk1); obtain ⟨z0, z1, z2, z3⟩ := hx1.out.cells; have ho1' := Go.Lib.hid ho1; have hk1' := Go.Lib.hid (hkp'.out.trans hk1); clear ho1 hk1)
      go_roundw
      case rel =>
        refine ⟨k + 1, .slice a1 L1 c1, by omega, by go_num, ?_, ?_, ?_, ?_⟩
        · exact hx1.out.set _ _
        · exact (hy1.out.other (by simp) _).other (by simp) _
        · rw [← hL1'.out]; exact own_set (own_set ho1'.out (hx1.out.apart ho1'.out) _ _) (hx1.out.apart ho1'.out) _ _
        · exact (hk1'.out.setCell hbase (Nat.le_refl _) _).setCell hbase (Nat.le_refl _) _
      case measure => (simp [intOf] <;> omega)
    · obtain rfl : k = n := by omega
      by_cases h48 : k < 48
      · have h48' : (k : Int) < 48 := by omega
        have hrun : runB k = List.replicate k true ++ [false] := by unfold runB; rw [if_pos h48]
        have hrl : runLen k = k + 1 := by unfold runLen; rw [if_neg (by omega)]
        obtain ⟨L1, hL1⟩ : ∃ L1, L1 = ((B ++ runB k).length + 7) / 8 := ⟨_, rfl⟩
        have hL1' := Go.Lib.hid hL1
        have hc : Hid (Calls Try.prog 54 #[.agg #[.slice au L cu, .int .i64 ((B.length : Int) + (k : Int))], .int .i64 0] wr fun e W' => ∃ v', e = .returned (.agg #[v', .int .i64 ((B.length + runLen k : Nat) : Int)]) ∧
            W'.ownsRow base 5 1 v' L1 (nums .u8 (pack (B ++ runB k))) ∧ Kept base wr W') := Go.Lib.hid (by
          have := RAdd_any wr base (.slice au L cu) (B ++ List.replicate k true) false (by rw [← hL]; exact ho) hbw (by omega)
          rw [hBl, List.append_assoc, ← hrun] at this
          rw [hrl]
          have e1 : ((B.length + k : Nat) : Int) = (B.length : Int) + (k : Int) := by omega
          rw [e1, ← hL1] at this
          exact this)
        clear hL1
        clear hx hy ho hkp hrun hrl hL
        obtain ⟨m, hm⟩ : ∃ m, m = ((B.length + runLen k : Nat) : Int) := ⟨_, rfl⟩
        rw [← hm] at hc
        have hm' := Go.Lib.hid hm
        clear hm
        go_wp2_with (go_at_call 54; with_reducible refine hc.out.mono ?_; rintro e w1 ⟨v1, rfl, ho1, hk1⟩; obtain ⟨a1, c1, rfl⟩ := own_form ho1; have hx1 := Go.Lib.hid (hx'.out.kept hk1); have hy1 := Go.Lib.hid (hy'.out.kept hk1); obtain ⟨z0, z1, z2, z3⟩ := hx1.out.cells; obtain ⟨q0, q1, q2, q3⟩ := hy1.out.cells; have ho1' := Go.Lib.hid ho1; have hk1' := Go.Lib.hid (hkp'.out.trans hk1); clear ho1 hk1)
        (try simp only [Exit.inBlock, Exit.then])
        have ap1 := hx1.out.apart ho1'.out
        have ap2 := hy1.out.apart ho1'.out
        have hy2 := ((hy1.out.other (p := ⟨W.heap.size, 0, none⟩) (by simp) (.slice a1 L1 c1)).other (p := ⟨W.heap.size, 1, none⟩) (by simp) (.int .i64 m)).set (.slice a1 L1 c1) m
        refine bodyPost_ret (results_cell_row (by rfl) _ _ (W.heap.size + 1) _ _ _ _ rfl hy2 Try.underlying27 rfl (by kernel_rfl)) rfl ?_
        refine ⟨_, by rw [hm'.out], ?_, ?_⟩
        · rw [← hL1'.out]; exact own_set (own_set (own_set (own_set ho1'.out ap1 _ _) ap1 _ _) ap2 _ _) ap2 _ _
        · exact (((hk1'.out.setCell hbase (Nat.le_refl _) _).setCell hbase (Nat.le_refl _) _).setCell hbase (by simp) _).setCell hbase (by simp) _
      · obtain rfl : k = 48 := by omega
        have hrun : runB 48 = List.replicate 48 true := by unfold runB; rw [if_neg (by decide)]; simp
        have hrl : runLen 48 = 48 := by unfold runLen; rw [if_pos rfl]
        have hrun' := Go.Lib.hid hrun
        have hrl' := Go.Lib.hid hrl
        clear hx ho hkp hrun hrl hL
        obtain ⟨y0, y1, y2, y3⟩ := hy.cells
        clear hy
        go_wp2
        (try simp only [Exit.inBlock, Exit.then])
        have ap2 := hy'.out.apart ho'.out
        refine bodyPost_ret (results_cell_row (by rfl) _ _ (W.heap.size + 1) _ _ _ _ rfl (hy'.out.set _ _) Try.underlying27 rfl (by kernel_rfl)) rfl ?_
        refine ⟨_, by rw [hrl'.out]; rfl, by rw [hrun'.out, ← hL'.out]; exact own_set (own_set ho'.out ap2 _ _) ap2 _ _, (hkp'.out.setCell hbase (by simp) _).setCell hbase (by simp) _⟩
end Go.Proofs.Ytbegifpnbbpinaa

/- Contracts of the reference of unary: Write and Read. -/
namespace Go.Proofs.Ytbegifpnbbpinaa
open Go.RowKit Cad

theorem RuWrite_bad (W : World) (a : Option Addr) (len cap : Nat) (N : Int) (l : List Int) (n : Int) (hr : Row .u8 W a len cap l) (hN : (Lit.int .i64 N).wf = true) (hv : ¬ Valid l N) :
    Calls Try.prog 19 #[.agg #[.slice a len cap, .int .i64 N], .int .i64 n] W fun e W' => e = .returned (.tuple #[.agg #[.slice none 0 0, .int .i64 0], .int .i64 8]) ∧ Below W.heap.size W W' := by
  obtain ⟨W0, hW0, hbE, hs0, hx0, hy0⟩ := two_boxes W (.slice a len cap) N
  have hrE := hr.below hbE (Nat.le_refl _)
  have hck := Go.Lib.hid (RCheck_any W0 a len cap N l hrE hN 8 (.inr ⟨hv, rfl⟩))
  have hy0' := Go.Lib.hid hy0
  have hbE' := Go.Lib.hid hbE
  clear hr hrE hx0 hy0 hbE hN
  go_enter Try.func19, Try.ntmps19
  go_wp2_with (go_at_call 22; rw [← hW0]; refine hck.out.mono ?_; rintro e w1 ⟨rfl, hb1⟩; obtain ⟨e0, e1, f0, f1⟩ := (hy0'.out.below hb1 (by omega)).cells; have hb1' := Go.Lib.hid hb1; clear hb1 hW0)
  (try simp only [Exit.inBlock, Exit.then])
  refine bodyPost_ret (results_box_tmp (by rfl) _ _ (W.heap.size + 1) _ _ rfl ((hy0'.out.below hb1'.out (by omega)).set _ _)) rfl ?_
  exact ⟨rfl, ((hbE'.out.trans (hb1'.out.mono (by omega))).setCell (by simp) _).setCell (by simp) _⟩

theorem RuWrite_arg (W : World) (a : Option Addr) (len cap : Nat) (N : Int) (l : List Int) (n : Int) (hr : Row .u8 W a len cap l) (hN : (Lit.int .i64 N).wf = true) (hv : Valid l N) (hn : (Lit.int .i64 n).wf = true) (h : n < 0 ∨ 48 < n) :
    Calls Try.prog 19 #[.agg #[.slice a len cap, .int .i64 N], .int .i64 n] W fun e W' => e = .returned (.tuple #[.agg #[.slice none 0 0, .int .i64 0], .int .i64 2]) ∧ Below W.heap.size W W' := by
  obtain ⟨W0, hW0, hbE, hs0, hx0, hy0⟩ := two_boxes W (.slice a len cap) N
  have hrE := hr.below hbE (Nat.le_refl _)
  have hck := Go.Lib.hid (RCheck_any W0 a len cap N l hrE hN 0 (.inl ⟨hv, rfl⟩))
  have hy0' := Go.Lib.hid hy0
  have hbE' := Go.Lib.hid hbE
  have bn := bounds_i64 hn
  have key : n < 0 ∨ (¬ n < 0 ∧ 48 < n) := by omega
  clear hr hrE hx0 hy0 hbE hN hn h
  rcases key with h | ⟨h, h'⟩
  all_goals
    go_enter Try.func19, Try.ntmps19
    go_wp2_with (go_at_call 22; rw [← hW0]; refine hck.out.mono ?_; rintro e w1 ⟨rfl, hb1⟩; obtain ⟨e0, e1, f0, f1⟩ := (hy0'.out.below hb1 (by omega)).cells; have hb1' := Go.Lib.hid hb1; clear hb1 hW0)
    (try simp only [Exit.inBlock, Exit.then])
    refine bodyPost_ret (results_box_tmp (by rfl) _ _ (W.heap.size + 1) _ _ rfl ((hy0'.out.below hb1'.out (by omega)).set _ _)) rfl ?_
    exact ⟨rfl, ((hbE'.out.trans (hb1'.out.mono (by omega))).setCell (by simp) _).setCell (by simp) _⟩

theorem RuWrite_full (W : World) (a : Option Addr) (len cap : Nat) (B : List Bool) (n : Nat) (hr : Row .u8 W a len cap (pack B)) (hB : B.length ≤ 330000) (hf : 330000 < B.length + runLen n) (hn : n ≤ 48) :
    Calls Try.prog 19 #[.agg #[.slice a len cap, .int .i64 B.length], .int .i64 n] W fun e W' => e = .returned (.tuple #[.agg #[.slice none 0 0, .int .i64 0], .int .i64 18]) ∧ Below W.heap.size W W' := by
  obtain ⟨W0, hW0, hbE, hs0, hx0, hy0⟩ := two_boxes W (.slice a len cap) B.length
  have hrE := hr.below hbE (Nat.le_refl _)
  have hck := Go.Lib.hid (RCheck_any W0 a len cap B.length (pack B) hrE (bounds_of_len (by omega)) 0 (.inl ⟨⟨B, rfl, hB, rfl⟩, rfl⟩))
  have hlo := Go.Lib.hid (fun w => RuLong_ok w n hn)
  have hx0' := Go.Lib.hid hx0
  have hy0' := Go.Lib.hid hy0
  have hbE' := Go.Lib.hid hbE
  have hn1 : ¬ (n : Int) < 0 := by omega
  have hn2 : (n : Int) ≤ 48 := by omega
  obtain ⟨q, hq⟩ : ∃ q, q = runLen n := ⟨_, rfl⟩
  rw [← hq] at hlo hf
  have hf' : (330000 : Int) < (B.length : Int) + (q : Int) := by omega
  have hq2 : (q : Int) ≤ 48 := by have := runLen_le hn; omega
  clear hr hrE hx0 hy0 hbE hf hq
  go_enter Try.func19, Try.ntmps19
  go_wp2_with (go_at_call 22; rw [← hW0]; refine hck.out.mono ?_; rintro e w1 ⟨rfl, hb1⟩; obtain ⟨c0, c1, c2, c3⟩ := (hx0'.out.below hb1 (by omega)).cells; obtain ⟨e0, e1, f0, f1⟩ := (hy0'.out.below hb1 (by omega)).cells; have hb1' := Go.Lib.hid hb1; clear hb1 hW0)
  go_quiet ((go_at_call 42; refine (hlo.out _).mono ?_; rintro e w2 ⟨rfl, rfl⟩; exact ⟨rfl, _, rfl⟩))
  go_wp2
  (try simp only [Exit.inBlock, Exit.then])
  refine bodyPost_ret (results_box_tmp (by rfl) _ _ (W.heap.size + 1) _ _ rfl (((hy0'.out.below (Below.drewN hb1'.out _) (by omega))).set _ _)) rfl ?_
  exact ⟨rfl, ((hbE'.out.trans ((Below.drewN hb1'.out _).mono (by omega))).setCell (by simp) _).setCell (by simp) _⟩

theorem RuWrite_ok (W : World) (a : Option Addr) (len cap : Nat) (B : List Bool) (n : Nat) (hr : Row .u8 W a len cap (pack B)) (hB : B.length + runLen n ≤ 330000) (hn : n ≤ 48) :
    Calls Try.prog 19 #[.agg #[.slice a len cap, .int .i64 B.length], .int .i64 n] W fun e W' => ∃ b c, e = .returned (.tuple #[.agg #[.slice b ((B.length + runLen n + 7) / 8) c, .int .i64 ((B.length + runLen n : Nat) : Int)], .int .i64 0]) ∧
      Row .u8 W' b ((B.length + runLen n + 7) / 8) c (pack (B ++ runB n)) ∧ Below W.heap.size W W' := by
  obtain ⟨W0, hW0, hbE, hs0, hx0, hy0⟩ := two_boxes W (.slice a len cap) B.length
  have hrE := hr.below hbE (Nat.le_refl _)
  have hl := hr.hlen
  rw [pack_len] at hl
  have hck := Go.Lib.hid (RCheck_any W0 a len cap B.length (pack B) hrE (bounds_of_len (by omega)) 0 (.inl ⟨⟨B, rfl, by omega, rfl⟩, rfl⟩))
  have hlo := Go.Lib.hid (fun w => RuLong_ok w n hn)
  have hx0' := Go.Lib.hid hx0
  have hy0' := Go.Lib.hid hy0
  have hbE' := Go.Lib.hid hbE
  have hn1 : ¬ (n : Int) < 0 := by omega
  have hn2 : (n : Int) ≤ 48 := by omega
  have htw : Hid (∀ w, Below W0.heap.size W0 w → Calls Try.prog 17 #[.agg #[.slice a len cap, .int .i64 B.length]] w fun e W' => ∃ v', e = .returned (.agg #[v', .int .i64 B.length]) ∧
      W'.ownsRow w.heap.size 5 1 v' len (nums .u8 (pack B)) ∧ Below w.heap.size w W') := Go.Lib.hid fun w hw => RTwin_ok w a len cap B.length (pack B) (hrE.below hw (Nat.le_refl _)) (by omega)
  obtain ⟨q, hq⟩ : ∃ q, q = runLen n := ⟨_, rfl⟩
  obtain ⟨m, hm⟩ : ∃ m, m = (B.length + runLen n + 7) / 8 := ⟨_, rfl⟩
  obtain ⟨M, hM⟩ : ∃ M, M = B.length + runLen n := ⟨_, rfl⟩
  have hBl : (B ++ runB n).length = B.length + runLen n := by rw [List.length_append, runB_len hn]
  have had : Hid (∀ (w : World) (base : Nat) v, base ≤ w.heap.size → w.ownsRow base 5 1 v len (nums .u8 (pack B)) → Calls Try.prog 43 #[.agg #[v, .int .i64 B.length], .int .i64 n] w fun e W' => ∃ v', e = .returned (.agg #[v', .int .i64 (M : Nat)]) ∧
      W'.ownsRow base 5 1 v' m (nums .u8 (pack (B ++ runB n))) ∧ Below base w W') := Go.Lib.hid fun w base v hb ho => by
    rw [← hl] at ho
    refine (RuAdd_ok w base v B n ho hb (by omega) hn).mono ?_
    rintro e w1 ⟨v', rfl, h1, h2⟩
    rw [hBl, ← hm] at h1
    rw [← hM]
    exact ⟨v', rfl, h1, h2.bel⟩
  rw [← hm, ← hM]
  rw [← hq] at hlo hB
  have hf' : (B.length : Int) + (q : Int) ≤ 330000 := by omega
  have hq2 : (q : Int) ≤ 48 := by have := runLen_le hn; omega
  clear hr hrE hx0 hy0 hbE hB hq hm hM hBl hl
  go_enter Try.func19, Try.ntmps19
  go_wp2_with (go_at_call 22; rw [← hW0]; refine hck.out.mono ?_; rintro e w1 ⟨rfl, hb1⟩; obtain ⟨c0, c1, c2, c3⟩ := (hx0'.out.below hb1 (by omega)).cells; have hb1' := Go.Lib.hid hb1; clear hb1 hW0)
  go_quiet ((go_at_call 42; refine (hlo.out _).mono ?_; rintro e w2 ⟨rfl, rfl⟩; exact ⟨rfl, _, rfl⟩))
  go_wp2_with (first
    | (go_at_call 17; with_reducible refine (htw.out _ ?hb).mono ?_; (case hb => exact Below.drewN hb1'.out _); rintro e w2 ⟨v2, rfl, ho2, hb2⟩; obtain ⟨a2, cp2, rfl⟩ := own_form ho2; have hb12 := Go.Lib.hid ((Below.drewN hb1'.out nq).trans (hb2.mono (Below.drewN hb1'.out nq).size)); have ho2' := Go.Lib.hid (own_base ho2 (Below.drewN hb1'.out nq).size); clear ho2 hb2)
    | (go_at_call 43; with_reducible refine (had.out _ W0.heap.size _ ?hb ?ho).mono ?_; (case hb => exact hb12.out.size); (case ho => exact ho2'.out); rintro e w3 ⟨v3, rfl, ho3, hb3⟩; obtain ⟨a3, cp3, rfl⟩ := own_form ho3; have hb13 := Go.Lib.hid (hb12.out.trans hb3); obtain ⟨e0, e1, f0, f1⟩ := (hy0'.out.below hb13.out (by omega)).cells; have ho3' := Go.Lib.hid ho3; clear ho3 hb3))
  (try simp only [Exit.inBlock, Exit.then])
  have hy3 := hy0'.out.below hb13.out (by omega)
  have hr3 := Row.of_own ho3'.out (u8_wf (pack_wf _))
  refine bodyPost_ret (results_box_tmp (by rfl) _ _ (W.heap.size + 1) _ _ rfl (hy3.set _ _)) rfl ?_
  refine ⟨a3, cp3, rfl, (hr3.box hy3 0 _).box (hy3.set0 _) 1 _, ?_⟩
  exact ((hbE'.out.trans (hb13.out.mono (by omega))).setCell (by simp) _).setCell (by simp) _

/-- what Got says: the number and the index behind it, or -1 and 0 -/
def gotV (B : List Bool) (i : Nat) : Int × Nat :=
  let n := lead (B.drop i) 48
  if n = 48 then (48, i + 48) else if i + n < B.length then ((n : Int), i + n + 1) else (-1, 0)
theorem gotV_read {B : List Bool} {i : Nat} {g : Int} {m : Nat} (h : gotV B i = (g, m)) : (g < 0 ∧ m = 0 ∧ readV B i = (0, 0, 24)) ∨ ∃ p : Nat, g = p ∧ readV B i = (p, m, 0) := by
  unfold gotV at h
  unfold readV
  simp only at h ⊢
  split at h
  · rename_i e
    cases h
    right; exact ⟨48, rfl, by rw [if_pos e]⟩
  · rename_i e
    rw [if_neg e]
    split at h
    · rename_i e2
      cases h
      right; exact ⟨_, rfl, by rw [if_pos e2]⟩
    · rename_i e2
      cases h
      left; exact ⟨by decide, rfl, by rw [if_neg e2]⟩

theorem RuGot_ok (W : World) (a : Option Addr) (len cap : Nat) (B : List Bool) (i : Nat) (hr : Row .u8 W a len cap (pack B)) (hB : B.length ≤ 330000) (hi : i < B.length) (g : Int) (m : Nat) (hv : gotV B i = (g, m)) :
    Calls Try.prog 44 #[.agg #[.slice a len cap, .int .i64 B.length], .int .i64 i] W fun e W' => e = .returned (.tuple #[.int .i64 g, .int .i64 m]) ∧ Below W.heap.size W W' := by
  have hl := hr.hlen
  rw [pack_len] at hl
  have hbE' := Go.Lib.hid (below1 W (.cells #[.slice a len cap, .int .i64 B.length] 27))
  have hx0' := Go.Lib.hid (show BoxAt (W.alloc (.cells #[.slice a len cap, .int .i64 B.length] 27)) W.heap.size (.slice a len cap) B.length from heap_alloc_new _ _)
  have hrE := Go.Lib.hid (hr.below hbE'.out (Nat.le_refl _))
  have hv' := Go.Lib.hid hv
  have hsz := Go.Lib.hid (World.size_alloc W (.cells #[.slice a len cap, .int .i64 B.length] 27))
  obtain ⟨W0, hW0⟩ : ∃ W0, W0 = W.alloc (.cells #[.slice a len cap, .int .i64 B.length] 27) := ⟨_, rfl⟩
  rw [← hW0] at hbE' hx0' hrE hsz
  clear hr hv
  go_enter Try.func44, Try.ntmps44
  go_wp2
  rw [← hW0]
  clear hW0
  go_loopw [6] (fun n wr => ∃ k : Nat, k ≤ 48 ∧ i + k ≤ B.length ∧ n = .int .i64 k ∧ (∀ j, j < k → (B.drop i).getD j false = true) ∧ Below W0.heap.size W0 wr) (fun n _ => 48 - (intOf n).toNat)
  case atStart => exact ⟨0, by omega, by omega, rfl, fun j h => by omega, Below.refl _ _⟩
  case round =>
    obtain ⟨k, hk, hik, rfl, hones, hb⟩ := hrel
    have hones' := Go.Lib.hid hones
    obtain ⟨x0, x1, x2, x3⟩ := (hx0'.out.below hb (by have := hsz.out; omega)).cells
    have hrr := hrE.out.below hb (Nat.le_refl _)
    have hb' := Go.Lib.hid hb
    have hlen : (B.drop i).length = B.length - i := by simp
    have hdg := drop_getD B i k
    clear hones
    by_cases hin : i + k < B.length
    · have hin' : (i : Int) + (k : Int) < (B.length : Int) := by omega
      by_cases hlt : k < 48
      · have hlt' : (k : Int) < 48 := by omega
        have hc := RAt_ok wr a len cap B.length (pack B) hrr (i + k) (by omega)
        rw [bit_pack] at hc
        have e1 : ((i + k : Nat) : Int) = (i : Int) + (k : Int) := by omega
        rw [e1] at hc
        cases hbit : B.getD (i + k) false with
        | true =>
          rw [hbit] at hc hdg
          have hc' := Go.Lib.hid hc
          clear hc hb hrr e1 hin
          go_wp2_with (go_at_call 24; with_reducible refine hc'.out.mono ?_; rintro e w1 ⟨rfl, hb1⟩; have hb1' := Go.Lib.hid (hb'.out.trans (hb1.mono hb'.out.size)); clear hb1)
          go_roundw
          case rel => exact ⟨k + 1, by omega, by omega, by go_num, fun j hj => by
            by_cases e : j = k
            · subst e; exact hdg
            · exact hones'.out j (by omega), hb1'.out⟩
          case measure => (simp [intOf] <;> omega)
        | false =>
          rw [hbit] at hc hdg
          have hc' := Go.Lib.hid hc
          have hlv := lead_eq (B.drop i) 48 k hk hones'.out (fun _ => hdg) (by omega)
          have hz := hv'.out
          unfold gotV at hz
          simp only [hlv] at hz
          rw [if_neg (by omega), if_pos hin] at hz
          cases hz
          clear hc hb hrr e1 hlv
          have h48 : ¬ (k : Int) = 48 := by omega
          go_wp2_with (go_at_call 24; with_reducible refine hc'.out.mono ?_; rintro e w1 ⟨rfl, hb1⟩; have hb1' := Go.Lib.hid (hb'.out.trans (hb1.mono hb'.out.size)); obtain ⟨z0, z1, z2, z3⟩ := (hx0'.out.below hb1'.out (by have := hsz.out; omega)).cells; clear hb1)
          go_ret2
          exact ⟨by go_num, hbE'.out.trans (hb1'.out.mono (by have := hsz.out; omega))⟩
      · obtain rfl : k = 48 := by omega
        have hlv := lead_eq (B.drop i) 48 48 hk hones'.out (fun h => absurd h (by omega)) (by omega)
        have hz := hv'.out
        unfold gotV at hz
        simp only [hlv, if_true] at hz
        cases hz
        clear hb hrr hlv
        go_wp2
        go_ret2
        exact ⟨by go_num, hbE'.out.trans (hb'.out.mono (by have := hsz.out; omega))⟩
    · have hin' : (B.length : Int) ≤ (i : Int) + (k : Int) := by omega
      by_cases h48 : k = 48
      · subst h48
        have hlv := lead_eq (B.drop i) 48 48 hk hones'.out (fun h => absurd h (by omega)) (by omega)
        have hz := hv'.out
        unfold gotV at hz
        simp only [hlv, if_true] at hz
        cases hz
        clear hb hrr hlv
        go_wp2
        go_ret2
        exact ⟨by go_num, hbE'.out.trans (hb'.out.mono (by have := hsz.out; omega))⟩
      · have hlv := lead_eq (B.drop i) 48 k hk hones'.out (fun _ => by rw [hdg]; exact getD_ge _ _ (by omega)) (by omega)
        have hz := hv'.out
        unfold gotV at hz
        simp only [hlv] at hz
        rw [if_neg h48, if_neg hin] at hz
        cases hz
        have h48' : ¬ (k : Int) = 48 := by omega
        clear hb hrr hlv
        go_wp2
        go_ret2
        exact ⟨by go_num, hbE'.out.trans (hb'.out.mono (by have := hsz.out; omega))⟩

theorem RuRead_bad (W : World) (a : Option Addr) (len cap : Nat) (N : Int) (l : List Int) (i : Int) (hr : Row .u8 W a len cap l) (hN : (Lit.int .i64 N).wf = true) (hv : ¬ Valid l N) :
    Calls Try.prog 20 #[.agg #[.slice a len cap, .int .i64 N], .int .i64 i] W fun e W' => e = .returned (.tuple #[.int .i64 0, .int .i64 0, .int .i64 8]) ∧ Below W.heap.size W W' := by
  have hbE' := Go.Lib.hid (below1 W (.cells #[.slice a len cap, .int .i64 N] 27))
  have hck := Go.Lib.hid (RCheck_any _ a len cap N l (hr.below hbE'.out (Nat.le_refl _)) hN 8 (.inr ⟨hv, rfl⟩))
  clear hr hN hv
  go_enter Try.func20, Try.ntmps20
  go_wp2_with (go_at_call 22; refine hck.out.mono ?_; rintro e w1 ⟨rfl, hb1⟩; have hb1' := Go.Lib.hid hb1; clear hb1)
  go_ret3
  exact ⟨rfl, hbE'.out.trans (hb1'.out.mono (by simp))⟩
theorem RuRead_out (W : World) (a : Option Addr) (len cap : Nat) (N : Int) (l : List Int) (i er : Int) (hr : Row .u8 W a len cap l) (hN : (Lit.int .i64 N).wf = true) (hv : Valid l N) (h : (i < 0 ∧ er = 2) ∨ (¬ i < 0 ∧ N ≤ i ∧ er = 24)) :
    Calls Try.prog 20 #[.agg #[.slice a len cap, .int .i64 N], .int .i64 i] W fun e W' => e = .returned (.tuple #[.int .i64 0, .int .i64 0, .int .i64 er]) ∧ Below W.heap.size W W' := by
  have hbE' := Go.Lib.hid (below1 W (.cells #[.slice a len cap, .int .i64 N] 27))
  have hx0' := Go.Lib.hid (show BoxAt (W.alloc (.cells #[.slice a len cap, .int .i64 N] 27)) W.heap.size (.slice a len cap) N from heap_alloc_new _ _)
  have hck := Go.Lib.hid (RCheck_any _ a len cap N l (hr.below hbE'.out (Nat.le_refl _)) hN 0 (.inl ⟨hv, rfl⟩))
  clear hr hN hv
  rcases h with ⟨h, rfl⟩ | ⟨h, h', rfl⟩
  all_goals
    go_enter Try.func20, Try.ntmps20
    go_wp2_with (go_at_call 22; refine hck.out.mono ?_; rintro e w1 ⟨rfl, hb1⟩; obtain ⟨c0, c1, c2, c3⟩ := (hx0'.out.below hb1 (by simp)).cells; have hb1' := Go.Lib.hid hb1; clear hb1)
    go_ret3
    exact ⟨rfl, hbE'.out.trans (hb1'.out.mono (by simp))⟩
theorem RuRead_in (W : World) (a : Option Addr) (len cap : Nat) (B : List Bool) (i : Nat) (hr : Row .u8 W a len cap (pack B)) (hB : B.length ≤ 330000) (hi : i < B.length) (p q er : Nat) (hv : readV B i = (p, q, er)) :
    Calls Try.prog 20 #[.agg #[.slice a len cap, .int .i64 B.length], .int .i64 i] W fun e W' => e = .returned (.tuple #[.int .i64 p, .int .i64 q, .int .i64 er]) ∧ Below W.heap.size W W' := by
  have hbE' := Go.Lib.hid (below1 W (.cells #[.slice a len cap, .int .i64 B.length] 27))
  have hx0' := Go.Lib.hid (show BoxAt (W.alloc (.cells #[.slice a len cap, .int .i64 B.length] 27)) W.heap.size (.slice a len cap) B.length from heap_alloc_new _ _)
  have hrE := Go.Lib.hid (hr.below hbE'.out (Nat.le_refl _))
  have hck := Go.Lib.hid (RCheck_any _ a len cap B.length (pack B) hrE.out (bounds_of_len (by omega)) 0 (.inl ⟨⟨B, rfl, by omega, rfl⟩, rfl⟩))
  obtain ⟨g, m, hg⟩ : ∃ g m, gotV B i = (g, m) := ⟨_, _, rfl⟩
  obtain ⟨W0, hW0⟩ : ∃ W0, W0 = W.alloc (.cells #[.slice a len cap, .int .i64 B.length] 27) := ⟨_, rfl⟩
  have hgot : Hid (∀ w, Below W0.heap.size W0 w → Calls Try.prog 44 #[.agg #[.slice a len cap, .int .i64 B.length], .int .i64 i] w fun e W' => e = .returned (.tuple #[.int .i64 g, .int .i64 m]) ∧ Below w.heap.size w W') := Go.Lib.hid fun w hw =>
    RuGot_ok w a len cap B i (by rw [hW0] at hw; exact hrE.out.below hw (Nat.le_refl _)) hB hi g m hg
  rw [← hW0] at hck hbE' hx0'
  have hlt : W.heap.size < W0.heap.size := by rw [hW0]; simp
  have hg' := gotV_read hg
  have hi' : (i : Int) < (B.length : Int) := by omega
  clear hr hrE hg
  rcases hg' with ⟨hneg, rfl, hrd⟩ | ⟨p', rfl, hrd⟩
  all_goals
    rw [hv] at hrd
    cases hrd
    clear hv
    go_enter Try.func20, Try.ntmps20
    go_wp2_with (first
      | (go_at_call 22; rw [← hW0]; refine hck.out.mono ?_; rintro e w1 ⟨rfl, hb1⟩; obtain ⟨c0, c1, c2, c3⟩ := (hx0'.out.below hb1 hlt).cells; have hb1' := Go.Lib.hid hb1; clear hb1 hW0)
      | (go_at_call 44; refine (hgot.out _ hb1'.out).mono ?_; rintro e w2 ⟨rfl, hb2⟩; have hb2' := Go.Lib.hid (hb1'.out.trans (hb2.mono hb1'.out.size)); clear hb2))
    go_ret3
    exact ⟨rfl, hbE'.out.trans (hb2'.out.mono (Nat.le_of_lt hlt))⟩
end Go.Proofs.Ytbegifpnbbpinaa

/- What the statements of bits share: the chapter's examples, and a number's lowest bits. -/
namespace Go.Proofs.Ytbegifpnbbpinaa
open Go.RowKit Cad

theorem two_sub (v n : Nat) : v &&& (2 ^ n - 1) = v % 2 ^ n := Nat.and_two_pow_sub_one_eq_mod v n
theorem pk1 : pack ([] ++ numB 5 3) = [5] := by rfl
theorem pk1' : pack (numB 5 3) = [5] := by rfl
theorem pk2 : pack (numB 5 3 ++ numB 6 4) = [53] := by rfl
theorem nb3 : natB (midB (numB 5 3 ++ numB 6 4) 2 (2 + 4)) = 13 := by rfl
theorem al1 (w : World) : Calls Try.prog 13 #[.agg #[.slice none 0 0, .int .i64 0], .int .u64 5, .int .i64 3] w fun e W' => ∃ b c, e = .returned (.tuple #[.agg #[.slice b 1 c, .int .i64 3], .int .i64 0]) ∧ Row .u8 W' b 1 c [5] ∧ Below w.heap.size w W' := by
  have := BPut_ok w none 0 0 [] 5 3 (by rw [show pack [] = [] by rfl]; exact Row.nil_row _ _) (by simp) (by omega) (by omega)
  rw [pk1] at this
  exact this
theorem al2 (w : World) (b : Option Addr) (c : Nat) (h : Row .u8 w b 1 c [5]) : Calls Try.prog 13 #[.agg #[.slice b 1 c, .int .i64 3], .int .u64 6, .int .i64 4] w fun e W' => ∃ b c, e = .returned (.tuple #[.agg #[.slice b 1 c, .int .i64 7], .int .i64 0]) ∧ Row .u8 W' b 1 c [53] ∧ Below w.heap.size w W' := by
  have := BPut_ok w b 1 c (numB 5 3) 6 4 (by rw [pk1']; exact h) (by rw [numB_len]; omega) (by omega) (by omega)
  rw [pk2, numB_len] at this
  exact this
theorem al3 (w : World) (b : Option Addr) (c : Nat) (h : Row .u8 w b 1 c [53]) : Calls Try.prog 33 #[.agg #[.slice b 1 c, .int .i64 7], .int .i64 2, .int .i64 4] w fun e W' => e = .returned (.tuple #[.int .u64 13, .int .i64 0]) ∧ Below w.heap.size w W' := by
  have := BGet_ok w b 1 c (numB 5 3 ++ numB 6 4) 2 4 (by rw [pk2]; exact h) (by rw [List.length_append, numB_len, numB_len]; omega) (by omega) (by rw [List.length_append, numB_len, numB_len]; omega)
  rw [nb3, List.length_append, numB_len, numB_len] at this
  exact this

end Go.Proofs.Ytbegifpnbbpinaa

/- BitsGot: what was put is got, wherever it stands. -/
namespace Go.Proofs.Ytbegifpnbbpinaa
open Go.RowKit Cad

theorem mid_behind (A B : List Bool) : midB (A ++ B) A.length (A.length + B.length) = B := by
  unfold midB
  rw [List.drop_left, Nat.add_sub_cancel_left, List.take_length]
theorem mid_front (A B : List Bool) {i t : Nat} (h : i ≤ t) (ht : t ≤ A.length) : midB (A ++ B) i t = midB A i t := by
  unfold midB
  rw [List.drop_append_of_le_length (by omega), List.take_append_of_le_length (by simp; omega)]
theorem natB_numB_self {v n : Nat} (h : v < 2 ^ n) : natB (numB v n) = v := by rw [natB_numB, Nat.mod_eq_of_lt h]

theorem box1 (W : World) (v : Value) (N : Int) : BoxAt (W.alloc (.cells #[v, .int .i64 N] 27)) W.heap.size v N := heap_alloc_new _ _
end Go.Proofs.Ytbegifpnbbpinaa

/- BitsParts: joining, cutting, bytes and filling up are the reference's. -/
namespace Go.Proofs.Ytbegifpnbbpinaa
open Go.RowKit Cad

/-- a call that hands back bits and an error -/
def Res (f : FuncId) (args : Array Value) (W : World) (m : Nat) (l : List Int) (n e : Int) : Prop :=
  Calls Try.prog f args W fun r W' => ∃ b c, r = .returned (.tuple #[.agg #[.slice b m c, .int .i64 n], .int .i64 e]) ∧ Row .u8 W' b m c l ∧ Below W.heap.size W W'
theorem Res.none {f : FuncId} {args : Array Value} {W : World} {e : Int} (h : Calls Try.prog f args W fun r W' => r = .returned (.tuple #[.agg #[.slice none 0 0, .int .i64 0], .int .i64 e]) ∧ Below W.heap.size W W') : Res f args W 0 [] 0 e :=
  h.mono fun _ _ ⟨h1, h2⟩ => ⟨Option.none, 0, h1, Row.nil_row _ _, h2⟩
theorem Res.own {f : FuncId} {args : Array Value} {W : World} {m : Nat} {l : List Int} {n e : Int} (hl : ∀ x ∈ l, 0 ≤ x ∧ x ≤ 255) (h : Calls Try.prog f args W fun r W' => ∃ v', r = .returned (.tuple #[.agg #[v', .int .i64 n], .int .i64 e]) ∧
    W'.ownsRow W.heap.size 5 1 v' m (nums .u8 l) ∧ Below W.heap.size W W') : Res f args W m l n e :=
  h.mono fun _ _ ⟨v', h1, h2, h3⟩ => by
    obtain ⟨b, c, rfl⟩ := own_form h2
    exact ⟨b, c, h1, Row.of_own h2 (u8_wf hl), h3⟩

section
variable (a : Option Addr) (len cap : Nat) (N : Int) (l : List Int) (hN : (Lit.int .i64 N).wf = true)
end

theorem same_both (m : Nat) (l : List Int) (n : Int) : Hid (∀ w b c b' c', Row .u8 w b m c l → Row .u8 w b' m c' l → Calls Try.prog 21 #[.agg #[.slice b m c, .int .i64 n], .agg #[.slice b' m c', .int .i64 n]] w fun e W' => e = .returned (.bool true) ∧ Below w.heap.size w W') := Go.Lib.hid fun w b c b' c' h h' => by
  have := RSame_ok w b m c n l h b' m c' n l h'
  simpa using this

end Go.Proofs.Ytbegifpnbbpinaa

/- What the statements of unary share: the chapter's examples; both sides say the same. -/
namespace Go.Proofs.Ytbegifpnbbpinaa
open Go.RowKit Cad

theorem RTwin_row (W : World) (a : Option Addr) (len cap : Nat) (N : Int) (l : List Int) (hr : Row .u8 W a len cap l) (hlen : len ≤ 1000000000) :
    Calls Try.prog 17 #[.agg #[.slice a len cap, .int .i64 N]] W fun e W' => ∃ b c, e = .returned (.agg #[.slice b len c, .int .i64 N]) ∧ Row .u8 W' b len c l ∧ Below W.heap.size W W' :=
  (RTwin_ok W a len cap N l hr hlen).mono fun _ _ ⟨v', h1, h2, h3⟩ => by
    obtain ⟨b, c, rfl⟩ := own_form h2
    exact ⟨b, c, h1, Row.of_own h2 hr.wf, h3⟩

theorem ulength_both (n : Int) (hn : (Lit.int .i64 n).wf = true) : ∃ p e : Int,
    (∀ w, Calls Try.prog 10 #[.int .i64 n] w fun r W' => r = .returned (.tuple #[.int .i64 p, .int .i64 e]) ∧ w = W') ∧
    (∀ w, Calls Try.prog 18 #[.int .i64 n] w fun r W' => r = .returned (.tuple #[.int .i64 p, .int .i64 e]) ∧ w = W') := by
  by_cases h : n < 0 ∨ 48 < n
  · exact ⟨0, 2, fun w => ULength_arg w n hn h, fun w => RuLength_arg w n hn h⟩
  · obtain ⟨m, rfl⟩ : ∃ m : Nat, n = m := ⟨n.toNat, by omega⟩
    exact ⟨_, 0, fun w => ULength_ok w m (by omega), fun w => RuLength_ok w m (by omega)⟩

theorem uwrite_both (N : Int) (l : List Int) (n : Int) (hN : (Lit.int .i64 N).wf = true) (hn : (Lit.int .i64 n).wf = true) : ∃ m lj k e,
    (∀ w a len cap, Row .u8 w a len cap l → Res 11 #[.agg #[.slice a len cap, .int .i64 N], .int .i64 n] w m lj k e) ∧
    (∀ w a len cap, Row .u8 w a len cap l → Res 19 #[.agg #[.slice a len cap, .int .i64 N], .int .i64 n] w m lj k e) := by
  by_cases hv : Valid l N
  · by_cases h : n < 0 ∨ 48 < n
    · exact ⟨0, [], 0, 2, fun w a len cap hr => Res.none (UWrite_arg w a len cap N l n hr hN hv hn h), fun w a len cap hr => Res.none (RuWrite_arg w a len cap N l n hr hN hv hn h)⟩
    · obtain ⟨k, rfl⟩ : ∃ m : Nat, n = m := ⟨n.toNat, by omega⟩
      obtain ⟨B, rfl, hB, rfl⟩ := hv
      by_cases hf : 330000 < B.length + runLen k
      · exact ⟨0, [], 0, 18, fun w a len cap hr => Res.none (UWrite_full w a len cap B k hr hB hf (by omega)), fun w a len cap hr => Res.none (RuWrite_full w a len cap B k hr hB hf (by omega))⟩
      · exact ⟨_, pack (B ++ runB k), _, 0, fun w a len cap hr => UWrite_ok w a len cap B k hr (by omega) (by omega), fun w a len cap hr => RuWrite_ok w a len cap B k hr (by omega) (by omega)⟩
  · exact ⟨0, [], 0, 8, fun w a len cap hr => Res.none (UWrite_bad w a len cap N l n hr hN hv), fun w a len cap hr => Res.none (RuWrite_bad w a len cap N l n hr hN hv)⟩

/-- a call that hands back three numbers -/
def Res3 (f : FuncId) (args : Array Value) (W : World) (p q e : Int) : Prop :=
  Calls Try.prog f args W fun r W' => r = .returned (.tuple #[.int .i64 p, .int .i64 q, .int .i64 e]) ∧ Below W.heap.size W W'

theorem URead_bad (W : World) (a : Option Addr) (len cap : Nat) (N : Int) (l : List Int) (i : Int) (hr : Row .u8 W a len cap l) (hN : (Lit.int .i64 N).wf = true) (hi : (Lit.int .i64 i).wf = true) (hv : ¬ Valid l N) : Res3 12 #[.agg #[.slice a len cap, .int .i64 N], .int .i64 i] W 0 0 8 :=
  URead_no W a len cap N i 8 hi (.inl rfl) fun w hw => BGet_bad w a len cap N l i 1 (hr.below hw (Nat.le_refl _)) hN hv
theorem URead_out (W : World) (a : Option Addr) (len cap : Nat) (N : Int) (l : List Int) (i er : Int) (hr : Row .u8 W a len cap l) (hN : (Lit.int .i64 N).wf = true) (hi : (Lit.int .i64 i).wf = true) (hv : Valid l N) (h : (i < 0 ∧ er = 2) ∨ (¬ i < 0 ∧ N ≤ i ∧ er = 24)) : Res3 12 #[.agg #[.slice a len cap, .int .i64 N], .int .i64 i] W 0 0 er :=
  URead_no W a len cap N i er hi (by omega) fun w hw => by
    rcases h with ⟨h, rfl⟩ | ⟨h, h', rfl⟩
    · exact BGet_arg w a len cap N l i 1 (hr.below hw (Nat.le_refl _)) hN hv (by omega) h
    · exact BGet_short w a len cap N l i 1 (hr.below hw (Nat.le_refl _)) hN hv (by omega) h (by omega)

theorem uread_both (N : Int) (l : List Int) (i : Int) (hN : (Lit.int .i64 N).wf = true) (hi : (Lit.int .i64 i).wf = true) : ∃ p q e,
    (∀ w a len cap, Row .u8 w a len cap l → Res3 12 #[.agg #[.slice a len cap, .int .i64 N], .int .i64 i] w p q e) ∧
    (∀ w a len cap, Row .u8 w a len cap l → Res3 20 #[.agg #[.slice a len cap, .int .i64 N], .int .i64 i] w p q e) := by
  by_cases hv : Valid l N
  · by_cases h : i < 0 ∨ N ≤ i
    · obtain ⟨er, her⟩ : ∃ er : Int, (i < 0 ∧ er = 2) ∨ (¬ i < 0 ∧ N ≤ i ∧ er = 24) := by
        by_cases h0 : i < 0
        · exact ⟨2, .inl ⟨h0, rfl⟩⟩
        · exact ⟨24, .inr ⟨h0, by omega, rfl⟩⟩
      exact ⟨0, 0, er, fun w a len cap hr => URead_out w a len cap N l i er hr hN hi hv her, fun w a len cap hr => RuRead_out w a len cap N l i er hr hN hv her⟩
    · obtain ⟨k, rfl⟩ : ∃ m : Nat, i = m := ⟨i.toNat, by omega⟩
      obtain ⟨B, rfl, hB, rfl⟩ := hv
      obtain ⟨p, q, er, hv⟩ : ∃ p q er, readV B k = (p, q, er) := ⟨_, _, _, rfl⟩
      exact ⟨p, q, er, fun w a len cap hr => URead_in w a len cap B k hr hB (by omega) p q er hv, fun w a len cap hr => RuRead_in w a len cap B k hr hB (by omega) p q er hv⟩
  · exact ⟨0, 0, 8, fun w a len cap hr => URead_bad w a len cap N l i hr hN hi hv, fun w a len cap hr => RuRead_bad w a len cap N l i hr hN hv⟩

theorem URead_le (W : World) (a : Option Addr) (len cap : Nat) (B : List Bool) (i : Nat) (hr : Row .u8 W a len cap (pack B)) (hB : B.length ≤ 330000) (hi : i ≤ B.length) (p q er : Nat) (hv : readV B i = (p, q, er)) :
    Calls Try.prog 12 #[.agg #[.slice a len cap, .int .i64 B.length], .int .i64 i] W fun e W' => e = .returned (.tuple #[.int .i64 p, .int .i64 q, .int .i64 er]) ∧ Below W.heap.size W W' := by
  by_cases h : i < B.length
  · exact URead_in W a len cap B i hr hB h p q er hv
  · obtain rfl : i = B.length := by omega
    rw [read_end] at hv
    cases hv
    exact URead_out W a len cap B.length (pack B) B.length 24 hr (bounds_of_len (by omega)) (bounds_of_len (by omega)) ⟨B, rfl, hB, rfl⟩ (.inr ⟨by omega, by omega, rfl⟩)

/-- a run alone -/
theorem UWrite_alone (w : World) (n : Nat) (hn : n ≤ 48) (k m : Nat) (nI kI : Int) (hnI : (n : Int) = nI) (hkI : (k : Int) = kI) (hk : runLen n = k) (hm : (k + 7) / 8 = m) (l : List Int) (hl : pack (runB n) = l) :
    Calls Try.prog 11 #[.agg #[.slice none 0 0, .int .i64 0], .int .i64 nI] w fun e W' => ∃ b c, e = .returned (.tuple #[.agg #[.slice b m c, .int .i64 kI], .int .i64 0]) ∧ Row .u8 W' b m c l ∧ Below w.heap.size w W' := by
  subst hnI
  subst hkI
  have := UWrite_ok w none 0 0 [] n (by rw [show pack [] = [] by rfl]; exact Row.nil_row _ _) (by have := runLen_le hn; simp; omega) hn
  rw [List.nil_append, hl, hk] at this
  simp only [List.length_nil, Nat.zero_add] at this
  rw [hm] at this
  exact this

theorem alive6_ok (W : World) : Calls Try.prog 15 #[] W fun e W' => e = .returned (.bool true) ∧ Below W.heap.size W W' := by
  have t0 : strOfNums [0] = ⟨#[0]⟩ := rfl
  have t3 : strOfNums [7] = ⟨#[7]⟩ := rfl
  have t48 : strOfNums [255, 255, 255, 255, 255, 255] = ⟨#[255, 255, 255, 255, 255, 255]⟩ := rfl
  have t47 : strOfNums [255, 255, 255, 255, 255, 127] = ⟨#[255, 255, 255, 255, 255, 127]⟩ := rfl
  have c0 := Go.Lib.hid (fun w => UWrite_alone w 0 (by decide) 1 1 0 1 rfl rfl rfl rfl [0] rfl)
  have c3 := Go.Lib.hid (fun w => UWrite_alone w 3 (by decide) 4 1 3 4 rfl rfl rfl rfl [7] rfl)
  have c48 := Go.Lib.hid (fun w => UWrite_alone w 48 (by decide) 48 6 48 48 rfl rfl rfl rfl [255, 255, 255, 255, 255, 255] rfl)
  have c47 := Go.Lib.hid (fun w => UWrite_alone w 47 (by decide) 48 6 47 48 rfl rfl rfl rfl [255, 255, 255, 255, 255, 127] rfl)
  have hWE0 := Go.Lib.hid (Below.refl W.heap.size W)
  go_enter Try.func15, Try.ntmps15
  go_wp2_with (first
    | (go_at_call 11; ((with_reducible refine (c0.out _).mono ?_)); rintro e w1 ⟨b1, cp1, rfl, hr1, hb1⟩; have hWE1 := Go.Lib.hid hWE0.out; have hW1 := Go.Lib.hid (hWE1.out.trans (hb1.mono hWE1.out.size)); have R1_x0 := Go.Lib.hid hr1; clear hr1; clear hb1)
    | (go_at_call 11; ((with_reducible refine (c3.out _).mono ?_)); rintro e w2 ⟨b2, cp2, rfl, hr2, hb2⟩; have hWE2 := Go.Lib.hid (hW1.out.alloc hW1.out.size (.cells #[(.slice b1 1 cp1), .int .i64 1] 27)); have hW2 := Go.Lib.hid (hWE2.out.trans (hb2.mono hWE2.out.size)); have R2_x0 := Go.Lib.hid ((R1_x0.out.below (below1 w1 (.cells #[(.slice b1 1 cp1), .int .i64 1] 27)) (Nat.le_refl _)).below hb2 (Nat.le_refl _)); have R2_x3 := Go.Lib.hid hr2; clear hr2; have BE2_x0 := Go.Lib.hid (box1 w1 (.slice b1 1 cp1) 1); have B2_x0 := Go.Lib.hid (BE2_x0.out.below hb2 BE2_x0.out.lt); obtain ⟨k2x00, k2x01, k2x02, k2x03⟩ := B2_x0.out.cells; have l2x0 := B2_x0.out.lt; have n2x0 : w1.heap.size ≠ w2.heap.size := (by omega); clear hb2)
    | (go_at_call 11; ((with_reducible refine (c48.out _).mono ?_)); rintro e w3 ⟨b3, cp3, rfl, hr3, hb3⟩; have hWE3 := Go.Lib.hid (hW2.out.alloc hW2.out.size (.cells #[(.slice b2 1 cp2), .int .i64 4] 27)); have hW3 := Go.Lib.hid (hWE3.out.trans (hb3.mono hWE3.out.size)); have R3_x0 := Go.Lib.hid ((R2_x0.out.below (below1 w2 (.cells #[(.slice b2 1 cp2), .int .i64 4] 27)) (Nat.le_refl _)).below hb3 (Nat.le_refl _)); have R3_x3 := Go.Lib.hid ((R2_x3.out.below (below1 w2 (.cells #[(.slice b2 1 cp2), .int .i64 4] 27)) (Nat.le_refl _)).below hb3 (Nat.le_refl _)); have R3_x48 := Go.Lib.hid hr3; clear hr3; have BE3_x0 := Go.Lib.hid (B2_x0.out.alloc (.cells #[(.slice b2 1 cp2), .int .i64 4] 27)); have B3_x0 := Go.Lib.hid (BE3_x0.out.below hb3 BE3_x0.out.lt); obtain ⟨k3x00, k3x01, k3x02, k3x03⟩ := B3_x0.out.cells; have BE3_x3 := Go.Lib.hid (box1 w2 (.slice b2 1 cp2) 4); have B3_x3 := Go.Lib.hid (BE3_x3.out.below hb3 BE3_x3.out.lt); obtain ⟨k3x30, k3x31, k3x32, k3x33⟩ := B3_x3.out.cells; have l3x0 := B3_x0.out.lt; have n3x0 : w1.heap.size ≠ w3.heap.size := (by omega); have l3x3 := B3_x3.out.lt; have n3x3 : w2.heap.size ≠ w3.heap.size := (by omega); clear hb3)
    | (go_at_call 11; ((with_reducible refine (c47.out _).mono ?_)); rintro e w4 ⟨b4, cp4, rfl, hr4, hb4⟩; have hWE4 := Go.Lib.hid (hW3.out.alloc hW3.out.size (.cells #[(.slice b3 6 cp3), .int .i64 48] 27)); have hW4 := Go.Lib.hid (hWE4.out.trans (hb4.mono hWE4.out.size)); have R4_x0 := Go.Lib.hid ((R3_x0.out.below (below1 w3 (.cells #[(.slice b3 6 cp3), .int .i64 48] 27)) (Nat.le_refl _)).below hb4 (Nat.le_refl _)); have R4_x3 := Go.Lib.hid ((R3_x3.out.below (below1 w3 (.cells #[(.slice b3 6 cp3), .int .i64 48] 27)) (Nat.le_refl _)).below hb4 (Nat.le_refl _)); have R4_x48 := Go.Lib.hid ((R3_x48.out.below (below1 w3 (.cells #[(.slice b3 6 cp3), .int .i64 48] 27)) (Nat.le_refl _)).below hb4 (Nat.le_refl _)); have R4_x47 := Go.Lib.hid hr4; clear hr4; have BE4_x0 := Go.Lib.hid (B3_x0.out.alloc (.cells #[(.slice b3 6 cp3), .int .i64 48] 27)); have B4_x0 := Go.Lib.hid (BE4_x0.out.below hb4 BE4_x0.out.lt); obtain ⟨k4x00, k4x01, k4x02, k4x03⟩ := B4_x0.out.cells; have BE4_x3 := Go.Lib.hid (B3_x3.out.alloc (.cells #[(.slice b3 6 cp3), .int .i64 48] 27)); have B4_x3 := Go.Lib.hid (BE4_x3.out.below hb4 BE4_x3.out.lt); obtain ⟨k4x30, k4x31, k4x32, k4x33⟩ := B4_x3.out.cells; have BE4_x48 := Go.Lib.hid (box1 w3 (.slice b3 6 cp3) 48); have B4_x48 := Go.Lib.hid (BE4_x48.out.below hb4 BE4_x48.out.lt); obtain ⟨k4x480, k4x481, k4x482, k4x483⟩ := B4_x48.out.cells; have l4x0 := B4_x0.out.lt; have n4x0 : w1.heap.size ≠ w4.heap.size := (by omega); have l4x3 := B4_x3.out.lt; have n4x3 : w2.heap.size ≠ w4.heap.size := (by omega); have l4x48 := B4_x48.out.lt; have n4x48 : w3.heap.size ≠ w4.heap.size := (by omega); have sx0 := (R4_x0.out.below (below1 w4 (.cells #[.slice b4 6 cp4, .int .i64 48] 27)) (Nat.le_refl _)).str (P := Try.prog) Try.underlying25 Try.underlying5 Try.underlying9; have sx3 := (R4_x3.out.below (below1 w4 (.cells #[.slice b4 6 cp4, .int .i64 48] 27)) (Nat.le_refl _)).str (P := Try.prog) Try.underlying25 Try.underlying5 Try.underlying9; have sx48 := (R4_x48.out.below (below1 w4 (.cells #[.slice b4 6 cp4, .int .i64 48] 27)) (Nat.le_refl _)).str (P := Try.prog) Try.underlying25 Try.underlying5 Try.underlying9; have sx47 := (R4_x47.out.below (below1 w4 (.cells #[.slice b4 6 cp4, .int .i64 48] 27)) (Nat.le_refl _)).str (P := Try.prog) Try.underlying25 Try.underlying5 Try.underlying9; rw [t0] at sx0; rw [t3] at sx3; rw [t48] at sx48; rw [t47] at sx47; clear hb4))
  go_ret
  exact ⟨rfl, hW4.out.alloc hW4.out.size _⟩
end Go.Proofs.Ytbegifpnbbpinaa

/- Contracts of the functions of le, and of its reference. -/
namespace Go.Proofs.Ytbegifpnbbpinaa
open Go.RowKit CadL

theorem isWidth_yes (w : Int) (W : World) (h : 1 ≤ w) (h' : w ≤ 8) :
    Calls Try.prog 46 #[.int .i64 w] W fun e W' => e = .returned (.bool true) ∧ W = W' := by
  go_enter Try.func46, Try.ntmps46
  go_wp2
  go_ret
  exact ⟨rfl, rfl⟩

theorem isWidth_no (w : Int) (W : World) (h : ¬ (1 ≤ w ∧ w ≤ 8)) :
    Calls Try.prog 46 #[.int .i64 w] W fun e W' => e = .returned (.bool false) ∧ W = W' := by
  by_cases h1 : 1 ≤ w
  · have h2 : ¬ w ≤ 8 := by omega
    go_enter Try.func46, Try.ntmps46
    go_wp2
    go_ret
    exact ⟨by simp, rfl⟩
  · go_enter Try.func46, Try.ntmps46
    go_wp2
    go_ret
    exact ⟨by simp, rfl⟩

theorem greatest_any (w : Int) (W : World) (h : 1 ≤ w) (h' : w ≤ 8) :
    Calls Try.prog 57 #[.int .i64 w] W fun e W' => e = .returned (.int .u64 (top w.toNat)) ∧ W = W' := by
  have hg := Go.Lib.hid (greatest_eq w h h')
  go_enter Try.func57, Try.ntmps57
  go_wp2
  go_ret
  exact ⟨by rw [← hg.out]; rfl, rfl⟩

theorem fits_any (n w : Int) (W : World) (h : 1 ≤ w) (h' : w ≤ 8) :
    Calls Try.prog 47 #[.int .u64 n, .int .i64 w] W fun e W' => e = .returned (.bool (decide (n ≤ top w.toNat))) ∧ W = W' := by
  go_enter Try.func47, Try.ntmps47
  go_wp2_with (go_at_call 57; refine (greatest_any w _ h h').mono ?_; rintro e w1 ⟨rfl, rfl⟩)
  go_ret
  exact ⟨rfl, rfl⟩

theorem fits_yes (n w : Int) (W : World) (h : 1 ≤ w) (h' : w ≤ 8) (hn : n ≤ top w.toNat) :
    Calls Try.prog 47 #[.int .u64 n, .int .i64 w] W fun e W' => e = .returned (.bool true) ∧ W = W' :=
  (fits_any n w W h h').mono fun e W' ⟨he, hw⟩ => ⟨by rw [he, decide_eq_true hn], hw⟩
theorem fits_no (n w : Int) (W : World) (h : 1 ≤ w) (h' : w ≤ 8) (hn : top w.toNat < n) :
    Calls Try.prog 47 #[.int .u64 n, .int .i64 w] W fun e W' => e = .returned (.bool false) ∧ W = W' :=
  (fits_any n w W h h').mono fun e W' ⟨he, hw⟩ => ⟨by rw [he, decide_eq_false (by omega)], hw⟩

/-- a signed number that fits w bytes -/
abbrev Fits (x w : Int) : Prop := -(top w.toNat / 2) - 1 ≤ x ∧ x ≤ top w.toNat / 2

/-! ### the reference -/
theorem rsgn_lo (n w : Int) (hn : n ≤ top w.toNat / 2) : sgn n w = n := by unfold sgn; rw [if_pos hn]
theorem rsgn_hi (n w : Int) (h : 1 ≤ w) (h' : w ≤ 8) (h1 : n ≤ top w.toNat) (hn : top w.toNat / 2 < n) : sgn n w = -(top w.toNat - n) - 1 ∧ 0 ≤ top w.toNat - n ∧ top w.toNat - n ≤ 9223372036854775807 := by
  have := top_big w h h'
  unfold sgn; rw [if_neg (by omega)]; omega
theorem uns_pos (x w : Int) (h0 : 0 ≤ x) (hx : x ≤ top w.toNat / 2) : uns x w = x := by
  unfold uns; exact Int.emod_eq_of_lt h0 (by omega)
theorem uns_neg (x w : Int) (h : 1 ≤ w) (h' : w ≤ 8) (h0 : x < 0) (hx : -(top w.toNat / 2) - 1 ≤ x) : uns x w = top w.toNat + (x + 1) := by
  have := top_big w h h'
  unfold uns; rw [← Int.add_emod_right, Int.emod_eq_of_lt (by omega) (by omega)]; omega
end Go.Proofs.Ytbegifpnbbpinaa

/- Contracts of the functions of le and of its reference that read or make bytes. -/
namespace Go.Proofs.Ytbegifpnbbpinaa
open Go.RowKit CadL

theorem join_pos (W : World) (b off len cap : Nat) (l : List Int) (hlen : l.length = len) (hl : len ≤ 8) (hwf : ∀ n ∈ l, 0 ≤ n ∧ n ≤ 255)
    (hc : ∀ i, i < len → W.cell? ⟨b, off + i, none⟩ = some (.int .u8 (l.getD i 0))) :
    Calls Try.prog 51 #[.slice (some ⟨b, off, none⟩) len cap] W fun e W' => e = .returned (.int .u64 (ofB l)) ∧ W = W' := by
  go_enter Try.func51, Try.ntmps51
  go_wp2
  go_loop [3, 8] (fun n i => ∃ k : Nat, k ≤ len ∧ i = .int .i64 k ∧ n = .int .u64 (ofB (l.take k))) (fun _ i => len - (intOf i).toNat)
  case atStart => exact ⟨0, Nat.zero_le _, rfl, rfl⟩
  case round =>
    obtain ⟨k, hk, rfl, rfl⟩ := hrel
    by_cases hlt : k < len
    · have hcell := hc k hlt
      have hb := getD_bd hwf k
      have hn := ofB_bd (l.take k) (fun c hc => hwf c (List.mem_of_mem_take hc))
      rw [List.length_take, Nat.min_eq_left (by omega)] at hn
      have H := Go.Lib.hid ((or_byte _ (l.getD k 0) k hn.1 hn.2 hb.1 hb.2 (by omega)).trans (ofB_take l k (by omega)).symm)
      obtain ⟨c, hcc⟩ : ∃ c, c = l.getD k 0 := ⟨_, rfl⟩
      rw [← hcc] at hcell hb H
      clear hn hcc hc hwf
      go_wp2
      go_round
      case rel => exact ⟨k + 1, by omega, by go_num, by rw [← H.out]⟩
      case measure => (simp [intOf] <;> omega)
    · go_wp2
      go_ret
      exact ⟨by rw [show k = l.length from by omega, List.take_length]; rfl, rfl⟩

theorem join_any (W : World) (a : Option Addr) (len cap : Nat) (l : List Int) (h : Row .u8 W a len cap l) (h1 : 1 ≤ len) (hl : len ≤ 8) :
    Calls Try.prog 51 #[.slice a len cap] W fun e W' => e = .returned (.int .u64 (ofB l)) ∧ W = W' := by
  obtain ⟨b, off, rfl, _, hc⟩ := h.cells (by omega)
  exact join_pos W b off len cap l h.hlen hl (u8_bd h.wf) hc

end Go.Proofs.Ytbegifpnbbpinaa

/- Contracts of the functions of le and of its reference that make bytes. -/
namespace Go.Proofs.Ytbegifpnbbpinaa
open Go.RowKit CadL

theorem set_app (A Z : List Value) (z u : Value) : (A ++ z :: Z).set A.length u = (A ++ [u]) ++ Z := by simp
theorem rep_get (m : Nat) (h : 0 < m) (z : Value) : List.replicate m z = z :: List.replicate (m - 1) z := by
  obtain ⟨j, rfl⟩ : ∃ j, m = j + 1 := ⟨m - 1, by omega⟩
  rfl

/-- the row of le.Bytes behind k rounds -/
def partB (n : Int) (w k : Nat) : List Value := nums .u8 (leB n k) ++ List.replicate (w - k) (.int .u8 0)
theorem partB_step (n : Int) (w k : Nat) (h : k < w) : (partB n w k).set k (.int .u8 (n / 256 ^ k % 256)) = partB n w (k + 1) := by
  have e : (nums .u8 (leB n k)).length = k := by simp [nums, length_leB]
  unfold partB
  rw [rep_get _ (by omega)]
  have := set_app (nums .u8 (leB n k)) (List.replicate (w - k - 1) (.int .u8 0)) (.int .u8 0) (.int .u8 (n / 256 ^ k % 256))
  rw [e] at this
  rw [this, leB_snoc]
  simp [nums, show w - (k + 1) = w - k - 1 from by omega]

theorem Bytes_no (n w : Int) (W : World) (h : ¬ (1 ≤ w ∧ w ≤ 8)) :
    Calls Try.prog 28 #[.int .u64 n, .int .i64 w] W fun e W' => e = .returned (.tuple #[.slice none 0 0, .int .i64 2]) ∧ W = W' := by
  go_enter Try.func28, Try.ntmps28
  go_wp2_with (go_at_call 46; refine (isWidth_no w _ h).mono ?_; rintro e w1 ⟨rfl, rfl⟩)
  go_ret2
  exact ⟨rfl, rfl⟩
theorem Bytes_range (n w : Int) (W : World) (h : 1 ≤ w) (h' : w ≤ 8) (hn : top w.toNat < n) :
    Calls Try.prog 28 #[.int .u64 n, .int .i64 w] W fun e W' => e = .returned (.tuple #[.slice none 0 0, .int .i64 16]) ∧ W = W' := by
  go_enter Try.func28, Try.ntmps28
  go_wp2_with (first | (go_at_call 46; refine (isWidth_yes w _ h h').mono ?_; rintro e w1 ⟨rfl, rfl⟩) | (go_at_call 47; refine (fits_no n w _ h h' hn).mono ?_; rintro e w1 ⟨rfl, rfl⟩))
  go_ret2
  exact ⟨rfl, rfl⟩
theorem Bytes_ok (n : Int) (w : Nat) (W : World) (h : 1 ≤ w) (h' : w ≤ 8) (h0 : 0 ≤ n) (hn : n ≤ top w) :
    Calls Try.prog 28 #[.int .u64 n, .int .i64 w] W fun e W' => e = .returned (.tuple #[.slice (some ⟨W.heap.size, 0, none⟩) w w, .int .i64 0]) ∧
      W'.ownsRow W.heap.size 5 1 (.slice (some ⟨W.heap.size, 0, none⟩) w w) w (nums .u8 (leB n w)) ∧ Below W.heap.size W W' := by
  have hn' : n ≤ top (w : Int).toNat := by simpa using hn
  go_enter Try.func28, Try.ntmps28
  go_wp2_with (first | (go_at_call 46; refine (isWidth_yes w _ (by omega) (by omega)).mono ?_; rintro e w1 ⟨rfl, rfl⟩) | (go_at_call 47; refine (fits_yes n w _ (by omega) (by omega) hn').mono ?_; rintro e w1 ⟨rfl, rfl⟩) | (at_make; refine law_make elU8 _ rfl _ _ rfl _ _ _ _ w rfl rfl rfl rfl (by omega) ?_))
  intro w1 hown hb1 _
  have hz : List.replicate w 0 = leB 0 w := by
    apply List.ext_getElem <;> simp [leB]
  replace hown : w1.ownsRow W.heap.size 5 1 (.slice (some ⟨W.heap.size, 0, none⟩) w w) w (partB n w 0) := by simpa [partB, leB, nums] using hown
  clear hz
  go_wp2
  go_loopw [19] (fun i wr => ∃ k : Nat, k ≤ w ∧ i = .int .i64 k ∧ wr.ownsRow W.heap.size 5 1 (.slice (some ⟨W.heap.size, 0, none⟩) w w) w (partB n w k) ∧ Below W.heap.size W wr) (fun i _ => w - (intOf i).toNat)
  case atStart => exact ⟨0, by omega, rfl, hown, hb1⟩
  case round =>
    obtain ⟨k, hk, rfl, hownk, hbk⟩ := hrel
    by_cases hlt : k < w
    · have hc1 := hownk.cellAt k (by omega)
      have hl : k < (partB n w k).length := by simp [partB, nums, length_leB]; omega
      rw [List.getElem?_eq_getElem hl] at hc1
      obtain ⟨v0, hv0⟩ : ∃ v0, v0 = (partB n w k)[k] := ⟨_, rfl⟩
      rw [← hv0] at hc1
      have hf1 := hownk.frozenAt k
      have hst := Go.Lib.hid (hownk.stored k (.int .u8 (n / 2 ^ (8 * k) % 256))).1
      have hb2 := Go.Lib.hid (hbk.setCell (p := ⟨W.heap.size, k, none⟩) (Nat.le_refl _) (.int .u8 (n / 2 ^ (8 * k) % 256)))
      clear hv0 hl hownk hbk hown hb1
      go_wp2
      go_roundw
      case rel => exact ⟨k + 1, by omega, by go_num, by have := hst.out; rw [show (n / 2 ^ (8 * k) % 256 : Int) = n / 256 ^ k % 256 from by rw [shift_pow], partB_step n w k hlt] at this; rw [show (n / 2 ^ (8 * k) % 256 : Int) = n / 256 ^ k % 256 from by rw [shift_pow]]; exact this, hb2.out⟩
      case measure => (simp [intOf] <;> omega)
    · clear hown hb1
      go_wp2
      go_ret2
      exact ⟨rfl, by rw [show k = w from by omega] at hownk; simpa [partB] using hownk, hbk⟩
end Go.Proofs.Ytbegifpnbbpinaa
