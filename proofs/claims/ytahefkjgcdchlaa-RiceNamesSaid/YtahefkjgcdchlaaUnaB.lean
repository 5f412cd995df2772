/- Contracts of the package unary: Read. -/
import Derived.Test.YtahefkjgcdchlaaUnaA
namespace Go.Proofs.Ytahefkjgcdchlaa
open Go.RowKit Cad

/-- a variable that holds an int: its block -/
def IntAt (w : World) (y : Nat) (n : Int) : Prop := w.heap[y]? = some (.cells #[.int .i64 n] 3)
theorem IntAt.cell {w : World} {y : Nat} {n : Int} (h : IntAt w y n) : w.cell? ⟨y, 0, none⟩ = some (.int .i64 n) ∧ w.frozen? ⟨y, 0, none⟩ = false := by
  unfold IntAt at h
  refine ⟨?_, ?_⟩
  · unfold World.cell?; rw [h]; rfl
  · unfold World.frozen?; rw [h]; simp
theorem IntAt.below {w w' : World} {y B : Nat} {n : Int} (h : IntAt w y n) (hb : Below B w w') (hy : y < B) : IntAt w' y n := by
  unfold IntAt at h ⊢
  rw [hb.block y hy, h]

theorem URbit (W : World) (x y : Nat) (v : Value) (N at_ : Int) (k : Int) (hx : BoxAt W x v N) (hy : IntAt W y at_) (r s er : Int) (s64 : at_ + k = s)
    (hb : -9223372036854775808 ≤ s ∧ s ≤ 9223372036854775807)
    (hg : Hid (Calls Try.prog 31 #[.agg #[v, .int .i64 N], .int .i64 s, .int .i64 1] W fun e W' => e = .returned (.tuple #[.int .u64 r, .int .i64 er]) ∧ Below W.heap.size W W')) :
    Calls Try.prog 44 #[.int .i64 k, .pointer (some ⟨x, 0, none⟩), .pointer (some ⟨y, 0, none⟩)] W fun e W' => e = .returned (.tuple #[.int .u64 r, .int .i64 er]) ∧ Below W.heap.size W W' := by
  obtain ⟨x0, x1, x2, x3⟩ := hx.cells
  obtain ⟨y0, y1⟩ := hy.cell
  clear hx hy
  go_enter Try.func44, Try.ntmps44
  go_wp2_with (go_at_call 31; refine hg.out.mono ?_; rintro e w1 ⟨rfl, hb1⟩)
  go_ret2
  exact ⟨rfl, hb1⟩

/-- the two variables of Read: the bits, the index -/
theorem read_boxes (W : World) (v : Value) (N at_ : Int) : ∃ W0, W0 = (W.alloc (.cells #[v, .int .i64 N] 28)).alloc (.cells #[.int .i64 at_] 3) ∧ Below W.heap.size W W0 ∧ W0.heap.size = W.heap.size + 1 + 1 ∧
    BoxAt W0 W.heap.size v N ∧ IntAt W0 (W.heap.size + 1) at_ := by
  refine ⟨_, rfl, ((Below.refl W.heap.size W).alloc (Nat.le_refl _) _).alloc (by simp) _, by simp, ?_, ?_⟩
  · unfold BoxAt; rw [Below.heap_alloc _ _ _ (by simp), heap_alloc_new]
  · unfold IntAt; rw [heap_alloc2_new]

/-- the first bit is not got -/
theorem URead_no (W : World) (a : Option Addr) (len cap : Nat) (N at_ er : Int) (hat : (Lit.int .i64 at_).wf = true) (her : er = 8 ∨ er = 2 ∨ er = 24)
    (hg : ∀ w, Below W.heap.size W w → Calls Try.prog 31 #[.agg #[.slice a len cap, .int .i64 N], .int .i64 at_, .int .i64 1] w fun e W' => e = .returned (.tuple #[.int .u64 0, .int .i64 er]) ∧ Below w.heap.size w W') :
    Calls Try.prog 30 #[.agg #[.slice a len cap, .int .i64 N], .int .i64 at_] W fun e W' => e = .returned (.tuple #[.int .i64 0, .int .i64 0, .int .i64 er]) ∧ Below W.heap.size W W' := by
  have hmf : ∀ (fn : Fn) (first cap : Array Value) (w : World), (Instr.makeFunc fn first cap).run Try.prog w = .ok (.func fn first cap) w := fun _ _ _ _ => rfl
  obtain ⟨W0, hW0, hbE, hs0, hx0, hy0⟩ := read_boxes W (.slice a len cap) N at_
  have bat := bounds_i64 hat
  have hc : Hid (Calls Try.prog 44 #[.int .i64 0, .pointer (some ⟨W.heap.size, 0, none⟩), .pointer (some ⟨W.heap.size + 1, 0, none⟩)] W0 fun e W' => e = .returned (.tuple #[.int .u64 0, .int .i64 er]) ∧ Below W0.heap.size W0 W') :=
    Go.Lib.hid (URbit W0 _ _ _ N at_ 0 hx0 hy0 0 at_ er (by omega) bat (Go.Lib.hid (hg W0 hbE)))
  have hbE' := Go.Lib.hid hbE
  have hne : er ≠ 0 := by omega
  have hne' : (er != 0) = true := by simpa using hne
  clear hx0 hy0 hbE hg her hat
  go_enter Try.func30, Try.ntmps30
  go_wp2
  refine wp_loop_once ?_
  go_wp2_with (go_at_call 44; rw [← hW0]; refine hc.out.mono ?_; rintro e w1 ⟨rfl, hb1⟩)
  go_ret3
  exact ⟨rfl, hbE'.out.trans (hb1.mono (by omega))⟩

theorem bit_one (B : List Bool) (i : Nat) (h : i < B.length) : natB (midB B i (i + 1)) = (B.getD i false).toNat := by
  have e : midB B i (i + 1) = [B.getD i false] := by
    unfold midB
    rw [List.drop_eq_getElem_cons h, show i + 1 - i = 1 by omega, List.take_succ_cons, List.take_zero]
    simp [List.getD, h]
  rw [e]; simp [natB]

theorem URead_in (W : World) (a : Option Addr) (len cap : Nat) (B : List Bool) (i : Nat) (hr : Row .u8 W a len cap (pack B)) (hB : B.length ≤ 330000) (hi : i < B.length) (p q er : Nat) (hv : readV B i = (p, q, er)) :
    Calls Try.prog 30 #[.agg #[.slice a len cap, .int .i64 B.length], .int .i64 i] W fun e W' => e = .returned (.tuple #[.int .i64 p, .int .i64 q, .int .i64 er]) ∧ Below W.heap.size W W' := by
  have hmf : ∀ (fn : Fn) (first cap : Array Value) (w : World), (Instr.makeFunc fn first cap).run Try.prog w = .ok (.func fn first cap) w := fun _ _ _ _ => rfl
  obtain ⟨W0, hW0, hbE, hs0, hx0, hy0⟩ := read_boxes W (.slice a len cap) B.length i
  have hrE := Go.Lib.hid (hr.below hbE (Nat.le_refl _))
  have hx0' := Go.Lib.hid hx0
  have hy0' := Go.Lib.hid hy0
  have hbE' := Go.Lib.hid hbE
  have hs0' := Go.Lib.hid hs0
  have hv' := Go.Lib.hid hv
  have hone := Go.Lib.hid (bit_one B)
  clear hx0 hy0 hbE hr hv
  go_enter Try.func30, Try.ntmps30
  go_wp2
  rw [← hW0]
  clear hW0
  go_loopw [4] (fun n wr => ∃ k : Nat, k ≤ 48 ∧ i + k ≤ B.length ∧ n = .int .i64 k ∧ (∀ j, j < k → (B.drop i).getD j false = true) ∧ Below W0.heap.size W0 wr) (fun n _ => 48 - (intOf n).toNat)
  case atStart => exact ⟨0, by omega, by omega, rfl, fun j h => by omega, Below.refl _ _⟩
  case round =>
    obtain ⟨k, hk, hik, rfl, hones, hb⟩ := hrel
    have hones' := Go.Lib.hid hones
    have hxr := hx0'.out.below hb (by omega)
    have hyr := hy0'.out.below hb (by omega)
    have hrr := hrE.out.below hb (Nat.le_refl _)
    obtain ⟨y0, y1⟩ := hyr.cell
    have hb' := Go.Lib.hid hb
    have hlen : (B.drop i).length = B.length - i := by simp
    clear hones
    by_cases hlt : k < 48
    · have hlt' : (k : Int) < 48 := by omega
      by_cases hin : i + k < B.length
      · have hg := BGet_ok wr a len cap B (i + k) 1 hrr hB (by omega) (by omega)
        rw [hone.out _ hin] at hg
        have hc := URbit wr _ _ _ B.length i k hxr hyr _ ((i + k : Nat) : Int) 0 (by omega) (by omega) (Go.Lib.hid hg)
        have hdg := drop_getD B i k
        cases hbit : B.getD (i + k) false with
        | true =>
          rw [hbit] at hc hdg
          have hc' := Go.Lib.hid hc
          clear hc hg hb hxr hyr hrr
          go_wp2_with (go_at_call 44; refine hc'.out.mono ?_; rintro e w1 ⟨rfl, hb1⟩; have hb1' := Go.Lib.hid (hb'.out.trans (hb1.mono hb'.out.size)); clear hb1)
          go_roundw
          case rel => exact ⟨k + 1, by omega, by omega, by go_num, fun j hj => by
            by_cases e : j = k
            · subst e; exact hdg
            · exact hones'.out j (by omega), hb1'.out⟩
          case measure => (simp [intOf] <;> omega)
        | false =>
          rw [hbit] at hc hdg
          have hc' := Go.Lib.hid hc
          have hl := lead_eq (B.drop i) 48 k hk hones'.out (fun _ => hdg) (by omega)
          have hz := readV_zero hl hlt hin
          rw [hv'.out] at hz
          cases hz
          clear hc hg hb hxr hyr hrr
          go_wp2_with (go_at_call 44; refine hc'.out.mono ?_; rintro e w1 ⟨rfl, hb1⟩; have hb1' := Go.Lib.hid (hb'.out.trans (hb1.mono hb'.out.size)); obtain ⟨z0, z1⟩ := (hy0'.out.below hb1'.out (by omega)).cell; clear hb1)
          go_quiet (fail)
          go_wp2
          go_ret3
          exact ⟨by go_num, Below.drewN (hbE'.out.trans (hb1'.out.mono (by omega))) _⟩
      · have hv : Valid (pack B) B.length := ⟨B, rfl, hB, rfl⟩
        have hg := BGet_short wr a len cap B.length (pack B) ((i + k : Nat) : Int) 1 hrr (bounds_of_len (by omega)) hv (by omega) (by omega) (by omega)
        have hc := URbit wr _ _ _ B.length i k hxr hyr _ ((i + k : Nat) : Int) 24 (by omega) (by omega) (Go.Lib.hid hg)
        have hc' := Go.Lib.hid hc
        have hl := lead_eq (B.drop i) 48 k hk hones'.out (fun _ => getD_ge _ _ (by omega)) (by omega)
        have hz := readV_short hl hlt (by omega)
        rw [hv'.out] at hz
        cases hz
        clear hc hg hb hxr hyr hrr hv
        go_wp2_with (go_at_call 44; refine hc'.out.mono ?_; rintro e w1 ⟨rfl, hb1⟩; have hb1' := Go.Lib.hid (hb'.out.trans (hb1.mono hb'.out.size)); clear hb1)
        go_ret3
        exact ⟨rfl, hbE'.out.trans (hb1'.out.mono (by omega))⟩
    · obtain rfl : k = 48 := by omega
      have hl := lead_eq (B.drop i) 48 48 hk hones'.out (fun h => absurd h (by omega)) (by omega)
      have hz := readV_full hl
      rw [hv'.out] at hz
      cases hz
      clear hb hxr hyr hrr
      go_wp2
      go_quiet (fail)
      go_wp2
      go_ret3
      exact ⟨by go_num, Below.drewN (hbE'.out.trans (hb'.out.mono (by omega))) _⟩
end Go.Proofs.Ytahefkjgcdchlaa
