/- Contracts of the package bits: spare bits cleared; a byte or nothing; cut. -/
import Derived.Test.YtahefkjgcdchlaaMyBitJ
import Derived.Test.YtahefkjgcdchlaaByteC
namespace Go.Proofs.Ytahefkjgcdchlaa
open Go.RowKit Cad

theorem Bclear_ok (W : World) (base g L n : Nat) (l : List Int) (C : List Bool) (hB : IsB l L C) (hL : L = (n + 7) / 8) (hn : n ≤ 330000)
    (hown : W.ownsRow base 5 1 (.slice (some ⟨g, 0, none⟩) L L) L (nums .u8 l)) :
    Calls Try.prog 53 #[.slice (some ⟨g, 0, none⟩) L L, .int .i64 n] W fun e W' => e = .returned (.tuple #[]) ∧ ∃ l', IsB l' L (C.take n) ∧
      W'.ownsRow base 5 1 (.slice (some ⟨g, 0, none⟩) L L) L (nums .u8 l') ∧ Below g W W' := by
  by_cases h8 : n % 8 = 0
  · have hfin := Go.Lib.hid (clear_none hB hL h8)
    have hown' := Go.Lib.hid hown
    clear hB hown hL
    go_enter Try.func53, Try.ntmps53
    go_wp2
    go_end0
    exact ⟨rfl, l, hfin.out, hown'.out, Below.refl _ _⟩
  · obtain ⟨d, hd, hd8⟩ := hB.byte (L - 1)
    have hfin := Go.Lib.hid (clear_step hB hL h8 hd hd8)
    have hp : 1 ≤ L := by omega
    have hLm : L ≤ 41250 := by omega
    obtain ⟨s, hs⟩ : ∃ s, s = n % 8 := ⟨_, rfl⟩
    have hs8 : s < 8 := by omega
    have e9 : (n : Int) % 8 = (s : Int) := by omega
    have h0 : ((s : Int) != 0) = true := by simp; omega
    rw [← hs] at hfin
    obtain ⟨x, hx⟩ : ∃ x, x = 2 ^ s := ⟨_, rfl⟩
    have hx8 : 1 ≤ x ∧ x ≤ 128 := by
      rw [hx]; rcases lt8 hs8 with h | h | h | h | h | h | h | h <;> rw [h] <;> decide
    rw [← hx] at hfin
    have hpw : (1 : Int) * 2 ^ s = (x : Int) := by rw [hx]; simp
    have hpw' : (2 : Int) ^ s = (x : Int) := by rw [hx]; simp
    have o1 := Go.u8_and_nat d (x - 1) hd8 (by omega)
    have hc1 := hown.cellAt (L - 1) (by omega)
    have hf1 := hown.frozenAt (L - 1)
    have lk : l.length = L := hB.1
    rw [show (nums .u8 l)[L - 1]? = some (.int .u8 (d : Int)) by rw [← hd]; simp [nums, List.getD, show L - 1 < l.length by omega]] at hc1
    have hst := Go.Lib.hid ((hown.stored (L - 1) (.int .u8 ((d &&& (x - 1) : Nat) : Int))).1)
    have hgb : Hid (base ≤ g ∧ g < W.heap.size) := Go.Lib.hid (hown.lt g rfl)
    clear hB hown hL hs hx hd h8 lk
    go_enter Try.func53, Try.ntmps53
    go_wp2
    refine wp_region_quiet_tail 11 (by kernel_rfl) (by kernel_rfl) ?_
    simp only [List.take_succ_cons, List.take_zero, List.drop_succ_cons, List.drop_zero]
    repeat (first
      | go_big_quiet_skip
      | (go_big_quiet_want; go_big_quiet_op; go_big_quiet_on))
    refine wpQuiet_nil ?_
    go_wp2
    go_end0
    rw [show (x : Int) - 1 = ((x - 1 : Nat) : Int) by omega, o1]
    have h2 := hst.out
    rw [nums_set] at h2
    exact ⟨rfl, _, hfin.out, h2, ((Below.refl g W).setCell (p := ⟨g, L - 1, none⟩) (Nat.le_refl g) _).drew⟩

theorem BbyteAt_ok (W : World) (x : Nat) (a : Option Addr) (len cap : Nat) (N : Int) (B : List Bool) (i : Nat) (hx : BoxAt W x (.slice a len cap) N) (hr : Row .u8 W a len cap (pack B)) (hi : i ≤ 1000000000) :
    Calls Try.prog 52 #[.int .i64 i, .pointer (some ⟨x, 0, none⟩)] W fun e W' => e = .returned (.int .u16 (byteN B i : Nat)) ∧ W = W' := by
  obtain ⟨x0, x1, x2, x3⟩ := hx.cells
  have hl := hr.hlen
  rw [pack_len] at hl
  by_cases h : (i : Int) < len
  · obtain ⟨b, off, rfl, hlt, hc⟩ := hr.cells (by omega)
    have hcell := hc i (by omega)
    rw [pack_getD_any] at hcell
    have hb := byteN_lt B i
    obtain ⟨c, hcc⟩ : ∃ c, c = byteN B i := ⟨_, rfl⟩
    rw [← hcc] at hcell hb ⊢
    clear hcc hc hr hx hl
    go_enter Try.func52, Try.ntmps52
    go_wp2
    go_ret
    exact ⟨by go_num, rfl⟩
  · have hz := byteN_ge B (j := i) (by omega)
    rw [hz]
    clear hr hx hl hz
    go_enter Try.func52, Try.ntmps52
    go_wp2
    go_ret
    exact ⟨rfl, rfl⟩

set_option maxHeartbeats 600000 in
theorem Bcut_ok (W : World) (a : Option Addr) (len cap : Nat) (B : List Bool) (i0 t0 : Nat) (hr : Row .u8 W a len cap (pack B)) (hB : B.length ≤ 330000) (h1 : i0 ≤ t0) (h2 : t0 ≤ B.length) :
    Calls Try.prog 41 #[.agg #[.slice a len cap, .int .i64 B.length], .int .i64 i0, .int .i64 t0] W fun e W' => ∃ b c, e = .returned (.agg #[.slice b (((midB B i0 t0).length + 7) / 8) c, .int .i64 ((t0 - i0 : Nat) : Int)]) ∧
      Row .u8 W' b (((midB B i0 t0).length + 7) / 8) c (pack (midB B i0 t0)) ∧ Below W.heap.size W W' := by
  have hmf : ∀ (fn : Fn) (first cap : Array Value) (w : World), (Instr.makeFunc fn first cap).run Try.prog w = .ok (.func fn first cap) w := fun _ _ _ _ => rfl
  have hml := midB_len B h1 h2
  obtain ⟨m, hm⟩ : ∃ m, m = ((midB B i0 t0).length + 7) / 8 := ⟨_, rfl⟩
  obtain ⟨n, hn⟩ : ∃ n, n = t0 - i0 := ⟨_, rfl⟩
  rw [← hm, ← hn]
  have hmn : m = (n + 7) / 8 := by rw [hm, hml, hn]
  have hm' := Go.Lib.hid hm
  have hn' := Go.Lib.hid hn
  have hmn' := Go.Lib.hid hmn
  have hmid : Hid (midB B i0 t0 = (B.drop i0).take n) := Go.Lib.hid (by rw [hn]; rfl)
  have hnI : (t0 : Int) - (i0 : Int) = (n : Int) := by omega
  have hmb : m ≤ 41250 := by omega
  have hnb : n ≤ 330000 := by omega
  obtain ⟨f, s, hf⟩ : ∃ f s : Nat, f = i0 / 8 ∧ s = i0 % 8 ∧ s < 8 ∧ i0 = 8 * f + s := ⟨_, _, rfl, rfl, by omega, by omega⟩
  have hff := Go.Lib.hid hf
  have hs8 : s < 8 := hf.2.2.1
  have hfb : f ≤ 41250 := by omega
  have e8 : IntKind.i64.wrap ((i0 : Int) / 8) = (f : Int) := by rw [IntWalk.i64_in _ (by omega)]; omega
  have e9 : (i0 : Int) % 8 = (s : Int) := by omega
  have hsz : Hid (∀ w, Calls Try.prog 42 #[.int .i64 (n : Int)] w fun e W' => e = .returned (.int .i64 (m : Int)) ∧ w = W') := Go.Lib.hid (fun w => by
    have := Bsize_ok w n (by omega)
    rwa [← hmn] at this)
  obtain ⟨W0, hW0⟩ : ∃ W0, W0 = (W.alloc (.cells #[.slice a len cap, .int .i64 B.length] 28)).alloc (.cells #[.slice none 0 0, .int .i64 0] 28) := ⟨_, rfl⟩
  have hbE : Below W.heap.size W W0 := by rw [hW0]; exact ((Below.refl W.heap.size W).alloc (Nat.le_refl _) _).alloc (by simp) _
  have hs0 : W0.heap.size = W.heap.size + 1 + 1 := by rw [hW0]; simp
  have hx0 : BoxAt W0 W.heap.size (.slice a len cap) B.length := by
    rw [hW0]; unfold BoxAt; rw [Below.heap_alloc _ _ _ (by simp), heap_alloc_new]
  have hy0 : BoxAt W0 (W.heap.size + 1) (.slice none 0 0) 0 := by
    rw [hW0]; unfold BoxAt; rw [heap_alloc2_new]
  have hrE := hr.below hbE (Nat.le_refl _)
  have hx0' := Go.Lib.hid hx0
  have hy0' := Go.Lib.hid hy0
  have hbE' := Go.Lib.hid hbE
  have hrA := Go.Lib.hid hrE
  have hs0' := Go.Lib.hid hs0
  clear hx0 hy0 hbE hrE hr hm hn hmn hml hf h1 h2
  go_enter Try.func41, Try.ntmps41
  go_wp2_with (first
    | (go_at_call 42; refine (hsz.out _).mono ?_; rintro e w1 ⟨rfl, rfl⟩)
    | (rw [← hW0]; refine law_make elU8 _ rfl _ _ rfl .i64 .i64 _ _ m rfl rfl (by omega) (by omega) (by omega) ?_; intro w1 hown1 hb1 hs1; simp only [hs0] at hown1 hb1 hs1; have hown1' := Go.Lib.hid hown1; have hb1' := Go.Lib.hid hb1; clear hown1 hb1 hW0))
  clear hmf hsz e8 e9
  go_loopw [27] (fun i wr => ∃ (k : Nat) (l : List Int), k ≤ m ∧ i = .int .i64 k ∧ IsB l m ((B.drop i0).take (8 * k)) ∧
    wr.ownsRow (W.heap.size + 1 + 1) 5 1 (.slice (some ⟨W.heap.size + 1 + 1, 0, none⟩) m m) m (nums .u8 l) ∧ Below (W.heap.size + 1 + 1) W0 wr) (fun i _ => m - (intOf i).toNat)
  case atStart => exact ⟨0, _, Nat.zero_le _, rfl, by simpa using isB_zero m, hown1'.out, hb1'.out⟩
  case round =>
    obtain ⟨k, l, hk, rfl, hB1, hown, hbk⟩ := hrel
    by_cases hlt : k < m
    · have hst := Go.Lib.hid (cut_step hB1 hff.out.2.2.2 hs8 hlt)
      have hxk := hx0'.out.below hbk (by omega)
      have hrk := hrA.out.below hbk (Nat.le_of_eq hs0'.out)
      have hca : Hid (Calls Try.prog 52 #[.int .i64 ((f : Int) + (k : Int)), .pointer (some ⟨W.heap.size, 0, none⟩)] wr fun e W' => e = .returned (.int .u16 (byteN B (f + k) : Nat)) ∧ wr = W') := Go.Lib.hid (by
        have := BbyteAt_ok wr W.heap.size a len cap B.length B (f + k) hxk hrk (by omega)
        push_cast at this
        exact this)
      have hcb : Hid (Calls Try.prog 52 #[.int .i64 ((f : Int) + (k : Int) + 1), .pointer (some ⟨W.heap.size, 0, none⟩)] wr fun e W' => e = .returned (.int .u16 (byteN B (f + k + 1) : Nat)) ∧ wr = W') := Go.Lib.hid (by
        have := BbyteAt_ok wr W.heap.size a len cap B.length B (f + k + 1) hxk hrk (by omega)
        push_cast at this
        exact this)
      have c0l := byteN_lt B (f + k)
      have c1l := byteN_lt B (f + k + 1)
      have hmd : Hid (mid16 B (f + k) s = (byteN B (f + k) ||| byteN B (f + k + 1) * 256) / 2 ^ s % 256) := Go.Lib.hid rfl
      obtain ⟨c0, hc0⟩ : ∃ c, c = byteN B (f + k) := ⟨_, rfl⟩
      obtain ⟨c1, hc1⟩ : ∃ c, c = byteN B (f + k + 1) := ⟨_, rfl⟩
      rw [← hc0] at hca c0l hmd
      rw [← hc1] at hcb c1l hmd
      have o1 := Go.u16_or_nat c0 (c1 * 256) (by omega) (by omega)
      have hx16 : c0 ||| c1 * 256 < 65536 := Nat.or_lt_two_pow (n := 16) (by omega) (by omega)
      obtain ⟨x, hx⟩ : ∃ x, x = c0 ||| c1 * 256 := ⟨_, rfl⟩
      rw [← hx] at o1 hx16 hmd
      have o2 : bits .or .u16 (c0 : Int) ((c1 : Int) * 256) = (x : Int) := by simpa using o1
      have hf1 := hown.frozenAt k
      have hc2 := hown.cellAt k (by omega)
      have lk : l.length = m := hB1.1
      rw [show (nums .u8 l)[k]? = some (.int .u8 (l.getD k 0)) by simp [nums, List.getD, show k < l.length by omega]] at hc2
      have hst2 : Hid (∀ v : Int, v = ((mid16 B (f + k) s : Nat) : Int) → (wr.setCell ⟨W.heap.size + 1 + 1, k, none⟩ (.int .u8 v)).ownsRow (W.heap.size + 1 + 1) 5 1 (.slice (some ⟨W.heap.size + 1 + 1, 0, none⟩) m m) m (nums .u8 (l.set k ((mid16 B (f + k) s : Nat) : Int)))) := Go.Lib.hid fun v hv => by
        subst hv
        have := (hown.stored k (.int .u8 ((mid16 B (f + k) s : Nat) : Int))).1
        rwa [nums_set] at this
      have hbk' := Go.Lib.hid hbk
      clear hc0 hc1 hx o1 hown hbk lk hB1 hxk hrk
      go_wp2_with (first
        | (go_at_call 52; ((with_reducible refine hca.out.mono ?_)); rintro e w5 ⟨rfl, rfl⟩)
        | (go_at_call 52; ((with_reducible refine hcb.out.mono ?_)); rintro e w5 ⟨rfl, rfl⟩))
      have hval : (x : Int) / 2 ^ s % 256 = ((mid16 B (f + k) s : Nat) : Int) := by rw [hmd.out]; simp
      refine ⟨⟨k + 1, _, by omega, by go_num, hst.out, hst2.out _ hval, hbk'.out.setCell (Nat.le_refl _) _⟩, by simp [intOf]; omega⟩
    · obtain rfl : k = m := by omega
      have hcl := Go.Lib.hid (Bclear_ok wr (W.heap.size + 1 + 1) (W.heap.size + 1 + 1) k n l _ hB1 hmn'.out hnb hown)
      have hbk' := Go.Lib.hid hbk
      clear hB1 hown hbk
      go_wp2_with (go_at_call 53; refine hcl.out.mono ?_; rintro e w5 ⟨rfl, l5, hB5, hown5, hb5⟩; have hb05 := hbk'.out.trans hb5; obtain ⟨y0, y1, y2, y3⟩ := (hy0'.out.below hb05 (by omega)).cells; have hB5' := Go.Lib.hid hB5; have hown5' := Go.Lib.hid hown5; have hb05' := Go.Lib.hid hb05; clear hB5 hown5 hb5 hb05)
      have hy := hy0'.out.below hb05'.out (by omega)
      have ap := hy.apart hown5'.out
      have htk := isB_take (D := midB B i0 t0) hB5'.out (fun i => by
        rw [hmid.out, List.take_take, Nat.min_eq_left (by have := hmn'.out; omega)]) (by have := hm'.out; omega)
      rw [← hm'.out, List.take_of_length_le (Nat.le_of_eq hB5'.out.1)] at htk
      have hown6 := hown5'.out
      rw [htk] at hown6
      refine bodyPost_ret (results_cell_row (by rfl) _ _ (W.heap.size + 1) _ _ _ _ rfl (hy.set _ _) Try.underlying28 rfl (by kernel_rfl)) rfl ?_
      refine ⟨some ⟨W.heap.size + 1 + 1, 0, none⟩, k, rfl, Row.of_own (own_set (own_set hown6 ap _ _) ap _ _) (u8_wf (pack_wf _)), ?_⟩
      exact ((hbE'.out.trans (hb05'.out.mono (by omega))).setCell (by simp) _).setCell (by simp) _
end Go.Proofs.Ytahefkjgcdchlaa
