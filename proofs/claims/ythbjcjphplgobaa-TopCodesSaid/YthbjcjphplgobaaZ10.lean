/- Texts of the proof, one behind the other: BloR, TalS, BloS, Slc, MyCrc, BloX, CodA, CodB, CodC. -/
import Derived.Test.YthbjcjphplgobaaZ9
import Derived.Deep.DeepCutAuto
import Derived.Lib.AppendZeros
import Derived.Deep.QuietTactic
import Derived.BigQuiet
/- Contracts of the reference of block. -/
namespace Go.Proofs.Ythbjcjphplgobaa
open Go.RowKit Cad

theorem KrLong_ok (W : World) (n : Nat) (h : n ≤ 330000) :
    Calls Try.prog 42 #[.int .i64 n] W fun e W' => e = .returned (.int .i64 (((n + 7) / 8 + 4 : Nat) : Int)) ∧ W = W' := by
  go_enter Try.func42, Try.ntmps42
  go_wp2
  go_ret
  exact ⟨by go_num, rfl⟩
theorem leB_nums {l : List Int} (h : ∀ x ∈ l, (Lit.int .u8 x).wf = true) : ∀ x ∈ sealB l, (Lit.int .u8 x).wf = true := u8_wf (sealB_wf (u8_bd h))
/-- a call that hands back bytes and an error -/
def ResP (f : FuncId) (args : Array Value) (W : World) (m : Nat) (l : List Int) (e : Int) : Prop :=
  Calls Try.prog f args W fun r W' => ∃ a c, r = .returned (.tuple #[.slice a m c, .int .i64 e]) ∧ Row .u8 W' a m c l ∧ Below W.heap.size W W'
theorem ResP.none {f : FuncId} {args : Array Value} {W : World} {e : Int} (h : Calls Try.prog f args W fun r W' => r = .returned (.tuple #[.slice none 0 0, .int .i64 e]) ∧ Below W.heap.size W W') : ResP f args W 0 [] e :=
  h.mono fun _ _ ⟨h1, h2⟩ => ⟨Option.none, 0, h1, Row.nil_row _ _, h2⟩

end Go.Proofs.Ythbjcjphplgobaa

/- Contracts of the reference of tally: sums, bytes, what fits. -/
namespace Go.Proofs.Ythbjcjphplgobaa
open Go.RowKit Cad

/-- a call that hands back numbers and an error -/
def ResI (f : FuncId) (args : Array Value) (W : World) (m : Nat) (l : List Int) (e : Int) : Prop :=
  Calls Try.prog f args W fun r W' => ∃ a c, r = .returned (.tuple #[.slice a m c, .int .i64 e]) ∧ Row .i64 W' a m c l ∧ Below W.heap.size W W'
theorem ResI.none {f : FuncId} {args : Array Value} {W : World} {e : Int} (h : Calls Try.prog f args W fun r W' => r = .returned (.tuple #[.slice none 0 0, .int .i64 e]) ∧ Below W.heap.size W W') : ResI f args W 0 [] e :=
  h.mono fun _ _ ⟨h1, h2⟩ => ⟨Option.none, 0, h1, Row.nil_row _ _, h2⟩

theorem KtEach_many (W : World) (al : Option Addr) (ll cl : Nat) (h : 4000 < ll) (_hm : ll ≤ 9223372036854775807) :
    ResI 18 #[.slice al ll cl] W 0 [] 4 := by
  refine ResI.none ?_
  have h' : (4000 : Int) < ll := by omega
  go_enter Try.func18, Try.ntmps18
  go_wp2
  go_ret2
  exact ⟨rfl, Below.refl _ _⟩
theorem KtEach_ok (W : World) (al : Option Addr) (ll cl : Nat) (m : List Nat) (hl : Row .u32 W al ll cl (m.map Int.ofNat)) (h4 : ll ≤ 4000) (hm : m.length = ll) (hm32 : ∀ x ∈ m, x < 4294967296) :
    ResI 18 #[.slice al ll cl] W ll ((lens dStart m).map Int.ofNat) 0 := by
  unfold ResI
  have h' : ¬ (4000 : Int) < ll := by omega
  have hc := Go.Lib.hid (KtLengths_ok W al ll cl m hl (by omega) hm hm32)
  have hwf := Go.Lib.hid (lens_i64 m dStart_ok hm32)
  clear hl hm hm32
  go_enter Try.func18, Try.ntmps18
  go_wp2_with (go_at_call 40; with_reducible refine hc.out.mono ?_; rintro e w1 ⟨v1, rfl, ho, hb⟩; obtain ⟨a1, c1, rfl⟩ := own_form ho; have R1 := Go.Lib.hid (Row.of_own ho hwf.out); have B1 := Go.Lib.hid hb; clear ho hb)
  go_ret2
  exact ⟨a1, c1, rfl, R1.out, B1.out⟩

theorem sum_lens (m : List Nat) (hm32 : ∀ x ∈ m, x < 4294967296) (k : Nat) : ((lens dStart m).take k).sum ≤ 81 * m.length := by
  have h1 := sum_bd ((lens dStart m).take k) fun x hx => (lens_bd m dStart_ok hm32 x (List.mem_of_mem_take hx)).2
  rw [List.length_take, lens_len] at h1
  have : 81 * min k m.length ≤ 81 * m.length := Nat.mul_le_mul_left _ (Nat.min_le_right _ _)
  omega
set_option maxRecDepth 100000 in
theorem KtLong_ok (W : World) (al : Option Addr) (ll cl : Nat) (m : List Nat) (hl : Row .u32 W al ll cl (m.map Int.ofNat)) (h4 : ll ≤ 4010) (hm : m.length = ll) (hm32 : ∀ x ∈ m, x < 4294967296) :
    Calls Try.prog 41 #[.slice al ll cl] W fun e W' => e = .returned (.int .i64 ((lens dStart m).sum : Nat)) ∧ Below W.heap.size W W' := by
  have hc := Go.Lib.hid (KtLengths_ok W al ll cl m hl h4 hm hm32)
  have hwf := Go.Lib.hid (lens_i64 m dStart_ok hm32)
  have hsl := Go.Lib.hid fun k => sum_lens m hm32 k
  have hLl : (lens dStart m).length = ll := by rw [lens_len, hm]
  have hbd := Go.Lib.hid (lens_bd m dStart_ok hm32)
  obtain ⟨L, hL⟩ : ∃ L, L = lens dStart m := ⟨_, rfl⟩
  rw [← hL] at hc hwf hsl hLl hbd ⊢
  have hLl' := Go.Lib.hid hLl
  have hm' := Go.Lib.hid hm
  have hllI : (ll : Int) ≤ 4010 := by omega
  clear hl hm hm32 hL hLl
  go_enter Try.func41, Try.ntmps41
  go_wp2_with (go_at_call 40; with_reducible refine hc.out.mono ?_; rintro e w1 ⟨v1, rfl, ho, hb⟩; obtain ⟨a1, c1, rfl⟩ := own_form ho; have R1 := Go.Lib.hid (Row.of_own ho hwf.out); have B1 := Go.Lib.hid hb; clear ho hb)
  go_loopw [3, 5] (fun n i wr => ∃ k : Nat, k ≤ ll ∧ i = .int .i64 k ∧ n = .int .i64 ((L.take k).sum : Nat) ∧ wr = w1) (fun _ i _ => ll - (intOf i).toNat)
  case atStart => exact ⟨0, Nat.zero_le _, rfl, rfl, rfl⟩
  case round =>
    obtain ⟨k, hk, rfl, rfl, rfl⟩ := hrel
    by_cases hlt : k < ll
    · have hlt' : (k : Int) < ll := by omega
      have hkL : k < L.length := by rw [hLl'.out]; exact hlt
      have hsn := sum_snoc L hkL
      have hs1 := hsl.out (k + 1)
      rw [hm'.out] at hs1
      obtain ⟨b, off, rfl, -, hcc⟩ := R1.out.cells (by omega)
      have hcell := hcc k hlt
      have hg : (L.map Int.ofNat).getD k 0 = ((L.getD k 0 : Nat) : Int) := by simp [List.getD, hkL]
      rw [hg] at hcell
      obtain ⟨x, hx⟩ : ∃ x, x = L.getD k 0 := ⟨_, rfl⟩
      obtain ⟨s, hs⟩ : ∃ s, s = (L.take k).sum := ⟨_, rfl⟩
      obtain ⟨t, ht⟩ : ∃ t, t = (L.take (k + 1)).sum := ⟨_, rfl⟩
      rw [← hx, ← hs, ← ht] at hsn
      rw [← hx] at hcell
      rw [← ht] at hs1
      rw [← hs]
      have ht' := Go.Lib.hid ht
      have hadd : (s : Int) + (x : Int) = (t : Int) := by omega
      have htI : (t : Int) ≤ 324810 := by omega
      clear hcc hg hx hs ht hsn hs1 hkL
      go_wp2
      go_roundw
      case rel => exact ⟨k + 1, by omega, by go_num, by rw [← ht'.out], trivial⟩
      case measure => (simp [intOf] <;> omega)
    · obtain rfl : k = ll := by omega
      have e : L.take k = L := List.take_of_length_le (by rw [hLl'.out]; exact Nat.le_refl _)
      rw [e]
      go_wp2
      go_ret
      exact ⟨rfl, B1.out⟩
theorem KtLength_many (W : World) (al : Option Addr) (ll cl : Nat) (h : 4000 < ll) (_hm : ll ≤ 9223372036854775807) :
    Calls Try.prog 19 #[.slice al ll cl] W fun e W' => e = .returned (.tuple #[.int .i64 0, .int .i64 4]) ∧ Below W.heap.size W W' := by
  have h' : (4000 : Int) < ll := by omega
  go_enter Try.func19, Try.ntmps19
  go_wp2
  go_ret2
  exact ⟨rfl, Below.refl _ _⟩
theorem KtLength_ok (W : World) (al : Option Addr) (ll cl : Nat) (m : List Nat) (hl : Row .u32 W al ll cl (m.map Int.ofNat)) (h4 : ll ≤ 4000) (hm : m.length = ll) (hm32 : ∀ x ∈ m, x < 4294967296) :
    Calls Try.prog 19 #[.slice al ll cl] W fun e W' => e = .returned (.tuple #[.int .i64 ((lens dStart m).sum : Nat), .int .i64 0]) ∧ Below W.heap.size W W' := by
  have h' : ¬ (4000 : Int) < ll := by omega
  have hc := Go.Lib.hid (KtLong_ok W al ll cl m hl (by omega) hm hm32)
  clear hl hm hm32
  go_enter Try.func19, Try.ntmps19
  go_wp2_with (go_at_call 41; with_reducible refine hc.out.mono ?_; rintro e w1 ⟨rfl, hb⟩)
  go_ret2
  exact ⟨rfl, hb⟩
theorem KtBytes_many (W : World) (al : Option Addr) (ll cl : Nat) (h : 4000 < ll) (_hm : ll ≤ 9223372036854775807) :
    Calls Try.prog 20 #[.slice al ll cl] W fun e W' => e = .returned (.tuple #[.int .i64 0, .int .i64 4]) ∧ Below W.heap.size W W' := by
  have h' : (4000 : Int) < ll := by omega
  go_enter Try.func20, Try.ntmps20
  go_wp2
  go_ret2
  exact ⟨rfl, Below.refl _ _⟩
theorem KtBytes_ok (W : World) (al : Option Addr) (ll cl : Nat) (m : List Nat) (hl : Row .u32 W al ll cl (m.map Int.ofNat)) (h4 : ll ≤ 4000) (hm : m.length = ll) (hm32 : ∀ x ∈ m, x < 4294967296) :
    Calls Try.prog 20 #[.slice al ll cl] W fun e W' => e = .returned (.tuple #[.int .i64 (longB (lens dStart m).sum : Nat), .int .i64 0]) ∧ Below W.heap.size W W' := by
  have h' : ¬ (4000 : Int) < ll := by omega
  have hc := Go.Lib.hid (KtLong_ok W al ll cl m hl (by omega) hm hm32)
  have hs := sum_lens m hm32 m.length
  rw [List.take_of_length_le (by rw [lens_len]; exact Nat.le_refl _)] at hs
  have hg := Go.Lib.hid fun w => KrLong_ok w (lens dStart m).sum (by omega)
  obtain ⟨s, hse⟩ : ∃ s, s = (lens dStart m).sum := ⟨_, rfl⟩
  rw [← hse] at hc hg ⊢
  clear hl hm hm32 hs hse
  go_enter Try.func20, Try.ntmps20
  go_wp2_with (first
    | (go_at_call 41; with_reducible refine hc.out.mono ?_; rintro e w1 ⟨rfl, hb⟩)
    | (go_at_call 42; with_reducible refine (hg.out _).mono ?_; rintro e wz ⟨rfl, rfl⟩))
  go_ret2
  exact ⟨rfl, hb⟩
theorem KtMost_no (W : World) (n : Int) (h : n < 0 ∨ 4000 < n) :
    Calls Try.prog 22 #[.int .i64 n] W fun e W' => e = .returned (.tuple #[.int .i64 0, .int .i64 2]) ∧ Below W.heap.size W W' := by
  rcases (show n < 0 ∨ (¬ n < 0 ∧ 4000 < n) by omega) with h | ⟨h, h'⟩
  all_goals
    go_enter Try.func22, Try.ntmps22
    go_wp2
    go_ret2
    exact ⟨rfl, Below.refl _ _⟩
theorem KtMost_ok (W : World) (n : Nat) (h : n ≤ 4000) :
    Calls Try.prog 22 #[.int .i64 n] W fun e W' => e = .returned (.tuple #[.int .i64 (81 * n : Nat), .int .i64 0]) ∧ Below W.heap.size W W' := by
  have h0 : ¬ (n : Int) < 0 := by omega
  have h1 : ¬ (4000 : Int) < n := by omega
  go_enter Try.func22, Try.ntmps22
  go_wp2
  go_ret2
  exact ⟨by simp, Below.refl _ _⟩
theorem KtFits_many (W : World) (al : Option Addr) (ll cl : Nat) (b : Int) (h : 4000 < ll) (_hm : ll ≤ 9223372036854775807) :
    Calls Try.prog 23 #[.slice al ll cl, .int .i64 b] W fun e W' => e = .returned (.tuple #[.int .i64 0, .int .i64 4]) ∧ Below W.heap.size W W' := by
  have h' : (4000 : Int) < ll := by omega
  go_enter Try.func23, Try.ntmps23
  go_wp2
  go_ret2
  exact ⟨rfl, Below.refl _ _⟩
theorem KtFits_arg (W : World) (al : Option Addr) (ll cl : Nat) (b : Int) (h : ll ≤ 4000) (hb : b < 4) :
    Calls Try.prog 23 #[.slice al ll cl, .int .i64 b] W fun e W' => e = .returned (.tuple #[.int .i64 0, .int .i64 2]) ∧ Below W.heap.size W W' := by
  have h' : ¬ (4000 : Int) < ll := by omega
  go_enter Try.func23, Try.ntmps23
  go_wp2
  go_ret2
  exact ⟨rfl, Below.refl _ _⟩
set_option maxRecDepth 100000 in
theorem KtFits_ok (W : World) (al : Option Addr) (ll cl : Nat) (b : Int) (m : List Nat) (hl : Row .u32 W al ll cl (m.map Int.ofNat)) (h4 : ll ≤ 4000) (hm : m.length = ll) (hm32 : ∀ x ∈ m, x < 4294967296) (hb : 4 ≤ b) :
    Calls Try.prog 23 #[.slice al ll cl, .int .i64 b] W fun e W' => e = .returned (.tuple #[.int .i64 (fits (lens dStart m) b : Nat), .int .i64 0]) ∧ Below W.heap.size W W' := by
  have h' : ¬ (4000 : Int) < ll := by omega
  have hb' : ¬ b < 4 := by omega
  have hc := Go.Lib.hid (KtLengths_ok W al ll cl m hl (by omega) hm hm32)
  have hwf := Go.Lib.hid (lens_i64 m dStart_ok hm32)
  have hsl := Go.Lib.hid fun k => sum_lens m hm32 k
  have hLl : (lens dStart m).length = ll := by rw [lens_len, hm]
  have hbd := Go.Lib.hid (lens_bd m dStart_ok hm32)
  obtain ⟨L, hL⟩ : ∃ L, L = lens dStart m := ⟨_, rfl⟩
  rw [← hL] at hc hwf hsl hLl hbd ⊢
  obtain ⟨F, hF⟩ : ∃ F, F = fits L b := ⟨_, rfl⟩
  rw [← hF]
  have hF' : Hid (F = fitN L b ll 0) := Go.Lib.hid (by rw [hF]; unfold fits; rw [hLl])
  have hLl' := Go.Lib.hid hLl
  have hm' := Go.Lib.hid hm
  have hllI : (ll : Int) ≤ 4000 := by omega
  clear hl hm hm32 hL hLl hF hb
  go_enter Try.func23, Try.ntmps23
  go_wp2_with (go_at_call 40; with_reducible refine hc.out.mono ?_; rintro e w1 ⟨v1, rfl, ho, hb⟩; obtain ⟨a1, c1, rfl⟩ := own_form ho; have R1 := Go.Lib.hid (Row.of_own ho hwf.out); have B1 := Go.Lib.hid hb; clear ho hb)
  go_loopw [7, 8] (fun n i wr => ∃ k : Nat, k ≤ ll ∧ i = .int .i64 k ∧ n = .int .i64 ((L.take k).sum : Nat) ∧ Hid (F = fitN L b (ll - k) k) ∧ wr = w1) (fun _ i _ => ll - (intOf i).toNat)
  case atStart => exact ⟨0, Nat.zero_le _, rfl, rfl, hF', rfl⟩
  case round =>
    obtain ⟨k, hk, rfl, rfl, hFk, rfl⟩ := hrel
    by_cases hlt : k < ll
    · have hlt' : (k : Int) < ll := by omega
      have hkL : k < L.length := by rw [hLl'.out]; exact hlt
      have hsn := sum_snoc L hkL
      have hs1 := hsl.out (k + 1)
      rw [hm'.out] at hs1
      obtain ⟨bb, off, rfl, -, hcc⟩ := R1.out.cells (by omega)
      have hcell := hcc k hlt
      have hg : (L.map Int.ofNat).getD k 0 = ((L.getD k 0 : Nat) : Int) := by simp [List.getD, hkL]
      rw [hg] at hcell
      have hF1 := hFk.out
      rw [show ll - k = (ll - (k + 1)) + 1 by omega] at hF1
      obtain ⟨x, hx⟩ : ∃ x, x = L.getD k 0 := ⟨_, rfl⟩
      obtain ⟨s, hs⟩ : ∃ s, s = (L.take k).sum := ⟨_, rfl⟩
      obtain ⟨t, ht⟩ : ∃ t, t = (L.take (k + 1)).sum := ⟨_, rfl⟩
      rw [← hx, ← hs, ← ht] at hsn
      rw [← hx] at hcell
      rw [← ht] at hs1
      rw [← hs]
      have ht' := Go.Lib.hid ht
      have hadd : (s : Int) + (x : Int) = (t : Int) := by omega
      have htI : (t : Int) ≤ 324810 := by omega
      have hlg := Go.Lib.hid fun w => KrLong_ok w t (by omega)
      obtain ⟨u, hu⟩ : ∃ u, u = longB t := ⟨_, rfl⟩
      have hlg' : Hid (∀ w, Calls Try.prog 42 #[.int .i64 t] w fun e W' => e = .returned (.int .i64 u) ∧ w = W') := Go.Lib.hid fun w => by rw [hu]; exact hlg.out w
      by_cases hbu : b < u
      · have hfin : Hid (F = k) := Go.Lib.hid (by rw [hF1]; exact fitN_stop (by rw [← ht, ← hu]; exact hbu))
        clear hcc hg hx hs ht hsn hs1 hkL hF1 hFk hu hlg
        go_wp2_with (go_at_call 42; with_reducible refine (hlg'.out _).mono ?_; rintro e wz ⟨rfl, rfl⟩)
        go_ret2
        exact ⟨by rw [hfin.out]; rfl, B1.out⟩
      · have hnx : Hid (F = fitN L b (ll - (k + 1)) (k + 1)) := Go.Lib.hid (by rw [hF1]; exact fitN_go (by rw [← ht, ← hu]; exact hbu))
        clear hcc hg hx hs ht hsn hs1 hkL hF1 hFk hu hlg
        go_wp2_with (go_at_call 42; with_reducible refine (hlg'.out _).mono ?_; rintro e wz ⟨rfl, rfl⟩)
        go_roundw
        case rel => exact ⟨k + 1, by omega, by go_num, by rw [← ht'.out], hnx, trivial⟩
        case measure => (simp [intOf] <;> omega)
    · obtain rfl : k = ll := by omega
      have hfin : Hid (F = k) := Go.Lib.hid (by rw [hFk.out, Nat.sub_self]; rfl)
      clear hFk
      go_wp2
      go_ret2
      exact ⟨by rw [hfin.out]; rfl, B1.out⟩
end Go.Proofs.Ythbjcjphplgobaa

/- Contracts of the reference of block: Unpack, Great. -/
namespace Go.Proofs.Ythbjcjphplgobaa
open Go.RowKit Cad

/-- a call that hands back bits and an error -/
def ResU (f : FuncId) (args : Array Value) (W : World) (m : Nat) (l : List Int) (n e : Int) : Prop :=
  Calls Try.prog f args W fun r W' => ∃ b c, r = .returned (.tuple #[.agg #[.slice b m c, .int .i64 n], .int .i64 e]) ∧ Row .u8 W' b m c l ∧ Below W.heap.size W W'
theorem ResU.none {f : FuncId} {args : Array Value} {W : World} {e : Int} (h : Calls Try.prog f args W fun r W' => r = .returned (.tuple #[.agg #[.slice none 0 0, .int .i64 0], .int .i64 e]) ∧ Below W.heap.size W W') : ResU f args W 0 [] 0 e :=
  h.mono fun _ _ ⟨h1, h2⟩ => ⟨Option.none, 0, h1, Row.nil_row _ _, h2⟩

def kgreat (len : Nat) : Bool := decide (300 < len ∧ len ≤ 41254 ∨ 41300 < len)
end Go.Proofs.Ythbjcjphplgobaa

/- Contracts of functions of Go's own package slices at bytes: Grow (of nil), Concat, Equal. -/
namespace Go.Proofs.Ythbjcjphplgobaa
open Go.RowKit

theorem zeroCells_len (z : Array Value) (n : Nat) (h : z.size = 1) : (Builtin.zeroCells z n).size = n := by
  unfold Builtin.zeroCells
  induction n with
  | zero => simp
  | succ n ih => simp_all

set_option maxRecDepth 100000 in
theorem SGrow_ok (W : World) (n : Nat) (h : n ≤ 1000000000) :
    Calls Try.prog 73 #[.slice none 0 0, .int .i64 n] W fun e W' => ∃ v', e = .returned v' ∧ W'.ownsRow W.heap.size 5 1 v' 0 (nums .u8 []) ∧ Below W.heap.size W W' := by
  by_cases h0 : n = 0
  · subst h0
    go_enter Try.func73, Try.ntmps73
    go_wp2
    go_ret
    exact ⟨_, rfl, World.ownsRow_nil _ _ _ _, Below.refl _ _⟩
  · obtain ⟨b, hb, hi⟩ := elU8.info
    obtain ⟨i0, hi, hz0, hz1, hz2⟩ := info_parts hi
    have h1 : ¬ ((n : Int) < 0) := by omega
    have h4 : (n : Int) > 0 := by omega
    have hrz : ∀ ty, (Builtin.append_ #[43, 3] ty #[.slice none 0 0, .int .i64 n]).run Try.prog W = _ := fun ty =>
      Lib.run_append_nil_zeros W 43 3 ty 5 i0 (.int .u8 0) .i64 .i64 elU8.sl (by kernel_rfl) hi hz0 n (by omega) (by omega) (by omega) (by rw [hz2]; calc n * b ≤ n * 8 := Nat.mul_le_mul_left _ hb
        _ ≤ 281474976710656 := by omega)
    have hGn : n ≤ grownCap W n 0 5 := grownCap_ge W _ _ _
    have hGm : grownCap W n 0 5 ≤ maxLen := grownCap_le_maxLen W n 0 5 (by unfold maxLen; omega)
    obtain ⟨G, hG⟩ : ∃ G, G = grownCap W n 0 5 := ⟨_, rfl⟩
    rw [← hG] at hrz hGn hGm
    obtain ⟨cs, hcs⟩ : ∃ cs, cs = (Builtin.zeroCells (Value.int .u8 0).cells n ++ Builtin.zeroCells (Value.int .u8 0).cells (G - n)) := ⟨_, rfl⟩
    rw [← hcs] at hrz
    have hsz : cs.size = G := by rw [hcs, Array.size_append, zeroCells_len _ _ rfl, zeroCells_len _ _ rfl]; omega
    have hG63 : G ≤ 9223372036854775807 := by unfold maxLen at hGm; omega
    have hrz' := Go.Lib.hid hrz
    clear hG hcs hi hz0 hz1 hz2 hrz
    go_enter Try.func73, Try.ntmps73
    go_wp2_with (at_builtin; refine Lib.wpList_append_run _ rfl _ _ _ _ rfl _ _ rfl rfl _ _ (hrz'.out _) ?_)
    go_ret
    refine ⟨_, rfl, ⟨rfl, .inr ⟨W.heap.size, G, cs, rfl, Nat.le_refl _, ?_, by omega, hGm, by omega, by simp [nums]⟩⟩, ?_⟩
    · rw [show W.heap.size = W.drew.heap.size from rfl]; exact heap_alloc_new _ _
    · exact (Below.refl _ _).drew.alloc (Nat.le_refl _) _

/-- the lengths of the first j rows, and their numbers -/
def sumN (N : Nat → Nat) : Nat → Nat
  | 0 => 0
  | j + 1 => sumN N j + N j
def catN (L : Nat → List Int) : Nat → List Int
  | 0 => []
  | j + 1 => catN L j ++ L j
theorem sumN_mono (N : Nat → Nat) {j m : Nat} (h : j ≤ m) : sumN N j ≤ sumN N m := by
  induction h with
  | refl => exact Nat.le_refl _
  | step _ ih => exact Nat.le_trans ih (Nat.le_add_right _ _)

theorem SConcat_ok (W : World) (b o m c : Nat) (A : Nat → Option Addr) (N C : Nat → Nat) (L : Nat → List Int) (hc : ∀ j, j < m → W.cell? ⟨b, o + j, none⟩ = some (.slice (A j) (N j) (C j))) (hb : b < W.heap.size)
    (hr : ∀ j, j < m → Row .u8 W (A j) (N j) (C j) (L j)) (hm : m ≤ 1000) (hs : sumN N m ≤ 1000000000) :
    Calls Try.prog 46 #[.slice (some ⟨b, o, none⟩) m c] W fun e W' => ∃ v', e = .returned v' ∧ W'.ownsRow W.heap.size 5 1 v' (sumN N m) (nums .u8 (catN L m)) ∧ Below W.heap.size W W' := by
  have hr' := Go.Lib.hid hr
  have hc' := Go.Lib.hid hc
  obtain ⟨n, hn⟩ : ∃ n, n = sumN N m := ⟨_, rfl⟩
  have hnh := Go.Lib.hid hn
  rw [← hn] at hs ⊢
  have hg := Go.Lib.hid (SGrow_ok W n hs)
  clear hr hc hn
  go_enter Try.func46, Try.ntmps46
  go_wp2
  go_loop [3, 5, 11] (fun z s i => ∃ j : Nat, j ≤ m ∧ i = .int .i64 j ∧ z = .int .i64 (sumN N j : Nat)) (fun _ _ i => m - (intOf i).toNat)
  case atStart => exact ⟨0, by omega, rfl, rfl⟩
  case round =>
    obtain ⟨j, hj, rfl, rfl⟩ := hrel
    by_cases hlt : j < m
    · have hcell := hc'.out j hlt
      have hle : sumN N (j + 1) ≤ n := by rw [hnh.out]; exact sumN_mono N (by omega)
      have hrl := (hr'.out j hlt).hlen
      have hnx : ((sumN N j : Nat) : Int) + (N j : Int) = ((sumN N (j + 1) : Nat) : Int) := by simp only [sumN]; omega
      obtain ⟨s, hs'⟩ : ∃ s, s = sumN N j := ⟨_, rfl⟩
      obtain ⟨t, ht'⟩ : ∃ t, t = sumN N (j + 1) := ⟨_, rfl⟩
      obtain ⟨a1, ha1⟩ : ∃ x, x = A j := ⟨_, rfl⟩
      obtain ⟨n1, hn1⟩ : ∃ x, x = N j := ⟨_, rfl⟩
      obtain ⟨c1, hc1⟩ : ∃ x, x = C j := ⟨_, rfl⟩
      rw [← hs', ← ht'] at hnx
      rw [← hn1] at hnx
      rw [← ha1, ← hn1, ← hc1] at hcell
      rw [← ht'] at hle
      rw [← hs']
      have hn9 : (n1 : Int) ≤ 1000000000 := by omega
      have hneg : ¬ ((t : Nat) : Int) < 0 := by omega
      have ht2 := Go.Lib.hid ht'
      clear hs' ht' ha1 hn1 hc1 hrl
      go_wp2
      go_round
      case rel => exact ⟨j + 1, by omega, by go_num, by rw [← ht2.out]⟩
      case measure => (simp [intOf] <;> omega)
    · obtain rfl : j = m := by omega
      rw [← hnh.out]
      go_wp2_with (go_at_call 73; refine hg.out.mono ?_; rintro e w1 ⟨v1, rfl, hown1, hb1⟩; have hown1' := Go.Lib.hid hown1; have hb1' := Go.Lib.hid hb1; clear hown1 hb1)
      go_loopw [6, 8, 27] (fun v s i wr => ∃ k : Nat, k ≤ j ∧ i = .int .i64 k ∧ wr.ownsRow W.heap.size 5 1 v (sumN N k) (nums .u8 (catN L k)) ∧ Below W.heap.size W wr) (fun _ _ i _ => j - (intOf i).toNat)
      case atStart => exact ⟨0, by omega, rfl, hown1'.out, hb1'.out⟩
      case round =>
        obtain ⟨k, hk, rfl, hown, hbw⟩ := hrel
        by_cases hlt : k < j
        · have hcell := (hbw.cell (p := ⟨b, o + k, none⟩) (by show b < _; omega)).trans (hc'.out k hlt)
          have hle : sumN N (k + 1) ≤ n := by rw [hnh.out]; exact sumN_mono N (by omega)
          have hrk := Go.Lib.hid ((hr'.out k hlt).below hbw (Nat.le_refl _))
          have hnx : Hid (∀ (w' : World) (v' : Value), w'.ownsRow W.heap.size 5 1 v' (sumN N k + N k) (nums .u8 (catN L k ++ L k)) → w'.ownsRow W.heap.size 5 1 v' (sumN N (k + 1)) (nums .u8 (catN L (k + 1)))) := Go.Lib.hid fun _ _ h => h
          have hsl : sumN N k + N k ≤ n := hle
          obtain ⟨s, hs'⟩ : ∃ s, s = sumN N k := ⟨_, rfl⟩
          obtain ⟨l0, hl0⟩ : ∃ s, s = catN L k := ⟨_, rfl⟩
          obtain ⟨a1, ha1⟩ : ∃ x, x = A k := ⟨_, rfl⟩
          obtain ⟨n1, hn1⟩ : ∃ x, x = N k := ⟨_, rfl⟩
          obtain ⟨c1, hc1⟩ : ∃ x, x = C k := ⟨_, rfl⟩
          rw [← hs', ← hn1, ← hl0] at hnx
          rw [← ha1, ← hn1, ← hc1] at hcell hrk
          rw [← hs', ← hn1] at hsl
          rw [← hs', ← hl0] at hown
          have hown2 := Go.Lib.hid hown
          have hsz := hbw.size
          clear hs' hl0 ha1 hn1 hc1 hle hown
          go_wp2_with (at_builtin; refine law_appendRow elU8 _ rfl _ _ rfl W.heap.size _ s l0 rfl hown2.out a1 n1 c1 (L k) rfl hrk.out (by omega) hsz ?_; intro v3 w3 hown3 hb3; have hown3' := Go.Lib.hid hown3; have hb3' := Go.Lib.hid hb3; clear hown3 hb3)
          go_roundw
          case rel => exact ⟨k + 1, by omega, by go_num, hnx.out _ _ hown3'.out, hbw.trans hb3'.out⟩
          case measure => (simp [intOf] <;> omega)
        · obtain rfl : k = j := by omega
          rw [← hnh.out] at hown
          go_wp2
          go_ret
          exact ⟨_, rfl, hown, hbw⟩

theorem SEqual_ok (W : World) (a : Option Addr) (len cap : Nat) (l : List Int) (hr : Row .u8 W a len cap l) (a' : Option Addr) (len' cap' : Nat) (l' : List Int) (hr' : Row .u8 W a' len' cap' l') :
    Calls Try.prog 53 #[.slice a len cap, .slice a' len' cap'] W fun e W' => e = .returned (.bool (decide (l = l'))) ∧ Below W.heap.size W W' := by
  have hmx := Nat.le_trans hr.hcap hr.hmax
  have hmx' := Nat.le_trans hr'.hcap hr'.hmax
  unfold maxLen at hmx hmx'
  have hln := Go.Lib.hid hr.hlen
  have hln' := Go.Lib.hid hr'.hlen
  have hR := Go.Lib.hid hr
  have hR' := Go.Lib.hid hr'
  clear hr hr'
  by_cases hne : len = len'
  · subst hne
    go_enter Try.func53, Try.ntmps53
    go_wp2
    go_loopw [5, 13] (fun x i wr => ∃ k : Nat, k ≤ len ∧ i = .int .i64 k ∧ Hid (l.take k = l'.take k) ∧ Below W.heap.size W wr) (fun _ i _ => len - (intOf i).toNat)
    case atStart => exact ⟨0, by omega, rfl, Go.Lib.hid rfl, Below.refl _ _⟩
    case round =>
      obtain ⟨k, hk, rfl, hpre, hb⟩ := hrel
      by_cases hlt : k < len
      · obtain ⟨b, off, rfl, hbl, hc⟩ := (hR.out.below hb (Nat.le_refl _)).cells (by omega)
        obtain ⟨b', off', rfl, hbl', hc'⟩ := (hR'.out.below hb (Nat.le_refl _)).cells (by omega)
        have hcell := hc k hlt
        have hcell' := hc' k hlt
        obtain ⟨x, hx⟩ : ∃ x, x = l.getD k 0 := ⟨_, rfl⟩
        obtain ⟨y, hy⟩ : ∃ y, y = l'.getD k 0 := ⟨_, rfl⟩
        rw [← hx] at hcell
        rw [← hy] at hcell'
        have hX := Go.Lib.hid hx
        have hY := Go.Lib.hid hy
        clear hc hc' hx hy
        by_cases he : x = y
        · subst he
          have hnext := Go.Lib.hid (take_next hpre.out (by rw [hln.out]; exact hlt) (by rw [hln'.out]; exact hlt) (hX.out.symm.trans hY.out))
          go_wp2
          go_quiet (fail)
          go_wp2
          go_roundw
          case rel => exact ⟨k + 1, by omega, by go_num, hnext, Below.drewN hb _⟩
          case measure => (simp [intOf] <;> omega)
        · have hneq : Hid (l ≠ l') := Go.Lib.hid fun e => he (by rw [hX.out, hY.out, e])
          go_wp2
          go_quiet (fail)
          go_wp2
          go_ret
          exact ⟨ret_bool (decide_eq_false hneq.out).symm, Below.drewN hb _⟩
      · obtain rfl : k = len := by omega
        have heq : Hid (l = l') := Go.Lib.hid (by
          have := hpre.out
          rwa [List.take_of_length_le (by rw [hln.out]; exact Nat.le_refl _), List.take_of_length_le (by rw [hln'.out]; exact Nat.le_refl _)] at this)
        go_wp2
        go_ret
        exact ⟨ret_bool (decide_eq_true heq.out).symm, hb⟩
  · have hneq : Hid (l ≠ l') := Go.Lib.hid fun e => hne (by rw [← hln.out, ← hln'.out, e])
    go_enter Try.func53, Try.ntmps53
    go_wp2
    go_ret
    exact ⟨ret_bool (decide_eq_false hneq.out).symm, Below.refl _ _⟩

/-- Concat of two slices that were just laid side by side -/
theorem SConcat2_ok (w : World) (E : TypeId) (a1 : Option Addr) (n1 c1 : Nat) (l1 : List Int) (a2 : Option Addr) (n2 c2 : Nat) (l2 : List Int) (hr1 : Row .u8 w a1 n1 c1 l1) (hr2 : Row .u8 w a2 n2 c2 l2) (hs : n1 + n2 ≤ 1000000000) :
    Calls Try.prog 46 #[.slice (some ⟨w.heap.size, 0, none⟩) 2 2] (w.alloc (.cells #[.slice a1 n1 c1, .slice a2 n2 c2] E)) fun e W' => ∃ a c, e = .returned (.slice a (n1 + n2 : Nat) c) ∧ Row .u8 W' a (n1 + n2) c (l1 ++ l2) ∧ Below w.heap.size w W' := by
  have hb := below1 w (.cells #[.slice a1 n1 c1, .slice a2 n2 c2] E)
  have h := SConcat_ok (w.alloc (.cells #[.slice a1 n1 c1, .slice a2 n2 c2] E)) w.heap.size 0 2 2 (fun j => if j = 0 then a1 else a2) (fun j => if j = 0 then n1 else n2) (fun j => if j = 0 then c1 else c2) (fun j => if j = 0 then l1 else l2)
    (by
      intro j hj
      rcases (show j = 0 ∨ j = 1 by omega) with rfl | rfl
      · unfold World.cell?; rw [heap_alloc_new]; rfl
      · unfold World.cell?; rw [heap_alloc_new]; rfl)
    (by simp)
    (by
      intro j hj
      rcases (show j = 0 ∨ j = 1 by omega) with rfl | rfl
      · exact hr1.below hb (Nat.le_refl _)
      · exact hr2.below hb (Nat.le_refl _))
    (by omega) (by simp [sumN]; omega)
  have e1 : sumN (fun j => if j = 0 then n1 else n2) 2 = n1 + n2 := by simp [sumN]
  have e2 : catN (fun j => if j = 0 then l1 else l2) 2 = l1 ++ l2 := by simp [catN]
  rw [e1, e2] at h
  refine h.mono ?_
  rintro e W' ⟨v', rfl, ho, hb'⟩
  obtain ⟨a, c, rfl⟩ := own_form ho
  refine ⟨a, c, rfl, Row.of_own ho ?_, hb.trans (hb'.mono hb.size)⟩
  intro x hx
  rcases List.mem_append.1 hx with h | h
  · exact hr1.wf x h
  · exact hr2.wf x h
end Go.Proofs.Ythbjcjphplgobaa

/- Contracts of the package crc32 (the true code). -/
namespace Go.Proofs.Ythbjcjphplgobaa
open Go.RowKit Cad

def crcTab : List Int := (List.range 256).map fun i => (crcByte 0 i : Int)
theorem crcTab_len : crcTab.length = 256 := by simp [crcTab]
theorem crcTab_getD {i : Nat} (h : i < 256) : crcTab.getD i 0 = (crcByte 0 i : Nat) := by simp [crcTab, List.getD, h]
theorem crcTab_snoc {k : Nat} (h : k < 256) : crcTab.take (k + 1) = crcTab.take k ++ [(crcByte 0 k : Int)] := by
  rw [List.take_add_one, List.getElem?_eq_getElem (by rw [crcTab_len]; exact h)]
  simp [crcTab]

attribute [irreducible] crcTab

theorem iterZ_last : ∀ (k s : Nat), iterZ (k + 1) s = crcZ (iterZ k s)
  | 0, _ => rfl
  | k + 1, s => by rw [iterZ, iterZ_last k, iterZ]
theorem iterZ_lt : ∀ (k : Nat) {s : Nat}, s < 4294967296 → iterZ k s < 4294967296
  | 0, _, h => h
  | k + 1, _, h => iterZ_lt k (crcZ_lt h)

theorem CBehind_ok (W : World) (s c : Nat) (hs : s < 4294967296) (hc : c < 256) :
    Calls Try.prog 102 #[.int .u32 s, .int .u8 c] W fun e W' => e = .returned (.int .u32 (crcByte s c : Nat)) ∧ W = W' := by
  have hx := Go.u32_xor_nat s c hs (by omega)
  have hxl : s ^^^ c < 4294967296 := Nat.xor_lt_two_pow (n := 32) hs (by omega)
  have hit := Go.Lib.hid (crcByte_iter s c hc)
  obtain ⟨x, hxd⟩ : ∃ x, x = s ^^^ c := ⟨_, rfl⟩
  rw [← hxd] at hx hxl hit
  clear hxd
  go_enter Try.func102, Try.ntmps102
  go_wp2
  go_loop [0, 9] (fun st i => ∃ k : Nat, k ≤ 8 ∧ i = .int .i64 k ∧ st = .int .u32 (iterZ k x : Nat)) (fun _ i => 8 - (intOf i).toNat)
  case atStart => exact ⟨0, by omega, rfl, rfl⟩
  case round =>
    clear hx
    obtain ⟨k, hk, rfl, rfl⟩ := hrel
    by_cases hlt : k < 8
    · have hst := iterZ_lt k hxl
      have hn := Go.Lib.hid (iterZ_last k x)
      obtain ⟨st, hs'⟩ : ∃ y, y = iterZ k x := ⟨_, rfl⟩
      rw [← hs'] at hst hn ⊢
      clear hs' hit
      rcases (show st % 2 = 0 ∨ st % 2 = 1 by omega) with h | h
      · have e1 : bits .and .u32 (st : Int) 1 = 0 := by
          have := Go.u32_and_nat st 1 hst (by decide)
          rw [show ((1 : Nat) : Int) = 1 from rfl] at this
          rw [this, Nat.and_one_is_mod, h]; rfl
        have e2 : bits .and .u32 3988292384 0 = 0 := by
          have := Go.u32_and_nat 3988292384 0 (by decide) (by decide)
          simpa using this
        have e3 : bits .xor .u32 ((st : Int) / 2) 0 = (st : Int) / 2 := by
          have := Go.u32_xor_nat (st / 2) 0 (by omega) (by decide)
          simpa using this
        have hz := Go.Lib.hid (show crcZ st = st / 2 by unfold crcZ; rw [if_neg (by omega)]; simp)
        clear h
        go_wp2
        go_round
        case rel => exact ⟨k + 1, by omega, by go_num, by rw [hn.out, hz.out]; simp⟩
        case measure => (simp [intOf] <;> omega)
      · have e1 : bits .and .u32 (st : Int) 1 = 1 := by
          have := Go.u32_and_nat st 1 hst (by decide)
          rw [show ((1 : Nat) : Int) = 1 from rfl] at this
          rw [this, Nat.and_one_is_mod, h]; rfl
        have e2 : bits .and .u32 3988292384 4294967295 = 3988292384 := by
          have := Go.u32_and_nat 3988292384 4294967295 (by decide) (by decide)
          simpa using this
        have hx := Go.u32_xor_nat (st / 2) 3988292384 (by omega) (by decide)
        rw [show ((3988292384 : Nat) : Int) = (3988292384 : Int) from rfl, show ((st / 2 : Nat) : Int) = (st : Int) / 2 by simp] at hx
        have hz := Go.Lib.hid (show crcZ st = st / 2 ^^^ 3988292384 by unfold crcZ; rw [if_pos h])
        obtain ⟨y, hy⟩ : ∃ y, y = st / 2 ^^^ 3988292384 := ⟨_, rfl⟩
        rw [← hy] at hx hz
        clear h hy
        go_wp2
        go_round
        case rel => exact ⟨k + 1, by omega, by go_num, by rw [hn.out, hz.out]⟩
        case measure => (simp [intOf] <;> omega)
    · obtain rfl : k = 8 := by omega
      go_wp2
      go_ret
      exact ⟨ret_int (by rw [hit.out]), rfl⟩

def tabTo (k : Nat) : List Int := crcTab.take k ++ List.replicate (256 - k) 0
theorem tabTo_0 : tabTo 0 = List.replicate 256 0 := by unfold tabTo; rw [List.take_zero, List.nil_append]
theorem tabTo_256 : tabTo 256 = crcTab := by unfold tabTo; rw [List.take_of_length_le (by rw [crcTab_len]; exact Nat.le_refl _), Nat.sub_self, List.replicate_zero, List.append_nil]
theorem tabTo_len {k : Nat} (h : k ≤ 256) : (tabTo k).length = 256 := by unfold tabTo; rw [List.length_append, List.length_take, crcTab_len, List.length_replicate]; omega
theorem tabTo_set {k : Nat} (h : k < 256) : (tabTo k).set k (crcByte 0 k : Nat) = tabTo (k + 1) := by
  unfold tabTo
  rw [crcTab_snoc h, show 256 - k = (256 - (k + 1)) + 1 by omega, List.replicate_succ, List.set_append_right _ _ (by rw [List.length_take, crcTab_len]; omega)]
  rw [show k - (List.take k crcTab).length = 0 by rw [List.length_take, crcTab_len]; omega]
  simp
attribute [irreducible] tabTo

theorem CNext_many (W : World) (s : Int) (a : Option Addr) (len cap : Nat) (h : (100000 : Int) < len) (hm : len ≤ 9223372036854775807) :
    Calls Try.prog 95 #[.int .u32 s, .slice a len cap] W fun e W' => e = .returned (.tuple #[.int .u32 0, .int .i64 4]) ∧ Below W.heap.size W W' := by
  go_enter Try.func95, Try.ntmps95
  go_wp2
  go_ret2
  exact ⟨rfl, Below.refl _ _⟩
theorem CNext_ok (W : World) (s : Nat) (a : Option Addr) (len cap : Nat) (l : List Int) (hr : Row .u8 W a len cap l) (hs : s < 4294967296) (h : (len : Int) ≤ 100000) :
    Calls Try.prog 95 #[.int .u32 s, .slice a len cap] W fun e W' => e = .returned (.tuple #[.int .u32 (crcB s l : Nat), .int .i64 0]) ∧ Below W.heap.size W W' := by
  have hmx := Nat.le_trans hr.hcap hr.hmax
  unfold maxLen at hmx
  have hlen := Go.Lib.hid hr.hlen
  have hr' := Go.Lib.hid hr
  clear hr
  go_enter Try.func95, Try.ntmps95
  go_wp2
  go_loop [0, 7, 13] (fun st x i => ∃ k : Nat, k ≤ len ∧ i = .int .i64 k ∧ st = .int .u32 (crcB s (l.take k) : Nat)) (fun _ _ i => len - (intOf i).toNat)
  case atStart => exact ⟨0, by omega, rfl, rfl⟩
  case round =>
    obtain ⟨k, hk, rfl, rfl⟩ := hrel
    by_cases hlt : k < len
    · obtain ⟨b, off, rfl, _, hc⟩ := hr'.out.cells (by omega)
      have hcell := hc k hlt
      have hn := Go.Lib.hid (crcB_snoc s l (k := k) (by rw [hlen.out]; exact hlt))
      have hst := crcB_lt (l.take k) hs
      have hb : 0 ≤ l.getD k 0 ∧ l.getD k 0 ≤ 255 := by
        have := bounds_u8 (hr'.out.wf _ (show l.getD k 0 ∈ l by rw [show l.getD k 0 = l[k]'(by rw [hlen.out]; exact hlt) by simp [List.getD, hlen.out, hlt]]; exact List.getElem_mem _))
        exact this
      obtain ⟨st, hs'⟩ : ∃ x, x = crcB s (l.take k) := ⟨_, rfl⟩
      obtain ⟨c, hcc⟩ : ∃ c : Nat, l.getD k 0 = c := ⟨(l.getD k 0).toNat, by omega⟩
      rw [hcc] at hcell hn hb
      rw [← hs'] at hst hn ⊢
      have hc8 : c < 256 := by omega
      clear hs' hcc hc hb
      go_wp2_with (go_at_call 102; refine (CBehind_ok _ st c hst hc8).mono ?_; rintro e w1 ⟨rfl, rfl⟩)
      go_round
      case rel => exact ⟨k + 1, by omega, by go_num, by rw [hn.out]; simp⟩
      case measure => (simp [intOf] <;> omega)
    · obtain rfl : k = len := by omega
      rw [List.take_of_length_le (by rw [hlen.out]; omega)]
      go_wp2
      go_ret2
      exact ⟨rfl, Below.refl _ _⟩
theorem ones_xor {x : Nat} (h : x < 4294967296) : 4294967295 ^^^ x = 4294967295 - x := by
  apply Nat.eq_of_testBit_eq
  intro i
  rw [Nat.testBit_xor, show 4294967295 - x = 2 ^ 32 - (x + 1) by omega, Nat.testBit_two_pow_sub_succ (by omega), show (4294967295 : Nat) = 2 ^ 32 - 1 by decide, Nat.testBit_two_pow_sub_one]
  by_cases hi : i < 32
  · simp [hi]
  · simp only [hi, decide_false, Bool.false_xor, Bool.false_and]
    exact Nat.testBit_lt_two_pow (Nat.lt_of_lt_of_le h (by calc 4294967296 = 2 ^ 32 := by decide
      _ ≤ 2 ^ i := Nat.pow_le_pow_right (by decide) (by omega)))
theorem CSum_many (W : World) (a : Option Addr) (len cap : Nat) (h : (100000 : Int) < len) (hm : len ≤ 9223372036854775807) :
    Calls Try.prog 71 #[.slice a len cap] W fun e W' => e = .returned (.tuple #[.int .u32 0, .int .i64 4]) ∧ Below W.heap.size W W' := by
  have hc := Go.Lib.hid (CNext_many W 4294967295 a len cap h hm)
  go_enter Try.func71, Try.ntmps71
  go_wp2_with (go_at_call 95; refine hc.out.mono ?_; rintro e w1 ⟨rfl, hb1⟩)
  go_ret2
  exact ⟨rfl, hb1⟩
theorem CSum_ok (W : World) (a : Option Addr) (len cap : Nat) (l : List Int) (hr : Row .u8 W a len cap l) (h : (len : Int) ≤ 100000) :
    Calls Try.prog 71 #[.slice a len cap] W fun e W' => e = .returned (.tuple #[.int .u32 (crcSum l : Nat), .int .i64 0]) ∧ Below W.heap.size W W' := by
  have hc := Go.Lib.hid (CNext_ok W 4294967295 a len cap l hr (by decide) h)
  have hlt := crcB_lt l (s := 4294967295) (by decide)
  have e := Go.Lib.hid (show crcSum l = 4294967295 - crcB 4294967295 l from rfl)
  obtain ⟨x, hx⟩ : ∃ x, x = crcB 4294967295 l := ⟨_, rfl⟩
  rw [← hx] at hc hlt e
  have hn : bits .xor .u32 IntKind.u32.max (x : Int) = ((4294967295 - x : Nat) : Int) := by
    have := Go.u32_xor_nat 4294967295 x (by decide) hlt
    rw [ones_xor hlt] at this
    exact this
  clear hr hx
  go_enter Try.func71, Try.ntmps71
  go_wp2_with (go_at_call 95; refine hc.out.mono ?_; rintro e w1 ⟨rfl, hb1⟩)
  go_ret2
  exact ⟨congrArg (fun z => Ending.returned (.tuple #[.int .u32 z, .int .i64 0])) (by rw [e.out]), hb1⟩
end Go.Proofs.Ythbjcjphplgobaa

/- Contracts of the package block: Size, Pack, Unpack. -/
namespace Go.Proofs.Ythbjcjphplgobaa
open Go.RowKit Cad

theorem KSize_no (W : World) (n : Int) (h : n < 0 ∨ 330000 < n) :
    Calls Try.prog 39 #[.int .i64 n] W fun e W' => e = .returned (.tuple #[.int .i64 0, .int .i64 2]) ∧ Below W.heap.size W W' := by
  rcases (show n < 0 ∨ (¬ n < 0 ∧ 330000 < n) by omega) with h | ⟨h, h'⟩
  all_goals
    go_enter Try.func39, Try.ntmps39
    go_wp2
    go_ret2
    exact ⟨rfl, Below.refl _ _⟩
theorem KSize_ok (W : World) (n : Nat) (h : n ≤ 330000) :
    Calls Try.prog 39 #[.int .i64 n] W fun e W' => e = .returned (.tuple #[.int .i64 (((n + 7) / 8 + 4 : Nat) : Int), .int .i64 0]) ∧ Below W.heap.size W W' := by
  have h0 : ¬ (n : Int) < 0 := by omega
  have h1 : ¬ (330000 : Int) < n := by omega
  go_enter Try.func39, Try.ntmps39
  go_wp2
  go_ret2
  refine ⟨congrArg (fun z => Ending.returned (.tuple #[.int .i64 z, .int .i64 0])) ?_, Below.refl _ _⟩
  go_num

theorem KsumOf_ok (W : World) (a : Option Addr) (len cap : Nat) (l : List Int) (hr : Row .u8 W a len cap l) (h : (len : Int) ≤ 100000) :
    Calls Try.prog 45 #[.slice a len cap] W fun e W' => ∃ b c, e = .returned (.tuple #[.slice b 4 c, .int .i64 0]) ∧ Row .u8 W' b 4 c (CadL.leB (crcSum l : Nat) 4) ∧ Below W.heap.size W W' := by
  have hcs := Go.Lib.hid (CSum_ok W a len cap l hr h)
  have hlt := crcSum_lt l
  obtain ⟨s, hs⟩ : ∃ s, s = crcSum l := ⟨_, rfl⟩
  rw [← hs] at hcs hlt ⊢
  have hle : Hid (∀ w, Calls Try.prog 72 #[.int .u64 (s : Int), .int .i64 4] w fun e W' => e = .returned (.tuple #[.slice (some ⟨w.heap.size, 0, none⟩) 4 4, .int .i64 0]) ∧ W'.ownsRow w.heap.size 5 1 (.slice (some ⟨w.heap.size, 0, none⟩) 4 4) 4 (nums .u8 (CadL.leB (s : Int) 4)) ∧ Below w.heap.size w W') := Go.Lib.hid fun w => Bytes_ok (s : Int) 4 w (by decide) (by decide) (by omega) (by show (s : Int) ≤ 4294967295; omega)
  have hwf := Go.Lib.hid (u8_wf (CadL.leB_wf (s : Int) 4))
  clear hr hs
  go_enter Try.func45, Try.ntmps45
  go_wp2_with (first
    | (go_at_call 71; with_reducible refine hcs.out.mono ?_; rintro e w1 ⟨rfl, hb1⟩; have B1 := Go.Lib.hid hb1; clear hb1)
    | (go_at_call 72; with_reducible refine (hle.out _).mono ?_; rintro e w2 ⟨rfl, ho2, hb2⟩; have R2 := Go.Lib.hid (Row.of_own ho2 hwf.out); have B2 := Go.Lib.hid (B1.out.trans (hb2.mono B1.out.size)); clear ho2 hb2))
  go_ret2
  exact ⟨_, _, rfl, R2.out, B2.out⟩

theorem KPack_bad (W : World) (aa : Option Addr) (len cap : Nat) (N : Int) (l : List Int) (hr : Row .u8 W aa len cap l) (hN : (Lit.int .i64 N).wf = true) (hv : ¬ Valid l N) :
    ResP 25 #[.agg #[.slice aa len cap, .int .i64 N]] W 0 [] 8 := by
  refine ResP.none ?_
  have b0 := Go.Lib.hid (below1 W (.cells #[.slice aa len cap, .int .i64 N] 45))
  have hal := Go.Lib.hid (BAlign_bad _ aa len cap N l (hr.below b0.out (Nat.le_refl _)) hN hv)
  clear hr hN hv
  go_enter Try.func25, Try.ntmps25
  go_wp2_with (go_at_call 44; with_reducible refine hal.out.mono ?_; rintro e w1 ⟨rfl, hb1⟩; have B1 := b0.out.trans (hb1.mono b0.out.size); have B2 := Go.Lib.hid (B1.alloc B1.size (.cells #[.slice none 0 0, .int .i64 0] 45)); clear hb1 B1)
  go_ret2
  exact ⟨rfl, B2.out⟩

theorem KPack_ok (W : World) (aa : Option Addr) (len cap : Nat) (N : Int) (l : List Int) (hr : Row .u8 W aa len cap l) (hN : (Lit.int .i64 N).wf = true) (hv : Valid l N) :
    ResP 25 #[.agg #[.slice aa len cap, .int .i64 N]] W (len + 4) (sealB l) 0 := by
  unfold ResP
  have hlen : len ≤ 41250 := by have := hv.n; have := hr.hlen; omega
  have b0 := Go.Lib.hid (below1 W (.cells #[.slice aa len cap, .int .i64 N] 45))
  have hwl := Go.Lib.hid hr.wf
  obtain ⟨n8, hn8⟩ : ∃ n8, n8 = 8 * (len : Int) := ⟨_, rfl⟩
  have hal := Go.Lib.hid (BAlign_ok _ aa len cap N l (hr.below b0.out (Nat.le_refl _)) hN hv)
  rw [← hn8] at hal
  have hsm := Go.Lib.hid fun w a c h => KsumOf_ok w a len c l h (by omega)
  obtain ⟨S, hS⟩ : ∃ S, S = CadL.leB (crcSum l : Nat) 4 := ⟨_, rfl⟩
  have hse : Hid (l ++ S = sealB l) := Go.Lib.hid (by rw [hS]; rfl)
  rw [← hS] at hsm
  have hn9 : len + 4 ≤ 1000000000 := by omega
  clear hr hN hv hS hn8
  go_enter Try.func25, Try.ntmps25
  go_wp2_with (first
    | (go_at_call 44; with_reducible refine hal.out.mono ?_; rintro e w1 ⟨v1, rfl, ho1, hb1⟩; obtain ⟨a1, c1, rfl⟩ := own_form ho1; have R0 := Row.of_own ho1 hwl.out; have B1 := b0.out.trans (hb1.mono b0.out.size); have B2 := Go.Lib.hid (B1.alloc B1.size (.cells #[.slice a1 len c1, .int .i64 n8] 45)); have R2 := Go.Lib.hid (R0.below (below1 w1 (.cells #[.slice a1 len c1, .int .i64 n8] 45)) (Nat.le_refl _)); have X2 := Go.Lib.hid (box1 w1 (.slice a1 len c1) n8); obtain ⟨c0, c1', c2, c3⟩ := X2.out.cells; clear ho1 hb1 R0 B1)
    | (go_at_call 45; with_reducible refine (hsm.out _ _ _ R2.out).mono ?_; rintro e w3 ⟨a3, c3', rfl, hr3, hb3⟩; have B3 := Go.Lib.hid (B2.out.trans (hb3.mono B2.out.size)); have R3 := Go.Lib.hid (R2.out.below hb3 (Nat.le_refl _)); have S3 := Go.Lib.hid hr3; have X3 := Go.Lib.hid (X2.out.below hb3 X2.out.lt); obtain ⟨d0, d1, d2, d3⟩ := X3.out.cells; clear hr3 hb3)
    | (go_at_call 46; with_reducible refine (SConcat2_ok w3 _ a1 len c1 l a3 4 c3' S R3.out S3.out hn9).mono ?_; rintro e w4 ⟨a4, c4, rfl, hr4, hb4⟩; have B4 := Go.Lib.hid (B3.out.trans (hb4.mono B3.out.size)); have R4 := Go.Lib.hid hr4; clear hr4 hb4))
  go_ret2
  exact ⟨a4, c4, rfl, by rw [← hse.out]; exact R4.out, B4.out⟩

theorem KUnpack_short (W : World) (a : Option Addr) (len cap : Nat) (l : List Int) (_hr : Row .u8 W a len cap l) (h : len < 4) :
    ResU 31 #[.slice a len cap] W 0 [] 0 24 := by
  refine ResU.none ?_
  have h' : (len : Int) < 4 := by omega
  clear _hr
  go_enter Try.func31, Try.ntmps31
  go_wp2
  go_returns
  exact ⟨rfl, (Below.refl _ _).alloc (Nat.le_refl _) _⟩
theorem KUnpack_many (W : World) (a : Option Addr) (len cap : Nat) (l : List Int) (_hr : Row .u8 W a len cap l) (h : 41254 < len) (hm : len ≤ 9223372036854775807) :
    ResU 31 #[.slice a len cap] W 0 [] 0 4 := by
  refine ResU.none ?_
  have h' : ¬ (len : Int) < 4 := by omega
  have h2 : (41254 : Int) < len := by omega
  clear _hr
  go_enter Try.func31, Try.ntmps31
  go_wp2
  go_returns
  exact ⟨rfl, (Below.refl _ _).alloc (Nat.le_refl _) _⟩

theorem right_iff {l : List Int} {len n : Nat} (hl : l.length = len) (hn : n + 4 = len) : rightB l ↔ CadL.leB (crcSum (l.take n) : Nat) 4 = (l.drop n).take 4 := by
  have e : l.length - 4 = n := by omega
  have e4 : (l.drop n).take 4 = l.drop n := List.take_of_length_le (by simp; omega)
  rw [e4]
  unfold rightB sealB
  rw [e]
  constructor
  · rintro ⟨_, h⟩
    have h' : l.take n ++ CadL.leB (crcSum (l.take n) : Nat) 4 = l.take n ++ l.drop n := by rw [List.take_append_drop]; exact h
    exact List.append_cancel_left h'
  · intro h
    refine ⟨by omega, ?_⟩
    rw [h, List.take_append_drop]

theorem BoxAt.drewN {w : World} {x : Nat} {v : Value} {N : Int} (h : BoxAt w x v N) (n : Nat) : BoxAt (w.drewN n) x v N := h

theorem KUnpack_no (W : World) (a : Option Addr) (len cap : Nat) (l : List Int) (hr : Row .u8 W a len cap l) (h4 : 4 ≤ len) (hl : len ≤ 41254) (hn : ¬ rightB l) :
    ResU 31 #[.slice a len cap] W 0 [] 0 22 := by
  refine ResU.none ?_
  have h' : ¬ (len : Int) < 4 := by omega
  have h2 : ¬ (41254 : Int) < len := by omega
  obtain ⟨n, hnn⟩ : ∃ n, n + 4 = len := ⟨len - 4, by omega⟩
  have hne := Go.Lib.hid (decide_eq_false fun h => hn ((right_iff hr.hlen hnn).2 h))
  have hcap := hr.hcap
  have hmx := Nat.le_trans hr.hcap hr.hmax
  unfold maxLen at hmx
  obtain ⟨b, off, rfl, hbW, _⟩ := hr.cells (by omega)
  have b0 := Go.Lib.hid (below1 W (.cells #[.slice none 0 0, .int .i64 0] 45))
  have x0 := Go.Lib.hid (box1 W (.slice none 0 0) 0)
  have r0 := hr.below b0.out (Nat.le_refl _)
  have rT := Go.Lib.hid (r0.take n (by omega))
  have rS := Go.Lib.hid (r0.sub n 4 (by omega))
  have hsm := Go.Lib.hid fun w h => KsumOf_ok w (some ⟨b, off, none⟩) n cap (l.take n) h (by omega)
  obtain ⟨S, hS⟩ : ∃ S, S = CadL.leB (crcSum (l.take n) : Nat) 4 := ⟨_, rfl⟩
  obtain ⟨Z, hZ⟩ : ∃ Z, Z = (l.drop n).take 4 := ⟨_, rfl⟩
  rw [← hS] at hsm hne
  rw [← hZ] at hne rS
  obtain ⟨m4, hm4⟩ : ∃ m4, m4 = len - n := ⟨_, rfl⟩
  have hm4' : m4 = 4 := by omega
  have heq : Hid (∀ w a c, Row .u8 w a 4 c S → Row .u8 w (some ⟨b, off + n, none⟩) 4 (cap - n) Z → Calls Try.prog 53 #[.slice a 4 c, .slice (some ⟨b, off + n, none⟩) m4 (cap - n)] w fun e W' => e = .returned (.bool false) ∧ Below w.heap.size w W') := Go.Lib.hid fun w a c h1 h2 => by
    have := SEqual_ok w a 4 c S h1 (some ⟨b, off + n, none⟩) 4 (cap - n) Z h2
    rw [hm4']
    rwa [hne.out] at this
  rw [hm4] at heq
  have e1 : (len : Int) - 4 = (n : Int) := by omega
  have e2 : (n : Int) ≤ len := by omega
  have e3 : (n : Int) < cap := by omega
  clear hr hn hS hZ r0 hne hm4 hm4'
  go_enter Try.func31, Try.ntmps31
  go_wp2
  go_quiet (fail)
  go_wp2_with (first
    | (go_at_call 45; with_reducible refine (hsm.out _ ?h0).mono ?_; (case h0 => exact rT.out.below (Below.drewN (Below.refl _ _) _) (Nat.le_refl _)); rintro e w1 ⟨a1, c1, rfl, hr1, hb1⟩; have B1 := Go.Lib.hid ((Below.drewN b0.out _).trans (hb1.mono (Below.drewN b0.out _).size)); have S1 := Go.Lib.hid hr1; have R1 := Go.Lib.hid ((rS.out.below (Below.drewN (Below.refl _ _) _) (Nat.le_refl _)).below hb1 (Nat.le_refl _)); have T1 := Go.Lib.hid ((rT.out.below (Below.drewN (Below.refl _ _) _) (Nat.le_refl _)).below hb1 (Nat.le_refl _)); have X1 := Go.Lib.hid ((x0.out.drewN _).below hb1 (x0.out.drewN _).lt); clear hr1 hb1)
    | (go_at_call 53; with_reducible refine (heq.out _ _ _ S1.out R1.out).mono ?_; rintro e w2 ⟨rfl, hb2⟩; have B2 := Go.Lib.hid (B1.out.trans (hb2.mono B1.out.size)); have X2 := Go.Lib.hid (X1.out.below hb2 X1.out.lt); have T2 := Go.Lib.hid (T1.out.below hb2 (Nat.le_refl _)); obtain ⟨c0, c1, c2, c3⟩ := X2.out.cells; clear hb2))
  (try simp only [Exit.inBlock, Exit.then])
  refine bodyPost_ret (results_box_tmp (by rfl) _ _ W.heap.size _ _ rfl (X2.out.set _ _)) rfl ?_
  exact ⟨rfl, (B2.out.setCell (Nat.le_refl _) _).setCell (Nat.le_refl _) _⟩

theorem KUnpack_ok (W : World) (a : Option Addr) (len cap : Nat) (l : List Int) (hr : Row .u8 W a len cap l) (hl : len ≤ 41254) (hy : rightB l) :
    ResU 31 #[.slice a len cap] W (len - 4) (l.take (len - 4)) (8 * (len - 4) : Nat) 0 := by
  unfold ResU
  have h4 : 4 ≤ len := by have := hy.1; have := hr.hlen; omega
  have h' : ¬ (len : Int) < 4 := by omega
  have h2 : ¬ (41254 : Int) < len := by omega
  obtain ⟨n, hnn⟩ : ∃ n, n + 4 = len := ⟨len - 4, by omega⟩
  have hne := Go.Lib.hid (decide_eq_true ((right_iff hr.hlen hnn).1 hy))
  have hcap := hr.hcap
  have hmx := Nat.le_trans hr.hcap hr.hmax
  unfold maxLen at hmx
  obtain ⟨b, off, rfl, hbW, _⟩ := hr.cells (by omega)
  have b0 := Go.Lib.hid (below1 W (.cells #[.slice none 0 0, .int .i64 0] 45))
  have x0 := Go.Lib.hid (box1 W (.slice none 0 0) 0)
  have r0 := hr.below b0.out (Nat.le_refl _)
  have rT := Go.Lib.hid (r0.take n (by omega))
  have rS := Go.Lib.hid (r0.sub n 4 (by omega))
  have hsm := Go.Lib.hid fun w h => KsumOf_ok w (some ⟨b, off, none⟩) n cap (l.take n) h (by omega)
  obtain ⟨S, hS⟩ : ∃ S, S = CadL.leB (crcSum (l.take n) : Nat) 4 := ⟨_, rfl⟩
  obtain ⟨Z, hZ⟩ : ∃ Z, Z = (l.drop n).take 4 := ⟨_, rfl⟩
  rw [← hS] at hsm hne
  rw [← hZ] at hne rS
  obtain ⟨m4, hm4⟩ : ∃ m4, m4 = len - n := ⟨_, rfl⟩
  have hm4' : m4 = 4 := by omega
  have heq : Hid (∀ w a c, Row .u8 w a 4 c S → Row .u8 w (some ⟨b, off + n, none⟩) 4 (cap - n) Z → Calls Try.prog 53 #[.slice a 4 c, .slice (some ⟨b, off + n, none⟩) m4 (cap - n)] w fun e W' => e = .returned (.bool true) ∧ Below w.heap.size w W') := Go.Lib.hid fun w a c h1 h2 => by
    have := SEqual_ok w a 4 c S h1 (some ⟨b, off + n, none⟩) 4 (cap - n) Z h2
    rw [hm4']
    rwa [hne.out] at this
  rw [hm4] at heq
  have e1 : (len : Int) - 4 = (n : Int) := by omega
  have e2 : (n : Int) ≤ len := by omega
  have e3 : (n : Int) < cap := by omega
  have hwf := Go.Lib.hid (hr.take n (by omega)).wf
  have hlt : Hid (l.take (len - 4) = l.take n ∧ len - 4 = n) := Go.Lib.hid ⟨by rw [show len - 4 = n by omega], by omega⟩
  rw [hlt.out.1, hlt.out.2]
  have hof : Hid (∀ w, Row .u8 w (some ⟨b, off, none⟩) n cap (l.take n) → Calls Try.prog 54 #[.slice (some ⟨b, off, none⟩) n cap] w fun e W' => ∃ b c, e = .returned (.tuple #[.agg #[.slice b n c, .int .i64 ((8 * n : Nat) : Int)], .int .i64 0]) ∧ Row .u8 W' b n c (l.take n) ∧ Below w.heap.size w W') := Go.Lib.hid fun w h => by
    refine (BOf_ok w _ n cap (l.take n) h (by omega)).mono ?_
    rintro e W' ⟨v', rfl, ho, hb⟩
    obtain ⟨b, c, rfl⟩ := own_form ho
    exact ⟨b, c, by simp, Row.of_own ho hwf.out, hb⟩
  clear hr hy hS hZ r0 hne hm4 hm4' hlt
  go_enter Try.func31, Try.ntmps31
  go_wp2
  go_quiet (fail)
  go_wp2_with (first
    | (go_at_call 45; with_reducible refine (hsm.out _ ?h0).mono ?_; (case h0 => exact rT.out.below (Below.drewN (Below.refl _ _) _) (Nat.le_refl _)); rintro e w1 ⟨a1, c1, rfl, hr1, hb1⟩; have B1 := Go.Lib.hid ((Below.drewN b0.out _).trans (hb1.mono (Below.drewN b0.out _).size)); have S1 := Go.Lib.hid hr1; have R1 := Go.Lib.hid ((rS.out.below (Below.drewN (Below.refl _ _) _) (Nat.le_refl _)).below hb1 (Nat.le_refl _)); have T1 := Go.Lib.hid ((rT.out.below (Below.drewN (Below.refl _ _) _) (Nat.le_refl _)).below hb1 (Nat.le_refl _)); have X1 := Go.Lib.hid ((x0.out.drewN _).below hb1 (x0.out.drewN _).lt); clear hr1 hb1)
    | (go_at_call 53; with_reducible refine (heq.out _ _ _ S1.out R1.out).mono ?_; rintro e w2 ⟨rfl, hb2⟩; have B2 := Go.Lib.hid (B1.out.trans (hb2.mono B1.out.size)); have X2 := Go.Lib.hid (X1.out.below hb2 X1.out.lt); have T2 := Go.Lib.hid (T1.out.below hb2 (Nat.le_refl _)); obtain ⟨c0, c1, c2, c3⟩ := X2.out.cells; clear hb2)
    | (go_at_call 54; with_reducible refine (hof.out _ T2.out).mono ?_; rintro e w3 ⟨a3, p3, rfl, hr3, hb3⟩; have B3 := Go.Lib.hid (B2.out.trans (hb3.mono B2.out.size)); have X3 := Go.Lib.hid (X2.out.below hb3 X2.out.lt); have R3 := Go.Lib.hid hr3; obtain ⟨d0, d1, d2, d3⟩ := X3.out.cells; clear hr3 hb3))
  (try simp only [Exit.inBlock, Exit.then])
  refine bodyPost_ret (results_box_tmp (by rfl) _ _ W.heap.size _ _ rfl (X3.out.set _ _)) rfl ?_
  exact ⟨a3, p3, by simp, (R3.out.box X3.out 0 (.slice a3 n p3)).box (X3.out.set0 _) 1 _, (B3.out.setCell (Nat.le_refl _) _).setCell (Nat.le_refl _) _⟩
end Go.Proofs.Ythbjcjphplgobaa

/- Contracts of the package coder: encode, by halves. -/
namespace Go.Proofs.Ythbjcjphplgobaa
open Go.RowKit Cad

/-- a state, bits and a state that go out -/
theorem dbd_boxes (W : World) (a b c d : Int) : ∃ W0, W0 = ((W.alloc (.cells #[.int .i64 a, .int .i64 b, .int .u64 c, .int .u64 d] 52)).alloc (.cells #[.slice none 0 0, .int .i64 0] 45)).alloc (.cells #[.int .i64 0, .int .i64 0, .int .u64 0, .int .u64 0] 52) ∧ Below W.heap.size W W0 ∧ W0.heap.size = W.heap.size + 1 + 1 + 1 ∧
    DuAt W0 W.heap.size a b c d ∧ BoxAt W0 (W.heap.size + 1) (.slice none 0 0) 0 ∧ DuAt W0 (W.heap.size + 1 + 1) 0 0 0 0 := by
  have h1 := (below1 W (.cells #[.int .i64 a, .int .i64 b, .int .u64 c, .int .u64 d] 52)).alloc (below1 W _).size (.cells #[.slice none 0 0, .int .i64 0] 45)
  refine ⟨_, rfl, h1.alloc h1.size _, by simp, ((duat1 W a b c d).alloc _).alloc _, ?_, ?_⟩
  · have h := box1 (W.alloc (.cells #[.int .i64 a, .int .i64 b, .int .u64 c, .int .u64 d] 52)) (.slice none 0 0) 0
    have e : (W.alloc (.cells #[.int .i64 a, .int .i64 b, .int .u64 c, .int .u64 d] 52)).heap.size = W.heap.size + 1 := by simp
    rw [e] at h
    exact h.alloc _
  · have h := duat1 ((W.alloc (.cells #[.int .i64 a, .int .i64 b, .int .u64 c, .int .u64 d] 52)).alloc (.cells #[.slice none 0 0, .int .i64 0] 45)) 0 0 0 0
    have e : ((W.alloc (.cells #[.int .i64 a, .int .i64 b, .int .u64 c, .int .u64 d] 52)).alloc (.cells #[.slice none 0 0, .int .i64 0] 45)).heap.size = W.heap.size + 1 + 1 := by simp
    rw [e] at h
    exact h

/-- what a world holds while numbers are coded -/
structure EncAt (W : World) (al : Option Addr) (ll cl : Nat) (l : List Int) (w : World) (E : Du) : Prop where
  d : DuAt w W.heap.size E.k0 E.k1 E.s0 E.s1
  y : BoxAt w (W.heap.size + 1) (.slice none 0 0) 0
  p : DuAt w (W.heap.size + 1 + 1) 0 0 0 0
  l : Row .u32 w al ll cl l
  w : Below W.heap.size W w
section
variable {W : World} {al : Option Addr} {ll cl : Nat} {l : List Int} {w w' : World} {E : Du}
theorem EncAt.below (h : EncAt W al ll cl l w E) (hb : Below w.heap.size w w') : EncAt W al ll cl l w' E :=
  ⟨h.d.below hb h.d.lt, h.y.below hb h.y.lt, h.p.below hb h.p.lt, h.l.below hb (Nat.le_refl _), h.w.trans (hb.mono h.w.size)⟩
theorem EncAt.drew (h : EncAt W al ll cl l w E) : EncAt W al ll cl l w.drew E := h.below (Below.refl _ _).drew
theorem EncAt.alloc (h : EncAt W al ll cl l w E) (o : Obj) : EncAt W al ll cl l (w.alloc o) E := h.below (below1 _ _)
theorem EncAt.sz (h : EncAt W al ll cl l w E) : W.heap.size + 1 + 1 < w.heap.size := h.p.lt
/-- a new variable that holds bits is written -/
theorem EncAt.box (h : EncAt W al ll cl l w E) {x : Nat} {aa : Option Addr} {n c : Nat} {N : Int} (hx : BoxAt w x (.slice aa n c) N) (hg : W.heap.size + 1 + 1 < x) (v : Value) (M : Int) :
    EncAt W al ll cl l ((w.setCell ⟨x, 0, none⟩ v).setCell ⟨x, 1, none⟩ (.int .i64 M)) E := by
  refine ⟨(h.d.other (by simp; omega) _).other (by simp; omega) _, (h.y.other (by simp; omega) _).other (by simp; omega) _, (h.p.other (by simp; omega) _).other (by simp; omega) _, ?_, (h.w.setCell (by simp; omega) _).setCell (by simp; omega) _⟩
  have hl := h.l
  refine ⟨hl.hlen, hl.hcap, hl.hmax, hl.wf, fun hp => ?_, hl.nil⟩
  obtain ⟨b, off, rfl, hlt, hc⟩ := hl.cells hp
  have hne : b ≠ x := by
    rintro rfl
    have h0 := hc 0 hp
    unfold World.cell? at h0
    unfold BoxAt at hx
    rw [hx] at h0
    match off, h0 with
    | 0, h0 => simp at h0
    | 1, h0 => simp at h0
    | off + 2, h0 => simp at h0
  refine ⟨b, off, rfl, by simpa using hlt, fun i hi => ?_⟩
  rw [← hc i hi]
  unfold World.cell?
  rw [Below.heap_setCell _ _ _ _ (by simpa using hne), Below.heap_setCell _ _ _ _ (by simpa using hne)]
/-- the state is written -/
theorem EncAt.next (h : EncAt W al ll cl l w E) (E' : Du) :
    EncAt W al ll cl l ((((w.setCell ⟨W.heap.size, 0, none⟩ (.int .i64 E'.k0)).setCell ⟨W.heap.size, 1, none⟩ (.int .i64 E'.k1)).setCell ⟨W.heap.size, 2, none⟩ (.int .u64 E'.s0)).setCell ⟨W.heap.size, 3, none⟩ (.int .u64 E'.s1)) E' := by
  refine ⟨h.d.set _ _ _ _, (((h.y.other (by simp) _).other (by simp) _).other (by simp) _).other (by simp) _, (((h.p.other (by simp; omega) _).other (by simp; omega) _).other (by simp; omega) _).other (by simp; omega) _, ?_, outp h.w (Nat.le_refl _)⟩
  exact (((h.l.boxD (.inr rfl) h.d 0 _).boxD (.inr rfl) (h.d.set0 _) 1 _).boxD (.inr rfl) ((h.d.set0 _).set1 _) 2 _).boxD (.inr rfl) (((h.d.set0 _).set1 _).set2 _) 3 _
end

set_option maxRecDepth 100000 in
set_option maxHeartbeats 2000000 in
/-- no number -/
theorem Pcode_nil (W : World) (al : Option Addr) (cl : Nat) (D : Du) :
    ResD 43 #[.slice al 0 cl, .agg #[.int .i64 D.k0, .int .i64 D.k1, .int .u64 D.s0, .int .u64 D.s1]] W 0 [] 0 D.k0 D.k1 D.s0 D.s1 0 := by
  unfold ResD
  obtain ⟨W0, hW0, hbE, hsz0, hd0, hy0, hp0⟩ := dbd_boxes W D.k0 D.k1 D.s0 D.s1
  have hd0' := Go.Lib.hid hd0
  have hy0' := Go.Lib.hid hy0
  have hp0' := Go.Lib.hid hp0
  have hbE' := Go.Lib.hid hbE
  clear hd0 hy0 hp0 hbE
  go_enter Try.func43, Try.ntmps43
  go_wp2
  rw [← hW0]
  clear hW0
  refine wp_region_ord (fun w' => DuAt w' W.heap.size D.k0 D.k1 D.s0 D.s1) [(0, 0), (1, 2), (2, 3), (3, 4), (4, 0)] (by kernel_rfl) (by kernel_rfl) ?hC0 ?_
  case hC0 => exact hd0'.out.drew
  simp only [pick, nth]
  refine wpW_name ?_
  intro q0 hq0
  have d0 := Go.Lib.hid (show DuAt q0 W.heap.size D.k0 D.k1 D.s0 D.s1 by rw [hq0]; exact hd0'.out.drew)
  have y0 := Go.Lib.hid (show BoxAt q0 (W.heap.size + 1) (.slice none 0 0) 0 by rw [hq0]; exact hy0'.out.drew)
  have p0 := Go.Lib.hid (show DuAt q0 (W.heap.size + 1 + 1) 0 0 0 0 by rw [hq0]; exact hp0'.out.drew)
  have B0 := Go.Lib.hid (show Below W.heap.size W q0 by rw [hq0]; exact hbE'.out.drew)
  clear hq0 hd0' hy0' hp0' hbE'
  (repeat (first | (apply wpW_light; (case h => (intro wa; (first | (go_big_quiet_skip; exact wpQuiet_nil rfl) | (go_big_quiet_want; go_big_quiet_op; go_big_quiet_on; exact wpQuiet_nil rfl))))) | (apply wpW_here; (case h => (first | (go_big_quiet_skip; exact wpQuiet_nil rfl) | (go_big_quiet_want; go_big_quiet_op; go_big_quiet_on; exact wpQuiet_nil rfl)))) | (apply wpW_held; (case hC => assumption); (case h => (intro wa hCa; obtain ⟨u0, u1, u2, u3, u4, u5, u6, u7⟩ := hCa.cells; (first | (go_big_quiet_skip; exact wpQuiet_nil rfl) | (go_big_quiet_want; go_big_quiet_op; go_big_quiet_on; exact wpQuiet_nil rfl)))))))
  obtain ⟨f0, f1, f2, f3⟩ := y0.out.cells
  obtain ⟨g0, g1, g2, g3, g4, g5, g6, g7⟩ := p0.out.cells
  refine wpW_act (fun QQ hQQ => ?_) (by rfl)
  go_wp2
  (refine hQQ _ _ ?hCn ?_; (case hCn => exact (d0.out.other (by simp) _).other (by simp) _); clear hQQ QQ)
  (repeat (first | (apply wpW_light; (case h => (intro wa; (first | (go_big_quiet_skip; exact wpQuiet_nil rfl) | (go_big_quiet_want; go_big_quiet_op; go_big_quiet_on; exact wpQuiet_nil rfl))))) | (apply wpW_here; (case h => (first | (go_big_quiet_skip; exact wpQuiet_nil rfl) | (go_big_quiet_want; go_big_quiet_op; go_big_quiet_on; exact wpQuiet_nil rfl)))) | (apply wpW_held; (case hC => assumption); (case h => (intro wa hCa; simp only [] at hCa; (first | (go_big_quiet_skip; exact wpQuiet_nil rfl) | (go_big_quiet_want; go_big_quiet_op; go_big_quiet_on; exact wpQuiet_nil rfl)))))))
  refine wpW_last (fun QQ hQQ => ?_) (by rfl)
  go_wp2
  (refine hQQ.out _ _ ?_; clear hQQ QQ)
  (repeat (first | (apply wpW_light; (case h => (intro wa; (first | (go_big_quiet_skip; exact wpQuiet_nil rfl) | (go_big_quiet_want; go_big_quiet_op; go_big_quiet_on; exact wpQuiet_nil rfl))))) | (apply wpW_here; (case h => (first | (go_big_quiet_skip; exact wpQuiet_nil rfl) | (go_big_quiet_want; go_big_quiet_op; go_big_quiet_on; exact wpQuiet_nil rfl)))) | (apply wpW_held; (case hC => assumption); (case h => (intro wa hCa; simp only [] at hCa; (first | (go_big_quiet_skip; exact wpQuiet_nil rfl) | (go_big_quiet_want; go_big_quiet_op; go_big_quiet_on; exact wpQuiet_nil rfl)))))))
  refine wpW_nil ?_
  go_wp2
  (try simp only [Exit.inBlock, Exit.then])
  obtain ⟨o1, o2, o3, o4⟩ := outs y0.out p0.out (by omega) none 0 0 0 D.k0 D.k1 D.s0 D.s1
  refine bodyPost_ret (results_bits_du_tmp (by rfl) _ _ (W.heap.size + 1) (W.heap.size + 1 + 1) _ _ _ _ _ _ rfl rfl o1 o2) rfl ?_
  exact ⟨none, 0, by simp, Row.nil_row _ _, o3 B0.out (by omega) (by omega)⟩

set_option maxRecDepth 100000 in
set_option maxHeartbeats 2000000 in
/-- one number -/
theorem Pcode_one (W : World) (al : Option Addr) (cl : Nat) (l : List Int) (v : Nat) (D E : Du) (hl : Row .u32 W al 1 cl l) (hv : l.getD 0 0 = (v : Int)) (m : Nat) (p : List Int) (t : Int)
    (hw : ∀ w, ResD 60 #[.agg #[.slice none 0 0, .int .i64 0], .agg #[.int .i64 D.k0, .int .i64 D.k1, .int .u64 D.s0, .int .u64 D.s1], .int .u32 v] w m p t E.k0 E.k1 E.s0 E.s1 0) :
    ResD 43 #[.slice al 1 cl, .agg #[.int .i64 D.k0, .int .i64 D.k1, .int .u64 D.s0, .int .u64 D.s1]] W m p t E.k0 E.k1 E.s0 E.s1 0 := by
  unfold ResD at hw ⊢
  obtain ⟨W0, hW0, hbE, hsz0, hd0, hy0, hp0⟩ := dbd_boxes W D.k0 D.k1 D.s0 D.s1
  have hd0' := Go.Lib.hid hd0
  have hy0' := Go.Lib.hid hy0
  have hp0' := Go.Lib.hid hp0
  have hbE' := Go.Lib.hid hbE
  have hw' := Go.Lib.hid hw
  obtain ⟨b, o, rfl, hblt, hc⟩ := (hl.below hbE (Nat.le_refl _)).cells (by omega)
  have hcell := hc 0 (by omega)
  rw [hv] at hcell
  simp only [Nat.add_zero] at hcell
  clear hd0 hy0 hp0 hbE hl hc hw hv
  go_enter Try.func43, Try.ntmps43
  go_wp2
  rw [← hW0]
  clear hW0
  refine wp_region_ord (fun _ => True) [(0, 0), (1, 1), (2, 0), (3, 0), (4, 1), (5, 3), (6, 0), (7, 0), (8, 0), (9, 3), (10, 4), (11, 0)] (by kernel_rfl) (by kernel_rfl) ?hC0 ?_
  case hC0 => trivial
  simp only [pick, nth]
  have hcell' : W0.drew.cell? ⟨b, o, none⟩ = some (.int .u32 v) := hcell
  obtain ⟨u0, u1, u2, u3, u4, u5, u6, u7⟩ := hd0'.out.drew.cells
  (repeat (first | (apply wpW_light; (case h => (intro wa; (first | (go_big_quiet_skip; exact wpQuiet_nil rfl) | (go_big_quiet_want; go_big_quiet_op; go_big_quiet_on; exact wpQuiet_nil rfl))))) | (apply wpW_here; (case h => (first | (go_big_quiet_skip; exact wpQuiet_nil rfl) | (go_big_quiet_want; go_big_quiet_op; go_big_quiet_on; exact wpQuiet_nil rfl)))) | (apply wpW_held; (case hC => assumption); (case h => (intro wa hCa; simp only [] at hCa; (first | (go_big_quiet_skip; exact wpQuiet_nil rfl) | (go_big_quiet_want; go_big_quiet_op; go_big_quiet_on; exact wpQuiet_nil rfl)))))))
  clear u0 u1 u2 u3 u4 u5 u6 u7 hcell' hcell
  refine wpW_act (fun QQ hQQ => ?_) (by rfl)
  go_wp2_with (go_at_call 60; with_reducible refine (hw'.out _).mono ?_; rintro e q1 ⟨b1, c1, rfl, hr1, hb1⟩)
  (refine hQQ _ _ ?hCn ?_; (case hCn => trivial); clear hQQ QQ)
  have hy1 := Go.Lib.hid (hy0'.out.drew.below hb1 hy0'.out.drew.lt)
  have hp1 := Go.Lib.hid (hp0'.out.drew.below hb1 hp0'.out.drew.lt)
  have hr1' := Go.Lib.hid hr1
  have hbA := Go.Lib.hid (hbE'.out.drew.trans (hb1.mono hbE'.out.drew.size))
  clear hb1 hr1
  obtain ⟨f0, f1, f2, f3⟩ := hy1.out.cells
  obtain ⟨g0, g1, g2, g3, g4, g5, g6, g7⟩ := hp1.out.cells
  (repeat (first | (apply wpW_light; (case h => (intro wa; (first | (go_big_quiet_skip; exact wpQuiet_nil rfl) | (go_big_quiet_want; go_big_quiet_op; go_big_quiet_on; exact wpQuiet_nil rfl))))) | (apply wpW_here; (case h => (first | (go_big_quiet_skip; exact wpQuiet_nil rfl) | (go_big_quiet_want; go_big_quiet_op; go_big_quiet_on; exact wpQuiet_nil rfl)))) | (apply wpW_held; (case hC => assumption); (case h => (intro wa hCa; simp only [] at hCa; (first | (go_big_quiet_skip; exact wpQuiet_nil rfl) | (go_big_quiet_want; go_big_quiet_op; go_big_quiet_on; exact wpQuiet_nil rfl)))))))
  refine wpW_act (fun QQ hQQ => ?_) (by rfl)
  go_wp2
  (refine hQQ _ _ ?hCn ?_; (case hCn => trivial); clear hQQ QQ)
  (repeat (first | (apply wpW_light; (case h => (intro wa; (first | (go_big_quiet_skip; exact wpQuiet_nil rfl) | (go_big_quiet_want; go_big_quiet_op; go_big_quiet_on; exact wpQuiet_nil rfl))))) | (apply wpW_here; (case h => (first | (go_big_quiet_skip; exact wpQuiet_nil rfl) | (go_big_quiet_want; go_big_quiet_op; go_big_quiet_on; exact wpQuiet_nil rfl)))) | (apply wpW_held; (case hC => assumption); (case h => (intro wa hCa; simp only [] at hCa; (first | (go_big_quiet_skip; exact wpQuiet_nil rfl) | (go_big_quiet_want; go_big_quiet_op; go_big_quiet_on; exact wpQuiet_nil rfl)))))))
  refine wpW_last (fun QQ hQQ => ?_) (by rfl)
  go_wp2
  (refine hQQ.out _ _ ?_; clear hQQ QQ)
  (repeat (first | (apply wpW_light; (case h => (intro wa; (first | (go_big_quiet_skip; exact wpQuiet_nil rfl) | (go_big_quiet_want; go_big_quiet_op; go_big_quiet_on; exact wpQuiet_nil rfl))))) | (apply wpW_here; (case h => (first | (go_big_quiet_skip; exact wpQuiet_nil rfl) | (go_big_quiet_want; go_big_quiet_op; go_big_quiet_on; exact wpQuiet_nil rfl)))) | (apply wpW_held; (case hC => assumption); (case h => (intro wa hCa; simp only [] at hCa; (first | (go_big_quiet_skip; exact wpQuiet_nil rfl) | (go_big_quiet_want; go_big_quiet_op; go_big_quiet_on; exact wpQuiet_nil rfl)))))))
  refine wpW_nil ?_
  go_wp2
  (try simp only [Exit.inBlock, Exit.then])
  obtain ⟨o1, o2, o3, o4⟩ := outs hy1.out hp1.out (by omega) b1 m c1 t E.k0 E.k1 E.s0 E.s1
  refine bodyPost_ret (results_bits_du_tmp (by rfl) _ _ (W.heap.size + 1) (W.heap.size + 1 + 1) _ _ _ _ _ _ rfl rfl o1 o2) rfl ?_
  exact ⟨b1, c1, by simp, o4 hr1'.out, o3 hbA.out (by omega) (by omega)⟩
end Go.Proofs.Ythbjcjphplgobaa

/- Contracts of the package coder: encode, by halves; two halves. -/
namespace Go.Proofs.Ythbjcjphplgobaa
open Go.RowKit Cad

set_option maxRecDepth 100000 in
set_option maxHeartbeats 8000000 in
/-- two halves -/
theorem Pcode_more (W : World) (b o ll cl : Nat) (l : List Int) (D E G : Du) (h : Nat) (hl : Row .u32 W (some ⟨b, o, none⟩) ll cl l) (h4 : ll ≤ 4000) (h2 : 2 ≤ ll) (hh : h = ll / 2) (m1 : Nat) (p1 : List Int) (t1 : Int) (m2 : Nat) (p2 : List Int) (t2 : Int) (m3 : Nat) (p3 : List Int) (t3 : Int)
    (c1 : ∀ w, Row .u32 w (some ⟨b, o, none⟩) ll cl l → ResD 43 #[.slice (some ⟨b, o, none⟩) h cl, .agg #[.int .i64 D.k0, .int .i64 D.k1, .int .u64 D.s0, .int .u64 D.s1]] w m1 p1 t1 E.k0 E.k1 E.s0 E.s1 0)
    (c2 : ∀ w, Row .u32 w (some ⟨b, o, none⟩) ll cl l → ResD 43 #[.slice (some ⟨b, o + h, none⟩) (ll - h) (cl - h), .agg #[.int .i64 E.k0, .int .i64 E.k1, .int .u64 E.s0, .int .u64 E.s1]] w m2 p2 t2 G.k0 G.k1 G.s0 G.s1 0)
    (cj : ∀ w b c b' c', Row .u8 w b m1 c p1 → Row .u8 w b' m2 c' p2 → Res 58 #[.agg #[.slice b m1 c, .int .i64 t1], .agg #[.slice b' m2 c', .int .i64 t2]] w m3 p3 t3 0) :
    ResD 43 #[.slice (some ⟨b, o, none⟩) ll cl, .agg #[.int .i64 D.k0, .int .i64 D.k1, .int .u64 D.s0, .int .u64 D.s1]] W m3 p3 t3 G.k0 G.k1 G.s0 G.s1 0 := by
  unfold ResD at c1 c2 ⊢
  unfold Res at cj
  have c1' := Go.Lib.hid c1
  have c2' := Go.Lib.hid c2
  have cj' := Go.Lib.hid cj
  have hcap := hl.hcap
  obtain ⟨W0, hW0, hbE, hsz0, hd0, hy0, hp0⟩ := dbd_boxes W D.k0 D.k1 D.s0 D.s1
  have A0 := Go.Lib.hid (⟨hd0, hy0, hp0, hl.below hbE (Nat.le_refl _), hbE⟩ : EncAt W (some ⟨b, o, none⟩) ll cl l W0 D)
  clear hd0 hy0 hp0 hbE hl c1 c2 cj
  have n0 : ((ll : Int) == 0) = false := by rw [beq_eq_false_iff_ne]; omega
  have n1 : ((ll : Int) == 1) = false := by rw [beq_eq_false_iff_ne]; omega
  have e8 : IntKind.i64.wrap ((ll : Int) / 2) = (h : Int) := by rw [IntWalk.i64_in _ (by omega)]; omega
  have hle : h < ll := by omega
  have hle2 : h < cl := by omega
  clear hh
  go_enter Try.func43, Try.ntmps43
  go_wp2
  rw [← hW0]
  clear hW0
  go_cut [8, 9] (fun s8 s9 wx => ∃ (x : Nat) (b1 : Option Addr) (k1 : Nat), s8 = .pointer (some ⟨x, 0, none⟩) ∧ s9 = .int .i64 0 ∧ W.heap.size + 1 + 1 < x ∧ BoxAt wx x (.slice b1 m1 k1) t1 ∧ Row .u8 wx b1 m1 k1 p1 ∧ EncAt W (some ⟨b, o, none⟩) ll cl l wx E)
  case first =>
    refine wp_region_ord2 (fun w' => DuAt w' W.heap.size D.k0 D.k1 D.s0 D.s1) 4 9 [(0, 0), (1, 0), (2, 0), (3, 2), (4, 4), (5, 0), (6, 0), (7, 0), (8, 0), (9, 4), (10, 4), (11, 4), (12, 0)] [(0, 0), (1, 0), (2, 0), (3, 2), (9, 3), (4, 4), (5, 0), (6, 0), (7, 0), (8, 0), (10, 4), (11, 4), (12, 0)] (by kernel_rfl) (by decide) (by kernel_rfl) (by kernel_rfl) ?hC0 ?_ ?_
    case hC0 => exact A0.out.d.drew
    · simp only [pick, nth]
      refine wpW_name ?_
      intro q0 hq0
      have A1 := Go.Lib.hid (show EncAt W (some ⟨b, o, none⟩) ll cl l q0 D by rw [hq0]; exact A0.out.drew)
      clear hq0 A0
      have dA := Go.Lib.hid A1.out.d
      (repeat (first | (apply wpW_light; (case h => (intro wa; (first | (go_big_quiet_skip; exact wpQuiet_nil rfl) | (go_big_quiet_want; go_big_quiet_op; go_big_quiet_on; exact wpQuiet_nil rfl))))) | (apply wpW_here; (case h => (first | (go_big_quiet_skip; exact wpQuiet_nil rfl) | (go_big_quiet_want; go_big_quiet_op; go_big_quiet_on; exact wpQuiet_nil rfl)))) | (apply wpW_held; (case hC => assumption); (case h => (intro wa hCa; obtain ⟨u0, u1, u2, u3, u4, u5, u6, u7⟩ := hCa.cells; (first | (go_big_quiet_skip; exact wpQuiet_nil rfl) | (go_big_quiet_want; go_big_quiet_op; go_big_quiet_on; exact wpQuiet_nil rfl)))))))
      clear dA
      refine wpW_last (fun QQ hQQ => ?_) (by rfl)
      go_wp2_with (go_at_call 43; with_reducible refine (c1'.out _ A1.out.l).mono ?_; rintro e q1 ⟨ba, ka, rfl, ra, hb⟩)
      (refine hQQ.out _ _ ?_; clear hQQ QQ)
      have A2 := Go.Lib.hid (A1.out.below hb)
      have ra2 := Go.Lib.hid ra
      clear ra hb
      (repeat (first | (apply wpW_light; (case h => (intro wa; (first | (go_big_quiet_skip; exact wpQuiet_nil rfl) | (go_big_quiet_want; go_big_quiet_op; go_big_quiet_on; exact wpQuiet_nil rfl))))) | (apply wpW_here; (case h => (first | (go_big_quiet_skip; exact wpQuiet_nil rfl) | (go_big_quiet_want; go_big_quiet_op; go_big_quiet_on; exact wpQuiet_nil rfl)))) | (apply wpW_held; (case hC => assumption); (case h => (intro wa hCa; simp only [] at hCa; (first | (go_big_quiet_skip; exact wpQuiet_nil rfl) | (go_big_quiet_want; go_big_quiet_op; go_big_quiet_on; exact wpQuiet_nil rfl)))))))
      refine wpW_last (fun QQ hQQ => ?_) (by rfl)
      go_wp2
      (refine hQQ.out _ _ ?_; clear hQQ QQ)
      refine wpW_name ?_
      intro q2 hq
      have hb : Below q1.heap.size q1 q2 := by rw [hq]; exact below1 q1 _
      have nb3 := Go.Lib.hid (show BoxAt q2 q1.heap.size (.slice none 0 0) 0 by rw [hq]; exact box1 q1 _ _)
      have gx : W.heap.size + 1 + 1 < q1.heap.size := A2.out.sz
      obtain ⟨y, hy⟩ : ∃ y, y = q1.heap.size := ⟨_, rfl⟩
      rw [← hy] at nb3 gx ⊢
      have A3 := Go.Lib.hid (A2.out.below hb)
      have ra3 := Go.Lib.hid (ra2.out.below hb (Nat.le_refl _))
      clear hq hb hy
      (repeat (first | (apply wpW_light; (case h => (intro wa; (first | (go_big_quiet_skip; exact wpQuiet_nil rfl) | (go_big_quiet_want; go_big_quiet_op; go_big_quiet_on; exact wpQuiet_nil rfl))))) | (apply wpW_here; (case h => (first | (go_big_quiet_skip; exact wpQuiet_nil rfl) | (go_big_quiet_want; go_big_quiet_op; go_big_quiet_on; exact wpQuiet_nil rfl)))) | (apply wpW_held; (case hC => assumption); (case h => (intro wa hCa; simp only [] at hCa; (first | (go_big_quiet_skip; exact wpQuiet_nil rfl) | (go_big_quiet_want; go_big_quiet_op; go_big_quiet_on; exact wpQuiet_nil rfl)))))))
      obtain ⟨f0, f1, f2, f3⟩ := nb3.out.cells
      refine wpW_last (fun QQ hQQ => ?_) (by rfl)
      go_wp2
      (refine hQQ.out _ _ ?_; clear hQQ QQ)
      refine wpW_name ?_
      intro q3 hq
      have A4 := Go.Lib.hid (show EncAt W (some ⟨b, o, none⟩) ll cl l q3 D by rw [hq]; exact A3.out.box nb3.out gx _ _)
      have nb4 := Go.Lib.hid (show BoxAt q3 y (.slice ba m1 ka) t1 by rw [hq]; exact nb3.out.set _ _)
      have ra4 := Go.Lib.hid (show Row .u8 q3 ba m1 ka p1 by rw [hq]; exact (ra3.out.box nb3.out 0 _).box (nb3.out.set0 _) 1 _)
      clear hq f0 f1 f2 f3
      (repeat (first | (apply wpW_light; (case h => (intro wa; (first | (go_big_quiet_skip; exact wpQuiet_nil rfl) | (go_big_quiet_want; go_big_quiet_op; go_big_quiet_on; exact wpQuiet_nil rfl))))) | (apply wpW_here; (case h => (first | (go_big_quiet_skip; exact wpQuiet_nil rfl) | (go_big_quiet_want; go_big_quiet_op; go_big_quiet_on; exact wpQuiet_nil rfl)))) | (apply wpW_held; (case hC => assumption); (case h => (intro wa hCa; simp only [] at hCa; (first | (go_big_quiet_skip; exact wpQuiet_nil rfl) | (go_big_quiet_want; go_big_quiet_op; go_big_quiet_on; exact wpQuiet_nil rfl)))))))
      obtain ⟨g0, g1, g2, g3, g4, g5, g6, g7⟩ := A4.out.d.cells
      refine wpW_last (fun QQ hQQ => ?_) (by rfl)
      go_wp2
      (refine hQQ.out _ _ ?_; clear hQQ QQ)
      (repeat (first | (apply wpW_light; (case h => (intro wa; (first | (go_big_quiet_skip; exact wpQuiet_nil rfl) | (go_big_quiet_want; go_big_quiet_op; go_big_quiet_on; exact wpQuiet_nil rfl))))) | (apply wpW_here; (case h => (first | (go_big_quiet_skip; exact wpQuiet_nil rfl) | (go_big_quiet_want; go_big_quiet_op; go_big_quiet_on; exact wpQuiet_nil rfl)))) | (apply wpW_held; (case hC => assumption); (case h => (intro wa hCa; simp only [] at hCa; (first | (go_big_quiet_skip; exact wpQuiet_nil rfl) | (go_big_quiet_want; go_big_quiet_op; go_big_quiet_on; exact wpQuiet_nil rfl)))))))
      refine wpW_nil ?_
      go_wp2_with (fail)
      go_meet
      have ny : y ≠ W.heap.size := by omega
      exact ⟨y, ba, ka, rfl, rfl, gx, (((nb4.out.other ny _).other ny _).other ny _).other ny _, (((ra4.out.boxD (.inl rfl) A4.out.d 0 _).boxD (.inl rfl) (A4.out.d.set0 _) 1 _).boxD (.inl rfl) ((A4.out.d.set0 _).set1 _) 2 _).boxD (.inl rfl) (((A4.out.d.set0 _).set1 _).set2 _) 3 _, A4.out.next E⟩
    · simp only [pick, nth]
      refine wpW_name ?_
      intro q0 hq0
      have A1 := Go.Lib.hid (show EncAt W (some ⟨b, o, none⟩) ll cl l q0 D by rw [hq0]; exact A0.out.drew)
      clear hq0 A0
      have dA := Go.Lib.hid A1.out.d
      (repeat (first | (apply wpW_light; (case h => (intro wa; (first | (go_big_quiet_skip; exact wpQuiet_nil rfl) | (go_big_quiet_want; go_big_quiet_op; go_big_quiet_on; exact wpQuiet_nil rfl))))) | (apply wpW_here; (case h => (first | (go_big_quiet_skip; exact wpQuiet_nil rfl) | (go_big_quiet_want; go_big_quiet_op; go_big_quiet_on; exact wpQuiet_nil rfl)))) | (apply wpW_held; (case hC => assumption); (case h => (intro wa hCa; obtain ⟨u0, u1, u2, u3, u4, u5, u6, u7⟩ := hCa.cells; (first | (go_big_quiet_skip; exact wpQuiet_nil rfl) | (go_big_quiet_want; go_big_quiet_op; go_big_quiet_on; exact wpQuiet_nil rfl)))))))
      clear dA
      refine wpW_act (fun QQ hQQ => ?_) (by rfl)
      go_wp2
      (refine hQQ _ _ ?hCn ?_; (case hCn => exact A1.out.d.alloc _); clear hQQ QQ)
      refine wpW_name ?_
      intro q1 hq
      have hb : Below q0.heap.size q0 q1 := by rw [hq]; exact below1 q0 _
      have nb2 := Go.Lib.hid (show BoxAt q1 q0.heap.size (.slice none 0 0) 0 by rw [hq]; exact box1 q0 _ _)
      have gx : W.heap.size + 1 + 1 < q0.heap.size := A1.out.sz
      obtain ⟨y, hy⟩ : ∃ y, y = q0.heap.size := ⟨_, rfl⟩
      rw [← hy] at nb2 gx ⊢
      have A2 := Go.Lib.hid (A1.out.below hb)
      clear hq hb hy
      refine wpW_last (fun QQ hQQ => ?_) (by rfl)
      go_wp2_with (go_at_call 43; with_reducible refine (c1'.out _ A2.out.l).mono ?_; rintro e q2 ⟨ba, ka, rfl, ra, hb⟩)
      (refine hQQ.out _ _ ?_; clear hQQ QQ)
      have A3 := Go.Lib.hid (A2.out.below hb)
      have ra3 := Go.Lib.hid ra
      have nb3 := Go.Lib.hid (nb2.out.below hb nb2.out.lt)
      clear ra hb
      (repeat (first | (apply wpW_light; (case h => (intro wa; (first | (go_big_quiet_skip; exact wpQuiet_nil rfl) | (go_big_quiet_want; go_big_quiet_op; go_big_quiet_on; exact wpQuiet_nil rfl))))) | (apply wpW_here; (case h => (first | (go_big_quiet_skip; exact wpQuiet_nil rfl) | (go_big_quiet_want; go_big_quiet_op; go_big_quiet_on; exact wpQuiet_nil rfl)))) | (apply wpW_held; (case hC => assumption); (case h => (intro wa hCa; simp only [] at hCa; (first | (go_big_quiet_skip; exact wpQuiet_nil rfl) | (go_big_quiet_want; go_big_quiet_op; go_big_quiet_on; exact wpQuiet_nil rfl)))))))
      (repeat (first | (apply wpW_light; (case h => (intro wa; (first | (go_big_quiet_skip; exact wpQuiet_nil rfl) | (go_big_quiet_want; go_big_quiet_op; go_big_quiet_on; exact wpQuiet_nil rfl))))) | (apply wpW_here; (case h => (first | (go_big_quiet_skip; exact wpQuiet_nil rfl) | (go_big_quiet_want; go_big_quiet_op; go_big_quiet_on; exact wpQuiet_nil rfl)))) | (apply wpW_held; (case hC => assumption); (case h => (intro wa hCa; simp only [] at hCa; (first | (go_big_quiet_skip; exact wpQuiet_nil rfl) | (go_big_quiet_want; go_big_quiet_op; go_big_quiet_on; exact wpQuiet_nil rfl)))))))
      obtain ⟨f0, f1, f2, f3⟩ := nb3.out.cells
      refine wpW_last (fun QQ hQQ => ?_) (by rfl)
      go_wp2
      (refine hQQ.out _ _ ?_; clear hQQ QQ)
      refine wpW_name ?_
      intro q3 hq
      have A4 := Go.Lib.hid (show EncAt W (some ⟨b, o, none⟩) ll cl l q3 D by rw [hq]; exact A3.out.box nb3.out gx _ _)
      have nb4 := Go.Lib.hid (show BoxAt q3 y (.slice ba m1 ka) t1 by rw [hq]; exact nb3.out.set _ _)
      have ra4 := Go.Lib.hid (show Row .u8 q3 ba m1 ka p1 by rw [hq]; exact (ra3.out.box nb3.out 0 _).box (nb3.out.set0 _) 1 _)
      clear hq f0 f1 f2 f3
      (repeat (first | (apply wpW_light; (case h => (intro wa; (first | (go_big_quiet_skip; exact wpQuiet_nil rfl) | (go_big_quiet_want; go_big_quiet_op; go_big_quiet_on; exact wpQuiet_nil rfl))))) | (apply wpW_here; (case h => (first | (go_big_quiet_skip; exact wpQuiet_nil rfl) | (go_big_quiet_want; go_big_quiet_op; go_big_quiet_on; exact wpQuiet_nil rfl)))) | (apply wpW_held; (case hC => assumption); (case h => (intro wa hCa; simp only [] at hCa; (first | (go_big_quiet_skip; exact wpQuiet_nil rfl) | (go_big_quiet_want; go_big_quiet_op; go_big_quiet_on; exact wpQuiet_nil rfl)))))))
      obtain ⟨g0, g1, g2, g3, g4, g5, g6, g7⟩ := A4.out.d.cells
      refine wpW_last (fun QQ hQQ => ?_) (by rfl)
      go_wp2
      (refine hQQ.out _ _ ?_; clear hQQ QQ)
      (repeat (first | (apply wpW_light; (case h => (intro wa; (first | (go_big_quiet_skip; exact wpQuiet_nil rfl) | (go_big_quiet_want; go_big_quiet_op; go_big_quiet_on; exact wpQuiet_nil rfl))))) | (apply wpW_here; (case h => (first | (go_big_quiet_skip; exact wpQuiet_nil rfl) | (go_big_quiet_want; go_big_quiet_op; go_big_quiet_on; exact wpQuiet_nil rfl)))) | (apply wpW_held; (case hC => assumption); (case h => (intro wa hCa; simp only [] at hCa; (first | (go_big_quiet_skip; exact wpQuiet_nil rfl) | (go_big_quiet_want; go_big_quiet_op; go_big_quiet_on; exact wpQuiet_nil rfl)))))))
      refine wpW_nil ?_
      go_wp2_with (fail)
      go_meet
      have ny : y ≠ W.heap.size := by omega
      exact ⟨y, ba, ka, rfl, rfl, gx, (((nb4.out.other ny _).other ny _).other ny _).other ny _, (((ra4.out.boxD (.inl rfl) A4.out.d 0 _).boxD (.inl rfl) (A4.out.d.set0 _) 1 _).boxD (.inl rfl) ((A4.out.d.set0 _).set1 _) 2 _).boxD (.inl rfl) (((A4.out.d.set0 _).set1 _).set2 _) 3 _, A4.out.next E⟩
  case rest =>
  obtain ⟨x, b1, k1, rfl, rfl, hx, X0', R0', A0'⟩ := hcut
  have X0 := Go.Lib.hid X0'
  have R0 := Go.Lib.hid R0'
  clear A0
  have A0 := Go.Lib.hid A0'
  clear X0' R0' A0' c1'
  go_wp2
  go_cut [10, 9] (fun s10 s9 wx => ∃ (y : Nat) (b2 : Option Addr) (k2 : Nat), s10 = .pointer (some ⟨y, 0, none⟩) ∧ s9 = .int .i64 0 ∧ BoxAt wx y (.slice b2 m2 k2) t2 ∧ Row .u8 wx b2 m2 k2 p2 ∧ BoxAt wx x (.slice b1 m1 k1) t1 ∧ Row .u8 wx b1 m1 k1 p1 ∧ EncAt W (some ⟨b, o, none⟩) ll cl l wx G)
  case first =>
    refine wp_region_ord2 (fun w' => DuAt w' W.heap.size E.k0 E.k1 E.s0 E.s1) 4 9 [(0, 0), (1, 0), (2, 0), (3, 2), (4, 4), (5, 0), (6, 0), (7, 0), (8, 0), (9, 4), (10, 4), (11, 4), (12, 0)] [(0, 0), (1, 0), (2, 0), (3, 2), (9, 3), (4, 4), (5, 0), (6, 0), (7, 0), (8, 0), (10, 4), (11, 4), (12, 0)] (by kernel_rfl) (by decide) (by kernel_rfl) (by kernel_rfl) ?hC0 ?_ ?_
    case hC0 => exact A0.out.d.drew
    · simp only [pick, nth]
      refine wpW_name ?_
      intro q0 hq0
      have A1 := Go.Lib.hid (show EncAt W (some ⟨b, o, none⟩) ll cl l q0 E by rw [hq0]; exact A0.out.drew)
      have X1 := Go.Lib.hid (show BoxAt q0 x (.slice b1 m1 k1) t1 by rw [hq0]; exact X0.out.drew)
      have R1 := Go.Lib.hid (show Row .u8 q0 b1 m1 k1 p1 by rw [hq0]; exact R0.out.below (Below.refl _ _).drew (Nat.le_refl _))
      clear hq0 A0 X0 R0
      have dA := Go.Lib.hid A1.out.d
      (repeat (first | (apply wpW_light; (case h => (intro wa; (first | (go_big_quiet_skip; exact wpQuiet_nil rfl) | (go_big_quiet_want; go_big_quiet_op; go_big_quiet_on; exact wpQuiet_nil rfl))))) | (apply wpW_here; (case h => (first | (go_big_quiet_skip; exact wpQuiet_nil rfl) | (go_big_quiet_want; go_big_quiet_op; go_big_quiet_on; exact wpQuiet_nil rfl)))) | (apply wpW_held; (case hC => assumption); (case h => (intro wa hCa; obtain ⟨u0, u1, u2, u3, u4, u5, u6, u7⟩ := hCa.cells; (first | (go_big_quiet_skip; exact wpQuiet_nil rfl) | (go_big_quiet_want; go_big_quiet_op; go_big_quiet_on; exact wpQuiet_nil rfl)))))))
      clear dA
      refine wpW_last (fun QQ hQQ => ?_) (by rfl)
      go_wp2_with (go_at_call 43; with_reducible refine (c2'.out _ A1.out.l).mono ?_; rintro e q1 ⟨ba, ka, rfl, ra, hb⟩)
      (refine hQQ.out _ _ ?_; clear hQQ QQ)
      have A2 := Go.Lib.hid (A1.out.below hb)
      have X2 := Go.Lib.hid (X1.out.below hb X1.out.lt)
      have R2 := Go.Lib.hid (R1.out.below hb (Nat.le_refl _))
      have ra2 := Go.Lib.hid ra
      clear ra hb
      (repeat (first | (apply wpW_light; (case h => (intro wa; (first | (go_big_quiet_skip; exact wpQuiet_nil rfl) | (go_big_quiet_want; go_big_quiet_op; go_big_quiet_on; exact wpQuiet_nil rfl))))) | (apply wpW_here; (case h => (first | (go_big_quiet_skip; exact wpQuiet_nil rfl) | (go_big_quiet_want; go_big_quiet_op; go_big_quiet_on; exact wpQuiet_nil rfl)))) | (apply wpW_held; (case hC => assumption); (case h => (intro wa hCa; simp only [] at hCa; (first | (go_big_quiet_skip; exact wpQuiet_nil rfl) | (go_big_quiet_want; go_big_quiet_op; go_big_quiet_on; exact wpQuiet_nil rfl)))))))
      refine wpW_last (fun QQ hQQ => ?_) (by rfl)
      go_wp2
      (refine hQQ.out _ _ ?_; clear hQQ QQ)
      refine wpW_name ?_
      intro q2 hq
      have hb : Below q1.heap.size q1 q2 := by rw [hq]; exact below1 q1 _
      have nb3 := Go.Lib.hid (show BoxAt q2 q1.heap.size (.slice none 0 0) 0 by rw [hq]; exact box1 q1 _ _)
      have gx : W.heap.size + 1 + 1 < q1.heap.size := A2.out.sz
      have nx : x ≠ q1.heap.size := Nat.ne_of_lt X2.out.lt
      obtain ⟨y, hy⟩ : ∃ y, y = q1.heap.size := ⟨_, rfl⟩
      rw [← hy] at nb3 gx nx ⊢
      have A3 := Go.Lib.hid (A2.out.below hb)
      have X3 := Go.Lib.hid (X2.out.below hb X2.out.lt)
      have R3 := Go.Lib.hid (R2.out.below hb (Nat.le_refl _))
      have ra3 := Go.Lib.hid (ra2.out.below hb (Nat.le_refl _))
      clear hq hb hy
      (repeat (first | (apply wpW_light; (case h => (intro wa; (first | (go_big_quiet_skip; exact wpQuiet_nil rfl) | (go_big_quiet_want; go_big_quiet_op; go_big_quiet_on; exact wpQuiet_nil rfl))))) | (apply wpW_here; (case h => (first | (go_big_quiet_skip; exact wpQuiet_nil rfl) | (go_big_quiet_want; go_big_quiet_op; go_big_quiet_on; exact wpQuiet_nil rfl)))) | (apply wpW_held; (case hC => assumption); (case h => (intro wa hCa; simp only [] at hCa; (first | (go_big_quiet_skip; exact wpQuiet_nil rfl) | (go_big_quiet_want; go_big_quiet_op; go_big_quiet_on; exact wpQuiet_nil rfl)))))))
      obtain ⟨f0, f1, f2, f3⟩ := nb3.out.cells
      refine wpW_last (fun QQ hQQ => ?_) (by rfl)
      go_wp2
      (refine hQQ.out _ _ ?_; clear hQQ QQ)
      refine wpW_name ?_
      intro q3 hq
      have A4 := Go.Lib.hid (show EncAt W (some ⟨b, o, none⟩) ll cl l q3 E by rw [hq]; exact A3.out.box nb3.out gx _ _)
      have nb4 := Go.Lib.hid (show BoxAt q3 y (.slice ba m2 ka) t2 by rw [hq]; exact nb3.out.set _ _)
      have ra4 := Go.Lib.hid (show Row .u8 q3 ba m2 ka p2 by rw [hq]; exact (ra3.out.box nb3.out 0 _).box (nb3.out.set0 _) 1 _)
      have X4 := Go.Lib.hid (show BoxAt q3 x (.slice b1 m1 k1) t1 by rw [hq]; exact (X3.out.other nx _).other nx _)
      have R4 := Go.Lib.hid (show Row .u8 q3 b1 m1 k1 p1 by rw [hq]; exact (R3.out.box nb3.out 0 _).box (nb3.out.set0 _) 1 _)
      clear hq f0 f1 f2 f3
      (repeat (first | (apply wpW_light; (case h => (intro wa; (first | (go_big_quiet_skip; exact wpQuiet_nil rfl) | (go_big_quiet_want; go_big_quiet_op; go_big_quiet_on; exact wpQuiet_nil rfl))))) | (apply wpW_here; (case h => (first | (go_big_quiet_skip; exact wpQuiet_nil rfl) | (go_big_quiet_want; go_big_quiet_op; go_big_quiet_on; exact wpQuiet_nil rfl)))) | (apply wpW_held; (case hC => assumption); (case h => (intro wa hCa; simp only [] at hCa; (first | (go_big_quiet_skip; exact wpQuiet_nil rfl) | (go_big_quiet_want; go_big_quiet_op; go_big_quiet_on; exact wpQuiet_nil rfl)))))))
      obtain ⟨g0, g1, g2, g3, g4, g5, g6, g7⟩ := A4.out.d.cells
      refine wpW_last (fun QQ hQQ => ?_) (by rfl)
      go_wp2
      (refine hQQ.out _ _ ?_; clear hQQ QQ)
      (repeat (first | (apply wpW_light; (case h => (intro wa; (first | (go_big_quiet_skip; exact wpQuiet_nil rfl) | (go_big_quiet_want; go_big_quiet_op; go_big_quiet_on; exact wpQuiet_nil rfl))))) | (apply wpW_here; (case h => (first | (go_big_quiet_skip; exact wpQuiet_nil rfl) | (go_big_quiet_want; go_big_quiet_op; go_big_quiet_on; exact wpQuiet_nil rfl)))) | (apply wpW_held; (case hC => assumption); (case h => (intro wa hCa; simp only [] at hCa; (first | (go_big_quiet_skip; exact wpQuiet_nil rfl) | (go_big_quiet_want; go_big_quiet_op; go_big_quiet_on; exact wpQuiet_nil rfl)))))))
      refine wpW_nil ?_
      go_wp2_with (fail)
      go_meet
      have ny : y ≠ W.heap.size := by omega
      have nz : x ≠ W.heap.size := by omega
      exact ⟨y, ba, ka, rfl, rfl, (((nb4.out.other ny _).other ny _).other ny _).other ny _, (((ra4.out.boxD (.inl rfl) A4.out.d 0 _).boxD (.inl rfl) (A4.out.d.set0 _) 1 _).boxD (.inl rfl) ((A4.out.d.set0 _).set1 _) 2 _).boxD (.inl rfl) (((A4.out.d.set0 _).set1 _).set2 _) 3 _, (((X4.out.other nz _).other nz _).other nz _).other nz _, (((R4.out.boxD (.inl rfl) A4.out.d 0 _).boxD (.inl rfl) (A4.out.d.set0 _) 1 _).boxD (.inl rfl) ((A4.out.d.set0 _).set1 _) 2 _).boxD (.inl rfl) (((A4.out.d.set0 _).set1 _).set2 _) 3 _, A4.out.next G⟩
    · simp only [pick, nth]
      refine wpW_name ?_
      intro q0 hq0
      have A1 := Go.Lib.hid (show EncAt W (some ⟨b, o, none⟩) ll cl l q0 E by rw [hq0]; exact A0.out.drew)
      have X1 := Go.Lib.hid (show BoxAt q0 x (.slice b1 m1 k1) t1 by rw [hq0]; exact X0.out.drew)
      have R1 := Go.Lib.hid (show Row .u8 q0 b1 m1 k1 p1 by rw [hq0]; exact R0.out.below (Below.refl _ _).drew (Nat.le_refl _))
      clear hq0 A0 X0 R0
      have dA := Go.Lib.hid A1.out.d
      (repeat (first | (apply wpW_light; (case h => (intro wa; (first | (go_big_quiet_skip; exact wpQuiet_nil rfl) | (go_big_quiet_want; go_big_quiet_op; go_big_quiet_on; exact wpQuiet_nil rfl))))) | (apply wpW_here; (case h => (first | (go_big_quiet_skip; exact wpQuiet_nil rfl) | (go_big_quiet_want; go_big_quiet_op; go_big_quiet_on; exact wpQuiet_nil rfl)))) | (apply wpW_held; (case hC => assumption); (case h => (intro wa hCa; obtain ⟨u0, u1, u2, u3, u4, u5, u6, u7⟩ := hCa.cells; (first | (go_big_quiet_skip; exact wpQuiet_nil rfl) | (go_big_quiet_want; go_big_quiet_op; go_big_quiet_on; exact wpQuiet_nil rfl)))))))
      clear dA
      refine wpW_act (fun QQ hQQ => ?_) (by rfl)
      go_wp2
      (refine hQQ _ _ ?hCn ?_; (case hCn => exact A1.out.d.alloc _); clear hQQ QQ)
      refine wpW_name ?_
      intro q1 hq
      have hb : Below q0.heap.size q0 q1 := by rw [hq]; exact below1 q0 _
      have nb2 := Go.Lib.hid (show BoxAt q1 q0.heap.size (.slice none 0 0) 0 by rw [hq]; exact box1 q0 _ _)
      have gx : W.heap.size + 1 + 1 < q0.heap.size := A1.out.sz
      have nx : x ≠ q0.heap.size := Nat.ne_of_lt X1.out.lt
      obtain ⟨y, hy⟩ : ∃ y, y = q0.heap.size := ⟨_, rfl⟩
      rw [← hy] at nb2 gx nx ⊢
      have A2 := Go.Lib.hid (A1.out.below hb)
      have X2 := Go.Lib.hid (X1.out.below hb X1.out.lt)
      have R2 := Go.Lib.hid (R1.out.below hb (Nat.le_refl _))
      clear hq hb hy
      refine wpW_last (fun QQ hQQ => ?_) (by rfl)
      go_wp2_with (go_at_call 43; with_reducible refine (c2'.out _ A2.out.l).mono ?_; rintro e q2 ⟨ba, ka, rfl, ra, hb⟩)
      (refine hQQ.out _ _ ?_; clear hQQ QQ)
      have A3 := Go.Lib.hid (A2.out.below hb)
      have X3 := Go.Lib.hid (X2.out.below hb X2.out.lt)
      have R3 := Go.Lib.hid (R2.out.below hb (Nat.le_refl _))
      have ra3 := Go.Lib.hid ra
      have nb3 := Go.Lib.hid (nb2.out.below hb nb2.out.lt)
      clear ra hb
      (repeat (first | (apply wpW_light; (case h => (intro wa; (first | (go_big_quiet_skip; exact wpQuiet_nil rfl) | (go_big_quiet_want; go_big_quiet_op; go_big_quiet_on; exact wpQuiet_nil rfl))))) | (apply wpW_here; (case h => (first | (go_big_quiet_skip; exact wpQuiet_nil rfl) | (go_big_quiet_want; go_big_quiet_op; go_big_quiet_on; exact wpQuiet_nil rfl)))) | (apply wpW_held; (case hC => assumption); (case h => (intro wa hCa; simp only [] at hCa; (first | (go_big_quiet_skip; exact wpQuiet_nil rfl) | (go_big_quiet_want; go_big_quiet_op; go_big_quiet_on; exact wpQuiet_nil rfl)))))))
      (repeat (first | (apply wpW_light; (case h => (intro wa; (first | (go_big_quiet_skip; exact wpQuiet_nil rfl) | (go_big_quiet_want; go_big_quiet_op; go_big_quiet_on; exact wpQuiet_nil rfl))))) | (apply wpW_here; (case h => (first | (go_big_quiet_skip; exact wpQuiet_nil rfl) | (go_big_quiet_want; go_big_quiet_op; go_big_quiet_on; exact wpQuiet_nil rfl)))) | (apply wpW_held; (case hC => assumption); (case h => (intro wa hCa; simp only [] at hCa; (first | (go_big_quiet_skip; exact wpQuiet_nil rfl) | (go_big_quiet_want; go_big_quiet_op; go_big_quiet_on; exact wpQuiet_nil rfl)))))))
      obtain ⟨f0, f1, f2, f3⟩ := nb3.out.cells
      refine wpW_last (fun QQ hQQ => ?_) (by rfl)
      go_wp2
      (refine hQQ.out _ _ ?_; clear hQQ QQ)
      refine wpW_name ?_
      intro q3 hq
      have A4 := Go.Lib.hid (show EncAt W (some ⟨b, o, none⟩) ll cl l q3 E by rw [hq]; exact A3.out.box nb3.out gx _ _)
      have nb4 := Go.Lib.hid (show BoxAt q3 y (.slice ba m2 ka) t2 by rw [hq]; exact nb3.out.set _ _)
      have ra4 := Go.Lib.hid (show Row .u8 q3 ba m2 ka p2 by rw [hq]; exact (ra3.out.box nb3.out 0 _).box (nb3.out.set0 _) 1 _)
      have X4 := Go.Lib.hid (show BoxAt q3 x (.slice b1 m1 k1) t1 by rw [hq]; exact (X3.out.other nx _).other nx _)
      have R4 := Go.Lib.hid (show Row .u8 q3 b1 m1 k1 p1 by rw [hq]; exact (R3.out.box nb3.out 0 _).box (nb3.out.set0 _) 1 _)
      clear hq f0 f1 f2 f3
      (repeat (first | (apply wpW_light; (case h => (intro wa; (first | (go_big_quiet_skip; exact wpQuiet_nil rfl) | (go_big_quiet_want; go_big_quiet_op; go_big_quiet_on; exact wpQuiet_nil rfl))))) | (apply wpW_here; (case h => (first | (go_big_quiet_skip; exact wpQuiet_nil rfl) | (go_big_quiet_want; go_big_quiet_op; go_big_quiet_on; exact wpQuiet_nil rfl)))) | (apply wpW_held; (case hC => assumption); (case h => (intro wa hCa; simp only [] at hCa; (first | (go_big_quiet_skip; exact wpQuiet_nil rfl) | (go_big_quiet_want; go_big_quiet_op; go_big_quiet_on; exact wpQuiet_nil rfl)))))))
      obtain ⟨g0, g1, g2, g3, g4, g5, g6, g7⟩ := A4.out.d.cells
      refine wpW_last (fun QQ hQQ => ?_) (by rfl)
      go_wp2
      (refine hQQ.out _ _ ?_; clear hQQ QQ)
      (repeat (first | (apply wpW_light; (case h => (intro wa; (first | (go_big_quiet_skip; exact wpQuiet_nil rfl) | (go_big_quiet_want; go_big_quiet_op; go_big_quiet_on; exact wpQuiet_nil rfl))))) | (apply wpW_here; (case h => (first | (go_big_quiet_skip; exact wpQuiet_nil rfl) | (go_big_quiet_want; go_big_quiet_op; go_big_quiet_on; exact wpQuiet_nil rfl)))) | (apply wpW_held; (case hC => assumption); (case h => (intro wa hCa; simp only [] at hCa; (first | (go_big_quiet_skip; exact wpQuiet_nil rfl) | (go_big_quiet_want; go_big_quiet_op; go_big_quiet_on; exact wpQuiet_nil rfl)))))))
      refine wpW_nil ?_
      go_wp2_with (fail)
      go_meet
      have ny : y ≠ W.heap.size := by omega
      have nz : x ≠ W.heap.size := by omega
      exact ⟨y, ba, ka, rfl, rfl, (((nb4.out.other ny _).other ny _).other ny _).other ny _, (((ra4.out.boxD (.inl rfl) A4.out.d 0 _).boxD (.inl rfl) (A4.out.d.set0 _) 1 _).boxD (.inl rfl) ((A4.out.d.set0 _).set1 _) 2 _).boxD (.inl rfl) (((A4.out.d.set0 _).set1 _).set2 _) 3 _, (((X4.out.other nz _).other nz _).other nz _).other nz _, (((R4.out.boxD (.inl rfl) A4.out.d 0 _).boxD (.inl rfl) (A4.out.d.set0 _) 1 _).boxD (.inl rfl) ((A4.out.d.set0 _).set1 _) 2 _).boxD (.inl rfl) (((A4.out.d.set0 _).set1 _).set2 _) 3 _, A4.out.next G⟩
  case rest =>
  obtain ⟨y, b2, k2, rfl, rfl, Y0', R2', X0', R0', A0'⟩ := hcut
  have Y0 := Go.Lib.hid Y0'
  have R2 := Go.Lib.hid R2'
  clear X0 R0 A0
  have X0 := Go.Lib.hid X0'
  have R0 := Go.Lib.hid R0'
  have A0 := Go.Lib.hid A0'
  clear X0' R0' A0' Y0' R2' c2'
  obtain ⟨x0, x1, x2, x3⟩ := X0.out.cells
  obtain ⟨y0, y1, y2, y3⟩ := Y0.out.cells
  go_wp2_with (go_at_call 58; with_reducible refine (cj'.out _ _ _ _ _ R0.out R2.out).mono ?_; rintro e w3 ⟨b3, k3, rfl, r3, hb3⟩; have A3 := Go.Lib.hid ((A0.out.below hb3).alloc (.cells #[.slice b3 m3 k3, .int .i64 t3] 45)); have R3 := Go.Lib.hid (r3.below (below1 w3 (.cells #[.slice b3 m3 k3, .int .i64 t3] 45)) (Nat.le_refl _)); have X3 := Go.Lib.hid (box1 w3 (.slice b3 m3 k3) t3); have hz3 := (A0.out.below hb3).sz; clear r3 hb3)
  obtain ⟨x8, hx8⟩ : ∃ x, x = w3.heap.size := ⟨_, rfl⟩
  obtain ⟨w4, hw4⟩ : ∃ w, w = w3.alloc (.cells #[.slice b3 m3 k3, .int .i64 t3] 45) := ⟨_, rfl⟩
  rw [← hx8, ← hw4] at X3
  rw [← hw4] at A3 R3
  rw [← hx8] at hz3
  try rw [← hw4]
  try rw [← hx8]
  clear x0 x1 x2 x3 y0 y1 y2 y3 hw4 hx8 X0 R0 Y0 R2 A0 cj'
  go_wp2
  refine wp_region_ord (fun w' => DuAt w' W.heap.size G.k0 G.k1 G.s0 G.s1) [(0, 1), (1, 2), (2, 3), (3, 4), (4, 0)] (by kernel_rfl) (by kernel_rfl) ?hC0 ?_
  case hC0 => exact A3.out.d.drew
  simp only [pick, nth]
  refine wpW_name ?_
  intro q0 hq0
  have A4 := Go.Lib.hid (show EncAt W (some ⟨b, o, none⟩) ll cl l q0 G by rw [hq0]; exact A3.out.drew)
  have R4 := Go.Lib.hid (show Row .u8 q0 b3 m3 k3 p3 by rw [hq0]; exact R3.out.below (Below.refl _ _).drew (Nat.le_refl _))
  have X4 := Go.Lib.hid (show BoxAt q0 x8 (.slice b3 m3 k3) t3 by rw [hq0]; exact X3.out.drew)
  clear hq0 A3 R3 X3
  obtain ⟨f0, f1, f2, f3⟩ := X4.out.cells
  have dA := Go.Lib.hid A4.out.d
  (repeat (first | (apply wpW_light; (case h => (intro wa; (first | (go_big_quiet_skip; exact wpQuiet_nil rfl) | (go_big_quiet_want; go_big_quiet_op; go_big_quiet_on; exact wpQuiet_nil rfl))))) | (apply wpW_here; (case h => (first | (go_big_quiet_skip; exact wpQuiet_nil rfl) | (go_big_quiet_want; go_big_quiet_op; go_big_quiet_on; exact wpQuiet_nil rfl)))) | (apply wpW_held; (case hC => assumption); (case h => (intro wa hCa; obtain ⟨u0, u1, u2, u3, u4, u5, u6, u7⟩ := hCa.cells; (first | (go_big_quiet_skip; exact wpQuiet_nil rfl) | (go_big_quiet_want; go_big_quiet_op; go_big_quiet_on; exact wpQuiet_nil rfl)))))))
  clear f0 f1 f2 f3 dA
  obtain ⟨f0, f1, f2, f3⟩ := A4.out.y.cells
  obtain ⟨g0, g1, g2, g3, g4, g5, g6, g7⟩ := A4.out.p.cells
  refine wpW_act (fun QQ hQQ => ?_) (by rfl)
  go_wp2
  (refine hQQ _ _ ?hCn ?_; (case hCn => exact (A4.out.d.other (by simp) _).other (by simp) _); clear hQQ QQ)
  (repeat (first | (apply wpW_light; (case h => (intro wa; (first | (go_big_quiet_skip; exact wpQuiet_nil rfl) | (go_big_quiet_want; go_big_quiet_op; go_big_quiet_on; exact wpQuiet_nil rfl))))) | (apply wpW_here; (case h => (first | (go_big_quiet_skip; exact wpQuiet_nil rfl) | (go_big_quiet_want; go_big_quiet_op; go_big_quiet_on; exact wpQuiet_nil rfl)))) | (apply wpW_held; (case hC => assumption); (case h => (intro wa hCa; simp only [] at hCa; (first | (go_big_quiet_skip; exact wpQuiet_nil rfl) | (go_big_quiet_want; go_big_quiet_op; go_big_quiet_on; exact wpQuiet_nil rfl)))))))
  refine wpW_last (fun QQ hQQ => ?_) (by rfl)
  go_wp2
  (refine hQQ.out _ _ ?_; clear hQQ QQ)
  (repeat (first | (apply wpW_light; (case h => (intro wa; (first | (go_big_quiet_skip; exact wpQuiet_nil rfl) | (go_big_quiet_want; go_big_quiet_op; go_big_quiet_on; exact wpQuiet_nil rfl))))) | (apply wpW_here; (case h => (first | (go_big_quiet_skip; exact wpQuiet_nil rfl) | (go_big_quiet_want; go_big_quiet_op; go_big_quiet_on; exact wpQuiet_nil rfl)))) | (apply wpW_held; (case hC => assumption); (case h => (intro wa hCa; simp only [] at hCa; (first | (go_big_quiet_skip; exact wpQuiet_nil rfl) | (go_big_quiet_want; go_big_quiet_op; go_big_quiet_on; exact wpQuiet_nil rfl)))))))
  refine wpW_nil ?_
  go_wp2
  (try simp only [Exit.inBlock, Exit.then])
  obtain ⟨o1, o2, o3, o4⟩ := outs A4.out.y A4.out.p (by omega) b3 m3 k3 t3 G.k0 G.k1 G.s0 G.s1
  refine bodyPost_ret (results_bits_du_tmp (by rfl) _ _ (W.heap.size + 1) (W.heap.size + 1 + 1) _ _ _ _ _ _ rfl rfl o1 o2) rfl ?_
  exact ⟨b3, k3, by simp, o4 R4.out, o3 A4.out.w (by omega) (by omega)⟩

end Go.Proofs.Ythbjcjphplgobaa

/- Contracts of the package coder: Encode and After. -/
namespace Go.Proofs.Ythbjcjphplgobaa
open Go.RowKit Cad

theorem map_drop (m : List Nat) (h : Nat) : (m.map Int.ofNat).drop h = (m.drop h).map Int.ofNat := by simp
theorem map_take (m : List Nat) (h : Nat) : (m.map Int.ofNat).take h = (m.take h).map Int.ofNat := by simp

/-- the code of numbers from a state on, and the state behind them -/
theorem Pcode_ok : ∀ (n : Nat) (W : World) (al : Option Addr) (ll cl : Nat) (m : List Nat) (D : Du), ll ≤ n → Row .u32 W al ll cl (m.map Int.ofNat) → ll ≤ 4000 → m.length = ll → (∀ x ∈ m, x < 4294967296) → D.ok →
    ResD 43 #[.slice al ll cl, .agg #[.int .i64 D.k0, .int .i64 D.k1, .int .u64 D.s0, .int .u64 D.s1]] W (((codesD D m).length + 7) / 8) (pack (codesD D m)) (codesD D m).length (after D m).k0 (after D m).k1 (after D m).s0 (after D m).s1 0 := by
  intro n
  induction n with
  | zero =>
    intro W al ll cl m D hn hl h4 hm h32 hd
    obtain rfl : ll = 0 := by omega
    obtain rfl : m = [] := List.length_eq_zero_iff.1 hm
    rw [show codesD D [] = [] from rfl, show after D [] = D from rfl, show pack [] = [] by rfl]; exact Pcode_nil W al cl D
  | succ n ih =>
    intro W al ll cl m D hn hl h4 hm h32 hd
    by_cases h0 : ll = 0
    · subst h0
      obtain rfl : m = [] := List.length_eq_zero_iff.1 hm
      rw [show codesD D [] = [] from rfl, show after D [] = D from rfl, show pack [] = [] by rfl]; exact Pcode_nil W al cl D
    by_cases h1 : ll = 1
    · subst h1
      obtain ⟨v, rfl⟩ := List.length_eq_one_iff.1 hm
      have hv := h32 v (by simp)
      have e : codesD D [v] = dualB D v := by simp [codesD]
      rw [e]
      refine Pcode_one W al cl _ v D (after D [v]) hl rfl _ _ _ fun w => ?_
      rw [dualB_len]
      exact DWrite_alone w D v hd hv _ _ rfl rfl _ rfl (after D [v]) rfl
    obtain ⟨b, o, rfl, -, -⟩ := hl.cells (by omega)
    obtain ⟨h, hh⟩ : ∃ h, h = ll / 2 := ⟨_, rfl⟩
    have hE := after_ok (m.take h) hd fun x hx => h32 x (List.mem_of_mem_take hx)
    have hs : codesD D m = codesD D (m.take h) ++ codesD (after D (m.take h)) (m.drop h) := by rw [← codesD_append, List.take_append_drop]
    have ha : after D m = after (after D (m.take h)) (m.drop h) := by rw [← after_append, List.take_append_drop]
    have l1 : (m.take h).length = h := by rw [List.length_take]; omega
    have l2 : (m.drop h).length = ll - h := by rw [List.length_drop]; omega
    have b1 := codesD_len_le (m.take h) hd fun x hx => h32 x (List.mem_of_mem_take hx)
    have b2 := codesD_len_le (m.drop h) hE fun x hx => h32 x (List.mem_of_mem_drop hx)
    rw [ha, hs]
    refine Pcode_more W b o ll cl _ D (after D (m.take h)) (after (after D (m.take h)) (m.drop h)) h hl h4 (by omega) hh (((codesD D (m.take h)).length + 7) / 8) (pack (codesD D (m.take h))) (codesD D (m.take h)).length (((codesD (after D (m.take h)) (m.drop h)).length + 7) / 8) (pack (codesD (after D (m.take h)) (m.drop h))) (codesD (after D (m.take h)) (m.drop h)).length _ _ _ (fun w hw => ?_) (fun w hw => ?_) (fun w c k c' k' r r' => ?_)
    rotate_left 2
    · have := BJoin_ok w c _ k _ r c' _ k' _ r' (by omega)
      rw [← List.length_append] at this
      exact this
    · have hr := hw.take h (by omega)
      rw [map_take] at hr
      exact ih w _ h cl (m.take h) D (by omega) hr (by omega) l1 (fun x hx => h32 x (List.mem_of_mem_take hx)) hd
    · have hr := hw.sub h (ll - h) (by omega)
      rw [map_drop, List.take_of_length_le (by simp; omega)] at hr
      exact ih w _ (ll - h) (cl - h) (m.drop h) _ (by omega) hr (by omega) l2 (fun x hx => h32 x (List.mem_of_mem_drop hx)) hE
set_option maxRecDepth 100000 in
theorem PEncode_many (W : World) (al : Option Addr) (ll cl : Nat) (h : (4000 : Int) < ll) (_hl : ll ≤ 9223372036854775807) :
    Calls Try.prog 24 #[.slice al ll cl] W fun e W' => e = .returned (.tuple #[.agg #[.slice none 0 0, .int .i64 0], .int .i64 4]) ∧ Below W.heap.size W W' := by
  go_enter Try.func24, Try.ntmps24
  go_wp2
  go_returns
  exact ⟨rfl, (Below.refl _ _).alloc (Nat.le_refl _) _⟩
set_option maxRecDepth 100000 in
theorem PAfter_many (W : World) (al : Option Addr) (ll cl : Nat) (h : (4000 : Int) < ll) (_hl : ll ≤ 9223372036854775807) :
    Calls Try.prog 26 #[.slice al ll cl] W fun e W' => e = .returned (.tuple #[.agg #[.int .i64 0, .int .i64 0, .int .u64 0, .int .u64 0], .int .i64 4]) ∧ Below W.heap.size W W' := by
  go_enter Try.func26, Try.ntmps26
  go_wp2
  go_returns
  exact ⟨rfl, (Below.refl _ _).alloc (Nat.le_refl _) _⟩

set_option maxRecDepth 100000 in
set_option maxHeartbeats 1000000 in
theorem PEncode_ok (W : World) (al : Option Addr) (ll cl : Nat) (m : List Nat) (hl : Row .u32 W al ll cl (m.map Int.ofNat)) (h4 : ll ≤ 4000) (hm : m.length = ll) (hm32 : ∀ x ∈ m, x < 4294967296) :
    Res 24 #[.slice al ll cl] W (((codesD dStart m).length + 7) / 8) (pack (codesD dStart m)) (codesD dStart m).length 0 := by
  have st := Go.Lib.hid Dstart_ok
  have hc := Go.Lib.hid fun w hw => Pcode_ok ll w al ll cl m dStart (Nat.le_refl _) hw h4 hm hm32 dStart_ok
  unfold ResD at hc
  obtain ⟨E, hE⟩ : ∃ E, E = after dStart m := ⟨_, rfl⟩
  obtain ⟨X, hX⟩ : ∃ X, X = codesD dStart m := ⟨_, rfl⟩
  obtain ⟨L, hL⟩ : ∃ L, L = (X.length + 7) / 8 := ⟨_, rfl⟩
  obtain ⟨N, hN⟩ : ∃ N, N = X.length := ⟨_, rfl⟩
  rw [← hX] at hc ⊢
  rw [← hE, ← hL, ← hN] at hc
  rw [← hL, ← hN]
  have hc2 : Hid (∀ w, Row .u32 w al ll cl (m.map Int.ofNat) → Calls Try.prog 43 #[.slice al ll cl, .agg #[.int .i64 10, .int .i64 10, .int .u64 16384, .int .u64 16384]] w fun e W' => ∃ b c, e = .returned (.tuple #[.agg #[.slice b L c, .int .i64 N], .agg #[.int .i64 E.k0, .int .i64 E.k1, .int .u64 E.s0, .int .u64 E.s1], .int .i64 0]) ∧ Row .u8 W' b L c (pack X) ∧ Below w.heap.size w W') := hc
  clear hE hX hL hN hm hm32 hc
  have hl4 : (ll : Int) ≤ 4000 := by omega
  have hl' := Go.Lib.hid (hl.below (below1 W (.cells #[.slice none 0 0, .int .i64 0] 45)) (Nat.le_refl _))
  have b0 := Go.Lib.hid (box1 W (.slice none 0 0) 0)
  have B0 := Go.Lib.hid (below1 W (.cells #[.slice none 0 0, .int .i64 0] 45))
  clear hl
  unfold Res
  go_enter Try.func24, Try.ntmps24
  go_wp2_with (first
    | (go_at_call 35; with_reducible refine (st.out _).mono ?_; rintro e w0 ⟨rfl, hb0⟩; have l1 := Go.Lib.hid (hl'.out.below hb0 (Nat.le_refl _)); have c1 := Go.Lib.hid (b0.out.below hb0 b0.out.lt); have B1 := Go.Lib.hid (B0.out.trans (hb0.mono B0.out.size)); clear hb0)
    | (go_at_call 43; with_reducible refine (hc2.out _ l1.out).mono ?_; rintro e w1 ⟨bb, cc, rfl, hr1, hb1⟩; have b1 := ((c1.out.below hb1 c1.out.lt).alloc (.cells #[.slice bb L cc, .int .i64 N] 45)).alloc (.cells #[.int .i64 E.k0, .int .i64 E.k1, .int .u64 E.s0, .int .u64 E.s1] 52); have b2 := B1.out.trans (hb1.mono B1.out.size); have hb1' := Go.Lib.hid ((b2.alloc b2.size (.cells #[.slice bb L cc, .int .i64 N] 45)).alloc (b2.alloc b2.size (.cells #[.slice bb L cc, .int .i64 N] 45)).size (.cells #[.int .i64 E.k0, .int .i64 E.k1, .int .u64 E.s0, .int .u64 E.s1] 52)); have hr1' := Go.Lib.hid ((hr1.below (below1 w1 (.cells #[.slice bb L cc, .int .i64 N] 45)) (Nat.le_refl _)).below (below1 _ (.cells #[.int .i64 E.k0, .int .i64 E.k1, .int .u64 E.s0, .int .u64 E.s1] 52)) (Nat.le_refl _)); have b1' := Go.Lib.hid b1; obtain ⟨f0, f1, f2, f3⟩ := b1.cells; clear hb1 hr1 b1 b2))
  (try simp only [Exit.inBlock, Exit.then])
  refine bodyPost_ret (results_box_tmp (by rfl) _ _ W.heap.size _ _ rfl (b1'.out.set _ _)) rfl ?_
  exact ⟨bb, cc, by simp, (hr1'.out.box b1'.out 0 _).box (b1'.out.set0 _) 1 _, (hb1'.out.setCell (Nat.le_refl _) _).setCell (Nat.le_refl _) _⟩

set_option maxRecDepth 100000 in
set_option maxHeartbeats 4000000 in
theorem PAfter_ok (W : World) (al : Option Addr) (ll cl : Nat) (l : List Int) (m : List Nat) (hl : Row .u32 W al ll cl l) (h4 : ll ≤ 4000) (hm : m.length = ll) (hml : ∀ k, k < ll → l.getD k 0 = ((m.getD k 0 : Nat) : Int)) (hm32 : ∀ x ∈ m, x < 4294967296) :
    Calls Try.prog 26 #[.slice al ll cl] W fun e W' => e = .returned (.tuple #[.agg #[.int .i64 (after dStart m).k0, .int .i64 (after dStart m).k1, .int .u64 (after dStart m).s0, .int .u64 (after dStart m).s1], .int .i64 0]) ∧ Below W.heap.size W W' := by
  have st := Go.Lib.hid Dstart_ok
  obtain ⟨Ef, hEf⟩ : ∃ E, E = after dStart m := ⟨_, rfl⟩
  rw [← hEf]
  replace hEf := Go.Lib.hid hEf
  have hev : Hid (∀ k, (after dStart (m.take k)).ok) := Go.Lib.hid fun k => after_ok _ dStart_ok fun x hx => hm32 x (List.mem_of_mem_take hx)
  have h32 : Hid (∀ k, k < ll → m.getD k 0 < 4294967296) := Go.Lib.hid fun k hk => hm32 _ (by rw [show m.getD k 0 = m[k] by simp [List.getD, show k < m.length by omega]]; exact List.getElem_mem _)
  have hm' := Go.Lib.hid hm
  have hml' := Go.Lib.hid hml
  have hl' := Go.Lib.hid hl
  have hl4 : (ll : Int) ≤ 4000 := by omega
  have d0 := Go.Lib.hid (duat1 W 0 0 0 0)
  have B0 := Go.Lib.hid (below1 W (.cells #[.int .i64 0, .int .i64 0, .int .u64 0, .int .u64 0] 52))
  clear hm hml hm32 hl
  go_enter Try.func26, Try.ntmps26
  go_wp2_with (go_at_call 35; refine (st.out _).mono ?_; rintro e w1 ⟨rfl, hb1⟩; have d1 := Go.Lib.hid (d0.out.below hb1 d0.out.lt); have B1 := Go.Lib.hid (B0.out.trans (hb1.mono B0.out.size)); clear hb1)
  have d2 := Go.Lib.hid (d1.out.alloc (.cells #[.int .i64 10, .int .i64 10, .int .u64 16384, .int .u64 16384] 52))
  have B2 := Go.Lib.hid (B1.out.alloc B1.out.size (.cells #[.int .i64 10, .int .i64 10, .int .u64 16384, .int .u64 16384] 52))
  have e2 := Go.Lib.hid (duat1 w1 10 10 16384 16384)
  obtain ⟨w2, hw2⟩ : ∃ w, w = w1.alloc (.cells #[.int .i64 10, .int .i64 10, .int .u64 16384, .int .u64 16384] 52) := ⟨_, rfl⟩
  have hx4 : W.heap.size < w1.heap.size := d1.out.lt
  obtain ⟨x4, hxx⟩ : ∃ x, x = w1.heap.size := ⟨_, rfl⟩
  rw [← hw2] at d2 B2 e2
  rw [← hxx] at e2 hx4
  try rw [← hw2]
  try rw [← hxx]
  clear hw2 hxx d1 B1 d0 B0
  go_loopg [16] ll (fun g i wr => ∃ (k : Nat), k ≤ ll ∧ g = ll - k ∧ i = .int .i64 k ∧ DuAt wr x4 ((after dStart (m.take k)).k0 : Int) ((after dStart (m.take k)).k1 : Int) ((after dStart (m.take k)).s0 : Int) ((after dStart (m.take k)).s1 : Int) ∧ DuAt wr W.heap.size 0 0 0 0 ∧ Below W.heap.size W wr)
  case atStart => exact ⟨0, Nat.zero_le _, rfl, rfl, e2.out, d2.out, B2.out⟩
  case round =>
  obtain ⟨k, hk, hg, rfl, he, hd, hB⟩ := hrel
  replace hg := Go.Lib.hid hg
  clear d2 B2 e2
  by_cases hlt : k < ll
  · have hlt' : (k : Int) < ll := by omega
    have hta := after_take_succ m dStart (show k < m.length by rw [hm'.out]; exact hlt)
    have hv32 := h32.out k hlt
    have hmk := hml'.out k hlt
    have hEo := hev.out k
    obtain ⟨num, hnum⟩ : ∃ v, v = m.getD k 0 := ⟨_, rfl⟩
    rw [← hnum] at hta hv32 hmk
    obtain ⟨E, hE⟩ : ∃ E, E = after dStart (m.take k) := ⟨_, rfl⟩
    rw [← hE] at hta hEo he
    obtain ⟨E', hE'⟩ : ∃ E', E' = learnD E num := ⟨_, rfl⟩
    rw [← hE'] at hta
    have lrn : Hid (∀ w, Calls Try.prog 29 #[.agg #[.int .i64 E.k0, .int .i64 E.k1, .int .u64 E.s0, .int .u64 E.s1], .int .u32 num] w fun e W' => e = .returned (.tuple #[.agg #[.int .i64 E'.k0, .int .i64 E'.k1, .int .u64 E'.s0, .int .u64 E'.s1], .int .i64 0]) ∧ Below w.heap.size w W') := Go.Lib.hid fun w => by rw [hE']; exact DLearn_ok w E num hEo hv32
    replace hta := Go.Lib.hid hta
    obtain ⟨bl, ol, rfl, hblt, hc⟩ := (hl'.out.below hB (Nat.le_refl _)).cells (by omega)
    have hcell := hc k hlt
    rw [hmk] at hcell
    obtain ⟨z0, z1, z2, z3, z4, z5, z6, z7⟩ := he.cells
    have he' := Go.Lib.hid he
    have hd' := Go.Lib.hid hd
    have hB' := Go.Lib.hid hB
    clear hE hE' hnum hc hEo he hd hB
    go_wp2_with (go_at_call 29; with_reducible refine (lrn.out _).mono ?_; rintro e q ⟨rfl, hs⟩; have he2 := Go.Lib.hid ((he'.out.below hs he'.out.lt).alloc (.cells #[.int .i64 E'.k0, .int .i64 E'.k1, .int .u64 E'.s0, .int .u64 E'.s1] 52)); have hd2 := Go.Lib.hid ((hd'.out.below hs hd'.out.lt).alloc (.cells #[.int .i64 E'.k0, .int .i64 E'.k1, .int .u64 E'.s0, .int .u64 E'.s1] 52)); have hB3 := hB'.out.trans (hs.mono hB'.out.size); have hB2 := Go.Lib.hid (hB3.alloc hB3.size (.cells #[.int .i64 E'.k0, .int .i64 E'.k1, .int .u64 E'.s0, .int .u64 E'.s1] 52)); obtain ⟨z0, z1, z2, z3, z4, z5, z6, z7⟩ := he2.out.cells; clear hs hB3)
    go_roundg (ll - (k + 1))
    case measure => (have hgk := hg.out; omega)
    case rel =>
      refine ⟨k + 1, by omega, rfl, by go_num, ?_, ?_, ?_⟩
      · rw [hta.out]; exact he2.out.set _ _ _ _
      · exact (((hd2.out.other (by simp; omega) _).other (by simp; omega) _).other (by simp; omega) _).other (by simp; omega) _
      · exact outp hB2.out (by omega)
  · obtain rfl : k = ll := by omega
    have hmt : m.take k = m := List.take_of_length_le (by rw [hm'.out]; exact Nat.le_refl _)
    rw [hmt] at he
    rw [← hEf.out] at he
    clear hmt
    have hlt' : ¬ (k : Int) < (k : Int) := by omega
    obtain ⟨z0, z1, z2, z3, z4, z5, z6, z7⟩ := he.cells
    obtain ⟨y0, y1, y2, y3, y4, y5, y6, y7⟩ := hd.cells
    have he' := Go.Lib.hid he
    have hd' := Go.Lib.hid hd
    have hB' := Go.Lib.hid hB
    clear he hd hB
    go_wp2
    (try simp only [Exit.inBlock, Exit.then])
    refine bodyPost_ret (results_du_tmp (by rfl) _ _ W.heap.size _ _ _ _ rfl (hd'.out.set _ _ _ _)) rfl ?_
    exact ⟨by simp, outp hB'.out (Nat.le_refl _)⟩
end Go.Proofs.Ythbjcjphplgobaa
