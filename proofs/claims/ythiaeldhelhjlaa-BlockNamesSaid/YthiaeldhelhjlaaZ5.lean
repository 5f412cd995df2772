/- Texts of the proof, one behind the other: MyBitH, BitC, BitJ, MyBitI, BitLawA, BitGotW, BloR, BloS, Slc. -/
import Derived.Test.YthiaeldhelhjlaaZ4
import Derived.Deep.DeepCutAuto
import Derived.Lib.AppendZeros
import Derived.Deep.QuietTactic
import Derived.BigQuiet
/- Contracts of the package bits: Cut. -/
namespace Go.Proofs.Ythiaeldhelhjlaa
open Go.RowKit Cad

end Go.Proofs.Ythiaeldhelhjlaa

/- Contracts of the reference's functions on bits: cut. -/
namespace Go.Proofs.Ythiaeldhelhjlaa
open Go.RowKit Cad

end Go.Proofs.Ythiaeldhelhjlaa

/- Contracts of the reference's functions on bits: joined. -/
namespace Go.Proofs.Ythiaeldhelhjlaa
open Go.RowKit Cad

theorem join_snoc (A B : List Bool) {k : Nat} (hk : k < B.length) : A ++ B.take (k + 1) = (A ++ B.take k) ++ [B.getD k false] := by
  rw [List.take_add_one, List.append_assoc]
  simp [List.getD, hk]
theorem join_len (A B : List Bool) {k : Nat} (hk : k ≤ B.length) : (A ++ B.take k).length = A.length + k := by simp; omega
theorem Kept.of {base : Nat} {W w : World} (h : Below W.heap.size W w) (hb : base ≤ W.heap.size) : Kept base W w := ⟨h.mono hb, fun k hk _ => h.block k hk⟩

end Go.Proofs.Ythiaeldhelhjlaa

/- Contracts of the package bits and of its reference: Join, refusals too. -/
namespace Go.Proofs.Ythiaeldhelhjlaa
open Go.RowKit Cad

/-- three boxes: what came in twice, and the bits that go out -/
theorem three_boxes (W : World) (v : Value) (N : Int) (v' : Value) (N' : Int) : ∃ W0, W0 = ((W.alloc (.cells #[v, .int .i64 N] 29)).alloc (.cells #[v', .int .i64 N'] 29)).alloc (.cells #[.slice none 0 0, .int .i64 0] 29) ∧ Below W.heap.size W W0 ∧ W0.heap.size = W.heap.size + 1 + 1 + 1 ∧
    BoxAt W0 W.heap.size v N ∧ BoxAt W0 (W.heap.size + 1) v' N' ∧ BoxAt W0 (W.heap.size + 1 + 1) (.slice none 0 0) 0 := by
  refine ⟨_, rfl, (((Below.refl W.heap.size W).alloc (Nat.le_refl _) _).alloc (by simp) _).alloc (by simp; omega) _, by simp, ?_, ?_, ?_⟩
  · unfold BoxAt; rw [Below.heap_alloc _ _ _ (by simp; omega), Below.heap_alloc _ _ _ (by simp), heap_alloc_new]
  · unfold BoxAt; rw [Below.heap_alloc _ _ _ (by simp), heap_alloc2_new]
  · have := heap_alloc_new ((W.alloc (.cells #[v, .int .i64 N] 29)).alloc (.cells #[v', .int .i64 N'] 29)) (.cells #[.slice none 0 0, .int .i64 0] 29)
    rw [show ((W.alloc (.cells #[v, .int .i64 N] 29)).alloc (.cells #[v', .int .i64 N'] 29)).heap.size = W.heap.size + 1 + 1 by simp] at this
    exact this

section
variable (W : World) (a : Option Addr) (len cap : Nat) (N : Int) (l : List Int) (hr : Row .u8 W a len cap l) (hN : (Lit.int .i64 N).wf = true)
  (a' : Option Addr) (len' cap' : Nat) (N' : Int) (l' : List Int) (hr' : Row .u8 W a' len' cap' l') (hN' : (Lit.int .i64 N').wf = true)
include hr hN hr' hN'

end

end Go.Proofs.Ythiaeldhelhjlaa

/- What the statements of bits share: the chapter's examples, and a number's lowest bits. -/
namespace Go.Proofs.Ythiaeldhelhjlaa
open Go.RowKit Cad

theorem two_sub (v n : Nat) : v &&& (2 ^ n - 1) = v % 2 ^ n := Nat.and_two_pow_sub_one_eq_mod v n
theorem pk1 : pack ([] ++ numB 5 3) = [5] := by rfl
theorem pk1' : pack (numB 5 3) = [5] := by rfl
theorem pk2 : pack (numB 5 3 ++ numB 6 4) = [53] := by rfl
theorem nb3 : natB (midB (numB 5 3 ++ numB 6 4) 2 (2 + 4)) = 13 := by rfl
end Go.Proofs.Ythiaeldhelhjlaa

/- BitsGot: what was put is got, wherever it stands. -/
namespace Go.Proofs.Ythiaeldhelhjlaa
open Go.RowKit Cad

theorem mid_behind (A B : List Bool) : midB (A ++ B) A.length (A.length + B.length) = B := by
  unfold midB
  rw [List.drop_left, Nat.add_sub_cancel_left, List.take_length]
theorem mid_front (A B : List Bool) {i t : Nat} (h : i ≤ t) (ht : t ≤ A.length) : midB (A ++ B) i t = midB A i t := by
  unfold midB
  rw [List.drop_append_of_le_length (by omega), List.take_append_of_le_length (by simp; omega)]
theorem natB_numB_self {v n : Nat} (h : v < 2 ^ n) : natB (numB v n) = v := by rw [natB_numB, Nat.mod_eq_of_lt h]

theorem box1 (W : World) (v : Value) (N : Int) : BoxAt (W.alloc (.cells #[v, .int .i64 N] 29)) W.heap.size v N := heap_alloc_new _ _
end Go.Proofs.Ythiaeldhelhjlaa

/- Contracts of the reference of block. -/
namespace Go.Proofs.Ythiaeldhelhjlaa
open Go.RowKit Cad

theorem KrLong_ok (W : World) (n : Nat) (h : n ≤ 330000) :
    Calls Try.prog 29 #[.int .i64 n] W fun e W' => e = .returned (.int .i64 (((n + 7) / 8 + 4 : Nat) : Int)) ∧ W = W' := by
  go_enter Try.func29, Try.ntmps29
  go_wp2
  go_ret
  exact ⟨by go_num, rfl⟩
theorem KrSize_no (W : World) (n : Int) (h : n < 0 ∨ 330000 < n) :
    Calls Try.prog 17 #[.int .i64 n] W fun e W' => e = .returned (.tuple #[.int .i64 0, .int .i64 2]) ∧ W = W' := by
  rcases (show n < 0 ∨ (¬ n < 0 ∧ 330000 < n) by omega) with h | ⟨h, h'⟩
  all_goals
    go_enter Try.func17, Try.ntmps17
    go_wp2
    go_ret2
    exact ⟨rfl, rfl⟩
theorem KrSize_ok (W : World) (n : Nat) (h : n ≤ 330000) :
    Calls Try.prog 17 #[.int .i64 n] W fun e W' => e = .returned (.tuple #[.int .i64 (((n + 7) / 8 + 4 : Nat) : Int), .int .i64 0]) ∧ W = W' := by
  have h0 : ¬ (n : Int) < 0 := by omega
  have h1 : ¬ (330000 : Int) < n := by omega
  have hc := Go.Lib.hid fun w => KrLong_ok w n h
  go_enter Try.func17, Try.ntmps17
  go_wp2_with (go_at_call 29; refine (hc.out _).mono ?_; rintro e w1 ⟨rfl, rfl⟩)
  go_ret2
  exact ⟨rfl, rfl⟩

theorem leB_nums {l : List Int} (h : ∀ x ∈ l, (Lit.int .u8 x).wf = true) : ∀ x ∈ sealB l, (Lit.int .u8 x).wf = true := u8_wf (sealB_wf (u8_bd h))
theorem KrSealed_ok (W : World) (a : Option Addr) (len cap : Nat) (l : List Int) (hr : Row .u8 W a len cap l) (hlen : len ≤ 1000000) :
    Calls Try.prog 30 #[.slice a len cap] W fun e W' => ∃ v', e = .returned v' ∧ W'.ownsRow W.heap.size 5 1 v' (len + 4) (nums .u8 (sealB l)) ∧ Below W.heap.size W W' := by
  have hr' := Go.Lib.hid hr
  have hcr := Go.Lib.hid fun w h => CROf_ok w a len cap l h
  have hlt := crcSum_lt l
  obtain ⟨s, hs⟩ : ∃ s, s = crcSum l := ⟨_, rfl⟩
  rw [← hs] at hcr hlt
  have hwr := Go.Lib.hid fun w => Written_ok (s : Nat) 4 w (by decide) (by omega) (by omega)
  have hse : Hid (l ++ CadL.leB (s : Nat) 4 = sealB l) := Go.Lib.hid (by rw [hs]; rfl)
  clear hr hs
  go_enter Try.func30, Try.ntmps30
  go_wp2_with (first
    | (at_builtin; refine law_appendRow elU8 _ rfl _ _ rfl W.heap.size _ 0 [] rfl (own_empty W 5 .u8) a len cap l rfl (hr'.out.below (below1 W (.cells #[] 5)) (Nat.le_refl _)) (by omega) (by simp) ?_; intro v1 w1 hown1 hbx1; simp only [Nat.zero_add, List.nil_append] at hown1; obtain ⟨o1, p1, rfl⟩ := own_form hown1; have B1 := Go.Lib.hid ((below1 W (.cells #[] 5)).trans hbx1); have O1 := Go.Lib.hid hown1; clear hown1 hbx1)
    | (go_at_call 39; refine (hcr.out _ (hr'.out.below B1.out (Nat.le_refl _))).mono ?_; rintro e wz ⟨rfl, rfl⟩)
    | (go_at_call 38; refine (hwr.out _).mono ?_; rintro e w2 ⟨v2, rfl, hown2, hb2⟩; obtain ⟨o2, p2, rfl⟩ := own_form hown2; have B2 := Go.Lib.hid (B1.out.trans (hb2.mono B1.out.size)); have O2 := Go.Lib.hid (own_below O1.out hb2 (Nat.le_refl _)); have R2 := Go.Lib.hid (Row.of_own hown2 (u8_wf (CadL.leB_wf _ _))); clear hown2 hb2)
    | (at_builtin; refine law_appendRow elU8 _ rfl _ _ rfl W.heap.size _ len l rfl O2.out o2 4 p2 (CadL.leB (s : Nat) 4) rfl R2.out (by omega) B2.out.size ?_; intro v3 w3 hown3 hb3; have B3 := Go.Lib.hid (B2.out.trans hb3); have O3 := Go.Lib.hid hown3; clear hown3 hb3))
  go_ret
  exact ⟨_, rfl, by rw [← hse.out]; exact O3.out, B3.out⟩

/-- a call that hands back bytes and an error -/
def ResP (f : FuncId) (args : Array Value) (W : World) (m : Nat) (l : List Int) (e : Int) : Prop :=
  Calls Try.prog f args W fun r W' => ∃ a c, r = .returned (.tuple #[.slice a m c, .int .i64 e]) ∧ Row .u8 W' a m c l ∧ Below W.heap.size W W'
theorem ResP.none {f : FuncId} {args : Array Value} {W : World} {e : Int} (h : Calls Try.prog f args W fun r W' => r = .returned (.tuple #[.slice none 0 0, .int .i64 e]) ∧ Below W.heap.size W W') : ResP f args W 0 [] e :=
  h.mono fun _ _ ⟨h1, h2⟩ => ⟨Option.none, 0, h1, Row.nil_row _ _, h2⟩

theorem KrPack_bad (W : World) (aa : Option Addr) (len cap : Nat) (N : Int) (l : List Int) (hr : Row .u8 W aa len cap l) (hN : (Lit.int .i64 N).wf = true) (hv : ¬ Valid l N) :
    ResP 18 #[.agg #[.slice aa len cap, .int .i64 N]] W 0 [] 8 := by
  refine ResP.none ?_
  have b0 := Go.Lib.hid (below1 W (.cells #[.slice aa len cap, .int .i64 N] 29))
  have hck := Go.Lib.hid (RCheck_any _ aa len cap N l (hr.below b0.out (Nat.le_refl _)) hN 8 (.inr ⟨hv, rfl⟩))
  clear hr hN hv
  go_enter Try.func18, Try.ntmps18
  go_wp2_with (go_at_call 22; with_reducible refine hck.out.mono ?_; rintro e w1 ⟨rfl, hb1⟩; have B1 := Go.Lib.hid (b0.out.trans (hb1.mono b0.out.size)); clear hb1)
  go_ret2
  exact ⟨rfl, B1.out⟩
theorem KrPack_ok (W : World) (aa : Option Addr) (len cap : Nat) (N : Int) (l : List Int) (hr : Row .u8 W aa len cap l) (hN : (Lit.int .i64 N).wf = true) (hv : Valid l N) :
    ResP 18 #[.agg #[.slice aa len cap, .int .i64 N]] W (len + 4) (sealB l) 0 := by
  unfold ResP
  have hlen : len ≤ 41250 := by have := hv.n; have := hr.hlen; omega
  have b0 := Go.Lib.hid (below1 W (.cells #[.slice aa len cap, .int .i64 N] 29))
  have r0 := Go.Lib.hid (hr.below b0.out (Nat.le_refl _))
  have x0 := Go.Lib.hid (box1 W (.slice aa len cap) N)
  have hck := Go.Lib.hid (RCheck_any _ aa len cap N l r0.out hN 0 (.inl ⟨hv, rfl⟩))
  have hse := Go.Lib.hid fun w h => KrSealed_ok w aa len cap l h (by omega)
  have hwf := Go.Lib.hid (leB_nums hr.wf)
  clear hr hN hv
  go_enter Try.func18, Try.ntmps18
  go_wp2_with (first
    | (go_at_call 22; with_reducible refine hck.out.mono ?_; rintro e w1 ⟨rfl, hb1⟩; have B1 := Go.Lib.hid (b0.out.trans (hb1.mono b0.out.size)); have x1 := Go.Lib.hid (x0.out.below hb1 x0.out.lt); have r1 := Go.Lib.hid (r0.out.below hb1 (Nat.le_refl _)); obtain ⟨c0, c1, c2, c3⟩ := x1.out.cells; clear hb1)
    | (go_at_call 30; with_reducible refine (hse.out _ r1.out).mono ?_; rintro e w2 ⟨v2, rfl, ho, hb⟩; obtain ⟨o2, p2, rfl⟩ := own_form ho; have B2 := Go.Lib.hid (B1.out.trans (hb.mono B1.out.size)); have R2 := Go.Lib.hid (Row.of_own ho hwf.out); clear ho hb))
  go_ret2
  exact ⟨o2, p2, rfl, R2.out, B2.out⟩

set_option maxRecDepth 100000 in
theorem KrRight_ok (W : World) (a : Option Addr) (len cap : Nat) (l : List Int) (hr : Row .u8 W a len cap l) (h4 : 4 ≤ len) (hlen : len ≤ 1000000) :
    Calls Try.prog 31 #[.slice a len cap] W fun e W' => e = .returned (.bool (decide (rightB l))) ∧ Below W.heap.size W W' := by
  have hl := hr.hlen
  have hcap := hr.hcap
  have hr' := Go.Lib.hid hr
  obtain ⟨n, hn⟩ : ∃ n, n = len - 4 := ⟨_, rfl⟩
  have hnI : (len : Int) - 4 = (n : Int) := by omega
  have hse := Go.Lib.hid fun w h => KrSealed_ok w a n cap (l.take n) h (by omega)
  have hrt := Go.Lib.hid fun w (h : Row .u8 w a len cap l) => h.take n (by omega)
  have hwf := Go.Lib.hid (leB_nums (hrt.out W hr).wf)
  have hwl := Go.Lib.hid hr.wf
  have hdec : Hid (decide (rightB l) = (sealB (l.take n) == l)) := Go.Lib.hid (by
    have e : rightB l ↔ sealB (l.take n) = l := ⟨fun h => by have := h.2; rwa [hl, ← hn] at this, fun h => ⟨by omega, by rw [hl, ← hn]; exact h⟩⟩
    by_cases h : sealB (l.take n) = l
    · rw [decide_eq_true (e.2 h)]; simp [h]
    · rw [decide_eq_false (fun h' => h (e.1 h'))]; simp [h])
  have hnl : (n : Int) ≤ len := by omega
  have hst := Go.Lib.hid (str_beq (u8_bd hwf.out) (u8_bd hwl.out))
  obtain ⟨X, hX⟩ : ∃ X, X = sealB (l.take n) := ⟨_, rfl⟩
  rw [← hX] at hst hdec hwf hse
  have hst' := hst.out
  rw [hdec.out]
  clear hr hX hst hn
  go_enter Try.func31, Try.ntmps31
  go_wp2
  refine wp_region_ord (fun w' => Below W.heap.size W w') [(0, 0), (1, 0), (2, 0), (5, 0), (6, 2), (3, 3), (4, 1), (7, 0), (8, 0)] (by kernel_rfl) (by kernel_rfl) ?hC0 ?_
  case hC0 => exact (Below.refl _ _).drew
  simp only [pick, nth]
  refine wpW_name ?_
  intro q0 hq0
  have B0 := Go.Lib.hid (show Below W.heap.size W q0 by rw [hq0]; exact (Below.refl _ _).drew)
  clear hq0
  (repeat (first | (apply wpW_light; (case h => (intro wa; (first | (go_big_quiet_skip; exact wpQuiet_nil rfl) | (go_big_quiet_want; go_big_quiet_op; go_big_quiet_on; exact wpQuiet_nil rfl))))) | (apply wpW_here; (case h => (first | (go_big_quiet_skip; exact wpQuiet_nil rfl) | (go_big_quiet_want; go_big_quiet_op; go_big_quiet_on; exact wpQuiet_nil rfl)))) | (apply wpW_held; (case hC => assumption); (case h => (intro wa hCa; have st := (hr'.out.below hCa (Nat.le_refl _)).str Try.underlying25 Try.underlying5 Try.underlying9; (first | (go_big_quiet_skip; exact wpQuiet_nil rfl) | (go_big_quiet_want; go_big_quiet_op; go_big_quiet_on; exact wpQuiet_nil rfl)))))))
  skip
  refine wpW_act (fun QQ hQQ => ?_) (by rfl)
  go_wp2_with (go_at_call 30; with_reducible refine (hse.out _ (hrt.out _ (hr'.out.below B0.out (Nat.le_refl _)))).mono ?_; rintro e w2 ⟨v2, rfl, ho, hb⟩; obtain ⟨o2, p2, rfl⟩ := own_form ho; have B2 := Go.Lib.hid (B0.out.trans (hb.mono B0.out.size)); have R2 := Go.Lib.hid (Row.of_own ho hwf.out); clear ho hb)
  (refine hQQ _ _ ?hCn ?_; (case hCn => exact B2.out); clear hQQ QQ)
  have st := R2.out.str Try.underlying25 Try.underlying5 Try.underlying9
  (repeat (first | (apply wpW_light; (case h => (intro wa; (first | (go_big_quiet_skip; exact wpQuiet_nil rfl) | (go_big_quiet_want; go_big_quiet_op; go_big_quiet_on; exact wpQuiet_nil rfl))))) | (apply wpW_here; (case h => (first | (go_big_quiet_skip; exact wpQuiet_nil rfl) | (go_big_quiet_want; go_big_quiet_op; go_big_quiet_on; exact wpQuiet_nil rfl)))) | (apply wpW_held; (case hC => assumption); (case h => (intro wa hCa; simp only [] at hCa; (first | (go_big_quiet_skip; exact wpQuiet_nil rfl) | (go_big_quiet_want; go_big_quiet_op; go_big_quiet_on; exact wpQuiet_nil rfl)))))))
  refine wpW_nil ?_
  go_wp2
  go_ret
  exact ⟨rfl, B2.out⟩
end Go.Proofs.Ythiaeldhelhjlaa

/- Contracts of the reference of block: Unpack, Great. -/
namespace Go.Proofs.Ythiaeldhelhjlaa
open Go.RowKit Cad

/-- a call that hands back bits and an error -/
def ResU (f : FuncId) (args : Array Value) (W : World) (m : Nat) (l : List Int) (n e : Int) : Prop :=
  Calls Try.prog f args W fun r W' => ∃ b c, r = .returned (.tuple #[.agg #[.slice b m c, .int .i64 n], .int .i64 e]) ∧ Row .u8 W' b m c l ∧ Below W.heap.size W W'
theorem ResU.none {f : FuncId} {args : Array Value} {W : World} {e : Int} (h : Calls Try.prog f args W fun r W' => r = .returned (.tuple #[.agg #[.slice none 0 0, .int .i64 0], .int .i64 e]) ∧ Below W.heap.size W W') : ResU f args W 0 [] 0 e :=
  h.mono fun _ _ ⟨h1, h2⟩ => ⟨Option.none, 0, h1, Row.nil_row _ _, h2⟩

theorem KrUnpack_short (W : World) (a : Option Addr) (len cap : Nat) (h : len < 4) :
    ResU 21 #[.slice a len cap] W 0 [] 0 24 := by
  refine ResU.none ?_
  have h' : (len : Int) < 4 := by omega
  go_enter Try.func21, Try.ntmps21
  go_wp2
  go_returns
  exact ⟨rfl, (Below.refl _ _).alloc (Nat.le_refl _) _⟩
theorem KrUnpack_many (W : World) (a : Option Addr) (len cap : Nat) (h : 41254 < len) (hm : len ≤ 9223372036854775807) :
    ResU 21 #[.slice a len cap] W 0 [] 0 4 := by
  refine ResU.none ?_
  have h' : ¬ (len : Int) < 4 := by omega
  have h2 : (41254 : Int) < len := by omega
  go_enter Try.func21, Try.ntmps21
  go_wp2
  go_returns
  exact ⟨rfl, (Below.refl _ _).alloc (Nat.le_refl _) _⟩
set_option maxRecDepth 100000 in
theorem KrUnpack_no (W : World) (a : Option Addr) (len cap : Nat) (l : List Int) (hr : Row .u8 W a len cap l) (h4 : 4 ≤ len) (hl : len ≤ 41254) (hn : ¬ rightB l) :
    ResU 21 #[.slice a len cap] W 0 [] 0 22 := by
  refine ResU.none ?_
  have h' : ¬ (len : Int) < 4 := by omega
  have h2 : ¬ (41254 : Int) < len := by omega
  have b0 := Go.Lib.hid (below1 W (.cells #[.slice none 0 0, .int .i64 0] 29))
  have x0 := Go.Lib.hid (box1 W (.slice none 0 0) 0)
  have hrt := KrRight_ok _ a len cap l (hr.below b0.out (Nat.le_refl _)) h4 (by omega)
  rw [decide_eq_false hn] at hrt
  have hrt := Go.Lib.hid hrt
  clear hr hn
  go_enter Try.func21, Try.ntmps21
  go_wp2_with (go_at_call 31; with_reducible refine hrt.out.mono ?_; rintro e w1 ⟨rfl, hb1⟩; have B1 := Go.Lib.hid (b0.out.trans (hb1.mono b0.out.size)); have x1 := Go.Lib.hid (x0.out.below hb1 x0.out.lt); obtain ⟨c0, c1, c2, c3⟩ := x1.out.cells; clear hb1)
  (try simp only [Exit.inBlock, Exit.then])
  refine bodyPost_ret (results_box_tmp (by rfl) _ _ W.heap.size _ _ rfl (x1.out.set _ _)) rfl ?_
  exact ⟨rfl, (B1.out.setCell (Nat.le_refl _) _).setCell (Nat.le_refl _) _⟩
set_option maxRecDepth 100000 in
theorem KrUnpack_ok (W : World) (a : Option Addr) (len cap : Nat) (l : List Int) (hr : Row .u8 W a len cap l) (hl : len ≤ 41254) (hy : rightB l) :
    ResU 21 #[.slice a len cap] W (len - 4) (l.take (len - 4)) (8 * (len - 4) : Nat) 0 := by
  unfold ResU
  have h4 : 4 ≤ len := by have := hy.1; have := hr.hlen; omega
  have h' : ¬ (len : Int) < 4 := by omega
  have h2 : ¬ (41254 : Int) < len := by omega
  have b0 := Go.Lib.hid (below1 W (.cells #[.slice none 0 0, .int .i64 0] 29))
  have x0 := Go.Lib.hid (box1 W (.slice none 0 0) 0)
  have r0 := Go.Lib.hid (hr.below b0.out (Nat.le_refl _))
  have hrt := KrRight_ok _ a len cap l r0.out h4 (by omega)
  rw [decide_eq_true hy] at hrt
  have hrt := Go.Lib.hid hrt
  have hcap := hr.hcap
  obtain ⟨n, hn⟩ : ∃ n, n = len - 4 := ⟨_, rfl⟩
  rw [← hn]
  have hnI : (len : Int) - 4 = (n : Int) := by omega
  have hnl : n ≤ len := by omega
  have hnc : n < cap := by omega
  have hwf := Go.Lib.hid (hr.take n hnl).wf
  have hof : Hid (∀ w, Row .u8 w a len cap l → Calls Try.prog 32 #[.slice a n cap] w fun e W' => ∃ b c, e = .returned (.tuple #[.agg #[.slice b n c, .int .i64 ((8 * n : Nat) : Int)], .int .i64 0]) ∧ Row .u8 W' b n c (l.take n) ∧ Below w.heap.size w W') := Go.Lib.hid fun w h => by
    refine (ROf_ok w a n cap (l.take n) (h.take n hnl) (by omega)).mono ?_
    rintro e W' ⟨v', rfl, ho, hb⟩
    obtain ⟨b, c, rfl⟩ := own_form ho
    exact ⟨b, c, by simp, Row.of_own ho hwf.out, hb⟩
  clear hr hy hn
  go_enter Try.func21, Try.ntmps21
  go_upto_region 8 with (first
    | (go_at_call 31; with_reducible refine hrt.out.mono ?_; rintro e w1 ⟨rfl, hb1⟩; have B1 := Go.Lib.hid (b0.out.trans (hb1.mono b0.out.size)); have x1 := Go.Lib.hid (x0.out.below hb1 x0.out.lt); have r1 := Go.Lib.hid (r0.out.below hb1 (Nat.le_refl _)); clear hb1)
    | (go_at_call 32; with_reducible refine (hof.out _ r1.out).mono ?_; rintro e w2 ⟨b2, c2, rfl, hr2, hb2⟩; have B2 := Go.Lib.hid (B1.out.trans (hb2.mono B1.out.size)); have x2 := Go.Lib.hid (x1.out.below hb2 x1.out.lt); have R2 := Go.Lib.hid hr2; clear hr2 hb2))
  obtain ⟨w3, hw3⟩ : ∃ w, w = w2.alloc (.cells #[.slice b2 n c2, .int .i64 (8 * n : Nat)] 29) := ⟨_, rfl⟩
  obtain ⟨x9, hx9⟩ : ∃ x, x = w2.heap.size := ⟨_, rfl⟩
  have B3 := Go.Lib.hid (show Below W.heap.size W w3 by rw [hw3]; exact B2.out.alloc B2.out.size _)
  have x3 := Go.Lib.hid (show BoxAt w3 W.heap.size (.slice none 0 0) 0 by rw [hw3]; exact x2.out.alloc _)
  have y3 := Go.Lib.hid (show BoxAt w3 x9 (.slice b2 n c2) (8 * n : Nat) by rw [hw3, hx9]; exact box1 w2 _ _)
  have R3 := Go.Lib.hid (show Row .u8 w3 b2 n c2 (l.take n) by rw [hw3]; exact R2.out.below (below1 w2 _) (Nat.le_refl _))
  push_cast at hw3
  rw [← hw3]
  try rw [← hx9]
  clear hw3 hx9 R2 x2 B2
  obtain ⟨c0, c1, c2', c3⟩ := x3.out.cells
  obtain ⟨d0, d1, d2, d3⟩ := y3.out.cells
  go_wp2
  (try simp only [Exit.inBlock, Exit.then])
  refine bodyPost_ret (results_box_tmp (by rfl) _ _ W.heap.size _ _ rfl (x3.out.set _ _)) rfl ?_
  exact ⟨b2, c2, by simp, (R3.out.box x3.out 0 (.slice b2 n c2)).box (x3.out.set0 _) 1 _, (B3.out.setCell (Nat.le_refl _) _).setCell (Nat.le_refl _) _⟩

def kgreat (len : Nat) : Bool := decide (300 < len ∧ len ≤ 41254 ∨ 41300 < len)
theorem KrGreat_ok (W : World) (a : Option Addr) (len cap : Nat) (hm : len ≤ 9223372036854775807) :
    Calls Try.prog 20 #[.slice a len cap] W fun e W' => e = .returned (.bool (kgreat len)) ∧ W = W' := by
  have key : ((300 : Int) < len ∧ (len : Int) ≤ 41254 ∧ kgreat len = true) ∨ ((300 : Int) < len ∧ ¬ (len : Int) ≤ 41254 ∧ (41300 : Int) < len ∧ kgreat len = true) ∨ ((300 : Int) < len ∧ ¬ (len : Int) ≤ 41254 ∧ ¬ (41300 : Int) < len ∧ kgreat len = false) ∨ (¬ (300 : Int) < len ∧ ¬ (41300 : Int) < len ∧ kgreat len = false) := by
    unfold kgreat
    by_cases h1 : 300 < len
    · by_cases h2 : len ≤ 41254
      · left; exact ⟨by omega, by omega, decide_eq_true (by omega)⟩
      · by_cases h3 : 41300 < len
        · right; left; exact ⟨by omega, by omega, by omega, decide_eq_true (by omega)⟩
        · right; right; left; exact ⟨by omega, by omega, by omega, decide_eq_false (by omega)⟩
    · right; right; right; exact ⟨by omega, by omega, decide_eq_false (by omega)⟩
  rcases key with ⟨h1, h2, h⟩ | ⟨h1, h2, h3, h⟩ | ⟨h1, h2, h3, h⟩ | ⟨h1, h2, h⟩
  all_goals
    rw [h]
    go_enter Try.func20, Try.ntmps20
    go_wp2
    go_ret
    exact ⟨rfl, rfl⟩
end Go.Proofs.Ythiaeldhelhjlaa

/- Contracts of functions of Go's own package slices at bytes: Grow (of nil), Concat, Equal. -/
namespace Go.Proofs.Ythiaeldhelhjlaa
open Go.RowKit

theorem zeroCells_len (z : Array Value) (n : Nat) (h : z.size = 1) : (Builtin.zeroCells z n).size = n := by
  unfold Builtin.zeroCells
  induction n with
  | zero => simp
  | succ n ih => simp_all

theorem SGrow_ok (W : World) (n : Nat) (h : n ≤ 1000000000) :
    Calls Try.prog 37 #[.slice none 0 0, .int .i64 n] W fun e W' => ∃ v', e = .returned v' ∧ W'.ownsRow W.heap.size 5 1 v' 0 (nums .u8 []) ∧ Below W.heap.size W W' := by
  by_cases h0 : n = 0
  · subst h0
    go_enter Try.func37, Try.ntmps37
    go_wp2
    go_ret
    exact ⟨_, rfl, World.ownsRow_nil _ _ _ _, Below.refl _ _⟩
  · obtain ⟨b, hb, hi⟩ := elU8.info
    obtain ⟨i0, hi, hz0, hz1, hz2⟩ := info_parts hi
    have h1 : ¬ ((n : Int) < 0) := by omega
    have h4 : (n : Int) > 0 := by omega
    have hrz : ∀ ty, (Builtin.append_ #[25, 3] ty #[.slice none 0 0, .int .i64 n]).run Try.prog W = _ := fun ty =>
      Lib.run_append_nil_zeros W 25 3 ty 5 i0 (.int .u8 0) .i64 .i64 elU8.sl (by kernel_rfl) hi hz0 n (by omega) (by omega) (by omega) (by rw [hz2]; calc n * b ≤ n * 8 := Nat.mul_le_mul_left _ hb
        _ ≤ 281474976710656 := by omega)
    have hGn : n ≤ grownCap W n 0 5 := grownCap_ge W _ _ _
    have hGm : grownCap W n 0 5 ≤ maxLen := grownCap_le_maxLen W n 0 5 (by unfold maxLen; omega)
    obtain ⟨G, hG⟩ : ∃ G, G = grownCap W n 0 5 := ⟨_, rfl⟩
    rw [← hG] at hrz hGn hGm
    obtain ⟨cs, hcs⟩ : ∃ cs, cs = (Builtin.zeroCells (Value.int .u8 0).cells n ++ Builtin.zeroCells (Value.int .u8 0).cells (G - n)) := ⟨_, rfl⟩
    rw [← hcs] at hrz
    have hsz : cs.size = G := by rw [hcs, Array.size_append, zeroCells_len _ _ rfl, zeroCells_len _ _ rfl]; omega
    have hG63 : G ≤ 9223372036854775807 := by unfold maxLen at hGm; omega
    have hrz' := Go.Lib.hid hrz
    clear hG hcs hi hz0 hz1 hz2 hrz
    go_enter Try.func37, Try.ntmps37
    go_wp2_with (at_builtin; refine Lib.wpList_append_run _ rfl _ _ _ _ rfl _ _ rfl rfl _ _ (hrz'.out _) ?_)
    go_ret
    refine ⟨_, rfl, ⟨rfl, .inr ⟨W.heap.size, G, cs, rfl, Nat.le_refl _, ?_, by omega, hGm, by omega, by simp [nums]⟩⟩, ?_⟩
    · rw [show W.heap.size = W.drew.heap.size from rfl]; exact heap_alloc_new _ _
    · exact (Below.refl _ _).drew.alloc (Nat.le_refl _) _

/-- the lengths of the first j rows, and their numbers -/
def sumN (N : Nat → Nat) : Nat → Nat
  | 0 => 0
  | j + 1 => sumN N j + N j
def catN (L : Nat → List Int) : Nat → List Int
  | 0 => []
  | j + 1 => catN L j ++ L j
theorem sumN_mono (N : Nat → Nat) {j m : Nat} (h : j ≤ m) : sumN N j ≤ sumN N m := by
  induction h with
  | refl => exact Nat.le_refl _
  | step _ ih => exact Nat.le_trans ih (Nat.le_add_right _ _)

theorem SConcat_ok (W : World) (b o m c : Nat) (A : Nat → Option Addr) (N C : Nat → Nat) (L : Nat → List Int) (hc : ∀ j, j < m → W.cell? ⟨b, o + j, none⟩ = some (.slice (A j) (N j) (C j))) (hb : b < W.heap.size)
    (hr : ∀ j, j < m → Row .u8 W (A j) (N j) (C j) (L j)) (hm : m ≤ 1000) (hs : sumN N m ≤ 1000000000) :
    Calls Try.prog 26 #[.slice (some ⟨b, o, none⟩) m c] W fun e W' => ∃ v', e = .returned v' ∧ W'.ownsRow W.heap.size 5 1 v' (sumN N m) (nums .u8 (catN L m)) ∧ Below W.heap.size W W' := by
  have hr' := Go.Lib.hid hr
  have hc' := Go.Lib.hid hc
  obtain ⟨n, hn⟩ : ∃ n, n = sumN N m := ⟨_, rfl⟩
  have hnh := Go.Lib.hid hn
  rw [← hn] at hs ⊢
  have hg := Go.Lib.hid (SGrow_ok W n hs)
  clear hr hc hn
  go_enter Try.func26, Try.ntmps26
  go_wp2
  go_loop [3, 5, 11] (fun z s i => ∃ j : Nat, j ≤ m ∧ i = .int .i64 j ∧ z = .int .i64 (sumN N j : Nat)) (fun _ _ i => m - (intOf i).toNat)
  case atStart => exact ⟨0, by omega, rfl, rfl⟩
  case round =>
    obtain ⟨j, hj, rfl, rfl⟩ := hrel
    by_cases hlt : j < m
    · have hcell := hc'.out j hlt
      have hle : sumN N (j + 1) ≤ n := by rw [hnh.out]; exact sumN_mono N (by omega)
      have hrl := (hr'.out j hlt).hlen
      have hnx : ((sumN N j : Nat) : Int) + (N j : Int) = ((sumN N (j + 1) : Nat) : Int) := by simp only [sumN]; omega
      obtain ⟨s, hs'⟩ : ∃ s, s = sumN N j := ⟨_, rfl⟩
      obtain ⟨t, ht'⟩ : ∃ t, t = sumN N (j + 1) := ⟨_, rfl⟩
      obtain ⟨a1, ha1⟩ : ∃ x, x = A j := ⟨_, rfl⟩
      obtain ⟨n1, hn1⟩ : ∃ x, x = N j := ⟨_, rfl⟩
      obtain ⟨c1, hc1⟩ : ∃ x, x = C j := ⟨_, rfl⟩
      rw [← hs', ← ht'] at hnx
      rw [← hn1] at hnx
      rw [← ha1, ← hn1, ← hc1] at hcell
      rw [← ht'] at hle
      rw [← hs']
      have hn9 : (n1 : Int) ≤ 1000000000 := by omega
      have hneg : ¬ ((t : Nat) : Int) < 0 := by omega
      have ht2 := Go.Lib.hid ht'
      clear hs' ht' ha1 hn1 hc1 hrl
      go_wp2
      go_round
      case rel => exact ⟨j + 1, by omega, by go_num, by rw [← ht2.out]⟩
      case measure => (simp [intOf] <;> omega)
    · obtain rfl : j = m := by omega
      rw [← hnh.out]
      go_wp2_with (go_at_call 37; refine hg.out.mono ?_; rintro e w1 ⟨v1, rfl, hown1, hb1⟩; have hown1' := Go.Lib.hid hown1; have hb1' := Go.Lib.hid hb1; clear hown1 hb1)
      go_loopw [6, 8, 27] (fun v s i wr => ∃ k : Nat, k ≤ j ∧ i = .int .i64 k ∧ wr.ownsRow W.heap.size 5 1 v (sumN N k) (nums .u8 (catN L k)) ∧ Below W.heap.size W wr) (fun _ _ i _ => j - (intOf i).toNat)
      case atStart => exact ⟨0, by omega, rfl, hown1'.out, hb1'.out⟩
      case round =>
        obtain ⟨k, hk, rfl, hown, hbw⟩ := hrel
        by_cases hlt : k < j
        · have hcell := (hbw.cell (p := ⟨b, o + k, none⟩) (by show b < _; omega)).trans (hc'.out k hlt)
          have hle : sumN N (k + 1) ≤ n := by rw [hnh.out]; exact sumN_mono N (by omega)
          have hrk := Go.Lib.hid ((hr'.out k hlt).below hbw (Nat.le_refl _))
          have hnx : Hid (∀ (w' : World) (v' : Value), w'.ownsRow W.heap.size 5 1 v' (sumN N k + N k) (nums .u8 (catN L k ++ L k)) → w'.ownsRow W.heap.size 5 1 v' (sumN N (k + 1)) (nums .u8 (catN L (k + 1)))) := Go.Lib.hid fun _ _ h => h
          have hsl : sumN N k + N k ≤ n := hle
          obtain ⟨s, hs'⟩ : ∃ s, s = sumN N k := ⟨_, rfl⟩
          obtain ⟨l0, hl0⟩ : ∃ s, s = catN L k := ⟨_, rfl⟩
          obtain ⟨a1, ha1⟩ : ∃ x, x = A k := ⟨_, rfl⟩
          obtain ⟨n1, hn1⟩ : ∃ x, x = N k := ⟨_, rfl⟩
          obtain ⟨c1, hc1⟩ : ∃ x, x = C k := ⟨_, rfl⟩
          rw [← hs', ← hn1, ← hl0] at hnx
          rw [← ha1, ← hn1, ← hc1] at hcell hrk
          rw [← hs', ← hn1] at hsl
          rw [← hs', ← hl0] at hown
          have hown2 := Go.Lib.hid hown
          have hsz := hbw.size
          clear hs' hl0 ha1 hn1 hc1 hle hown
          go_wp2_with (at_builtin; refine law_appendRow elU8 _ rfl _ _ rfl W.heap.size _ s l0 rfl hown2.out a1 n1 c1 (L k) rfl hrk.out (by omega) hsz ?_; intro v3 w3 hown3 hb3; have hown3' := Go.Lib.hid hown3; have hb3' := Go.Lib.hid hb3; clear hown3 hb3)
          go_roundw
          case rel => exact ⟨k + 1, by omega, by go_num, hnx.out _ _ hown3'.out, hbw.trans hb3'.out⟩
          case measure => (simp [intOf] <;> omega)
        · obtain rfl : k = j := by omega
          rw [← hnh.out] at hown
          go_wp2
          go_ret
          exact ⟨_, rfl, hown, hbw⟩

theorem SEqual_ok (W : World) (a : Option Addr) (len cap : Nat) (l : List Int) (hr : Row .u8 W a len cap l) (a' : Option Addr) (len' cap' : Nat) (l' : List Int) (hr' : Row .u8 W a' len' cap' l') :
    Calls Try.prog 27 #[.slice a len cap, .slice a' len' cap'] W fun e W' => e = .returned (.bool (decide (l = l'))) ∧ Below W.heap.size W W' := by
  have hmx := Nat.le_trans hr.hcap hr.hmax
  have hmx' := Nat.le_trans hr'.hcap hr'.hmax
  unfold maxLen at hmx hmx'
  have hln := Go.Lib.hid hr.hlen
  have hln' := Go.Lib.hid hr'.hlen
  have hR := Go.Lib.hid hr
  have hR' := Go.Lib.hid hr'
  clear hr hr'
  by_cases hne : len = len'
  · subst hne
    go_enter Try.func27, Try.ntmps27
    go_wp2
    go_loopw [5, 13] (fun x i wr => ∃ k : Nat, k ≤ len ∧ i = .int .i64 k ∧ Hid (l.take k = l'.take k) ∧ Below W.heap.size W wr) (fun _ i _ => len - (intOf i).toNat)
    case atStart => exact ⟨0, by omega, rfl, Go.Lib.hid rfl, Below.refl _ _⟩
    case round =>
      obtain ⟨k, hk, rfl, hpre, hb⟩ := hrel
      by_cases hlt : k < len
      · obtain ⟨b, off, rfl, hbl, hc⟩ := (hR.out.below hb (Nat.le_refl _)).cells (by omega)
        obtain ⟨b', off', rfl, hbl', hc'⟩ := (hR'.out.below hb (Nat.le_refl _)).cells (by omega)
        have hcell := hc k hlt
        have hcell' := hc' k hlt
        obtain ⟨x, hx⟩ : ∃ x, x = l.getD k 0 := ⟨_, rfl⟩
        obtain ⟨y, hy⟩ : ∃ y, y = l'.getD k 0 := ⟨_, rfl⟩
        rw [← hx] at hcell
        rw [← hy] at hcell'
        have hX := Go.Lib.hid hx
        have hY := Go.Lib.hid hy
        clear hc hc' hx hy
        by_cases he : x = y
        · subst he
          have hnext := Go.Lib.hid (take_next hpre.out (by rw [hln.out]; exact hlt) (by rw [hln'.out]; exact hlt) (hX.out.symm.trans hY.out))
          go_wp2
          go_quiet (fail)
          go_wp2
          go_roundw
          case rel => exact ⟨k + 1, by omega, by go_num, hnext, Below.drewN hb _⟩
          case measure => (simp [intOf] <;> omega)
        · have hneq : Hid (l ≠ l') := Go.Lib.hid fun e => he (by rw [hX.out, hY.out, e])
          go_wp2
          go_quiet (fail)
          go_wp2
          go_ret
          exact ⟨ret_bool (decide_eq_false hneq.out).symm, Below.drewN hb _⟩
      · obtain rfl : k = len := by omega
        have heq : Hid (l = l') := Go.Lib.hid (by
          have := hpre.out
          rwa [List.take_of_length_le (by rw [hln.out]; exact Nat.le_refl _), List.take_of_length_le (by rw [hln'.out]; exact Nat.le_refl _)] at this)
        go_wp2
        go_ret
        exact ⟨ret_bool (decide_eq_true heq.out).symm, hb⟩
  · have hneq : Hid (l ≠ l') := Go.Lib.hid fun e => hne (by rw [← hln.out, ← hln'.out, e])
    go_enter Try.func27, Try.ntmps27
    go_wp2
    go_ret
    exact ⟨ret_bool (decide_eq_false hneq.out).symm, Below.refl _ _⟩

/-- Concat of two slices that were just laid side by side -/
theorem SConcat2_ok (w : World) (E : TypeId) (a1 : Option Addr) (n1 c1 : Nat) (l1 : List Int) (a2 : Option Addr) (n2 c2 : Nat) (l2 : List Int) (hr1 : Row .u8 w a1 n1 c1 l1) (hr2 : Row .u8 w a2 n2 c2 l2) (hs : n1 + n2 ≤ 1000000000) :
    Calls Try.prog 26 #[.slice (some ⟨w.heap.size, 0, none⟩) 2 2] (w.alloc (.cells #[.slice a1 n1 c1, .slice a2 n2 c2] E)) fun e W' => ∃ a c, e = .returned (.slice a (n1 + n2 : Nat) c) ∧ Row .u8 W' a (n1 + n2) c (l1 ++ l2) ∧ Below w.heap.size w W' := by
  have hb := below1 w (.cells #[.slice a1 n1 c1, .slice a2 n2 c2] E)
  have h := SConcat_ok (w.alloc (.cells #[.slice a1 n1 c1, .slice a2 n2 c2] E)) w.heap.size 0 2 2 (fun j => if j = 0 then a1 else a2) (fun j => if j = 0 then n1 else n2) (fun j => if j = 0 then c1 else c2) (fun j => if j = 0 then l1 else l2)
    (by
      intro j hj
      rcases (show j = 0 ∨ j = 1 by omega) with rfl | rfl
      · unfold World.cell?; rw [heap_alloc_new]; rfl
      · unfold World.cell?; rw [heap_alloc_new]; rfl)
    (by simp)
    (by
      intro j hj
      rcases (show j = 0 ∨ j = 1 by omega) with rfl | rfl
      · exact hr1.below hb (Nat.le_refl _)
      · exact hr2.below hb (Nat.le_refl _))
    (by omega) (by simp [sumN]; omega)
  have e1 : sumN (fun j => if j = 0 then n1 else n2) 2 = n1 + n2 := by simp [sumN]
  have e2 : catN (fun j => if j = 0 then l1 else l2) 2 = l1 ++ l2 := by simp [catN]
  rw [e1, e2] at h
  refine h.mono ?_
  rintro e W' ⟨v', rfl, ho, hb'⟩
  obtain ⟨a, c, rfl⟩ := own_form ho
  refine ⟨a, c, rfl, Row.of_own ho ?_, hb.trans (hb'.mono hb.size)⟩
  intro x hx
  rcases List.mem_append.1 hx with h | h
  · exact hr1.wf x h
  · exact hr2.wf x h
end Go.Proofs.Ythiaeldhelhjlaa
