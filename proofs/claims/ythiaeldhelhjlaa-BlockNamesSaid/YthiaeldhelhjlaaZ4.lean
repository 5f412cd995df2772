/- Texts of the proof, one behind the other: MyBitB, MyBitC, Byte, MyBitJ, ByteC, MyBitK, ByteN, MyBitN, MyBitG. -/
import Derived.Test.YthiaeldhelhjlaaZ3
import Derived.Laws.CopyOwn
import Derived.Laws.BitsAllLaws
/- Contracts of the package bits: Check. -/
namespace Go.Proofs.Ythiaeldhelhjlaa
open Go.RowKit Cad

theorem BCheck_neg (W : World) (a : Option Addr) (len cap : Nat) (N : Int) (h0 : N < 0) (_bN : -9223372036854775808 ≤ N) :
    Calls Try.prog 34 #[.agg #[.slice a len cap, .int .i64 N]] W fun e W' => e = .returned (.int .i64 8) ∧ Below W.heap.size W W' := by
  have hbel := ((Below.refl W.heap.size W).alloc (Nat.le_refl _) (.cells #[.slice a len cap, .int .i64 N] 29))
  go_enter Try.func34, Try.ntmps34
  go_wp2
  go_quiet (fail)
  all_goals go_wp2
  all_goals go_ret
  all_goals exact ⟨rfl, Below.drewN hbel _⟩

theorem BCheck_great (W : World) (a : Option Addr) (len cap : Nat) (N : Int) (h0 : ¬ N < 0) (h1 : N > 330000) (_bN : N ≤ 9223372036854775807) :
    Calls Try.prog 34 #[.agg #[.slice a len cap, .int .i64 N]] W fun e W' => e = .returned (.int .i64 8) ∧ Below W.heap.size W W' := by
  have hbel := ((Below.refl W.heap.size W).alloc (Nat.le_refl _) (.cells #[.slice a len cap, .int .i64 N] 29))
  have c0 : decide (N < 0) = false := decide_eq_false h0
  have c1 : (330000 : Int) < N := h1
  clear h0
  go_enter Try.func34, Try.ntmps34
  go_wp2
  go_quiet (fail)
  all_goals go_wp2
  all_goals go_ret
  all_goals exact ⟨rfl, Below.drewN hbel _⟩

theorem BCheck_len (W : World) (a : Option Addr) (len cap n : Nat) (h1 : (n : Int) ≤ 330000) (h2 : len ≠ (n + 7) / 8) (_hl : len ≤ 9223372036854775807) :
    Calls Try.prog 34 #[.agg #[.slice a len cap, .int .i64 n]] W fun e W' => e = .returned (.int .i64 8) ∧ Below W.heap.size W W' := by
  have hbel := ((Below.refl W.heap.size W).alloc (Nat.le_refl _) (.cells #[.slice a len cap, .int .i64 n] 29))
  have h3 : ¬ ((len : Int) = (((n + 7) / 8 : Nat) : Int)) := by omega
  have hsz := Go.Lib.hid (fun w => Bsize_ok w n (by omega))
  obtain ⟨m, hm⟩ : ∃ m, m = (n + 7) / 8 := ⟨_, rfl⟩
  rw [← hm] at h3 hsz
  clear h2 hm
  have c0 : decide ((n : Int) < 0) = false := decide_eq_false (by omega)
  have c1 : decide ((330000 : Int) < n) = false := decide_eq_false (by omega)
  go_enter Try.func34, Try.ntmps34
  go_wp2
  go_quiet ((go_at_call 40; refine (hsz.out _).mono ?_; rintro e w1 ⟨rfl, rfl⟩; exact ⟨rfl, _, rfl⟩))
  all_goals go_wp2
  all_goals go_ret
  all_goals exact ⟨rfl, Below.drewN hbel _⟩

theorem BCheck_in (W : World) (a : Option Addr) (len cap n : Nat) (s : Int) (_hs0 : 0 ≤ s ∧ s ≤ 255) (h1 : (n : Int) ≤ 330000) (h2 : len = (n + 7) / 8) (_hl : len ≤ 9223372036854775807)
    (hsp : Hid (∀ w, Below W.heap.size W w → Calls Try.prog 41 #[.agg #[.slice a len cap, .int .i64 n]] w fun e W' => e = .returned (.int .u8 s) ∧ Below w.heap.size w W')) :
    Calls Try.prog 34 #[.agg #[.slice a len cap, .int .i64 n]] W fun e W' => e = .returned (.int .i64 (if s = 0 then 0 else 8)) ∧ Below W.heap.size W W' := by
  have hbel := ((Below.refl W.heap.size W).alloc (Nat.le_refl _) (.cells #[.slice a len cap, .int .i64 n] 29)).drew
  have hbel' := Go.Lib.hid hbel
  have hsz := Go.Lib.hid (fun w => Bsize_ok w n (by omega))
  rw [← h2] at hsz
  clear h2 hbel
  have c0 : decide ((n : Int) < 0) = false := decide_eq_false (by omega)
  have c1 : decide ((330000 : Int) < n) = false := decide_eq_false (by omega)
  by_cases h4 : s = 0
  all_goals
    go_enter Try.func34, Try.ntmps34
    go_wp2
    refine wp_region_quiet_tail 18 (by kernel_rfl) (by kernel_rfl) ?_
    simp only [List.take_succ_cons, List.take_zero, List.drop_succ_cons, List.drop_zero]
    repeat (first
      | go_big_quiet_skip
      | (go_big_quiet_want; go_big_quiet_op; first | go_big_quiet_on | (apply Exists.intro; refine ⟨?_, ?_⟩; (focus (go_at_call 40; refine (hsz.out _).mono ?_; rintro e w1 ⟨rfl, rfl⟩; exact ⟨rfl, rfl⟩)); go_big_quiet_on)))
    refine wpQuiet_nil ?_
    go_wp2_with (go_at_call 41; refine (hsp.out _ hbel'.out).mono ?_; rintro e w1 ⟨rfl, hb1⟩)
    go_ret
    exact ⟨ret_int (by simp ), hbel'.out.trans (hb1.mono (by simp))⟩

theorem BCheck_any (W : World) (a : Option Addr) (len cap : Nat) (N : Int) (l : List Int) (hr : Row .u8 W a len cap l) (hN : (Lit.int .i64 N).wf = true) (r : Int) (hr0 : chk l N r) :
    Calls Try.prog 34 #[.agg #[.slice a len cap, .int .i64 N]] W fun e W' => e = .returned (.int .i64 r) ∧ Below W.heap.size W W' := by
  have hmax := hr.hmax
  have hcap := hr.hcap
  have hlen := hr.hlen
  have bN := bounds_i64 hN
  unfold maxLen at hmax
  by_cases h0 : N < 0
  · obtain rfl := hr0.no fun h => by have := h.n; omega
    exact BCheck_neg W a len cap N h0 bN.1
  by_cases h1 : N > 330000
  · obtain rfl := hr0.no fun h => by have := h.n; omega
    exact BCheck_great W a len cap N h0 h1 bN.2
  obtain ⟨n, rfl⟩ : ∃ n : Nat, N = n := ⟨N.toNat, by omega⟩
  by_cases h2 : len = (n + 7) / 8
  · have key : Valid l n ↔ spareV l n = 0 := by
      rw [spare_iff (u8_bd hr.wf) (by omega) (by omega)]
      unfold spareV
      split <;> simp_all
    have hr1 : r = if spareV l n = 0 then 0 else 8 := by
      by_cases hv : spareV l n = 0
      · rw [if_pos hv]; exact hr0.yes (key.2 hv)
      · rw [if_neg hv]; exact hr0.no fun h => hv (key.1 h)
    have hb := getD_bd (u8_bd hr.wf) (l.length - 1)
    have hsb : 0 ≤ spareV l n ∧ spareV l n ≤ 255 := by
      unfold spareV
      split
      · exact ⟨by decide, by decide⟩
      · exact ⟨Int.ediv_nonneg hb.1 (Int.pow_nonneg (by decide)), Int.le_trans (Int.ediv_le_self _ hb.1) hb.2⟩
    rw [hr1]
    exact BCheck_in W a len cap n _ hsb (by omega) h2 (by omega) (Go.Lib.hid fun w hw => Bspare_ok w a len cap n l (hr.below hw (Nat.le_refl _)) (by omega) h2)
  · obtain rfl := hr0.no fun h => by have := h.n; omega
    exact BCheck_len W a len cap n (by omega) h2 (by omega)
end Go.Proofs.Ythiaeldhelhjlaa

/- Contracts of the package bits: copies, bits of bytes, aligned bits. -/
namespace Go.Proofs.Ythiaeldhelhjlaa
open Go.RowKit Cad

theorem Bcopied_ok (W : World) (a : Option Addr) (len cap : Nat) (l : List Int) (hr : Row .u8 W a len cap l) (hlen : len ≤ 1000000000) :
    Calls Try.prog 28 #[.slice a len cap] W fun e W' => ∃ v', e = .returned v' ∧
      W'.ownsRow W.heap.size 5 1 v' len (nums .u8 l) ∧ Below W.heap.size W W' := by
  have hr' := Go.Lib.hid hr
  clear hr
  go_enter Try.func28, Try.ntmps28
  go_wp2_with (first
    | (refine law_make elU8 _ rfl _ _ rfl .i64 .i64 _ _ len rfl rfl (by omega) (by omega) (by omega) ?_; intro w1 hown1 hb1 hs1; have hr1 := (hr'.out.below hb1 (Nat.le_refl _)); have hown1' := Go.Lib.hid hown1; have hb1' := Go.Lib.hid hb1; clear hown1 hb1)
    | (with_reducible show wpList _ _ _ _ _ _; refine law_copyRow elU8 _ rfl _ _ _ rfl W.heap.size W.heap.size len len (List.replicate len 0) rfl hown1'.out a len cap l rfl hr1 (Nat.le_refl _) ?_; intro w2 hown2 hb2; have hown2' := Go.Lib.hid hown2; have hb2' := Go.Lib.hid hb2; clear hown2 hb2))
  go_ret
  refine ⟨_, rfl, by simpa using hown2'.out, hb1'.out.trans hb2'.out⟩

theorem BOf_many (W : World) (a : Option Addr) (len cap : Nat) (h : (41250 : Int) < len) (_hl : len ≤ 9223372036854775807) :
    Calls Try.prog 13 #[.slice a len cap] W fun e W' => e = .returned (.tuple #[.agg #[.slice none 0 0, .int .i64 0], .int .i64 4]) ∧ Below W.heap.size W W' := by
  go_enter Try.func13, Try.ntmps13
  go_wp2
  go_returns
  exact ⟨rfl, (Below.refl _ _).alloc (Nat.le_refl _) _⟩

theorem BOf_ok (W : World) (a : Option Addr) (len cap : Nat) (l : List Int) (hr : Row .u8 W a len cap l) (h : (len : Int) ≤ 41250) :
    Calls Try.prog 13 #[.slice a len cap] W fun e W' => ∃ v', e = .returned (.tuple #[.agg #[v', .int .i64 (8 * (len : Int))], .int .i64 0]) ∧
      W'.ownsRow W.heap.size 5 1 v' len (nums .u8 l) ∧ Below W.heap.size W W' := by
  have hbE := ((Below.refl W.heap.size W).alloc (Nat.le_refl _) (.cells #[.slice none 0 0, .int .i64 0] 29))
  have hcp := Go.Lib.hid (Bcopied_ok _ a len cap l (hr.below hbE (Nat.le_refl _)) (by omega))
  have hy0 : BoxAt (W.alloc (.cells #[.slice none 0 0, .int .i64 0] 29)) W.heap.size (.slice none 0 0) 0 := by
    unfold BoxAt; rw [heap_alloc_new]
  have hbE' := Go.Lib.hid hbE
  have hy0' := Go.Lib.hid hy0
  clear hr hbE hy0
  go_enter Try.func13, Try.ntmps13
  go_wp2_with (go_at_call 28; refine hcp.out.mono ?_; rintro e w1 ⟨v1, rfl, hown1, hb1⟩; obtain ⟨a1, c1, rfl⟩ := own_form hown1; obtain ⟨d0, d1, g0, g1⟩ := (hy0'.out.below hb1 (by simp)).cells; have hb1' := Go.Lib.hid hb1; have ho1' := Go.Lib.hid hown1; clear hb1 hown1)
  (try simp only [Exit.inBlock, Exit.then])
  have hy1 := hy0'.out.below hb1'.out (by simp)
  have ap := hy1.apart ho1'.out
  refine bodyPost_ret (results_box_tmp (by rfl) _ _ W.heap.size _ _ rfl (hy1.set _ _)) rfl ?_
  refine ⟨.slice a1 len c1, by simp [Int.mul_comm], own_set (own_set (own_base ho1'.out (by simp)) ap _ _) ap _ _, ?_⟩
  exact ((hbE'.out.trans (hb1'.out.mono (by simp))).setCell (Nat.le_refl _) _).setCell (Nat.le_refl _) _

theorem BAlign_bad (W : World) (a : Option Addr) (len cap : Nat) (N : Int) (l : List Int) (hr : Row .u8 W a len cap l) (hN : (Lit.int .i64 N).wf = true) (hv : ¬ Valid l N) :
    Calls Try.prog 23 #[.agg #[.slice a len cap, .int .i64 N]] W fun e W' => e = .returned (.tuple #[.agg #[.slice none 0 0, .int .i64 0], .int .i64 8]) ∧ Below W.heap.size W W' := by
  have hbE := ((Below.refl W.heap.size W).alloc (Nat.le_refl _) (.cells #[.slice a len cap, .int .i64 N] 29)).alloc (by simp) (.cells #[.slice none 0 0, .int .i64 0] 29)
  have hrE := hr.below hbE (Nat.le_refl _)
  have hy0 : BoxAt ((W.alloc (.cells #[.slice a len cap, .int .i64 N] 29)).alloc (.cells #[.slice none 0 0, .int .i64 0] 29)) (W.heap.size + 1) (.slice none 0 0) 0 := by
    unfold BoxAt; rw [heap_alloc2_new]
  have hck := Go.Lib.hid (BCheck_any _ a len cap N l hrE hN 8 (.inr ⟨hv, rfl⟩))
  have hy0' := Go.Lib.hid hy0
  have hbE' := Go.Lib.hid hbE
  clear hr hrE hy0 hbE hN
  go_enter Try.func23, Try.ntmps23
  go_wp2_with (go_at_call 34; refine hck.out.mono ?_; rintro e w1 ⟨rfl, hb1⟩; simp only [World.size_alloc] at hb1; obtain ⟨e0, e1, f0, f1⟩ := (hy0'.out.below hb1 (by omega)).cells; have hb1' := Go.Lib.hid hb1; clear hb1)
  (try simp only [Exit.inBlock, Exit.then])
  refine bodyPost_ret (results_box_tmp (by rfl) _ _ (W.heap.size + 1) _ _ rfl ((hy0'.out.below hb1'.out (by omega)).set _ _)) rfl ?_
  exact ⟨rfl, ((hbE'.out.trans (hb1'.out.mono (by omega))).setCell (by simp) _).setCell (by simp) _⟩

theorem BAlign_ok (W : World) (a : Option Addr) (len cap : Nat) (N : Int) (l : List Int) (hr : Row .u8 W a len cap l) (hN : (Lit.int .i64 N).wf = true) (hv : Valid l N) :
    Calls Try.prog 23 #[.agg #[.slice a len cap, .int .i64 N]] W fun e W' => ∃ v', e = .returned (.tuple #[.agg #[v', .int .i64 (8 * (len : Int))], .int .i64 0]) ∧
      W'.ownsRow W.heap.size 5 1 v' len (nums .u8 l) ∧ Below W.heap.size W W' := by
  have hlen : len ≤ 1000000000 := by have := hv.n; have := hr.hlen; omega
  have hbE := ((Below.refl W.heap.size W).alloc (Nat.le_refl _) (.cells #[.slice a len cap, .int .i64 N] 29)).alloc (by simp) (.cells #[.slice none 0 0, .int .i64 0] 29)
  have hrE := hr.below hbE (Nat.le_refl _)
  have hx0 : BoxAt ((W.alloc (.cells #[.slice a len cap, .int .i64 N] 29)).alloc (.cells #[.slice none 0 0, .int .i64 0] 29)) W.heap.size (.slice a len cap) N := by
    unfold BoxAt; rw [Below.heap_alloc _ _ _ (by simp), heap_alloc_new]
  have hy0 : BoxAt ((W.alloc (.cells #[.slice a len cap, .int .i64 N] 29)).alloc (.cells #[.slice none 0 0, .int .i64 0] 29)) (W.heap.size + 1) (.slice none 0 0) 0 := by
    unfold BoxAt; rw [heap_alloc2_new]
  have hck := Go.Lib.hid (BCheck_any _ a len cap N l hrE hN 0 (.inl ⟨hv, rfl⟩))
  have hcp : Hid (∀ w, Below ((W.alloc (.cells #[.slice a len cap, .int .i64 N] 29)).alloc (.cells #[.slice none 0 0, .int .i64 0] 29)).heap.size ((W.alloc (.cells #[.slice a len cap, .int .i64 N] 29)).alloc (.cells #[.slice none 0 0, .int .i64 0] 29)) w → Calls Try.prog 28 #[.slice a len cap] w fun e W' => ∃ v', e = .returned v' ∧
      W'.ownsRow w.heap.size 5 1 v' len (nums .u8 l) ∧ Below w.heap.size w W') := Go.Lib.hid fun w hw => Bcopied_ok w a len cap l (hrE.below hw (Nat.le_refl _)) hlen
  have hx0' := Go.Lib.hid hx0
  have hy0' := Go.Lib.hid hy0
  have hbE' := Go.Lib.hid hbE
  clear hr hrE hy0 hbE hN hx0
  go_enter Try.func23, Try.ntmps23
  go_wp2_with (go_at_call 34; refine hck.out.mono ?_; rintro e w1 ⟨rfl, hb1⟩; obtain ⟨c0, c1, c2, c3⟩ := (hx0'.out.below hb1 (by simp; omega)).cells; have hb1' := Go.Lib.hid hb1; clear hb1)
  go_region_held3 (fun w' => w'.cell? ⟨W.heap.size, 0, none⟩ = some (.slice a len cap) ∧ w'.cell? ⟨W.heap.size, 1, none⟩ = some (.int .i64 N))
    (first
      | go_keep
      | (go_split_ands
         refine ⟨?_, ?_⟩
         · exact ((hx0'.out.below hb12 (by simp; omega)).cells).1
         · exact ((hx0'.out.below hb12 (by simp; omega)).cells).2.1))
    ((go_loud (go_at_call 28; refine (hcp.out _ hb1'.out.drew).mono ?_; rintro e w2 ⟨v2, rfl, hown2, hb2⟩; obtain ⟨a2, c2, rfl⟩ := own_form hown2; have hb12 := hb1'.out.drew.trans (hb2.mono hb1'.out.drew.size); obtain ⟨e0, e1, f0, f1⟩ := (hy0'.out.below hb12 (by simp)).cells)))
  all_goals go_wp2
  all_goals
    (try simp only [Exit.inBlock, Exit.then])
    have hy2 := hy0'.out.below hb12 (by simp)
    have ap := hy2.apart hown2
    have hs := hb1'.out.size
    simp only [World.size_alloc] at hs
    refine bodyPost_ret (results_box_tmp (by rfl) _ _ (W.heap.size + 1) _ _ rfl (hy2.set _ _)) rfl ?_
    have hwr : IntKind.i64.wrap ((len : Int) * 8) = 8 * (len : Int) := by rw [IntWalk.i64_in _ (by omega)]; omega
    refine ⟨.slice a2 len c2, by simp [hwr], own_set (own_set (own_base hown2 (by show W.heap.size ≤ w1.heap.size; omega)) ap _ _) ap _ _, ?_⟩
    exact ((hbE'.out.trans (hb12.mono (by simp only [World.size_alloc]; omega))).setCell (by simp) _).setCell (by simp) _
end Go.Proofs.Ythiaeldhelhjlaa

/- Bytes changed bit by bit: joining, cutting, clearing. No Go function in sight. -/
namespace Cad

theorem bit_tb (l : List Int) (i : Nat) : bit l i = (l.getD (i / 8) 0).toNat.testBit (i % 8) := by
  unfold bit
  rw [Nat.testBit_eq_decide_div_mod_eq]
  rfl
/-- bytes whose bits are C, and zeros -/
def IsB (l : List Int) (L : Nat) (C : List Bool) : Prop := l.length = L ∧ (∀ x ∈ l, 0 ≤ x ∧ x ≤ 255) ∧ ∀ i, bit l i = C.getD i false
theorem IsB.byte {l : List Int} {L : Nat} {C : List Bool} (h : IsB l L C) (p : Nat) : ∃ d : Nat, l.getD p 0 = d ∧ d < 256 := by
  have := Go.Proofs.Ythiaeldhelhjlaa.getD_bd h.2.1 p
  exact ⟨(l.getD p 0).toNat, by omega, by omega⟩
theorem mem_set_bd {l : List Int} (h : ∀ x ∈ l, 0 ≤ x ∧ x ≤ 255) (p : Nat) {v : Int} (hv : 0 ≤ v ∧ v ≤ 255) : ∀ x ∈ l.set p v, 0 ≤ x ∧ x ≤ 255 := by
  intro x hx
  rcases List.mem_or_eq_of_mem_set hx with h' | rfl
  · exact h x h'
  · exact hv
theorem getD_set (l : List Int) (p j : Nat) (v : Int) (hp : p < l.length) : (l.set p v).getD j 0 = if j = p then v else l.getD j 0 := by
  simp only [List.getD, List.getElem?_set]
  by_cases h : p = j
  · subst h; simp [hp]
  · simp [h, Ne.symm h]
theorem bit_or (l : List Int) (p d x i : Nat) (hp : p < l.length) (hd : l.getD p 0 = d) : bit (l.set p ((d ||| x : Nat) : Int)) i = (bit l i || (decide (i / 8 = p) && x.testBit (i % 8))) := by
  rw [bit_tb, bit_tb, getD_set _ _ _ _ hp]
  by_cases h : i / 8 = p
  · subst h
    rw [if_pos rfl, hd]
    simp [Nat.testBit_or]
  · simp [h]
theorem or_lt256 {a b : Nat} (ha : a < 256) (hb : b < 256) : a ||| b < 256 := Nat.or_lt_two_pow (n := 8) ha hb

theorem isB_start (A : List Bool) {L : Nat} (h : (A.length + 7) / 8 ≤ L) : IsB (pack A ++ List.drop ((A.length + 7) / 8) (List.replicate L 0)) L A := by
  refine ⟨by simp [pack_len]; omega, ?_, fun i => ?_⟩
  · intro x hx
    rcases List.mem_append.1 hx with h' | h'
    · exact pack_wf A x h'
    · have := List.eq_of_mem_replicate (List.mem_of_mem_drop h')
      omega
  · rw [← bit_pack A i]
    have e : (pack A ++ List.drop ((A.length + 7) / 8) (List.replicate L 0)).getD (i / 8) 0 = (pack A).getD (i / 8) 0 := ?_
    · unfold bit; rw [e]
    by_cases hi : i / 8 < (A.length + 7) / 8
    · simp [List.getD, List.getElem?_append_left, pack_len, hi]
    · rw [getD_ge (pack A) _ (by rw [pack_len]; omega)]
      simp only [List.getD]
      rw [List.getElem?_append_right (by rw [pack_len]; omega)]
      simp [List.drop_replicate, List.getElem?_replicate]
      split <;> rfl

theorem byteN_tb (B : List Bool) (k t : Nat) : (byteN B k).testBit t = (decide (t < 8) && B.getD (8 * k + t) false) := by
  rw [Nat.testBit_eq_decide_div_mod_eq]
  by_cases h : t < 8
  · have := byteN_bit B k t h
    rw [← this]
    by_cases h' : byteN B k / 2 ^ t % 2 = 1 <;> simp [h, h']
  · have hz : byteN B k / 2 ^ t = 0 := Nat.div_eq_of_lt (Nat.lt_of_lt_of_le (byteN_lt B k) (Nat.pow_le_pow_right (n := 2) (by decide) (show 8 ≤ t by omega)))
    simp [h, hz]
theorem shl_tb (c s u : Nat) : (c * 2 ^ s).testBit u = (decide (s ≤ u) && c.testBit (u - s)) := by
  rw [← Nat.shiftLeft_eq, Nat.testBit_shiftLeft]

theorem getD_take (B : List Bool) (n i : Nat) : (B.take n).getD i false = (decide (i < n) && B.getD i false) := by
  by_cases h : i < n
  · simp [List.getD, h]
  · simp [List.getD, List.getElem?_take, h]
theorem getD_app (A B : List Bool) (i : Nat) : (A ++ B).getD i false = if i < A.length then A.getD i false else B.getD (i - A.length) false := by
  by_cases h : i < A.length
  · simp [List.getD, List.getElem?_append_left, h]
  · rw [if_neg h]
    simp only [List.getD]
    rw [List.getElem?_append_right (by omega)]
theorem getD_drop (B : List Bool) (n i : Nat) : (B.drop n).getD i false = B.getD (n + i) false := by simp [List.getD]

/-- one byte more is joined -/
theorem join_step {l : List Int} {L f s k d e : Nat} {A B : List Bool} (h : IsB l L (A ++ B.take (8 * k))) (hA : A.length = 8 * f + s) (hs : s < 8) (hL : f + k + 1 < L)
    (hd : l.getD (f + k) 0 = d) (hd8 : d < 256) (he : l.getD (f + k + 1) 0 = e) (he8 : e < 256) :
    IsB ((l.set (f + k) ((d ||| (byteN B k * 2 ^ s % 256) : Nat) : Int)).set (f + k + 1) ((e ||| (byteN B k * 2 ^ s / 256) : Nat) : Int)) L (A ++ B.take (8 * (k + 1))) := by
  obtain ⟨h1, h2, h3⟩ := h
  have hc := byteN_lt B k
  have hx : byteN B k * 2 ^ s < 65536 := by
    have : 2 ^ s ≤ 128 := by
      rcases lt8 hs with h | h | h | h | h | h | h | h <;> rw [h] <;> decide
    calc byteN B k * 2 ^ s ≤ 255 * 128 := Nat.mul_le_mul (by omega) this
      _ < 65536 := by decide
  obtain ⟨x, hxx⟩ : ∃ x, x = byteN B k * 2 ^ s := ⟨_, rfl⟩
  have htb : ∀ u, x.testBit u = (decide (s ≤ u) && (decide (u - s < 8) && B.getD (8 * k + (u - s)) false)) := fun u => by rw [hxx, shl_tb, byteN_tb]
  rw [← hxx] at hx ⊢
  have hlo : x % 256 < 256 := Nat.mod_lt _ (by decide)
  have hhi : x / 256 < 256 := by omega
  have hlot : ∀ t, (x % 256).testBit t = (decide (t < 8) && x.testBit t) := fun t => Nat.testBit_mod_two_pow x 8 t
  have hhit : ∀ t, (x / 256).testBit t = x.testBit (8 + t) := fun t => by rw [show (256 : Nat) = 2 ^ 8 by decide, Nat.testBit_div_two_pow, Nat.add_comm]
  have b1 := or_lt256 hd8 hlo
  have b2 := or_lt256 he8 hhi
  refine ⟨by simp [h1], mem_set_bd (mem_set_bd h2 _ ⟨by omega, by omega⟩) _ ⟨by omega, by omega⟩, fun i => ?_⟩
  have he' : (l.set (f + k) ((d ||| x % 256 : Nat) : Int)).getD (f + k + 1) 0 = e := by
    rw [getD_set _ _ _ _ (by omega), if_neg (by omega), he]
  rw [bit_or _ _ _ _ _ (by simp; omega) he', bit_or _ _ _ _ _ (by omega) hd, h3, hlot, hhit, htb, htb, getD_app, getD_app, getD_take, getD_take]
  by_cases hi : i < A.length
  · rw [if_pos hi, if_pos hi]
    have q1 : (decide (i / 8 = f + k) && (decide (i % 8 < 8) && (decide (s ≤ i % 8) && (decide (i % 8 - s < 8) && B.getD (8 * k + (i % 8 - s)) false)))) = false := by
      by_cases g : i / 8 = f + k ∧ s ≤ i % 8
      · omega
      · by_cases g1 : i / 8 = f + k
        · have : ¬ s ≤ i % 8 := fun g2 => g ⟨g1, g2⟩
          simp [this]
        · simp [g1]
    have q2 : decide (i / 8 = f + k + 1) = false := decide_eq_false (by omega)
    rw [q1, q2]; simp
  · rw [if_neg hi, if_neg hi]
    obtain ⟨j, hj⟩ : ∃ j, i = A.length + j := ⟨i - A.length, by omega⟩
    rw [show i - A.length = j by omega]
    by_cases g0 : j < 8 * k
    · have q1 : decide (j < 8 * k) = true := decide_eq_true g0
      have q2 : decide (j < 8 * (k + 1)) = true := decide_eq_true (by omega)
      rw [q1, q2]
      by_cases g1 : i / 8 = f + k
      · have : ¬ (s ≤ i % 8) := by omega
        have q3 : decide (i / 8 = f + k + 1) = false := decide_eq_false (by omega)
        rw [q3]; simp [this]
      · have q3 : decide (i / 8 = f + k + 1) = false := decide_eq_false (by omega)
        rw [q3]; simp [g1]
    · have q1 : decide (j < 8 * k) = false := decide_eq_false g0
      rw [q1]
      by_cases g1 : i / 8 = f + k
      · have q2 : decide (i / 8 = f + k + 1) = false := decide_eq_false (by omega)
        have q3 : decide (i / 8 = f + k) = true := decide_eq_true g1
        have q4 : decide (i % 8 < 8) = true := decide_eq_true (by omega)
        have q5 : decide (s ≤ i % 8) = true := decide_eq_true (by omega)
        have q6 : decide (i % 8 - s < 8) = true := decide_eq_true (by omega)
        have q7 : decide (j < 8 * (k + 1)) = true := decide_eq_true (by omega)
        rw [q2, q3, q4, q5, q6, q7, show 8 * k + (i % 8 - s) = j by omega]; simp
      · have q3 : decide (i / 8 = f + k) = false := decide_eq_false g1
        rw [q3]
        by_cases g2 : i / 8 = f + k + 1
        · have q2 : decide (i / 8 = f + k + 1) = true := decide_eq_true g2
          have q5 : decide (s ≤ 8 + i % 8) = true := decide_eq_true (by omega)
          rw [q2, q5, show 8 * k + (8 + i % 8 - s) = j by omega]
          by_cases g3 : 8 + i % 8 - s < 8
          · have q7 : decide (j < 8 * (k + 1)) = true := decide_eq_true (by omega)
            rw [q7]; simp [g3]
          · have q7 : decide (j < 8 * (k + 1)) = false := decide_eq_false (by omega)
            rw [q7]; simp [g3]
        · have q2 : decide (i / 8 = f + k + 1) = false := decide_eq_false g2
          have q7 : decide (j < 8 * (k + 1)) = false := decide_eq_false (by omega)
          rw [q2, q7]; simp

/-- the bytes that bits have, of more bytes -/
theorem isB_take {l : List Int} {L : Nat} {C D : List Bool} (h : IsB l L C) (hc : ∀ i, C.getD i false = D.getD i false) (hL : (D.length + 7) / 8 ≤ L) : l.take ((D.length + 7) / 8) = pack D := by
  obtain ⟨h1, h2, h3⟩ := h
  refine bits_ext (fun n hn => h2 n (List.mem_of_mem_take hn)) (pack_wf D) (by simp [pack_len]; omega) fun i hi => ?_
  rw [bit_pack, ← hc, ← h3]
  simp at hi
  have e : (l.take ((D.length + 7) / 8)).getD (i / 8) 0 = l.getD (i / 8) 0 := by
    simp only [List.getD, List.getElem?_take]
    rw [if_pos (by omega)]
  unfold bit
  rw [e]
end Cad

/- Contracts of the package bits: join. -/
namespace Go.Proofs.Ythiaeldhelhjlaa
open Go.RowKit Cad

end Go.Proofs.Ythiaeldhelhjlaa

/- Bytes changed bit by bit: cutting and clearing. No Go function in sight. -/
namespace Cad

theorem byteN_ge (B : List Bool) {j : Nat} (h : B.length ≤ 8 * j) : byteN B j = 0 := by
  apply Nat.eq_of_testBit_eq
  intro t
  rw [byteN_tb, getD_ge B _ (by omega)]; simp
theorem pack_getD_any (B : List Bool) (j : Nat) : (pack B).getD j 0 = byteN B j := by
  by_cases h : j < (B.length + 7) / 8
  · exact pack_getD B j h
  · rw [getD_ge _ _ (by rw [pack_len]; omega), byteN_ge B (by omega)]; rfl

theorem bit_put (l : List Int) (p x i : Nat) (hp : p < l.length) : bit (l.set p (x : Int)) i = if i / 8 = p then x.testBit (i % 8) else bit l i := by
  rw [bit_tb, bit_tb, getD_set _ _ _ _ hp]
  by_cases h : i / 8 = p
  · rw [if_pos h, if_pos h]; simp
  · rw [if_neg h, if_neg h]

theorem isB_zero (L : Nat) : IsB (List.replicate L 0) L [] := by
  refine ⟨by simp, fun x hx => by have := List.eq_of_mem_replicate hx; omega, fun i => ?_⟩
  unfold bit
  have : (List.replicate L (0 : Int)).getD (i / 8) 0 = 0 := by
    simp only [List.getD, List.getElem?_replicate]
    split <;> rfl
  rw [this]; simp

/-- the number of two bytes, shifted -/
def mid16 (B : List Bool) (j s : Nat) : Nat := (byteN B j ||| byteN B (j + 1) * 256) / 2 ^ s % 256
theorem mid16_tb (B : List Bool) (j s t : Nat) (hs : s < 8) (ht : t < 8) : (mid16 B j s).testBit t = B.getD (8 * j + s + t) false := by
  unfold mid16
  rw [show (256 : Nat) = 2 ^ 8 by decide, Nat.testBit_mod_two_pow, Nat.testBit_div_two_pow, Nat.testBit_or, shl_tb, byteN_tb, byteN_tb]
  have q0 : decide (t < 8) = true := decide_eq_true ht
  rw [q0]
  by_cases h : t + s < 8
  · have q1 : decide (t + s < 8) = true := decide_eq_true h
    have q2 : decide (8 ≤ t + s) = false := decide_eq_false (by omega)
    rw [q1, q2, show 8 * j + (t + s) = 8 * j + s + t by omega]; simp
  · have q1 : decide (t + s < 8) = false := decide_eq_false h
    have q2 : decide (8 ≤ t + s) = true := decide_eq_true (by omega)
    have q3 : decide (t + s - 8 < 8) = true := decide_eq_true (by omega)
    rw [q1, q2, q3, show 8 * (j + 1) + (t + s - 8) = 8 * j + s + t by omega]; simp

theorem cut_step {l : List Int} {L f s k i0 : Nat} {B : List Bool} (h : IsB l L ((B.drop i0).take (8 * k))) (hA : i0 = 8 * f + s) (hs : s < 8) (hL : k < L) :
    IsB (l.set k ((mid16 B (f + k) s : Nat) : Int)) L ((B.drop i0).take (8 * (k + 1))) := by
  obtain ⟨h1, h2, h3⟩ := h
  have hm : mid16 B (f + k) s < 256 := Nat.mod_lt _ (by decide)
  refine ⟨by simp [h1], mem_set_bd h2 _ ⟨by omega, by omega⟩, fun i => ?_⟩
  rw [bit_put _ _ _ _ (by omega), h3, getD_take, getD_take, getD_drop]
  by_cases g : i / 8 = k
  · rw [if_pos g, mid16_tb _ _ _ _ hs (by omega), decide_eq_true (show i < 8 * (k + 1) by omega), show 8 * (f + k) + s + i % 8 = i0 + i by omega]; simp
  · rw [if_neg g]
    by_cases g1 : i < 8 * k
    · rw [decide_eq_true g1, decide_eq_true (show i < 8 * (k + 1) by omega)]
    · rw [decide_eq_false g1, decide_eq_false (show ¬ i < 8 * (k + 1) by omega)]

theorem IsB.out {l : List Int} {L : Nat} {C : List Bool} (h : IsB l L C) {i : Nat} (hi : 8 * L ≤ i) : C.getD i false = false := by
  rw [← h.2.2 i, bit_tb, getD_ge _ _ (by have := h.1; omega)]; simp
theorem clear_none {l : List Int} {L n : Nat} {C : List Bool} (h : IsB l L C) (hL : L = (n + 7) / 8) (h8 : n % 8 = 0) : IsB l L (C.take n) := by
  refine ⟨h.1, h.2.1, fun i => ?_⟩
  rw [h.2.2, getD_take]
  by_cases g : i < n
  · simp [g]
  · rw [h.out (by omega)]; simp
theorem clear_step {l : List Int} {L n d : Nat} {C : List Bool} (h : IsB l L C) (hL : L = (n + 7) / 8) (h8 : n % 8 ≠ 0) (hd : l.getD (L - 1) 0 = d) (hd8 : d < 256) :
    IsB (l.set (L - 1) ((d &&& (2 ^ (n % 8) - 1) : Nat) : Int)) L (C.take n) := by
  have hle : d &&& (2 ^ (n % 8) - 1) ≤ d := Nat.and_le_left
  refine ⟨by simp [h.1], mem_set_bd h.2.1 _ ⟨by omega, by omega⟩, fun i => ?_⟩
  have hd' : ∀ t, d.testBit t = ((l.getD (L - 1) 0).toNat).testBit t := fun t => by rw [hd]; rfl
  rw [bit_put _ _ _ _ (by have := h.1; omega), h.2.2, getD_take]
  by_cases g : i / 8 = L - 1
  · rw [if_pos g, Nat.testBit_and, Nat.testBit_two_pow_sub_one, hd', ← g, ← bit_tb, h.2.2]
    by_cases g1 : i < n
    · rw [decide_eq_true g1, decide_eq_true (show i % 8 < n % 8 by omega)]; simp
    · rw [decide_eq_false g1, decide_eq_false (show ¬ i % 8 < n % 8 by omega)]; simp
  · rw [if_neg g]
    by_cases g1 : i < n
    · rw [decide_eq_true g1]; simp
    · rw [decide_eq_false g1, h.out (by omega)]; simp
end Cad

/- Contracts of the package bits: spare bits cleared; a byte or nothing; cut. -/
namespace Go.Proofs.Ythiaeldhelhjlaa
open Go.RowKit Cad

end Go.Proofs.Ythiaeldhelhjlaa

/- Numbers as bits, byte by byte. No Go function in sight. -/
namespace Cad

theorem natB_tb : ∀ (B : List Bool) (i : Nat), (natB B).testBit i = B.getD i false
  | [], i => by simp [natB]
  | b :: B, 0 => by
    cases b <;> simp [natB, Nat.testBit_zero] <;> omega
  | b :: B, i + 1 => by
    rw [Nat.testBit_succ, natB]
    rw [show (b.toNat + 2 * natB B) / 2 = natB B by have := Bool.toNat_le b; omega, natB_tb B i]
    simp [List.getD]
theorem numB_tb {v n : Nat} (hv : v < 2 ^ n) (i : Nat) : (numB v n).getD i false = v.testBit i := by
  rw [← natB_tb, natB_numB, Nat.mod_eq_of_lt hv]

theorem num_step {l : List Int} {L v n k : Nat} (h : IsB l L ((numB v n).take (8 * k))) (hv : v < 2 ^ n) (hL : k < L) :
    IsB (l.set k ((v / 2 ^ (8 * k) % 256 : Nat) : Int)) L ((numB v n).take (8 * (k + 1))) := by
  obtain ⟨h1, h2, h3⟩ := h
  have hm : v / 2 ^ (8 * k) % 256 < 256 := Nat.mod_lt _ (by decide)
  refine ⟨by simp [h1], mem_set_bd h2 _ ⟨by omega, by omega⟩, fun i => ?_⟩
  rw [bit_put _ _ _ _ (by omega), h3, getD_take, getD_take, numB_tb hv]
  by_cases g : i / 8 = k
  · rw [if_pos g, show (256 : Nat) = 2 ^ 8 by decide, Nat.testBit_mod_two_pow, Nat.testBit_div_two_pow, decide_eq_true (show i % 8 < 8 by omega), decide_eq_true (show i < 8 * (k + 1) by omega), show i % 8 + 8 * k = i by omega]
  · rw [if_neg g]
    by_cases g1 : i < 8 * k
    · rw [decide_eq_true g1, decide_eq_true (show i < 8 * (k + 1) by omega)]
    · rw [decide_eq_false g1, decide_eq_false (show ¬ i < 8 * (k + 1) by omega)]

theorem nat_step (B : List Bool) (k : Nat) : natB (B.take (8 * (k + 1))) = natB (B.take (8 * k)) ||| byteN B k * 2 ^ (8 * k) := by
  apply Nat.eq_of_testBit_eq
  intro i
  rw [Nat.testBit_or, natB_tb, natB_tb, shl_tb, byteN_tb, getD_take, getD_take]
  by_cases g1 : i < 8 * k
  · rw [decide_eq_true g1, decide_eq_true (show i < 8 * (k + 1) by omega), decide_eq_false (show ¬ 8 * k ≤ i by omega)]; simp
  · rw [decide_eq_false g1, decide_eq_true (show 8 * k ≤ i by omega), show 8 * k + (i - 8 * k) = i by omega]
    by_cases g2 : i < 8 * (k + 1)
    · rw [decide_eq_true g2, decide_eq_true (show i - 8 * k < 8 by omega)]; simp
    · rw [decide_eq_false g2, decide_eq_false (show ¬ i - 8 * k < 8 by omega)]; simp
end Cad

/- Contracts of the package bits: numbers. -/
namespace Go.Proofs.Ythiaeldhelhjlaa
open Go.RowKit Cad

end Go.Proofs.Ythiaeldhelhjlaa

/- Contracts of the package bits: Get and Put. -/
namespace Go.Proofs.Ythiaeldhelhjlaa
open Go.RowKit Cad

theorem bounds_of_len {n : Nat} (h : n ≤ 1000000000) : (Lit.int .i64 (n : Int)).wf = true := WalkArith.wf_i64 (by omega)

/-- bytes stay where a variable that holds bits is written -/
theorem Row.box {w : World} {a a' : Option Addr} {len cap n' c' : Nat} {l : List Int} {x : Nat} {N : Int} (h : Row .u8 w a len cap l) (hx : BoxAt w x (.slice a' n' c') N) (o : Nat) (u : Value) : Row .u8 (w.setCell ⟨x, o, none⟩ u) a len cap l := by
  refine ⟨h.hlen, h.hcap, h.hmax, h.wf, fun hp => ?_, h.nil⟩
  obtain ⟨b, off, rfl, hlt, hc⟩ := h.cells hp
  have hne : b ≠ x := by
    rintro rfl
    have h0 := hc 0 hp
    unfold World.cell? at h0
    unfold BoxAt at hx
    rw [hx] at h0
    match off, h0 with
    | 0, h0 => simp at h0
    | 1, h0 => simp at h0
    | off + 2, h0 => simp at h0
  refine ⟨b, off, rfl, by simpa using hlt, fun i hi => ?_⟩
  rw [← hc i hi]
  unfold World.cell?
  rw [Below.heap_setCell _ _ _ _ (by simpa using hne)]
theorem BoxAt.set0 {w : World} {x : Nat} {v : Value} {N : Int} (h : BoxAt w x v N) (v' : Value) : BoxAt (w.setCell ⟨x, 0, none⟩ v') x v' N := by
  unfold BoxAt at h ⊢
  exact heap_setCell_same _ _ 0 _ _ v' h

/-- two boxes: the bits that came in, and the bits that go out -/
theorem two_boxes (W : World) (v : Value) (N : Int) : ∃ W0, W0 = (W.alloc (.cells #[v, .int .i64 N] 29)).alloc (.cells #[.slice none 0 0, .int .i64 0] 29) ∧ Below W.heap.size W W0 ∧ W0.heap.size = W.heap.size + 1 + 1 ∧
    BoxAt W0 W.heap.size v N ∧ BoxAt W0 (W.heap.size + 1) (.slice none 0 0) 0 := by
  refine ⟨_, rfl, ((Below.refl W.heap.size W).alloc (Nat.le_refl _) _).alloc (by simp) _, by simp, ?_, ?_⟩
  · unfold BoxAt; rw [Below.heap_alloc _ _ _ (by simp), heap_alloc_new]
  · unfold BoxAt; rw [heap_alloc2_new]

end Go.Proofs.Ythiaeldhelhjlaa
