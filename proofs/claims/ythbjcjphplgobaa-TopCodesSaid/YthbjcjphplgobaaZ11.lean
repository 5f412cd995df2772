/- Texts of the proof, one behind the other: CodD, TalX, CodL, TalL, ResP, ResK, ResR, ResS, ResT. -/
import Derived.Test.YthbjcjphplgobaaZ10
/- Contracts of the package coder: Decode. -/
namespace Go.Proofs.Ythbjcjphplgobaa
open Go.RowKit Cad

theorem PDecode_bad (W : World) (aa : Option Addr) (len cap : Nat) (N n : Int) (l : List Int) (hr : Row .u8 W aa len cap l) (hN : (Lit.int .i64 N).wf = true) (hv : ¬ Valid l N) :
    Calls Try.prog 32 #[.agg #[.slice aa len cap, .int .i64 N], .int .i64 n] W fun e W' => e = .returned (.tuple #[.slice none 0 0, .int .i64 0, .int .i64 8]) ∧ Below W.heap.size W W' := by
  have hck := Go.Lib.hid fun w hw => BCheck_any w aa len cap N l hw hN 8 (.inr ⟨hv, rfl⟩)
  have hr' := Go.Lib.hid (hr.below (below1 W (.cells #[.slice aa len cap, .int .i64 N] 45)) (Nat.le_refl _))
  have b0 := below1 W (.cells #[.slice aa len cap, .int .i64 N] 45)
  have b0' := Go.Lib.hid b0
  clear hr hN hv b0
  go_enter Try.func32, Try.ntmps32
  go_wp2_with (go_at_call 55; with_reducible refine (hck.out _ hr'.out).mono ?_; rintro e w1 ⟨rfl, hb1⟩; have hb1' := Go.Lib.hid (b0'.out.trans (hb1.mono b0'.out.size)); clear hb1)
  go_ret3
  exact ⟨rfl, hb1'.out⟩
theorem PDecode_arg (W : World) (aa : Option Addr) (len cap : Nat) (N n : Int) (l : List Int) (hr : Row .u8 W aa len cap l) (hN : (Lit.int .i64 N).wf = true) (hv : Valid l N) (hn : n < 0) :
    Calls Try.prog 32 #[.agg #[.slice aa len cap, .int .i64 N], .int .i64 n] W fun e W' => e = .returned (.tuple #[.slice none 0 0, .int .i64 0, .int .i64 2]) ∧ Below W.heap.size W W' := by
  have hck := Go.Lib.hid fun w hw => BCheck_any w aa len cap N l hw hN 0 (.inl ⟨hv, rfl⟩)
  have hr' := Go.Lib.hid (hr.below (below1 W (.cells #[.slice aa len cap, .int .i64 N] 45)) (Nat.le_refl _))
  have b0 := below1 W (.cells #[.slice aa len cap, .int .i64 N] 45)
  have b0' := Go.Lib.hid b0
  clear hr hN hv b0
  go_enter Try.func32, Try.ntmps32
  go_wp2_with (go_at_call 55; with_reducible refine (hck.out _ hr'.out).mono ?_; rintro e w1 ⟨rfl, hb1⟩; have hb1' := Go.Lib.hid (b0'.out.trans (hb1.mono b0'.out.size)); clear hb1)
  go_ret3
  exact ⟨rfl, hb1'.out⟩
theorem PDecode_many (W : World) (aa : Option Addr) (len cap : Nat) (N n : Int) (l : List Int) (hr : Row .u8 W aa len cap l) (hN : (Lit.int .i64 N).wf = true) (hv : Valid l N) (hn : 4000 < n) :
    Calls Try.prog 32 #[.agg #[.slice aa len cap, .int .i64 N], .int .i64 n] W fun e W' => e = .returned (.tuple #[.slice none 0 0, .int .i64 0, .int .i64 4]) ∧ Below W.heap.size W W' := by
  have hck := Go.Lib.hid fun w hw => BCheck_any w aa len cap N l hw hN 0 (.inl ⟨hv, rfl⟩)
  have hr' := Go.Lib.hid (hr.below (below1 W (.cells #[.slice aa len cap, .int .i64 N] 45)) (Nat.le_refl _))
  have b0 := below1 W (.cells #[.slice aa len cap, .int .i64 N] 45)
  have b0' := Go.Lib.hid b0
  have hn0 : ¬ n < 0 := by omega
  clear hr hN hv b0
  go_enter Try.func32, Try.ntmps32
  go_wp2_with (go_at_call 55; with_reducible refine (hck.out _ hr'.out).mono ?_; rintro e w1 ⟨rfl, hb1⟩; have hb1' := Go.Lib.hid (b0'.out.trans (hb1.mono b0'.out.size)); clear hb1)
  go_ret3
  exact ⟨rfl, hb1'.out⟩

theorem set_next (l : List Nat) (k r v : Nat) (h : l.length = k) : (nums .u32 ((l ++ List.replicate (r + 1) 0).map Int.ofNat)).set k (.int .u32 (v : Int)) = nums .u32 (((l ++ [v]) ++ List.replicate r 0).map Int.ofNat) := by
  subst h
  simp [nums, List.replicate_succ, List.map_append]

set_option maxRecDepth 100000 in
set_option maxHeartbeats 4000000 in
theorem PDecode_ok (W : World) (aa : Option Addr) (len cap : Nat) (B : List Bool) (n : Nat) (hr : Row .u8 W aa len cap (pack B)) (hB : B.length ≤ 330000) (hn : n ≤ 4000) (lz : List Nat) (pz ez : Nat) (hz : decD B n 0 dStart = (lz, pz, ez)) :
    Calls Try.prog 32 #[.agg #[.slice aa len cap, .int .i64 B.length], .int .i64 n] W fun e W' => ∃ a m c, e = .returned (.tuple #[.slice a m c, .int .i64 pz, .int .i64 ez]) ∧ Row .u32 W' a m c (lz.map Int.ofNat) ∧ Below W.heap.size W W' := by
  have hck := Go.Lib.hid fun w hw => BCheck_any w aa len cap B.length (pack B) hw (bounds_of_len (by omega)) 0 (.inl ⟨⟨B, rfl, hB, rfl⟩, rfl⟩)
  have hrr := Go.Lib.hid hr
  have hr' := Go.Lib.hid (hr.below (below1 W (.cells #[.slice aa len cap, .int .i64 B.length] 45)) (Nat.le_refl _))
  have b0 := below1 W (.cells #[.slice aa len cap, .int .i64 B.length] 45)
  have b0' := Go.Lib.hid b0
  have x0 := Go.Lib.hid (box1 W (.slice aa len cap) B.length)
  have st := Go.Lib.hid Dstart_ok
  have hn0 : ¬ (n : Int) < 0 := by omega
  have hn4 : ¬ (4000 : Int) < n := by omega
  have hn1 : (0 : Int) ≤ n := by omega
  have hn2 : (n : Int) ≤ 4000 := by omega
  have hzh := Go.Lib.hid hz
  have hBh := Go.Lib.hid hB
  have hrd := Go.Lib.hid fun w hw (i : Nat) (D : Du) (hi : i ≤ B.length) (hd : D.ok) (v p : Nat) hv => DRead_ok w aa len cap B i D hw hB hi hd v p hv
  have hre := Go.Lib.hid fun w hw (i : Nat) (D : Du) (hi : i ≤ B.length) (hd : D.ok) (v p er : Nat) (he : er ≠ 0) hv => DRead_er w aa len cap B i D hw hB hi hd v p er he hv
  unfold ResR at hrd hre
  obtain ⟨N, hN⟩ : ∃ N, N = B.length := ⟨_, rfl⟩
  rw [← hN] at hck hr' b0' x0 hrd hre ⊢
  have hNh := Go.Lib.hid hN
  clear hr b0 hB hz hN
  go_enter Try.func32, Try.ntmps32
  go_wp2_with (first
    | (go_at_call 55; with_reducible refine (hck.out _ hr'.out).mono ?_; rintro e w1 ⟨rfl, hb1⟩; have hb1' := Go.Lib.hid (b0'.out.trans (hb1.mono b0'.out.size)); have x1 := Go.Lib.hid (x0.out.below hb1 (by simp)); clear hb1)
    | (at_make; refine law_make elU32 _ rfl _ _ rfl .i64 .i64 _ _ n rfl rfl (by omega) (by omega) (by omega) ?_; intro w2 hown2 hb2 hs2; have b2' := Go.Lib.hid (hb1'.out.trans (hb2.mono hb1'.out.size)); have x2 := Go.Lib.hid (x1.out.below hb2 x1.out.lt); have gx := x1.out.lt; obtain ⟨gb, hgb⟩ : ∃ g, g = w1.heap.size := ⟨_, rfl⟩; have o2 := Go.Lib.hid hown2; rw [← hgb] at o2 gx hs2 ⊢; clear hown2 hb2 hgb)
    | (go_at_call 35; refine (st.out _).mono ?_; rintro e w3 ⟨rfl, hb3⟩; have b3' := Go.Lib.hid (b2'.out.trans (hb3.mono b2'.out.size)); have x3 := Go.Lib.hid (x2.out.below hb3 x2.out.lt); have o3 := Go.Lib.hid (own_below o2.out hb3 (Nat.le_refl _)); have gs3 : gb < w3.heap.size := Nat.lt_of_lt_of_le hs2 hb3.size; clear hb3))
  have hW2 := Go.Lib.hid (b3'.out.alloc b3'.out.size (.cells #[.int .i64 10, .int .i64 10, .int .u64 16384, .int .u64 16384] 52))
  have x4 := Go.Lib.hid (x3.out.alloc (.cells #[.int .i64 10, .int .i64 10, .int .u64 16384, .int .u64 16384] 52))
  have d4 := Go.Lib.hid (duat1 w3 10 10 16384 16384)
  have o4 := Go.Lib.hid (own_below o3.out (below1 w3 (.cells #[.int .i64 10, .int .i64 10, .int .u64 16384, .int .u64 16384] 52)) (Nat.le_refl _))
  obtain ⟨w4, hw4⟩ : ∃ w, w = w3.alloc (.cells #[.int .i64 10, .int .i64 10, .int .u64 16384, .int .u64 16384] 52) := ⟨_, rfl⟩
  rw [← hw4] at hW2 x4 d4 o4 ⊢
  obtain ⟨x9, hx9⟩ : ∃ x, x = w3.heap.size := ⟨_, rfl⟩
  rw [← hx9] at d4 gs3 ⊢
  clear hw4 hx9 b3' x3 o3 b2' x2 o2 hb1' x1 x0 hs2
  go_loopg [9, 30] n (fun g at_ i wr => ∃ (k : Nat) (l : List Nat) (p : Nat) (E : Du), k ≤ n ∧ g = n - k ∧ i = .int .i64 k ∧ at_ = .int .i64 p ∧ p ≤ B.length ∧ E.ok ∧ decD B n 0 dStart = glue l (decD B (n - k) p E) ∧ l.length = k ∧ (∀ x ∈ l, x < 4294967296) ∧
    wr.ownsRow gb 30 1 (.slice (some ⟨gb, 0, none⟩) n n) n (nums .u32 ((l ++ List.replicate (n - k) 0).map Int.ofNat)) ∧ BoxAt wr W.heap.size (.slice aa len cap) N ∧ DuAt wr x9 (E.k0 : Int) (E.k1 : Int) (E.s0 : Int) (E.s1 : Int) ∧ Below W.heap.size W wr)
  case atStart =>
    refine ⟨0, [], 0, dStart, Nat.zero_le _, rfl, rfl, rfl, Nat.zero_le _, dStart_ok, ?_, rfl, fun x hx => (by cases hx), ?_, x4.out, d4.out, hW2.out⟩
    · rw [Nat.sub_zero]
      obtain ⟨a, b, c, h⟩ : ∃ a b c, decD B n 0 dStart = (a, b, c) := ⟨_, _, _, rfl⟩
      rw [h]
      by_cases hc : c = 0
      · subst hc; rw [glue_ok]; rfl
      · obtain ⟨rfl, rfl, -⟩ := dec_no n h hc (Nat.zero_le _) dStart_ok
        rw [glue_er _ _ _ hc]
    · have e : ([] ++ List.replicate (n - 0) 0 : List Nat).map Int.ofNat = List.replicate n 0 := by simp
      rw [e]; exact o4.out
  case round =>
  obtain ⟨k, l, p, E, hk, hg, rfl, rfl, hp, hE, hgl, hlk, hl32, ho, hx, hd, hB⟩ := hrel
  have hgo := Go.Lib.hid hg
  have hgl' := Go.Lib.hid hgl
  have hE' := Go.Lib.hid hE
  have hp' := Go.Lib.hid hp
  have hl' := Go.Lib.hid hl32
  have ho' := Go.Lib.hid ho
  have hx' := Go.Lib.hid hx
  have hd' := Go.Lib.hid hd
  have hB' := Go.Lib.hid hB
  have hlk' := Go.Lib.hid hlk
  clear hg hgl hE hp hl32 x4 d4 hW2 o4 ho hlk
  by_cases hlt : k < n
  · have hlt' : (k : Int) < n := by omega
    obtain ⟨v, q, er, hv⟩ : ∃ v q er, readD B p E = (v, q, er) := ⟨_, _, _, rfl⟩
    have hv' := Go.Lib.hid hv
    clear hv
    obtain ⟨f0, f1, f2, f3⟩ := hx.cells
    obtain ⟨g0, g1, g2, g3, g4, g5, g6, g7⟩ := hd.cells
    clear hx hd hB
    by_cases he : er = 0
    · subst he
      have hcall := Go.Lib.hid fun w hw => hrd.out w hw p E (by rw [hNh.out]; exact hp'.out) hE'.out v q hv'.out
      obtain ⟨hv32, -, hqB, -⟩ := dual_is hv'.out hp'.out hE'.out.1 hE'.out.2.1
      obtain ⟨E', hEE⟩ : ∃ E', E' = learnD E v := ⟨_, rfl⟩
      have hE2 := Go.Lib.hid (show E'.ok by rw [hEE]; exact learnD_ok hE'.out hv32)
      rw [← hEE] at hcall
      have hst := Go.Lib.hid (show decD B n 0 dStart = glue (l ++ [v]) (decD B (n - (k + 1)) q E') by
        rw [hgl'.out, show n - k = (n - (k + 1)) + 1 by omega, decD_ok hv'.out, glue_glue, ← hEE])
      clear hEE
      go_wp2_with (go_at_call 56; with_reducible refine (hcall.out _ (hrr.out.below hB'.out (Nat.le_refl _))).mono ?_; rintro e w6 ⟨rfl, hs⟩; have o6 := Go.Lib.hid (own_below (own_below ho'.out hs (Nat.le_refl _)) (below1 w6 (.cells #[.int .i64 E'.k0, .int .i64 E'.k1, .int .u64 E'.s0, .int .u64 E'.s1] 52)) (Nat.le_refl _)); have x6 := Go.Lib.hid ((hx'.out.below hs hx'.out.lt).alloc (.cells #[.int .i64 E'.k0, .int .i64 E'.k1, .int .u64 E'.s0, .int .u64 E'.s1] 52)); have d6 := Go.Lib.hid ((hd'.out.below hs hd'.out.lt).alloc (.cells #[.int .i64 E'.k0, .int .i64 E'.k1, .int .u64 E'.s0, .int .u64 E'.s1] 52)); have B5 := hB'.out.trans (hs.mono hB'.out.size); have B6 := Go.Lib.hid (B5.alloc B5.size (.cells #[.int .i64 E'.k0, .int .i64 E'.k1, .int .u64 E'.s0, .int .u64 E'.s1] 52)); have e6 := Go.Lib.hid (duat1 w6 E'.k0 E'.k1 E'.s0 E'.s1); have n6 : x9 < w6.heap.size := Nat.lt_of_lt_of_le hd'.out.lt hs.size; clear hs B5)
      obtain ⟨w7, hw7⟩ : ∃ w, w = w6.alloc (.cells #[.int .i64 E'.k0, .int .i64 E'.k1, .int .u64 E'.s0, .int .u64 E'.s1] 52) := ⟨_, rfl⟩
      rw [← hw7] at o6 x6 d6 B6 e6
      try rw [← hw7]
      obtain ⟨x14, hx14⟩ : ∃ x, x = w6.heap.size := ⟨_, rfl⟩
      rw [← hx14] at e6 n6
      try rw [← hx14]
      clear hw7 hx14 f0 f1 f2 f3 g0 g1 g2 g3 g4 g5 g6 g7 hcall hx' hd' hB' ho'
      go_wp2
      refine wp_region_ord (fun w' => DuAt w' x14 E'.k0 E'.k1 E'.s0 E'.s1) [(0, 0), (1, 0), (2, 0), (3, 0), (4, 2), (5, 0), (6, 3), (7, 0), (8, 4)] (by kernel_rfl) (by kernel_rfl) ?hC0 ?_
      case hC0 => exact e6.out.drew
      simp only [pick, nth]
      refine wpW_name ?_
      intro q0 hq0
      have o7 := Go.Lib.hid (show q0.ownsRow gb 30 1 (.slice (some ⟨gb, 0, none⟩) n n) n (nums .u32 ((l ++ List.replicate (n - k) 0).map Int.ofNat)) by rw [hq0]; exact own_drew o6.out)
      have x7 := Go.Lib.hid (show BoxAt q0 W.heap.size (.slice aa len cap) N by rw [hq0]; exact x6.out.drew)
      have d7 := Go.Lib.hid (show DuAt q0 x9 (E.k0 : Int) (E.k1 : Int) (E.s0 : Int) (E.s1 : Int) by rw [hq0]; exact d6.out.drew)
      have e7 := Go.Lib.hid (show DuAt q0 x14 (E'.k0 : Int) (E'.k1 : Int) (E'.s0 : Int) (E'.s1 : Int) by rw [hq0]; exact e6.out.drew)
      have B7 := Go.Lib.hid (show Below W.heap.size W q0 by rw [hq0]; exact B6.out.drew)
      clear hq0 o6 x6 d6 e6 B6
      (repeat (first | (apply wpW_light; (case h => (intro wa; (first | (go_big_quiet_skip; exact wpQuiet_nil rfl) | (go_big_quiet_want; go_big_quiet_op; go_big_quiet_on; exact wpQuiet_nil rfl))))) | (apply wpW_here; (case h => (first | (go_big_quiet_skip; exact wpQuiet_nil rfl) | (go_big_quiet_want; go_big_quiet_op; go_big_quiet_on; exact wpQuiet_nil rfl)))) | (apply wpW_held; (case hC => assumption); (case h => (intro wa hCa; obtain ⟨u0, u1, u2, u3, u4, u5, u6, u7⟩ := hCa.cells; (first | (go_big_quiet_skip; exact wpQuiet_nil rfl) | (go_big_quiet_want; go_big_quiet_op; go_big_quiet_on; exact wpQuiet_nil rfl)))))))
      have hc1 := o7.out.cellAt k (by omega)
      have hf1 := o7.out.frozenAt k
      obtain ⟨v0, hv0⟩ : ∃ v0, (nums .u32 ((l ++ List.replicate (n - k) 0).map Int.ofNat))[k]? = some v0 := ⟨_, List.getElem?_eq_getElem (by have := hlk'.out; simp [nums]; omega)⟩
      rw [hv0] at hc1
      have s0 : gb ≠ x14 := by omega
      have s1 : gb ≠ x9 := by omega
      have hst7 := Go.Lib.hid (show (q0.setCell ⟨gb, k, none⟩ (.int .u32 v)).ownsRow gb 30 1 (.slice (some ⟨gb, 0, none⟩) n n) n (nums .u32 (((l ++ [v]) ++ List.replicate (n - (k + 1)) 0).map Int.ofNat)) by
        have := (o7.out.stored k (.int .u32 (v : Int))).1
        rw [show n - k = (n - (k + 1)) + 1 by omega, set_next l k _ v hlk'.out] at this
        exact this)
      refine wpW_act (fun QQ hQQ => ?_) (by rfl)
      go_wp2
      (refine hQQ _ _ ?hCn ?_; (case hCn => exact e7.out.other (by simp; omega) _); clear hQQ QQ)
      refine wpW_name ?_
      intro q1 hq1
      have o8 := Go.Lib.hid (show q1.ownsRow gb 30 1 (.slice (some ⟨gb, 0, none⟩) n n) n (nums .u32 (((l ++ [v]) ++ List.replicate (n - (k + 1)) 0).map Int.ofNat)) by rw [hq1]; exact hst7.out)
      have x8 := Go.Lib.hid (show BoxAt q1 W.heap.size (.slice aa len cap) N by rw [hq1]; exact x7.out.other (by simp; omega) _)
      have d8 := Go.Lib.hid (show DuAt q1 x9 (E.k0 : Int) (E.k1 : Int) (E.s0 : Int) (E.s1 : Int) by rw [hq1]; exact d7.out.other (by simp; omega) _)
      have B8 := Go.Lib.hid (show Below W.heap.size W q1 by rw [hq1]; exact B7.out.setCell (by simp; omega) _)
      clear hq1 hst7 hc1 hf1 hv0 o7 x7 d7 e7 B7
      (repeat (first | (apply wpW_light; (case h => (intro wa; (first | (go_big_quiet_skip; exact wpQuiet_nil rfl) | (go_big_quiet_want; go_big_quiet_op; go_big_quiet_on; exact wpQuiet_nil rfl))))) | (apply wpW_here; (case h => (first | (go_big_quiet_skip; exact wpQuiet_nil rfl) | (go_big_quiet_want; go_big_quiet_op; go_big_quiet_on; exact wpQuiet_nil rfl)))) | (apply wpW_held; (case hC => assumption); (case h => (intro wa hCa; simp only [] at hCa; (first | (go_big_quiet_skip; exact wpQuiet_nil rfl) | (go_big_quiet_want; go_big_quiet_op; go_big_quiet_on; exact wpQuiet_nil rfl)))))))
      obtain ⟨g0, g1, g2, g3, g4, g5, g6, g7⟩ := d8.out.cells
      refine wpW_last (fun QQ hQQ => ?_) (by rfl)
      go_wp2
      (refine hQQ.out _ _ ?_; clear hQQ QQ)
      (repeat (first | (apply wpW_light; (case h => (intro wa; (first | (go_big_quiet_skip; exact wpQuiet_nil rfl) | (go_big_quiet_want; go_big_quiet_op; go_big_quiet_on; exact wpQuiet_nil rfl))))) | (apply wpW_here; (case h => (first | (go_big_quiet_skip; exact wpQuiet_nil rfl) | (go_big_quiet_want; go_big_quiet_op; go_big_quiet_on; exact wpQuiet_nil rfl)))) | (apply wpW_held; (case hC => assumption); (case h => (intro wa hCa; simp only [] at hCa; (first | (go_big_quiet_skip; exact wpQuiet_nil rfl) | (go_big_quiet_want; go_big_quiet_op; go_big_quiet_on; exact wpQuiet_nil rfl)))))))
      refine wpW_nil ?_
      go_wp2
      go_roundg (n - (k + 1))
      case measure => (have hgk := hgo.out; omega)
      case rel =>
        have ap : ∀ g, (Value.slice (some ⟨gb, 0, none⟩) n n).ownBlock = some g → g ≠ x9 := fun g e => by
          have := o8.out.lt g e
          rcases (show g = gb by simpa [Value.ownBlock] using e.symm) with rfl
          exact s1
        refine ⟨k + 1, l ++ [v], q, E', by omega, rfl, by go_num, rfl, hqB, hE2.out, hst.out, by have := hlk'.out; simp [this], fun x hx => ?_, own_setG (own_setG (own_setG (own_setG o8.out ap _ _) ap _ _) ap _ _) ap _ _, (((x8.out.other (by simp; omega) _).other (by simp; omega) _).other (by simp; omega) _).other (by simp; omega) _, d8.out.set _ _ _ _, outp B8.out (by omega)⟩
        rcases List.mem_append.1 hx with hx | hx
        · exact hl'.out x hx
        · rw [List.mem_singleton] at hx; rw [hx]; exact hv32
    · have hcall := Go.Lib.hid fun w hw => hre.out w hw p E (by rw [hNh.out]; exact hp'.out) hE'.out v q er he hv'.out
      have hfin := Go.Lib.hid (show lz = [] ∧ pz = 0 ∧ ez = er by
        have h1 := hzh.out
        rw [hgl'.out, show n - k = (n - (k + 1)) + 1 by omega, decD_er hv'.out he, glue_er _ _ _ he] at h1
        cases h1; exact ⟨rfl, rfl, rfl⟩)
      have he' : ¬ (er : Int) = 0 := by omega
      go_wp2_with (go_at_call 56; with_reducible refine (hcall.out _ (hrr.out.below hB'.out (Nat.le_refl _))).mono ?_; rintro e w6 ⟨rfl, hs⟩; have B5 := hB'.out.trans (hs.mono hB'.out.size); have B6 := Go.Lib.hid (B5.alloc B5.size (.cells #[.int .i64 0, .int .i64 0, .int .u64 0, .int .u64 0] 52)); clear hs B5)
      go_ret3
      obtain ⟨rfl, rfl, rfl⟩ := hfin.out
      exact ⟨none, 0, 0, rfl, Row.nil_row _ _, B6.out⟩
  · obtain rfl : k = n := by omega
    have hfin := Go.Lib.hid (show lz = l ∧ pz = p ∧ ez = 0 by
      have h1 := hzh.out
      rw [hgl'.out, Nat.sub_self, decD_zero, glue_ok, List.append_nil] at h1
      cases h1; exact ⟨rfl, rfl, rfl⟩)
    have hlt' : ¬ (k : Int) < k := by omega
    go_wp2
    go_ret3
    obtain ⟨rfl, rfl, rfl⟩ := hfin.out
    have := ho'.out
    rw [Nat.sub_self, show List.replicate 0 0 = ([] : List Nat) from rfl, List.append_nil] at this
    exact ⟨_, k, k, rfl, Row.of_own this (natsU _ hl'.out), hB⟩
end Go.Proofs.Ythbjcjphplgobaa

/- Contracts of the package tally: Each, Length, Bytes, Most, Fits. -/
namespace Go.Proofs.Ythbjcjphplgobaa
open Go.RowKit Cad

/-- a whole state is written -/
def setD (w : World) (x : Nat) (a b c d : Int) : World := (((w.setCell ⟨x, 0, none⟩ (.int .i64 a)).setCell ⟨x, 1, none⟩ (.int .i64 b)).setCell ⟨x, 2, none⟩ (.int .u64 c)).setCell ⟨x, 3, none⟩ (.int .u64 d)
section
variable {w : World} {x : Nat} {a b c d : Int}
theorem setD_du {i j k l : Int} (h : DuAt w x i j k l) : DuAt (setD w x a b c d) x a b c d := h.set a b c d
theorem setD_below {B : Nat} {W : World} (h : Below B W w) (hx : B ≤ x) : Below B W (setD w x a b c d) := (((h.setCell hx _).setCell hx _).setCell hx _).setCell hx _
theorem setD_own {base n e : Nat} {v : Value} {xs : List Value} (h : w.ownsRow base e 1 v n xs) (hx : ∀ g, v.ownBlock = some g → g ≠ x) : (setD w x a b c d).ownsRow base e 1 v n xs :=
  own_setG (own_setG (own_setG (own_setG h hx _ _) hx _ _) hx _ _) hx _ _
end

theorem TCounter_ok (W : World) : Calls Try.prog 37 #[] W fun e W' => ∃ x, e = .returned (.func (.func 66) #[] #[.pointer (some ⟨x, 0, none⟩)]) ∧ W.heap.size ≤ x ∧ DuAt W' x 10 10 16384 16384 ∧ Below W.heap.size W W' := by
  have hmf : ∀ (fn : Fn) (first cap : Array Value) (w : World), (Instr.makeFunc fn first cap).run Try.prog w = .ok (.func fn first cap) w := fun _ _ _ _ => rfl
  have st := Go.Lib.hid Dstart_ok
  go_enter Try.func37, Try.ntmps37
  go_wp2_with (go_at_call 35; refine (st.out _).mono ?_; rintro e w1 ⟨rfl, hb1⟩; have s1 := hb1.size; have B1 := Go.Lib.hid (hb1.alloc hb1.size (.cells #[.int .i64 10, .int .i64 10, .int .u64 16384, .int .u64 16384] 52)); clear hb1)
  go_ret
  exact ⟨w1.heap.size, rfl, s1, duat1 _ _ _ _ _, B1.out⟩

set_option maxRecDepth 100000 in
set_option maxHeartbeats 1000000 in
theorem TNext_ok (W : World) (x : Nat) (D : Du) (v : Nat) (hd : D.ok) (hv : v < 4294967296) (hx : DuAt W x D.k0 D.k1 D.s0 D.s1) :
    Calls Try.prog 66 #[.int .u32 v, .pointer (some ⟨x, 0, none⟩)] W fun e W' => e = .returned (.tuple #[.int .i64 (dualLen D v : Nat), .int .i64 0]) ∧ ∃ w1, Below W.heap.size W w1 ∧ W' = setD w1 x (learnD D v).k0 (learnD D v).k1 (learnD D v).s0 (learnD D v).s1 := by
  have hl := Go.Lib.hid fun w => DLength_ok w D v hd hv
  have hb := Go.Lib.hid fun w => DLearn_ok w D v hd hv
  obtain ⟨X, hX⟩ : ∃ X, X = learnD D v := ⟨_, rfl⟩
  rw [← hX] at hb ⊢
  obtain ⟨n, hn⟩ : ∃ n, n = dualLen D v := ⟨_, rfl⟩
  rw [← hn] at hl ⊢
  have hx' := Go.Lib.hid hx
  obtain ⟨f0, f1, f2, f3, f4, f5, f6, f7⟩ := hx.cells
  have lx := hx.lt
  clear hX hn hd hv hx
  go_enter Try.func66, Try.ntmps66
  go_wp2_with (first
    | (go_at_call 28; with_reducible refine (hl.out _).mono ?_; rintro e w1 ⟨rfl, hb1⟩; clear f0 f1 f2 f3 f4 f5 f6 f7; obtain ⟨f0, f1, f2, f3, f4, f5, f6, f7⟩ := (hx'.out.below hb1 lx).cells; have B1 := Go.Lib.hid hb1; clear hb1)
    | (go_at_call 29; with_reducible refine (hb.out _).mono ?_; rintro e w2 ⟨rfl, hb2⟩; clear f0 f1 f2 f3 f4 f5 f6 f7; have B2 := Go.Lib.hid ((B1.out.trans (hb2.mono B1.out.size)).alloc (B1.out.trans (hb2.mono B1.out.size)).size (.cells #[.int .i64 X.k0, .int .i64 X.k1, .int .u64 X.s0, .int .u64 X.s1] 52)); obtain ⟨f0, f1, f2, f3, f4, f5, f6, f7⟩ := ((hx'.out.below (B1.out.trans (hb2.mono B1.out.size)) lx).alloc (.cells #[.int .i64 X.k0, .int .i64 X.k1, .int .u64 X.s0, .int .u64 X.s1] 52)).cells; obtain ⟨y0, y1, y2, y3, y4, y5, y6, y7⟩ := (duat1 w2 X.k0 X.k1 X.s0 X.s1).cells; clear hb2))
  go_ret2
  exact ⟨rfl, _, B2.out, rfl⟩

set_option maxRecDepth 100000 in
theorem TEach_many (W : World) (al : Option Addr) (ll cl : Nat) (h : 4000 < ll) (hm : ll ≤ 9223372036854775807) :
    ResI 10 #[.slice al ll cl] W 0 [] 4 := by
  refine ResI.none ?_
  have h' : (4000 : Int) < ll := by omega
  go_enter Try.func10, Try.ntmps10
  go_wp2
  go_ret2
  exact ⟨rfl, Below.refl _ _⟩

theorem set_nextI (l : List Nat) (k r v : Nat) (h : l.length = k) : (nums .i64 ((l ++ List.replicate (r + 1) 0).map Int.ofNat)).set k (.int .i64 (v : Int)) = nums .i64 (((l ++ [v]) ++ List.replicate r 0).map Int.ofNat) := by
  subst h
  simp [nums, List.replicate_succ, List.map_append]

set_option maxRecDepth 100000 in
set_option maxHeartbeats 2000000 in
theorem TEach_ok (W : World) (al : Option Addr) (ll cl : Nat) (m : List Nat) (hl : Row .u32 W al ll cl (m.map Int.ofNat)) (h4 : ll ≤ 4000) (hm : m.length = ll) (hm32 : ∀ x ∈ m, x < 4294967296) :
    ResI 10 #[.slice al ll cl] W ll ((lens dStart m).map Int.ofNat) 0 := by
  unfold ResI
  have hlr := Go.Lib.hid hl
  have hm' := Go.Lib.hid hm
  have h32 := Go.Lib.hid hm32
  have hwf := Go.Lib.hid (lens_i64 m dStart_ok hm32)
  have hml : Hid (∀ k, k < ll → (m.map Int.ofNat).getD k 0 = ((m.getD k 0 : Nat) : Int)) := Go.Lib.hid fun k hk => by simp [List.getD, show k < m.length by omega]
  have hllI : ¬ (4000 : Int) < ll := by omega
  have ct := Go.Lib.hid TCounter_ok
  have nx := Go.Lib.hid fun w x (D : Du) (v : Nat) (hd : D.ok) (hv : v < 4294967296) hx => TNext_ok w x D v hd hv hx
  clear hl hm hm32
  go_enter Try.func10, Try.ntmps10
  go_wp2_with (first
    | (go_at_call 37; refine (ct.out _).mono ?_; rintro e w1 ⟨x, rfl, hx1, hd1, hb1⟩; have d1 := Go.Lib.hid hd1; have B1 := Go.Lib.hid hb1; clear hd1 hb1)
    | (at_make; refine law_make elInt _ rfl _ _ rfl .i64 .i64 _ _ ll rfl rfl (by omega) (by omega) (by omega) ?_; intro w2 hown2 hb2 hs2; have o2 := Go.Lib.hid hown2; have d2 := Go.Lib.hid (d1.out.below hb2 d1.out.lt); have B2 := Go.Lib.hid (B1.out.trans (hb2.mono B1.out.size)); have hxg := d1.out.lt; obtain ⟨gb, hgb⟩ : ∃ g, g = w1.heap.size := ⟨_, rfl⟩; rw [← hgb] at o2 hxg hs2 ⊢; clear hown2 hb2 hgb))
  go_loopg [19] ll (fun g i wr => ∃ k : Nat, k ≤ ll ∧ g = ll - k ∧ i = .int .i64 k ∧ wr.ownsRow gb 3 1 (.slice (some ⟨gb, 0, none⟩) ll ll) ll (nums .i64 ((lens dStart (m.take k) ++ List.replicate (ll - k) 0).map Int.ofNat)) ∧ DuAt wr x ((after dStart (m.take k)).k0 : Nat) ((after dStart (m.take k)).k1 : Nat) ((after dStart (m.take k)).s0 : Nat) ((after dStart (m.take k)).s1 : Nat) ∧ Below W.heap.size W wr ∧ gb < wr.heap.size)
  case atStart =>
    refine ⟨0, Nat.zero_le _, rfl, rfl, ?_, d2.out, B2.out, hs2⟩
    have e : (lens dStart (m.take 0) ++ List.replicate (ll - 0) 0 : List Nat).map Int.ofNat = List.replicate ll 0 := by simp [lens]
    rw [e]; exact o2.out
  case round =>
  obtain ⟨k, hk, hg, rfl, ho, hd, hB, hs⟩ := hrel
  obtain ⟨w3, hw3⟩ : ∃ w, w = wr := ⟨_, rfl⟩
  subst hw3
  have hgo := Go.Lib.hid hg
  have ap : Hid (∀ g, (Value.slice (some ⟨gb, 0, none⟩) ll ll).ownBlock = some g → g ≠ x) := Go.Lib.hid fun g e => by
    obtain rfl : g = gb := by simpa [Value.ownBlock] using e.symm
    omega
  have o3 := Go.Lib.hid ho
  have d3 := Go.Lib.hid hd
  have B3 := Go.Lib.hid hB
  clear hg ho hd hB d1 B1 d2 B2 o2
  by_cases hlt : k < ll
  · have hlt' : (k : Int) < ll := by omega
    have hkm : k < m.length := by rw [hm'.out]; exact hlt
    have hts := lens_snoc m dStart hkm
    have hats := after_take_succ m dStart hkm
    have hmk := hml.out k hlt
    obtain ⟨E, hE⟩ : ∃ E, E = after dStart (m.take k) := ⟨_, rfl⟩
    have hEok : E.ok := by rw [hE]; exact after_ok _ dStart_ok fun x hx => h32.out x (List.mem_of_mem_take hx)
    obtain ⟨num, hnum⟩ : ∃ v, v = m.getD k 0 := ⟨_, rfl⟩
    have hn32 : num < 4294967296 := by rw [hnum, show m.getD k 0 = m[k] by simp [List.getD, hkm]]; exact h32.out _ (List.getElem_mem _)
    rw [← hE, ← hnum] at hts hats
    rw [← hE] at d3
    rw [← hnum] at hmk
    have nx1 := Go.Lib.hid (nx.out w3 x E num hEok hn32 d3.out)
    obtain ⟨E2, hE2⟩ : ∃ E', E' = learnD E num := ⟨_, rfl⟩
    rw [← hE2] at hats nx1
    obtain ⟨dl, hdl⟩ : ∃ x, x = dualLen E num := ⟨_, rfl⟩
    rw [← hdl] at hts nx1
    obtain ⟨Z, hZ⟩ : ∃ Z, Z = lens dStart (m.take k) := ⟨_, rfl⟩
    have hZl : Z.length = k := by rw [hZ, lens_len, List.length_take]; omega
    rw [← hZ] at o3 hts
    have hts2 := Go.Lib.hid hts
    have hats2 := Go.Lib.hid hats
    have hZl' := Go.Lib.hid hZl
    obtain ⟨bl, ol, rfl, hblt, hc⟩ := (hlr.out.below B3.out (Nat.le_refl _)).cells (by omega)
    have hcell := hc k hlt
    rw [hmk] at hcell
    have hn32I : (num : Int) ≤ 4294967295 := by omega
    clear hts hats hmk hE hEok hnum hE2 hdl hZ hc hkm hZl
    go_wp2_with (go_at_call 66; with_reducible refine nx1.out.mono ?_; rintro e w5 ⟨rfl, w6, hb6, hw5⟩; have o5 := Go.Lib.hid (show w5.ownsRow gb 3 1 (.slice (some ⟨gb, 0, none⟩) ll ll) ll (nums .i64 ((Z ++ List.replicate (ll - k) 0).map Int.ofNat)) by rw [hw5]; exact setD_own (own_below o3.out hb6 (Nat.le_refl _)) ap.out); have d5 := Go.Lib.hid (show DuAt w5 x E2.k0 E2.k1 E2.s0 E2.s1 by rw [hw5]; exact setD_du (d3.out.below hb6 d3.out.lt)); have B5 := Go.Lib.hid (show Below W.heap.size W w5 by rw [hw5]; exact setD_below (B3.out.trans (hb6.mono B3.out.size)) hx1); have s5 : gb < w5.heap.size := (by rw [hw5]; unfold setD; simp; exact Nat.lt_of_lt_of_le hs hb6.size); have hc1 := o5.out.cellAt k (by omega); have hf1 := o5.out.frozenAt k; obtain ⟨v0, hv0⟩ : ∃ v0, (nums .i64 ((Z ++ List.replicate (ll - k) 0).map Int.ofNat))[k]? = some v0 := ⟨_, List.getElem?_eq_getElem (by have := hZl'.out; simp [nums]; omega)⟩; rw [hv0] at hc1; clear hb6 hw5)
    go_roundg (ll - (k + 1))
    case measure => (have hgk := hgo.out; omega)
    case rel =>
      refine ⟨k + 1, by omega, rfl, by go_num, ?_, by rw [hats2.out]; exact d5.out.other (by simp; omega) _, B5.out.setCell (by simp; omega) _, by simpa using s5⟩
      have := (o5.out.stored k (.int .i64 (dl : Int))).1
      rw [show ll - k = (ll - (k + 1)) + 1 by omega, set_nextI Z k _ dl hZl'.out, ← hts2.out] at this
      exact this
  · obtain rfl : k = ll := by omega
    have e : lens dStart (m.take k) ++ List.replicate (k - k) 0 = lens dStart m := by rw [List.take_of_length_le (by rw [hm'.out]; exact Nat.le_refl _)]; simp
    rw [e] at o3
    go_wp2
    go_ret2
    exact ⟨_, _, rfl, Row.of_own o3.out hwf.out, B3.out⟩

set_option maxRecDepth 100000 in
theorem TTogether_ok (W : World) (al : Option Addr) (ll cl : Nat) (L : List Nat) (hl : Row .i64 W al ll cl (L.map Int.ofNat)) (h4 : ll ≤ 4010) (hL : L.length = ll) (hs : ∀ k, (L.take k).sum ≤ 81 * ll) :
    Calls Try.prog 38 #[.slice al ll cl] W fun e W' => e = .returned (.int .i64 (L.sum : Nat)) ∧ Below W.heap.size W W' := by
  have hsl := Go.Lib.hid hs
  have R1 := Go.Lib.hid hl
  have hLl' := Go.Lib.hid hL
  have hllI : (ll : Int) ≤ 4010 := by omega
  clear hl hs hL
  go_enter Try.func38, Try.ntmps38
  go_wp2
  go_loopw [3, 8] (fun n i wr => ∃ k : Nat, k ≤ ll ∧ i = .int .i64 k ∧ n = .int .i64 ((L.take k).sum : Nat) ∧ wr = W) (fun _ i _ => ll - (intOf i).toNat)
  case atStart => exact ⟨0, Nat.zero_le _, rfl, rfl, rfl⟩
  case round =>
    obtain ⟨k, hk, rfl, rfl, rfl⟩ := hrel
    by_cases hlt : k < ll
    · have hlt' : (k : Int) < ll := by omega
      have hkL : k < L.length := by rw [hLl'.out]; exact hlt
      have hsn := sum_snoc L hkL
      have hs1 := hsl.out (k + 1)
      obtain ⟨b, off, rfl, -, hcc⟩ := R1.out.cells (by omega)
      have hcell := hcc k hlt
      have hg : (L.map Int.ofNat).getD k 0 = ((L.getD k 0 : Nat) : Int) := by simp [List.getD, hkL]
      rw [hg] at hcell
      obtain ⟨x, hx⟩ : ∃ x, x = L.getD k 0 := ⟨_, rfl⟩
      obtain ⟨s, hs⟩ : ∃ s, s = (L.take k).sum := ⟨_, rfl⟩
      obtain ⟨t, ht⟩ : ∃ t, t = (L.take (k + 1)).sum := ⟨_, rfl⟩
      rw [← hx, ← hs, ← ht] at hsn
      rw [← hx] at hcell
      rw [← ht] at hs1
      rw [← hs]
      have ht' := Go.Lib.hid ht
      have hadd : (s : Int) + (x : Int) = (t : Int) := by omega
      have htI : (t : Int) ≤ 324810 := by omega
      clear hcc hg hx hs ht hsn hs1 hkL
      go_wp2
      go_roundw
      case rel => exact ⟨k + 1, by omega, by go_num, by rw [← ht'.out], trivial⟩
      case measure => (simp [intOf] <;> omega)
    · obtain rfl : k = ll := by omega
      have e : L.take k = L := List.take_of_length_le (by rw [hLl'.out]; exact Nat.le_refl _)
      rw [e]
      go_wp2
      go_ret
      exact ⟨rfl, Below.refl _ _⟩

set_option maxRecDepth 100000 in
theorem TLength_many (W : World) (al : Option Addr) (ll cl : Nat) (h : 4000 < ll) (hm : ll ≤ 9223372036854775807) :
    Calls Try.prog 11 #[.slice al ll cl] W fun e W' => e = .returned (.tuple #[.int .i64 0, .int .i64 4]) ∧ Below W.heap.size W W' := by
  have he := Go.Lib.hid (TEach_many W al ll cl h hm)
  clear h hm
  go_enter Try.func11, Try.ntmps11
  go_wp2_with (go_at_call 10; have he' := he.out; unfold ResI at he'; with_reducible refine he'.mono ?_; rintro e w1 ⟨a1, c1, rfl, hr1, hb1⟩; have B1 := Go.Lib.hid hb1; clear hr1 hb1 he')
  go_ret2
  exact ⟨rfl, B1.out⟩
set_option maxRecDepth 100000 in
theorem TLength_ok (W : World) (al : Option Addr) (ll cl : Nat) (m : List Nat) (hl : Row .u32 W al ll cl (m.map Int.ofNat)) (h4 : ll ≤ 4000) (hm : m.length = ll) (hm32 : ∀ x ∈ m, x < 4294967296) :
    Calls Try.prog 11 #[.slice al ll cl] W fun e W' => e = .returned (.tuple #[.int .i64 ((lens dStart m).sum : Nat), .int .i64 0]) ∧ Below W.heap.size W W' := by
  have he := TEach_ok W al ll cl m hl h4 hm hm32
  unfold ResI at he
  have hLl : (lens dStart m).length = ll := by rw [lens_len, hm]
  have hsl := fun k => sum_lens m hm32 k
  rw [hm] at hsl
  obtain ⟨L, hL⟩ : ∃ L, L = lens dStart m := ⟨_, rfl⟩
  rw [← hL] at he hLl hsl ⊢
  have he' := Go.Lib.hid he
  have tg := Go.Lib.hid fun w a c hw => TTogether_ok w a ll c L hw (by omega) hLl hsl
  obtain ⟨s, hs⟩ : ∃ s, s = L.sum := ⟨_, rfl⟩
  rw [← hs] at tg ⊢
  clear hl hm hm32 he hLl hsl hL hs
  go_enter Try.func11, Try.ntmps11
  go_wp2_with (first
    | (go_at_call 10; with_reducible refine he'.out.mono ?_; rintro e w1 ⟨a1, c1, rfl, hr1, hb1⟩; have R1 := Go.Lib.hid hr1; have B1 := Go.Lib.hid hb1; clear hr1 hb1)
    | (go_at_call 38; with_reducible refine (tg.out _ _ _ R1.out).mono ?_; rintro e w2 ⟨rfl, hb2⟩; have B2 := Go.Lib.hid (B1.out.trans (hb2.mono B1.out.size)); clear hb2))
  go_ret2
  exact ⟨rfl, B2.out⟩

set_option maxRecDepth 100000 in
theorem TBytes_many (W : World) (al : Option Addr) (ll cl : Nat) (h : 4000 < ll) (hm : ll ≤ 9223372036854775807) :
    Calls Try.prog 12 #[.slice al ll cl] W fun e W' => e = .returned (.tuple #[.int .i64 0, .int .i64 4]) ∧ Below W.heap.size W W' := by
  have he := Go.Lib.hid (TLength_many W al ll cl h hm)
  clear h hm
  go_enter Try.func12, Try.ntmps12
  go_wp2_with (go_at_call 11; with_reducible refine he.out.mono ?_; rintro e w1 ⟨rfl, hb1⟩; have B1 := Go.Lib.hid hb1; clear hb1)
  go_ret2
  exact ⟨rfl, B1.out⟩
set_option maxRecDepth 100000 in
theorem TBytes_ok (W : World) (al : Option Addr) (ll cl : Nat) (m : List Nat) (hl : Row .u32 W al ll cl (m.map Int.ofNat)) (h4 : ll ≤ 4000) (hm : m.length = ll) (hm32 : ∀ x ∈ m, x < 4294967296) :
    Calls Try.prog 12 #[.slice al ll cl] W fun e W' => e = .returned (.tuple #[.int .i64 (longB (lens dStart m).sum : Nat), .int .i64 0]) ∧ Below W.heap.size W W' := by
  have he := Go.Lib.hid (TLength_ok W al ll cl m hl h4 hm hm32)
  have hs := sum_lens m hm32 m.length
  rw [List.take_of_length_le (by rw [lens_len]; exact Nat.le_refl _)] at hs
  have hg : Hid (∀ w, Calls Try.prog 39 #[.int .i64 ((lens dStart m).sum : Nat)] w fun e W' => e = .returned (.tuple #[.int .i64 (longB (lens dStart m).sum : Nat), .int .i64 0]) ∧ Below w.heap.size w W') := Go.Lib.hid fun w => KSize_ok w (lens dStart m).sum (by omega)
  obtain ⟨s, hse⟩ : ∃ s, s = (lens dStart m).sum := ⟨_, rfl⟩
  rw [← hse] at he hg ⊢
  obtain ⟨u, hu⟩ : ∃ u, u = longB s := ⟨_, rfl⟩
  rw [← hu] at hg ⊢
  clear hl hm hm32 hs hse hu
  go_enter Try.func12, Try.ntmps12
  go_wp2_with (first
    | (go_at_call 11; with_reducible refine he.out.mono ?_; rintro e w1 ⟨rfl, hb1⟩; have B1 := Go.Lib.hid hb1; clear hb1)
    | (go_at_call 39; with_reducible refine (hg.out _).mono ?_; rintro e w2 ⟨rfl, hb2⟩; have B2 := Go.Lib.hid (B1.out.trans (hb2.mono B1.out.size)); clear hb2))
  go_ret2
  exact ⟨rfl, B2.out⟩

theorem TMost_no (W : World) (n : Int) (h : n < 0 ∨ 4000 < n) :
    Calls Try.prog 14 #[.int .i64 n] W fun e W' => e = .returned (.tuple #[.int .i64 0, .int .i64 2]) ∧ Below W.heap.size W W' := by
  rcases (show n < 0 ∨ (¬ n < 0 ∧ 4000 < n) by omega) with h | ⟨h, h'⟩
  all_goals
    go_enter Try.func14, Try.ntmps14
    go_wp2
    go_ret2
    exact ⟨rfl, Below.refl _ _⟩
theorem TMost_ok (W : World) (n : Nat) (h : n ≤ 4000) :
    Calls Try.prog 14 #[.int .i64 n] W fun e W' => e = .returned (.tuple #[.int .i64 (81 * n : Nat), .int .i64 0]) ∧ Below W.heap.size W W' := by
  have h0 : ¬ (n : Int) < 0 := by omega
  have h1 : ¬ (4000 : Int) < n := by omega
  go_enter Try.func14, Try.ntmps14
  go_wp2
  go_ret2
  exact ⟨by simp, Below.refl _ _⟩

set_option maxRecDepth 100000 in
theorem TFits_many (W : World) (al : Option Addr) (ll cl : Nat) (b : Int) (h : 4000 < ll) (hm : ll ≤ 9223372036854775807) :
    Calls Try.prog 13 #[.slice al ll cl, .int .i64 b] W fun e W' => e = .returned (.tuple #[.int .i64 0, .int .i64 4]) ∧ Below W.heap.size W W' := by
  have he := TEach_many W al ll cl h hm
  unfold ResI at he
  have he' := Go.Lib.hid he
  clear h hm he
  go_enter Try.func13, Try.ntmps13
  go_wp2_with (go_at_call 10; with_reducible refine he'.out.mono ?_; rintro e w1 ⟨a1, c1, rfl, hr1, hb1⟩; have B1 := Go.Lib.hid hb1; clear hr1 hb1)
  go_ret2
  exact ⟨rfl, B1.out⟩
theorem TEach_any (W : World) (al : Option Addr) (ll cl : Nat) (h4 : ll ≤ 4000) (m : List Nat) (hl : Row .u32 W al ll cl (m.map Int.ofNat)) (hm : m.length = ll) (hm32 : ∀ x ∈ m, x < 4294967296) :
    Calls Try.prog 10 #[.slice al ll cl] W fun r W' => ∃ a c, r = .returned (.tuple #[.slice a ll c, .int .i64 0]) ∧ Below W.heap.size W W' := by
  have := TEach_ok W al ll cl m hl h4 hm hm32
  unfold ResI at this
  exact this.mono fun _ _ ⟨a, c, h1, _, h2⟩ => ⟨a, c, h1, h2⟩
set_option maxRecDepth 100000 in
theorem TFits_arg (W : World) (al : Option Addr) (ll cl : Nat) (b : Int) (m : List Nat) (hl : Row .u32 W al ll cl (m.map Int.ofNat)) (hm : m.length = ll) (hm32 : ∀ x ∈ m, x < 4294967296) (h : ll ≤ 4000) (hb : b < 4) :
    Calls Try.prog 13 #[.slice al ll cl, .int .i64 b] W fun e W' => e = .returned (.tuple #[.int .i64 0, .int .i64 2]) ∧ Below W.heap.size W W' := by
  have he' := Go.Lib.hid (TEach_any W al ll cl h m hl hm hm32)
  clear hl hm hm32 h
  go_enter Try.func13, Try.ntmps13
  go_wp2_with (go_at_call 10; with_reducible refine he'.out.mono ?_; rintro e w1 ⟨a1, c1, rfl, hb1⟩; have B1 := Go.Lib.hid hb1; clear hb1)
  go_ret2
  exact ⟨rfl, B1.out⟩
set_option maxRecDepth 100000 in
set_option maxHeartbeats 1000000 in
theorem TFits_ok (W : World) (al : Option Addr) (ll cl : Nat) (b : Int) (m : List Nat) (hl : Row .u32 W al ll cl (m.map Int.ofNat)) (h4 : ll ≤ 4000) (hm : m.length = ll) (hm32 : ∀ x ∈ m, x < 4294967296) (hb : 4 ≤ b) :
    Calls Try.prog 13 #[.slice al ll cl, .int .i64 b] W fun e W' => e = .returned (.tuple #[.int .i64 (fits (lens dStart m) b : Nat), .int .i64 0]) ∧ Below W.heap.size W W' := by
  have he := TEach_ok W al ll cl m hl h4 hm hm32
  unfold ResI at he
  have hb' : ¬ b < 4 := by omega
  have hsl := Go.Lib.hid fun k => sum_lens m hm32 k
  have hLl : (lens dStart m).length = ll := by rw [lens_len, hm]
  obtain ⟨L, hL⟩ : ∃ L, L = lens dStart m := ⟨_, rfl⟩
  rw [← hL] at he hsl hLl ⊢
  have he' := Go.Lib.hid he
  obtain ⟨F, hF⟩ : ∃ F, F = fits L b := ⟨_, rfl⟩
  rw [← hF]
  have hF' : Hid (F = fitN L b ll 0) := Go.Lib.hid (by rw [hF]; unfold fits; rw [hLl])
  have hLl' := Go.Lib.hid hLl
  have hm' := Go.Lib.hid hm
  have hllI : (ll : Int) ≤ 4000 := by omega
  clear hl hm hm32 hL hLl hF hb he
  go_enter Try.func13, Try.ntmps13
  go_wp2_with (go_at_call 10; with_reducible refine he'.out.mono ?_; rintro e w1 ⟨a1, c1, rfl, hr1, hb1⟩; have R1 := Go.Lib.hid hr1; have B1 := Go.Lib.hid hb1; clear hr1 hb1)
  go_loopw [8, 24] (fun n i wr => ∃ k : Nat, k ≤ ll ∧ i = .int .i64 k ∧ n = .int .i64 ((L.take k).sum : Nat) ∧ Hid (F = fitN L b (ll - k) k) ∧ Below w1.heap.size w1 wr) (fun _ i _ => ll - (intOf i).toNat)
  case atStart => exact ⟨0, Nat.zero_le _, rfl, rfl, hF', Below.refl _ _⟩
  case round =>
    obtain ⟨k, hk, rfl, rfl, hFk, hbw⟩ := hrel
    have hbw' := Go.Lib.hid hbw
    have BW := Go.Lib.hid (B1.out.trans (hbw.mono B1.out.size))
    by_cases hlt : k < ll
    · have hlt' : (k : Int) < ll := by omega
      have hkL : k < L.length := by rw [hLl'.out]; exact hlt
      have hsn := sum_snoc L hkL
      have hs1 := hsl.out (k + 1)
      rw [hm'.out] at hs1
      obtain ⟨bb, off, rfl, -, hcc⟩ := (R1.out.below hbw (Nat.le_refl _)).cells (by omega)
      have hcell := hcc k hlt
      have hg : (L.map Int.ofNat).getD k 0 = ((L.getD k 0 : Nat) : Int) := by simp [List.getD, hkL]
      rw [hg] at hcell
      have hF1 := hFk.out
      rw [show ll - k = (ll - (k + 1)) + 1 by omega] at hF1
      obtain ⟨x, hx⟩ : ∃ x, x = L.getD k 0 := ⟨_, rfl⟩
      obtain ⟨s, hs⟩ : ∃ s, s = (L.take k).sum := ⟨_, rfl⟩
      obtain ⟨t, ht⟩ : ∃ t, t = (L.take (k + 1)).sum := ⟨_, rfl⟩
      rw [← hx, ← hs, ← ht] at hsn
      rw [← hx] at hcell
      rw [← ht] at hs1
      rw [← hs]
      have ht' := Go.Lib.hid ht
      have hadd : (s : Int) + (x : Int) = (t : Int) := by omega
      have htI : (t : Int) ≤ 324810 := by omega
      have hlg : Hid (∀ w, Calls Try.prog 39 #[.int .i64 t] w fun e W' => e = .returned (.tuple #[.int .i64 (longB t : Nat), .int .i64 0]) ∧ Below w.heap.size w W') := Go.Lib.hid fun w => KSize_ok w t (by omega)
      obtain ⟨u, hu⟩ : ∃ u, u = longB t := ⟨_, rfl⟩
      have hlg' := hlg
      rw [← hu] at hlg'
      by_cases hbu : b < u
      · have hfin : Hid (F = k) := Go.Lib.hid (by rw [hF1]; exact fitN_stop (by rw [← ht, ← hu]; exact hbu))
        clear hcc hg hx hs ht hsn hs1 hkL hF1 hFk hu hlg hbw
        go_wp2_with (go_at_call 39; with_reducible refine (hlg'.out _).mono ?_; rintro e wz ⟨rfl, hz⟩; have BZ := Go.Lib.hid (BW.out.trans (hz.mono BW.out.size)); clear hz)
        go_ret2
        exact ⟨by rw [hfin.out]; rfl, BZ.out⟩
      · have hnx : Hid (F = fitN L b (ll - (k + 1)) (k + 1)) := Go.Lib.hid (by rw [hF1]; exact fitN_go (by rw [← ht, ← hu]; exact hbu))
        clear hcc hg hx hs ht hsn hs1 hkL hF1 hFk hu hlg hbw
        go_wp2_with (go_at_call 39; with_reducible refine (hlg'.out _).mono ?_; rintro e wz ⟨rfl, hz⟩; have BZ := Go.Lib.hid (hbw'.out.trans (hz.mono hbw'.out.size)); clear hz)
        go_roundw
        case rel => exact ⟨k + 1, by omega, by go_num, by rw [← ht'.out], hnx, BZ.out⟩
        case measure => (simp [intOf] <;> omega)
    · obtain rfl : k = ll := by omega
      have hfin : Hid (F = k) := Go.Lib.hid (by rw [hFk.out, Nat.sub_self]; rfl)
      clear hFk hbw
      go_wp2
      go_ret2
      exact ⟨by rw [hfin.out]; rfl, BW.out⟩
end Go.Proofs.Ythbjcjphplgobaa

/- What the statements of coder share: the chapter's examples; package and reference say the same. -/
namespace Go.Proofs.Ythbjcjphplgobaa
open Go.RowKit Cad

/-- numbers of 32 bits as natural numbers -/
theorem nats_of {l : List Int} (h : ∀ x ∈ l, (Lit.int .u32 x).wf = true) : ∃ m : List Nat, l = m.map Int.ofNat ∧ ∀ x ∈ m, x < 4294967296 := by
  refine ⟨l.map Int.toNat, ?_, fun x hx => ?_⟩
  · rw [List.map_map]
    symm
    calc l.map (Int.ofNat ∘ Int.toNat) = l.map id := List.map_congr_left fun x hx => by have := bounds_u32 (h x hx); simp; omega
      _ = l := List.map_id l
  · obtain ⟨y, hy, rfl⟩ := List.mem_map.1 hx
    have := bounds_u32 (h y hy)
    omega
theorem natsD (m : List Nat) {k : Nat} (hk : k < m.length) : (m.map Int.ofNat).getD k 0 = ((m.getD k 0 : Nat) : Int) := by
  simp [List.getD, hk]
theorem map_inj {l m : List Nat} : l.map Int.ofNat = m.map Int.ofNat ↔ l = m :=
  ⟨fun h => by
    have := congrArg (List.map Int.toNat) h
    simpa [List.map_map, Function.comp_def] using this, fun h => by rw [h]⟩

/-- a call that hands back a state and an error -/
def ResA (f : FuncId) (args : Array Value) (W : World) (a b c d e : Int) : Prop :=
  Calls Try.prog f args W fun r W' => r = .returned (.tuple #[.agg #[.int .i64 a, .int .i64 b, .int .u64 c, .int .u64 d], .int .i64 e]) ∧ Below W.heap.size W W'
/-- a call that hands back numbers, an index and an error -/
def ResL (f : FuncId) (args : Array Value) (W : World) (l : List Int) (p e : Int) : Prop :=
  Calls Try.prog f args W fun r W' => ∃ a m c, r = .returned (.tuple #[.slice a m c, .int .i64 p, .int .i64 e]) ∧ Row .u32 W' a m c l ∧ Below W.heap.size W W'
theorem ResL.none {f : FuncId} {args : Array Value} {W : World} {e : Int} (h : Calls Try.prog f args W fun r W' => r = .returned (.tuple #[.slice none 0 0, .int .i64 0, .int .i64 e]) ∧ Below W.heap.size W W') : ResL f args W [] 0 e :=
  h.mono fun _ _ ⟨h1, h2⟩ => ⟨Option.none, 0, 0, h1, Row.nil_row _ _, h2⟩

theorem PAfter_m (W : World) (al : Option Addr) (ll cl : Nat) (m : List Nat) (hl : Row .u32 W al ll cl (m.map Int.ofNat)) (h4 : ll ≤ 4000) (hm : m.length = ll) (hm32 : ∀ x ∈ m, x < 4294967296) :
    ResA 26 #[.slice al ll cl] W (after dStart m).k0 (after dStart m).k1 (after dStart m).s0 (after dStart m).s1 0 :=
  PAfter_ok W al ll cl _ m hl h4 hm (fun _ hk => natsD m (by omega)) hm32
theorem PDecode_m (W : World) (aa : Option Addr) (len cap : Nat) (B : List Bool) (n : Nat) (hr : Row .u8 W aa len cap (pack B)) (hB : B.length ≤ 330000) (hn : n ≤ 4000) (lz : List Nat) (pz ez : Nat) (hz : decD B n 0 dStart = (lz, pz, ez)) :
    ResL 32 #[.agg #[.slice aa len cap, .int .i64 B.length], .int .i64 n] W (lz.map Int.ofNat) pz ez :=
  PDecode_ok W aa len cap B n hr hB hn lz pz ez hz

/-- the code of 5 and 2000 -/
def exX : List Bool := codesD dStart [5, 2000]
theorem exX_len : exX.length = 24 := by decide +kernel
theorem exX_dec : decD exX 2 0 dStart = ([5, 2000], 24, 0) := by
  have := dec_codes [5, 2000] [] [] dStart (by decide)
  rw [List.nil_append, List.append_nil, List.length_nil, Nat.zero_add] at this
  rw [show (codesD dStart [5, 2000]).length = 24 from exX_len] at this
  exact this

end Go.Proofs.Ythbjcjphplgobaa

/- What the statements of tally share: the chapter's examples; package and reference say the same. -/
namespace Go.Proofs.Ythbjcjphplgobaa
open Go.RowKit Cad

theorem lens_ex : lens dStart [5, 2000] = [11, 13] := by decide +kernel
theorem fits_ex : fits [11, 13] 6 = 1 := by decide +kernel

set_option maxRecDepth 100000 in
set_option maxHeartbeats 1000000 in
theorem alive12_ok (W : World) : Calls Try.prog 16 #[] W fun e W' => e = .returned (.bool true) ∧ Below W.heap.size W W' := by
  have h32 : ∀ x ∈ [5, 2000], x < 4294967296 := by decide
  have e1 : Hid (∀ w a c, Row .u32 w a 2 c [5, 2000] → Calls Try.prog 10 #[.slice a 2 c] w fun r W' => ∃ a c, r = .returned (.tuple #[.slice a 2 c, .int .i64 0]) ∧ Row .i64 W' a 2 c [11, 13] ∧ Below w.heap.size w W') := Go.Lib.hid fun w a c h => by
    have := TEach_ok w a 2 c [5, 2000] h (by decide) rfl h32
    rw [lens_ex] at this
    exact this
  have e2 : Hid (∀ w a c, Row .u32 w a 2 c [5, 2000] → Calls Try.prog 11 #[.slice a 2 c] w fun r W' => r = .returned (.tuple #[.int .i64 24, .int .i64 0]) ∧ Below w.heap.size w W') := Go.Lib.hid fun w a c h => by
    have := TLength_ok w a 2 c [5, 2000] h (by decide) rfl h32
    rw [lens_ex] at this
    exact this
  have e3 : Hid (∀ w a c, Row .u32 w a 2 c [5, 2000] → Calls Try.prog 12 #[.slice a 2 c] w fun r W' => r = .returned (.tuple #[.int .i64 7, .int .i64 0]) ∧ Below w.heap.size w W') := Go.Lib.hid fun w a c h => by
    have := TBytes_ok w a 2 c [5, 2000] h (by decide) rfl h32
    rw [lens_ex] at this
    exact this
  have e4 : Hid (∀ w a c, Row .u32 w a 2 c [5, 2000] → Calls Try.prog 13 #[.slice a 2 c, .int .i64 6] w fun r W' => r = .returned (.tuple #[.int .i64 1, .int .i64 0]) ∧ Below w.heap.size w W') := Go.Lib.hid fun w a c h => by
    have := TFits_ok w a 2 c 6 [5, 2000] h (by decide) rfl h32 (by decide)
    rw [lens_ex, fits_ex] at this
    exact this
  have s5 : Hid (∀ (w : World) (x : Nat) a c, x = w.heap.size → Row .i64 w a 2 c [11, 13] → Calls Try.prog 15 #[.slice a 2 c, .slice (some ⟨x, 0, none⟩) 2 2] (w.alloc (.cells #[.int .i64 11, .int .i64 13] 3)) fun e W' => e = .returned (.bool true) ∧ Below w.heap.size w W') := Go.Lib.hid fun w x a c hx hr => by
    subst hx
    have := KtSame_ok _ a 2 c [11, 13] (hr.below (below1 w _) (Nat.le_refl _)) _ 2 2 [11, 13] (lit_rowK .i64 3 w [11, 13] 2 (0, 0) rfl (by decide) (by decide))
    refine this.mono ?_
    rintro e w' ⟨h1, h2⟩
    exact ⟨by rw [h1]; rfl, (below1 w _).trans (h2.mono (by simp))⟩
  have B0 := Go.Lib.hid (below1 W (.cells #[.int .u32 5, .int .u32 2000] 30))
  have R0 := Go.Lib.hid (show Row .u32 (W.alloc (.cells #[.int .u32 5, .int .u32 2000] 30)) (some ⟨W.heap.size, 0, none⟩) 2 2 [5, 2000] from lit_rowK .u32 30 W [5, 2000] 2 (0, 0) rfl (by decide) (by decide))
  clear h32
  go_enter Try.func16, Try.ntmps16
  go_wp2_with (first
    | (go_at_call 10; with_reducible refine (e1.out _ _ _ R0.out).mono ?_; rintro e w1 ⟨a1, c1, rfl, hr1, hb⟩; have R1 := Go.Lib.hid (R0.out.below hb (Nat.le_refl _)); have S1 := Go.Lib.hid hr1; have B1 := Go.Lib.hid (B0.out.trans (hb.mono B0.out.size)); clear hr1 hb)
    | (go_at_call 11; with_reducible refine (e2.out _ _ _ R1.out).mono ?_; rintro e w2 ⟨rfl, hb⟩; have R2 := Go.Lib.hid (R1.out.below hb (Nat.le_refl _)); have S2 := Go.Lib.hid (S1.out.below hb (Nat.le_refl _)); have B2 := Go.Lib.hid (B1.out.trans (hb.mono B1.out.size)); clear hb)
    | (go_at_call 12; with_reducible refine (e3.out _ _ _ R2.out).mono ?_; rintro e w3 ⟨rfl, hb⟩; have R3 := Go.Lib.hid (R2.out.below hb (Nat.le_refl _)); have S3 := Go.Lib.hid (S2.out.below hb (Nat.le_refl _)); have B3 := Go.Lib.hid (B2.out.trans (hb.mono B2.out.size)); clear hb)
    | (go_at_call 13; with_reducible refine (e4.out _ _ _ R3.out).mono ?_; rintro e w4 ⟨rfl, hb⟩; have S4 := Go.Lib.hid (S3.out.below hb (Nat.le_refl _)); have B4 := Go.Lib.hid (B3.out.trans (hb.mono B3.out.size)); clear hb)
    | (go_at_call 15; with_reducible refine (s5.out _ _ _ _ ?hx S4.out).mono ?_; (case hx => simp); rintro e w5 ⟨rfl, hb⟩; have B5 := Go.Lib.hid (B4.out.trans (hb.mono B4.out.size)); clear hb))
  go_ret
  exact ⟨rfl, B5.out⟩

section
variable (ll : Nat) (m : List Nat) (hm : m.length = ll) (hm32 : ∀ x ∈ m, x < 4294967296) (hmx : ll ≤ 9223372036854775807)
include hm hm32 hmx
theorem teach_both : ∃ (k : Nat) (z : List Int) (e : Int), (∀ w a c, Row .u32 w a ll c (m.map Int.ofNat) → ResI 10 #[.slice a ll c] w k z e) ∧ (∀ w a c, Row .u32 w a ll c (m.map Int.ofNat) → ResI 18 #[.slice a ll c] w k z e) := by
  by_cases h : 4000 < ll
  · exact ⟨_, _, _, fun w a c _ => TEach_many w a ll c h hmx, fun w a c _ => KtEach_many w a ll c h hmx⟩
  · exact ⟨_, _, _, fun w a c hr => TEach_ok w a ll c m hr (by omega) hm hm32, fun w a c hr => KtEach_ok w a ll c m hr (by omega) hm hm32⟩
theorem tlength_both : ∃ (n e : Int), (∀ w a c, Row .u32 w a ll c (m.map Int.ofNat) → Calls Try.prog 11 #[.slice a ll c] w fun r W' => r = .returned (.tuple #[.int .i64 n, .int .i64 e]) ∧ Below w.heap.size w W') ∧ (∀ w a c, Row .u32 w a ll c (m.map Int.ofNat) → Calls Try.prog 19 #[.slice a ll c] w fun r W' => r = .returned (.tuple #[.int .i64 n, .int .i64 e]) ∧ Below w.heap.size w W') := by
  by_cases h : 4000 < ll
  · exact ⟨_, _, fun w a c _ => TLength_many w a ll c h hmx, fun w a c _ => KtLength_many w a ll c h hmx⟩
  · exact ⟨_, _, fun w a c hr => TLength_ok w a ll c m hr (by omega) hm hm32, fun w a c hr => KtLength_ok w a ll c m hr (by omega) hm hm32⟩
theorem tbytes_both : ∃ (n e : Int), (∀ w a c, Row .u32 w a ll c (m.map Int.ofNat) → Calls Try.prog 12 #[.slice a ll c] w fun r W' => r = .returned (.tuple #[.int .i64 n, .int .i64 e]) ∧ Below w.heap.size w W') ∧ (∀ w a c, Row .u32 w a ll c (m.map Int.ofNat) → Calls Try.prog 20 #[.slice a ll c] w fun r W' => r = .returned (.tuple #[.int .i64 n, .int .i64 e]) ∧ Below w.heap.size w W') := by
  by_cases h : 4000 < ll
  · exact ⟨_, _, fun w a c _ => TBytes_many w a ll c h hmx, fun w a c _ => KtBytes_many w a ll c h hmx⟩
  · exact ⟨_, _, fun w a c hr => TBytes_ok w a ll c m hr (by omega) hm hm32, fun w a c hr => KtBytes_ok w a ll c m hr (by omega) hm hm32⟩
theorem tfits_both (b : Int) : ∃ (n e : Int), (∀ w a c, Row .u32 w a ll c (m.map Int.ofNat) → Calls Try.prog 13 #[.slice a ll c, .int .i64 b] w fun r W' => r = .returned (.tuple #[.int .i64 n, .int .i64 e]) ∧ Below w.heap.size w W') ∧ (∀ w a c, Row .u32 w a ll c (m.map Int.ofNat) → Calls Try.prog 23 #[.slice a ll c, .int .i64 b] w fun r W' => r = .returned (.tuple #[.int .i64 n, .int .i64 e]) ∧ Below w.heap.size w W') := by
  by_cases h : 4000 < ll
  · exact ⟨_, _, fun w a c _ => TFits_many w a ll c b h hmx, fun w a c _ => KtFits_many w a ll c b h hmx⟩
  · by_cases hb : b < 4
    · exact ⟨_, _, fun w a c hr => TFits_arg w a ll c b m hr hm hm32 (by omega) hb, fun w a c _ => KtFits_arg w a ll c b (by omega) hb⟩
    · exact ⟨_, _, fun w a c hr => TFits_ok w a ll c b m hr (by omega) hm hm32 (by omega), fun w a c hr => KtFits_ok w a ll c b m hr (by omega) hm hm32 (by omega)⟩
end
theorem tmost_both (k : Int) : ∃ (n e : Int), (∀ w, Calls Try.prog 14 #[.int .i64 k] w fun r W' => r = .returned (.tuple #[.int .i64 n, .int .i64 e]) ∧ Below w.heap.size w W') ∧ (∀ w, Calls Try.prog 22 #[.int .i64 k] w fun r W' => r = .returned (.tuple #[.int .i64 n, .int .i64 e]) ∧ Below w.heap.size w W') := by
  by_cases h : k < 0 ∨ 4000 < k
  · exact ⟨_, _, fun w => TMost_no w k h, fun w => KtMost_no w k h⟩
  · obtain ⟨j, rfl⟩ : ∃ j : Nat, k = j := ⟨k.toNat, by omega⟩
    exact ⟨_, _, fun w => TMost_ok w j (by omega), fun w => KtMost_ok w j (by omega)⟩
end Go.Proofs.Ythbjcjphplgobaa

/- Numbers read from pieces: what feeding says, as lists of Bools: no Go function in sight. -/
namespace Cad
open Go.Proofs.Ythbjcjphplgobaa

/-! ### reading behind other bits -/
def sh (a : Nat) (r : Nat × Nat × Nat) : Nat × Nat × Nat := if r.2.2 = 0 then (r.1, a + r.2.1, 0) else (0, 0, r.2.2)
theorem sh_ok (a v p : Nat) : sh a (v, p, 0) = (v, a + p, 0) := if_pos rfl
theorem sh_er (a v p : Nat) {er : Nat} (h : er ≠ 0) : sh a (v, p, er) = (0, 0, er) := if_neg h
theorem drop_behind (A B : List Bool) (i : Nat) : (A ++ B).drop (A.length + i) = B.drop i := by
  rw [List.drop_append, List.drop_eq_nil_of_le (by omega), List.nil_append]; congr 1; omega
theorem midB_behind (A B : List Bool) (i k : Nat) : midB (A ++ B) (A.length + i) (A.length + k) = midB B i k := by
  unfold midB; rw [drop_behind]; congr 1; omega
theorem getD_behind (A B : List Bool) (i : Nat) : (A ++ B).getD (A.length + i) false = B.getD i false := by
  have h1 := drop_getD (A ++ B) (A.length + i) 0
  have h2 := drop_getD B i 0
  rw [drop_behind, h2] at h1
  simpa using h1.symm
theorem readV_behind (A B : List Bool) (i : Nat) : readV (A ++ B) (A.length + i) = sh A.length (readV B i) := by
  unfold readV
  rw [drop_behind, List.length_append]
  simp only
  by_cases h1 : lead (B.drop i) 48 = 48
  · rw [if_pos h1, if_pos h1, sh_ok, Nat.add_assoc]
  · rw [if_neg h1, if_neg h1]
    by_cases h2 : i + lead (B.drop i) 48 < B.length
    · rw [if_pos h2, if_pos (by omega), sh_ok]; congr 2; omega
    · rw [if_neg h2, if_neg (by omega), sh_er _ _ _ (by decide)]
theorem readR_behind (A B : List Bool) (i k : Nat) : readR (A ++ B) (A.length + i) k = sh A.length (readR B i k) := by
  obtain ⟨q, m, e, hr⟩ : ∃ q m e, readV B i = (q, m, e) := ⟨_, _, _, rfl⟩
  have h2 := readV_behind A B i
  rw [hr] at h2
  by_cases h0 : e = 0
  · subst h0
    rw [sh_ok] at h2
    by_cases hs : B.length < m + lowN q k
    · rw [readR_short hr hs, readR_short h2 (by rw [List.length_append]; omega), sh_er _ _ _ (by decide)]
    · by_cases h48 : q < 48
      · have el : lowN q k = k := if_pos h48
        rw [el] at hs
        rw [readR_less hr (by omega) h48, readR_less h2 (by rw [List.length_append]; omega) h48, sh_ok, Nat.add_assoc, midB_behind]
      · have hq : q = 48 := by
          have : q ≤ 48 := by
            unfold readV at hr
            simp only at hr
            have hk := lead_le (B.drop i) 48
            split at hr
            · cases hr; exact Nat.le_refl _
            · split at hr
              · cases hr; exact hk
              · cases hr
          omega
        subst hq
        have el : lowN 48 k = 32 := rfl
        rw [el] at hs
        have hmid : midB (A ++ B) (A.length + m) (A.length + m + 32) = midB B m (m + 32) := by rw [Nat.add_assoc]; exact midB_behind A B m (m + 32)
        by_cases hp : partN (natB (midB B m (m + 32))) k = 48
        · rw [readR_full hr (by omega) hp, readR_full h2 (by rw [List.length_append]; omega) (by rw [hmid]; exact hp), sh_ok, hmid, Nat.add_assoc]
        · rw [readR_form hr (by omega) hp, readR_form h2 (by rw [List.length_append]; omega) (by rw [hmid]; exact hp), sh_er _ _ _ (by decide)]
  · rw [sh_er _ _ _ h0] at h2
    rw [readR_no hr h0, readR_no h2 h0, sh_er _ _ _ (by decide)]
theorem readD_behind (A B : List Bool) (i : Nat) (d : Du) : readD (A ++ B) (A.length + i) d = sh A.length (readD B i d) := by
  by_cases hl : B.length ≤ i
  · rw [readD_end d hl, readD_end d (by rw [List.length_append]; omega), sh_er _ _ _ (by decide)]
  have hlt : i < B.length := by omega
  have hlt2 : A.length + i < (A ++ B).length := by rw [List.length_append]; omega
  have hb2 := getD_behind A B i
  cases hb : B.getD i false with
  | false =>
    rw [hb] at hb2
    by_cases hs : B.length < i + 1 + d.k0
    · rw [readD_short hlt hb hs, readD_short hlt2 hb2 (by rw [List.length_append]; omega), sh_er _ _ _ (by decide)]
    · rw [readD_low hb (by omega), readD_low hb2 (by rw [List.length_append]; omega), sh_ok]
      rw [show A.length + i + 1 = A.length + (i + 1) by omega, show A.length + (i + 1) + d.k0 = A.length + (i + 1 + d.k0) by omega, midB_behind]
  | true =>
    rw [hb] at hb2
    obtain ⟨w, q, e, hr⟩ : ∃ w q er, readR B (i + 1) d.k1 = (w, q, er) := ⟨_, _, _, rfl⟩
    have h2 := readR_behind A B (i + 1) d.k1
    rw [hr, ← Nat.add_assoc] at h2
    by_cases h00 : e = 0
    · subst h00
      rw [sh_ok] at h2
      by_cases hg : 4294967295 < w + 2 ^ d.k0
      · rw [readD_great hlt hb hr hg, readD_great hlt2 hb2 h2 hg, sh_er _ _ _ (by decide)]
      · rw [readD_high hlt hb hr (by omega), readD_high hlt2 hb2 h2 (by omega), sh_ok]
    · rw [sh_er _ _ _ h00] at h2
      rw [readD_no hlt hb hr h00, readD_no hlt2 hb2 h2 h00, sh_er _ _ _ h00]
/-- reading from index i on is reading what is behind i bits -/
theorem readD_drop (B : List Bool) {i : Nat} (hi : i ≤ B.length) (d : Du) : readD B i d = sh i (readD (B.drop i) 0 d) := by
  have h := readD_behind (B.take i) (B.drop i) 0 d
  have hl : (B.take i).length = i := by rw [List.length_take]; omega
  rw [List.take_append_drop, hl, Nat.add_zero] at h
  exact h

/-! ### more bits behind -/
theorem midB_ahead (B C : List Bool) {i k : Nat} (hk : k ≤ B.length) : midB (B ++ C) i k = midB B i k := by
  unfold midB
  by_cases h : i ≤ k
  · rw [List.drop_append_of_le_length (by omega), List.take_append_of_le_length (by rw [List.length_drop]; omega)]
  · rw [show k - i = 0 by omega]; rfl
theorem getD_ahead (B C : List Bool) {i : Nat} (h : i < B.length) : (B ++ C).getD i false = B.getD i false := by
  simp [List.getD, List.getElem?_append_left h]
theorem readV_more {B : List Bool} {i q m : Nat} (h : readV B i = (q, m, 0)) (hi : i ≤ B.length) (C : List Bool) : readV (B ++ C) i = (q, m, 0) := by
  obtain ⟨h1, -, h3, h4, h5⟩ := read_is h hi
  have e : B = B.take i ++ runB q ++ B.drop m := by
    rw [← h5]
    have h6 : B.drop m = (B.drop i).drop (m - i) := by rw [List.drop_drop]; congr 1; omega
    rw [h6, List.append_assoc, List.take_append_drop, List.take_append_drop]
  have hl : (B.take i).length = i := by rw [List.length_take]; omega
  have := read_run (B.take i) (B.drop m ++ C) h1
  rw [← List.append_assoc, ← e, hl] at this
  rw [this, h3]
theorem rice_form {B : List Bool} {i k : Nat} (h : readR B i k = (0, 0, 12)) (hi : i ≤ B.length) (C : List Bool) : readR (B ++ C) i k = (0, 0, 12) := by
  obtain ⟨q, m, e, hr⟩ : ∃ q m e, readV B i = (q, m, e) := ⟨_, _, _, rfl⟩
  by_cases h0 : e = 0
  · subst h0
    have h2 := readV_more hr hi C
    obtain ⟨hq, -, hm, hmB, -⟩ := read_is hr hi
    by_cases hs : B.length < m + lowN q k
    · rw [readR_short hr hs] at h; cases h
    · by_cases h48 : q < 48
      · have el : lowN q k = k := if_pos h48
        rw [el] at hs
        rw [readR_less hr (by omega) h48] at h
        simp at h
      · obtain rfl : q = 48 := by omega
        have el : lowN 48 k = 32 := rfl
        rw [el] at hs
        by_cases hp : partN (natB (midB B m (m + 32))) k = 48
        · rw [readR_full hr (by omega) hp] at h; simp at h
        · exact readR_form h2 (by rw [List.length_append]; omega) (by rw [midB_ahead B C (by omega)]; exact hp)
  · rw [readR_no hr h0] at h; cases h
theorem dual_form {B : List Bool} {i : Nat} {d : Du} {v p er : Nat} (h : readD B i d = (v, p, er)) (he : er ≠ 0) (h24 : er ≠ 24) (_hi : i ≤ B.length) (hd : d.ok) (C : List Bool) : readD (B ++ C) i d = (0, 0, er) := by
  have hp0 := pow24 hd.1
  have hp1 := pow24 hd.2.1
  by_cases hl : B.length ≤ i
  · rw [readD_end d hl] at h; cases h; exact absurd rfl h24
  have hlt : i < B.length := by omega
  have hlt2 : i < (B ++ C).length := by rw [List.length_append]; omega
  have hb2 := getD_ahead B C hlt
  cases hb : B.getD i false with
  | false =>
    by_cases hs : B.length < i + 1 + d.k0
    · rw [readD_short hlt hb hs] at h; cases h; exact absurd rfl h24
    · rw [readD_low hb (by omega)] at h; cases h; exact absurd rfl he
  | true =>
    rw [hb] at hb2
    obtain ⟨w, q, e, hr⟩ : ∃ w q er, readR B (i + 1) d.k1 = (w, q, er) := ⟨_, _, _, rfl⟩
    by_cases h0 : e = 0
    · subst h0
      have h2 := rice_more hr (by omega) hd.2.1 C
      by_cases hg : 4294967295 < w + 2 ^ d.k0
      · rw [readD_great hlt hb hr hg] at h; cases h
        exact readD_great hlt2 hb2 h2 hg
      · rw [readD_high hlt hb hr (by omega)] at h; cases h; exact absurd rfl he
    · rw [readD_no hlt hb hr h0] at h
      cases h
      obtain ⟨rfl, rfl, r⟩ := rice_no hr he (by omega)
      obtain rfl : er = 12 := by omega
      exact readD_no hlt2 hb2 (rice_form hr (by omega) C) (by decide)
/-- bits that are too few are few -/
theorem short_le {B : List Bool} {d : Du} {v p : Nat} (h : readD B 0 d = (v, p, 24)) (hd : d.ok) : B.length ≤ 80 := by
  have hp0 := hd.1
  apply Classical.byContradiction
  intro hc
  have hlt : 0 < B.length := by omega
  cases hb : B.getD 0 false with
  | false => rw [readD_low hb (by omega)] at h; cases h
  | true =>
    obtain ⟨w, q, e, hr⟩ : ∃ w q er, readR B (0 + 1) d.k1 = (w, q, er) := ⟨_, _, _, rfl⟩
    by_cases h0 : e = 0
    · subst h0
      by_cases hg : 4294967295 < w + 2 ^ d.k0
      · rw [readD_great hlt hb hr hg] at h; cases h
      · rw [readD_high hlt hb hr (by omega)] at h; cases h
    · rw [readD_no hlt hb hr h0] at h
      cases h
      obtain ⟨q, m, e, hv⟩ : ∃ q m e, readV B (0 + 1) = (q, m, e) := ⟨_, _, _, rfl⟩
      by_cases h1 : e = 0
      · subst h1
        obtain ⟨hq, -, hm, hmB, -⟩ := read_is hv (by omega)
        have hrl : runLen q ≤ 48 := by unfold runLen; split <;> omega
        have hrk : q < 48 → runLen q + lowN q d.k1 ≤ 72 := fun h => by have := hd.2.1; unfold lowN; rw [if_pos h]; omega
        by_cases hs : B.length < m + lowN q d.k1
        · by_cases h48 : q < 48
          · have := hrk h48; omega
          · obtain rfl : q = 48 := by omega
            have : lowN 48 d.k1 = 32 := rfl
            omega
        · by_cases h48 : q < 48
          · have el : lowN q d.k1 = d.k1 := if_pos h48
            rw [el] at hs
            rw [readR_less hv (by omega) h48] at hr; cases hr
          · obtain rfl : q = 48 := by omega
            have el : lowN 48 d.k1 = 32 := rfl
            rw [el] at hs
            by_cases hp : partN (natB (midB B m (m + 32))) d.k1 = 48
            · rw [readR_full hv (by omega) hp] at hr; cases hr
            · rw [readR_form hv (by omega) hp] at hr; cases hr
      · obtain ⟨-, -, -, h3, h4⟩ := read_no hv h1 (by omega)
        omega

/-! ### feeding -/
/-- numbers, the rest, how many are left, the state, the error -/
structure Fed where
  l : List Nat
  r : List Bool
  n : Nat
  d : Du
  e : Nat
def fedE (er : Nat) : Fed := ⟨[], [], 0, ⟨0, 0, 0, 0⟩, er⟩
def glueF (l : List Nat) (f : Fed) : Fed := if f.e ≠ 0 then fedE f.e else ⟨l ++ f.l, f.r, f.n, f.d, 0⟩
theorem glueF_er (l : List Nat) {f : Fed} (h : f.e ≠ 0) : glueF l f = fedE f.e := if_pos h
theorem glueF_E (l : List Nat) {er : Nat} (h : er ≠ 0) : glueF l (fedE er) = fedE er := if_pos h
theorem glueF_ok (l m : List Nat) (r : List Bool) (n : Nat) (d : Du) : glueF l ⟨m, r, n, d, 0⟩ = ⟨l ++ m, r, n, d, 0⟩ := if_neg (fun h => h rfl)
theorem glueF_glue (l m : List Nat) (f : Fed) : glueF l (glueF m f) = glueF (l ++ m) f := by
  obtain ⟨x, r, n, d, e⟩ := f
  by_cases he : e = 0
  · subst he; rw [glueF_ok, glueF_ok, glueF_ok, List.append_assoc]
  · rw [glueF_er m (f := ⟨x, r, n, d, e⟩) he, glueF_er (l ++ m) (f := ⟨x, r, n, d, e⟩) he, glueF_E l he]
/-- all numbers that there are, at most n -/
def fed : Nat → List Bool → Du → Fed
  | 0, B, d => if 8 ≤ B.length then fedE 38 else ⟨[], B, 0, d, 0⟩
  | n + 1, B, d => if (readD B 0 d).2.2 = 24 then ⟨[], B, n + 1, d, 0⟩ else if (readD B 0 d).2.2 ≠ 0 then fedE (readD B 0 d).2.2
      else glueF [(readD B 0 d).1] (fed n (B.drop (readD B 0 d).2.1) (learnD d (readD B 0 d).1))
theorem fed_more {B : List Bool} (d : Du) (h : 8 ≤ B.length) : fed 0 B d = fedE 38 := if_pos h
theorem fed_none {B : List Bool} (d : Du) (h : B.length < 8) : fed 0 B d = ⟨[], B, 0, d, 0⟩ := if_neg (by omega)
theorem fed_wait {B : List Bool} {n : Nat} {d : Du} {v p : Nat} (h : readD B 0 d = (v, p, 24)) : fed (n + 1) B d = ⟨[], B, n + 1, d, 0⟩ := by
  rw [fed, h, if_pos rfl]
theorem fed_er {B : List Bool} {n : Nat} {d : Du} {v p er : Nat} (h : readD B 0 d = (v, p, er)) (h24 : er ≠ 24) (h0 : er ≠ 0) : fed (n + 1) B d = fedE er := by
  rw [fed, h, if_neg h24, if_pos h0]
theorem fed_next {B : List Bool} {n : Nat} {d : Du} {v p : Nat} (h : readD B 0 d = (v, p, 0)) : fed (n + 1) B d = glueF [v] (fed n (B.drop p) (learnD d v)) := by
  rw [fed, h, if_neg (by simp), if_neg (fun h => h rfl)]
theorem glueF_nil {f : Fed} (h : f.e = 0) : glueF [] f = f := by
  obtain ⟨x, r, n, d, e⟩ := f
  obtain rfl : e = 0 := h
  rw [glueF_ok, List.nil_append]
/-- what feeding says: all its parts -/
theorem fed_is : ∀ (n : Nat) (B : List Bool) (d : Du), d.ok → (fed n B d).e = 0 → ∃ l r k, fed n B d = ⟨l, r, k, after d l, 0⟩ ∧ k + l.length = n ∧ (∀ x ∈ l, x < 4294967296) ∧ B = codesD d l ++ r ∧ (k = 0 → r.length < 8) ∧ (k ≠ 0 → readD r 0 (after d l) = (0, 0, 24))
  | 0, B, d, _, h => by
    by_cases h8 : 8 ≤ B.length
    · rw [fed_more d h8] at h; cases h
    · exact ⟨[], B, 0, by rw [fed_none d (by omega)]; rfl, rfl, fun x hx => (by cases hx), rfl, fun _ => by omega, fun h => absurd rfl h⟩
  | n + 1, B, d, hd, h => by
    obtain ⟨v, p, er, hr⟩ : ∃ v p er, readD B 0 d = (v, p, er) := ⟨_, _, _, rfl⟩
    by_cases h24 : er = 24
    · subst h24
      obtain ⟨rfl, rfl, -⟩ := dual_no hr (by decide) hd.1 hd.2.1
      exact ⟨[], B, n + 1, by rw [fed_wait hr]; rfl, by simp, fun x hx => (by cases hx), rfl, fun h => (by omega), fun _ => hr⟩
    · by_cases h0 : er = 0
      · subst h0
        obtain ⟨hv, hp, hpB, hm⟩ := dual_is hr (Nat.zero_le _) hd.1 hd.2.1
        rw [fed_next hr] at h
        have he : (fed n (B.drop p) (learnD d v)).e = 0 := by
          apply Classical.byContradiction
          intro hc
          rw [glueF_er _ hc] at h
          exact hc h
        obtain ⟨l, r, k, h1, h2, h3, h4, h5, h6⟩ := fed_is n (B.drop p) (learnD d v) (learnD_ok hd hv) he
        refine ⟨v :: l, r, k, by rw [fed_next hr, h1, glueF_ok]; rfl, by simp; omega, fun x hx => ?_, ?_, h5, h6⟩
        · rcases List.mem_cons.1 hx with rfl | hx
          · exact hv
          · exact h3 x hx
        · simp only [codesD]
          rw [List.append_assoc, ← h4, ← hm]
          unfold midB
          rw [List.drop_zero, Nat.sub_zero, List.take_append_drop]
      · rw [fed_er hr h24 h0] at h; exact absurd h h0
theorem fed_no : ∀ (n : Nat) (B : List Bool) (d : Du), d.ok → (fed n B d).e ≠ 0 → (fed n B d = fedE 12 ∨ fed n B d = fedE 38)
  | 0, B, d, _, h => by
    by_cases h8 : 8 ≤ B.length
    · exact .inr (fed_more d h8)
    · rw [fed_none d (by omega)] at h; exact absurd rfl h
  | n + 1, B, d, hd, h => by
    obtain ⟨v, p, er, hr⟩ : ∃ v p er, readD B 0 d = (v, p, er) := ⟨_, _, _, rfl⟩
    by_cases h24 : er = 24
    · subst h24
      rw [fed_wait hr] at h; exact absurd rfl h
    · by_cases h0 : er = 0
      · subst h0
        obtain ⟨hv, hp, hpB, hm⟩ := dual_is hr (Nat.zero_le _) hd.1 hd.2.1
        rw [fed_next hr] at h ⊢
        have he : (fed n (B.drop p) (learnD d v)).e ≠ 0 := by
          intro hc
          rcases hf : fed n (B.drop p) (learnD d v) with ⟨x, r, k, d', e⟩
          rw [hf] at h hc
          obtain rfl : e = 0 := hc
          rw [glueF_ok] at h
          exact h rfl
        rcases fed_no n (B.drop p) (learnD d v) (learnD_ok hd hv) he with h1 | h1
        · left; rw [h1, glueF_E _ (by decide)]
        · right; rw [h1, glueF_E _ (by decide)]
      · obtain ⟨-, -, h3⟩ := dual_no hr h0 hd.1 hd.2.1
        left; rw [fed_er hr h24 h0]; congr 1; omega
/-- pieces do not matter -/
theorem fed_pieces : ∀ (n : Nat) (B C : List Bool) (d : Du), d.ok → fed n (B ++ C) d = if (fed n B d).e ≠ 0 then fed n B d else glueF (fed n B d).l (fed (fed n B d).n ((fed n B d).r ++ C) (fed n B d).d)
  | 0, B, C, d, _ => by
    by_cases h8 : 8 ≤ B.length
    · rw [fed_more d h8, fed_more d (by rw [List.length_append]; omega)]; rfl
    · rw [fed_none (B := B) d (by omega)]
      simp only
      rw [if_neg (fun h => h rfl)]
      by_cases h2 : 8 ≤ (B ++ C).length
      · rw [fed_more d h2, glueF_E _ (by decide)]
      · rw [fed_none d (by omega), glueF_ok, List.nil_append]
  | n + 1, B, C, d, hd => by
    obtain ⟨v, p, er, hr⟩ : ∃ v p er, readD B 0 d = (v, p, er) := ⟨_, _, _, rfl⟩
    by_cases h24 : er = 24
    · subst h24
      rw [fed_wait hr]
      simp only
      rw [if_neg (fun h => h rfl)]
      by_cases hc : (fed (n + 1) (B ++ C) d).e = 0
      · rw [glueF_nil hc]
      · rcases fed_no _ _ _ hd hc with h | h <;> rw [h, glueF_E _ (by decide)]
    · by_cases h0 : er = 0
      · subst h0
        obtain ⟨hv, hp, hpB, hm⟩ := dual_is hr (Nat.zero_le _) hd.1 hd.2.1
        have h2 := dual_more hr (Nat.zero_le _) hd.1 hd.2.1 C
        have ih := fed_pieces n (B.drop p) C (learnD d v) (learnD_ok hd hv)
        rw [fed_next h2, fed_next hr, List.drop_append_of_le_length hpB, ih]
        by_cases he : (fed n (B.drop p) (learnD d v)).e = 0
        · obtain ⟨l, r, k, h1, -⟩ := fed_is n (B.drop p) (learnD d v) (learnD_ok hd hv) he
          rw [h1, glueF_ok]
          simp only
          rw [if_neg (fun h => h rfl), if_neg (fun h => h rfl), glueF_glue]
        · rw [if_pos he]
          rcases fed_no n (B.drop p) (learnD d v) (learnD_ok hd hv) he with h | h <;> rw [h, glueF_E _ (by decide)] <;> rfl
      · rw [fed_er hr h24 h0, fed_er (dual_form hr h0 h24 (Nat.zero_le _) hd C) h24 h0, if_pos (show (fedE er).e ≠ 0 from h0)]
/-- codes ahead of other bits -/
theorem fed_codes : ∀ (l : List Nat) (k : Nat) (C : List Bool) (d : Du), (∀ x ∈ l, x < 4294967296) → d.ok → fed (l.length + k) (codesD d l ++ C) d = (if (fed k C (after d l)).e ≠ 0 then fed k C (after d l) else glueF l (fed k C (after d l)))
  | [], k, C, d, _, hd => by
    rw [List.length_nil, Nat.zero_add]
    show fed k C d = if (fed k C d).e ≠ 0 then fed k C d else glueF [] (fed k C d)
    by_cases hc : (fed k C d).e = 0
    · rw [if_neg (fun h => h hc), glueF_nil hc]
    · rw [if_pos hc]
  | v :: l, k, C, d, h, hd => by
    have hv := h v (List.mem_cons_self ..)
    have e : codesD d (v :: l) ++ C = [] ++ dualB d v ++ (codesD (learnD d v) l ++ C) := by simp [codesD]
    have h1 := read_dual [] (codesD (learnD d v) l ++ C) hv (d := d)
    rw [← e, List.length_nil, Nat.zero_add] at h1
    have ih := fed_codes l k C (learnD d v) (fun x hx => h x (List.mem_cons_of_mem _ hx)) (learnD_ok hd hv)
    have hdrop : (codesD d (v :: l) ++ C).drop (dualLen d v) = codesD (learnD d v) l ++ C := by
      simp only [codesD]
      rw [List.append_assoc, ← dualB_len d v, List.drop_left]
    rw [show (v :: l).length + k = (l.length + k) + 1 by simp; omega, fed_next h1, hdrop, ih]
    show glueF [v] (if (fed k C (after (learnD d v) l)).e ≠ 0 then _ else _) = if (fed k C (after (learnD d v) l)).e ≠ 0 then _ else _
    by_cases hc : (fed k C (after (learnD d v) l)).e = 0
    · rw [if_neg (fun h => h hc), if_neg (fun h => h hc), glueF_glue]; rfl
    · rw [if_pos hc, if_pos hc]
      have hok : (after (learnD d v) l).ok := after_ok l (learnD_ok hd hv) fun x hx => h x (List.mem_cons_of_mem _ hx)
      rcases fed_no _ _ _ hok hc with h' | h' <;> (rw [h', glueF_E _ (by decide)]; exact h'.symm)

/-! ### the bits of bytes -/
def bytesB : List Nat → List Bool
  | [] => []
  | v :: l => numB v 8 ++ bytesB l
theorem bytesB_append : ∀ (l m : List Nat), bytesB (l ++ m) = bytesB l ++ bytesB m
  | [], m => rfl
  | v :: l, m => by
    show numB v 8 ++ bytesB (l ++ m) = numB v 8 ++ bytesB l ++ bytesB m
    rw [bytesB_append l m, List.append_assoc]
theorem bytesB_len : ∀ (l : List Nat), (bytesB l).length = 8 * l.length
  | [] => rfl
  | v :: l => by
    show (numB v 8 ++ bytesB l).length = 8 * (l.length + 1)
    rw [List.length_append, numB_len, bytesB_len l]; omega
theorem bytesB_take_succ (l : List Nat) {k : Nat} (h : k < l.length) : bytesB (l.take (k + 1)) = bytesB (l.take k) ++ numB (l.getD k 0) 8 := by
  have e : l.take (k + 1) = l.take k ++ [l.getD k 0] := by
    rw [List.take_succ_eq_append_getElem h]; simp [List.getD, h]
  rw [e, bytesB_append]; simp [bytesB]
theorem numB_get (v : Nat) {n i : Nat} (h : i < n) : (numB v n).getD i false = (v / 2 ^ i % 2 == 1) := by
  simp [numB, List.getD, h]
theorem bytesB_get : ∀ (l : List Nat) (i : Nat), i < 8 * l.length → (bytesB l).getD i false = (l.getD (i / 8) 0 / 2 ^ (i % 8) % 2 == 1)
  | [], i, h => by simp at h
  | v :: l, i, h => by
    show (numB v 8 ++ bytesB l).getD i false = _
    by_cases h8 : i < 8
    · rw [getD_ahead _ _ (by rw [numB_len]; exact h8), numB_get v h8, Nat.div_eq_of_lt h8, Nat.mod_eq_of_lt h8]; rfl
    · have e := getD_behind (numB v 8) (bytesB l) (i - 8)
      rw [numB_len, show 8 + (i - 8) = i by omega] at e
      rw [e, bytesB_get l (i - 8) (by simp at h; omega)]
      rw [show i / 8 = (i - 8) / 8 + 1 by omega, show i % 8 = (i - 8) % 8 by omega]; rfl
theorem pack_bytes {l : List Nat} (h : ∀ x ∈ l, x < 256) : pack (bytesB l) = l.map Int.ofNat := by
  have e : bytesB l = unpack (l.map Int.ofNat) (8 * l.length) := by
    apply ext_getD
    · rw [bytesB_len, unpack_len]
    · intro i hi
      rw [bytesB_len] at hi
      rw [bytesB_get l i hi, unpack_getD _ _ _ hi]
      unfold bit
      have e : ((l.map Int.ofNat).getD (i / 8) 0).toNat = l.getD (i / 8) 0 := by
        have hj : i / 8 < l.length := by omega
        simp [List.getD, hj]
      rw [e]
  rw [e]
  refine pack_unpack (fun x hx => ?_) (by simp; omega) fun i h1 h2 => ?_
  · obtain ⟨y, hy, rfl⟩ := List.mem_map.1 hx
    have := h y hy
    simp; omega
  · simp at h2; omega
end Cad

/- Variables that hold a state of resume: seven cells; results of functions that hand one back. -/
namespace Go.Proofs.Ythbjcjphplgobaa
open Go.RowKit Cad

/-- a variable that holds a state of resume: its block -/
def ResAt (w : World) (x : Nat) (n a b c d : Int) (v : Value) (N : Int) : Prop := w.heap[x]? = some (.cells #[.int .i64 n, .int .i64 a, .int .i64 b, .int .u64 c, .int .u64 d, v, .int .i64 N] 63)
section
variable {w w' : World} {x : Nat} {n a b c d N : Int} {v : Value}
theorem ResAt.cells (h : ResAt w x n a b c d v N) : w.cell? ⟨x, 0, none⟩ = some (.int .i64 n) ∧ w.cell? ⟨x, 1, none⟩ = some (.int .i64 a) ∧ w.cell? ⟨x, 2, none⟩ = some (.int .i64 b) ∧ w.cell? ⟨x, 3, none⟩ = some (.int .u64 c) ∧ w.cell? ⟨x, 4, none⟩ = some (.int .u64 d) ∧ w.cell? ⟨x, 5, none⟩ = some (v) ∧ w.cell? ⟨x, 6, none⟩ = some (.int .i64 N) ∧
    w.frozen? ⟨x, 0, none⟩ = false ∧ w.frozen? ⟨x, 1, none⟩ = false ∧ w.frozen? ⟨x, 2, none⟩ = false ∧ w.frozen? ⟨x, 3, none⟩ = false ∧ w.frozen? ⟨x, 4, none⟩ = false ∧ w.frozen? ⟨x, 5, none⟩ = false ∧ w.frozen? ⟨x, 6, none⟩ = false := by
  unfold ResAt at h
  refine ⟨?_, ?_, ?_, ?_, ?_, ?_, ?_, ?_, ?_, ?_, ?_, ?_, ?_, ?_⟩
  · unfold World.cell?; rw [h]; rfl
  · unfold World.cell?; rw [h]; rfl
  · unfold World.cell?; rw [h]; rfl
  · unfold World.cell?; rw [h]; rfl
  · unfold World.cell?; rw [h]; rfl
  · unfold World.cell?; rw [h]; rfl
  · unfold World.cell?; rw [h]; rfl
  · unfold World.frozen?; rw [h]; simp
  · unfold World.frozen?; rw [h]; simp
  · unfold World.frozen?; rw [h]; simp
  · unfold World.frozen?; rw [h]; simp
  · unfold World.frozen?; rw [h]; simp
  · unfold World.frozen?; rw [h]; simp
  · unfold World.frozen?; rw [h]; simp
theorem ResAt.lt (h : ResAt w x n a b c d v N) : x < w.heap.size := by
  apply Classical.byContradiction; intro hx; unfold ResAt at h; rw [Array.getElem?_eq_none (by omega)] at h; cases h
theorem ResAt.below {B : Nat} (h : ResAt w x n a b c d v N) (hb : Below B w w') (hx : x < B) : ResAt w' x n a b c d v N := by
  unfold ResAt at h ⊢
  rw [hb.block x hx, h]
theorem ResAt.alloc (h : ResAt w x n a b c d v N) (o : Obj) : ResAt (w.alloc o) x n a b c d v N := by
  have hx := h.lt
  unfold ResAt at h ⊢
  rw [Below.heap_alloc _ _ _ hx, h]
theorem ResAt.drew (h : ResAt w x n a b c d v N) : ResAt w.drew x n a b c d v N := h
theorem ResAt.kept {base : Nat} (h : ResAt w x n a b c d v N) (k : Kept base w w') : ResAt w' x n a b c d v N := by
  have hx := h.lt
  unfold ResAt at h ⊢
  rw [k.oth x hx (fun cur fr e => by rw [h] at e; simp at e), h]
theorem ResAt.other (h : ResAt w x n a b c d v N) {p : Addr} (hp : x ≠ p.block) (u : Value) : ResAt (w.setCell p u) x n a b c d v N := by
  unfold ResAt at h ⊢
  rw [Below.heap_setCell _ _ _ _ hp, h]
theorem ResAt.set0 (h : ResAt w x n a b c d v N) (z : Int) : ResAt (w.setCell ⟨x, 0, none⟩ (.int .i64 z)) x z a b c d v N := by
  unfold ResAt at h ⊢; exact heap_setCell_same _ _ 0 _ _ _ h
theorem ResAt.set1 (h : ResAt w x n a b c d v N) (z : Int) : ResAt (w.setCell ⟨x, 1, none⟩ (.int .i64 z)) x n z b c d v N := by
  unfold ResAt at h ⊢; exact heap_setCell_same _ _ 1 _ _ _ h
theorem ResAt.set2 (h : ResAt w x n a b c d v N) (z : Int) : ResAt (w.setCell ⟨x, 2, none⟩ (.int .i64 z)) x n a z c d v N := by
  unfold ResAt at h ⊢; exact heap_setCell_same _ _ 2 _ _ _ h
theorem ResAt.set3 (h : ResAt w x n a b c d v N) (z : Int) : ResAt (w.setCell ⟨x, 3, none⟩ (.int .u64 z)) x n a b z d v N := by
  unfold ResAt at h ⊢; exact heap_setCell_same _ _ 3 _ _ _ h
theorem ResAt.set4 (h : ResAt w x n a b c d v N) (z : Int) : ResAt (w.setCell ⟨x, 4, none⟩ (.int .u64 z)) x n a b c z v N := by
  unfold ResAt at h ⊢; exact heap_setCell_same _ _ 4 _ _ _ h
theorem ResAt.set5 (h : ResAt w x n a b c d v N) (z : Value) : ResAt (w.setCell ⟨x, 5, none⟩ (z)) x n a b c d z N := by
  unfold ResAt at h ⊢; exact heap_setCell_same _ _ 5 _ _ _ h
theorem ResAt.set6 (h : ResAt w x n a b c d v N) (z : Int) : ResAt (w.setCell ⟨x, 6, none⟩ (.int .i64 z)) x n a b c d v z := by
  unfold ResAt at h ⊢; exact heap_setCell_same _ _ 6 _ _ _ h
/-- the state of the code is written -/
theorem ResAt.setD (h : ResAt w x n a b c d v N) (i j k l : Int) : ResAt ((((w.setCell ⟨x, 1, none⟩ (.int .i64 i)).setCell ⟨x, 2, none⟩ (.int .i64 j)).setCell ⟨x, 3, none⟩ (.int .u64 k)).setCell ⟨x, 4, none⟩ (.int .u64 l)) x n i j k l v N :=
  (((h.set1 i).set2 j).set3 k).set4 l
/-- the bits are written -/
theorem ResAt.setB (h : ResAt w x n a b c d v N) (z : Value) (M : Int) : ResAt ((w.setCell ⟨x, 5, none⟩ (z)).setCell ⟨x, 6, none⟩ (.int .i64 M)) x n a b c d z M :=
  (h.set5 z).set6 M
/-- all is written -/
theorem ResAt.set (h : ResAt w x n a b c d v N) (m i j k l : Int) (z : Value) (M : Int) : ResAt (((((((w.setCell ⟨x, 0, none⟩ (.int .i64 m)).setCell ⟨x, 1, none⟩ (.int .i64 i)).setCell ⟨x, 2, none⟩ (.int .i64 j)).setCell ⟨x, 3, none⟩ (.int .u64 k)).setCell ⟨x, 4, none⟩ (.int .u64 l)).setCell ⟨x, 5, none⟩ (z)).setCell ⟨x, 6, none⟩ (.int .i64 M)) x m i j k l z M :=
  ((((((h.set0 m).set1 i).set2 j).set3 k).set4 l).set5 z).set6 M
theorem below7 {p B : Nat} {W : World} {m i j k l M : Int} {z : Value} (h : Below B W w) (hp : B ≤ p) : Below B W (((((((w.setCell ⟨p, 0, none⟩ (.int .i64 m)).setCell ⟨p, 1, none⟩ (.int .i64 i)).setCell ⟨p, 2, none⟩ (.int .i64 j)).setCell ⟨p, 3, none⟩ (.int .u64 k)).setCell ⟨p, 4, none⟩ (.int .u64 l)).setCell ⟨p, 5, none⟩ (z)).setCell ⟨p, 6, none⟩ (.int .i64 M)) :=
  ((((((h.setCell hp _).setCell hp _).setCell hp _).setCell hp _).setCell hp _).setCell hp _).setCell hp _
theorem ResAt.apart (h : ResAt w x n a b c d v N) {E : TypeId} (hE : E ≠ 63) {base m : Nat} {v' : Value} {xs : List Value} (ho : w.ownsRow base E 1 v' m xs) : ∀ g, v'.ownBlock = some g → g ≠ x := by
  intro g e
  rcases ho.2 with ⟨rfl, _⟩ | ⟨g', cap, cur, rfl, _, hh, _⟩
  · cases e
  · cases e
    rintro rfl
    unfold ResAt at h
    rw [h] at hh
    simp only [Option.some.injEq, Obj.cells.injEq] at hh
    exact hE hh.2.1.symm
/-- bytes and numbers stay where a state is written -/
theorem Row.boxR {k : IntKind} {aa : Option Addr} {len cap : Nat} {l : List Int} (hk : k = .u8 ∨ k = .u32) (h : Row k w aa len cap l) (hx : ∃ n a b c d al m e N, ResAt w x n a b c d (.slice al m e) N) (o : Nat) (u : Value) : Row k (w.setCell ⟨x, o, none⟩ u) aa len cap l := by
  obtain ⟨n, a, b, c, d, al, m, e, N, hx⟩ := hx
  refine ⟨h.hlen, h.hcap, h.hmax, h.wf, fun hp => ?_, h.nil⟩
  obtain ⟨b', off, rfl, hlt, hc⟩ := h.cells hp
  have hne : b' ≠ x := by
    rintro rfl
    have h0 := hc 0 hp
    unfold World.cell? at h0
    unfold ResAt at hx
    rw [hx] at h0
    rcases hk with rfl | rfl <;>
    match off, h0 with
    | 0, h0 => simp at h0
    | 1, h0 => simp at h0
    | 2, h0 => simp at h0
    | 3, h0 => simp at h0
    | 4, h0 => simp at h0
    | 5, h0 => simp at h0
    | 6, h0 => simp at h0
    | off + 7, h0 => simp at h0
  refine ⟨b', off, rfl, by simpa using hlt, fun i hi => ?_⟩
  rw [← hc i hi]
  unfold World.cell?
  rw [Below.heap_setCell _ _ _ _ (by simpa using hne)]
theorem rows7 {k : IntKind} {aa : Option Addr} {len cap : Nat} {z : List Int} (hk : k = .u8 ∨ k = .u32) (h : Row k w aa len cap z) {al : Option Addr} {q e : Nat} (hx : ResAt w x n a b c d (.slice al q e) N) {m i j k' l M : Int} {al' : Option Addr} {q' e' : Nat} : Row k (((((((w.setCell ⟨x, 0, none⟩ (.int .i64 m)).setCell ⟨x, 1, none⟩ (.int .i64 i)).setCell ⟨x, 2, none⟩ (.int .i64 j)).setCell ⟨x, 3, none⟩ (.int .u64 k')).setCell ⟨x, 4, none⟩ (.int .u64 l)).setCell ⟨x, 5, none⟩ (.slice al' q' e')).setCell ⟨x, 6, none⟩ (.int .i64 M)) aa len cap z := by
  have r0 := Row.boxR hk h ⟨_, _, _, _, _, _, _, _, _, hx⟩ 0 (.int .i64 m)
  have x0 := hx.set0 m
  have r1 := Row.boxR hk r0 ⟨_, _, _, _, _, _, _, _, _, x0⟩ 1 (.int .i64 i)
  have x1 := x0.set1 i
  have r2 := Row.boxR hk r1 ⟨_, _, _, _, _, _, _, _, _, x1⟩ 2 (.int .i64 j)
  have x2 := x1.set2 j
  have r3 := Row.boxR hk r2 ⟨_, _, _, _, _, _, _, _, _, x2⟩ 3 (.int .u64 k')
  have x3 := x2.set3 k'
  have r4 := Row.boxR hk r3 ⟨_, _, _, _, _, _, _, _, _, x3⟩ 4 (.int .u64 l)
  have x4 := x3.set4 l
  have r5 := Row.boxR hk r4 ⟨_, _, _, _, _, _, _, _, _, x4⟩ 5 (.slice al' q' e')
  have x5 := x4.set5 (.slice al' q' e')
  exact Row.boxR hk r5 ⟨_, _, _, _, _, _, _, _, _, x5⟩ 6 (.int .i64 M)
end
theorem resat1 (W : World) (n a b c d : Int) (v : Value) (N : Int) : ResAt (W.alloc (.cells #[.int .i64 n, .int .i64 a, .int .i64 b, .int .u64 c, .int .u64 d, v, .int .i64 N] 63)) W.heap.size n a b c d v N := heap_alloc_new _ _
theorem resat2 (w : World) (o : Obj) (n a b c d : Int) (v : Value) (N : Int) : ResAt ((w.alloc o).alloc (.cells #[.int .i64 n, .int .i64 a, .int .i64 b, .int .u64 c, .int .u64 d, v, .int .i64 N] 63)) (w.heap.size + 1) n a b c d v N := by
  unfold ResAt; rw [heap_alloc2_new]
/-- a state that comes in, and one that goes out -/
theorem rr_boxes (W : World) (n a b c d : Int) (v : Value) (N : Int) : ∃ W0, W0 = (W.alloc (.cells #[.int .i64 n, .int .i64 a, .int .i64 b, .int .u64 c, .int .u64 d, v, .int .i64 N] 63)).alloc (.cells #[.int .i64 0, .int .i64 0, .int .i64 0, .int .u64 0, .int .u64 0, .slice none 0 0, .int .i64 0] 63) ∧ Below W.heap.size W W0 ∧ W0.heap.size = W.heap.size + 1 + 1 ∧
    ResAt W0 W.heap.size n a b c d v N ∧ ResAt W0 (W.heap.size + 1) 0 0 0 0 0 (.slice none 0 0) 0 :=
  ⟨_, rfl, ((Below.refl W.heap.size W).alloc (Nat.le_refl _) _).alloc (by simp) _, by simp, (resat1 W n a b c d v N).alloc _, resat2 W _ 0 0 0 0 0 _ 0⟩
theorem two_res (W : World) (n a b c d : Int) (v : Value) (N : Int) (n' a' b' c' d' : Int) (v' : Value) (N' : Int) : ∃ W0, W0 = (W.alloc (.cells #[.int .i64 n, .int .i64 a, .int .i64 b, .int .u64 c, .int .u64 d, v, .int .i64 N] 63)).alloc (.cells #[.int .i64 n', .int .i64 a', .int .i64 b', .int .u64 c', .int .u64 d', v', .int .i64 N'] 63) ∧ Below W.heap.size W W0 ∧ W0.heap.size = W.heap.size + 1 + 1 ∧
    ResAt W0 W.heap.size n a b c d v N ∧ ResAt W0 (W.heap.size + 1) n' a' b' c' d' v' N' :=
  ⟨_, rfl, ((Below.refl W.heap.size W).alloc (Nat.le_refl _) _).alloc (by simp) _, by simp, (resat1 W n a b c d v N).alloc _, resat2 W _ n' a' b' c' d' _ N'⟩

theorem results_res_tmp {fn : Func} {p u : Tmp} (h : fn.results = #[.cell p 63, .tmp u]) (tmps : Array Value) (w : World) (x : Nat) (n a b c d : Int) (v : Value) (N : Int) (hp : tmps.getD p undef = .pointer (some ⟨x, 0, none⟩)) (hx : ResAt w x n a b c d v N) :
    (results fn tmps).run Try.prog w = .ok (.tuple #[.agg #[.int .i64 n, .int .i64 a, .int .i64 b, .int .u64 c, .int .u64 d, v, .int .i64 N], tmps.getD u undef]) w := by
  rw [results_cell_tmp h, hp]
  have := run_loadVar_row (P := Try.prog) w x _ 63 _ _ _ hx Try.underlying63 rfl (by kernel_rfl)
  simp [asAddr, Sem.run_pure, this]
theorem results_res_two {fn : Func} {p s u : Tmp} (h : fn.results = #[.cell p 63, .tmp s, .tmp u]) (tmps : Array Value) (w : World) (x : Nat) (n a b c d : Int) (v : Value) (N : Int) (hp : tmps.getD p undef = .pointer (some ⟨x, 0, none⟩)) (hx : ResAt w x n a b c d v N) :
    (results fn tmps).run Try.prog w = .ok (.tuple #[.agg #[.int .i64 n, .int .i64 a, .int .i64 b, .int .u64 c, .int .u64 d, v, .int .i64 N], tmps.getD s undef, tmps.getD u undef]) w := by
  have h1 := run_loadVar_row (P := Try.prog) w x _ 63 _ _ _ hx Try.underlying63 rfl (by kernel_rfl)
  have hp' : tmps[p]?.getD undef = .pointer (some ⟨x, 0, none⟩) := by simpa using hp
  simp [results, h, hp', asAddr, h1]
end Go.Proofs.Ythbjcjphplgobaa

/- Contracts of the reference of resume: Start, Check, comparisons. -/
namespace Go.Proofs.Ythbjcjphplgobaa
open Go.RowKit Cad

/-- a valid state -/
structure ResOkN (n : Nat) (D : Du) (B : List Bool) : Prop where
  n4 : n ≤ 4000
  d : D.ok
  b : B.length ≤ 330000
  zero : n = 0 → B.length < 8
  wait : n ≠ 0 → readD B 0 D = (0, 0, 24)
theorem ResOkN.b80 {n : Nat} {D : Du} {B : List Bool} (h : ResOkN n D B) : B.length ≤ 80 := by
  by_cases h0 : n = 0
  · have := h.zero h0; omega
  · exact short_le (h.wait h0) h.d
def ResOk (n a b c d : Int) (l : List Int) (N : Int) : Prop := ∃ (m : Nat) (D : Du) (B : List Bool), ResOkN m D B ∧ n = m ∧ a = D.k0 ∧ b = D.k1 ∧ c = D.s0 ∧ d = D.s1 ∧ l = pack B ∧ N = B.length
def chkS (n a b c d : Int) (l : List Int) (N r : Int) : Prop := (ResOk n a b c d l N ∧ r = 0) ∨ (¬ ResOk n a b c d l N ∧ r = 8)
theorem chkS_any (n a b c d : Int) (l : List Int) (N : Int) : ∃ r, chkS n a b c d l N r := by
  by_cases h : ResOk n a b c d l N
  · exact ⟨0, .inl ⟨h, rfl⟩⟩
  · exact ⟨8, .inr ⟨h, rfl⟩⟩

end Go.Proofs.Ythbjcjphplgobaa

/- Contracts of the reference of resume: Check. -/
namespace Go.Proofs.Ythbjcjphplgobaa
open Go.RowKit Cad

end Go.Proofs.Ythbjcjphplgobaa

/- Contracts of the reference of resume: Fed. -/
namespace Go.Proofs.Ythbjcjphplgobaa
open Go.RowKit Cad

/-- a call that hands back a state, numbers and an error -/
def ResF (f : FuncId) (args : Array Value) (W : World) (F : Fed) : Prop :=
  Calls Try.prog f args W fun r W' => ∃ bb cc a m c, r = .returned (.tuple #[.agg #[.int .i64 F.n, .int .i64 F.d.k0, .int .i64 F.d.k1, .int .u64 F.d.s0, .int .u64 F.d.s1, .slice bb ((F.r.length + 7) / 8) cc, .int .i64 F.r.length], .slice a m c, .int .i64 F.e]) ∧
    Row .u8 W' bb ((F.r.length + 7) / 8) cc (pack F.r) ∧ Row .u32 W' a m c (F.l.map Int.ofNat) ∧ Below W.heap.size W W'
theorem pack_nil : pack [] = [] := by rfl
theorem row_fedE (w : World) (e : Nat) : Row .u8 w Option.none (((fedE e).r.length + 7) / 8) 0 (pack (fedE e).r) := by
  have h1 : (fedE e).r = [] := rfl
  rw [h1, pack_nil, show (([] : List Bool).length + 7) / 8 = 0 by decide]; exact Row.nil_row _ _
theorem ResF.none {f : FuncId} {args : Array Value} {W : World} {e : Nat} (h : Calls Try.prog f args W fun r W' => r = .returned (.tuple #[.agg #[.int .i64 0, .int .i64 0, .int .i64 0, .int .u64 0, .int .u64 0, .slice none 0 0, .int .i64 0], .slice none 0 0, .int .i64 e]) ∧ Below W.heap.size W W') : ResF f args W (fedE e) :=
  h.mono fun _ _ ⟨h1, h2⟩ => ⟨Option.none, 0, Option.none, 0, 0, by rw [h1]; simp [fedE], row_fedE _ _, Row.nil_row _ _, h2⟩

/-- all blocks but x are as they were -/
structure Bex (x : Nat) (w w' : World) : Prop where
  size : w.heap.size ≤ w'.heap.size
  same : ∀ b, b < w.heap.size → b ≠ x → w'.heap[b]? = w.heap[b]?
theorem Bex.refl (x : Nat) (w : World) : Bex x w w := ⟨Nat.le_refl _, fun _ _ _ => rfl⟩
theorem Bex.below {x B : Nat} {w w' w'' : World} (h : Bex x w w') (hb : Below B w' w'') (hB : w.heap.size ≤ B) : Bex x w w'' :=
  ⟨Nat.le_trans h.size hb.size, fun b hl hn => by rw [hb.block b (by omega), h.same b hl hn]⟩
theorem Bex.set {x : Nat} {w w' : World} (h : Bex x w w') (o : Nat) (u : Value) : Bex x w (w'.setCell ⟨x, o, none⟩ u) :=
  ⟨by simpa using h.size, fun b hl hn => by rw [Below.heap_setCell _ _ _ _ (by simpa using hn), h.same b hl hn]⟩
theorem Row.bex {k : IntKind} {x : Nat} {w w' : World} {aa : Option Addr} {len cap : Nat} {l : List Int} (hk : k = .u8 ∨ k = .u32) (h : Row k w aa len cap l) (hx : ∃ n a b c d al m e N, ResAt w x n a b c d (.slice al m e) N) (hb : Bex x w w') : Row k w' aa len cap l := by
  obtain ⟨n, a, b, c, d, al, m, e, N, hx⟩ := hx
  refine ⟨h.hlen, h.hcap, h.hmax, h.wf, fun hp => ?_, h.nil⟩
  obtain ⟨b', off, rfl, hlt, hc⟩ := h.cells hp
  have hne : b' ≠ x := by
    rintro rfl
    have h0 := hc 0 hp
    unfold World.cell? at h0
    unfold ResAt at hx
    rw [hx] at h0
    rcases hk with rfl | rfl <;>
    match off, h0 with
    | 0, h0 => simp at h0
    | 1, h0 => simp at h0
    | 2, h0 => simp at h0
    | 3, h0 => simp at h0
    | 4, h0 => simp at h0
    | 5, h0 => simp at h0
    | 6, h0 => simp at h0
    | off + 7, h0 => simp at h0
  refine ⟨b', off, rfl, Nat.lt_of_lt_of_le hlt hb.size, fun i hi => ?_⟩
  rw [← hc i hi]
  unfold World.cell?
  rw [hb.same b' hlt hne]

end Go.Proofs.Ythbjcjphplgobaa
