/- Texts of the proof, one behind the other: CodC, CodD, CodL, CodN. -/
import Derived.Test.YtifbigmgiakakaaZ8
/- Contracts of the package coder: Encode and After. -/
namespace Go.Proofs.Ytifbigmgiakakaa
open Go.RowKit Cad

theorem map_drop (m : List Nat) (h : Nat) : (m.map Int.ofNat).drop h = (m.drop h).map Int.ofNat := by simp
theorem map_take (m : List Nat) (h : Nat) : (m.map Int.ofNat).take h = (m.take h).map Int.ofNat := by simp

/-- the code of numbers from a state on, and the state behind them -/
theorem Pcode_ok : ∀ (n : Nat) (W : World) (al : Option Addr) (ll cl : Nat) (m : List Nat) (D : Du), ll ≤ n → Row .u32 W al ll cl (m.map Int.ofNat) → ll ≤ 4000 → m.length = ll → (∀ x ∈ m, x < 4294967296) → D.ok →
    ResD 30 #[.slice al ll cl, .agg #[.int .i64 D.k0, .int .i64 D.k1, .int .u64 D.s0, .int .u64 D.s1]] W (((codesD D m).length + 7) / 8) (pack (codesD D m)) (codesD D m).length (after D m).k0 (after D m).k1 (after D m).s0 (after D m).s1 0 := by
  intro n
  induction n with
  | zero =>
    intro W al ll cl m D hn hl h4 hm h32 hd
    obtain rfl : ll = 0 := by omega
    obtain rfl : m = [] := List.length_eq_zero_iff.1 hm
    rw [show codesD D [] = [] from rfl, show after D [] = D from rfl, show pack [] = [] by rfl]; exact Pcode_nil W al cl D
  | succ n ih =>
    intro W al ll cl m D hn hl h4 hm h32 hd
    by_cases h0 : ll = 0
    · subst h0
      obtain rfl : m = [] := List.length_eq_zero_iff.1 hm
      rw [show codesD D [] = [] from rfl, show after D [] = D from rfl, show pack [] = [] by rfl]; exact Pcode_nil W al cl D
    by_cases h1 : ll = 1
    · subst h1
      obtain ⟨v, rfl⟩ := List.length_eq_one_iff.1 hm
      have hv := h32 v (by simp)
      have e : codesD D [v] = dualB D v := by simp [codesD]
      rw [e]
      refine Pcode_one W al cl _ v D (after D [v]) hl rfl _ _ _ fun w => ?_
      rw [dualB_len]
      exact DWrite_alone w D v hd hv _ _ rfl rfl _ rfl (after D [v]) rfl
    obtain ⟨b, o, rfl, -, -⟩ := hl.cells (by omega)
    obtain ⟨h, hh⟩ : ∃ h, h = ll / 2 := ⟨_, rfl⟩
    have hE := after_ok (m.take h) hd fun x hx => h32 x (List.mem_of_mem_take hx)
    have hs : codesD D m = codesD D (m.take h) ++ codesD (after D (m.take h)) (m.drop h) := by rw [← codesD_append, List.take_append_drop]
    have ha : after D m = after (after D (m.take h)) (m.drop h) := by rw [← after_append, List.take_append_drop]
    have l1 : (m.take h).length = h := by rw [List.length_take]; omega
    have l2 : (m.drop h).length = ll - h := by rw [List.length_drop]; omega
    have b1 := codesD_len_le (m.take h) hd fun x hx => h32 x (List.mem_of_mem_take hx)
    have b2 := codesD_len_le (m.drop h) hE fun x hx => h32 x (List.mem_of_mem_drop hx)
    rw [ha, hs]
    refine Pcode_more W b o ll cl _ D (after D (m.take h)) (after (after D (m.take h)) (m.drop h)) h hl h4 (by omega) hh (((codesD D (m.take h)).length + 7) / 8) (pack (codesD D (m.take h))) (codesD D (m.take h)).length (((codesD (after D (m.take h)) (m.drop h)).length + 7) / 8) (pack (codesD (after D (m.take h)) (m.drop h))) (codesD (after D (m.take h)) (m.drop h)).length _ _ _ (fun w hw => ?_) (fun w hw => ?_) (fun w c k c' k' r r' => ?_)
    rotate_left 2
    · have := BJoin_ok w c _ k _ r c' _ k' _ r' (by omega)
      rw [← List.length_append] at this
      exact this
    · have hr := hw.take h (by omega)
      rw [map_take] at hr
      exact ih w _ h cl (m.take h) D (by omega) hr (by omega) l1 (fun x hx => h32 x (List.mem_of_mem_take hx)) hd
    · have hr := hw.sub h (ll - h) (by omega)
      rw [map_drop, List.take_of_length_le (by simp; omega)] at hr
      exact ih w _ (ll - h) (cl - h) (m.drop h) _ (by omega) hr (by omega) l2 (fun x hx => h32 x (List.mem_of_mem_drop hx)) hE
set_option maxRecDepth 100000 in
theorem PEncode_many (W : World) (al : Option Addr) (ll cl : Nat) (h : (4000 : Int) < ll) (_hl : ll ≤ 9223372036854775807) :
    Calls Try.prog 11 #[.slice al ll cl] W fun e W' => e = .returned (.tuple #[.agg #[.slice none 0 0, .int .i64 0], .int .i64 4]) ∧ Below W.heap.size W W' := by
  go_enter Try.func11, Try.ntmps11
  go_wp2
  go_returns
  exact ⟨rfl, (Below.refl _ _).alloc (Nat.le_refl _) _⟩
set_option maxRecDepth 100000 in
theorem PAfter_many (W : World) (al : Option Addr) (ll cl : Nat) (h : (4000 : Int) < ll) (_hl : ll ≤ 9223372036854775807) :
    Calls Try.prog 12 #[.slice al ll cl] W fun e W' => e = .returned (.tuple #[.agg #[.int .i64 0, .int .i64 0, .int .u64 0, .int .u64 0], .int .i64 4]) ∧ Below W.heap.size W W' := by
  go_enter Try.func12, Try.ntmps12
  go_wp2
  go_returns
  exact ⟨rfl, (Below.refl _ _).alloc (Nat.le_refl _) _⟩

set_option maxRecDepth 100000 in
set_option maxHeartbeats 1000000 in
theorem PEncode_ok (W : World) (al : Option Addr) (ll cl : Nat) (m : List Nat) (hl : Row .u32 W al ll cl (m.map Int.ofNat)) (h4 : ll ≤ 4000) (hm : m.length = ll) (hm32 : ∀ x ∈ m, x < 4294967296) :
    Res 11 #[.slice al ll cl] W (((codesD dStart m).length + 7) / 8) (pack (codesD dStart m)) (codesD dStart m).length 0 := by
  have st := Go.Lib.hid Dstart_ok
  have hc := Go.Lib.hid fun w hw => Pcode_ok ll w al ll cl m dStart (Nat.le_refl _) hw h4 hm hm32 dStart_ok
  unfold ResD at hc
  obtain ⟨E, hE⟩ : ∃ E, E = after dStart m := ⟨_, rfl⟩
  obtain ⟨X, hX⟩ : ∃ X, X = codesD dStart m := ⟨_, rfl⟩
  obtain ⟨L, hL⟩ : ∃ L, L = (X.length + 7) / 8 := ⟨_, rfl⟩
  obtain ⟨N, hN⟩ : ∃ N, N = X.length := ⟨_, rfl⟩
  rw [← hX] at hc ⊢
  rw [← hE, ← hL, ← hN] at hc
  rw [← hL, ← hN]
  have hc2 : Hid (∀ w, Row .u32 w al ll cl (m.map Int.ofNat) → Calls Try.prog 30 #[.slice al ll cl, .agg #[.int .i64 10, .int .i64 10, .int .u64 16384, .int .u64 16384]] w fun e W' => ∃ b c, e = .returned (.tuple #[.agg #[.slice b L c, .int .i64 N], .agg #[.int .i64 E.k0, .int .i64 E.k1, .int .u64 E.s0, .int .u64 E.s1], .int .i64 0]) ∧ Row .u8 W' b L c (pack X) ∧ Below w.heap.size w W') := hc
  clear hE hX hL hN hm hm32 hc
  have hl4 : (ll : Int) ≤ 4000 := by omega
  have hl' := Go.Lib.hid (hl.below (below1 W (.cells #[.slice none 0 0, .int .i64 0] 24)) (Nat.le_refl _))
  have b0 := Go.Lib.hid (box1 W (.slice none 0 0) 0)
  have B0 := Go.Lib.hid (below1 W (.cells #[.slice none 0 0, .int .i64 0] 24))
  clear hl
  unfold Res
  go_enter Try.func11, Try.ntmps11
  go_wp2_with (first
    | (go_at_call 15; with_reducible refine (st.out _).mono ?_; rintro e w0 ⟨rfl, hb0⟩; have l1 := Go.Lib.hid (hl'.out.below hb0 (Nat.le_refl _)); have c1 := Go.Lib.hid (b0.out.below hb0 b0.out.lt); have B1 := Go.Lib.hid (B0.out.trans (hb0.mono B0.out.size)); clear hb0)
    | (go_at_call 30; with_reducible refine (hc2.out _ l1.out).mono ?_; rintro e w1 ⟨bb, cc, rfl, hr1, hb1⟩; have b1 := ((c1.out.below hb1 c1.out.lt).alloc (.cells #[.slice bb L cc, .int .i64 N] 24)).alloc (.cells #[.int .i64 E.k0, .int .i64 E.k1, .int .u64 E.s0, .int .u64 E.s1] 31); have b2 := B1.out.trans (hb1.mono B1.out.size); have hb1' := Go.Lib.hid ((b2.alloc b2.size (.cells #[.slice bb L cc, .int .i64 N] 24)).alloc (b2.alloc b2.size (.cells #[.slice bb L cc, .int .i64 N] 24)).size (.cells #[.int .i64 E.k0, .int .i64 E.k1, .int .u64 E.s0, .int .u64 E.s1] 31)); have hr1' := Go.Lib.hid ((hr1.below (below1 w1 (.cells #[.slice bb L cc, .int .i64 N] 24)) (Nat.le_refl _)).below (below1 _ (.cells #[.int .i64 E.k0, .int .i64 E.k1, .int .u64 E.s0, .int .u64 E.s1] 31)) (Nat.le_refl _)); have b1' := Go.Lib.hid b1; obtain ⟨f0, f1, f2, f3⟩ := b1.cells; clear hb1 hr1 b1 b2))
  (try simp only [Exit.inBlock, Exit.then])
  refine bodyPost_ret (results_box_tmp (by rfl) _ _ W.heap.size _ _ rfl (b1'.out.set _ _)) rfl ?_
  exact ⟨bb, cc, by simp, (hr1'.out.box b1'.out 0 _).box (b1'.out.set0 _) 1 _, (hb1'.out.setCell (Nat.le_refl _) _).setCell (Nat.le_refl _) _⟩

set_option maxRecDepth 100000 in
set_option maxHeartbeats 4000000 in
theorem PAfter_ok (W : World) (al : Option Addr) (ll cl : Nat) (l : List Int) (m : List Nat) (hl : Row .u32 W al ll cl l) (h4 : ll ≤ 4000) (hm : m.length = ll) (hml : ∀ k, k < ll → l.getD k 0 = ((m.getD k 0 : Nat) : Int)) (hm32 : ∀ x ∈ m, x < 4294967296) :
    Calls Try.prog 12 #[.slice al ll cl] W fun e W' => e = .returned (.tuple #[.agg #[.int .i64 (after dStart m).k0, .int .i64 (after dStart m).k1, .int .u64 (after dStart m).s0, .int .u64 (after dStart m).s1], .int .i64 0]) ∧ Below W.heap.size W W' := by
  have st := Go.Lib.hid Dstart_ok
  obtain ⟨Ef, hEf⟩ : ∃ E, E = after dStart m := ⟨_, rfl⟩
  rw [← hEf]
  replace hEf := Go.Lib.hid hEf
  have hev : Hid (∀ k, (after dStart (m.take k)).ok) := Go.Lib.hid fun k => after_ok _ dStart_ok fun x hx => hm32 x (List.mem_of_mem_take hx)
  have h32 : Hid (∀ k, k < ll → m.getD k 0 < 4294967296) := Go.Lib.hid fun k hk => hm32 _ (by rw [show m.getD k 0 = m[k] by simp [List.getD, show k < m.length by omega]]; exact List.getElem_mem _)
  have hm' := Go.Lib.hid hm
  have hml' := Go.Lib.hid hml
  have hl' := Go.Lib.hid hl
  have hl4 : (ll : Int) ≤ 4000 := by omega
  have d0 := Go.Lib.hid (duat1 W 0 0 0 0)
  have B0 := Go.Lib.hid (below1 W (.cells #[.int .i64 0, .int .i64 0, .int .u64 0, .int .u64 0] 31))
  clear hm hml hm32 hl
  go_enter Try.func12, Try.ntmps12
  go_wp2_with (go_at_call 15; refine (st.out _).mono ?_; rintro e w1 ⟨rfl, hb1⟩; have d1 := Go.Lib.hid (d0.out.below hb1 d0.out.lt); have B1 := Go.Lib.hid (B0.out.trans (hb1.mono B0.out.size)); clear hb1)
  have d2 := Go.Lib.hid (d1.out.alloc (.cells #[.int .i64 10, .int .i64 10, .int .u64 16384, .int .u64 16384] 31))
  have B2 := Go.Lib.hid (B1.out.alloc B1.out.size (.cells #[.int .i64 10, .int .i64 10, .int .u64 16384, .int .u64 16384] 31))
  have e2 := Go.Lib.hid (duat1 w1 10 10 16384 16384)
  obtain ⟨w2, hw2⟩ : ∃ w, w = w1.alloc (.cells #[.int .i64 10, .int .i64 10, .int .u64 16384, .int .u64 16384] 31) := ⟨_, rfl⟩
  have hx4 : W.heap.size < w1.heap.size := d1.out.lt
  obtain ⟨x4, hxx⟩ : ∃ x, x = w1.heap.size := ⟨_, rfl⟩
  rw [← hw2] at d2 B2 e2
  rw [← hxx] at e2 hx4
  try rw [← hw2]
  try rw [← hxx]
  clear hw2 hxx d1 B1 d0 B0
  go_loopg [16] ll (fun g i wr => ∃ (k : Nat), k ≤ ll ∧ g = ll - k ∧ i = .int .i64 k ∧ DuAt wr x4 ((after dStart (m.take k)).k0 : Int) ((after dStart (m.take k)).k1 : Int) ((after dStart (m.take k)).s0 : Int) ((after dStart (m.take k)).s1 : Int) ∧ DuAt wr W.heap.size 0 0 0 0 ∧ Below W.heap.size W wr)
  case atStart => exact ⟨0, Nat.zero_le _, rfl, rfl, e2.out, d2.out, B2.out⟩
  case round =>
  obtain ⟨k, hk, hg, rfl, he, hd, hB⟩ := hrel
  replace hg := Go.Lib.hid hg
  clear d2 B2 e2
  by_cases hlt : k < ll
  · have hlt' : (k : Int) < ll := by omega
    have hta := after_take_succ m dStart (show k < m.length by rw [hm'.out]; exact hlt)
    have hv32 := h32.out k hlt
    have hmk := hml'.out k hlt
    have hEo := hev.out k
    obtain ⟨num, hnum⟩ : ∃ v, v = m.getD k 0 := ⟨_, rfl⟩
    rw [← hnum] at hta hv32 hmk
    obtain ⟨E, hE⟩ : ∃ E, E = after dStart (m.take k) := ⟨_, rfl⟩
    rw [← hE] at hta hEo he
    obtain ⟨E', hE'⟩ : ∃ E', E' = learnD E num := ⟨_, rfl⟩
    rw [← hE'] at hta
    have lrn : Hid (∀ w, Calls Try.prog 31 #[.agg #[.int .i64 E.k0, .int .i64 E.k1, .int .u64 E.s0, .int .u64 E.s1], .int .u32 num] w fun e W' => e = .returned (.tuple #[.agg #[.int .i64 E'.k0, .int .i64 E'.k1, .int .u64 E'.s0, .int .u64 E'.s1], .int .i64 0]) ∧ Below w.heap.size w W') := Go.Lib.hid fun w => by rw [hE']; exact DLearn_ok w E num hEo hv32
    replace hta := Go.Lib.hid hta
    obtain ⟨bl, ol, rfl, hblt, hc⟩ := (hl'.out.below hB (Nat.le_refl _)).cells (by omega)
    have hcell := hc k hlt
    rw [hmk] at hcell
    obtain ⟨z0, z1, z2, z3, z4, z5, z6, z7⟩ := he.cells
    have he' := Go.Lib.hid he
    have hd' := Go.Lib.hid hd
    have hB' := Go.Lib.hid hB
    clear hE hE' hnum hc hEo he hd hB
    go_wp2_with (go_at_call 31; with_reducible refine (lrn.out _).mono ?_; rintro e q ⟨rfl, hs⟩; have he2 := Go.Lib.hid ((he'.out.below hs he'.out.lt).alloc (.cells #[.int .i64 E'.k0, .int .i64 E'.k1, .int .u64 E'.s0, .int .u64 E'.s1] 31)); have hd2 := Go.Lib.hid ((hd'.out.below hs hd'.out.lt).alloc (.cells #[.int .i64 E'.k0, .int .i64 E'.k1, .int .u64 E'.s0, .int .u64 E'.s1] 31)); have hB3 := hB'.out.trans (hs.mono hB'.out.size); have hB2 := Go.Lib.hid (hB3.alloc hB3.size (.cells #[.int .i64 E'.k0, .int .i64 E'.k1, .int .u64 E'.s0, .int .u64 E'.s1] 31)); obtain ⟨z0, z1, z2, z3, z4, z5, z6, z7⟩ := he2.out.cells; clear hs hB3)
    go_roundg (ll - (k + 1))
    case measure => (have hgk := hg.out; omega)
    case rel =>
      refine ⟨k + 1, by omega, rfl, by go_num, ?_, ?_, ?_⟩
      · rw [hta.out]; exact he2.out.set _ _ _ _
      · exact (((hd2.out.other (by simp; omega) _).other (by simp; omega) _).other (by simp; omega) _).other (by simp; omega) _
      · exact outp hB2.out (by omega)
  · obtain rfl : k = ll := by omega
    have hmt : m.take k = m := List.take_of_length_le (by rw [hm'.out]; exact Nat.le_refl _)
    rw [hmt] at he
    rw [← hEf.out] at he
    clear hmt
    have hlt' : ¬ (k : Int) < (k : Int) := by omega
    obtain ⟨z0, z1, z2, z3, z4, z5, z6, z7⟩ := he.cells
    obtain ⟨y0, y1, y2, y3, y4, y5, y6, y7⟩ := hd.cells
    have he' := Go.Lib.hid he
    have hd' := Go.Lib.hid hd
    have hB' := Go.Lib.hid hB
    clear he hd hB
    go_wp2
    (try simp only [Exit.inBlock, Exit.then])
    refine bodyPost_ret (results_du_tmp (by rfl) _ _ W.heap.size _ _ _ _ rfl (hd'.out.set _ _ _ _)) rfl ?_
    exact ⟨by simp, outp hB'.out (Nat.le_refl _)⟩
end Go.Proofs.Ytifbigmgiakakaa

/- Contracts of the package coder: Decode. -/
namespace Go.Proofs.Ytifbigmgiakakaa
open Go.RowKit Cad

theorem PDecode_bad (W : World) (aa : Option Addr) (len cap : Nat) (N n : Int) (l : List Int) (hr : Row .u8 W aa len cap l) (hN : (Lit.int .i64 N).wf = true) (hv : ¬ Valid l N) :
    Calls Try.prog 13 #[.agg #[.slice aa len cap, .int .i64 N], .int .i64 n] W fun e W' => e = .returned (.tuple #[.slice none 0 0, .int .i64 0, .int .i64 8]) ∧ Below W.heap.size W W' := by
  have hck := Go.Lib.hid fun w hw => BCheck_any w aa len cap N l hw hN 8 (.inr ⟨hv, rfl⟩)
  have hr' := Go.Lib.hid (hr.below (below1 W (.cells #[.slice aa len cap, .int .i64 N] 24)) (Nat.le_refl _))
  have b0 := below1 W (.cells #[.slice aa len cap, .int .i64 N] 24)
  have b0' := Go.Lib.hid b0
  clear hr hN hv b0
  go_enter Try.func13, Try.ntmps13
  go_wp2_with (go_at_call 32; with_reducible refine (hck.out _ hr'.out).mono ?_; rintro e w1 ⟨rfl, hb1⟩; have hb1' := Go.Lib.hid (b0'.out.trans (hb1.mono b0'.out.size)); clear hb1)
  go_ret3
  exact ⟨rfl, hb1'.out⟩
theorem PDecode_arg (W : World) (aa : Option Addr) (len cap : Nat) (N n : Int) (l : List Int) (hr : Row .u8 W aa len cap l) (hN : (Lit.int .i64 N).wf = true) (hv : Valid l N) (hn : n < 0) :
    Calls Try.prog 13 #[.agg #[.slice aa len cap, .int .i64 N], .int .i64 n] W fun e W' => e = .returned (.tuple #[.slice none 0 0, .int .i64 0, .int .i64 2]) ∧ Below W.heap.size W W' := by
  have hck := Go.Lib.hid fun w hw => BCheck_any w aa len cap N l hw hN 0 (.inl ⟨hv, rfl⟩)
  have hr' := Go.Lib.hid (hr.below (below1 W (.cells #[.slice aa len cap, .int .i64 N] 24)) (Nat.le_refl _))
  have b0 := below1 W (.cells #[.slice aa len cap, .int .i64 N] 24)
  have b0' := Go.Lib.hid b0
  clear hr hN hv b0
  go_enter Try.func13, Try.ntmps13
  go_wp2_with (go_at_call 32; with_reducible refine (hck.out _ hr'.out).mono ?_; rintro e w1 ⟨rfl, hb1⟩; have hb1' := Go.Lib.hid (b0'.out.trans (hb1.mono b0'.out.size)); clear hb1)
  go_ret3
  exact ⟨rfl, hb1'.out⟩
theorem PDecode_many (W : World) (aa : Option Addr) (len cap : Nat) (N n : Int) (l : List Int) (hr : Row .u8 W aa len cap l) (hN : (Lit.int .i64 N).wf = true) (hv : Valid l N) (hn : 4000 < n) :
    Calls Try.prog 13 #[.agg #[.slice aa len cap, .int .i64 N], .int .i64 n] W fun e W' => e = .returned (.tuple #[.slice none 0 0, .int .i64 0, .int .i64 4]) ∧ Below W.heap.size W W' := by
  have hck := Go.Lib.hid fun w hw => BCheck_any w aa len cap N l hw hN 0 (.inl ⟨hv, rfl⟩)
  have hr' := Go.Lib.hid (hr.below (below1 W (.cells #[.slice aa len cap, .int .i64 N] 24)) (Nat.le_refl _))
  have b0 := below1 W (.cells #[.slice aa len cap, .int .i64 N] 24)
  have b0' := Go.Lib.hid b0
  have hn0 : ¬ n < 0 := by omega
  clear hr hN hv b0
  go_enter Try.func13, Try.ntmps13
  go_wp2_with (go_at_call 32; with_reducible refine (hck.out _ hr'.out).mono ?_; rintro e w1 ⟨rfl, hb1⟩; have hb1' := Go.Lib.hid (b0'.out.trans (hb1.mono b0'.out.size)); clear hb1)
  go_ret3
  exact ⟨rfl, hb1'.out⟩

theorem set_next (l : List Nat) (k r v : Nat) (h : l.length = k) : (nums .u32 ((l ++ List.replicate (r + 1) 0).map Int.ofNat)).set k (.int .u32 (v : Int)) = nums .u32 (((l ++ [v]) ++ List.replicate r 0).map Int.ofNat) := by
  subst h
  simp [nums, List.replicate_succ, List.map_append]

set_option maxRecDepth 100000 in
set_option maxHeartbeats 4000000 in
theorem PDecode_ok (W : World) (aa : Option Addr) (len cap : Nat) (B : List Bool) (n : Nat) (hr : Row .u8 W aa len cap (pack B)) (hB : B.length ≤ 330000) (hn : n ≤ 4000) (lz : List Nat) (pz ez : Nat) (hz : decD B n 0 dStart = (lz, pz, ez)) :
    Calls Try.prog 13 #[.agg #[.slice aa len cap, .int .i64 B.length], .int .i64 n] W fun e W' => ∃ a m c, e = .returned (.tuple #[.slice a m c, .int .i64 pz, .int .i64 ez]) ∧ Row .u32 W' a m c (lz.map Int.ofNat) ∧ Below W.heap.size W W' := by
  have hck := Go.Lib.hid fun w hw => BCheck_any w aa len cap B.length (pack B) hw (bounds_of_len (by omega)) 0 (.inl ⟨⟨B, rfl, hB, rfl⟩, rfl⟩)
  have hrr := Go.Lib.hid hr
  have hr' := Go.Lib.hid (hr.below (below1 W (.cells #[.slice aa len cap, .int .i64 B.length] 24)) (Nat.le_refl _))
  have b0 := below1 W (.cells #[.slice aa len cap, .int .i64 B.length] 24)
  have b0' := Go.Lib.hid b0
  have x0 := Go.Lib.hid (box1 W (.slice aa len cap) B.length)
  have st := Go.Lib.hid Dstart_ok
  have hn0 : ¬ (n : Int) < 0 := by omega
  have hn4 : ¬ (4000 : Int) < n := by omega
  have hn1 : (0 : Int) ≤ n := by omega
  have hn2 : (n : Int) ≤ 4000 := by omega
  have hzh := Go.Lib.hid hz
  have hBh := Go.Lib.hid hB
  have hrd := Go.Lib.hid fun w hw (i : Nat) (D : Du) (hi : i ≤ B.length) (hd : D.ok) (v p : Nat) hv => DRead_ok w aa len cap B i D hw hB hi hd v p hv
  have hre := Go.Lib.hid fun w hw (i : Nat) (D : Du) (hi : i ≤ B.length) (hd : D.ok) (v p er : Nat) (he : er ≠ 0) hv => DRead_er w aa len cap B i D hw hB hi hd v p er he hv
  unfold ResR at hrd hre
  obtain ⟨N, hN⟩ : ∃ N, N = B.length := ⟨_, rfl⟩
  rw [← hN] at hck hr' b0' x0 hrd hre ⊢
  have hNh := Go.Lib.hid hN
  clear hr b0 hB hz hN
  go_enter Try.func13, Try.ntmps13
  go_wp2_with (first
    | (go_at_call 32; with_reducible refine (hck.out _ hr'.out).mono ?_; rintro e w1 ⟨rfl, hb1⟩; have hb1' := Go.Lib.hid (b0'.out.trans (hb1.mono b0'.out.size)); have x1 := Go.Lib.hid (x0.out.below hb1 (by simp)); clear hb1)
    | (at_make; refine law_make elU32 _ rfl _ _ rfl .i64 .i64 _ _ n rfl rfl (by omega) (by omega) (by omega) ?_; intro w2 hown2 hb2 hs2; have b2' := Go.Lib.hid (hb1'.out.trans (hb2.mono hb1'.out.size)); have x2 := Go.Lib.hid (x1.out.below hb2 x1.out.lt); have gx := x1.out.lt; obtain ⟨gb, hgb⟩ : ∃ g, g = w1.heap.size := ⟨_, rfl⟩; have o2 := Go.Lib.hid hown2; rw [← hgb] at o2 gx hs2 ⊢; clear hown2 hb2 hgb)
    | (go_at_call 15; refine (st.out _).mono ?_; rintro e w3 ⟨rfl, hb3⟩; have b3' := Go.Lib.hid (b2'.out.trans (hb3.mono b2'.out.size)); have x3 := Go.Lib.hid (x2.out.below hb3 x2.out.lt); have o3 := Go.Lib.hid (own_below o2.out hb3 (Nat.le_refl _)); have gs3 : gb < w3.heap.size := Nat.lt_of_lt_of_le hs2 hb3.size; clear hb3))
  have hW2 := Go.Lib.hid (b3'.out.alloc b3'.out.size (.cells #[.int .i64 10, .int .i64 10, .int .u64 16384, .int .u64 16384] 31))
  have x4 := Go.Lib.hid (x3.out.alloc (.cells #[.int .i64 10, .int .i64 10, .int .u64 16384, .int .u64 16384] 31))
  have d4 := Go.Lib.hid (duat1 w3 10 10 16384 16384)
  have o4 := Go.Lib.hid (own_below o3.out (below1 w3 (.cells #[.int .i64 10, .int .i64 10, .int .u64 16384, .int .u64 16384] 31)) (Nat.le_refl _))
  obtain ⟨w4, hw4⟩ : ∃ w, w = w3.alloc (.cells #[.int .i64 10, .int .i64 10, .int .u64 16384, .int .u64 16384] 31) := ⟨_, rfl⟩
  rw [← hw4] at hW2 x4 d4 o4 ⊢
  obtain ⟨x9, hx9⟩ : ∃ x, x = w3.heap.size := ⟨_, rfl⟩
  rw [← hx9] at d4 gs3 ⊢
  clear hw4 hx9 b3' x3 o3 b2' x2 o2 hb1' x1 x0 hs2
  go_loopg [9, 30] n (fun g at_ i wr => ∃ (k : Nat) (l : List Nat) (p : Nat) (E : Du), k ≤ n ∧ g = n - k ∧ i = .int .i64 k ∧ at_ = .int .i64 p ∧ p ≤ B.length ∧ E.ok ∧ decD B n 0 dStart = glue l (decD B (n - k) p E) ∧ l.length = k ∧ (∀ x ∈ l, x < 4294967296) ∧
    wr.ownsRow gb 57 1 (.slice (some ⟨gb, 0, none⟩) n n) n (nums .u32 ((l ++ List.replicate (n - k) 0).map Int.ofNat)) ∧ BoxAt wr W.heap.size (.slice aa len cap) N ∧ DuAt wr x9 (E.k0 : Int) (E.k1 : Int) (E.s0 : Int) (E.s1 : Int) ∧ Below W.heap.size W wr)
  case atStart =>
    refine ⟨0, [], 0, dStart, Nat.zero_le _, rfl, rfl, rfl, Nat.zero_le _, dStart_ok, ?_, rfl, fun x hx => (by cases hx), ?_, x4.out, d4.out, hW2.out⟩
    · rw [Nat.sub_zero]
      obtain ⟨a, b, c, h⟩ : ∃ a b c, decD B n 0 dStart = (a, b, c) := ⟨_, _, _, rfl⟩
      rw [h]
      by_cases hc : c = 0
      · subst hc; rw [glue_ok]; rfl
      · obtain ⟨rfl, rfl, -⟩ := dec_no n h hc (Nat.zero_le _) dStart_ok
        rw [glue_er _ _ _ hc]
    · have e : ([] ++ List.replicate (n - 0) 0 : List Nat).map Int.ofNat = List.replicate n 0 := by simp
      rw [e]; exact o4.out
  case round =>
  obtain ⟨k, l, p, E, hk, hg, rfl, rfl, hp, hE, hgl, hlk, hl32, ho, hx, hd, hB⟩ := hrel
  have hgo := Go.Lib.hid hg
  have hgl' := Go.Lib.hid hgl
  have hE' := Go.Lib.hid hE
  have hp' := Go.Lib.hid hp
  have hl' := Go.Lib.hid hl32
  have ho' := Go.Lib.hid ho
  have hx' := Go.Lib.hid hx
  have hd' := Go.Lib.hid hd
  have hB' := Go.Lib.hid hB
  have hlk' := Go.Lib.hid hlk
  clear hg hgl hE hp hl32 x4 d4 hW2 o4 ho hlk
  by_cases hlt : k < n
  · have hlt' : (k : Int) < n := by omega
    obtain ⟨v, q, er, hv⟩ : ∃ v q er, readD B p E = (v, q, er) := ⟨_, _, _, rfl⟩
    have hv' := Go.Lib.hid hv
    clear hv
    obtain ⟨f0, f1, f2, f3⟩ := hx.cells
    obtain ⟨g0, g1, g2, g3, g4, g5, g6, g7⟩ := hd.cells
    clear hx hd hB
    by_cases he : er = 0
    · subst he
      have hcall := Go.Lib.hid fun w hw => hrd.out w hw p E (by rw [hNh.out]; exact hp'.out) hE'.out v q hv'.out
      obtain ⟨hv32, -, hqB, -⟩ := dual_is hv'.out hp'.out hE'.out.1 hE'.out.2.1
      obtain ⟨E', hEE⟩ : ∃ E', E' = learnD E v := ⟨_, rfl⟩
      have hE2 := Go.Lib.hid (show E'.ok by rw [hEE]; exact learnD_ok hE'.out hv32)
      rw [← hEE] at hcall
      have hst := Go.Lib.hid (show decD B n 0 dStart = glue (l ++ [v]) (decD B (n - (k + 1)) q E') by
        rw [hgl'.out, show n - k = (n - (k + 1)) + 1 by omega, decD_ok hv'.out, glue_glue, ← hEE])
      clear hEE
      go_wp2_with (go_at_call 33; with_reducible refine (hcall.out _ (hrr.out.below hB'.out (Nat.le_refl _))).mono ?_; rintro e w6 ⟨rfl, hs⟩; have o6 := Go.Lib.hid (own_below (own_below ho'.out hs (Nat.le_refl _)) (below1 w6 (.cells #[.int .i64 E'.k0, .int .i64 E'.k1, .int .u64 E'.s0, .int .u64 E'.s1] 31)) (Nat.le_refl _)); have x6 := Go.Lib.hid ((hx'.out.below hs hx'.out.lt).alloc (.cells #[.int .i64 E'.k0, .int .i64 E'.k1, .int .u64 E'.s0, .int .u64 E'.s1] 31)); have d6 := Go.Lib.hid ((hd'.out.below hs hd'.out.lt).alloc (.cells #[.int .i64 E'.k0, .int .i64 E'.k1, .int .u64 E'.s0, .int .u64 E'.s1] 31)); have B5 := hB'.out.trans (hs.mono hB'.out.size); have B6 := Go.Lib.hid (B5.alloc B5.size (.cells #[.int .i64 E'.k0, .int .i64 E'.k1, .int .u64 E'.s0, .int .u64 E'.s1] 31)); have e6 := Go.Lib.hid (duat1 w6 E'.k0 E'.k1 E'.s0 E'.s1); have n6 : x9 < w6.heap.size := Nat.lt_of_lt_of_le hd'.out.lt hs.size; clear hs B5)
      obtain ⟨w7, hw7⟩ : ∃ w, w = w6.alloc (.cells #[.int .i64 E'.k0, .int .i64 E'.k1, .int .u64 E'.s0, .int .u64 E'.s1] 31) := ⟨_, rfl⟩
      rw [← hw7] at o6 x6 d6 B6 e6
      try rw [← hw7]
      obtain ⟨x14, hx14⟩ : ∃ x, x = w6.heap.size := ⟨_, rfl⟩
      rw [← hx14] at e6 n6
      try rw [← hx14]
      clear hw7 hx14 f0 f1 f2 f3 g0 g1 g2 g3 g4 g5 g6 g7 hcall hx' hd' hB' ho'
      go_wp2
      refine wp_region_ord (fun w' => DuAt w' x14 E'.k0 E'.k1 E'.s0 E'.s1) [(0, 0), (1, 0), (2, 0), (3, 0), (4, 2), (5, 0), (6, 3), (7, 0), (8, 4)] (by kernel_rfl) (by kernel_rfl) ?hC0 ?_
      case hC0 => exact e6.out.drew
      simp only [pick, nth]
      refine wpW_name ?_
      intro q0 hq0
      have o7 := Go.Lib.hid (show q0.ownsRow gb 57 1 (.slice (some ⟨gb, 0, none⟩) n n) n (nums .u32 ((l ++ List.replicate (n - k) 0).map Int.ofNat)) by rw [hq0]; exact own_drew o6.out)
      have x7 := Go.Lib.hid (show BoxAt q0 W.heap.size (.slice aa len cap) N by rw [hq0]; exact x6.out.drew)
      have d7 := Go.Lib.hid (show DuAt q0 x9 (E.k0 : Int) (E.k1 : Int) (E.s0 : Int) (E.s1 : Int) by rw [hq0]; exact d6.out.drew)
      have e7 := Go.Lib.hid (show DuAt q0 x14 (E'.k0 : Int) (E'.k1 : Int) (E'.s0 : Int) (E'.s1 : Int) by rw [hq0]; exact e6.out.drew)
      have B7 := Go.Lib.hid (show Below W.heap.size W q0 by rw [hq0]; exact B6.out.drew)
      clear hq0 o6 x6 d6 e6 B6
      (repeat (first | (apply wpW_light; (case h => (intro wa; (first | (go_big_quiet_skip; exact wpQuiet_nil rfl) | (go_big_quiet_want; go_big_quiet_op; go_big_quiet_on; exact wpQuiet_nil rfl))))) | (apply wpW_here; (case h => (first | (go_big_quiet_skip; exact wpQuiet_nil rfl) | (go_big_quiet_want; go_big_quiet_op; go_big_quiet_on; exact wpQuiet_nil rfl)))) | (apply wpW_held; (case hC => assumption); (case h => (intro wa hCa; obtain ⟨u0, u1, u2, u3, u4, u5, u6, u7⟩ := hCa.cells; (first | (go_big_quiet_skip; exact wpQuiet_nil rfl) | (go_big_quiet_want; go_big_quiet_op; go_big_quiet_on; exact wpQuiet_nil rfl)))))))
      have hc1 := o7.out.cellAt k (by omega)
      have hf1 := o7.out.frozenAt k
      obtain ⟨v0, hv0⟩ : ∃ v0, (nums .u32 ((l ++ List.replicate (n - k) 0).map Int.ofNat))[k]? = some v0 := ⟨_, List.getElem?_eq_getElem (by have := hlk'.out; simp [nums]; omega)⟩
      rw [hv0] at hc1
      have s0 : gb ≠ x14 := by omega
      have s1 : gb ≠ x9 := by omega
      have hst7 := Go.Lib.hid (show (q0.setCell ⟨gb, k, none⟩ (.int .u32 v)).ownsRow gb 57 1 (.slice (some ⟨gb, 0, none⟩) n n) n (nums .u32 (((l ++ [v]) ++ List.replicate (n - (k + 1)) 0).map Int.ofNat)) by
        have := (o7.out.stored k (.int .u32 (v : Int))).1
        rw [show n - k = (n - (k + 1)) + 1 by omega, set_next l k _ v hlk'.out] at this
        exact this)
      refine wpW_act (fun QQ hQQ => ?_) (by rfl)
      go_wp2
      (refine hQQ _ _ ?hCn ?_; (case hCn => exact e7.out.other (by simp; omega) _); clear hQQ QQ)
      refine wpW_name ?_
      intro q1 hq1
      have o8 := Go.Lib.hid (show q1.ownsRow gb 57 1 (.slice (some ⟨gb, 0, none⟩) n n) n (nums .u32 (((l ++ [v]) ++ List.replicate (n - (k + 1)) 0).map Int.ofNat)) by rw [hq1]; exact hst7.out)
      have x8 := Go.Lib.hid (show BoxAt q1 W.heap.size (.slice aa len cap) N by rw [hq1]; exact x7.out.other (by simp; omega) _)
      have d8 := Go.Lib.hid (show DuAt q1 x9 (E.k0 : Int) (E.k1 : Int) (E.s0 : Int) (E.s1 : Int) by rw [hq1]; exact d7.out.other (by simp; omega) _)
      have B8 := Go.Lib.hid (show Below W.heap.size W q1 by rw [hq1]; exact B7.out.setCell (by simp; omega) _)
      clear hq1 hst7 hc1 hf1 hv0 o7 x7 d7 e7 B7
      (repeat (first | (apply wpW_light; (case h => (intro wa; (first | (go_big_quiet_skip; exact wpQuiet_nil rfl) | (go_big_quiet_want; go_big_quiet_op; go_big_quiet_on; exact wpQuiet_nil rfl))))) | (apply wpW_here; (case h => (first | (go_big_quiet_skip; exact wpQuiet_nil rfl) | (go_big_quiet_want; go_big_quiet_op; go_big_quiet_on; exact wpQuiet_nil rfl)))) | (apply wpW_held; (case hC => assumption); (case h => (intro wa hCa; simp only [] at hCa; (first | (go_big_quiet_skip; exact wpQuiet_nil rfl) | (go_big_quiet_want; go_big_quiet_op; go_big_quiet_on; exact wpQuiet_nil rfl)))))))
      obtain ⟨g0, g1, g2, g3, g4, g5, g6, g7⟩ := d8.out.cells
      refine wpW_last (fun QQ hQQ => ?_) (by rfl)
      go_wp2
      (refine hQQ.out _ _ ?_; clear hQQ QQ)
      (repeat (first | (apply wpW_light; (case h => (intro wa; (first | (go_big_quiet_skip; exact wpQuiet_nil rfl) | (go_big_quiet_want; go_big_quiet_op; go_big_quiet_on; exact wpQuiet_nil rfl))))) | (apply wpW_here; (case h => (first | (go_big_quiet_skip; exact wpQuiet_nil rfl) | (go_big_quiet_want; go_big_quiet_op; go_big_quiet_on; exact wpQuiet_nil rfl)))) | (apply wpW_held; (case hC => assumption); (case h => (intro wa hCa; simp only [] at hCa; (first | (go_big_quiet_skip; exact wpQuiet_nil rfl) | (go_big_quiet_want; go_big_quiet_op; go_big_quiet_on; exact wpQuiet_nil rfl)))))))
      refine wpW_nil ?_
      go_wp2
      go_roundg (n - (k + 1))
      case measure => (have hgk := hgo.out; omega)
      case rel =>
        have ap : ∀ g, (Value.slice (some ⟨gb, 0, none⟩) n n).ownBlock = some g → g ≠ x9 := fun g e => by
          have := o8.out.lt g e
          rcases (show g = gb by simpa [Value.ownBlock] using e.symm) with rfl
          exact s1
        refine ⟨k + 1, l ++ [v], q, E', by omega, rfl, by go_num, rfl, hqB, hE2.out, hst.out, by have := hlk'.out; simp [this], fun x hx => ?_, own_setG (own_setG (own_setG (own_setG o8.out ap _ _) ap _ _) ap _ _) ap _ _, (((x8.out.other (by simp; omega) _).other (by simp; omega) _).other (by simp; omega) _).other (by simp; omega) _, d8.out.set _ _ _ _, outp B8.out (by omega)⟩
        rcases List.mem_append.1 hx with hx | hx
        · exact hl'.out x hx
        · rw [List.mem_singleton] at hx; rw [hx]; exact hv32
    · have hcall := Go.Lib.hid fun w hw => hre.out w hw p E (by rw [hNh.out]; exact hp'.out) hE'.out v q er he hv'.out
      have hfin := Go.Lib.hid (show lz = [] ∧ pz = 0 ∧ ez = er by
        have h1 := hzh.out
        rw [hgl'.out, show n - k = (n - (k + 1)) + 1 by omega, decD_er hv'.out he, glue_er _ _ _ he] at h1
        cases h1; exact ⟨rfl, rfl, rfl⟩)
      have he' : ¬ (er : Int) = 0 := by omega
      go_wp2_with (go_at_call 33; with_reducible refine (hcall.out _ (hrr.out.below hB'.out (Nat.le_refl _))).mono ?_; rintro e w6 ⟨rfl, hs⟩; have B5 := hB'.out.trans (hs.mono hB'.out.size); have B6 := Go.Lib.hid (B5.alloc B5.size (.cells #[.int .i64 0, .int .i64 0, .int .u64 0, .int .u64 0] 31)); clear hs B5)
      go_ret3
      obtain ⟨rfl, rfl, rfl⟩ := hfin.out
      exact ⟨none, 0, 0, rfl, Row.nil_row _ _, B6.out⟩
  · obtain rfl : k = n := by omega
    have hfin := Go.Lib.hid (show lz = l ∧ pz = p ∧ ez = 0 by
      have h1 := hzh.out
      rw [hgl'.out, Nat.sub_self, decD_zero, glue_ok, List.append_nil] at h1
      cases h1; exact ⟨rfl, rfl, rfl⟩)
    have hlt' : ¬ (k : Int) < k := by omega
    go_wp2
    go_ret3
    obtain ⟨rfl, rfl, rfl⟩ := hfin.out
    have := ho'.out
    rw [Nat.sub_self, show List.replicate 0 0 = ([] : List Nat) from rfl, List.append_nil] at this
    exact ⟨_, k, k, rfl, Row.of_own this (natsU _ hl'.out), hB⟩
end Go.Proofs.Ytifbigmgiakakaa

/- What the statements of coder share: the chapter's examples; package and reference say the same. -/
namespace Go.Proofs.Ytifbigmgiakakaa
open Go.RowKit Cad

/-- numbers of 32 bits as natural numbers -/
theorem nats_of {l : List Int} (h : ∀ x ∈ l, (Lit.int .u32 x).wf = true) : ∃ m : List Nat, l = m.map Int.ofNat ∧ ∀ x ∈ m, x < 4294967296 := by
  refine ⟨l.map Int.toNat, ?_, fun x hx => ?_⟩
  · rw [List.map_map]
    symm
    calc l.map (Int.ofNat ∘ Int.toNat) = l.map id := List.map_congr_left fun x hx => by have := bounds_u32 (h x hx); simp; omega
      _ = l := List.map_id l
  · obtain ⟨y, hy, rfl⟩ := List.mem_map.1 hx
    have := bounds_u32 (h y hy)
    omega
theorem natsD (m : List Nat) {k : Nat} (hk : k < m.length) : (m.map Int.ofNat).getD k 0 = ((m.getD k 0 : Nat) : Int) := by
  simp [List.getD, hk]
theorem map_inj {l m : List Nat} : l.map Int.ofNat = m.map Int.ofNat ↔ l = m :=
  ⟨fun h => by
    have := congrArg (List.map Int.toNat) h
    simpa [List.map_map, Function.comp_def] using this, fun h => by rw [h]⟩

/-- a call that hands back a state and an error -/
def ResA (f : FuncId) (args : Array Value) (W : World) (a b c d e : Int) : Prop :=
  Calls Try.prog f args W fun r W' => r = .returned (.tuple #[.agg #[.int .i64 a, .int .i64 b, .int .u64 c, .int .u64 d], .int .i64 e]) ∧ Below W.heap.size W W'
/-- a call that hands back numbers, an index and an error -/
def ResL (f : FuncId) (args : Array Value) (W : World) (l : List Int) (p e : Int) : Prop :=
  Calls Try.prog f args W fun r W' => ∃ a m c, r = .returned (.tuple #[.slice a m c, .int .i64 p, .int .i64 e]) ∧ Row .u32 W' a m c l ∧ Below W.heap.size W W'
theorem ResL.none {f : FuncId} {args : Array Value} {W : World} {e : Int} (h : Calls Try.prog f args W fun r W' => r = .returned (.tuple #[.slice none 0 0, .int .i64 0, .int .i64 e]) ∧ Below W.heap.size W W') : ResL f args W [] 0 e :=
  h.mono fun _ _ ⟨h1, h2⟩ => ⟨Option.none, 0, 0, h1, Row.nil_row _ _, h2⟩

theorem PAfter_m (W : World) (al : Option Addr) (ll cl : Nat) (m : List Nat) (hl : Row .u32 W al ll cl (m.map Int.ofNat)) (h4 : ll ≤ 4000) (hm : m.length = ll) (hm32 : ∀ x ∈ m, x < 4294967296) :
    ResA 12 #[.slice al ll cl] W (after dStart m).k0 (after dStart m).k1 (after dStart m).s0 (after dStart m).s1 0 :=
  PAfter_ok W al ll cl _ m hl h4 hm (fun _ hk => natsD m (by omega)) hm32
theorem PDecode_m (W : World) (aa : Option Addr) (len cap : Nat) (B : List Bool) (n : Nat) (hr : Row .u8 W aa len cap (pack B)) (hB : B.length ≤ 330000) (hn : n ≤ 4000) (lz : List Nat) (pz ez : Nat) (hz : decD B n 0 dStart = (lz, pz, ez)) :
    ResL 13 #[.agg #[.slice aa len cap, .int .i64 B.length], .int .i64 n] W (lz.map Int.ofNat) pz ez :=
  PDecode_ok W aa len cap B n hr hB hn lz pz ez hz

theorem cencode_both (ll : Nat) (m : List Nat) (hm : m.length = ll) (hll : ll ≤ 9223372036854775807) (hm32 : ∀ x ∈ m, x < 4294967296) : ∃ n lj t e,
    (∀ w al cl, Row .u32 w al ll cl (m.map Int.ofNat) → Res 11 #[.slice al ll cl] w n lj t e) ∧
    (∀ w al cl, Row .u32 w al ll cl (m.map Int.ofNat) → Res 18 #[.slice al ll cl] w n lj t e) := by
  by_cases h : 4000 < ll
  · exact ⟨0, [], 0, 4, fun w al cl _ => Res.none (PEncode_many w al ll cl (by omega) hll), fun w al cl _ => Res.none (CEncode_many w al ll cl (by omega) hll)⟩
  · exact ⟨_, _, _, 0, fun w al cl hr => PEncode_ok w al ll cl m hr (by omega) hm hm32, fun w al cl hr => CEncode_ok w al ll cl _ m hr (by omega) hm (fun _ hk => natsD m (by omega)) hm32⟩
theorem cafter_both (ll : Nat) (m : List Nat) (hm : m.length = ll) (hll : ll ≤ 9223372036854775807) (hm32 : ∀ x ∈ m, x < 4294967296) : ∃ a b c d e,
    (∀ w al cl, Row .u32 w al ll cl (m.map Int.ofNat) → ResA 12 #[.slice al ll cl] w a b c d e) ∧
    (∀ w al cl, Row .u32 w al ll cl (m.map Int.ofNat) → ResA 19 #[.slice al ll cl] w a b c d e) := by
  by_cases h : 4000 < ll
  · exact ⟨0, 0, 0, 0, 4, fun w al cl _ => PAfter_many w al ll cl (by omega) hll, fun w al cl _ => CAfter_many w al ll cl (by omega) hll⟩
  · exact ⟨_, _, _, _, 0, fun w al cl hr => PAfter_m w al ll cl m hr (by omega) hm hm32, fun w al cl hr => CAfter_ok w al ll cl _ m hr (by omega) hm (fun _ hk => natsD m (by omega)) hm32⟩
theorem cdecode_both (N n : Int) (z : List Int) (hN : (Lit.int .i64 N).wf = true) : ∃ l p e,
    (∀ w aa len cap, Row .u8 w aa len cap z → ResL 13 #[.agg #[.slice aa len cap, .int .i64 N], .int .i64 n] w l p e) ∧
    (∀ w aa len cap, Row .u8 w aa len cap z → ResL 24 #[.agg #[.slice aa len cap, .int .i64 N], .int .i64 n] w l p e) := by
  by_cases hv : Valid z N
  · by_cases h0 : n < 0
    · exact ⟨[], 0, 2, fun w aa len cap hr => ResL.none (PDecode_arg w aa len cap N n z hr hN hv h0), fun w aa len cap hr => ResL.none (CDecode_arg w aa len cap N n z hr hN hv h0)⟩
    by_cases h1 : 4000 < n
    · exact ⟨[], 0, 4, fun w aa len cap hr => ResL.none (PDecode_many w aa len cap N n z hr hN hv h1), fun w aa len cap hr => ResL.none (CDecode_many w aa len cap N n z hr hN hv h1)⟩
    obtain ⟨s, rfl⟩ : ∃ m : Nat, n = m := ⟨n.toNat, by omega⟩
    obtain ⟨B, rfl, hB, rfl⟩ := hv
    obtain ⟨l, p, e, hz⟩ : ∃ l p e, decD B s 0 dStart = (l, p, e) := ⟨_, _, _, rfl⟩
    exact ⟨_, _, _, fun w aa len cap hr => PDecode_m w aa len cap B s hr hB (by omega) l p e hz, fun w aa len cap hr => CDecode_ok w aa len cap B s hr hB (by omega) l p e hz⟩
  · exact ⟨[], 0, 8, fun w aa len cap hr => ResL.none (PDecode_bad w aa len cap N n z hr hN hv), fun w aa len cap hr => ResL.none (CDecode_bad w aa len cap N n z hr hN hv)⟩

/-- the code of 5 and 2000 -/
def exX : List Bool := codesD dStart [5, 2000]
theorem exX_len : exX.length = 24 := by decide +kernel
theorem exX_dec : decD exX 2 0 dStart = ([5, 2000], 24, 0) := by
  have := dec_codes [5, 2000] [] [] dStart (by decide)
  rw [List.nil_append, List.append_nil, List.length_nil, Nat.zero_add] at this
  rw [show (codesD dStart [5, 2000]).length = 24 from exX_len] at this
  exact this

set_option maxRecDepth 100000 in
set_option maxHeartbeats 1000000 in
theorem alive9_ok (W : World) : Calls Try.prog 16 #[] W fun e W' => e = .returned (.bool true) ∧ Below W.heap.size W W' := by
  have s1 : Hid (∀ w : World, Calls Try.prog 11 #[.slice (some ⟨w.heap.size, 0, none⟩) 2 2] (w.alloc (.cells #[.int .u32 5, .int .u32 2000] 57)) fun e W' => ∃ b c, e = .returned (.tuple #[.agg #[.slice b 3 c, .int .i64 24], .int .i64 0]) ∧ Row .u8 W' b 3 c (pack exX) ∧ Below w.heap.size w W') := Go.Lib.hid fun w => by
    have := PEncode_ok _ _ 2 2 [5, 2000] (lit_rowK .u32 57 w [5, 2000] 2 (0, 0) rfl (by decide) (by decide)) (by decide) rfl (by decide)
    unfold Res at this
    rw [show (codesD dStart [5, 2000]).length = 24 from exX_len] at this
    refine this.mono ?_
    rintro e w' ⟨b, c, h1, h2, h3⟩
    exact ⟨b, c, h1, h2, (below1 w _).trans (h3.mono (by simp))⟩
  have s2 : Hid (∀ w b c, Row .u8 w b 3 c (pack exX) → ResL 13 #[.agg #[.slice b 3 c, .int .i64 24], .int .i64 2] w [5, 2000] 24 0) := Go.Lib.hid fun w b c hr => by
    have := PDecode_m w b 3 c exX 2 hr (by rw [exX_len]; decide) (by decide) _ _ _ exX_dec
    rw [exX_len] at this
    exact this
  have s3 : Hid (∀ (w : World) a n c, Row .u32 w a n c [5, 2000] → Calls Try.prog 21 #[.slice a n c, .slice (some ⟨w.heap.size, 0, none⟩) 2 2] (w.alloc (.cells #[.int .u32 5, .int .u32 2000] 57)) fun e W' => e = .returned (.bool true) ∧ Below w.heap.size w W') := Go.Lib.hid fun w a n c hr => by
    have := CSame_ok _ a n c [5, 2000] (hr.below (below1 w _) (Nat.le_refl _)) _ 2 2 [5, 2000] (lit_rowK .u32 57 w [5, 2000] 2 (0, 0) rfl (by decide) (by decide))
    refine this.mono ?_
    rintro e w' ⟨h1, h2⟩
    exact ⟨by rw [h1]; rfl, (below1 w _).trans (h2.mono (by simp))⟩
  unfold ResL at s2
  have k1 : ((24 : Int) == 24) = true := rfl
  go_enter Try.func16, Try.ntmps16
  go_wp2_with (first
    | (go_at_call 11; ((with_reducible refine (s1.out _).mono ?_)); rintro e w1 ⟨b1, c1, rfl, hr1, hb1⟩; have G1 := Go.Lib.hid (hb1.alloc hb1.size (.cells #[.slice b1 3 c1, .int .i64 24] 24)); have R1 := Go.Lib.hid (hr1.below (below1 w1 (.cells #[.slice b1 3 c1, .int .i64 24] 24)) (Nat.le_refl _)); have B1 := Go.Lib.hid (box1 w1 (.slice b1 3 c1) 24); clear hb1 hr1)
    | (go_at_call 13; ((with_reducible refine (s2.out _ _ _ R1.out).mono ?_)); rintro e w2 ⟨a2, m2, c2, rfl, hr2, hb2⟩; have G2 := Go.Lib.hid (G1.out.trans (hb2.mono G1.out.size)); have B2 := Go.Lib.hid (B1.out.below hb2 B1.out.lt); have R2 := Go.Lib.hid hr2; obtain ⟨f0, f1, f2, f3⟩ := B2.out.cells; clear hb2 hr2)
    | (go_at_call 21; ((with_reducible refine (s3.out _ _ _ _ R2.out).mono ?_)); rintro e w3 ⟨rfl, hb3⟩; have G3 := Go.Lib.hid (G2.out.trans (hb3.mono G2.out.size)); clear hb3))
  go_ret
  exact ⟨rfl, G3.out⟩
end Go.Proofs.Ytifbigmgiakakaa

/- What a world holds while codes are written behind the code of the first numbers. -/
namespace Go.Proofs.Ytifbigmgiakakaa
open Go.RowKit Cad

structure PartsAt (W : World) (al : Option Addr) (ll cl : Nat) (l : List Int) (xa : Nat) (ba : Option Addr) (La ca : Nat) (A : Int) (XA : List Bool) (xb xn : Nat) (w : World) (au : Option Addr) (L cu : Nat) (M : Int) (X : List Bool) (E : Du) : Prop where
  a : BoxAt w xa (.slice ba La ca) A
  ra : Row .u8 w ba La ca (pack XA)
  b : BoxAt w xb (.slice au L cu) M
  n : DuAt w xn E.k0 E.k1 E.s0 E.s1
  r : Row .u8 w au L cu (pack X)
  l : Row .u32 w al ll cl l
  w : Below W.heap.size W w
section
variable {W : World} {al : Option Addr} {ll cl : Nat} {l : List Int} {xa : Nat} {ba : Option Addr} {La ca : Nat} {A : Int} {XA : List Bool} {xb xn : Nat} {w w' : World} {au : Option Addr} {L cu : Nat} {M : Int} {X : List Bool} {E : Du}
theorem PartsAt.below (h : PartsAt W al ll cl l xa ba La ca A XA xb xn w au L cu M X E) (hb : Below w.heap.size w w') : PartsAt W al ll cl l xa ba La ca A XA xb xn w' au L cu M X E :=
  ⟨h.a.below hb h.a.lt, h.ra.below hb (Nat.le_refl _), h.b.below hb h.b.lt, h.n.below hb h.n.lt, h.r.below hb (Nat.le_refl _), h.l.below hb (Nat.le_refl _), h.w.trans (hb.mono h.w.size)⟩
/-- both variables are written -/
theorem PartsAt.next (h : PartsAt W al ll cl l xa ba La ca A XA xb xn w au L cu M X E) (h1 : W.heap.size ≤ xb) (h2 : W.heap.size ≤ xn) (hab : xa ≠ xb) (han : xa ≠ xn) (hne : xb ≠ xn) {b' : Option Addr} {L' c' : Nat} {M' : Int} {X' : List Bool} (E' : Du) (hr : Row .u8 w b' L' c' (pack X')) :
    PartsAt W al ll cl l xa ba La ca A XA xb xn ((((((w.setCell ⟨xb, 0, none⟩ (.slice b' L' c')).setCell ⟨xb, 1, none⟩ (.int .i64 M')).setCell ⟨xn, 0, none⟩ (.int .i64 E'.k0)).setCell ⟨xn, 1, none⟩ (.int .i64 E'.k1)).setCell ⟨xn, 2, none⟩ (.int .u64 E'.s0)).setCell ⟨xn, 3, none⟩ (.int .u64 E'.s1)) b' L' c' M' X' E' := by
  obtain ⟨o1, o2, o3, o4⟩ := outs h.b h.n hne b' L' c' M' E'.k0 E'.k1 E'.s0 E'.s1
  have hp2 := (h.n.other (p := ⟨xb, 0, none⟩) hne.symm (.slice b' L' c')).other (p := ⟨xb, 1, none⟩) hne.symm (.int .i64 M')
  refine ⟨?_, o4 h.ra, o1, o2, o4 hr, ?_, o3 h.w h1 h2⟩
  · exact (((((h.a.other hab _).other hab _).other han _).other han _).other han _).other han _
  · have r1 := (h.l.boxU h.b 0 (.slice b' L' c')).boxU (h.b.set0 _) 1 (.int .i64 M')
    exact (((r1.boxD (.inr rfl) hp2 0 _).boxD (.inr rfl) (hp2.set0 _) 1 _).boxD (.inr rfl) ((hp2.set0 _).set1 _) 2 _).boxD (.inr rfl) (((hp2.set0 _).set1 _).set2 _) 3 _
end
end Go.Proofs.Ytifbigmgiakakaa
