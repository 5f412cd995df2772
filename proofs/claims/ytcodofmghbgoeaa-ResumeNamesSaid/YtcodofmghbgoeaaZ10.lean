/- Texts of the proof, one behind the other: CodC, CodD, ResJ, ResX, ResL, RegZ, ResB, CodL, ResQ. -/
import Derived.Test.YtcodofmghbgoeaaZ9
import Derived.Laws.CopyOwn
/- Contracts of the package coder: Encode and After. -/
namespace Go.Proofs.Ytcodofmghbgoeaa
open Go.RowKit Cad

theorem map_drop (m : List Nat) (h : Nat) : (m.map Int.ofNat).drop h = (m.drop h).map Int.ofNat := by simp
theorem map_take (m : List Nat) (h : Nat) : (m.map Int.ofNat).take h = (m.take h).map Int.ofNat := by simp

/-- the code of numbers from a state on, and the state behind them -/
theorem Pcode_ok : ∀ (n : Nat) (W : World) (al : Option Addr) (ll cl : Nat) (m : List Nat) (D : Du), ll ≤ n → Row .u32 W al ll cl (m.map Int.ofNat) → ll ≤ 4000 → m.length = ll → (∀ x ∈ m, x < 4294967296) → D.ok →
    ResD 36 #[.slice al ll cl, .agg #[.int .i64 D.k0, .int .i64 D.k1, .int .u64 D.s0, .int .u64 D.s1]] W (((codesD D m).length + 7) / 8) (pack (codesD D m)) (codesD D m).length (after D m).k0 (after D m).k1 (after D m).s0 (after D m).s1 0 := by
  intro n
  induction n with
  | zero =>
    intro W al ll cl m D hn hl h4 hm h32 hd
    obtain rfl : ll = 0 := by omega
    obtain rfl : m = [] := List.length_eq_zero_iff.1 hm
    rw [show codesD D [] = [] from rfl, show after D [] = D from rfl, show pack [] = [] by rfl]; exact Pcode_nil W al cl D
  | succ n ih =>
    intro W al ll cl m D hn hl h4 hm h32 hd
    by_cases h0 : ll = 0
    · subst h0
      obtain rfl : m = [] := List.length_eq_zero_iff.1 hm
      rw [show codesD D [] = [] from rfl, show after D [] = D from rfl, show pack [] = [] by rfl]; exact Pcode_nil W al cl D
    by_cases h1 : ll = 1
    · subst h1
      obtain ⟨v, rfl⟩ := List.length_eq_one_iff.1 hm
      have hv := h32 v (by simp)
      have e : codesD D [v] = dualB D v := by simp [codesD]
      rw [e]
      refine Pcode_one W al cl _ v D (after D [v]) hl rfl _ _ _ fun w => ?_
      rw [dualB_len]
      exact DWrite_alone w D v hd hv _ _ rfl rfl _ rfl (after D [v]) rfl
    obtain ⟨b, o, rfl, -, -⟩ := hl.cells (by omega)
    obtain ⟨h, hh⟩ : ∃ h, h = ll / 2 := ⟨_, rfl⟩
    have hE := after_ok (m.take h) hd fun x hx => h32 x (List.mem_of_mem_take hx)
    have hs : codesD D m = codesD D (m.take h) ++ codesD (after D (m.take h)) (m.drop h) := by rw [← codesD_append, List.take_append_drop]
    have ha : after D m = after (after D (m.take h)) (m.drop h) := by rw [← after_append, List.take_append_drop]
    have l1 : (m.take h).length = h := by rw [List.length_take]; omega
    have l2 : (m.drop h).length = ll - h := by rw [List.length_drop]; omega
    have b1 := codesD_len_le (m.take h) hd fun x hx => h32 x (List.mem_of_mem_take hx)
    have b2 := codesD_len_le (m.drop h) hE fun x hx => h32 x (List.mem_of_mem_drop hx)
    rw [ha, hs]
    refine Pcode_more W b o ll cl _ D (after D (m.take h)) (after (after D (m.take h)) (m.drop h)) h hl h4 (by omega) hh (((codesD D (m.take h)).length + 7) / 8) (pack (codesD D (m.take h))) (codesD D (m.take h)).length (((codesD (after D (m.take h)) (m.drop h)).length + 7) / 8) (pack (codesD (after D (m.take h)) (m.drop h))) (codesD (after D (m.take h)) (m.drop h)).length _ _ _ (fun w hw => ?_) (fun w hw => ?_) (fun w c k c' k' r r' => ?_)
    rotate_left 2
    · have := BJoin_ok w c _ k _ r c' _ k' _ r' (by omega)
      rw [← List.length_append] at this
      exact this
    · have hr := hw.take h (by omega)
      rw [map_take] at hr
      exact ih w _ h cl (m.take h) D (by omega) hr (by omega) l1 (fun x hx => h32 x (List.mem_of_mem_take hx)) hd
    · have hr := hw.sub h (ll - h) (by omega)
      rw [map_drop, List.take_of_length_le (by simp; omega)] at hr
      exact ih w _ (ll - h) (cl - h) (m.drop h) _ (by omega) hr (by omega) l2 (fun x hx => h32 x (List.mem_of_mem_drop hx)) hE
set_option maxRecDepth 100000 in
theorem PEncode_many (W : World) (al : Option Addr) (ll cl : Nat) (h : (4000 : Int) < ll) (_hl : ll ≤ 9223372036854775807) :
    Calls Try.prog 22 #[.slice al ll cl] W fun e W' => e = .returned (.tuple #[.agg #[.slice none 0 0, .int .i64 0], .int .i64 4]) ∧ Below W.heap.size W W' := by
  go_enter Try.func22, Try.ntmps22
  go_wp2
  go_returns
  exact ⟨rfl, (Below.refl _ _).alloc (Nat.le_refl _) _⟩
set_option maxRecDepth 100000 in
theorem PAfter_many (W : World) (al : Option Addr) (ll cl : Nat) (h : (4000 : Int) < ll) (_hl : ll ≤ 9223372036854775807) :
    Calls Try.prog 23 #[.slice al ll cl] W fun e W' => e = .returned (.tuple #[.agg #[.int .i64 0, .int .i64 0, .int .u64 0, .int .u64 0], .int .i64 4]) ∧ Below W.heap.size W W' := by
  go_enter Try.func23, Try.ntmps23
  go_wp2
  go_returns
  exact ⟨rfl, (Below.refl _ _).alloc (Nat.le_refl _) _⟩

set_option maxRecDepth 100000 in
set_option maxHeartbeats 1000000 in
theorem PEncode_ok (W : World) (al : Option Addr) (ll cl : Nat) (m : List Nat) (hl : Row .u32 W al ll cl (m.map Int.ofNat)) (h4 : ll ≤ 4000) (hm : m.length = ll) (hm32 : ∀ x ∈ m, x < 4294967296) :
    Res 22 #[.slice al ll cl] W (((codesD dStart m).length + 7) / 8) (pack (codesD dStart m)) (codesD dStart m).length 0 := by
  have st := Go.Lib.hid Dstart_ok
  have hc := Go.Lib.hid fun w hw => Pcode_ok ll w al ll cl m dStart (Nat.le_refl _) hw h4 hm hm32 dStart_ok
  unfold ResD at hc
  obtain ⟨E, hE⟩ : ∃ E, E = after dStart m := ⟨_, rfl⟩
  obtain ⟨X, hX⟩ : ∃ X, X = codesD dStart m := ⟨_, rfl⟩
  obtain ⟨L, hL⟩ : ∃ L, L = (X.length + 7) / 8 := ⟨_, rfl⟩
  obtain ⟨N, hN⟩ : ∃ N, N = X.length := ⟨_, rfl⟩
  rw [← hX] at hc ⊢
  rw [← hE, ← hL, ← hN] at hc
  rw [← hL, ← hN]
  have hc2 : Hid (∀ w, Row .u32 w al ll cl (m.map Int.ofNat) → Calls Try.prog 36 #[.slice al ll cl, .agg #[.int .i64 10, .int .i64 10, .int .u64 16384, .int .u64 16384]] w fun e W' => ∃ b c, e = .returned (.tuple #[.agg #[.slice b L c, .int .i64 N], .agg #[.int .i64 E.k0, .int .i64 E.k1, .int .u64 E.s0, .int .u64 E.s1], .int .i64 0]) ∧ Row .u8 W' b L c (pack X) ∧ Below w.heap.size w W') := hc
  clear hE hX hL hN hm hm32 hc
  have hl4 : (ll : Int) ≤ 4000 := by omega
  have hl' := Go.Lib.hid (hl.below (below1 W (.cells #[.slice none 0 0, .int .i64 0] 27)) (Nat.le_refl _))
  have b0 := Go.Lib.hid (box1 W (.slice none 0 0) 0)
  have B0 := Go.Lib.hid (below1 W (.cells #[.slice none 0 0, .int .i64 0] 27))
  clear hl
  unfold Res
  go_enter Try.func22, Try.ntmps22
  go_wp2_with (first
    | (go_at_call 27; with_reducible refine (st.out _).mono ?_; rintro e w0 ⟨rfl, hb0⟩; have l1 := Go.Lib.hid (hl'.out.below hb0 (Nat.le_refl _)); have c1 := Go.Lib.hid (b0.out.below hb0 b0.out.lt); have B1 := Go.Lib.hid (B0.out.trans (hb0.mono B0.out.size)); clear hb0)
    | (go_at_call 36; with_reducible refine (hc2.out _ l1.out).mono ?_; rintro e w1 ⟨bb, cc, rfl, hr1, hb1⟩; have b1 := ((c1.out.below hb1 c1.out.lt).alloc (.cells #[.slice bb L cc, .int .i64 N] 27)).alloc (.cells #[.int .i64 E.k0, .int .i64 E.k1, .int .u64 E.s0, .int .u64 E.s1] 24); have b2 := B1.out.trans (hb1.mono B1.out.size); have hb1' := Go.Lib.hid ((b2.alloc b2.size (.cells #[.slice bb L cc, .int .i64 N] 27)).alloc (b2.alloc b2.size (.cells #[.slice bb L cc, .int .i64 N] 27)).size (.cells #[.int .i64 E.k0, .int .i64 E.k1, .int .u64 E.s0, .int .u64 E.s1] 24)); have hr1' := Go.Lib.hid ((hr1.below (below1 w1 (.cells #[.slice bb L cc, .int .i64 N] 27)) (Nat.le_refl _)).below (below1 _ (.cells #[.int .i64 E.k0, .int .i64 E.k1, .int .u64 E.s0, .int .u64 E.s1] 24)) (Nat.le_refl _)); have b1' := Go.Lib.hid b1; obtain ⟨f0, f1, f2, f3⟩ := b1.cells; clear hb1 hr1 b1 b2))
  (try simp only [Exit.inBlock, Exit.then])
  refine bodyPost_ret (results_box_tmp (by rfl) _ _ W.heap.size _ _ rfl (b1'.out.set _ _)) rfl ?_
  exact ⟨bb, cc, by simp, (hr1'.out.box b1'.out 0 _).box (b1'.out.set0 _) 1 _, (hb1'.out.setCell (Nat.le_refl _) _).setCell (Nat.le_refl _) _⟩

set_option maxRecDepth 100000 in
set_option maxHeartbeats 4000000 in
theorem PAfter_ok (W : World) (al : Option Addr) (ll cl : Nat) (l : List Int) (m : List Nat) (hl : Row .u32 W al ll cl l) (h4 : ll ≤ 4000) (hm : m.length = ll) (hml : ∀ k, k < ll → l.getD k 0 = ((m.getD k 0 : Nat) : Int)) (hm32 : ∀ x ∈ m, x < 4294967296) :
    Calls Try.prog 23 #[.slice al ll cl] W fun e W' => e = .returned (.tuple #[.agg #[.int .i64 (after dStart m).k0, .int .i64 (after dStart m).k1, .int .u64 (after dStart m).s0, .int .u64 (after dStart m).s1], .int .i64 0]) ∧ Below W.heap.size W W' := by
  have st := Go.Lib.hid Dstart_ok
  obtain ⟨Ef, hEf⟩ : ∃ E, E = after dStart m := ⟨_, rfl⟩
  rw [← hEf]
  replace hEf := Go.Lib.hid hEf
  have hev : Hid (∀ k, (after dStart (m.take k)).ok) := Go.Lib.hid fun k => after_ok _ dStart_ok fun x hx => hm32 x (List.mem_of_mem_take hx)
  have h32 : Hid (∀ k, k < ll → m.getD k 0 < 4294967296) := Go.Lib.hid fun k hk => hm32 _ (by rw [show m.getD k 0 = m[k] by simp [List.getD, show k < m.length by omega]]; exact List.getElem_mem _)
  have hm' := Go.Lib.hid hm
  have hml' := Go.Lib.hid hml
  have hl' := Go.Lib.hid hl
  have hl4 : (ll : Int) ≤ 4000 := by omega
  have d0 := Go.Lib.hid (duat1 W 0 0 0 0)
  have B0 := Go.Lib.hid (below1 W (.cells #[.int .i64 0, .int .i64 0, .int .u64 0, .int .u64 0] 24))
  clear hm hml hm32 hl
  go_enter Try.func23, Try.ntmps23
  go_wp2_with (go_at_call 27; refine (st.out _).mono ?_; rintro e w1 ⟨rfl, hb1⟩; have d1 := Go.Lib.hid (d0.out.below hb1 d0.out.lt); have B1 := Go.Lib.hid (B0.out.trans (hb1.mono B0.out.size)); clear hb1)
  have d2 := Go.Lib.hid (d1.out.alloc (.cells #[.int .i64 10, .int .i64 10, .int .u64 16384, .int .u64 16384] 24))
  have B2 := Go.Lib.hid (B1.out.alloc B1.out.size (.cells #[.int .i64 10, .int .i64 10, .int .u64 16384, .int .u64 16384] 24))
  have e2 := Go.Lib.hid (duat1 w1 10 10 16384 16384)
  obtain ⟨w2, hw2⟩ : ∃ w, w = w1.alloc (.cells #[.int .i64 10, .int .i64 10, .int .u64 16384, .int .u64 16384] 24) := ⟨_, rfl⟩
  have hx4 : W.heap.size < w1.heap.size := d1.out.lt
  obtain ⟨x4, hxx⟩ : ∃ x, x = w1.heap.size := ⟨_, rfl⟩
  rw [← hw2] at d2 B2 e2
  rw [← hxx] at e2 hx4
  try rw [← hw2]
  try rw [← hxx]
  clear hw2 hxx d1 B1 d0 B0
  go_loopg [16] ll (fun g i wr => ∃ (k : Nat), k ≤ ll ∧ g = ll - k ∧ i = .int .i64 k ∧ DuAt wr x4 ((after dStart (m.take k)).k0 : Int) ((after dStart (m.take k)).k1 : Int) ((after dStart (m.take k)).s0 : Int) ((after dStart (m.take k)).s1 : Int) ∧ DuAt wr W.heap.size 0 0 0 0 ∧ Below W.heap.size W wr)
  case atStart => exact ⟨0, Nat.zero_le _, rfl, rfl, e2.out, d2.out, B2.out⟩
  case round =>
  obtain ⟨k, hk, hg, rfl, he, hd, hB⟩ := hrel
  replace hg := Go.Lib.hid hg
  clear d2 B2 e2
  by_cases hlt : k < ll
  · have hlt' : (k : Int) < ll := by omega
    have hta := after_take_succ m dStart (show k < m.length by rw [hm'.out]; exact hlt)
    have hv32 := h32.out k hlt
    have hmk := hml'.out k hlt
    have hEo := hev.out k
    obtain ⟨num, hnum⟩ : ∃ v, v = m.getD k 0 := ⟨_, rfl⟩
    rw [← hnum] at hta hv32 hmk
    obtain ⟨E, hE⟩ : ∃ E, E = after dStart (m.take k) := ⟨_, rfl⟩
    rw [← hE] at hta hEo he
    obtain ⟨E', hE'⟩ : ∃ E', E' = learnD E num := ⟨_, rfl⟩
    rw [← hE'] at hta
    have lrn : Hid (∀ w, Calls Try.prog 37 #[.agg #[.int .i64 E.k0, .int .i64 E.k1, .int .u64 E.s0, .int .u64 E.s1], .int .u32 num] w fun e W' => e = .returned (.tuple #[.agg #[.int .i64 E'.k0, .int .i64 E'.k1, .int .u64 E'.s0, .int .u64 E'.s1], .int .i64 0]) ∧ Below w.heap.size w W') := Go.Lib.hid fun w => by rw [hE']; exact DLearn_ok w E num hEo hv32
    replace hta := Go.Lib.hid hta
    obtain ⟨bl, ol, rfl, hblt, hc⟩ := (hl'.out.below hB (Nat.le_refl _)).cells (by omega)
    have hcell := hc k hlt
    rw [hmk] at hcell
    obtain ⟨z0, z1, z2, z3, z4, z5, z6, z7⟩ := he.cells
    have he' := Go.Lib.hid he
    have hd' := Go.Lib.hid hd
    have hB' := Go.Lib.hid hB
    clear hE hE' hnum hc hEo he hd hB
    go_wp2_with (go_at_call 37; with_reducible refine (lrn.out _).mono ?_; rintro e q ⟨rfl, hs⟩; have he2 := Go.Lib.hid ((he'.out.below hs he'.out.lt).alloc (.cells #[.int .i64 E'.k0, .int .i64 E'.k1, .int .u64 E'.s0, .int .u64 E'.s1] 24)); have hd2 := Go.Lib.hid ((hd'.out.below hs hd'.out.lt).alloc (.cells #[.int .i64 E'.k0, .int .i64 E'.k1, .int .u64 E'.s0, .int .u64 E'.s1] 24)); have hB3 := hB'.out.trans (hs.mono hB'.out.size); have hB2 := Go.Lib.hid (hB3.alloc hB3.size (.cells #[.int .i64 E'.k0, .int .i64 E'.k1, .int .u64 E'.s0, .int .u64 E'.s1] 24)); obtain ⟨z0, z1, z2, z3, z4, z5, z6, z7⟩ := he2.out.cells; clear hs hB3)
    go_roundg (ll - (k + 1))
    case measure => (have hgk := hg.out; omega)
    case rel =>
      refine ⟨k + 1, by omega, rfl, by go_num, ?_, ?_, ?_⟩
      · rw [hta.out]; exact he2.out.set _ _ _ _
      · exact (((hd2.out.other (by simp; omega) _).other (by simp; omega) _).other (by simp; omega) _).other (by simp; omega) _
      · exact outp hB2.out (by omega)
  · obtain rfl : k = ll := by omega
    have hmt : m.take k = m := List.take_of_length_le (by rw [hm'.out]; exact Nat.le_refl _)
    rw [hmt] at he
    rw [← hEf.out] at he
    clear hmt
    have hlt' : ¬ (k : Int) < (k : Int) := by omega
    obtain ⟨z0, z1, z2, z3, z4, z5, z6, z7⟩ := he.cells
    obtain ⟨y0, y1, y2, y3, y4, y5, y6, y7⟩ := hd.cells
    have he' := Go.Lib.hid he
    have hd' := Go.Lib.hid hd
    have hB' := Go.Lib.hid hB
    clear he hd hB
    go_wp2
    (try simp only [Exit.inBlock, Exit.then])
    refine bodyPost_ret (results_du_tmp (by rfl) _ _ W.heap.size _ _ _ _ rfl (hd'.out.set _ _ _ _)) rfl ?_
    exact ⟨by simp, outp hB'.out (Nat.le_refl _)⟩
end Go.Proofs.Ytcodofmghbgoeaa

/- Contracts of the package coder: Decode. -/
namespace Go.Proofs.Ytcodofmghbgoeaa
open Go.RowKit Cad

theorem set_next (l : List Nat) (k r v : Nat) (h : l.length = k) : (nums .u32 ((l ++ List.replicate (r + 1) 0).map Int.ofNat)).set k (.int .u32 (v : Int)) = nums .u32 (((l ++ [v]) ++ List.replicate r 0).map Int.ofNat) := by
  subst h
  simp [nums, List.replicate_succ, List.map_append]

end Go.Proofs.Ytcodofmghbgoeaa

/- Contracts of the package resume: readAll. -/
namespace Go.Proofs.Ytcodofmghbgoeaa
open Go.RowKit Cad

section
variable {P : Program} {T E : TypeId} {k : IntKind} (he : Elem P T E k) (w : World) {ops : Array Oper} {rest : List Oper} {o : Oper} {a : Act} {Q : Exit → Act → World → Prop} (hg : o.guard = none)
include he hg
/-- copy(d, s): d is the call's own row, s reads as at least as many numbers -/
theorem law_copyTake (d s : Operand) (sT : TypeId) (hop : o.op = Op.call { callee := Callee.builtin Builtin.copy, args := #[d, s], argTypes := #[T, sT] }) (base g n c : Nat) (old : List Int) (hd : a.eval d = .slice (some ⟨g, 0, none⟩) n c)
    (hown : w.ownsRow base E 1 (.slice (some ⟨g, 0, none⟩) n c) n (nums k old)) (ax : Option Addr) (m cx : Nat) (news : List Int) (hx : a.eval s = .slice ax m cx) (hr : Row k w ax m cx news) (hm : n ≤ m)
    (hK : ∀ w', w'.ownsRow base E 1 (.slice (some ⟨g, 0, none⟩) n c) n (nums k (news.take n)) → Below g w w' → wpList P ops Q rest (a.put o.dst (goInt n)) w') :
    wpList P ops Q (o :: rest) a w := by
  obtain ⟨b, hb, hi⟩ := he.info
  have hsz : (P.info? E).map (·.size) = some 1 := by
    obtain ⟨i0, hi, _, hz1, _⟩ := info_parts hi
    rw [hi]; simp [hz1]
  obtain ⟨hl, h2⟩ := hown
  rcases h2 with ⟨h0, _⟩ | ⟨g', cap, cur, e, hbg, hh, hn, hmx, hs, ht⟩
  · cases h0
  simp only [Value.slice.injEq, Option.some.injEq, Addr.mk.injEq] at e
  obtain ⟨⟨rfl, _, _⟩, _, rfl⟩ := e
  have hlen := hr.hlen
  have hnl : (nums k (news.take n)).length = n := by simp [nums, hlen]; omega
  have hcur : cur.toList.length = c := by simpa using hs
  refine wpList_copy_splice hg d s T sT hop E he.sl hsz (some ⟨g, 0, none⟩) ax n c m cx hd hx g 0 cur.toList E (by simpa using hh) (nums k (news.take n)) (by show _ = min m n; rw [Nat.min_eq_right hm]; exact hnl) ?_ (by rw [hnl, hcur]; omega) (ints_oneCell k _) g w (Below.refl _ _) (Nat.le_refl _) ?_
  · intro hp
    rw [hnl] at hp
    obtain ⟨b', off, rfl, hlt, hc⟩ := hr.cells (by omega)
    refine ⟨rfl, _, rfl, fun j v hj => ?_⟩
    simp only [nums, List.getElem?_map, Option.map_eq_some_iff] at hj
    obtain ⟨z, hz, rfl⟩ := hj
    have hjn : j < n := by
      apply Classical.byContradiction; intro h; rw [List.getElem?_eq_none (by rw [List.length_take]; omega)] at hz; simp at hz
    rw [List.getElem?_take, if_pos hjn] at hz
    rw [show (⟨b', off, none⟩ : Addr).add j = ⟨b', off + j, none⟩ by unfold Addr.add; split <;> simp_all, hc j (by omega)]
    simp [List.getD, hz]
  · intro w' h1 h2
    have h1 : w'.heap[g]? = some (.cells (splice cur.toList 0 (nums k (news.take n))).toArray E (0, 0)) := h1
    have e := hK w' ⟨by simpa using hnl, .inr ⟨g, c, _, rfl, hbg, h1, hn, hmx, ?_, ?_⟩⟩ h2
    · rw [hnl]; exact e
    · simp [splice, hcur, hnl]; omega
    · simp only [splice, List.take_zero, List.nil_append, Nat.zero_add, hnl, Nat.mul_one]
      rw [List.take_append, hnl, Nat.sub_self, List.take_zero, List.append_nil, List.take_of_length_le (Nat.le_of_eq hnl)]
end

/-- what a call hands back: a state whose bits are new, numbers and an error -/
def ResG (f : FuncId) (args : Array Value) (W : World) (F : Fed) : Prop :=
  Calls Try.prog f args W fun r W' => ∃ bb cc a m c, r = .returned (.tuple #[.agg #[.int .i64 F.n, .int .i64 F.d.k0, .int .i64 F.d.k1, .int .u64 F.d.s0, .int .u64 F.d.s1, .slice bb ((F.r.length + 7) / 8) cc, .int .i64 F.r.length], .slice a m c, .int .i64 F.e]) ∧
    Row .u8 W' bb ((F.r.length + 7) / 8) cc (pack F.r) ∧ Row .u32 W' a m c (F.l.map Int.ofNat) ∧ Below W.heap.size W W' ∧ ((F.r.length + 7) / 8 = 0 ∨ ∃ g o, bb = some ⟨g, o, none⟩ ∧ W.heap.size ≤ g)
theorem ResG.resF {f : FuncId} {args : Array Value} {W : World} {F : Fed} (h : ResG f args W F) : ResF f args W F :=
  h.mono fun _ _ ⟨bb, cc, a, m, c, h1, h2, h3, h4, _⟩ => ⟨bb, cc, a, m, c, h1, h2, h3, h4⟩
theorem ResG.none {f : FuncId} {args : Array Value} {W : World} {e : Nat} (h : Calls Try.prog f args W fun r W' => r = .returned (.tuple #[.agg #[.int .i64 0, .int .i64 0, .int .i64 0, .int .u64 0, .int .u64 0, .slice none 0 0, .int .i64 0], .slice none 0 0, .int .i64 e]) ∧ Below W.heap.size W W') : ResG f args W (fedE e) :=
  h.mono fun _ _ ⟨h1, h2⟩ => ⟨Option.none, 0, Option.none, 0, 0, by rw [h1]; simp [fedE], row_fedE _ _, Row.nil_row _ _, h2, .inl (by rw [show (fedE e).r = [] from rfl]; rfl)⟩

/-- the variables of readAll: the state, all bits, what it returns, the index -/
theorem ra_boxes (W : World) (n a b c d : Int) (v : Value) (N : Int) (v' : Value) (N' : Int) : ∃ W0, W0 = (((W.alloc (.cells #[.int .i64 n, .int .i64 a, .int .i64 b, .int .u64 c, .int .u64 d, v, .int .i64 N] 29)).alloc (.cells #[v', .int .i64 N'] 27)).alloc (.cells #[.int .i64 0, .int .i64 0, .int .i64 0, .int .u64 0, .int .u64 0, .slice none 0 0, .int .i64 0] 29)).alloc (.cells #[.int .i64 0] 3) ∧ Below W.heap.size W W0 ∧ W0.heap.size = W.heap.size + 1 + 1 + 1 + 1 ∧
    ResAt W0 W.heap.size n a b c d v N ∧ BoxAt W0 (W.heap.size + 1) v' N' ∧ ResAt W0 (W.heap.size + 1 + 1) 0 0 0 0 0 (.slice none 0 0) 0 ∧ IntAt W0 (W.heap.size + 1 + 1 + 1) 0 := by
  obtain ⟨w1, h1⟩ : ∃ w, w = W.alloc (.cells #[.int .i64 n, .int .i64 a, .int .i64 b, .int .u64 c, .int .u64 d, v, .int .i64 N] 29) := ⟨_, rfl⟩
  obtain ⟨w2, h2⟩ : ∃ w, w = w1.alloc (.cells #[v', .int .i64 N'] 27) := ⟨_, rfl⟩
  obtain ⟨w3, h3⟩ : ∃ w, w = w2.alloc (.cells #[.int .i64 0, .int .i64 0, .int .i64 0, .int .u64 0, .int .u64 0, .slice none 0 0, .int .i64 0] 29) := ⟨_, rfl⟩
  rw [← h1, ← h2, ← h3]
  have s1 : w1.heap.size = W.heap.size + 1 := by rw [h1]; simp
  have s2 : w2.heap.size = W.heap.size + 1 + 1 := by rw [h2]; simp [s1]
  have s3 : w3.heap.size = W.heap.size + 1 + 1 + 1 := by rw [h3]; simp [s2]
  have r1 : ResAt w1 W.heap.size n a b c d v N := by rw [h1]; exact resat1 W n a b c d v N
  have x2 : BoxAt w2 (W.heap.size + 1) v' N' := by rw [h2, ← s1]; exact box1 w1 v' N'
  have z3 : ResAt w3 (W.heap.size + 1 + 1) 0 0 0 0 0 (.slice none 0 0) 0 := by rw [h3, ← s2]; exact resat1 w2 0 0 0 0 0 _ 0
  have r2 : ResAt w2 W.heap.size n a b c d v N := by rw [h2]; exact r1.alloc _
  have r3 : ResAt w3 W.heap.size n a b c d v N := by rw [h3]; exact r2.alloc _
  have x3 : BoxAt w3 (W.heap.size + 1) v' N' := by rw [h3]; exact x2.alloc _
  have b1 : Below W.heap.size W w1 := by rw [h1]; exact below1 W _
  have b2 : Below W.heap.size W w2 := by rw [h2]; exact b1.alloc (by omega) _
  have b3 : Below W.heap.size W w3 := by rw [h3]; exact b2.alloc (by omega) _
  refine ⟨_, rfl, b3.alloc (by omega) _, by simp [s3], r3.alloc _, x3.alloc _, z3.alloc _, ?_⟩
  unfold IntAt; rw [← s3, heap_alloc_new]

set_option maxRecDepth 100000 in
set_option maxHeartbeats 8000000 in
theorem PreadAll_ok (W : World) (aa : Option Addr) (len cap n : Nat) (N : Int) (D : Du) (ab : Option Addr) (nb cb : Nat) (B : List Bool) (hbr : Row .u8 W ab nb cb (pack B)) (hB : B.length ≤ 330000) (hd : D.ok) (hn : n ≤ 4000) :
    ResG 28 #[.agg #[.int .i64 n, .int .i64 D.k0, .int .i64 D.k1, .int .u64 D.s0, .int .u64 D.s1, .slice aa len cap, .int .i64 N], .agg #[.slice ab nb cb, .int .i64 B.length]] W (rdA n B D) := by
  have hmf : ∀ (fn : Fn) (first cap : Array Value) (w : World), (Instr.makeFunc fn first cap).run Try.prog w = .ok (.func fn first cap) w := fun _ _ _ _ => rfl
  unfold ResG
  obtain ⟨F, hF⟩ : ∃ F, F = rdA n B D := ⟨_, rfl⟩
  rw [← hF]
  obtain ⟨N0, hN0⟩ : ∃ x, x = B.length := ⟨_, rfl⟩
  rw [← hN0]
  obtain ⟨most, hmost⟩ : ∃ x, x = min n N0 := ⟨_, rfl⟩
  have hmn : most ≤ n := by omega
  have hmN : most ≤ N0 := by omega
  have hmx : most < n → most = N0 := by omega
  have hmin : (if N0 < n then (N0 : Int) else (n : Int)) = (most : Int) := by split <;> omega
  obtain ⟨W0, hW0, hbE, hs0, hr0, hx0, hz0, hi0⟩ := ra_boxes W n D.k0 D.k1 D.s0 D.s1 (.slice aa len cap) N (.slice ab nb cb) N0
  have hF' := Go.Lib.hid hF
  have hN0' := Go.Lib.hid hN0
  have hbr' := Go.Lib.hid hbr
  have hB' := Go.Lib.hid hB
  have hd' := Go.Lib.hid hd
  have hr0' := Go.Lib.hid hr0
  have hx0' := Go.Lib.hid hx0
  have hz0' := Go.Lib.hid hz0
  have hi0' := Go.Lib.hid hi0
  have hbE' := Go.Lib.hid hbE
  have hmx' := Go.Lib.hid hmx
  have hN3 : (N0 : Int) ≤ 330000 := by omega
  have hnI : (n : Int) ≤ 4000 := by omega
  clear hF hN0 hbr hB hd hr0 hx0 hz0 hi0 hbE hmost hmx
  go_enter Try.func28, Try.ntmps28
  go_wp2_with (at_make; rw [← hW0]; refine law_make elU32 _ rfl _ _ rfl .i64 .i64 _ _ most rfl rfl (by omega) (by omega) (by omega) ?_; intro w1 hown1 hb1 hs1; have o1 := Go.Lib.hid hown1; have r1 := Go.Lib.hid (hr0'.out.below hb1 hr0'.out.lt); have x1 := Go.Lib.hid (hx0'.out.below hb1 hx0'.out.lt); have z1 := Go.Lib.hid (hz0'.out.below hb1 hz0'.out.lt); have i1 := Go.Lib.hid (hi0'.out.below hb1 hi0'.out.lt); have B1 := Go.Lib.hid (hbE'.out.trans (hb1.mono hbE'.out.size)); obtain ⟨gb, hgb⟩ : ∃ g, g = W0.heap.size := ⟨_, rfl⟩; rw [← hgb] at o1 hs0 hs1 ⊢; have hg4 : W.heap.size + 1 + 1 + 1 < gb := (by omega); clear hown1 hb1 hgb hW0 hs0)
  clear hr0' hx0' hz0' hi0' hbE' hmin hmf
  go_loopg [11, 26] most (fun g cnt i wr => ∃ (k : Nat) (l : List Nat) (p : Nat) (E : Du), k ≤ most ∧ g = most - k ∧ i = .int .i64 k ∧ cnt = .int .i64 k ∧ k ≤ p ∧ p ≤ B.length ∧ E.ok ∧ F = glueF l (rdA (n - k) (B.drop p) E) ∧ l.length = k ∧ (∀ x ∈ l, x < 4294967296) ∧
    wr.ownsRow gb 40 1 (.slice (some ⟨gb, 0, none⟩) most most) most (nums .u32 ((l ++ List.replicate (most - k) 0).map Int.ofNat)) ∧ BoxAt wr (W.heap.size + 1) (.slice ab nb cb) N0 ∧ IntAt wr (W.heap.size + 1 + 1 + 1) p ∧ ResAt wr W.heap.size (n - k : Nat) E.k0 E.k1 E.s0 E.s1 (.slice aa len cap) N ∧ ResAt wr (W.heap.size + 1 + 1) 0 0 0 0 0 (.slice none 0 0) 0 ∧ Below W.heap.size W wr)
  case atStart =>
    refine ⟨0, [], 0, D, Nat.zero_le _, rfl, rfl, rfl, Nat.le_refl _, Nat.zero_le _, hd'.out, ?_, rfl, fun x hx => (by cases hx), ?_, x1.out, i1.out, r1.out, z1.out, B1.out⟩
    · rw [Nat.sub_zero, List.drop_zero, glueF_rdA]; exact hF'.out
    · have e : ([] ++ List.replicate (most - 0) 0 : List Nat).map Int.ofNat = List.replicate most 0 := by simp
      rw [e]; exact o1.out
  case round =>
  obtain ⟨k, l, p, E, hk, hg, rfl, rfl, hkp, hp, hE, hgl, hlk, hl32, ho, hx, hi, hr, hz, hB⟩ := hrel
  obtain ⟨w2, hw2⟩ : ∃ w, w = wr := ⟨_, rfl⟩
  subst hw2
  have hgo := Go.Lib.hid hg
  have hgl' := Go.Lib.hid hgl
  have hE' := Go.Lib.hid hE
  have hp' := Go.Lib.hid hp
  have hkp' := Go.Lib.hid hkp
  have hl' := Go.Lib.hid hl32
  have hlk' := Go.Lib.hid hlk
  have o2 := Go.Lib.hid ho
  have x2 := Go.Lib.hid hx
  have i2 := Go.Lib.hid hi
  have r2 := Go.Lib.hid hr
  have z2 := Go.Lib.hid hz
  have B2 := Go.Lib.hid hB
  have ap : Hid (∀ y, y ≠ gb → ∀ g, (Value.slice (some ⟨gb, 0, none⟩) most most).ownBlock = some g → g ≠ y) := Go.Lib.hid fun y hy g e => by
    obtain rfl : g = gb := by simpa [Value.ownBlock] using e.symm
    exact hy.symm
  clear hg hgl hE hp hkp hl32 hlk ho hx hi hr hz hB o1 r1 x1 z1 i1 B1
  by_cases hlt : k < most
  · have hlt' : (k : Int) < most := by omega
    obtain ⟨v, q, er, hv⟩ : ∃ v q er, readD B p E = (v, q, er) := ⟨_, _, _, rfl⟩
    have hv' := Go.Lib.hid hv
    obtain ⟨j, hj⟩ : ∃ j, n - k = j + 1 := ⟨n - k - 1, by omega⟩
    have hj2 : n - (k + 1) = j := by omega
    by_cases he : er = 0
    · subst he
      obtain ⟨hv32, hq1, hqB, -⟩ := dual_is hv hp'.out hE'.out.1 hE'.out.2.1
      have hpos := dualLen_pos E v
      obtain ⟨E2, hEE⟩ : ∃ E', E' = learnD E v := ⟨_, rfl⟩
      have hE2 := Go.Lib.hid (show E2.ok by rw [hEE]; exact learnD_ok hE'.out hv32)
      have hst := Go.Lib.hid (show F = glueF (l ++ [v]) (rdA (n - (k + 1)) (B.drop q) E2) by
        rw [hgl'.out, hj, rdA_step hv hp'.out, glueF_glue, ← hEE, hj2])
      have nx : Hid (Calls Try.prog 40 #[.pointer (some ⟨W.heap.size + 1, 0, none⟩), .pointer (some ⟨W.heap.size + 1 + 1 + 1, 0, none⟩), .pointer (some ⟨W.heap.size, 0, none⟩)] w2 fun e W' => e = .returned (.tuple #[.int .u32 v, .int .i64 0]) ∧ ∃ w1, Below w2.heap.size w2 w1 ∧ W' = nextW w1 (W.heap.size + 1 + 1 + 1) W.heap.size q E2.k0 E2.k1 E2.s0 E2.s1 (n - (k + 1) : Nat)) := Go.Lib.hid (by
        refine Pnext_ok w2 _ _ _ _ _ _ _ _ _ v q E E2 _ x2.out i2.out r2.out (by omega) (by omega) (by omega) ?_
        have := DRead_ok w2 ab nb cb B p E (hbr'.out.below B2.out (Nat.le_refl _)) hB'.out hp'.out hE'.out v q hv
        rw [← hEE, ← hN0'.out] at this
        exact this)
      have hq2 := Go.Lib.hid (show k + 1 ≤ q by have := hkp'.out; omega)
      clear hv hq1 hEE hj hj2 hpos
      go_wp2_with (go_at_call 40; with_reducible refine nx.out.mono ?_; rintro e w5 ⟨rfl, w6, hb6, hw5⟩; have o5 := Go.Lib.hid (show w5.ownsRow gb 40 1 (.slice (some ⟨gb, 0, none⟩) most most) most (nums .u32 ((l ++ List.replicate (most - k) 0).map Int.ofNat)) by rw [hw5]; exact nextW_own (own_below o2.out hb6 (Nat.le_refl _)) (ap.out _ (by omega)) (ap.out _ (by omega))); have x5 := Go.Lib.hid (show BoxAt w5 (W.heap.size + 1) (.slice ab nb cb) N0 by rw [hw5]; exact nextW_box (x2.out.below hb6 x2.out.lt) (by omega) (by omega)); have i5 := Go.Lib.hid (show IntAt w5 (W.heap.size + 1 + 1 + 1) q by rw [hw5]; exact nextW_int (i2.out.below hb6 i2.out.lt) (by omega)); have r5 := Go.Lib.hid (show ResAt w5 W.heap.size (n - (k + 1) : Nat) E2.k0 E2.k1 E2.s0 E2.s1 (.slice aa len cap) N by rw [hw5]; exact nextW_res (r2.out.below hb6 r2.out.lt) (by omega)); have z5 := Go.Lib.hid (show ResAt w5 (W.heap.size + 1 + 1) 0 0 0 0 0 (.slice none 0 0) 0 by rw [hw5]; exact nextW_other (z2.out.below hb6 z2.out.lt) (by omega) (by omega)); have B5 := Go.Lib.hid (show Below W.heap.size W w5 by rw [hw5]; exact nextW_below (B2.out.trans (hb6.mono B2.out.size)) (by omega) (by omega)); have hc1 := o5.out.cellAt k (by omega); have hf1 := o5.out.frozenAt k; obtain ⟨v0, hv0⟩ : ∃ v0, (nums .u32 ((l ++ List.replicate (most - k) 0).map Int.ofNat))[k]? = some v0 := ⟨_, List.getElem?_eq_getElem (by have := hlk'.out; simp [nums]; omega)⟩; rw [hv0] at hc1; clear hb6 hw5)
      go_roundg (most - (k + 1))
      case measure => (have hgk := hgo.out; omega)
      case rel =>
        refine ⟨k + 1, l ++ [v], q, E2, by omega, rfl, by go_num, by go_num, hq2.out, hqB, hE2.out, hst.out, by have := hlk'.out; simp [this], fun x hx => ?_, ?_, x5.out.other (by simp; omega) _, i5.out.other (by simp; omega) _, r5.out.other (by simp; omega) _, z5.out.other (by simp; omega) _, B5.out.setCell (by simp; omega) _⟩
        · rcases List.mem_append.1 hx with hx | hx
          · exact hl'.out x hx
          · rw [List.mem_singleton] at hx; rw [hx]; exact hv32
        · have := (o5.out.stored k (.int .u32 (v : Int))).1
          rw [show most - k = (most - (k + 1)) + 1 by omega, set_next l k _ v hlk'.out] at this
          exact this
    · have hre := DRead_er w2 ab nb cb B p E (hbr'.out.below B2.out (Nat.le_refl _)) hB'.out hp'.out hE'.out v q er he hv
      rw [← hN0'.out] at hre
      have nx := Go.Lib.hid (Pnext_er w2 _ _ _ _ _ _ _ _ er E _ x2.out i2.out r2.out (by omega) hre)
      by_cases h24 : er = 24
      · subst h24
        clear hre
        go_upto_region 14 with (go_at_call 40; with_reducible refine nx.out.mono ?_; rintro e w5 ⟨rfl, hb5⟩; have o5 := Go.Lib.hid (own_below o2.out hb5 (Nat.le_refl _)); have x5 := Go.Lib.hid (x2.out.below hb5 x2.out.lt); have i5 := Go.Lib.hid (i2.out.below hb5 i2.out.lt); have r5 := Go.Lib.hid (r2.out.below hb5 r2.out.lt); have z5 := Go.Lib.hid (z2.out.below hb5 z2.out.lt); have B5 := Go.Lib.hid (B2.out.trans (hb5.mono B2.out.size)); clear hb5)
        obtain ⟨nk, hnk⟩ : ∃ x, x = n - k := ⟨_, rfl⟩
        have hfin : Hid (F = ⟨l, B.drop p, nk, E, 0⟩) := Go.Lib.hid (by rw [hnk]; rw [hgl'.out, hj, rdA_stop hv hp'.out, glueF_ok, List.append_nil])
        have hnk' := Go.Lib.hid hnk
        clear hnk hj hj2 hv
        obtain ⟨R, hR⟩ : ∃ R, R = B.drop p := ⟨_, rfl⟩
        obtain ⟨RN, hRN⟩ : ∃ x, x = R.length := ⟨_, rfl⟩
        obtain ⟨RL, hRL⟩ : ∃ x, x = (RN + 7) / 8 := ⟨_, rfl⟩
        have ct : Hid (∀ w, Row .u8 w ab nb cb (pack B) → Calls Try.prog 42 #[.agg #[.slice ab nb cb, .int .i64 N0], .int .i64 p, .int .i64 N0] w fun e W' => ∃ b c, e = .returned (.tuple #[.agg #[.slice (some ⟨b, 0, none⟩) RL c, .int .i64 RN], .int .i64 0]) ∧ w.heap.size ≤ b ∧ Row .u8 W' (some ⟨b, 0, none⟩) RL c (pack R) ∧ Below w.heap.size w W') := Go.Lib.hid fun w h => by
          have := BCut_new w ab nb cb B p B.length h hB'.out hp'.out (Nat.le_refl _)
          have e : midB B p B.length = B.drop p := by unfold midB; rw [List.take_of_length_le (by rw [List.length_drop]; omega)]
          have e2 : B.length - p = RN := by rw [hRN, hR, List.length_drop]
          rw [e, ← hR, ← hRN, ← hRL, e2, ← hN0'.out] at this
          exact this
        have hR' := Go.Lib.hid hR
        have hRN' := Go.Lib.hid hRN
        have hRL' := Go.Lib.hid hRL
        obtain ⟨i0, i1⟩ := i5.out.cell
        obtain ⟨f0, f1, f2, f3⟩ := x5.out.cells
        clear hR hRN hRL
        go_upto_region 15 with (go_at_call 42; with_reducible refine (ct.out _ (hbr'.out.below B5.out (Nat.le_refl _))).mono ?_; rintro e c1 ⟨b2, c2, rfl, hg2, hr2, hs⟩; have hg3 := Go.Lib.hid (Nat.le_trans B5.out.size hg2); have hr3 := Go.Lib.hid hr2; have xo := Go.Lib.hid (own_below o5.out hs (Nat.le_refl _)); have xr := Go.Lib.hid (r5.out.below hs r5.out.lt); have xz := Go.Lib.hid (z5.out.below hs z5.out.lt); have xB := Go.Lib.hid (B5.out.trans (hs.mono B5.out.size)); clear hs hg2 hr2)
        obtain ⟨c3, hc3⟩ : ∃ w, w = c1.alloc (.cells #[.slice (some ⟨b2, 0, none⟩) RL c2, .int .i64 RN] 27) := ⟨_, rfl⟩
        obtain ⟨x14, hx14⟩ : ∃ x, x = c1.heap.size := ⟨_, rfl⟩
        have o3 := Go.Lib.hid (show c3.ownsRow gb 40 1 (.slice (some ⟨gb, 0, none⟩) most most) most (nums .u32 ((l ++ List.replicate (most - k) 0).map Int.ofNat)) by rw [hc3]; exact own_below xo.out (below1 c1 _) (Nat.le_refl _))
        have r3 := Go.Lib.hid (show ResAt c3 W.heap.size nk E.k0 E.k1 E.s0 E.s1 (.slice aa len cap) N by rw [hc3, hnk'.out]; exact xr.out.alloc _)
        have z3 := Go.Lib.hid (show ResAt c3 (W.heap.size + 1 + 1) 0 0 0 0 0 (.slice none 0 0) 0 by rw [hc3]; exact xz.out.alloc _)
        have B3 := Go.Lib.hid (show Below W.heap.size W c3 by rw [hc3]; exact xB.out.alloc xB.out.size _)
        have t3 := Go.Lib.hid (show Row .u8 c3 (some ⟨b2, 0, none⟩) RL c2 (pack R) by rw [hc3]; exact hr3.out.below (below1 c1 _) (Nat.le_refl _))
        have y3 := Go.Lib.hid (show BoxAt c3 x14 (.slice (some ⟨b2, 0, none⟩) RL c2) RN by rw [hc3, hx14]; exact box1 c1 _ _)
        have n14 : W.heap.size < x14 := by rw [hx14]; exact xr.out.lt
        rw [← hc3]
        try rw [← hx14]
        clear hc3 hx14 xo xr xz xB hr3 i0 i1 f0 f1 f2 f3
        obtain ⟨f0, f1, f2, f3⟩ := y3.out.cells
        obtain ⟨s0, s1, s2, s3, s4, s5, s6, s7, s8, s9, s10, s11, s12, s13⟩ := r3.out.cells
        go_upto_region 18 with (fail)
        obtain ⟨c4, hc4⟩ : ∃ w, w = (c3.setCell ⟨W.heap.size, 5, none⟩ (.slice (some ⟨b2, 0, none⟩) RL c2)).setCell ⟨W.heap.size, 6, none⟩ (.int .i64 RN) := ⟨_, rfl⟩
        have o4 := Go.Lib.hid (show c4.ownsRow gb 40 1 (.slice (some ⟨gb, 0, none⟩) most most) most (nums .u32 ((l ++ List.replicate (most - k) 0).map Int.ofNat)) by rw [hc4]; exact own_setG (own_setG o3.out (ap.out _ (by omega)) _ _) (ap.out _ (by omega)) _ _)
        have r4 := Go.Lib.hid (show ResAt c4 W.heap.size nk E.k0 E.k1 E.s0 E.s1 (.slice (some ⟨b2, 0, none⟩) RL c2) RN by rw [hc4]; exact r3.out.setB _ _)
        have z4 := Go.Lib.hid (show ResAt c4 (W.heap.size + 1 + 1) 0 0 0 0 0 (.slice none 0 0) 0 by rw [hc4]; exact (z3.out.other (by simp; omega) _).other (by simp; omega) _)
        have B4 := Go.Lib.hid (show Below W.heap.size W c4 by rw [hc4]; exact (B3.out.setCell (Nat.le_refl _) _).setCell (Nat.le_refl _) _)
        have t4 := Go.Lib.hid (show Row .u8 c4 (some ⟨b2, 0, none⟩) RL c2 (pack R) by rw [hc4]; exact Row.boxR (.inl rfl) (Row.boxR (.inl rfl) t3.out ⟨_, _, _, _, _, _, _, _, _, r3.out⟩ 5 (.slice (some ⟨b2, 0, none⟩) RL c2)) ⟨_, _, _, _, _, _, _, _, _, r3.out.set5 _⟩ 6 _)
        rw [← hc4]
        clear hc4 o3 r3 z3 B3 t3 y3 f0 f1 f2 f3 s0 s1 s2 s3 s4 s5 s6 s7 s8 s9 s10 s11 s12 s13
        have wf4 : ∀ x ∈ (l ++ List.replicate (most - k) 0).map Int.ofNat, (Lit.int .u32 x).wf = true := natsU _ fun x hx => by
          rcases List.mem_append.1 hx with hx | hx
          · exact hl'.out x hx
          · rw [(List.mem_replicate.1 hx).2]; decide
        have m4 := Go.Lib.hid (Row.of_own o4.out wf4)
        clear wf4
        go_upto_region 19 with (at_make; refine law_make elU32 _ rfl _ _ rfl .i64 .i64 _ _ k rfl rfl (by omega) (by omega) (by omega) ?_; intro c5 hown hbl hsz; have o5' := Go.Lib.hid hown; have r5' := Go.Lib.hid (r4.out.below hbl r4.out.lt); have z5' := Go.Lib.hid (z4.out.below hbl z4.out.lt); have m5' := Go.Lib.hid (m4.out.below hbl (Nat.le_refl _)); have B5' := Go.Lib.hid (B4.out.trans (hbl.mono B4.out.size)); have gz : W.heap.size + 1 + 1 < c4.heap.size := z4.out.lt; obtain ⟨gn, hgn⟩ : ∃ g, g = c4.heap.size := ⟨_, rfl⟩; have gle : c4.heap.size ≤ gn := Nat.le_of_eq hgn.symm; rw [← hgn] at o5' gz hsz hbl ⊢; have s45 := Go.Lib.hid hbl; clear hown hbl hgn)
        clear o4 r4 z4 B4 m4
        go_wp2_with (with_reducible show wpList _ _ _ _ _ _; refine law_copyTake elU32 _ rfl _ _ _ rfl gn gn k k (List.replicate k 0) rfl o5'.out (some ⟨gb, 0, none⟩) most most _ rfl m5'.out (by omega) ?_; intro c6 hown hbl; have o6 := Go.Lib.hid hown; have r6 := Go.Lib.hid (r5'.out.below hbl (by omega)); have z6 := Go.Lib.hid (z5'.out.below hbl (by omega)); have t6 := Go.Lib.hid hbl; have B6 := Go.Lib.hid (B5'.out.trans (hbl.mono (by omega))); obtain ⟨s0, s1, s2, s3, s4, s5, s6, s7, s8, s9, s10, s11, s12, s13⟩ := r6.out.cells; obtain ⟨u0, u1, u2, u3, u4, u5, u6, u7, u8, u9, u10, u11, u12, u13⟩ := z6.out.cells; clear hown hbl)
        (try simp only [Exit.inBlock, Exit.then])
        refine bodyPost_ret (results_res_two (by rfl) _ _ (W.heap.size + 1 + 1) _ _ _ _ _ _ _ rfl (z6.out.set nk E.k0 E.k1 E.s0 E.s1 (.slice (some ⟨b2, 0, none⟩) RL c2) RN)) rfl ?_
        have rN : Row .u32 c6 (some ⟨gn, 0, none⟩) k k (l.map Int.ofNat) := by
          have e : ((l ++ List.replicate (most - k) 0).map Int.ofNat).take k = l.map Int.ofNat := by
            rw [List.map_append, List.take_left' (by rw [List.length_map]; exact hlk'.out)]
          have h := o6.out
          rw [e] at h
          exact Row.of_own h (natsU _ hl'.out)
        have tN := t4.out.below (s45.out.trans t6.out) gle
        rw [hfin.out]
        have e1 := hRL'.out
        have e2 := hRN'.out
        have e3 := hR'.out
        subst e1 e2 e3
        exact ⟨some ⟨b2, 0, none⟩, c2, some ⟨gn, 0, none⟩, k, k, by simp, rows7 (.inl rfl) tN z6.out, rows7 (.inr rfl) rN z6.out, below7 B6.out (by omega), .inr ⟨b2, 0, rfl, hg3.out⟩⟩
      · have hfin : Hid (F = fedE er) := Go.Lib.hid (by rw [hgl'.out, hj, rdA_fail hv hp'.out h24 he, glueF_E _ he])
        have he1 : ((er : Int) == 24) = false := by rw [beq_eq_false_iff_ne]; omega
        have he2 : ((er : Int) != 0) = true := by rw [bne_iff_ne]; omega
        clear hre hj hj2 hv
        go_wp2_with (go_at_call 40; with_reducible refine nx.out.mono ?_; rintro e w5 ⟨rfl, hb5⟩; have z5 := Go.Lib.hid (z2.out.below hb5 z2.out.lt); have B5 := Go.Lib.hid (B2.out.trans (hb5.mono B2.out.size)); obtain ⟨u0, u1, u2, u3, u4, u5, u6, u7, u8, u9, u10, u11, u12, u13⟩ := z5.out.cells; clear hb5)
        (try simp only [Exit.inBlock, Exit.then])
        refine bodyPost_ret (results_res_two (by rfl) _ _ (W.heap.size + 1 + 1) _ _ _ _ _ _ _ rfl (z5.out.set 0 0 0 0 0 (.slice none 0 0) 0)) rfl ?_
        rw [hfin.out]
        exact ⟨none, 0, none, 0, 0, by simp [fedE], row_fedE _ _, Row.nil_row _ _, below7 B5.out (by omega), .inl (by rw [show (fedE er).r = [] from rfl]; rfl)⟩
  · have hkm : k = most := by omega
    have hlt' : ¬ (k : Int) < most := by omega
    have hend : Hid (rdA (n - k) (B.drop p) E = ⟨[], B.drop p, n - k, E, 0⟩) := Go.Lib.hid (by
      by_cases h : k = n
      · rw [h, Nat.sub_self]; rfl
      · have h1 := hmx'.out (by omega)
        have h2 := hN0'.out
        have h3 := hkp'.out
        rw [List.drop_eq_nil_of_le (by omega), rdA_nil])
    clear hkm
    go_upto_region 14 with (fail)
    obtain ⟨nk, hnk⟩ : ∃ x, x = n - k := ⟨_, rfl⟩
    have hfin : Hid (F = ⟨l, B.drop p, nk, E, 0⟩) := Go.Lib.hid (by rw [hnk]; rw [hgl'.out, hend.out, glueF_ok, List.append_nil])
    have hnk' := Go.Lib.hid hnk
    clear hnk hend
    obtain ⟨R, hR⟩ : ∃ R, R = B.drop p := ⟨_, rfl⟩
    obtain ⟨RN, hRN⟩ : ∃ x, x = R.length := ⟨_, rfl⟩
    obtain ⟨RL, hRL⟩ : ∃ x, x = (RN + 7) / 8 := ⟨_, rfl⟩
    have ct : Hid (∀ w, Row .u8 w ab nb cb (pack B) → Calls Try.prog 42 #[.agg #[.slice ab nb cb, .int .i64 N0], .int .i64 p, .int .i64 N0] w fun e W' => ∃ b c, e = .returned (.tuple #[.agg #[.slice (some ⟨b, 0, none⟩) RL c, .int .i64 RN], .int .i64 0]) ∧ w.heap.size ≤ b ∧ Row .u8 W' (some ⟨b, 0, none⟩) RL c (pack R) ∧ Below w.heap.size w W') := Go.Lib.hid fun w h => by
      have := BCut_new w ab nb cb B p B.length h hB'.out hp'.out (Nat.le_refl _)
      have e : midB B p B.length = B.drop p := by unfold midB; rw [List.take_of_length_le (by rw [List.length_drop]; omega)]
      have e2 : B.length - p = RN := by rw [hRN, hR, List.length_drop]
      rw [e, ← hR, ← hRN, ← hRL, e2, ← hN0'.out] at this
      exact this
    have hR' := Go.Lib.hid hR
    have hRN' := Go.Lib.hid hRN
    have hRL' := Go.Lib.hid hRL
    obtain ⟨i0, i1⟩ := i2.out.cell
    obtain ⟨f0, f1, f2, f3⟩ := x2.out.cells
    clear hR hRN hRL
    go_upto_region 15 with (go_at_call 42; with_reducible refine (ct.out _ (hbr'.out.below B2.out (Nat.le_refl _))).mono ?_; rintro e c1 ⟨b2, c2, rfl, hg2, hr2, hs⟩; have hg3 := Go.Lib.hid (Nat.le_trans B2.out.size hg2); have hr3 := Go.Lib.hid hr2; have xo := Go.Lib.hid (own_below o2.out hs (Nat.le_refl _)); have xr := Go.Lib.hid (r2.out.below hs r2.out.lt); have xz := Go.Lib.hid (z2.out.below hs z2.out.lt); have xB := Go.Lib.hid (B2.out.trans (hs.mono B2.out.size)); clear hs hg2 hr2)
    obtain ⟨c3, hc3⟩ : ∃ w, w = c1.alloc (.cells #[.slice (some ⟨b2, 0, none⟩) RL c2, .int .i64 RN] 27) := ⟨_, rfl⟩
    obtain ⟨x14, hx14⟩ : ∃ x, x = c1.heap.size := ⟨_, rfl⟩
    have o3 := Go.Lib.hid (show c3.ownsRow gb 40 1 (.slice (some ⟨gb, 0, none⟩) most most) most (nums .u32 ((l ++ List.replicate (most - k) 0).map Int.ofNat)) by rw [hc3]; exact own_below xo.out (below1 c1 _) (Nat.le_refl _))
    have r3 := Go.Lib.hid (show ResAt c3 W.heap.size nk E.k0 E.k1 E.s0 E.s1 (.slice aa len cap) N by rw [hc3, hnk'.out]; exact xr.out.alloc _)
    have z3 := Go.Lib.hid (show ResAt c3 (W.heap.size + 1 + 1) 0 0 0 0 0 (.slice none 0 0) 0 by rw [hc3]; exact xz.out.alloc _)
    have B3 := Go.Lib.hid (show Below W.heap.size W c3 by rw [hc3]; exact xB.out.alloc xB.out.size _)
    have t3 := Go.Lib.hid (show Row .u8 c3 (some ⟨b2, 0, none⟩) RL c2 (pack R) by rw [hc3]; exact hr3.out.below (below1 c1 _) (Nat.le_refl _))
    have y3 := Go.Lib.hid (show BoxAt c3 x14 (.slice (some ⟨b2, 0, none⟩) RL c2) RN by rw [hc3, hx14]; exact box1 c1 _ _)
    have n14 : W.heap.size < x14 := by rw [hx14]; exact xr.out.lt
    rw [← hc3]
    try rw [← hx14]
    clear hc3 hx14 xo xr xz xB hr3 i0 i1 f0 f1 f2 f3
    obtain ⟨f0, f1, f2, f3⟩ := y3.out.cells
    obtain ⟨s0, s1, s2, s3, s4, s5, s6, s7, s8, s9, s10, s11, s12, s13⟩ := r3.out.cells
    go_upto_region 18 with (fail)
    obtain ⟨c4, hc4⟩ : ∃ w, w = (c3.setCell ⟨W.heap.size, 5, none⟩ (.slice (some ⟨b2, 0, none⟩) RL c2)).setCell ⟨W.heap.size, 6, none⟩ (.int .i64 RN) := ⟨_, rfl⟩
    have o4 := Go.Lib.hid (show c4.ownsRow gb 40 1 (.slice (some ⟨gb, 0, none⟩) most most) most (nums .u32 ((l ++ List.replicate (most - k) 0).map Int.ofNat)) by rw [hc4]; exact own_setG (own_setG o3.out (ap.out _ (by omega)) _ _) (ap.out _ (by omega)) _ _)
    have r4 := Go.Lib.hid (show ResAt c4 W.heap.size nk E.k0 E.k1 E.s0 E.s1 (.slice (some ⟨b2, 0, none⟩) RL c2) RN by rw [hc4]; exact r3.out.setB _ _)
    have z4 := Go.Lib.hid (show ResAt c4 (W.heap.size + 1 + 1) 0 0 0 0 0 (.slice none 0 0) 0 by rw [hc4]; exact (z3.out.other (by simp; omega) _).other (by simp; omega) _)
    have B4 := Go.Lib.hid (show Below W.heap.size W c4 by rw [hc4]; exact (B3.out.setCell (Nat.le_refl _) _).setCell (Nat.le_refl _) _)
    have t4 := Go.Lib.hid (show Row .u8 c4 (some ⟨b2, 0, none⟩) RL c2 (pack R) by rw [hc4]; exact Row.boxR (.inl rfl) (Row.boxR (.inl rfl) t3.out ⟨_, _, _, _, _, _, _, _, _, r3.out⟩ 5 (.slice (some ⟨b2, 0, none⟩) RL c2)) ⟨_, _, _, _, _, _, _, _, _, r3.out.set5 _⟩ 6 _)
    rw [← hc4]
    clear hc4 o3 r3 z3 B3 t3 y3 f0 f1 f2 f3 s0 s1 s2 s3 s4 s5 s6 s7 s8 s9 s10 s11 s12 s13
    have wf4 : ∀ x ∈ (l ++ List.replicate (most - k) 0).map Int.ofNat, (Lit.int .u32 x).wf = true := natsU _ fun x hx => by
      rcases List.mem_append.1 hx with hx | hx
      · exact hl'.out x hx
      · rw [(List.mem_replicate.1 hx).2]; decide
    have m4 := Go.Lib.hid (Row.of_own o4.out wf4)
    clear wf4
    go_upto_region 19 with (at_make; refine law_make elU32 _ rfl _ _ rfl .i64 .i64 _ _ k rfl rfl (by omega) (by omega) (by omega) ?_; intro c5 hown hbl hsz; have o5' := Go.Lib.hid hown; have r5' := Go.Lib.hid (r4.out.below hbl r4.out.lt); have z5' := Go.Lib.hid (z4.out.below hbl z4.out.lt); have m5' := Go.Lib.hid (m4.out.below hbl (Nat.le_refl _)); have B5' := Go.Lib.hid (B4.out.trans (hbl.mono B4.out.size)); have gz : W.heap.size + 1 + 1 < c4.heap.size := z4.out.lt; obtain ⟨gn, hgn⟩ : ∃ g, g = c4.heap.size := ⟨_, rfl⟩; have gle : c4.heap.size ≤ gn := Nat.le_of_eq hgn.symm; rw [← hgn] at o5' gz hsz hbl ⊢; have s45 := Go.Lib.hid hbl; clear hown hbl hgn)
    clear o4 r4 z4 B4 m4
    go_wp2_with (with_reducible show wpList _ _ _ _ _ _; refine law_copyTake elU32 _ rfl _ _ _ rfl gn gn k k (List.replicate k 0) rfl o5'.out (some ⟨gb, 0, none⟩) most most _ rfl m5'.out (by omega) ?_; intro c6 hown hbl; have o6 := Go.Lib.hid hown; have r6 := Go.Lib.hid (r5'.out.below hbl (by omega)); have z6 := Go.Lib.hid (z5'.out.below hbl (by omega)); have t6 := Go.Lib.hid hbl; have B6 := Go.Lib.hid (B5'.out.trans (hbl.mono (by omega))); obtain ⟨s0, s1, s2, s3, s4, s5, s6, s7, s8, s9, s10, s11, s12, s13⟩ := r6.out.cells; obtain ⟨u0, u1, u2, u3, u4, u5, u6, u7, u8, u9, u10, u11, u12, u13⟩ := z6.out.cells; clear hown hbl)
    (try simp only [Exit.inBlock, Exit.then])
    refine bodyPost_ret (results_res_two (by rfl) _ _ (W.heap.size + 1 + 1) _ _ _ _ _ _ _ rfl (z6.out.set nk E.k0 E.k1 E.s0 E.s1 (.slice (some ⟨b2, 0, none⟩) RL c2) RN)) rfl ?_
    have rN : Row .u32 c6 (some ⟨gn, 0, none⟩) k k (l.map Int.ofNat) := by
      have e : ((l ++ List.replicate (most - k) 0).map Int.ofNat).take k = l.map Int.ofNat := by
        rw [List.map_append, List.take_left' (by rw [List.length_map]; exact hlk'.out)]
      have h := o6.out
      rw [e] at h
      exact Row.of_own h (natsU _ hl'.out)
    have tN := t4.out.below (s45.out.trans t6.out) gle
    rw [hfin.out]
    have e1 := hRL'.out
    have e2 := hRN'.out
    have e3 := hR'.out
    subst e1 e2 e3
    exact ⟨some ⟨b2, 0, none⟩, c2, some ⟨gn, 0, none⟩, k, k, by simp, rows7 (.inl rfl) tN z6.out, rows7 (.inr rfl) rN z6.out, below7 B6.out (by omega), .inr ⟨b2, 0, rfl, hg3.out⟩⟩
end Go.Proofs.Ytcodofmghbgoeaa

/- Contracts of the package resume: Feed. -/
namespace Go.Proofs.Ytcodofmghbgoeaa
open Go.RowKit Cad

set_option maxRecDepth 100000 in
set_option maxHeartbeats 1000000 in
theorem PsFeed_bad (W : World) (aa : Option Addr) (len cap : Nat) (n a b c d N : Int) (l : List Int) (ab : Option Addr) (nb cb : Nat) (lb : List Int) (hr : Row .u8 W aa len cap l) (_hbr : Row .u8 W ab nb cb lb) (hN : (Lit.int .i64 N).wf = true) (ha : (Lit.int .i64 a).wf = true) (hb : (Lit.int .i64 b).wf = true) (hc : (Lit.int .u64 c).wf = true) (hd : (Lit.int .u64 d).wf = true) (hno : ¬ ResOk n a b c d l N) :
    ResF 10 #[.agg #[.int .i64 n, .int .i64 a, .int .i64 b, .int .u64 c, .int .u64 d, .slice aa len cap, .int .i64 N], .slice ab nb cb] W (fedE 8) := by
  refine ResF.none ?_
  obtain ⟨W0, hW0, hbE, hsz0, hx0, hz0⟩ := rr_boxes W n a b c d (.slice aa len cap) N
  have ck := Go.Lib.hid (PsCheck_any W0 aa len cap n a b c d N l (hr.below hbE (Nat.le_refl _)) hN ha hb hc hd 8 (.inr ⟨hno, rfl⟩))
  have hz0' := Go.Lib.hid hz0
  have hbE' := Go.Lib.hid hbE
  clear hr hN ha hb hc hd hno hx0 hz0 hbE
  go_enter Try.func10, Try.ntmps10
  go_wp2_with (go_at_call 11; rw [← hW0]; clear hW0; with_reducible refine ck.out.mono ?_; rintro e w1 ⟨rfl, hb1⟩; have z1 := Go.Lib.hid (hz0'.out.below hb1 hz0'.out.lt); have B1 := Go.Lib.hid (hbE'.out.trans (hb1.mono hbE'.out.size)); obtain ⟨f0, f1, f2, f3, f4, f5, f6, g0, g1, g2, g3, g4, g5, g6⟩ := z1.out.cells; clear hb1)
  (try simp only [Exit.inBlock, Exit.then])
  refine bodyPost_ret (results_res_two (by rfl) _ _ (W.heap.size + 1) _ _ _ _ _ _ _ rfl (z1.out.set 0 0 0 0 0 (.slice none 0 0) 0)) rfl ?_
  exact ⟨by simp, below7 B1.out (by omega)⟩
set_option maxRecDepth 100000 in
set_option maxHeartbeats 1000000 in
theorem PsFeed_many (W : World) (aa : Option Addr) (len cap : Nat) (n : Nat) (D : Du) (R : List Bool) (ab : Option Addr) (nb cb : Nat) (lb : List Int) (hr : Row .u8 W aa len cap (pack R)) (_hbr : Row .u8 W ab nb cb lb) (hok : ResOkN n D R) (hnb : 41000 < nb) (hnb2 : nb ≤ 9223372036854775807) :
    ResF 10 #[.agg #[.int .i64 n, .int .i64 D.k0, .int .i64 D.k1, .int .u64 D.s0, .int .u64 D.s1, .slice aa len cap, .int .i64 R.length], .slice ab nb cb] W (fedE 4) := by
  refine ResF.none ?_
  have w4 := du_wf hok.d
  have b80 := hok.b80
  obtain ⟨W0, hW0, hbE, hsz0, hx0, hz0⟩ := rr_boxes W n D.k0 D.k1 D.s0 D.s1 (.slice aa len cap) R.length
  have ck := Go.Lib.hid (PsCheck_any W0 aa len cap n D.k0 D.k1 D.s0 D.s1 R.length (pack R) (hr.below hbE (Nat.le_refl _)) (bounds_of_len (by omega)) w4.1 w4.2.1 w4.2.2.1 w4.2.2.2 0 (.inl ⟨⟨n, D, R, hok, rfl, rfl, rfl, rfl, rfl, rfl, rfl⟩, rfl⟩))
  obtain ⟨N, hN⟩ : ∃ N, N = R.length := ⟨_, rfl⟩
  rw [← hN] at ck hW0 hx0 ⊢
  have hz0' := Go.Lib.hid hz0
  have hbE' := Go.Lib.hid hbE
  have hk : (41000 : Int) < nb := by omega
  clear hr hok w4 b80 hx0 hz0 hbE hN
  go_enter Try.func10, Try.ntmps10
  go_wp2_with (go_at_call 11; rw [← hW0]; clear hW0; with_reducible refine ck.out.mono ?_; rintro e w1 ⟨rfl, hb1⟩; have z1 := Go.Lib.hid (hz0'.out.below hb1 hz0'.out.lt); have B1 := Go.Lib.hid (hbE'.out.trans (hb1.mono hbE'.out.size)); obtain ⟨f0, f1, f2, f3, f4, f5, f6, g0, g1, g2, g3, g4, g5, g6⟩ := z1.out.cells; clear hb1)
  (try simp only [Exit.inBlock, Exit.then])
  refine bodyPost_ret (results_res_two (by rfl) _ _ (W.heap.size + 1) _ _ _ _ _ _ _ rfl (z1.out.set 0 0 0 0 0 (.slice none 0 0) 0)) rfl ?_
  exact ⟨by simp, below7 B1.out (by omega)⟩

set_option maxRecDepth 100000 in
set_option maxHeartbeats 4000000 in
theorem PsFeed_new (W : World) (aa : Option Addr) (len cap : Nat) (n : Nat) (D : Du) (R : List Bool) (ab : Option Addr) (nb cb : Nat) (bl : List Nat) (hr : Row .u8 W aa len cap (pack R)) (hok : ResOkN n D R) (hbr : Row .u8 W ab nb cb (bl.map Int.ofNat)) (hbl : bl.length = nb) (h256 : ∀ x ∈ bl, x < 256) (hnb : nb ≤ 41000) :
    ResG 10 #[.agg #[.int .i64 n, .int .i64 D.k0, .int .i64 D.k1, .int .u64 D.s0, .int .u64 D.s1, .slice aa len cap, .int .i64 R.length], .slice ab nb cb] W (fed n (R ++ bytesB bl) D) := by
  have w4 := du_wf hok.d
  have b80 := hok.b80
  have hlB : (bytesB bl).length = 8 * nb := by rw [bytesB_len, hbl]
  have hlC : (R ++ bytesB bl).length = R.length + (bytesB bl).length := List.length_append ..
  have hpk := pack_bytes h256
  obtain ⟨W0, hW0, hbE, hsz0, hx0, hz0⟩ := rr_boxes W n D.k0 D.k1 D.s0 D.s1 (.slice aa len cap) R.length
  have ck := Go.Lib.hid (PsCheck_any W0 aa len cap n D.k0 D.k1 D.s0 D.s1 R.length (pack R) (hr.below hbE (Nat.le_refl _)) (bounds_of_len (by omega)) w4.1 w4.2.1 w4.2.2.1 w4.2.2.2 0 (.inl ⟨⟨n, D, R, hok, rfl, rfl, rfl, rfl, rfl, rfl, rfl⟩, rfl⟩))
  obtain ⟨N, hN⟩ : ∃ N, N = R.length := ⟨_, rfl⟩
  obtain ⟨N1, hN1⟩ : ∃ N, N = (bytesB bl).length := ⟨_, rfl⟩
  obtain ⟨N2, hN2⟩ : ∃ N, N = (R ++ bytesB bl).length := ⟨_, rfl⟩
  obtain ⟨L2, hL2⟩ : ∃ L, L = (N2 + 7) / 8 := ⟨_, rfl⟩
  have of : Hid (∀ w, Row .u8 w ab nb cb (bl.map Int.ofNat) → Calls Try.prog 25 #[.slice ab nb cb] w fun e W' => ∃ a c, e = .returned (.tuple #[.agg #[.slice a nb c, .int .i64 N1], .int .i64 0]) ∧ Row .u8 W' a nb c (pack (bytesB bl)) ∧ Below w.heap.size w W') := Go.Lib.hid fun w h => by
    refine (BOf_ok w ab nb cb _ h (by omega)).mono ?_
    rintro e W' ⟨v', rfl, ho, hb⟩
    obtain ⟨a, c, rfl⟩ := own_form ho
    rw [← hpk] at ho
    exact ⟨a, c, by rw [hN1, hlB]; simp, Row.of_own ho (u8_wf (pack_wf _)), hb⟩
  have jn : Hid (∀ w a c, Row .u8 w aa len cap (pack R) → Row .u8 w a nb c (pack (bytesB bl)) → Calls Try.prog 24 #[.agg #[.slice aa len cap, .int .i64 N], .agg #[.slice a nb c, .int .i64 N1]] w fun e W' => ∃ b c, e = .returned (.tuple #[.agg #[.slice b L2 c, .int .i64 N2], .int .i64 0]) ∧ Row .u8 W' b L2 c (pack (R ++ bytesB bl)) ∧ Below w.heap.size w W') := Go.Lib.hid fun w a c h h' => by
    have := BJoin_ok w aa len cap R h a nb c (bytesB bl) h' (by omega)
    rw [← hN2, ← hL2, ← hN, ← hN1] at this
    rw [show N2 = N + N1 by omega]
    exact this
  obtain ⟨G, hG⟩ : ∃ G, G = rdA n (R ++ bytesB bl) D := ⟨_, rfl⟩
  obtain ⟨RN, hRN⟩ : ∃ x, x = G.r.length := ⟨_, rfl⟩
  obtain ⟨RL, hRL⟩ : ∃ x, x = (RN + 7) / 8 := ⟨_, rfl⟩
  have ra : Hid (∀ w b c, Row .u8 w b L2 c (pack (R ++ bytesB bl)) → Calls Try.prog 28 #[.agg #[.int .i64 n, .int .i64 D.k0, .int .i64 D.k1, .int .u64 D.s0, .int .u64 D.s1, .slice aa len cap, .int .i64 N], .agg #[.slice b L2 c, .int .i64 N2]] w fun r W' => ∃ bb cc a m c, r = .returned (.tuple #[.agg #[.int .i64 G.n, .int .i64 G.d.k0, .int .i64 G.d.k1, .int .u64 G.d.s0, .int .u64 G.d.s1, .slice bb RL cc, .int .i64 RN], .slice a m c, .int .i64 G.e]) ∧
    Row .u8 W' bb RL cc (pack G.r) ∧ Row .u32 W' a m c (G.l.map Int.ofNat) ∧ Below w.heap.size w W' ∧ (RL = 0 ∨ ∃ g o, bb = some ⟨g, o, none⟩ ∧ w.heap.size ≤ g)) := Go.Lib.hid fun w b c h => by
    have := PreadAll_ok w aa len cap n N D b L2 c (R ++ bytesB bl) h (by omega) hok.d hok.n4
    unfold ResG at this
    rw [← hG, ← hRN, ← hRL, ← hN2] at this
    exact this
  have hfed : Hid ((over G ∧ fed n (R ++ bytesB bl) D = fedE 38) ∨ (¬ over G ∧ fed n (R ++ bytesB bl) D = G)) := Go.Lib.hid (by
    rw [hG]
    by_cases h : over (rdA n (R ++ bytesB bl) D)
    · exact .inl ⟨h, fed_over _ _ _ h⟩
    · exact .inr ⟨h, fed_rdA _ _ _ h⟩)
  have hno : Hid (G.e ≠ 0 → G = fedE G.e) := Go.Lib.hid fun h => by rw [hG] at h ⊢; exact rdA_no _ _ _ h
  obtain ⟨F, hF⟩ : ∃ F, F = fed n (R ++ bytesB bl) D := ⟨_, rfl⟩
  rw [← hF] at hfed ⊢
  unfold ResG
  rw [← hN] at ck hW0 hx0 ⊢
  have r0 := Go.Lib.hid (hr.below hbE (Nat.le_refl _))
  have p0 := Go.Lib.hid (hbr.below hbE (Nat.le_refl _))
  have hx0' := Go.Lib.hid hx0
  have hz0' := Go.Lib.hid hz0
  have hbE' := Go.Lib.hid hbE
  have hRN' := Go.Lib.hid hRN
  have hRL' := Go.Lib.hid hRL
  have hk : ¬ (41000 : Int) < nb := by omega
  clear hr hbr hok w4 b80 hx0 hz0 hbE hN hN1 hN2 hL2 hG hRN hRL hF hlB hlC hpk h256 hbl
  go_enter Try.func10, Try.ntmps10
  go_upto_region 6 with (go_at_call 11; rw [← hW0]; clear hW0; with_reducible refine ck.out.mono ?_; rintro e w1 ⟨rfl, hb1⟩; have r1 := Go.Lib.hid (r0.out.below hb1 (Nat.le_refl _)); have p1 := Go.Lib.hid (p0.out.below hb1 (Nat.le_refl _)); have x1 := Go.Lib.hid (hx0'.out.below hb1 hx0'.out.lt); have z1 := Go.Lib.hid (hz0'.out.below hb1 hz0'.out.lt); have B1 := Go.Lib.hid (hbE'.out.trans (hb1.mono hbE'.out.size)); clear hb1)
  clear hx0' hz0' hbE' r0 p0 ck
  go_upto_region 7 with (go_at_call 25; with_reducible refine (of.out _ p1.out).mono ?_; rintro e w2 ⟨pa, pc, rfl, hp, hb⟩; have r2 := Go.Lib.hid (r1.out.below hb (Nat.le_refl _)); have p2 := Go.Lib.hid hp; have x2 := Go.Lib.hid (x1.out.below hb x1.out.lt); have z2 := Go.Lib.hid (z1.out.below hb z1.out.lt); have B2 := Go.Lib.hid (B1.out.trans (hb.mono B1.out.size)); clear hb hp)
  clear r1 p1 x1 z1 B1 of
  obtain ⟨c2, hc2⟩ : ∃ w, w = w2.alloc (.cells #[.slice pa nb pc, .int .i64 N1] 27) := ⟨_, rfl⟩
  obtain ⟨x8, hx8⟩ : ∃ x, x = w2.heap.size := ⟨_, rfl⟩
  have r3 := Go.Lib.hid (show Row .u8 c2 aa len cap (pack R) by rw [hc2]; exact r2.out.below (below1 w2 _) (Nat.le_refl _))
  have p3 := Go.Lib.hid (show Row .u8 c2 pa nb pc (pack (bytesB bl)) by rw [hc2]; exact p2.out.below (below1 w2 _) (Nat.le_refl _))
  have x3 := Go.Lib.hid (show ResAt c2 W.heap.size n D.k0 D.k1 D.s0 D.s1 (.slice aa len cap) N by rw [hc2]; exact x2.out.alloc _)
  have z3 := Go.Lib.hid (show ResAt c2 (W.heap.size + 1) 0 0 0 0 0 (.slice none 0 0) 0 by rw [hc2]; exact z2.out.alloc _)
  have B3 := Go.Lib.hid (show Below W.heap.size W c2 by rw [hc2]; exact B2.out.alloc B2.out.size _)
  have y3 := Go.Lib.hid (show BoxAt c2 x8 (.slice pa nb pc) N1 by rw [hc2, hx8]; exact box1 w2 _ _)
  rw [← hc2]
  try rw [← hx8]
  clear hc2 hx8 r2 p2 x2 z2 B2
  obtain ⟨f0, f1, f2, f3⟩ := y3.out.cells
  obtain ⟨s0, s1, s2, s3, s4, s5, s6, s7, s8, s9, s10, s11, s12, s13⟩ := x3.out.cells
  go_upto_region 10 with (go_at_call 24; with_reducible refine (jn.out _ _ _ r3.out p3.out).mono ?_; rintro e w4 ⟨qa, qc, rfl, hq, hb⟩; have q4 := Go.Lib.hid hq; have x4 := Go.Lib.hid (x3.out.below hb x3.out.lt); have z4 := Go.Lib.hid (z3.out.below hb z3.out.lt); have B4 := Go.Lib.hid (B3.out.trans (hb.mono B3.out.size)); clear hb hq)
  clear r3 p3 x3 z3 B3 y3 jn f0 f1 f2 f3 s0 s1 s2 s3 s4 s5 s6 s7 s8 s9 s10 s11 s12 s13
  obtain ⟨c4, hc4⟩ : ∃ w, w = w4.alloc (.cells #[.slice qa L2 qc, .int .i64 N2] 27) := ⟨_, rfl⟩
  obtain ⟨x10, hx10⟩ : ∃ x, x = w4.heap.size := ⟨_, rfl⟩
  have q5 := Go.Lib.hid (show Row .u8 c4 qa L2 qc (pack (R ++ bytesB bl)) by rw [hc4]; exact q4.out.below (below1 w4 _) (Nat.le_refl _))
  have x5 := Go.Lib.hid (show ResAt c4 W.heap.size n D.k0 D.k1 D.s0 D.s1 (.slice aa len cap) N by rw [hc4]; exact x4.out.alloc _)
  have z5 := Go.Lib.hid (show ResAt c4 (W.heap.size + 1) 0 0 0 0 0 (.slice none 0 0) 0 by rw [hc4]; exact z4.out.alloc _)
  have B5 := Go.Lib.hid (show Below W.heap.size W c4 by rw [hc4]; exact B4.out.alloc B4.out.size _)
  have y5 := Go.Lib.hid (show BoxAt c4 x10 (.slice qa L2 qc) N2 by rw [hc4, hx10]; exact box1 w4 _ _)
  rw [← hc4]
  try rw [← hx10]
  clear hc4 hx10 q4 x4 z4 B4
  obtain ⟨f0, f1, f2, f3⟩ := y5.out.cells
  obtain ⟨s0, s1, s2, s3, s4, s5, s6, s7, s8, s9, s10, s11, s12, s13⟩ := x5.out.cells
  go_upto_region 13 with (go_at_call 28; with_reducible refine (ra.out _ _ _ q5.out).mono ?_; rintro e w6 ⟨ba, bc, na, nm, nc, rfl, h1, h2, hb, h3⟩; have t6 := Go.Lib.hid h1; have m6 := Go.Lib.hid h2; have g6 : Hid (RL = 0 ∨ ∃ g o, ba = some ⟨g, o, none⟩ ∧ W.heap.size ≤ g) := Go.Lib.hid (h3.imp id fun ⟨g, o, e1, e2⟩ => ⟨g, o, e1, Nat.le_trans B5.out.size e2⟩); have z6 := Go.Lib.hid (z5.out.below hb z5.out.lt); have B6 := Go.Lib.hid (B5.out.trans (hb.mono B5.out.size)); clear hb h1 h2 h3)
  clear q5 x5 z5 B5 y5 ra f0 f1 f2 f3 s0 s1 s2 s3 s4 s5 s6 s7 s8 s9 s10 s11 s12 s13
  obtain ⟨c6, hc6⟩ : ∃ w, w = w6.alloc (.cells #[.int .i64 G.n, .int .i64 G.d.k0, .int .i64 G.d.k1, .int .u64 G.d.s0, .int .u64 G.d.s1, .slice ba RL bc, .int .i64 RN] 29) := ⟨_, rfl⟩
  obtain ⟨x11, hx11⟩ : ∃ x, x = w6.heap.size := ⟨_, rfl⟩
  have t7 := Go.Lib.hid (show Row .u8 c6 ba RL bc (pack G.r) by rw [hc6]; exact t6.out.below (below1 w6 _) (Nat.le_refl _))
  have m7 := Go.Lib.hid (show Row .u32 c6 na nm nc (G.l.map Int.ofNat) by rw [hc6]; exact m6.out.below (below1 w6 _) (Nat.le_refl _))
  have z7 := Go.Lib.hid (show ResAt c6 (W.heap.size + 1) 0 0 0 0 0 (.slice none 0 0) 0 by rw [hc6]; exact z6.out.alloc _)
  have B7 := Go.Lib.hid (show Below W.heap.size W c6 by rw [hc6]; exact B6.out.alloc B6.out.size _)
  have y7 := Go.Lib.hid (show ResAt c6 x11 G.n G.d.k0 G.d.k1 G.d.s0 G.d.s1 (.slice ba RL bc) RN by rw [hc6, hx11]; exact resat1 w6 _ _ _ _ _ _ _)
  rw [← hc6]
  try rw [← hx11]
  clear hc6 hx11 t6 m6 z6 B6
  obtain ⟨s0, s1, s2, s3, s4, s5, s6, s7, s8, s9, s10, s11, s12, s13⟩ := y7.out.cells
  obtain ⟨u0, u1, u2, u3, u4, u5, u6, u7, u8, u9, u10, u11, u12, u13⟩ := z7.out.cells
  by_cases he : G.e = 0
  · have he' : ((G.e : Int) != 0) = false := by rw [he]; rfl
    rcases hfed.out with ⟨ho, hFe⟩ | ⟨ho, hFe⟩
    · have d1 : ((G.n : Int) == 0) = true := by rw [ho.2.1]; rfl
      have d2 : decide ((8 : Int) ≤ RN) = true := by have := ho.2.2; have := hRN'.out; exact decide_eq_true (by omega)
      have hF8 := Go.Lib.hid hFe
      clear hFe ho he
      go_wp2
      (try simp only [Exit.inBlock, Exit.then])
      refine bodyPost_ret (results_res_two (by rfl) _ _ (W.heap.size + 1) _ _ _ _ _ _ _ rfl (z7.out.set 0 0 0 0 0 (.slice none 0 0) 0)) rfl ?_
      rw [hF8.out]
      exact ⟨none, 0, none, 0, 0, by simp [fedE], row_fedE _ _, Row.nil_row _ _, below7 B7.out (by omega), .inl (by rw [show (fedE 38).r = [] from rfl]; rfl)⟩
    · have hF8 := Go.Lib.hid hFe
      have key : (((G.n : Int) == 0) = true ∧ decide ((8 : Int) ≤ RN) = false) ∨ ((G.n : Int) == 0) = false := by
        by_cases h : G.n = 0
        · left
          have h8 : ¬ 8 ≤ G.r.length := fun h8 => ho ⟨he, h, h8⟩
          have := hRN'.out
          exact ⟨by rw [h]; rfl, decide_eq_false (by omega)⟩
        · right; rw [beq_eq_false_iff_ne]; omega
      have heE := Go.Lib.hid he
      clear hFe ho he
      rcases key with ⟨d1, d2⟩ | d1
      all_goals
        go_wp2
        (try simp only [Exit.inBlock, Exit.then])
        refine bodyPost_ret (results_res_two (by rfl) _ _ (W.heap.size + 1) _ _ _ _ _ _ _ rfl (z7.out.set G.n G.d.k0 G.d.k1 G.d.s0 G.d.s1 (.slice ba RL bc) RN)) rfl ?_
        rw [hF8.out]
        have e1 := hRL'.out
        have e2 := hRN'.out
        subst e1 e2
        exact ⟨ba, bc, na, nm, nc, by simp [heE.out], rows7 (.inl rfl) t7.out z7.out, rows7 (.inr rfl) m7.out z7.out, below7 B7.out (by omega), g6.out⟩
  · have he' : ((G.e : Int) != 0) = true := by rw [bne_iff_ne]; omega
    have hF8 : Hid (F = fedE G.e) := Go.Lib.hid (by
      rcases hfed.out with ⟨ho, -⟩ | ⟨-, h⟩
      · exact absurd ho.1 he
      · rw [h]; exact hno.out he)
    clear he
    go_wp2
    (try simp only [Exit.inBlock, Exit.then])
    refine bodyPost_ret (results_res_two (by rfl) _ _ (W.heap.size + 1) _ _ _ _ _ _ _ rfl (z7.out.set 0 0 0 0 0 (.slice none 0 0) 0)) rfl ?_
    rw [hF8.out]
    exact ⟨none, 0, none, 0, 0, by simp [fedE], row_fedE _ _, Row.nil_row _ _, below7 B7.out (by omega), .inl (by rw [show (fedE G.e).r = [] from rfl]; rfl)⟩
theorem PsFeed_ok (W : World) (aa : Option Addr) (len cap : Nat) (n : Nat) (D : Du) (R : List Bool) (ab : Option Addr) (nb cb : Nat) (bl : List Nat) (hr : Row .u8 W aa len cap (pack R)) (hok : ResOkN n D R) (hbr : Row .u8 W ab nb cb (bl.map Int.ofNat)) (hbl : bl.length = nb) (h256 : ∀ x ∈ bl, x < 256) (hnb : nb ≤ 41000) :
    ResF 10 #[.agg #[.int .i64 n, .int .i64 D.k0, .int .i64 D.k1, .int .u64 D.s0, .int .u64 D.s1, .slice aa len cap, .int .i64 R.length], .slice ab nb cb] W (fed n (R ++ bytesB bl) D) :=
  (PsFeed_new W aa len cap n D R ab nb cb bl hr hok hbr hbl h256 hnb).resF
end Go.Proofs.Ytcodofmghbgoeaa

/- What the statements of resume share: the chapter's examples; package and reference say the same. -/
namespace Go.Proofs.Ytcodofmghbgoeaa
open Go.RowKit Cad

def rx8 : List Bool := numB 10 8
theorem rx8_len : rx8.length = 8 := by decide +kernel
theorem fed_a : fed 1 ([] ++ bytesB [10]) dStart = ⟨[], rx8, 1, dStart, 0⟩ := by
  have h : readD ([] ++ bytesB [10]) 0 dStart = (0, 0, 24) := by decide +kernel
  have e : ([] ++ bytesB [10] : List Bool) = rx8 := by decide +kernel
  rw [fed_wait h, e]
def rx5 : List Bool := (rx8 ++ bytesB [0]).drop 11
theorem rx5_len : rx5.length = 5 := by decide +kernel
theorem fed_b : fed 1 (rx8 ++ bytesB [0]) dStart = ⟨[5], rx5, 0, ⟨9, 10, 15365, 16384⟩, 0⟩ := by
  have h : readD (rx8 ++ bytesB [0]) 0 dStart = (5, 11, 0) := by decide +kernel
  have e : learnD dStart 5 = ⟨9, 10, 15365, 16384⟩ := by rfl
  have e5 : (rx8 ++ bytesB [0]).drop 11 = rx5 := rfl
  rw [fed_next h, e, e5, fed_none _ (by rw [rx5_len]; decide), glueF_ok]
  rfl
theorem ok_a : ResOkN 1 dStart [] := ⟨by decide, dStart_ok, by decide, fun h => (by cases h), fun _ => (by decide +kernel)⟩
theorem ok_b : ResOkN 1 dStart rx8 := ⟨by decide, dStart_ok, by rw [rx8_len]; decide, fun h => (by cases h), fun _ => (by decide +kernel)⟩

set_option maxRecDepth 100000 in
set_option maxHeartbeats 1000000 in
theorem alive10_ok (W : World) : Calls Try.prog 14 #[] W fun e W' => e = .returned (.bool true) ∧ Below W.heap.size W W' := by
  have hnil : pack [] = [] := by rfl
  have st : Hid (∀ w, Calls Try.prog 9 #[.int .i64 1] w fun e W' => e = .returned (.tuple #[.agg #[.int .i64 1, .int .i64 10, .int .i64 10, .int .u64 16384, .int .u64 16384, .slice none 0 0, .int .i64 0], .int .i64 0]) ∧ Below w.heap.size w W') := Go.Lib.hid fun w => PsStart_ok w 1 (by decide)
  have s1 : Hid (∀ (w : World) (x : Nat), x = w.heap.size → Calls Try.prog 10 #[.agg #[.int .i64 1, .int .i64 10, .int .i64 10, .int .u64 16384, .int .u64 16384, .slice none 0 0, .int .i64 0], .slice (some ⟨x, 0, none⟩) 1 1] (w.alloc (.cells #[.int .u8 10] 5)) fun e W' => ∃ bb cc a c, e = .returned (.tuple #[.agg #[.int .i64 1, .int .i64 10, .int .i64 10, .int .u64 16384, .int .u64 16384, .slice bb 1 cc, .int .i64 8], .slice a 0 c, .int .i64 0]) ∧ Row .u8 W' bb 1 cc (pack rx8) ∧ Below w.heap.size w W') := Go.Lib.hid fun w x hx => by
    subst hx
    have := PsFeed_ok (w.alloc (.cells #[.int .u8 10] 5)) none 0 0 1 dStart [] (some ⟨w.heap.size, 0, none⟩) 1 1 [10] (by rw [hnil]; exact Row.nil_row _ _) ok_a (lit_row w [10] 1 (0, 0) rfl (by decide) (by decide)) rfl (by decide) (by decide)
    unfold ResF at this
    rw [fed_a] at this
    refine this.mono ?_
    rintro e w' ⟨bb, cc, a, m, c, rfl, h1, h2, h3⟩
    obtain rfl : m = 0 := h2.hlen.symm
    simp only [rx8_len] at h1 ⊢
    exact ⟨bb, cc, a, c, rfl, h1, (below1 w _).trans (h3.mono (by simp))⟩
  have s2 : Hid (∀ (w : World) (x : Nat) bb cc, x = w.heap.size → Row .u8 w bb 1 cc (pack rx8) → Calls Try.prog 10 #[.agg #[.int .i64 1, .int .i64 10, .int .i64 10, .int .u64 16384, .int .u64 16384, .slice bb 1 cc, .int .i64 8], .slice (some ⟨x, 0, none⟩) 1 1] (w.alloc (.cells #[.int .u8 0] 5)) fun e W' => ∃ b' c' a m c, e = .returned (.tuple #[.agg #[.int .i64 0, .int .i64 9, .int .i64 10, .int .u64 15365, .int .u64 16384, .slice b' 1 c', .int .i64 5], .slice a m c, .int .i64 0]) ∧ Row .u32 W' a m c [5] ∧ Below w.heap.size w W') := Go.Lib.hid fun w x bb cc hx hr => by
    subst hx
    have := PsFeed_ok (w.alloc (.cells #[.int .u8 0] 5)) bb 1 cc 1 dStart rx8 (some ⟨w.heap.size, 0, none⟩) 1 1 [0] (hr.below (below1 w _) (Nat.le_refl _)) ok_b (lit_row w [0] 1 (0, 0) rfl (by decide) (by decide)) rfl (by decide) (by decide)
    unfold ResF at this
    rw [fed_b, rx8_len] at this
    refine this.mono ?_
    rintro e w' ⟨b', c', a, m, c, rfl, h1, h2, h3⟩
    simp only [rx5_len] at h1 ⊢
    exact ⟨b', c', a, m, c, rfl, h2, (below1 w _).trans (h3.mono (by simp))⟩
  have s3 : Hid (∀ (w : World) (x : Nat) a n c, x = w.heap.size → Row .u32 w a n c [5] → Calls Try.prog 13 #[.slice a n c, .slice (some ⟨x, 0, none⟩) 1 1] (w.alloc (.cells #[.int .u32 5] 40)) fun e W' => e = .returned (.bool true) ∧ Below w.heap.size w W') := Go.Lib.hid fun w x a n c hx hr => by
    subst hx
    have := CSame_ok _ a n c [5] (hr.below (below1 w _) (Nat.le_refl _)) _ 1 1 [5] (lit_rowK .u32 40 w [5] 1 (0, 0) rfl (by decide) (by decide))
    refine this.mono ?_
    rintro e w' ⟨h1, h2⟩
    exact ⟨by rw [h1]; rfl, (below1 w _).trans (h2.mono (by simp))⟩
  have hWE0 := Go.Lib.hid (Below.refl W.heap.size W)
  clear hnil
  go_enter Try.func14, Try.ntmps14
  go_wp2_with (first
    | (go_at_call 9; ((with_reducible refine (st.out _).mono ?_)); rintro e w1 ⟨rfl, hb1⟩; have hWE1 := Go.Lib.hid hWE0.out; have hW1 := Go.Lib.hid (hWE1.out.trans (hb1.mono hWE1.out.size)); clear hb1)
    | (go_at_call 10; ((with_reducible refine (s1.out _ _ ?hx).mono ?_)); (case hx => simp); rintro e w2 ⟨b2, cp2, a2, ca2, rfl, hr2, hb2⟩; have hWE2 := Go.Lib.hid (hW1.out.alloc hW1.out.size (.cells #[.int .i64 1, .int .i64 10, .int .i64 10, .int .u64 16384, .int .u64 16384, (.slice none 0 0), .int .i64 0] 29)); have hW2 := Go.Lib.hid (hWE2.out.trans (hb2.mono hWE2.out.size)); have R2_a := Go.Lib.hid hr2; clear hr2; have BE2_s := Go.Lib.hid (resat1 w1 1 10 10 16384 16384 (.slice none 0 0) 0); have B2_s := Go.Lib.hid (BE2_s.out.below hb2 BE2_s.out.lt); obtain ⟨k2s0, k2s1, k2s2, k2s3, k2s4, k2s5, k2s6, k2s7, k2s8, k2s9, k2s10, k2s11, k2s12, k2s13⟩ := B2_s.out.cells; have l2s := B2_s.out.lt; have n2s : w1.heap.size ≠ w2.heap.size := (by omega); clear hb2)
    | (go_at_call 10; ((with_reducible refine (s2.out _ _ _ _ ?hx ?h1).mono ?_)); (case hx => simp); (case h1 => exact (R2_a.out.below (below1 w2 (.cells #[.int .i64 1, .int .i64 10, .int .i64 10, .int .u64 16384, .int .u64 16384, (.slice b2 1 cp2), .int .i64 8] 29)) (Nat.le_refl _))); rintro e w3 ⟨b3, cp3, a3, n3, ca3, rfl, hr3, hb3⟩; have hWE3 := Go.Lib.hid (hW2.out.alloc hW2.out.size (.cells #[.int .i64 1, .int .i64 10, .int .i64 10, .int .u64 16384, .int .u64 16384, (.slice b2 1 cp2), .int .i64 8] 29)); have hW3 := Go.Lib.hid (hWE3.out.trans (hb3.mono hWE3.out.size)); have R3_a := Go.Lib.hid ((R2_a.out.below (below1 w2 (.cells #[.int .i64 1, .int .i64 10, .int .i64 10, .int .u64 16384, .int .u64 16384, (.slice b2 1 cp2), .int .i64 8] 29)) (Nat.le_refl _)).below hb3 (Nat.le_refl _)); have R3_m := Go.Lib.hid hr3; clear hr3; have BE3_s := Go.Lib.hid (B2_s.out.alloc (.cells #[.int .i64 1, .int .i64 10, .int .i64 10, .int .u64 16384, .int .u64 16384, (.slice b2 1 cp2), .int .i64 8] 29)); have B3_s := Go.Lib.hid (BE3_s.out.below hb3 BE3_s.out.lt); obtain ⟨k3s0, k3s1, k3s2, k3s3, k3s4, k3s5, k3s6, k3s7, k3s8, k3s9, k3s10, k3s11, k3s12, k3s13⟩ := B3_s.out.cells; have BE3_a := Go.Lib.hid (resat1 w2 1 10 10 16384 16384 (.slice b2 1 cp2) 8); have B3_a := Go.Lib.hid (BE3_a.out.below hb3 BE3_a.out.lt); obtain ⟨k3a0, k3a1, k3a2, k3a3, k3a4, k3a5, k3a6, k3a7, k3a8, k3a9, k3a10, k3a11, k3a12, k3a13⟩ := B3_a.out.cells; have l3s := B3_s.out.lt; have n3s : w1.heap.size ≠ w3.heap.size := (by omega); have l3a := B3_a.out.lt; have n3a : w2.heap.size ≠ w3.heap.size := (by omega); clear hb3)
    | (go_at_call 13; ((with_reducible refine (s3.out _ _ _ _ _ ?hx ?h1).mono ?_)); (case hx => simp); (case h1 => exact (R3_m.out.below (below1 w3 (.cells #[.int .i64 0, .int .i64 9, .int .i64 10, .int .u64 15365, .int .u64 16384, (.slice b3 1 cp3), .int .i64 5] 29)) (Nat.le_refl _))); rintro e w4 ⟨rfl, hb4⟩; have hWE4 := Go.Lib.hid (hW3.out.alloc hW3.out.size (.cells #[.int .i64 0, .int .i64 9, .int .i64 10, .int .u64 15365, .int .u64 16384, (.slice b3 1 cp3), .int .i64 5] 29)); have hW4 := Go.Lib.hid (hWE4.out.trans (hb4.mono hWE4.out.size)); have R4_a := Go.Lib.hid ((R3_a.out.below (below1 w3 (.cells #[.int .i64 0, .int .i64 9, .int .i64 10, .int .u64 15365, .int .u64 16384, (.slice b3 1 cp3), .int .i64 5] 29)) (Nat.le_refl _)).below hb4 (Nat.le_refl _)); have R4_m := Go.Lib.hid ((R3_m.out.below (below1 w3 (.cells #[.int .i64 0, .int .i64 9, .int .i64 10, .int .u64 15365, .int .u64 16384, (.slice b3 1 cp3), .int .i64 5] 29)) (Nat.le_refl _)).below hb4 (Nat.le_refl _)); have BE4_s := Go.Lib.hid (B3_s.out.alloc (.cells #[.int .i64 0, .int .i64 9, .int .i64 10, .int .u64 15365, .int .u64 16384, (.slice b3 1 cp3), .int .i64 5] 29)); have B4_s := Go.Lib.hid (BE4_s.out.below hb4 BE4_s.out.lt); obtain ⟨k4s0, k4s1, k4s2, k4s3, k4s4, k4s5, k4s6, k4s7, k4s8, k4s9, k4s10, k4s11, k4s12, k4s13⟩ := B4_s.out.cells; have BE4_a := Go.Lib.hid (B3_a.out.alloc (.cells #[.int .i64 0, .int .i64 9, .int .i64 10, .int .u64 15365, .int .u64 16384, (.slice b3 1 cp3), .int .i64 5] 29)); have B4_a := Go.Lib.hid (BE4_a.out.below hb4 BE4_a.out.lt); obtain ⟨k4a0, k4a1, k4a2, k4a3, k4a4, k4a5, k4a6, k4a7, k4a8, k4a9, k4a10, k4a11, k4a12, k4a13⟩ := B4_a.out.cells; have BE4_b := Go.Lib.hid (resat1 w3 0 9 10 15365 16384 (.slice b3 1 cp3) 5); have B4_b := Go.Lib.hid (BE4_b.out.below hb4 BE4_b.out.lt); obtain ⟨k4b0, k4b1, k4b2, k4b3, k4b4, k4b5, k4b6, k4b7, k4b8, k4b9, k4b10, k4b11, k4b12, k4b13⟩ := B4_b.out.cells; clear hb4))
  go_ret
  exact ⟨rfl, hW4.out⟩
end Go.Proofs.Ytcodofmghbgoeaa

/- A region that draws its order: x ahead of y, and z that is not ordered with them: three orders. No Go function in sight. -/
namespace Go.Proofs.Ytcodofmghbgoeaa
open Go.RowKit

section
variable {P : Program} {ops : Array Oper} {C : World → Prop} {Q : Exit → Act → World → Prop}

/-- x ahead of y; z wherever: xyz, xzy, zxy -/
theorem wp_region_ord3 {id : Nat} {l : List Oper} {a : Act} {w : World} (C : World → Prop) (x y z : Nat) (R1 R2 R3 : List (Nat × Nat)) (hm : P.follows .mixedOrders = true) (hxy : y ≠ z ∧ x ≠ z ∧ x < l.length ∧ y < l.length ∧ z < l.length)
    (h1 : ordB l [(z, y)] R1 = true) (h2 : ordB l [(z, x), (y, z)] R2 = true) (h3 : ordB l [(x, z), (y, z)] R3 = true) (hC : C w.drew)
    (g1 : wpW P l.toArray C (NoPanic Q) (pick l R1) a w.drew) (g2 : wpW P l.toArray C (NoPanic Q) (pick l R2) a w.drew) (g3 : wpW P l.toArray C (NoPanic Q) (pick l R3) a w.drew) : (Code.region id l.toArray true).wp P Q a w := by
  refine wp_region_noPanic (wp_region_draw fun t => ?_)
  simp only [Region.schedule, hm, Bool.true_or, if_true]
  obtain ⟨n2, n3, l1, l2, l3⟩ := hxy
  have sz : (Array.replicate l.toArray.size false).size = l.toArray.size := by simp
  have b1 : x < l.toArray.size := by simpa using l1
  have b2 : y < l.toArray.size := by simpa using l2
  have b3 : z < l.toArray.size := by simpa using l3
  rcases lin_split (ops := l.toArray) n2 _ _ sz b2 b3 (lin_all t) with h | h
  · exact wpOps_of_ord R1 h1 hC _ h g1
  · rcases lin_split (ops := l.toArray) n3 _ _ sz b1 b3 h with h | h
    · exact wpOps_of_ord R2 h2 hC _ h g2
    · exact wpOps_of_ord R3 h3 hC _ h g3
end
end Go.Proofs.Ytcodofmghbgoeaa

/- What the statements of resume share: bytes as natural numbers; the first state. -/
namespace Go.Proofs.Ytcodofmghbgoeaa
open Go.RowKit Cad

theorem bytes_of {l : List Int} (h : ∀ x ∈ l, (Lit.int .u8 x).wf = true) : ∃ m : List Nat, l = m.map Int.ofNat ∧ ∀ x ∈ m, x < 256 := by
  refine ⟨l.map Int.toNat, ?_, fun x hx => ?_⟩
  · rw [List.map_map]
    symm
    calc l.map (Int.ofNat ∘ Int.toNat) = l.map id := List.map_congr_left fun x hx => by have := bounds_u8 (h x hx); simp; omega
      _ = l := List.map_id l
  · obtain ⟨y, hy, rfl⟩ := List.mem_map.1 hx
    have := bounds_u8 (h y hy)
    omega
theorem readD_nil (d : Du) : readD [] 0 d = (0, 0, 24) := readD_end d (Nat.le_refl _)
theorem ok_start (n : Nat) (hn : n ≤ 4000) : ResOkN n dStart [] := ⟨hn, dStart_ok, by simp, fun _ => by simp, fun _ => readD_nil _⟩
end Go.Proofs.Ytcodofmghbgoeaa

/- What the statements of coder share: the chapter's examples; package and reference say the same. -/
namespace Go.Proofs.Ytcodofmghbgoeaa
open Go.RowKit Cad

/-- numbers of 32 bits as natural numbers -/
theorem nats_of {l : List Int} (h : ∀ x ∈ l, (Lit.int .u32 x).wf = true) : ∃ m : List Nat, l = m.map Int.ofNat ∧ ∀ x ∈ m, x < 4294967296 := by
  refine ⟨l.map Int.toNat, ?_, fun x hx => ?_⟩
  · rw [List.map_map]
    symm
    calc l.map (Int.ofNat ∘ Int.toNat) = l.map id := List.map_congr_left fun x hx => by have := bounds_u32 (h x hx); simp; omega
      _ = l := List.map_id l
  · obtain ⟨y, hy, rfl⟩ := List.mem_map.1 hx
    have := bounds_u32 (h y hy)
    omega
theorem natsD (m : List Nat) {k : Nat} (hk : k < m.length) : (m.map Int.ofNat).getD k 0 = ((m.getD k 0 : Nat) : Int) := by
  simp [List.getD, hk]
theorem map_inj {l m : List Nat} : l.map Int.ofNat = m.map Int.ofNat ↔ l = m :=
  ⟨fun h => by
    have := congrArg (List.map Int.toNat) h
    simpa [List.map_map, Function.comp_def] using this, fun h => by rw [h]⟩

/-- a call that hands back a state and an error -/
def ResA (f : FuncId) (args : Array Value) (W : World) (a b c d e : Int) : Prop :=
  Calls Try.prog f args W fun r W' => r = .returned (.tuple #[.agg #[.int .i64 a, .int .i64 b, .int .u64 c, .int .u64 d], .int .i64 e]) ∧ Below W.heap.size W W'
/-- a call that hands back numbers, an index and an error -/
def ResL (f : FuncId) (args : Array Value) (W : World) (l : List Int) (p e : Int) : Prop :=
  Calls Try.prog f args W fun r W' => ∃ a m c, r = .returned (.tuple #[.slice a m c, .int .i64 p, .int .i64 e]) ∧ Row .u32 W' a m c l ∧ Below W.heap.size W W'
theorem ResL.none {f : FuncId} {args : Array Value} {W : World} {e : Int} (h : Calls Try.prog f args W fun r W' => r = .returned (.tuple #[.slice none 0 0, .int .i64 0, .int .i64 e]) ∧ Below W.heap.size W W') : ResL f args W [] 0 e :=
  h.mono fun _ _ ⟨h1, h2⟩ => ⟨Option.none, 0, 0, h1, Row.nil_row _ _, h2⟩

theorem PAfter_m (W : World) (al : Option Addr) (ll cl : Nat) (m : List Nat) (hl : Row .u32 W al ll cl (m.map Int.ofNat)) (h4 : ll ≤ 4000) (hm : m.length = ll) (hm32 : ∀ x ∈ m, x < 4294967296) :
    ResA 23 #[.slice al ll cl] W (after dStart m).k0 (after dStart m).k1 (after dStart m).s0 (after dStart m).s1 0 :=
  PAfter_ok W al ll cl _ m hl h4 hm (fun _ hk => natsD m (by omega)) hm32
/-- the code of 5 and 2000 -/
def exX : List Bool := codesD dStart [5, 2000]
theorem exX_len : exX.length = 24 := by decide +kernel
theorem exX_dec : decD exX 2 0 dStart = ([5, 2000], 24, 0) := by
  have := dec_codes [5, 2000] [] [] dStart (by decide)
  rw [List.nil_append, List.append_nil, List.length_nil, Nat.zero_add] at this
  rw [show (codesD dStart [5, 2000]).length = 24 from exX_len] at this
  exact this

end Go.Proofs.Ytcodofmghbgoeaa

/- Pieces fed one by one; rows of slices. -/
namespace Cad
open Go.Proofs.Ytcodofmghbgoeaa

/-- pieces fed one by one -/
def feedS : Nat → List Bool → Du → List (List Nat) → Fed
  | n, R, d, [] => ⟨[], R, n, d, 0⟩
  | n, R, d, p :: ps => if (fed n (R ++ bytesB p) d).e ≠ 0 then fed n (R ++ bytesB p) d else glueF (fed n (R ++ bytesB p) d).l (feedS (fed n (R ++ bytesB p) d).n (fed n (R ++ bytesB p) d).r (fed n (R ++ bytesB p) d).d ps)
theorem feedS_er {n : Nat} {R : List Bool} {d : Du} {p : List Nat} {ps : List (List Nat)} (h : (fed n (R ++ bytesB p) d).e ≠ 0) : feedS n R d (p :: ps) = fed n (R ++ bytesB p) d := if_pos h
theorem feedS_ok {n : Nat} {R : List Bool} {d : Du} {p : List Nat} {ps : List (List Nat)} {l : List Nat} {r : List Bool} {k : Nat} {d' : Du} (h : fed n (R ++ bytesB p) d = ⟨l, r, k, d', 0⟩) : feedS n R d (p :: ps) = glueF l (feedS k r d' ps) := by
  rw [feedS, h, if_neg (fun h => h rfl)]
/-- a valid state, fed with nothing -/
theorem fed_self {n : Nat} {R : List Bool} {d : Du} (h : ResOkN n d R) : fed n R d = ⟨[], R, n, d, 0⟩ := by
  by_cases h0 : n = 0
  · subst h0; exact fed_none d (h.zero rfl)
  · obtain ⟨m, rfl⟩ : ∃ m, n = m + 1 := ⟨n - 1, by omega⟩
    exact fed_wait (h.wait h0)
/-- the state behind feeding is valid -/
theorem fed_valid {n : Nat} {B : List Bool} {d : Du} (hd : d.ok) (hn : n ≤ 4000) {l : List Nat} {r : List Bool} {k : Nat} {d' : Du} (h : fed n B d = ⟨l, r, k, d', 0⟩) : ResOkN k d' r ∧ k + l.length = n ∧ (∀ x ∈ l, x < 4294967296) := by
  obtain ⟨l1, r1, k1, h1, h2, h3, h4, h5, h6⟩ := fed_is n B d hd (by rw [h])
  rw [h] at h1
  cases h1
  have hd' := after_ok l hd h3
  refine ⟨⟨by omega, hd', ?_, h5, h6⟩, h2, h3⟩
  by_cases h0 : k = 0
  · have := h5 h0; omega
  · have := short_le (h6 h0) hd'; omega
theorem feedS_fed : ∀ (ps : List (List Nat)) (n : Nat) (R : List Bool) (d : Du), ResOkN n d R → feedS n R d ps = fed n (R ++ bytesB ps.flatten) d
  | [], n, R, d, h => by
    show (⟨[], R, n, d, 0⟩ : Fed) = fed n (R ++ []) d
    rw [List.append_nil, fed_self h]
  | p :: ps, n, R, d, h => by
    rw [List.flatten_cons, bytesB_append, ← List.append_assoc, fed_pieces n (R ++ bytesB p) _ d h.d]
    by_cases he : (fed n (R ++ bytesB p) d).e = 0
    · obtain ⟨l, r, k, h1, -⟩ := fed_is n (R ++ bytesB p) d h.d he
      have hv := (fed_valid h.d h.n4 h1).1
      rw [feedS_ok h1, h1]
      simp only
      rw [if_neg (fun h => h rfl), feedS_fed ps k r _ hv]
    · rw [feedS_er he, if_pos he]
end Cad
namespace Go.Proofs.Ytcodofmghbgoeaa
open Go.RowKit Cad

/-- a row of slices, that is only read -/
structure SRow (w : World) (a : Option Addr) (len cap : Nat) (vs : List Value) : Prop where
  hlen : vs.length = len
  hmax : len ≤ 17592186044416
  cells : 0 < len → ∃ b off, a = some ⟨b, off, none⟩ ∧ b < w.heap.size ∧ ∀ i, i < len → w.cell? ⟨b, off + i, none⟩ = some (vs.getD i undef)
theorem SRow.below {w w' : World} {a : Option Addr} {len cap : Nat} {vs : List Value} {B : Nat} (h : SRow w a len cap vs) (hb : Below B w w') (hB : w.heap.size ≤ B) : SRow w' a len cap vs :=
  ⟨h.hlen, h.hmax, fun hp => by
    obtain ⟨b, off, rfl, hlt, hc⟩ := h.cells hp
    exact ⟨b, off, rfl, Nat.lt_of_lt_of_le hlt hb.size, fun i hi => (Below.cell hb (p := ⟨b, off + i, none⟩) (Nat.lt_of_lt_of_le hlt hB)).trans (hc i hi)⟩⟩
theorem SRow.of_own {w : World} {base : Nat} {E : TypeId} {a : Option Addr} {n c : Nat} {vs : List Value} (h : w.ownsRow base E 1 (.slice a n c) n vs) (hn : n ≤ 17592186044416) : SRow w a n c vs := by
  have hl : vs.length = n := by have := h.1; omega
  refine ⟨hl, hn, fun hp => ?_⟩
  rcases h.2 with ⟨he, h0⟩ | ⟨g, cap, cur, he, hg, hh, hc1, hc2, hc3, ht⟩
  · omega
  · cases he
    have hlt : g < w.heap.size := by
      apply Classical.byContradiction; intro hx; rw [Array.getElem?_eq_none (by omega)] at hh; cases hh
    refine ⟨g, 0, rfl, hlt, fun i hi => ?_⟩
    have hx := congrArg (fun l => l[i]?) ht
    simp only [List.getElem?_take] at hx
    rw [if_pos (by omega)] at hx
    unfold World.cell?
    rw [hh]
    simp only [Nat.zero_add]
    have : cur[i]? = vs[i]? := by simpa using hx
    rw [this]
    simp [List.getD, show i < vs.length by omega]
/-- slices that read as pieces -/
structure Pieces (w : World) (vs : List Value) (ps : List (List Nat)) : Prop where
  len : vs.length = ps.length
  at_ : ∀ i, i < ps.length → ∃ a c, vs.getD i undef = .slice a (ps.getD i []).length c ∧ Row .u8 w a (ps.getD i []).length c ((ps.getD i []).map Int.ofNat) ∧ ∀ x ∈ ps.getD i [], x < 256
theorem Pieces.below {w w' : World} {vs : List Value} {ps : List (List Nat)} {B : Nat} (h : Pieces w vs ps) (hb : Below B w w') (hB : w.heap.size ≤ B) : Pieces w' vs ps :=
  ⟨h.len, fun i hi => by
    obtain ⟨a, c, h1, h2, h3⟩ := h.at_ i hi
    exact ⟨a, c, h1, h2.below hb hB, h3⟩⟩
/-- a row stays where another block is written -/
theorem Row.grown {k : IntKind} {w w' : World} {aa : Option Addr} {len cap : Nat} {l : List Int} {row : Option Nat} (h : Row k w aa len cap l) (hg : w.grownBy w' row) (hn : len = 0 ∨ ∃ g o, aa = some ⟨g, o, none⟩ ∧ some g ≠ row) : Row k w' aa len cap l := by
  refine ⟨h.hlen, h.hcap, h.hmax, h.wf, fun hp => ?_, h.nil⟩
  obtain ⟨b, off, e, hlt, hc⟩ := h.cells hp
  rcases hn with hn | ⟨g, o, e2, hne⟩
  · omega
  rw [e] at e2
  cases e2
  refine ⟨b, off, e, Nat.lt_of_lt_of_le hlt hg.size, fun i hi => ?_⟩
  rw [← hc i hi]
  unfold World.cell?
  rw [hg.block b hlt hne]
theorem ResAt.grown {w w' : World} {x : Nat} {n a b c d N : Int} {v : Value} {row : Option Nat} (h : ResAt w x n a b c d v N) (hg : w.grownBy w' row) (hn : some x ≠ row) : ResAt w' x n a b c d v N := by
  have hl := h.lt
  unfold ResAt at h ⊢
  rw [hg.block x hl hn, h]
end Go.Proofs.Ytcodofmghbgoeaa
