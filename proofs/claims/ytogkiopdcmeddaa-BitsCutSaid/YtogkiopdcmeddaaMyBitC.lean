/- Contracts of the package bits: copies, bits of bytes, aligned bits. -/
import Derived.Test.YtogkiopdcmeddaaMyBitB
import Derived.Laws.CopyOwn
namespace Go.Proofs.Ytogkiopdcmeddaa
open Go.RowKit Cad

section
variable {P : Program} {T E : TypeId} {k : IntKind} (he : Elem P T E k) (w : World) {ops : Array Oper} {rest : List Oper} {o : Oper} {a : Act} {Q : Exit → Act → World → Prop} (hg : o.guard = none)
include he hg
/-- copy(d, s): d is the call's own row, s is whatever reads as numbers -/
theorem law_copyRow (d s : Operand) (sT : TypeId) (hop : o.op = Op.call { callee := Callee.builtin Builtin.copy, args := #[d, s], argTypes := #[T, sT] }) (base g n c : Nat) (old : List Int) (hd : a.eval d = .slice (some ⟨g, 0, none⟩) n c)
    (hown : w.ownsRow base E 1 (.slice (some ⟨g, 0, none⟩) n c) n (nums k old)) (ax : Option Addr) (m cx : Nat) (news : List Int) (hx : a.eval s = .slice ax m cx) (hr : Row k w ax m cx news) (hm : m ≤ n)
    (hK : ∀ w', w'.ownsRow base E 1 (.slice (some ⟨g, 0, none⟩) n c) n (nums k (news ++ old.drop m)) → Below g w w' → wpList P ops Q rest (a.put o.dst (goInt m)) w') :
    wpList P ops Q (o :: rest) a w := by
  obtain ⟨b, hb, hi⟩ := he.info
  have hsz : (P.info? E).map (·.size) = some 1 := by
    obtain ⟨i0, hi, _, hz1, _⟩ := info_parts hi
    rw [hi]; simp [hz1]
  obtain ⟨hl, h2⟩ := hown
  rcases h2 with ⟨h0, _⟩ | ⟨g', cap, cur, e, hbg, hh, hn, hmx, hs, ht⟩
  · cases h0
  simp only [Value.slice.injEq, Option.some.injEq, Addr.mk.injEq] at e
  obtain ⟨⟨rfl, _, _⟩, _, rfl⟩ := e
  have hlen := hr.hlen
  refine wpList_copy_splice hg d s T sT hop E he.sl hsz (some ⟨g, 0, none⟩) ax n c m cx hd hx g 0 cur.toList E (by simpa using hh) (nums k news) (by show _ = min m n; rw [Nat.min_eq_left hm]; simp [nums, hlen]) ?_ (by simp [nums]; omega) (ints_oneCell k news) g w (Below.refl _ _) (Nat.le_refl _) ?_
  · intro hp
    obtain ⟨b', off, rfl, hlt, hc⟩ := hr.cells (by simpa [nums, hlen] using hp)
    refine ⟨rfl, _, rfl, fun j v hj => ?_⟩
    simp only [nums, List.getElem?_map, Option.map_eq_some_iff] at hj
    obtain ⟨z, hz, rfl⟩ := hj
    have hlt' : j < news.length := by
      apply Classical.byContradiction; intro h; rw [List.getElem?_eq_none (by omega)] at hz; simp at hz
    rw [show (⟨b', off, none⟩ : Addr).add j = ⟨b', off + j, none⟩ by unfold Addr.add; split <;> simp_all, hc j (by omega)]
    simp [List.getD, hz]
  · intro w' h1 h2
    have h1 : w'.heap[g]? = some (.cells (splice cur.toList 0 (nums k news)).toArray E (0, 0)) := h1
    have hcur : cur.toList.length = c := by simpa using hs
    have hnl : (nums k news).length = m := by simp [nums, hlen]
    have hfin : (nums k (news ++ old.drop m)).length = n := by
      have : old.length = n := by simpa [nums] using hl
      simp [nums, hlen, this]; omega
    have e := hK w' ⟨by simpa using hfin, .inr ⟨g, c, _, rfl, hbg, h1, hn, hmx, ?_, ?_⟩⟩ h2
    · rw [show (goInt m) = goInt (nums k news).length by rw [hnl]] at e; exact e
    · simp [splice, hcur, hnl]; omega
    · simp only [splice, List.take_zero, List.nil_append, Nat.zero_add, hnl, Nat.mul_one]
      rw [List.take_append, hnl, List.take_of_length_le (by omega)]
      simp only [nums, List.map_append, List.map_drop]
      congr 1
      simp only [Nat.mul_one] at ht
      unfold nums at ht
      rw [← ht, List.drop_take]
end

theorem Bcopied_ok (W : World) (a : Option Addr) (len cap : Nat) (l : List Int) (hr : Row .u8 W a len cap l) (hlen : len ≤ 1000000000) :
    Calls Try.prog 30 #[.slice a len cap] W fun e W' => ∃ v', e = .returned v' ∧
      W'.ownsRow W.heap.size 5 1 v' len (nums .u8 l) ∧ Below W.heap.size W W' := by
  have hr' := Go.Lib.hid hr
  clear hr
  go_enter Try.func30, Try.ntmps30
  go_wp2_with (first
    | (refine law_make elU8 _ rfl _ _ rfl .i64 .i64 _ _ len rfl rfl (by omega) (by omega) (by omega) ?_; intro w1 hown1 hb1 hs1; have hr1 := (hr'.out.below hb1 (Nat.le_refl _)); have hown1' := Go.Lib.hid hown1; have hb1' := Go.Lib.hid hb1; clear hown1 hb1)
    | (with_reducible show wpList _ _ _ _ _ _; refine law_copyRow elU8 _ rfl _ _ _ rfl W.heap.size W.heap.size len len (List.replicate len 0) rfl hown1'.out a len cap l rfl hr1 (Nat.le_refl _) ?_; intro w2 hown2 hb2; have hown2' := Go.Lib.hid hown2; have hb2' := Go.Lib.hid hb2; clear hown2 hb2))
  go_ret
  refine ⟨_, rfl, by simpa using hown2'.out, hb1'.out.trans hb2'.out⟩

theorem BOf_many (W : World) (a : Option Addr) (len cap : Nat) (h : (41250 : Int) < len) (hl : len ≤ 9223372036854775807) :
    Calls Try.prog 13 #[.slice a len cap] W fun e W' => e = .returned (.tuple #[.agg #[.slice none 0 0, .int .i64 0], .int .i64 4]) ∧ Below W.heap.size W W' := by
  go_enter Try.func13, Try.ntmps13
  go_wp2
  go_returns
  exact ⟨rfl, (Below.refl _ _).alloc (Nat.le_refl _) _⟩

theorem BOf_ok (W : World) (a : Option Addr) (len cap : Nat) (l : List Int) (hr : Row .u8 W a len cap l) (h : (len : Int) ≤ 41250) :
    Calls Try.prog 13 #[.slice a len cap] W fun e W' => ∃ v', e = .returned (.tuple #[.agg #[v', .int .i64 (8 * (len : Int))], .int .i64 0]) ∧
      W'.ownsRow W.heap.size 5 1 v' len (nums .u8 l) ∧ Below W.heap.size W W' := by
  have hbE := ((Below.refl W.heap.size W).alloc (Nat.le_refl _) (.cells #[.slice none 0 0, .int .i64 0] 24))
  have hcp := Go.Lib.hid (Bcopied_ok _ a len cap l (hr.below hbE (Nat.le_refl _)) (by omega))
  have hy0 : BoxAt (W.alloc (.cells #[.slice none 0 0, .int .i64 0] 24)) W.heap.size (.slice none 0 0) 0 := by
    unfold BoxAt; rw [heap_alloc_new]
  have hbE' := Go.Lib.hid hbE
  have hy0' := Go.Lib.hid hy0
  clear hr hbE hy0
  go_enter Try.func13, Try.ntmps13
  go_wp2_with (go_at_call 30; refine hcp.out.mono ?_; rintro e w1 ⟨v1, rfl, hown1, hb1⟩; obtain ⟨a1, c1, rfl⟩ := own_form hown1; obtain ⟨d0, d1, g0, g1⟩ := (hy0'.out.below hb1 (by simp)).cells; have hb1' := Go.Lib.hid hb1; have ho1' := Go.Lib.hid hown1; clear hb1 hown1)
  (try simp only [Exit.inBlock, Exit.then])
  have hy1 := hy0'.out.below hb1'.out (by simp)
  have ap := hy1.apart ho1'.out
  refine bodyPost_ret (results_box_tmp (by rfl) _ _ W.heap.size _ _ rfl (hy1.set _ _)) rfl ?_
  refine ⟨.slice a1 len c1, by simp [Int.mul_comm], own_set (own_set (own_base ho1'.out (by simp)) ap _ _) ap _ _, ?_⟩
  exact ((hbE'.out.trans (hb1'.out.mono (by simp))).setCell (Nat.le_refl _) _).setCell (Nat.le_refl _) _

theorem BAlign_bad (W : World) (a : Option Addr) (len cap : Nat) (N : Int) (l : List Int) (hr : Row .u8 W a len cap l) (hN : (Lit.int .i64 N).wf = true) (hv : ¬ Valid l N) :
    Calls Try.prog 15 #[.agg #[.slice a len cap, .int .i64 N]] W fun e W' => e = .returned (.tuple #[.agg #[.slice none 0 0, .int .i64 0], .int .i64 8]) ∧ Below W.heap.size W W' := by
  have hbE := ((Below.refl W.heap.size W).alloc (Nat.le_refl _) (.cells #[.slice a len cap, .int .i64 N] 24)).alloc (by simp) (.cells #[.slice none 0 0, .int .i64 0] 24)
  have hrE := hr.below hbE (Nat.le_refl _)
  have hy0 : BoxAt ((W.alloc (.cells #[.slice a len cap, .int .i64 N] 24)).alloc (.cells #[.slice none 0 0, .int .i64 0] 24)) (W.heap.size + 1) (.slice none 0 0) 0 := by
    unfold BoxAt; rw [heap_alloc2_new]
  have hck := Go.Lib.hid (BCheck_any _ a len cap N l hrE hN 8 (.inr ⟨hv, rfl⟩))
  have hy0' := Go.Lib.hid hy0
  have hbE' := Go.Lib.hid hbE
  clear hr hrE hy0 hbE hN
  go_enter Try.func15, Try.ntmps15
  go_wp2_with (go_at_call 23; refine hck.out.mono ?_; rintro e w1 ⟨rfl, hb1⟩; simp only [World.size_alloc] at hb1; obtain ⟨e0, e1, f0, f1⟩ := (hy0'.out.below hb1 (by omega)).cells; have hb1' := Go.Lib.hid hb1; clear hb1)
  (try simp only [Exit.inBlock, Exit.then])
  refine bodyPost_ret (results_box_tmp (by rfl) _ _ (W.heap.size + 1) _ _ rfl ((hy0'.out.below hb1'.out (by omega)).set _ _)) rfl ?_
  exact ⟨rfl, ((hbE'.out.trans (hb1'.out.mono (by omega))).setCell (by simp) _).setCell (by simp) _⟩

theorem BAlign_ok (W : World) (a : Option Addr) (len cap : Nat) (N : Int) (l : List Int) (hr : Row .u8 W a len cap l) (hN : (Lit.int .i64 N).wf = true) (hv : Valid l N) :
    Calls Try.prog 15 #[.agg #[.slice a len cap, .int .i64 N]] W fun e W' => ∃ v', e = .returned (.tuple #[.agg #[v', .int .i64 (8 * (len : Int))], .int .i64 0]) ∧
      W'.ownsRow W.heap.size 5 1 v' len (nums .u8 l) ∧ Below W.heap.size W W' := by
  have hlen : len ≤ 1000000000 := by have := hv.n; have := hr.hlen; omega
  have hbE := ((Below.refl W.heap.size W).alloc (Nat.le_refl _) (.cells #[.slice a len cap, .int .i64 N] 24)).alloc (by simp) (.cells #[.slice none 0 0, .int .i64 0] 24)
  have hrE := hr.below hbE (Nat.le_refl _)
  have hx0 : BoxAt ((W.alloc (.cells #[.slice a len cap, .int .i64 N] 24)).alloc (.cells #[.slice none 0 0, .int .i64 0] 24)) W.heap.size (.slice a len cap) N := by
    unfold BoxAt; rw [Below.heap_alloc _ _ _ (by simp), heap_alloc_new]
  have hy0 : BoxAt ((W.alloc (.cells #[.slice a len cap, .int .i64 N] 24)).alloc (.cells #[.slice none 0 0, .int .i64 0] 24)) (W.heap.size + 1) (.slice none 0 0) 0 := by
    unfold BoxAt; rw [heap_alloc2_new]
  have hck := Go.Lib.hid (BCheck_any _ a len cap N l hrE hN 0 (.inl ⟨hv, rfl⟩))
  have hcp : Hid (∀ w, Below ((W.alloc (.cells #[.slice a len cap, .int .i64 N] 24)).alloc (.cells #[.slice none 0 0, .int .i64 0] 24)).heap.size ((W.alloc (.cells #[.slice a len cap, .int .i64 N] 24)).alloc (.cells #[.slice none 0 0, .int .i64 0] 24)) w → Calls Try.prog 30 #[.slice a len cap] w fun e W' => ∃ v', e = .returned v' ∧
      W'.ownsRow w.heap.size 5 1 v' len (nums .u8 l) ∧ Below w.heap.size w W') := Go.Lib.hid fun w hw => Bcopied_ok w a len cap l (hrE.below hw (Nat.le_refl _)) hlen
  have hx0' := Go.Lib.hid hx0
  have hy0' := Go.Lib.hid hy0
  have hbE' := Go.Lib.hid hbE
  clear hr hrE hy0 hbE hN hx0
  go_enter Try.func15, Try.ntmps15
  go_wp2_with (go_at_call 23; refine hck.out.mono ?_; rintro e w1 ⟨rfl, hb1⟩; obtain ⟨c0, c1, c2, c3⟩ := (hx0'.out.below hb1 (by simp; omega)).cells; have hb1' := Go.Lib.hid hb1; clear hb1)
  go_region_held3 (fun w' => w'.cell? ⟨W.heap.size, 0, none⟩ = some (.slice a len cap) ∧ w'.cell? ⟨W.heap.size, 1, none⟩ = some (.int .i64 N))
    (first
      | go_keep
      | (go_split_ands
         refine ⟨?_, ?_⟩
         · exact ((hx0'.out.below hb12 (by simp; omega)).cells).1
         · exact ((hx0'.out.below hb12 (by simp; omega)).cells).2.1))
    ((go_loud (go_at_call 30; refine (hcp.out _ hb1'.out.drew).mono ?_; rintro e w2 ⟨v2, rfl, hown2, hb2⟩; obtain ⟨a2, c2, rfl⟩ := own_form hown2; have hb12 := hb1'.out.drew.trans (hb2.mono hb1'.out.drew.size); obtain ⟨e0, e1, f0, f1⟩ := (hy0'.out.below hb12 (by simp)).cells)))
  all_goals go_wp2
  all_goals
    (try simp only [Exit.inBlock, Exit.then])
    have hy2 := hy0'.out.below hb12 (by simp)
    have ap := hy2.apart hown2
    have hs := hb1'.out.size
    simp only [World.size_alloc] at hs
    refine bodyPost_ret (results_box_tmp (by rfl) _ _ (W.heap.size + 1) _ _ rfl (hy2.set _ _)) rfl ?_
    have hwr : IntKind.i64.wrap ((len : Int) * 8) = 8 * (len : Int) := by rw [IntWalk.i64_in _ (by omega)]; omega
    refine ⟨.slice a2 len c2, by simp [hwr], own_set (own_set (own_base hown2 (by show W.heap.size ≤ w1.heap.size; omega)) ap _ _) ap _ _, ?_⟩
    exact ((hbE'.out.trans (hb12.mono (by simp only [World.size_alloc]; omega))).setCell (by simp) _).setCell (by simp) _
end Go.Proofs.Ytogkiopdcmeddaa
