/- Contracts of the reference's functions on bits: those that make bits. -/
import Derived.Test.YtahefkjgcdchlaaBitS
import Derived.Deep.AppendLies
import Derived.Laws.OwnMore
import Derived.OwnWalk
import Derived.Handy
namespace Go.Proofs.Ytahefkjgcdchlaa
open Go.RowKit Cad

/-- nothing below base is touched, and no block that isn't bytes -/
structure Kept (base : Nat) (W W' : World) : Prop where
  bel : Below base W W'
  oth : ∀ k, k < W.heap.size → (∀ cur fr, W.heap[k]? ≠ some (.cells cur 5 fr)) → W'.heap[k]? = W.heap[k]?
theorem Kept.refl (base : Nat) (W : World) : Kept base W W := ⟨Below.refl _ _, fun _ _ _ => rfl⟩
theorem Kept.trans {base : Nat} {a b c : World} (h : Kept base a b) (k : Kept base b c) : Kept base a c :=
  ⟨h.bel.trans k.bel, fun i hi hn => by
    have e := h.oth i hi hn
    rw [k.oth i (Nat.lt_of_lt_of_le hi h.bel.size) (fun cur fr => by rw [e]; exact hn cur fr), e]⟩

theorem RAdd_in (W : World) (base : Nat) (v : Value) (B : List Bool) (b : Bool) (hown : W.ownsRow base 5 1 v ((B.length + 7) / 8) (nums .u8 (pack B))) (hbase : base ≤ W.heap.size) (hB : B.length ≤ 1000000000) (h8 : B.length % 8 ≠ 0) :
    Calls Try.prog 54 #[.agg #[v, .int .i64 B.length], .int .i64 (bI b)] W fun e W' => ∃ v', e = .returned (.agg #[v', .int .i64 ((B.length + 1 : Nat) : Int)]) ∧
      W'.ownsRow base 5 1 v' (((B ++ [b]).length + 7) / 8) (nums .u8 (pack (B ++ [b]))) ∧ Kept base W W' := by
  have hlen : ((B ++ [b]).length + 7) / 8 = (B.length + 7) / 8 := by simp; omega
  rcases hown.2 with ⟨_, h0⟩ | ⟨g, cap, cur, rfl, hg, hh, hn, hm, hs, ht⟩
  · omega
  have hglt : g < W.heap.size := by
    apply Classical.byContradiction
    intro hx
    rw [Array.getElem?_eq_none (by omega)] at hh
    simp at hh
  have hc1 := hown.cellAt (B.length / 8) (by omega)
  have hf1 := hown.frozenAt (B.length / 8)
  have hpk := pack_getD B (B.length / 8) (by omega)
  have hb0 := byteN_lt B (B.length / 8)
  have hb1 := byteN_lt (B ++ [b]) (B.length / 8)
  rw [byteN_snoc, if_pos rfl] at hb1
  rw [show (nums .u8 (pack B))[B.length / 8]? = some (.int .u8 (byteN B (B.length / 8) : Nat)) by
    rw [← hpk]; simp [nums, List.getD, pack_len, show B.length / 8 < (B.length + 7) / 8 by omega]] at hc1
  have hst := Go.Lib.hid ((hown.stored (B.length / 8) (.int .u8 ((byteN B (B.length / 8) + b.toNat * 2 ^ (B.length % 8) : Nat) : Int))).1)
  have hps := Go.Lib.hid (pack_snoc B b h8)
  obtain ⟨c, hcc⟩ : ∃ c, c = byteN B (B.length / 8) := ⟨_, rfl⟩
  obtain ⟨p, hpp⟩ : ∃ p, p = 2 ^ (B.length % 8) := ⟨_, rfl⟩
  have hp8 : p ≤ 128 := by
    rw [hpp]; rcases lt8 (Nat.mod_lt B.length (show 0 < 8 by decide)) with h | h | h | h | h | h | h | h <;> rw [h] <;> decide
  rw [← hcc] at hc1 hb0 hb1 hst
  rw [← hpp] at hb1 hst
  obtain ⟨d, hd⟩ : ∃ d, d = b.toNat * p := ⟨_, rfl⟩
  have hmul : bI b * (p : Int) = (d : Int) := by rw [hd]; simp [bI]
  rw [← hd] at hb1 hst
  have hd8 : d ≤ 128 := by
    rw [hd]; have := Bool.toNat_le b
    calc b.toNat * p ≤ 1 * 128 := Nat.mul_le_mul this hp8
      _ = 128 := rfl
  have hh' := Go.Lib.hid hh
  have hmul' := Go.Lib.hid hmul
  have hpp' := Go.Lib.hid hpp
  have hpk' := Go.Lib.hid (hpk.trans (congrArg Nat.cast hcc.symm))
  have hd' := Go.Lib.hid hd
  clear hpk ht hh hs hcc hpp hd
  go_enter Try.func54, Try.ntmps54
  go_wp2
  go_loop [5, 6] (fun y i => ∃ k : Nat, k ≤ B.length % 8 ∧ i = .int .i64 k ∧ y = .int .i64 ((2 ^ k : Nat) : Int)) (fun _ i => B.length % 8 - (intOf i).toNat)
  case atStart => exact ⟨0, Nat.zero_le _, rfl, rfl⟩
  case round =>
    obtain ⟨k, hk, rfl, rfl⟩ := hrel
    by_cases hlt : k < B.length % 8
    · have H2 := Go.Lib.hid (show 2 * 2 ^ k = 2 ^ (k + 1) by rw [Nat.pow_succ, Nat.mul_comm])
      have hq : 2 ^ k ≤ 128 := by
        rcases lt8 (show k < 8 by omega) with h | h | h | h | h | h | h | h <;> rw [h] <;> decide
      obtain ⟨q, hqq⟩ : ∃ q, q = 2 ^ k := ⟨_, rfl⟩
      rw [← hqq] at hq H2 ⊢
      clear hqq
      go_wp2
      go_round
      case rel => exact ⟨k + 1, by omega, by go_num, by rw [← H2.out]; go_num⟩
      case measure => (simp [intOf] <;> omega)
    · obtain rfl : k = B.length % 8 := by omega
      rw [← hpp'.out]
      go_wp2
      go_returns
      have hval : ∀ u : Int, u = ((c + d : Nat) : Int) → (W.setCell ⟨g, B.length / 8, none⟩ (.int .u8 u)).ownsRow base 5 1 (.slice (some ⟨g, 0, none⟩) ((B.length + 7) / 8) cap) ((B.length + 7) / 8) (nums .u8 (pack (B ++ [b]))) := by
        rintro u rfl
        have h := hst.out
        rw [nums_set] at h
        rw [hps.out, hpk'.out, ← hpp'.out, ← hd'.out]
        simpa using h
      refine ⟨_, rfl, ?_, ?_⟩
      · rw [show (B.length + 1 + 7) / 8 = (B.length + 7) / 8 by omega]
        exact ((hval _ (by omega)).alloc _).alloc _
      · refine ⟨(((Below.refl _ _).setCell (by exact hg) _).alloc (by simpa using hbase) _).alloc (by simp; omega) _, fun k hk hne => ?_⟩
        rw [Below.heap_alloc _ _ _ (by simp; omega), Below.heap_alloc _ _ _ (by simpa using hk), Below.heap_setCell]
        intro e
        subst e
        exact hne _ _ hh'.out

section
variable {P : Program} {T E : TypeId} {k : IntKind} (he : Elem P T E k) (w : World) {ops : Array Oper} {rest : List Oper} {o : Oper} {a : Act} {Q : Exit → Act → World → Prop} (hg : o.guard = none)
include he hg
/-- append(s, c): one number; and what stays -/
theorem law_append1K (s x : Operand) (hop : o.op = Op.call { callee := Callee.builtin Builtin.append, args := #[s, x], argTypes := #[T, T] }) (base : Nat) (v : Value) (n : Nat) (l : List Int) (hs : a.eval s = v)
    (hown : w.ownsRow base E 1 v n (nums k l)) (c : Int) (hx : a.eval x = .slice (some ⟨w.heap.size, 0, none⟩) 1 1) (hn : n < 17592186044416) (hbase : base ≤ w.heap.size)
    (hK : ∀ v' w', w'.ownsRow base E 1 v' (n + 1) (nums k (l ++ [c])) → (w.alloc (.cells #[.int k c] E)).grownBy w' v.ownBlock → wpList P ops Q rest (a.put o.dst v') w') :
    wpList P ops Q (o :: rest) a (w.alloc (.cells #[.int k c] E)) := by
  obtain ⟨b, hb, hi⟩ := he.info
  obtain ⟨i0, hi, hz0, hz1, hz2⟩ := info_parts hi
  refine wpList_append_own _ hg s x T hop base E i0 (.int k 0) 1 b he.sl hi hz0 hz1 hz2 rfl (by decide) v n (nums k l) hs (hown.alloc _) ⟨w.heap.size, 0, none⟩ 1 1 (nums k [c]) hx (by simp [nums]) ?_ (ints_oneCell k [c]) (by unfold maxLen; omega) ?_ (by simp; omega) fun v' w' h1 h2 _ => hK v' w' ?_ h2
  · intro j u hj
    have hlt : j < 1 := by
      apply Classical.byContradiction; intro h; rw [List.getElem?_eq_none (by simp [nums]; omega)] at hj; simp at hj
    rw [one_new w E k c j hlt]
    obtain rfl : j = 0 := by omega
    simpa [nums] using hj
  · calc (n + 1) * b ≤ (n + 1) * 8 := Nat.mul_le_mul_left _ hb
      _ ≤ 140737488355328 := by omega
  · simpa [nums] using h1
end

theorem RAdd_new (W : World) (base : Nat) (v : Value) (B : List Bool) (b : Bool) (hown : W.ownsRow base 5 1 v ((B.length + 7) / 8) (nums .u8 (pack B))) (hbase : base ≤ W.heap.size) (hB : B.length ≤ 1000000000) (h8 : B.length % 8 = 0) :
    Calls Try.prog 54 #[.agg #[v, .int .i64 B.length], .int .i64 (bI b)] W fun e W' => ∃ v', e = .returned (.agg #[v', .int .i64 ((B.length + 1 : Nat) : Int)]) ∧
      W'.ownsRow base 5 1 v' (((B ++ [b]).length + 7) / 8) (nums .u8 (pack (B ++ [b]))) ∧ Kept base W W' := by
  obtain ⟨a0, n, c0, hn, rfl⟩ : ∃ a0 n c0, n = (B.length + 7) / 8 ∧ v = .slice a0 n c0 := by
    rcases hown.2 with ⟨rfl, h0⟩ | ⟨g, cap, cur, rfl, _⟩
    · exact ⟨none, _, 0, rfl, by rw [h0]⟩
    · exact ⟨_, _, cap, rfl, rfl⟩
  rw [← hn] at hown
  have hnlt : n < 200000000 := by omega
  have hn8 := Go.Lib.hid (show B.length / 8 = n by omega)
  have hn' := Go.Lib.hid hn
  have hm8 : ((B.length : Int) % 8 == 0) = true := by simp; omega
  have hm8' : ((B.length : Int) % 8) = 0 := by omega
  clear hn
  go_enter Try.func54, Try.ntmps54
  go_wp2_with (at_builtin; go_loud (refine law_append1K elU8 _ rfl _ _ rfl base _ n (pack B) rfl ((hown.alloc _).alloc _) 0 (by simp [Act.eval]) (by omega) (by simp; omega) ?_))
  intro v' w1 hown1 hgrow
  have hfar : ∀ x, W.heap.size ≤ x → some x ≠ (Value.slice a0 n c0).ownBlock := fun x hx e => by have := (hown.lt x e.symm).2; omega
  have hx := hgrow.block W.heap.size (by simp; omega) (hfar _ (Nat.le_refl _))
  have hy := hgrow.block (W.heap.size + 1) (by simp) (hfar _ (by omega))
  rw [Below.heap_alloc _ _ _ (by simp; omega), Below.heap_alloc _ _ _ (by simp), heap_alloc_new] at hx
  rw [Below.heap_alloc _ _ _ (by simp), heap_alloc2_new] at hy
  rcases hown1.2 with ⟨_, h0⟩ | ⟨g, cap, cur, rfl, hg, hh, hnc, hm, hs, ht⟩
  · omega
  have gx : g ≠ W.heap.size := fun e => by rw [e, hx] at hh; simp at hh
  have gy : g ≠ W.heap.size + 1 := fun e => by rw [e, hy] at hh; simp at hh
  have hc1 : w1.cell? ⟨g, B.length / 8, none⟩ = some (.int .u8 0) := by
    rw [hn8.out, hown1.cellAt n (by omega)]
    have : (pack B).length = n := by rw [pack_len, hn'.out]
    simp [nums, this]
  have hf1 : w1.frozen? ⟨g, B.length / 8, none⟩ = false := hown1.frozenAt (B.length / 8)
  have cx0 : w1.cell? ⟨W.heap.size, 0, none⟩ = some (.slice a0 n c0) := by unfold World.cell?; rw [hx]; rfl
  have cx1 : w1.cell? ⟨W.heap.size, 1, none⟩ = some (.int .i64 B.length) := by unfold World.cell?; rw [hx]; rfl
  have cy0 : w1.cell? ⟨W.heap.size + 1, 0, none⟩ = some (.slice none 0 0) := by unfold World.cell?; rw [hy]; rfl
  have cy1 : w1.cell? ⟨W.heap.size + 1, 1, none⟩ = some (.int .i64 0) := by unfold World.cell?; rw [hy]; rfl
  have fx0 : ∀ o, w1.frozen? ⟨W.heap.size, o, none⟩ = false := fun o => by unfold World.frozen?; rw [hx]; simp
  have fy0 : ∀ o, w1.frozen? ⟨W.heap.size + 1, o, none⟩ = false := fun o => by unfold World.frozen?; rw [hy]; simp
  have fx00 := fx0 0; have fx01 := fx0 1; have fy00 := fy0 0; have fy01 := fy0 1
  clear fx0 fy0
  have hbel : Hid (Below base W w1) := Go.Lib.hid ((((Below.refl _ _).alloc hbase _).alloc (by simp; omega) _).alloc (by simp; omega) _ |>.grown hgrow (by simp; omega) (fun k hk => (hown.lt k hk).1))
  have hoth : Hid (∀ k, k < W.heap.size → (∀ cur fr, W.heap[k]? ≠ some (.cells cur 5 fr)) → w1.heap[k]? = W.heap[k]? ∧ k ≠ g) := Go.Lib.hid (fun k hk hne => by
    have h1 : some k ≠ (Value.slice a0 n c0).ownBlock := by
      rcases hown.2 with ⟨e, _⟩ | ⟨g0, cap0, cur0, e, _, hh0, _⟩
      · rw [e]; exact fun e => by cases e
      · rw [e]; intro e'; cases e'; exact hne _ _ hh0
    have h2 := hgrow.block k (by simp; omega) h1
    rw [Below.heap_alloc _ _ _ (by simp; omega), Below.heap_alloc _ _ _ (by simp; omega), Below.heap_alloc _ _ _ hk] at h2
    refine ⟨h2, ?_⟩
    rintro rfl
    rw [h2] at hh
    exact hne _ _ hh)
  have hown1' := Go.Lib.hid hown1
  have hx' := Go.Lib.hid hx
  have hy' := Go.Lib.hid hy
  have hh' := Go.Lib.hid hh
  have hsz := hgrow.size
  simp at hsz
  have hbI : bI b = 0 ∨ bI b = 1 := by cases b <;> simp [bI]
  have hbI' : 0 ≤ bI b ∧ bI b ≤ 1 := by omega
  have hnn := Go.Lib.hid hnc
  clear hfar hx hy hh hs ht hm hgrow hown hown1 hnc hbI
  have hq : B.length / 8 < n + 1 := by rw [hn8.out]; omega
  go_wp2
  refine wp_loop_once ?_
  go_wp2
  (try simp only [Exit.inBlock, Exit.then])
  have hb4 : (((w1.setCell ⟨W.heap.size, 0, none⟩ (.slice (some ⟨g, 0, none⟩) (n + 1) cap)).setCell ⟨g, B.length / 8, none⟩ (.int .u8 (bI b))).setCell ⟨W.heap.size, 1, none⟩ (.int .i64 ((B.length : Int) + 1))).heap[W.heap.size + 1]? = some (.cells #[.slice none 0 0, .int .i64 0] 28) := by
    rw [Below.heap_setCell _ _ _ _ (by simp), Below.heap_setCell _ _ _ _ (Ne.symm gy), Below.heap_setCell _ _ _ _ (by simp)]
    exact hy'.out
  have hb5 := heap_setCell_same _ _ 1 _ _ (.int .i64 ((B.length : Int) + 1)) (heap_setCell_same _ _ 0 _ _ (.slice (some ⟨g, 0, none⟩) (n + 1) cap) hb4)
  refine bodyPost_ret (results_cell_row (by rfl) _ _ (W.heap.size + 1) _ _ _ _ rfl hb5 Try.underlying28 rfl (by kernel_rfl)) rfl ?_
  refine ⟨.slice (some ⟨g, 0, none⟩) (n + 1) cap, by simp, ?_, ?_⟩
  · have hst := (hown1'.out.stored (B.length / 8) (.int .u8 (bI b))).1
    rw [nums_set, List.set_append_right _ _ (by rw [pack_len]; omega)] at hst
    have e0 : B.length / 8 - (pack B).length = 0 := by rw [pack_len]; omega
    rw [e0] at hst
    rw [pack_snoc0 B b h8, show ((B ++ [b]).length + 7) / 8 = n + 1 by rw [hn'.out]; simp; omega]
    refine own_congr hst fun g' e => ?_
    cases e
    have hg1 : (w1.setCell ⟨W.heap.size, 0, none⟩ (.slice (some ⟨g, 0, none⟩) (n + 1) cap)).heap[g]? = some (.cells cur 5) := by
      rw [Below.heap_setCell _ _ _ _ gx]; exact hh'.out
    rw [Below.heap_setCell _ _ _ _ gy, Below.heap_setCell _ _ _ _ gy, Below.heap_setCell _ _ _ _ gx, heap_setCell_same _ _ _ _ _ _ hg1, heap_setCell_same _ _ _ _ _ _ hh'.out]
  · refine ⟨((((hbel.out.setCell (by exact hbase) _).setCell (by exact hg) _).setCell (by exact hbase) _).setCell (by simp; omega) _).setCell (by simp; omega) _, fun k hk hne => ?_⟩
    obtain ⟨h1, h2⟩ := hoth.out k hk hne
    rw [Below.heap_setCell _ _ _ _ (by simp; omega), Below.heap_setCell _ _ _ _ (by simp; omega), Below.heap_setCell _ _ _ _ (by simp; omega), Below.heap_setCell _ _ _ _ h2, Below.heap_setCell _ _ _ _ (by simp; omega), h1]
end Go.Proofs.Ytahefkjgcdchlaa
