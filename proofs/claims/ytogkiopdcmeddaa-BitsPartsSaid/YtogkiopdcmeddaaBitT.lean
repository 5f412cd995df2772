/- Contracts of the reference's functions on bits: copies. -/
import Derived.Test.YtogkiopdcmeddaaBitV
import Derived.Deep.RegionHeld3
import Derived.WalkSpells
import Derived.StillTactics
namespace Go.Proofs.Ytogkiopdcmeddaa
open Go.RowKit Cad

section
variable {P : Program} {T E : TypeId} {k : IntKind} (he : Elem P T E k) (w : World) {ops : Array Oper} {o : Oper} {a : Act} {K : Act → World → Prop} {Q : Exit → Act → World → Prop} {F : Prop} (hg : o.guard = none)
include he hg
/-- append(s, x...) in a region that draws its order: x is whatever reads as numbers -/
theorem step_appendRow (s x : Operand) (hop : o.op = Op.call { callee := Callee.builtin Builtin.append, args := #[s, x], argTypes := #[T, T] }) (base : Nat) (v : Value) (n : Nat) (l : List Int) (hs : a.eval s = v)
    (hown : w.ownsRow base E 1 v n (nums k l)) (ax : Option Addr) (m cx : Nat) (news : List Int) (hx : a.eval x = .slice ax m cx) (hr : Row k w ax m cx news) (hn : n + m ≤ 17592186044416) (hbase : base ≤ w.heap.size)
    (hK : ∀ v' w', w'.ownsRow base E 1 v' (n + m) (nums k (l ++ news)) → w.grownBy w' v.ownBlock → K (a.put o.dst v') w') :
    if Region.wanted o (yielded ops a.tmps) = true then Oper.wp P o a w K Q else F := by
  have hw : Region.wanted o (yielded ops a.tmps) = true := by simp [Region.wanted, hg]
  rw [if_pos hw]
  obtain ⟨b, hb, hi⟩ := he.info
  obtain ⟨i0, hi, hz0, hz1, hz2⟩ := info_parts hi
  match ax, hx, hr with
  | none, hx, hr =>
    have h0 := hr.nil rfl; have h1 := hr.hlen; have h2 := hr.hcap
    obtain rfl : cx = 0 := h0
    obtain rfl : m = 0 := by omega
    have : news = [] := List.eq_nil_of_length_eq_zero h1
    subst this
    have hrun := run_append_owned_none (P := P) (w := w) base T o.type E i0 1 he.sl hi v n (nums k l) hown
    unfold Oper.wp
    simp [execOp, hop, resolve, invoke, builtin, hs, hx, hrun, Result.andThen]
    exact hK _ _ (by simpa using hown) (World.grownBy.refl _ _)
  | some ad, hx, hr =>
    refine wp_append_own w s x T hop base E i0 (.int k 0) 1 b he.sl hi hz0 hz1 hz2 rfl (by decide) v n (nums k l) hs hown ad m cx (nums k news) hx (by simp [nums, hr.hlen]) ?_ (ints_oneCell k news) (by unfold maxLen; omega) ?_ hbase fun v' w' h1 h2 _ => hK v' w' (by simpa [nums] using h1) h2
    · intro j u hj
      simp only [nums, List.getElem?_map, Option.map_eq_some_iff] at hj
      obtain ⟨z, hz, rfl⟩ := hj
      have hlt : j < news.length := by
        apply Classical.byContradiction; intro h; rw [List.getElem?_eq_none (by omega)] at hz; simp at hz
      have hl := hr.hlen
      obtain ⟨b', off, e, _, hc⟩ := hr.cells (by omega)
      simp only [Option.some.injEq] at e
      subst e
      rw [show (⟨b', off, none⟩ : Addr).add j = ⟨b', off + j, none⟩ by unfold Addr.add; split <;> simp_all, hc j (by omega)]
      simp [List.getD, hz]
    · calc (n + m) * b ≤ (n + m) * 8 := Nat.mul_le_mul_left _ hb
        _ ≤ 140737488355328 := by omega
end

theorem twin_after {W w1 : World} {a : Option Addr} {len cap : Nat} {N : Int} {v' : Value} {xs : List Value} {base : Nat}
    (hgrow : ((((W.alloc (.cells #[.slice a len cap, .int .i64 N] 24)).alloc (.cells #[.slice none 0 0, .int .i64 0] 24)).alloc (.cells #[] 5)).drew).grownBy w1 (Value.slice (some ⟨W.heap.size + 1 + 1, 0, none⟩) 0 0).ownBlock)
    (hown1 : w1.ownsRow base 5 1 v' (0 + len) xs) :
    ∃ av cv, v' = .slice av (0 + len) cv ∧ Hid (w1.heap[W.heap.size + 1]? = some (.cells #[.slice none 0 0, .int .i64 0] 24)) ∧
      w1.cell? ⟨W.heap.size + 1, 0, none⟩ = some (.slice none 0 0) ∧ w1.cell? ⟨W.heap.size + 1, 1, none⟩ = some (.int .i64 0) ∧ w1.frozen? ⟨W.heap.size + 1, 0, none⟩ = false ∧ w1.frozen? ⟨W.heap.size + 1, 1, none⟩ = false := by
  have hy : w1.heap[W.heap.size + 1]? = some (.cells #[.slice none 0 0, .int .i64 0] 24) := by
    have h := hgrow.block (W.heap.size + 1) (by simp) (by simp [Value.ownBlock])
    rw [h]
    show ((((W.alloc (.cells #[.slice a len cap, .int .i64 N] 24)).alloc (.cells #[.slice none 0 0, .int .i64 0] 24)).alloc (.cells #[] 5))).heap[W.heap.size + 1]? = _
    rw [Below.heap_alloc _ _ _ (by simp), heap_alloc2_new]
  have e : ∃ av cv, v' = .slice av (0 + len) cv := by
    rcases hown1.2 with ⟨rfl, h0⟩ | ⟨g, cap', cur', rfl, _⟩
    · exact ⟨none, 0, by rw [h0]⟩
    · exact ⟨_, _, rfl⟩
  obtain ⟨av, cv, e⟩ := e
  refine ⟨av, cv, e, Go.Lib.hid hy, ?_, ?_, ?_, ?_⟩
  · unfold World.cell?; rw [hy]; rfl
  · unfold World.cell?; rw [hy]; rfl
  · unfold World.frozen?; rw [hy]; simp
  · unfold World.frozen?; rw [hy]; simp

theorem RTwin_ok (W : World) (a : Option Addr) (len cap : Nat) (N : Int) (l : List Int) (hr : Row .u8 W a len cap l) (hlen : len ≤ 1000000000) :
    Calls Try.prog 25 #[.agg #[.slice a len cap, .int .i64 N]] W fun e W' => ∃ v', e = .returned (.agg #[v', .int .i64 N]) ∧
      W'.ownsRow W.heap.size 5 1 v' len (nums .u8 l) ∧ Below W.heap.size W W' := by
  go_enter Try.func25, Try.ntmps25
  go_wp2_with fail
  have e1 := box_cell W #[.slice a len cap, .int .i64 N] 24
  have hownE : ((((W.alloc (.cells #[.slice a len cap, .int .i64 N] 24)).alloc (.cells #[.slice none 0 0, .int .i64 0] 24)).alloc (.cells #[] 5)).drew).ownsRow (W.heap.size + 1 + 1) 5 1 (.slice (some ⟨W.heap.size + 1 + 1, 0, none⟩) 0 0) 0 (nums .u8 []) := by
    have := (own_empty ((W.alloc (.cells #[.slice a len cap, .int .i64 N] 24)).alloc (.cells #[.slice none 0 0, .int .i64 0] 24)) 5 .u8).drew
    simpa using this
  have hrE : Row .u8 ((((W.alloc (.cells #[.slice a len cap, .int .i64 N] 24)).alloc (.cells #[.slice none 0 0, .int .i64 0] 24)).alloc (.cells #[] 5)).drew) a len cap l :=
    hr.below (((((Below.refl _ _).alloc (Nat.le_refl _) _).alloc (by simp) _).alloc (by simp; omega) _).drew) (Nat.le_refl _)
  go_region_held3 (fun w' => w'.cell? ⟨W.heap.size, 0, none⟩ = some (.slice a len cap) ∧ w'.cell? ⟨W.heap.size, 1, none⟩ = some (.int .i64 N))
    (first
      | go_keep
      | (go_split_ands
         refine ⟨?_, ?_⟩
         · (rw [hgrow.cell_far ⟨W.heap.size, 0, none⟩ (by simp; omega) (by simp [Value.ownBlock]; omega)]; assumption)
         · (rw [hgrow.cell_far ⟨W.heap.size, 1, none⟩ (by simp; omega) (by simp [Value.ownBlock]; omega)]; assumption)))
    ((go_loud (refine step_appendRow elU8 _ (by rfl) _ _ (by rfl) (W.heap.size + 1 + 1) _ 0 [] (by rfl) hownE a len cap l (by rfl) hrE (by omega) (by simp) ?_; intro v' w1 hown1 hgrow; obtain ⟨av, cv, rfl, hy', cy0, cy1, fy0, fy1⟩ := twin_after hgrow hown1)))
  go_wp2
  have hb5 := heap_setCell_same _ _ 1 _ _ (.int .i64 N) (heap_setCell_same _ _ 0 _ _ (.slice av len cv) hy'.out)
  have hgB : ∀ g, (Value.slice av (0 + len) cv).ownBlock = some g → W.heap.size + 1 + 1 ≤ g := fun g e => (hown1.lt g e).1
  refine bodyPost_ret (results_cell_row (by rfl) _ _ (W.heap.size + 1) _ _ _ _ rfl hb5 Try.underlying24 rfl (by kernel_rfl)) rfl ?_
  rw [Nat.zero_add] at hown1 hgB
  refine ⟨.slice av len cv, by simp, ?_, ?_⟩
  · have h : w1.ownsRow W.heap.size 5 1 (.slice av len cv) len (nums .u8 l) := by
      refine ⟨hown1.1, ?_⟩
      rcases hown1.2 with h0 | ⟨g, cap', cur', e, h1, h2⟩
      · exact .inl h0
      · exact .inr ⟨g, cap', cur', e, by omega, h2⟩
    refine own_congr h fun g e => ?_
    have := hgB g e
    rw [Below.heap_setCell _ _ _ _ (by simp; omega), Below.heap_setCell _ _ _ _ (by simp; omega)]
  · have hb1 : Below W.heap.size W w1 := ((((((Below.refl _ _).alloc (Nat.le_refl _) _).alloc (by simp) _).alloc (by simp; omega) _).drew).grown hgrow (by simp; omega) (fun k hk => by simp [Value.ownBlock] at hk; omega))
    exact (hb1.setCell (by simp) _).setCell (by simp) _
end Go.Proofs.Ytogkiopdcmeddaa
