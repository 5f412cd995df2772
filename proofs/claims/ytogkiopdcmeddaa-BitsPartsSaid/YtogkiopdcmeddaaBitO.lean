/- Contracts of the reference's functions on bits: bits of bytes. -/
import Derived.Test.YtogkiopdcmeddaaBitN
namespace Go.Proofs.Ytogkiopdcmeddaa
open Go.RowKit Cad

section
variable {P : Program} {T E : TypeId} {k : IntKind} (he : Elem P T E k) (w : World) {ops : Array Oper} {rest : List Oper} {o : Oper} {a : Act} {Q : Exit → Act → World → Prop} (hg : o.guard = none)
include he hg
/-- append(s, x...): x is whatever reads as numbers; and what stays -/
theorem law_appendRowK (s x : Operand) (hop : o.op = Op.call { callee := Callee.builtin Builtin.append, args := #[s, x], argTypes := #[T, T] }) (base : Nat) (v : Value) (n : Nat) (l : List Int) (hs : a.eval s = v)
    (hown : w.ownsRow base E 1 v n (nums k l)) (ax : Option Addr) (m cx : Nat) (news : List Int) (hx : a.eval x = .slice ax m cx) (hr : Row k w ax m cx news) (hn : n + m ≤ 17592186044416) (hbase : base ≤ w.heap.size)
    (hK : ∀ v' w', w'.ownsRow base E 1 v' (n + m) (nums k (l ++ news)) → w.grownBy w' v.ownBlock → wpList P ops Q rest (a.put o.dst v') w') :
    wpList P ops Q (o :: rest) a w :=
  wpList_step fun _ hk => step_appendRow he w hg s x hop base v n l hs hown ax m cx news hx hr hn hbase fun v' w' h1 h2 => hk _ _ (hK v' w' h1 h2)
end

/-- a struct result in a cell, and a number beside it -/
theorem results_box_tmp {fn : Func} {p u : Tmp} (h : fn.results = #[.cell p 24, .tmp u]) (tmps : Array Value) (w : World) (x : Nat) (v : Value) (N : Int) (hp : tmps.getD p undef = .pointer (some ⟨x, 0, none⟩)) (hx : BoxAt w x v N) :
    (results fn tmps).run Try.prog w = .ok (.tuple #[.agg #[v, .int .i64 N], tmps.getD u undef]) w := by
  rw [results_cell_tmp h, hp]
  have := run_loadVar_row (P := Try.prog) w x _ 24 _ _ _ hx Try.underlying24 rfl (by kernel_rfl)
  simp [asAddr, Sem.run_pure, this]

theorem ROf_many (W : World) (a : Option Addr) (len cap : Nat) (h : (41250 : Int) < len) (hl : len ≤ 9223372036854775807) :
    Calls Try.prog 14 #[.slice a len cap] W fun e W' => e = .returned (.tuple #[.agg #[.slice none 0 0, .int .i64 0], .int .i64 4]) ∧ Below W.heap.size W W' := by
  go_enter Try.func14, Try.ntmps14
  go_wp2
  go_returns
  exact ⟨rfl, (Below.refl _ _).alloc (Nat.le_refl _) _⟩

theorem ROf_ok (W : World) (a : Option Addr) (len cap : Nat) (l : List Int) (hr : Row .u8 W a len cap l) (h : (len : Int) ≤ 41250) :
    Calls Try.prog 14 #[.slice a len cap] W fun e W' => ∃ v', e = .returned (.tuple #[.agg #[v', .int .i64 (8 * (len : Int))], .int .i64 0]) ∧
      W'.ownsRow W.heap.size 5 1 v' len (nums .u8 l) ∧ Below W.heap.size W W' := by
  have hownE : ((W.alloc (.cells #[.slice none 0 0, .int .i64 0] 24)).alloc (.cells #[] 5)).ownsRow (W.heap.size + 1) 5 1 (.slice (some ⟨W.heap.size + 1, 0, none⟩) 0 0) 0 (nums .u8 []) := by
    have := own_empty (W.alloc (.cells #[.slice none 0 0, .int .i64 0] 24)) 5 .u8
    simpa using this
  have hbE := ((Below.refl W.heap.size W).alloc (Nat.le_refl _) (.cells #[.slice none 0 0, .int .i64 0] 24)).alloc (by simp) (.cells #[] 5)
  have hrE := hr.below hbE (Nat.le_refl _)
  have hbE' := Go.Lib.hid hbE
  clear hr hbE
  go_enter Try.func14, Try.ntmps14
  go_wp2_with (at_builtin; refine law_appendRowK elU8 _ rfl _ _ rfl (W.heap.size + 1) _ 0 [] rfl hownE a len cap l rfl hrE (by omega) (by simp) ?_)
  intro v' w1 hown1 hgrow
  have hy1 : BoxAt w1 W.heap.size (.slice none 0 0) 0 := by
    unfold BoxAt
    rw [hgrow.block W.heap.size (by simp; omega) (by simp [Value.ownBlock]), Below.heap_alloc _ _ _ (by simp), heap_alloc_new]
  have hb1 := hbE'.out.grown hgrow (by simp; omega) (fun k hk => by simp [Value.ownBlock] at hk; omega)
  obtain ⟨av, cv, rfl⟩ := own_form hown1
  obtain ⟨d0, d1, g0, g1⟩ := hy1.cells
  have ap := hy1.apart hown1
  have hb1' := Go.Lib.hid hb1
  have hy1' := Go.Lib.hid hy1
  have ho1' := Go.Lib.hid hown1
  have hg1' := Go.Lib.hid (fun g (e : (Value.slice av len cv).ownBlock = some g) => (hown1.lt g e).1)
  clear hb1 hy1 hown1 hgrow hownE hrE
  go_wp2
  (try simp only [Exit.inBlock, Exit.then])
  refine bodyPost_ret (results_box_tmp (by rfl) _ _ W.heap.size _ _ rfl (hy1'.out.set _ _)) rfl ?_
  refine ⟨.slice av len cv, by simp, ?_, (hb1'.out.setCell (Nat.le_refl _) _).setCell (Nat.le_refl _) _⟩
  have h1 : w1.ownsRow W.heap.size 5 1 (.slice av len cv) len (nums .u8 l) := by
    refine ⟨ho1'.out.1, ?_⟩
    rcases ho1'.out.2 with h0 | ⟨g, cap', cur', e, h1, h2⟩
    · exact .inl h0
    · exact .inr ⟨g, cap', cur', e, by omega, h2⟩
  exact own_set (own_set h1 ap _ _) ap _ _
end Go.Proofs.Ytogkiopdcmeddaa
