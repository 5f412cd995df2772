/- What the statements of unary share: the chapter's examples; both sides say the same. -/
import Derived.Test.YtahefkjgcdchlaaUnaS
import Derived.Test.YtahefkjgcdchlaaBitPartsW
import Derived.Test.YtahefkjgcdchlaaUnaQ
namespace Go.Proofs.Ytahefkjgcdchlaa
open Go.RowKit Cad

theorem RTwin_row (W : World) (a : Option Addr) (len cap : Nat) (N : Int) (l : List Int) (hr : Row .u8 W a len cap l) (hlen : len ≤ 1000000000) :
    Calls Try.prog 16 #[.agg #[.slice a len cap, .int .i64 N]] W fun e W' => ∃ b c, e = .returned (.agg #[.slice b len c, .int .i64 N]) ∧ Row .u8 W' b len c l ∧ Below W.heap.size W W' :=
  (RTwin_ok W a len cap N l hr hlen).mono fun _ _ ⟨v', h1, h2, h3⟩ => by
    obtain ⟨b, c, rfl⟩ := own_form h2
    exact ⟨b, c, h1, Row.of_own h2 hr.wf, h3⟩

/-- a call that hands back three numbers -/
def Res3 (f : FuncId) (args : Array Value) (W : World) (p q e : Int) : Prop :=
  Calls Try.prog f args W fun r W' => r = .returned (.tuple #[.int .i64 p, .int .i64 q, .int .i64 e]) ∧ Below W.heap.size W W'

theorem URead_bad (W : World) (a : Option Addr) (len cap : Nat) (N : Int) (l : List Int) (i : Int) (hr : Row .u8 W a len cap l) (hN : (Lit.int .i64 N).wf = true) (hi : (Lit.int .i64 i).wf = true) (hv : ¬ Valid l N) : Res3 30 #[.agg #[.slice a len cap, .int .i64 N], .int .i64 i] W 0 0 8 :=
  URead_no W a len cap N i 8 hi (.inl rfl) fun w hw => BGet_bad w a len cap N l i 1 (hr.below hw (Nat.le_refl _)) hN hv
theorem URead_out (W : World) (a : Option Addr) (len cap : Nat) (N : Int) (l : List Int) (i er : Int) (hr : Row .u8 W a len cap l) (hN : (Lit.int .i64 N).wf = true) (hi : (Lit.int .i64 i).wf = true) (hv : Valid l N) (h : (i < 0 ∧ er = 2) ∨ (¬ i < 0 ∧ N ≤ i ∧ er = 24)) : Res3 30 #[.agg #[.slice a len cap, .int .i64 N], .int .i64 i] W 0 0 er :=
  URead_no W a len cap N i er hi (by omega) fun w hw => by
    rcases h with ⟨h, rfl⟩ | ⟨h, h', rfl⟩
    · exact BGet_arg w a len cap N l i 1 (hr.below hw (Nat.le_refl _)) hN hv (by omega) h
    · exact BGet_short w a len cap N l i 1 (hr.below hw (Nat.le_refl _)) hN hv (by omega) h (by omega)

theorem URead_le (W : World) (a : Option Addr) (len cap : Nat) (B : List Bool) (i : Nat) (hr : Row .u8 W a len cap (pack B)) (hB : B.length ≤ 330000) (hi : i ≤ B.length) (p q er : Nat) (hv : readV B i = (p, q, er)) :
    Calls Try.prog 30 #[.agg #[.slice a len cap, .int .i64 B.length], .int .i64 i] W fun e W' => e = .returned (.tuple #[.int .i64 p, .int .i64 q, .int .i64 er]) ∧ Below W.heap.size W W' := by
  by_cases h : i < B.length
  · exact URead_in W a len cap B i hr hB h p q er hv
  · obtain rfl : i = B.length := by omega
    rw [read_end] at hv
    cases hv
    exact URead_out W a len cap B.length (pack B) B.length 24 hr (bounds_of_len (by omega)) (bounds_of_len (by omega)) ⟨B, rfl, hB, rfl⟩ (.inr ⟨by omega, by omega, rfl⟩)

/-- a run alone -/
theorem UWrite_alone (w : World) (n : Nat) (hn : n ≤ 48) (k m : Nat) (nI kI : Int) (hnI : (n : Int) = nI) (hkI : (k : Int) = kI) (hk : runLen n = k) (hm : (k + 7) / 8 = m) (l : List Int) (hl : pack (runB n) = l) :
    Calls Try.prog 29 #[.agg #[.slice none 0 0, .int .i64 0], .int .i64 nI] w fun e W' => ∃ b c, e = .returned (.tuple #[.agg #[.slice b m c, .int .i64 kI], .int .i64 0]) ∧ Row .u8 W' b m c l ∧ Below w.heap.size w W' := by
  subst hnI
  subst hkI
  have := UWrite_ok w none 0 0 [] n (by rw [show pack [] = [] by rfl]; exact Row.nil_row _ _) (by have := runLen_le hn; simp; omega) hn
  rw [List.nil_append, hl, hk] at this
  simp only [List.length_nil, Nat.zero_add] at this
  rw [hm] at this
  exact this

end Go.Proofs.Ytahefkjgcdchlaa
