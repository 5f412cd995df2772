/- BitsParts: joining, cutting, bytes and filling up are the reference's. -/
import Derived.Test.YtahefkjgcdchlaaBitGotW
namespace Go.Proofs.Ytahefkjgcdchlaa
open Go.RowKit Cad

/-- a call that hands back bits and an error -/
def Res (f : FuncId) (args : Array Value) (W : World) (m : Nat) (l : List Int) (n e : Int) : Prop :=
  Calls Try.prog f args W fun r W' => ∃ b c, r = .returned (.tuple #[.agg #[.slice b m c, .int .i64 n], .int .i64 e]) ∧ Row .u8 W' b m c l ∧ Below W.heap.size W W'
theorem Res.none {f : FuncId} {args : Array Value} {W : World} {e : Int} (h : Calls Try.prog f args W fun r W' => r = .returned (.tuple #[.agg #[.slice none 0 0, .int .i64 0], .int .i64 e]) ∧ Below W.heap.size W W') : Res f args W 0 [] 0 e :=
  h.mono fun _ _ ⟨h1, h2⟩ => ⟨Option.none, 0, h1, Row.nil_row _ _, h2⟩
theorem Res.own {f : FuncId} {args : Array Value} {W : World} {m : Nat} {l : List Int} {n e : Int} (hl : ∀ x ∈ l, 0 ≤ x ∧ x ≤ 255) (h : Calls Try.prog f args W fun r W' => ∃ v', r = .returned (.tuple #[.agg #[v', .int .i64 n], .int .i64 e]) ∧
    W'.ownsRow W.heap.size 5 1 v' m (nums .u8 l) ∧ Below W.heap.size W W') : Res f args W m l n e :=
  h.mono fun _ _ ⟨v', h1, h2, h3⟩ => by
    obtain ⟨b, c, rfl⟩ := own_form h2
    exact ⟨b, c, h1, Row.of_own h2 (u8_wf hl), h3⟩

section
variable (a : Option Addr) (len cap : Nat) (N : Int) (l : List Int) (hN : (Lit.int .i64 N).wf = true)
end

theorem same_both (m : Nat) (l : List Int) (n : Int) : Hid (∀ w b c b' c', Row .u8 w b m c l → Row .u8 w b' m c' l → Calls Try.prog 20 #[.agg #[.slice b m c, .int .i64 n], .agg #[.slice b' m c', .int .i64 n]] w fun e W' => e = .returned (.bool true) ∧ Below w.heap.size w W') := Go.Lib.hid fun w b c b' c' h h' => by
  have := RSame_ok w b m c n l h b' m c' n l h'
  simpa using this

end Go.Proofs.Ytahefkjgcdchlaa
