/- What the statements of rice share: the chapter's examples; both sides say the same. -/
import Derived.Test.YtahefkjgcdchlaaUnaL
import Derived.Test.YtahefkjgcdchlaaRicC
import Derived.Test.YtahefkjgcdchlaaRicT
namespace Go.Proofs.Ytahefkjgcdchlaa
open Go.RowKit Cad

theorem nat_u32 {v : Int} (h : (Lit.int .u32 v).wf = true) : ∃ n : Nat, v = n ∧ n < 4294967296 := by
  have := bounds_u32 h
  exact ⟨v.toNat, by omega, by omega⟩

theorem rlength_both (v : Nat) (k : Int) (hv : v < 4294967296) (hk : (Lit.int .i64 k).wf = true) : ∃ p e : Int,
    (∀ w, Calls Try.prog 9 #[.int .u32 v, .int .i64 k] w fun r W' => r = .returned (.tuple #[.int .i64 p, .int .i64 e]) ∧ w = W') ∧
    (∀ w, Calls Try.prog 17 #[.int .u32 v, .int .i64 k] w fun r W' => r = .returned (.tuple #[.int .i64 p, .int .i64 e]) ∧ w = W') := by
  by_cases h : k < 0 ∨ 24 < k
  · exact ⟨0, 2, fun w => PLength_arg w v k hk h, fun w => RrLength_arg w v k hk h⟩
  · obtain ⟨m, rfl⟩ : ∃ m : Nat, k = m := ⟨k.toNat, by omega⟩
    exact ⟨_, 0, fun w => PLength_ok w v m hv (by omega), fun w => RrLength_ok w v m hv (by omega)⟩

theorem rwrite_both (N : Int) (l : List Int) (v : Nat) (k : Int) (hN : (Lit.int .i64 N).wf = true) (hv : v < 4294967296) (hk : (Lit.int .i64 k).wf = true) : ∃ m lj t e,
    (∀ w a len cap, Row .u8 w a len cap l → Res 10 #[.agg #[.slice a len cap, .int .i64 N], .int .u32 v, .int .i64 k] w m lj t e) ∧
    (∀ w a len cap, Row .u8 w a len cap l → Res 18 #[.agg #[.slice a len cap, .int .i64 N], .int .u32 v, .int .i64 k] w m lj t e) := by
  by_cases hva : Valid l N
  · by_cases h : k < 0 ∨ 24 < k
    · exact ⟨0, [], 0, 2, fun w a len cap hr => Res.none (PWrite_arg w a len cap N l v k hr hN hva hk h), fun w a len cap hr => Res.none (RrWrite_arg w a len cap N l v k hr hN hva hk h)⟩
    · obtain ⟨j, rfl⟩ : ∃ m : Nat, k = m := ⟨k.toNat, by omega⟩
      obtain ⟨B, rfl, hB, rfl⟩ := hva
      by_cases hf : 330000 < B.length + riceLen v j
      · exact ⟨0, [], 0, 18, fun w a len cap hr => Res.none (PWrite_full w a len cap B v j hr hB hf hv (by omega)), fun w a len cap hr => Res.none (RrWrite_full w a len cap B v j hr hB hf hv (by omega))⟩
      · exact ⟨_, pack (B ++ riceB v j), _, 0, fun w a len cap hr => PWrite_ok w a len cap B v j hr (by omega) hv (by omega), fun w a len cap hr => RrWrite_ok w a len cap B v j hr (by omega) hv (by omega)⟩
  · exact ⟨0, [], 0, 8, fun w a len cap hr => Res.none (PWrite_bad w a len cap N l v k hr hN hva), fun w a len cap hr => Res.none (RrWrite_bad w a len cap N l v k hr hN hva)⟩

/-- a call that hands back a number of 32 bits, and two numbers -/
def Res3u (f : FuncId) (args : Array Value) (W : World) (p q e : Int) : Prop :=
  Calls Try.prog f args W fun r W' => r = .returned (.tuple #[.int .u32 p, .int .i64 q, .int .i64 e]) ∧ Below W.heap.size W W'

theorem rread_both (N : Int) (l : List Int) (i k : Int) (hN : (Lit.int .i64 N).wf = true) (hi : (Lit.int .i64 i).wf = true) (hk : (Lit.int .i64 k).wf = true) : ∃ p q e,
    (∀ w a len cap, Row .u8 w a len cap l → Res3u 11 #[.agg #[.slice a len cap, .int .i64 N], .int .i64 i, .int .i64 k] w p q e) ∧
    (∀ w a len cap, Row .u8 w a len cap l → Res3u 19 #[.agg #[.slice a len cap, .int .i64 N], .int .i64 i, .int .i64 k] w p q e) := by
  by_cases hva : Valid l N
  · by_cases h : k < 0 ∨ 24 < k
    · exact ⟨0, 0, 2, fun w a len cap hr => PRead_arg w a len cap N l i k hr hN hva hk h, fun w a len cap hr => RrRead_arg w a len cap N l i k hr hN hva hk h⟩
    obtain ⟨j, rfl⟩ : ∃ m : Nat, k = m := ⟨k.toNat, by omega⟩
    by_cases h0 : i < 0
    · exact ⟨0, 0, 2, fun w a len cap hr => PRead_out w a len cap N l i 2 j hr hN hi hva (by omega) (.inl ⟨h0, rfl⟩), fun w a len cap hr => RrRead_neg w a len cap N l i j hr hN hva (by omega) h0⟩
    by_cases h1 : N ≤ i
    · exact ⟨0, 0, 24, fun w a len cap hr => PRead_out w a len cap N l i 24 j hr hN hi hva (by omega) (.inr ⟨h0, h1, rfl⟩), fun w a len cap hr => RrRead_got w a len cap N l i j 0 0 24 hr hN hva (by omega) h0 fun w' _ => RrGot_end w' a len cap N i j h1⟩
    · obtain ⟨s, rfl⟩ : ∃ m : Nat, i = m := ⟨i.toNat, by omega⟩
      obtain ⟨B, rfl, hB, rfl⟩ := hva
      obtain ⟨p, q, er, hv⟩ : ∃ p q er, readR B s j = (p, q, er) := ⟨_, _, _, rfl⟩
      exact ⟨p, q, er, fun w a len cap hr => PRead_in w a len cap B s j hr hB (by omega) (by omega) p q er hv,
        fun w a len cap hr => RrRead_got w a len cap B.length (pack B) s j p q er hr hN ⟨B, rfl, hB, rfl⟩ (by omega) h0 fun w' hr' => RrGot_ok w' a len cap B s j hr' hB (by omega) (by omega) p q er hv⟩
  · exact ⟨0, 0, 8, fun w a len cap hr => PRead_bad w a len cap N l i k hr hN hva, fun w a len cap hr => RrRead_bad w a len cap N l i k hr hN hva⟩

/-- a code alone -/
theorem PWrite_alone (w : World) (v k : Nat) (hv : v < 4294967296) (hk : k ≤ 24) (t m : Nat) (vI kI tI : Int) (hvI : (v : Int) = vI) (hkI : (k : Int) = kI) (htI : (t : Int) = tI) (ht : riceLen v k = t) (hm : (t + 7) / 8 = m) (l : List Int) (hl : pack (riceB v k) = l) :
    Calls Try.prog 10 #[.agg #[.slice none 0 0, .int .i64 0], .int .u32 vI, .int .i64 kI] w fun e W' => ∃ b c, e = .returned (.tuple #[.agg #[.slice b m c, .int .i64 tI], .int .i64 0]) ∧ Row .u8 W' b m c l ∧ Below w.heap.size w W' := by
  subst hvI
  subst hkI
  subst htI
  have := PWrite_ok w none 0 0 [] v k (by rw [show pack [] = [] by rfl]; exact Row.nil_row _ _) (by have := riceLen_le v hk; simp; omega) hv hk
  rw [List.nil_append, hl, ht] at this
  simp only [List.length_nil, Nat.zero_add] at this
  rw [hm] at this
  exact this

theorem alive7_ok (W : World) : Calls Try.prog 14 #[] W fun e W' => e = .returned (.bool true) ∧ Below W.heap.size W W' := by
  have t0 : strOfNums [11] = ⟨#[11]⟩ := rfl
  have c9 := Go.Lib.hid (fun w => PWrite_alone w 9 2 (by decide) (by decide) 5 1 9 2 5 rfl rfl rfl (by decide) rfl [11] (by rfl))
  have l47 : Hid (∀ w, Calls Try.prog 9 #[.int .u32 47, .int .i64 0] w fun e W' => e = .returned (.tuple #[.int .i64 48, .int .i64 0]) ∧ w = W') := Go.Lib.hid fun w => by
    have := PLength_ok w 47 0 (by decide) (by decide)
    rw [show riceLen 47 0 = 48 by decide] at this
    exact this
  have l48 : Hid (∀ w, Calls Try.prog 9 #[.int .u32 48, .int .i64 0] w fun e W' => e = .returned (.tuple #[.int .i64 80, .int .i64 0]) ∧ w = W') := Go.Lib.hid fun w => by
    have := PLength_ok w 48 0 (by decide) (by decide)
    rw [show riceLen 48 0 = 80 by decide] at this
    exact this
  have hWE0 := Go.Lib.hid (Below.refl W.heap.size W)
  go_enter Try.func14, Try.ntmps14
  go_wp2_with (first
    | (go_at_call 10; ((with_reducible refine (c9.out _).mono ?_)); rintro e w1 ⟨b1, cp1, rfl, hr1, hb1⟩; have hWE1 := Go.Lib.hid hWE0.out; have hW1 := Go.Lib.hid (hWE1.out.trans (hb1.mono hWE1.out.size)); have R1_x := Go.Lib.hid hr1; clear hr1; clear hb1)
    | (go_at_call 9; ((with_reducible refine (l47.out _).mono ?_)); rintro e wz ⟨rfl, rfl⟩)
    | (go_at_call 9; ((with_reducible refine (l48.out _).mono ?_)); rintro e wz ⟨rfl, rfl⟩; have sx := (R1_x.out.below (below1 w1 (.cells #[.slice b1 1 cp1, .int .i64 5] 28)) (Nat.le_refl _)).str (P := Try.prog) Try.underlying26 Try.underlying5 Try.underlying9; rw [t0] at sx))
  go_ret
  exact ⟨rfl, hW1.out.alloc hW1.out.size _⟩
end Go.Proofs.Ytahefkjgcdchlaa
