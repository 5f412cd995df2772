/- What the statements of unary share: the chapter's examples; both sides say the same. -/
import Derived.Test.YtbegifpnbbpinaaUnaS
import Derived.Test.YtbegifpnbbpinaaBitPartsW
import Derived.Test.YtbegifpnbbpinaaUnaQ
namespace Go.Proofs.Ytbegifpnbbpinaa
open Go.RowKit Cad

theorem RTwin_row (W : World) (a : Option Addr) (len cap : Nat) (N : Int) (l : List Int) (hr : Row .u8 W a len cap l) (hlen : len ≤ 1000000000) :
    Calls Try.prog 17 #[.agg #[.slice a len cap, .int .i64 N]] W fun e W' => ∃ b c, e = .returned (.agg #[.slice b len c, .int .i64 N]) ∧ Row .u8 W' b len c l ∧ Below W.heap.size W W' :=
  (RTwin_ok W a len cap N l hr hlen).mono fun _ _ ⟨v', h1, h2, h3⟩ => by
    obtain ⟨b, c, rfl⟩ := own_form h2
    exact ⟨b, c, h1, Row.of_own h2 hr.wf, h3⟩

theorem ulength_both (n : Int) (hn : (Lit.int .i64 n).wf = true) : ∃ p e : Int,
    (∀ w, Calls Try.prog 10 #[.int .i64 n] w fun r W' => r = .returned (.tuple #[.int .i64 p, .int .i64 e]) ∧ w = W') ∧
    (∀ w, Calls Try.prog 18 #[.int .i64 n] w fun r W' => r = .returned (.tuple #[.int .i64 p, .int .i64 e]) ∧ w = W') := by
  by_cases h : n < 0 ∨ 48 < n
  · exact ⟨0, 2, fun w => ULength_arg w n hn h, fun w => RuLength_arg w n hn h⟩
  · obtain ⟨m, rfl⟩ : ∃ m : Nat, n = m := ⟨n.toNat, by omega⟩
    exact ⟨_, 0, fun w => ULength_ok w m (by omega), fun w => RuLength_ok w m (by omega)⟩

theorem uwrite_both (N : Int) (l : List Int) (n : Int) (hN : (Lit.int .i64 N).wf = true) (hn : (Lit.int .i64 n).wf = true) : ∃ m lj k e,
    (∀ w a len cap, Row .u8 w a len cap l → Res 11 #[.agg #[.slice a len cap, .int .i64 N], .int .i64 n] w m lj k e) ∧
    (∀ w a len cap, Row .u8 w a len cap l → Res 19 #[.agg #[.slice a len cap, .int .i64 N], .int .i64 n] w m lj k e) := by
  by_cases hv : Valid l N
  · by_cases h : n < 0 ∨ 48 < n
    · exact ⟨0, [], 0, 2, fun w a len cap hr => Res.none (UWrite_arg w a len cap N l n hr hN hv hn h), fun w a len cap hr => Res.none (RuWrite_arg w a len cap N l n hr hN hv hn h)⟩
    · obtain ⟨k, rfl⟩ : ∃ m : Nat, n = m := ⟨n.toNat, by omega⟩
      obtain ⟨B, rfl, hB, rfl⟩ := hv
      by_cases hf : 330000 < B.length + runLen k
      · exact ⟨0, [], 0, 18, fun w a len cap hr => Res.none (UWrite_full w a len cap B k hr hB hf (by omega)), fun w a len cap hr => Res.none (RuWrite_full w a len cap B k hr hB hf (by omega))⟩
      · exact ⟨_, pack (B ++ runB k), _, 0, fun w a len cap hr => UWrite_ok w a len cap B k hr (by omega) (by omega), fun w a len cap hr => RuWrite_ok w a len cap B k hr (by omega) (by omega)⟩
  · exact ⟨0, [], 0, 8, fun w a len cap hr => Res.none (UWrite_bad w a len cap N l n hr hN hv), fun w a len cap hr => Res.none (RuWrite_bad w a len cap N l n hr hN hv)⟩

/-- a call that hands back three numbers -/
def Res3 (f : FuncId) (args : Array Value) (W : World) (p q e : Int) : Prop :=
  Calls Try.prog f args W fun r W' => r = .returned (.tuple #[.int .i64 p, .int .i64 q, .int .i64 e]) ∧ Below W.heap.size W W'

theorem URead_bad (W : World) (a : Option Addr) (len cap : Nat) (N : Int) (l : List Int) (i : Int) (hr : Row .u8 W a len cap l) (hN : (Lit.int .i64 N).wf = true) (hi : (Lit.int .i64 i).wf = true) (hv : ¬ Valid l N) : Res3 12 #[.agg #[.slice a len cap, .int .i64 N], .int .i64 i] W 0 0 8 :=
  URead_no W a len cap N i 8 hi (.inl rfl) fun w hw => BGet_bad w a len cap N l i 1 (hr.below hw (Nat.le_refl _)) hN hv
theorem URead_out (W : World) (a : Option Addr) (len cap : Nat) (N : Int) (l : List Int) (i er : Int) (hr : Row .u8 W a len cap l) (hN : (Lit.int .i64 N).wf = true) (hi : (Lit.int .i64 i).wf = true) (hv : Valid l N) (h : (i < 0 ∧ er = 2) ∨ (¬ i < 0 ∧ N ≤ i ∧ er = 24)) : Res3 12 #[.agg #[.slice a len cap, .int .i64 N], .int .i64 i] W 0 0 er :=
  URead_no W a len cap N i er hi (by omega) fun w hw => by
    rcases h with ⟨h, rfl⟩ | ⟨h, h', rfl⟩
    · exact BGet_arg w a len cap N l i 1 (hr.below hw (Nat.le_refl _)) hN hv (by omega) h
    · exact BGet_short w a len cap N l i 1 (hr.below hw (Nat.le_refl _)) hN hv (by omega) h (by omega)

theorem uread_both (N : Int) (l : List Int) (i : Int) (hN : (Lit.int .i64 N).wf = true) (hi : (Lit.int .i64 i).wf = true) : ∃ p q e,
    (∀ w a len cap, Row .u8 w a len cap l → Res3 12 #[.agg #[.slice a len cap, .int .i64 N], .int .i64 i] w p q e) ∧
    (∀ w a len cap, Row .u8 w a len cap l → Res3 20 #[.agg #[.slice a len cap, .int .i64 N], .int .i64 i] w p q e) := by
  by_cases hv : Valid l N
  · by_cases h : i < 0 ∨ N ≤ i
    · obtain ⟨er, her⟩ : ∃ er : Int, (i < 0 ∧ er = 2) ∨ (¬ i < 0 ∧ N ≤ i ∧ er = 24) := by
        by_cases h0 : i < 0
        · exact ⟨2, .inl ⟨h0, rfl⟩⟩
        · exact ⟨24, .inr ⟨h0, by omega, rfl⟩⟩
      exact ⟨0, 0, er, fun w a len cap hr => URead_out w a len cap N l i er hr hN hi hv her, fun w a len cap hr => RuRead_out w a len cap N l i er hr hN hv her⟩
    · obtain ⟨k, rfl⟩ : ∃ m : Nat, i = m := ⟨i.toNat, by omega⟩
      obtain ⟨B, rfl, hB, rfl⟩ := hv
      obtain ⟨p, q, er, hv⟩ : ∃ p q er, readV B k = (p, q, er) := ⟨_, _, _, rfl⟩
      exact ⟨p, q, er, fun w a len cap hr => URead_in w a len cap B k hr hB (by omega) p q er hv, fun w a len cap hr => RuRead_in w a len cap B k hr hB (by omega) p q er hv⟩
  · exact ⟨0, 0, 8, fun w a len cap hr => URead_bad w a len cap N l i hr hN hi hv, fun w a len cap hr => RuRead_bad w a len cap N l i hr hN hv⟩

theorem URead_le (W : World) (a : Option Addr) (len cap : Nat) (B : List Bool) (i : Nat) (hr : Row .u8 W a len cap (pack B)) (hB : B.length ≤ 330000) (hi : i ≤ B.length) (p q er : Nat) (hv : readV B i = (p, q, er)) :
    Calls Try.prog 12 #[.agg #[.slice a len cap, .int .i64 B.length], .int .i64 i] W fun e W' => e = .returned (.tuple #[.int .i64 p, .int .i64 q, .int .i64 er]) ∧ Below W.heap.size W W' := by
  by_cases h : i < B.length
  · exact URead_in W a len cap B i hr hB h p q er hv
  · obtain rfl : i = B.length := by omega
    rw [read_end] at hv
    cases hv
    exact URead_out W a len cap B.length (pack B) B.length 24 hr (bounds_of_len (by omega)) (bounds_of_len (by omega)) ⟨B, rfl, hB, rfl⟩ (.inr ⟨by omega, by omega, rfl⟩)

/-- a run alone -/
theorem UWrite_alone (w : World) (n : Nat) (hn : n ≤ 48) (k m : Nat) (nI kI : Int) (hnI : (n : Int) = nI) (hkI : (k : Int) = kI) (hk : runLen n = k) (hm : (k + 7) / 8 = m) (l : List Int) (hl : pack (runB n) = l) :
    Calls Try.prog 11 #[.agg #[.slice none 0 0, .int .i64 0], .int .i64 nI] w fun e W' => ∃ b c, e = .returned (.tuple #[.agg #[.slice b m c, .int .i64 kI], .int .i64 0]) ∧ Row .u8 W' b m c l ∧ Below w.heap.size w W' := by
  subst hnI
  subst hkI
  have := UWrite_ok w none 0 0 [] n (by rw [show pack [] = [] by rfl]; exact Row.nil_row _ _) (by have := runLen_le hn; simp; omega) hn
  rw [List.nil_append, hl, hk] at this
  simp only [List.length_nil, Nat.zero_add] at this
  rw [hm] at this
  exact this

theorem alive6_ok (W : World) : Calls Try.prog 15 #[] W fun e W' => e = .returned (.bool true) ∧ Below W.heap.size W W' := by
  have t0 : strOfNums [0] = ⟨#[0]⟩ := rfl
  have t3 : strOfNums [7] = ⟨#[7]⟩ := rfl
  have t48 : strOfNums [255, 255, 255, 255, 255, 255] = ⟨#[255, 255, 255, 255, 255, 255]⟩ := rfl
  have t47 : strOfNums [255, 255, 255, 255, 255, 127] = ⟨#[255, 255, 255, 255, 255, 127]⟩ := rfl
  have c0 := Go.Lib.hid (fun w => UWrite_alone w 0 (by decide) 1 1 0 1 rfl rfl rfl rfl [0] rfl)
  have c3 := Go.Lib.hid (fun w => UWrite_alone w 3 (by decide) 4 1 3 4 rfl rfl rfl rfl [7] rfl)
  have c48 := Go.Lib.hid (fun w => UWrite_alone w 48 (by decide) 48 6 48 48 rfl rfl rfl rfl [255, 255, 255, 255, 255, 255] rfl)
  have c47 := Go.Lib.hid (fun w => UWrite_alone w 47 (by decide) 48 6 47 48 rfl rfl rfl rfl [255, 255, 255, 255, 255, 127] rfl)
  have hWE0 := Go.Lib.hid (Below.refl W.heap.size W)
  go_enter Try.func15, Try.ntmps15
  go_wp2_with (first
    | (go_at_call 11; ((with_reducible refine (c0.out _).mono ?_)); rintro e w1 ⟨b1, cp1, rfl, hr1, hb1⟩; have hWE1 := Go.Lib.hid hWE0.out; have hW1 := Go.Lib.hid (hWE1.out.trans (hb1.mono hWE1.out.size)); have R1_x0 := Go.Lib.hid hr1; clear hr1; clear hb1)
    | (go_at_call 11; ((with_reducible refine (c3.out _).mono ?_)); rintro e w2 ⟨b2, cp2, rfl, hr2, hb2⟩; have hWE2 := Go.Lib.hid (hW1.out.alloc hW1.out.size (.cells #[(.slice b1 1 cp1), .int .i64 1] 27)); have hW2 := Go.Lib.hid (hWE2.out.trans (hb2.mono hWE2.out.size)); have R2_x0 := Go.Lib.hid ((R1_x0.out.below (below1 w1 (.cells #[(.slice b1 1 cp1), .int .i64 1] 27)) (Nat.le_refl _)).below hb2 (Nat.le_refl _)); have R2_x3 := Go.Lib.hid hr2; clear hr2; have BE2_x0 := Go.Lib.hid (box1 w1 (.slice b1 1 cp1) 1); have B2_x0 := Go.Lib.hid (BE2_x0.out.below hb2 BE2_x0.out.lt); obtain ⟨k2x00, k2x01, k2x02, k2x03⟩ := B2_x0.out.cells; have l2x0 := B2_x0.out.lt; have n2x0 : w1.heap.size ≠ w2.heap.size := (by omega); clear hb2)
    | (go_at_call 11; ((with_reducible refine (c48.out _).mono ?_)); rintro e w3 ⟨b3, cp3, rfl, hr3, hb3⟩; have hWE3 := Go.Lib.hid (hW2.out.alloc hW2.out.size (.cells #[(.slice b2 1 cp2), .int .i64 4] 27)); have hW3 := Go.Lib.hid (hWE3.out.trans (hb3.mono hWE3.out.size)); have R3_x0 := Go.Lib.hid ((R2_x0.out.below (below1 w2 (.cells #[(.slice b2 1 cp2), .int .i64 4] 27)) (Nat.le_refl _)).below hb3 (Nat.le_refl _)); have R3_x3 := Go.Lib.hid ((R2_x3.out.below (below1 w2 (.cells #[(.slice b2 1 cp2), .int .i64 4] 27)) (Nat.le_refl _)).below hb3 (Nat.le_refl _)); have R3_x48 := Go.Lib.hid hr3; clear hr3; have BE3_x0 := Go.Lib.hid (B2_x0.out.alloc (.cells #[(.slice b2 1 cp2), .int .i64 4] 27)); have B3_x0 := Go.Lib.hid (BE3_x0.out.below hb3 BE3_x0.out.lt); obtain ⟨k3x00, k3x01, k3x02, k3x03⟩ := B3_x0.out.cells; have BE3_x3 := Go.Lib.hid (box1 w2 (.slice b2 1 cp2) 4); have B3_x3 := Go.Lib.hid (BE3_x3.out.below hb3 BE3_x3.out.lt); obtain ⟨k3x30, k3x31, k3x32, k3x33⟩ := B3_x3.out.cells; have l3x0 := B3_x0.out.lt; have n3x0 : w1.heap.size ≠ w3.heap.size := (by omega); have l3x3 := B3_x3.out.lt; have n3x3 : w2.heap.size ≠ w3.heap.size := (by omega); clear hb3)
    | (go_at_call 11; ((with_reducible refine (c47.out _).mono ?_)); rintro e w4 ⟨b4, cp4, rfl, hr4, hb4⟩; have hWE4 := Go.Lib.hid (hW3.out.alloc hW3.out.size (.cells #[(.slice b3 6 cp3), .int .i64 48] 27)); have hW4 := Go.Lib.hid (hWE4.out.trans (hb4.mono hWE4.out.size)); have R4_x0 := Go.Lib.hid ((R3_x0.out.below (below1 w3 (.cells #[(.slice b3 6 cp3), .int .i64 48] 27)) (Nat.le_refl _)).below hb4 (Nat.le_refl _)); have R4_x3 := Go.Lib.hid ((R3_x3.out.below (below1 w3 (.cells #[(.slice b3 6 cp3), .int .i64 48] 27)) (Nat.le_refl _)).below hb4 (Nat.le_refl _)); have R4_x48 := Go.Lib.hid ((R3_x48.out.below (below1 w3 (.cells #[(.slice b3 6 cp3), .int .i64 48] 27)) (Nat.le_refl _)).below hb4 (Nat.le_refl _)); have R4_x47 := Go.Lib.hid hr4; clear hr4; have BE4_x0 := Go.Lib.hid (B3_x0.out.alloc (.cells #[(.slice b3 6 cp3), .int .i64 48] 27)); have B4_x0 := Go.Lib.hid (BE4_x0.out.below hb4 BE4_x0.out.lt); obtain ⟨k4x00, k4x01, k4x02, k4x03⟩ := B4_x0.out.cells; have BE4_x3 := Go.Lib.hid (B3_x3.out.alloc (.cells #[(.slice b3 6 cp3), .int .i64 48] 27)); have B4_x3 := Go.Lib.hid (BE4_x3.out.below hb4 BE4_x3.out.lt); obtain ⟨k4x30, k4x31, k4x32, k4x33⟩ := B4_x3.out.cells; have BE4_x48 := Go.Lib.hid (box1 w3 (.slice b3 6 cp3) 48); have B4_x48 := Go.Lib.hid (BE4_x48.out.below hb4 BE4_x48.out.lt); obtain ⟨k4x480, k4x481, k4x482, k4x483⟩ := B4_x48.out.cells; have l4x0 := B4_x0.out.lt; have n4x0 : w1.heap.size ≠ w4.heap.size := (by omega); have l4x3 := B4_x3.out.lt; have n4x3 : w2.heap.size ≠ w4.heap.size := (by omega); have l4x48 := B4_x48.out.lt; have n4x48 : w3.heap.size ≠ w4.heap.size := (by omega); have sx0 := (R4_x0.out.below (below1 w4 (.cells #[.slice b4 6 cp4, .int .i64 48] 27)) (Nat.le_refl _)).str (P := Try.prog) Try.underlying25 Try.underlying5 Try.underlying9; have sx3 := (R4_x3.out.below (below1 w4 (.cells #[.slice b4 6 cp4, .int .i64 48] 27)) (Nat.le_refl _)).str (P := Try.prog) Try.underlying25 Try.underlying5 Try.underlying9; have sx48 := (R4_x48.out.below (below1 w4 (.cells #[.slice b4 6 cp4, .int .i64 48] 27)) (Nat.le_refl _)).str (P := Try.prog) Try.underlying25 Try.underlying5 Try.underlying9; have sx47 := (R4_x47.out.below (below1 w4 (.cells #[.slice b4 6 cp4, .int .i64 48] 27)) (Nat.le_refl _)).str (P := Try.prog) Try.underlying25 Try.underlying5 Try.underlying9; rw [t0] at sx0; rw [t3] at sx3; rw [t48] at sx48; rw [t47] at sx47; clear hb4))
  go_ret
  exact ⟨rfl, hW4.out.alloc hW4.out.size _⟩
end Go.Proofs.Ytbegifpnbbpinaa
