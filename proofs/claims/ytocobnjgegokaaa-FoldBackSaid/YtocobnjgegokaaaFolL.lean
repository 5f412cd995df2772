/- What the statements of fold share: the chapter's examples; sizes. And the walks over numbers. -/
import Derived.Test.YtocobnjgegokaaaFolC
namespace Go.Proofs.Ytocobnjgegokaaa
open Go.RowKit Cad

def fxA : List Int := [0, -1, 1, -2, 2, 2147483647, -2147483648]
def fxB : List Int := [0, 1, 2, 3, 4, 4294967294, 4294967295]
theorem fx_all : allS fxA = (fxB, 0) := by decide

theorem alive5_ok (W : World) : Calls Try.prog 12 #[] W fun e W' => e = .returned (.bool true) ∧ Below W.heap.size W W' := by
  have s1 : Hid (∀ w : World, Calls Try.prog 9 #[.slice (some ⟨w.heap.size, 0, none⟩) 7 7] (w.alloc (.cells #[.int .i32 0, .int .i32 (-1), .int .i32 1, .int .i32 (-2), .int .i32 2, .int .i32 2147483647, .int .i32 (-2147483648)] 21)) fun e W' => ∃ a' n' c', e = .returned (.tuple #[.slice a' n' c', .int .i64 0]) ∧ Row .u32 W' a' n' c' fxB ∧ Below w.heap.size w W') := Go.Lib.hid fun w => by
    have := FAll_any _ _ 7 7 fxA (lit_rowK .i32 21 w fxA 7 (0, 0) rfl (by decide) (by decide))
    rw [fx_all] at this
    refine this.mono ?_
    rintro e w' ⟨a', n', c', h1, h2, h3⟩
    exact ⟨a', n', c', h1, h2, (below1 w _).trans (h3.mono (by simp))⟩
  have s2 : Hid (∀ (w : World) a n c, Row .u32 w a n c fxB → Calls Try.prog 19 #[.slice a n c, .slice (some ⟨w.heap.size, 0, none⟩) 7 7] (w.alloc (.cells #[.int .u32 0, .int .u32 1, .int .u32 2, .int .u32 3, .int .u32 4, .int .u32 4294967294, .int .u32 4294967295] 29)) fun e W' => e = .returned (.bool true) ∧ Below w.heap.size w W') := Go.Lib.hid fun w a n c hr => by
    have := FSame_ok _ a n c fxB (hr.below (below1 w _) (Nat.le_refl _)) _ 7 7 fxB (lit_rowK .u32 29 w fxB 7 (0, 0) rfl (by decide) (by decide))
    refine this.mono ?_
    rintro e w' ⟨h1, h2⟩
    exact ⟨by rw [h1]; rfl, (below1 w _).trans (h2.mono (by simp))⟩
  go_enter Try.func12, Try.ntmps12
  go_wp2_with (first
    | (go_at_call 9; ((with_reducible refine (s1.out _).mono ?_)); rintro e w1 ⟨o1, m1, c1, rfl, hr1, hb1⟩; have g1 := Go.Lib.hid hb1; have R1 := Go.Lib.hid hr1; clear hb1 hr1)
    | (go_at_call 19; ((with_reducible refine (s2.out _ _ _ _ R1.out).mono ?_)); rintro e w2 ⟨rfl, hb2⟩; have g2 := Go.Lib.hid (g1.out.trans (hb2.mono g1.out.size)); clear hb2))
  go_ret
  exact ⟨rfl, g2.out⟩

theorem foldNumbers_walk (a0 a1 : Int) (w0 : (Lit.int .i32 a0).wf = true) (w1 : (Lit.int .u32 a1).wf = true) (W : World) :
    Calls Try.prog 4 #[.int .i32 a0, .int .u32 a1] W fun e w' => e = .returned (.bool true) ∧ Below W.heap.size W w' := by
  have b0 := i32_bd w0
  have b1 := u32_bd w1
  clear w0 w1
  go_enter Try.func4, Try.ntmps4
  go_wp2_with (first | (go_at_call 13; refine (FFold_ok _ _ b0).mono ?_; rintro e w1 ⟨rfl, rfl⟩) | (go_at_call 14; refine (FRFold_ok _ _ b0).mono ?_; rintro e w1 ⟨rfl, rfl⟩) | (go_at_call 15; refine (FBack_ok _ _ b1).mono ?_; rintro e w1 ⟨rfl, rfl⟩) | (go_at_call 16; refine (FRBack_ok _ _ b1).mono ?_; rintro e w1 ⟨rfl, rfl⟩))
  go_ret
  exact ⟨rfl, Below.refl _ _⟩

def sizeI (x : Int) : Int := if x < 0 then -x else x
theorem LSize_ok (x : Int) (W : World) (h : -2147483648 ≤ x ∧ x ≤ 2147483647) :
    Calls Try.prog 20 #[.int .i32 x] W fun e W' => e = .returned (.int .i64 (sizeI x)) ∧ W = W' := by
  by_cases hx : x < 0
  · have e := Go.Lib.hid (show sizeI x = -x by unfold sizeI; rw [if_pos hx])
    go_enter Try.func20, Try.ntmps20
    go_wp2
    go_ret
    exact ⟨ret_int e.out.symm, rfl⟩
  · have e := Go.Lib.hid (show sizeI x = x by unfold sizeI; rw [if_neg hx])
    go_enter Try.func20, Try.ntmps20
    go_wp2
    go_ret
    exact ⟨ret_int e.out.symm, rfl⟩

/-- what zig says of two numbers -/
theorem order_facts (x y : Int) (a b s t : Int) (ha : a = zig x) (hb : b = zig y) (hs : s = sizeI x) (ht : t = sizeI y) :
    (a = b ↔ x = y) ∧ (s < t → a < b) ∧ (s = t → x < y → a + 1 = b) := by
  subst ha hb hs ht
  unfold zig sizeI
  refine ⟨⟨fun h => ?_, fun h => by rw [h]⟩, fun h => ?_, fun h h' => ?_⟩ <;> (split at h <;> split at h) <;> (try split) <;> (try split) <;> omega

theorem bne_facts {a b x y : Int} (f : a = b ↔ x = y) : ((a == b) == (x == y)) = true := by
  have : (a == b) = (x == y) := by rw [Bool.eq_iff_iff]; simpa using f
  rw [this]; simp

section
variable {W : World} {a0 a1 a b s t : Int} (g0 : ((a == b) == (a0 == a1)) = true)
  (c0 : Hid (∀ w, Calls Try.prog 13 #[.int .i32 a0] w fun e W' => e = .returned (.int .u32 a) ∧ w = W'))
  (c1 : Hid (∀ w, Calls Try.prog 13 #[.int .i32 a1] w fun e W' => e = .returned (.int .u32 b) ∧ w = W'))
  (d0 : Hid (∀ w, Calls Try.prog 20 #[.int .i32 a0] w fun e W' => e = .returned (.int .i64 s) ∧ w = W'))
  (d1 : Hid (∀ w, Calls Try.prog 20 #[.int .i32 a1] w fun e W' => e = .returned (.int .i64 t) ∧ w = W'))
  (hal : Hid (∀ W : World, Calls Try.prog 12 #[] W fun e W' => e = .returned (.bool true) ∧ Below W.heap.size W W'))
include g0 c0 c1 d0 d1 hal
theorem fo1 (h1 : s < t) (h2 : a < b) :
    Calls Try.prog 7 #[.int .i32 a0, .int .i32 a1] W fun e w' => e = .returned (.bool true) ∧ Below W.heap.size W w' := by
  go_enter Try.func7, Try.ntmps7
  go_wp2_with (first | (go_at_call 13; with_reducible refine (c0.out _).mono ?_; rintro e w1 ⟨rfl, rfl⟩) | (go_at_call 13; with_reducible refine (c1.out _).mono ?_; rintro e w1 ⟨rfl, rfl⟩) | (go_at_call 20; with_reducible refine (d0.out _).mono ?_; rintro e w1 ⟨rfl, rfl⟩) | (go_at_call 20; with_reducible refine (d1.out _).mono ?_; rintro e w1 ⟨rfl, rfl⟩) | (go_at_call 12; with_reducible refine (hal.out _).mono ?_; rintro e w1 ⟨rfl, hb1⟩))
  go_ret
  exact ⟨rfl, hb1⟩
theorem fo2 (z0 : 0 ≤ a ∧ a ≤ 4294967295) (h1 : ¬ s < t) (h2 : (s == t) = true) (h3 : a0 < a1) (h4 : a + 1 = b) (h5 : a + 1 ≤ 4294967295) :
    Calls Try.prog 7 #[.int .i32 a0, .int .i32 a1] W fun e w' => e = .returned (.bool true) ∧ Below W.heap.size W w' := by
  go_enter Try.func7, Try.ntmps7
  go_wp2_with (first | (go_at_call 13; with_reducible refine (c0.out _).mono ?_; rintro e w1 ⟨rfl, rfl⟩) | (go_at_call 13; with_reducible refine (c1.out _).mono ?_; rintro e w1 ⟨rfl, rfl⟩) | (go_at_call 20; with_reducible refine (d0.out _).mono ?_; rintro e w1 ⟨rfl, rfl⟩) | (go_at_call 20; with_reducible refine (d1.out _).mono ?_; rintro e w1 ⟨rfl, rfl⟩) | (go_at_call 12; with_reducible refine (hal.out _).mono ?_; rintro e w1 ⟨rfl, hb1⟩))
  go_ret
  exact ⟨rfl, hb1⟩
theorem fo3 (h1 : ¬ s < t) (h2 : (s == t) = true) (h3 : ¬ a0 < a1) :
    Calls Try.prog 7 #[.int .i32 a0, .int .i32 a1] W fun e w' => e = .returned (.bool true) ∧ Below W.heap.size W w' := by
  go_enter Try.func7, Try.ntmps7
  go_wp2_with (first | (go_at_call 13; with_reducible refine (c0.out _).mono ?_; rintro e w1 ⟨rfl, rfl⟩) | (go_at_call 13; with_reducible refine (c1.out _).mono ?_; rintro e w1 ⟨rfl, rfl⟩) | (go_at_call 20; with_reducible refine (d0.out _).mono ?_; rintro e w1 ⟨rfl, rfl⟩) | (go_at_call 20; with_reducible refine (d1.out _).mono ?_; rintro e w1 ⟨rfl, rfl⟩) | (go_at_call 12; with_reducible refine (hal.out _).mono ?_; rintro e w1 ⟨rfl, hb1⟩))
  go_ret
  exact ⟨rfl, hb1⟩
theorem fo4 (h1 : ¬ s < t) (h2 : (s == t) = false) :
    Calls Try.prog 7 #[.int .i32 a0, .int .i32 a1] W fun e w' => e = .returned (.bool true) ∧ Below W.heap.size W w' := by
  go_enter Try.func7, Try.ntmps7
  go_wp2_with (first | (go_at_call 13; with_reducible refine (c0.out _).mono ?_; rintro e w1 ⟨rfl, rfl⟩) | (go_at_call 13; with_reducible refine (c1.out _).mono ?_; rintro e w1 ⟨rfl, rfl⟩) | (go_at_call 20; with_reducible refine (d0.out _).mono ?_; rintro e w1 ⟨rfl, rfl⟩) | (go_at_call 20; with_reducible refine (d1.out _).mono ?_; rintro e w1 ⟨rfl, rfl⟩) | (go_at_call 12; with_reducible refine (hal.out _).mono ?_; rintro e w1 ⟨rfl, hb1⟩))
  go_ret
  exact ⟨rfl, hb1⟩
end

theorem foldOrder_walk (a0 a1 : Int) (w0 : (Lit.int .i32 a0).wf = true) (w1 : (Lit.int .i32 a1).wf = true) (W : World) :
    Calls Try.prog 7 #[.int .i32 a0, .int .i32 a1] W fun e w' => e = .returned (.bool true) ∧ Below W.heap.size W w' := by
  have b0 := i32_bd w0
  have b1 := i32_bd w1
  have z0 := zig_bd b0
  have z1 := zig_bd b1
  obtain ⟨f1, f2, f3⟩ := order_facts a0 a1 _ _ _ _ rfl rfl rfl rfl
  have c0 := Go.Lib.hid fun w => FFold_ok a0 w b0
  have c1 := Go.Lib.hid fun w => FFold_ok a1 w b1
  have d0 := Go.Lib.hid fun w => LSize_ok a0 w b0
  have d1 := Go.Lib.hid fun w => LSize_ok a1 w b1
  by_cases h1 : sizeI a0 < sizeI a1
  · exact fo1 (bne_facts f1) c0 c1 d0 d1 (Go.Lib.hid alive5_ok) h1 (f2 h1)
  · by_cases h2 : sizeI a0 = sizeI a1
    · by_cases h3 : a0 < a1
      · have h4 := f3 h2 h3
        exact fo2 (bne_facts f1) c0 c1 d0 d1 (Go.Lib.hid alive5_ok) z0 h1 (by simp [h2]) h3 h4 (by omega)
      · exact fo3 (bne_facts f1) c0 c1 d0 d1 (Go.Lib.hid alive5_ok) h1 (by simp [h2]) h3
    · exact fo4 (bne_facts f1) c0 c1 d0 d1 (Go.Lib.hid alive5_ok) h1 (by simp [h2])

theorem pow31 {j : Nat} (hj : j ≤ 31) : (1 : Int) ≤ 2 ^ j ∧ (2 : Int) ^ j ≤ 2147483648 := by
  have h1 : 1 ≤ 2 ^ j := Nat.one_le_two_pow
  have h2 : 2 ^ j ≤ 2147483648 := Nat.pow_le_pow_right (n := 2) (by decide) hj
  have e : (2 : Int) ^ j = ((2 ^ j : Nat) : Int) := by rw [Int.natCast_pow]; rfl
  rw [e]; omega

theorem range_facts (x p : Int) (hp : 1 ≤ p) : ((decide (-p ≤ x) && decide (x < p)) = decide (zig x < 2 * p)) ∧ ((zig x % 2 == 1) = decide (x < 0)) := by
  constructor
  · rw [Bool.eq_iff_iff]; simp only [Bool.and_eq_true, decide_eq_true_eq]; unfold zig; split <;> omega
  · rw [Bool.eq_iff_iff]; simp only [beq_iff_eq, decide_eq_true_eq]; unfold zig; split <;> omega

section
variable {W : World} {x p z : Int} {j : Nat} (b0 : -2147483648 ≤ x ∧ x ≤ 2147483647) (hj : j ≤ 31) (hp1 : 1 ≤ p ∧ p ≤ 2147483648) (e1 : (2 : Int) ^ j = p) (e2 : (2 : Int) ^ (j + 1) = 2 * p)
  (z0 : 0 ≤ z ∧ z ≤ 4294967295)
  (c0 : Hid (∀ w, Calls Try.prog 13 #[.int .i32 x] w fun e W' => e = .returned (.int .u32 z) ∧ w = W'))
  (hal : Hid (∀ W : World, Calls Try.prog 12 #[] W fun e W' => e = .returned (.bool true) ∧ Below W.heap.size W W'))
include b0 hj hp1 e1 e2 z0 c0 hal
theorem fr1 (h1 : -p ≤ x) (h2 : x < p) (h3 : z < 2 * p) (h4 : x < 0) (h5 : z % 2 = 1) :
    Calls Try.prog 8 #[.int .i32 x, .int .i64 ((j : Int) + 1)] W fun e w' => e = .returned (.bool true) ∧ Below W.heap.size W w' := by
  go_enter Try.func8, Try.ntmps8
  go_wp2_with (first | (go_at_call 13; with_reducible refine (c0.out _).mono ?_; rintro e w1 ⟨rfl, rfl⟩) | (go_at_call 12; with_reducible refine (hal.out _).mono ?_; rintro e w1 ⟨rfl, hb1⟩))
  go_ret
  exact ⟨rfl, hb1⟩
theorem fr2 (h1 : -p ≤ x) (h2 : x < p) (h3 : z < 2 * p) (h4 : ¬ x < 0) (h5 : z % 2 = 0) :
    Calls Try.prog 8 #[.int .i32 x, .int .i64 ((j : Int) + 1)] W fun e w' => e = .returned (.bool true) ∧ Below W.heap.size W w' := by
  have k4 := decide_eq_false h4
  go_enter Try.func8, Try.ntmps8
  go_wp2_with (first | (go_at_call 13; with_reducible refine (c0.out _).mono ?_; rintro e w1 ⟨rfl, rfl⟩) | (go_at_call 12; with_reducible refine (hal.out _).mono ?_; rintro e w1 ⟨rfl, hb1⟩))
  go_ret
  exact ⟨rfl, hb1⟩
theorem fr3 (h1 : -p ≤ x) (h2 : ¬ x < p) (h3 : ¬ z < 2 * p) (h4 : ¬ x < 0) (h5 : z % 2 = 0) :
    Calls Try.prog 8 #[.int .i32 x, .int .i64 ((j : Int) + 1)] W fun e w' => e = .returned (.bool true) ∧ Below W.heap.size W w' := by
  have k3 := decide_eq_false h3
  have k4 := decide_eq_false h4
  go_enter Try.func8, Try.ntmps8
  go_wp2_with (first | (go_at_call 13; with_reducible refine (c0.out _).mono ?_; rintro e w1 ⟨rfl, rfl⟩) | (go_at_call 12; with_reducible refine (hal.out _).mono ?_; rintro e w1 ⟨rfl, hb1⟩))
  go_ret
  exact ⟨rfl, hb1⟩
theorem fr4 (h1 : ¬ -p ≤ x) (h3 : ¬ z < 2 * p) (h4 : x < 0) (h5 : z % 2 = 1) :
    Calls Try.prog 8 #[.int .i32 x, .int .i64 ((j : Int) + 1)] W fun e w' => e = .returned (.bool true) ∧ Below W.heap.size W w' := by
  have k3 := decide_eq_false h3
  go_enter Try.func8, Try.ntmps8
  go_wp2_with (first | (go_at_call 13; with_reducible refine (c0.out _).mono ?_; rintro e w1 ⟨rfl, rfl⟩) | (go_at_call 12; with_reducible refine (hal.out _).mono ?_; rintro e w1 ⟨rfl, hb1⟩))
  go_ret
  exact ⟨rfl, hb1⟩
end

theorem foldRange_walk (a0 a1 : Int) (w0 : (Lit.int .i32 a0).wf = true) (_w1 : (Lit.int .i64 a1).wf = true) (W : World) :
    Calls Try.prog 8 #[.int .i32 a0, .int .i64 a1] W fun e w' => e = .returned (.bool true) ∧ Below W.heap.size W w' := by
  have b0 := i32_bd w0
  clear w0
  have hal := Go.Lib.hid alive5_ok
  by_cases h1 : a1 < 1
  · go_enter Try.func8, Try.ntmps8
    go_wp2_with (go_at_call 12; refine (hal.out _).mono ?_; rintro e w1 ⟨rfl, hb1⟩)
    go_ret
    exact ⟨rfl, hb1⟩
  · by_cases h2 : 32 < a1
    · go_enter Try.func8, Try.ntmps8
      go_wp2_with (go_at_call 12; refine (hal.out _).mono ?_; rintro e w1 ⟨rfl, hb1⟩)
      go_ret
      exact ⟨rfl, hb1⟩
    · obtain ⟨j, rfl⟩ : ∃ j : Nat, a1 = (j : Int) + 1 := ⟨(a1 - 1).toNat, by omega⟩
      have hj : j ≤ 31 := by omega
      obtain ⟨p, hp⟩ : ∃ p : Int, p = 2 ^ j := ⟨_, rfl⟩
      have hp1 : 1 ≤ p ∧ p ≤ 2147483648 := by rw [hp]; exact pow31 hj
      have e1 : (2 : Int) ^ j = p := hp.symm
      have e2 : (2 : Int) ^ (j + 1) = 2 * p := by rw [hp, Int.pow_succ, Int.mul_comm]
      have c0 := Go.Lib.hid fun w => FFold_ok a0 w b0
      have z0 := zig_bd b0
      by_cases n1 : a0 < 0
      · have hz : zig a0 = -2 * a0 - 1 := by unfold zig; rw [if_neg (by omega)]
        by_cases n2 : -p ≤ a0
        · exact fr1 b0 hj hp1 e1 e2 z0 c0 (Go.Lib.hid alive5_ok) n2 (by omega) (by omega) n1 (by omega)
        · exact fr4 b0 hj hp1 e1 e2 z0 c0 (Go.Lib.hid alive5_ok) n2 (by omega) n1 (by omega)
      · have hz : zig a0 = 2 * a0 := by unfold zig; rw [if_pos (by omega)]
        by_cases n2 : a0 < p
        · exact fr2 b0 hj hp1 e1 e2 z0 c0 (Go.Lib.hid alive5_ok) (by omega) n2 (by omega) n1 (by omega)
        · exact fr3 b0 hj hp1 e1 e2 z0 c0 (Go.Lib.hid alive5_ok) (by omega) n2 (by omega) n1 (by omega)
end Go.Proofs.Ytocobnjgegokaaa
