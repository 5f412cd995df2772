/- Texts of the proof, one behind the other: BitNum, RicR, RicS, RicT, RicL, DuaP, DuaK, DuaA, DuaB. -/
import Derived.Test.YthbjcjphplgobaaZ5
import Derived.Laws.StructEq
/- Contracts of the reference's functions on numbers as bits: seats that reach fits, Value, Number. -/
namespace Go.Proofs.Ythbjcjphplgobaa
open Go.RowKit Cad

end Go.Proofs.Ythbjcjphplgobaa

/- Contracts of the reference of rice: its numbers, Length, Add. -/
namespace Go.Proofs.Ythbjcjphplgobaa
open Go.RowKit Cad

theorem RrParameter_ok (W : World) (k : Nat) (h : k ≤ 24) :
    Calls Try.prog 47 #[.int .i64 k] W fun e W' => e = .returned (.bool true) ∧ W = W' := by
  have h1 : (k : Int) ≤ 24 := by omega
  have h2 : (0 : Int) ≤ k := by omega
  go_enter Try.func47, Try.ntmps47
  go_wp2
  go_ret
  exact ⟨rfl, rfl⟩
theorem RrParameter_no (W : World) (k : Int) (hk : (Lit.int .i64 k).wf = true) (h : k < 0 ∨ 24 < k) :
    Calls Try.prog 47 #[.int .i64 k] W fun e W' => e = .returned (.bool false) ∧ W = W' := by
  have bn := bounds_i64 hk
  have key : k < 0 ∨ (0 ≤ k ∧ ¬ k ≤ 24) := by omega
  rcases key with h | ⟨h, h'⟩
  all_goals
    go_enter Try.func47, Try.ntmps47
    go_wp2
    go_ret
    exact ⟨rfl, rfl⟩

theorem RrPower_ok (W : World) (k : Nat) (hk : k ≤ 24) :
    Calls Try.prog 91 #[.int .i64 k] W fun e W' => e = .returned (.int .u64 (2 ^ k : Nat)) ∧ W = W' := by
  go_enter Try.func91, Try.ntmps91
  go_wp2
  go_loopw [3, 4] (fun n i wr => ∃ j : Nat, j ≤ k ∧ i = .int .i64 j ∧ n = .int .u64 (2 ^ j : Nat) ∧ wr = W) (fun _ i _ => k - (intOf i).toNat)
  case atStart => exact ⟨0, by omega, rfl, rfl, rfl⟩
  case round =>
    obtain ⟨j, hj, rfl, rfl, rfl⟩ := hrel
    obtain ⟨x, hx⟩ : ∃ x, x = 2 ^ j := ⟨_, rfl⟩
    by_cases hlt : j < k
    · have hb := (pow24 (show j ≤ 24 by omega)).2
      have hs : 2 ^ (j + 1) = x * 2 := by rw [hx, Nat.pow_succ]
      rw [← hx] at hb ⊢
      clear hx
      go_wp2
      go_roundw
      case rel => exact ⟨j + 1, by omega, by go_num, by rw [hs]; go_num, trivial⟩
      case measure => (simp [intOf] <;> omega)
    · obtain rfl : j = k := by omega
      have hx' := Go.Lib.hid hx
      rw [← hx]
      clear hx
      go_wp2
      go_ret
      exact ⟨by rw [← hx'.out]; rfl, rfl⟩

theorem RrPart_ok (W : World) (v k : Nat) (hv : v < 4294967296) (hk : k ≤ 24) :
    Calls Try.prog 101 #[.int .u32 v, .int .i64 k] W fun e W' => e = .returned (.int .i64 (partN v k : Nat)) ∧ W = W' := by
  have hpw := Go.Lib.hid fun w => RrPower_ok w k hk
  have hb := pow24 hk
  have hpx : partN v k = min 48 (v / 2 ^ k) := rfl
  obtain ⟨p, hp⟩ : ∃ p, p = 2 ^ k := ⟨_, rfl⟩
  rw [← hp] at hpw hb hpx
  obtain ⟨x, hx⟩ : ∃ x, x = v / p := ⟨_, rfl⟩
  have hxb : x < 4294967296 := by rw [hx]; exact Nat.lt_of_le_of_lt (Nat.div_le_self _ _) hv
  have e1 : (v : Int) / (p : Int) = (x : Int) := by rw [hx]; simp
  have e2 : (v : Int).tdiv (p : Int) = (x : Int) := by rw [hx]; simp
  rw [← hx] at hpx
  obtain ⟨m, hm⟩ : ∃ m, m = min 48 x := ⟨_, rfl⟩
  rw [hpx, ← hm]
  have m1 : (if (x : Int) < (48 : Int) then (x : Int) else (48 : Int)) = (m : Int) := by split <;> omega
  have m2 : (if x < 48 then (x : Int) else (48 : Int)) = (m : Int) := by split <;> omega
  have hmb : m ≤ 48 := by omega
  have hp0 : ¬ (p : Int) = 0 := by omega
  have hp1 : ((p : Int) == 0) = false := by simpa using hp0
  clear hpx hm hx hp
  go_enter Try.func101, Try.ntmps101
  go_wp2_with (go_at_call 91; refine (hpw.out _).mono ?_; rintro e w1 ⟨rfl, rfl⟩)
  go_ret
  exact ⟨by go_num, rfl⟩

theorem RrLong_ok (W : World) (v k : Nat) (hv : v < 4294967296) (hk : k ≤ 24) :
    Calls Try.prog 93 #[.int .u32 v, .int .i64 k] W fun e W' => e = .returned (.int .i64 (riceLen v k : Nat)) ∧ W = W' := by
  have hpa := Go.Lib.hid fun w => RrPart_ok w v k hv hk
  by_cases h : partN v k = 48
  · rw [riceLen_full h]
    rw [h] at hpa
    clear h
    go_enter Try.func93, Try.ntmps93
    go_wp2_with (go_at_call 101; refine (hpa.out _).mono ?_; rintro e w1 ⟨rfl, rfl⟩)
    go_ret
    exact ⟨rfl, rfl⟩
  · have h1 := partN_le v k
    rw [riceLen_less (by omega)]
    obtain ⟨q, hq⟩ : ∃ q, q = partN v k := ⟨_, rfl⟩
    rw [← hq] at h h1 hpa ⊢
    have h2 : ¬ (q : Int) = 48 := by omega
    clear hq h
    go_enter Try.func93, Try.ntmps93
    go_wp2_with (go_at_call 101; refine (hpa.out _).mono ?_; rintro e w1 ⟨rfl, rfl⟩)
    go_ret
    exact ⟨by go_num, rfl⟩
end Go.Proofs.Ythbjcjphplgobaa

/- Contracts of the reference of rice: Add, Write. -/
namespace Go.Proofs.Ythbjcjphplgobaa
open Go.RowKit Cad

theorem own_drew {w : World} {base e s n : Nat} {v : Value} {xs : List Value} (h : w.ownsRow base e s v n xs) : w.drew.ownsRow base e s v n xs := h

end Go.Proofs.Ythbjcjphplgobaa

/- Contracts of the reference of rice: Write, Got, Read. -/
namespace Go.Proofs.Ythbjcjphplgobaa
open Go.RowKit Cad

end Go.Proofs.Ythbjcjphplgobaa

/- What the statements of rice share: the chapter's examples; both sides say the same. -/
namespace Go.Proofs.Ythbjcjphplgobaa
open Go.RowKit Cad

theorem nat_u32 {v : Int} (h : (Lit.int .u32 v).wf = true) : ∃ n : Nat, v = n ∧ n < 4294967296 := by
  have := bounds_u32 h
  exact ⟨v.toNat, by omega, by omega⟩

/-- a call that hands back a number of 32 bits, and two numbers -/
def Res3u (f : FuncId) (args : Array Value) (W : World) (p q e : Int) : Prop :=
  Calls Try.prog f args W fun r W' => r = .returned (.tuple #[.int .u32 p, .int .i64 q, .int .i64 e]) ∧ Below W.heap.size W W'

/-- a code alone -/
theorem PWrite_alone (w : World) (v k : Nat) (hv : v < 4294967296) (hk : k ≤ 24) (t m : Nat) (vI kI tI : Int) (hvI : (v : Int) = vI) (hkI : (k : Int) = kI) (htI : (t : Int) = tI) (ht : riceLen v k = t) (hm : (t + 7) / 8 = m) (l : List Int) (hl : pack (riceB v k) = l) :
    Calls Try.prog 63 #[.agg #[.slice none 0 0, .int .i64 0], .int .u32 vI, .int .i64 kI] w fun e W' => ∃ b c, e = .returned (.tuple #[.agg #[.slice b m c, .int .i64 tI], .int .i64 0]) ∧ Row .u8 W' b m c l ∧ Below w.heap.size w W' := by
  subst hvI
  subst hkI
  subst htI
  have := PWrite_ok w none 0 0 [] v k (by rw [show pack [] = [] by rfl]; exact Row.nil_row _ _) (by have := riceLen_le v hk; simp; omega) hv hk
  rw [List.nil_append, hl, ht] at this
  simp only [List.length_nil, Nat.zero_add] at this
  rw [hm] at this
  exact this

end Go.Proofs.Ythbjcjphplgobaa

/- The adaptive code with two levels, as lists of Bools: no Go function in sight. -/
namespace Cad
open Go.Proofs.Ythbjcjphplgobaa

/-- a state -/
structure Du where
  k0 : Nat
  k1 : Nat
  s0 : Nat
  s1 : Nat
def Du.ok (d : Du) : Prop := d.k0 ≤ 24 ∧ d.k1 ≤ 24 ∧ d.s0 ≤ 68719476735 ∧ d.s1 ≤ 68719476735
def sumN (s n : Nat) : Nat := s - s / 16 + n
def pairK (k s : Nat) : Nat := if 0 < k ∧ s < 2 ^ (k + 4) then k - 1 else if k < 24 ∧ 2 ^ (k + 5) < s then k + 1 else k
def learnD (d : Du) (v : Nat) : Du :=
  if v < 2 ^ d.k0 then ⟨pairK d.k0 (sumN d.s0 v), d.k1, sumN d.s0 v, d.s1⟩
  else ⟨pairK d.k0 (sumN d.s0 v), pairK d.k1 (sumN d.s1 (v - 2 ^ d.k0)), sumN d.s0 v, sumN d.s1 (v - 2 ^ d.k0)⟩
theorem sumN_le {s n : Nat} (hs : s ≤ 68719476735) (hn : n < 4294967296) : sumN s n ≤ 68719476735 := by unfold sumN; omega
theorem pairK_le {k s : Nat} (hk : k ≤ 24) : pairK k s ≤ 24 := by unfold pairK; split; (· omega); split <;> omega
theorem learnD_low {d : Du} {v : Nat} (h : v < 2 ^ d.k0) : learnD d v = ⟨pairK d.k0 (sumN d.s0 v), d.k1, sumN d.s0 v, d.s1⟩ := if_pos h
theorem learnD_high {d : Du} {v : Nat} (h : ¬ v < 2 ^ d.k0) : learnD d v = ⟨pairK d.k0 (sumN d.s0 v), pairK d.k1 (sumN d.s1 (v - 2 ^ d.k0)), sumN d.s0 v, sumN d.s1 (v - 2 ^ d.k0)⟩ := if_neg h
theorem learnD_ok {d : Du} {v : Nat} (h : d.ok) (hv : v < 4294967296) : (learnD d v).ok := by
  obtain ⟨h1, h2, h3, h4⟩ := h
  by_cases hl : v < 2 ^ d.k0
  · rw [learnD_low hl]; exact ⟨pairK_le h1, h2, sumN_le h3 hv, h4⟩
  · rw [learnD_high hl]; exact ⟨pairK_le h1, pairK_le h2, sumN_le h3 hv, sumN_le h4 (Nat.lt_of_le_of_lt (Nat.sub_le _ _) hv)⟩

def dualLen (d : Du) (v : Nat) : Nat := if v < 2 ^ d.k0 then 1 + d.k0 else 1 + riceLen (v - 2 ^ d.k0) d.k1
def dualB (d : Du) (v : Nat) : List Bool := if v < 2 ^ d.k0 then false :: numB v d.k0 else true :: riceB (v - 2 ^ d.k0) d.k1
theorem dualLen_low {d : Du} {v : Nat} (h : v < 2 ^ d.k0) : dualLen d v = 1 + d.k0 := if_pos h
theorem dualLen_high {d : Du} {v : Nat} (h : ¬ v < 2 ^ d.k0) : dualLen d v = 1 + riceLen (v - 2 ^ d.k0) d.k1 := if_neg h
theorem dualB_low {d : Du} {v : Nat} (h : v < 2 ^ d.k0) : dualB d v = false :: numB v d.k0 := if_pos h
theorem dualB_high {d : Du} {v : Nat} (h : ¬ v < 2 ^ d.k0) : dualB d v = true :: riceB (v - 2 ^ d.k0) d.k1 := if_neg h
theorem dualB_len (d : Du) (v : Nat) : (dualB d v).length = dualLen d v := by
  by_cases h : v < 2 ^ d.k0
  · rw [dualB_low h, dualLen_low h, List.length_cons, numB_len]; omega
  · rw [dualB_high h, dualLen_high h, List.length_cons, riceB_len]; omega
theorem dualLen_le {d : Du} (h0 : d.k0 ≤ 24) (h1 : d.k1 ≤ 24) (v : Nat) : dualLen d v ≤ 81 := by
  by_cases h : v < 2 ^ d.k0
  · rw [dualLen_low h]; omega
  · have := riceLen_le (v - 2 ^ d.k0) h1
    rw [dualLen_high h]; omega
theorem dualLen_pos (d : Du) (v : Nat) : 1 ≤ dualLen d v := by unfold dualLen; split <;> omega

/-- what is read from index i on: the number, the index behind it, the error -/
def readD (B : List Bool) (i : Nat) (d : Du) : Nat × Nat × Nat :=
  if B.length ≤ i then (0, 0, 24)
  else if B.getD i false = false then (if B.length < i + 1 + d.k0 then (0, 0, 24) else (natB (midB B (i + 1) (i + 1 + d.k0)), i + 1 + d.k0, 0))
  else if (readR B (i + 1) d.k1).2.2 ≠ 0 then (0, 0, (readR B (i + 1) d.k1).2.2)
  else if 4294967295 < (readR B (i + 1) d.k1).1 + 2 ^ d.k0 then (0, 0, 12)
  else ((readR B (i + 1) d.k1).1 + 2 ^ d.k0, (readR B (i + 1) d.k1).2.1, 0)
theorem readD_end {B : List Bool} {i : Nat} (d : Du) (h : B.length ≤ i) : readD B i d = (0, 0, 24) := if_pos h
theorem readD_short {B : List Bool} {i : Nat} {d : Du} (h : i < B.length) (hb : B.getD i false = false) (hs : B.length < i + 1 + d.k0) : readD B i d = (0, 0, 24) := by
  unfold readD; rw [if_neg (by omega), if_pos hb, if_pos hs]
theorem readD_low {B : List Bool} {i : Nat} {d : Du} (hb : B.getD i false = false) (hs : i + 1 + d.k0 ≤ B.length) : readD B i d = (natB (midB B (i + 1) (i + 1 + d.k0)), i + 1 + d.k0, 0) := by
  unfold readD; rw [if_neg (by omega), if_pos hb, if_neg (by omega)]
theorem readD_no {B : List Bool} {i : Nat} {d : Du} (h : i < B.length) (hb : B.getD i false = true) {v p er : Nat} (hr : readR B (i + 1) d.k1 = (v, p, er)) (he : er ≠ 0) : readD B i d = (0, 0, er) := by
  unfold readD; rw [hr, if_neg (by omega), if_neg (by rw [hb]; decide), if_pos he]
theorem readD_great {B : List Bool} {i : Nat} {d : Du} (h : i < B.length) (hb : B.getD i false = true) {v p : Nat} (hr : readR B (i + 1) d.k1 = (v, p, 0)) (hg : 4294967295 < v + 2 ^ d.k0) : readD B i d = (0, 0, 12) := by
  unfold readD; rw [hr, if_neg (by omega), if_neg (by rw [hb]; decide), if_neg (fun h => h rfl), if_pos hg]
theorem readD_high {B : List Bool} {i : Nat} {d : Du} (h : i < B.length) (hb : B.getD i false = true) {v p : Nat} (hr : readR B (i + 1) d.k1 = (v, p, 0)) (hg : v + 2 ^ d.k0 ≤ 4294967295) : readD B i d = (v + 2 ^ d.k0, p, 0) := by
  unfold readD; rw [hr, if_neg (by omega), if_neg (by rw [hb]; decide), if_neg (fun h => h rfl), if_neg (by omega)]

theorem getD_at (A C : List Bool) (b : Bool) : (A ++ b :: C).getD A.length false = b := by simp [List.getD]
theorem midB_succ {B : List Bool} {i p : Nat} (h : i < p) (hi : i < B.length) : midB B i p = B.getD i false :: midB B (i + 1) p := by
  unfold midB
  rw [List.drop_eq_getElem_cons hi, show p - i = (p - (i + 1)) + 1 by omega, List.take_succ_cons]
  simp [List.getD, hi]

/-- a code behind bits is read -/
theorem read_dual (A C : List Bool) {v : Nat} {d : Du} (hv : v < 4294967296) : readD (A ++ dualB d v ++ C) A.length d = (v, A.length + dualLen d v, 0) := by
  have hlen : (A ++ dualB d v ++ C).length = A.length + dualLen d v + C.length := by simp [dualB_len]; omega
  by_cases h : v < 2 ^ d.k0
  · rw [dualLen_low h] at hlen ⊢
    have hb : (A ++ dualB d v ++ C).getD A.length false = false := by
      rw [dualB_low h, List.append_assoc]; exact getD_at A _ false
    have hd : (A ++ dualB d v ++ C).drop (A.length + 1) = numB v d.k0 ++ C := by
      have e : A ++ dualB d v ++ C = A ++ [false] ++ (numB v d.k0 ++ C) := by rw [dualB_low h]; simp
      rw [e, List.drop_left' (by simp)]
    rw [readD_low hb (by omega)]
    have hn : natB (midB (A ++ dualB d v ++ C) (A.length + 1) (A.length + 1 + d.k0)) = v := by
      unfold midB
      rw [hd, show A.length + 1 + d.k0 - (A.length + 1) = d.k0 by omega, List.take_left' (numB_len _ _), natB_numB]
      exact Nat.mod_eq_of_lt h
    rw [hn, Nat.add_assoc]
  · rw [dualLen_high h] at hlen ⊢
    have hb : (A ++ dualB d v ++ C).getD A.length false = true := by
      rw [dualB_high h, List.append_assoc]; exact getD_at A _ true
    have e : A ++ dualB d v ++ C = (A ++ [true]) ++ riceB (v - 2 ^ d.k0) d.k1 ++ C := by rw [dualB_high h]; simp
    have hvb : v - 2 ^ d.k0 < 4294967296 := Nat.lt_of_le_of_lt (Nat.sub_le _ _) hv
    have hvs : v - 2 ^ d.k0 + 2 ^ d.k0 = v := Nat.sub_add_cancel (Nat.le_of_not_lt h)
    have hr := read_rice (A ++ [true]) C (v := v - 2 ^ d.k0) (k := d.k1) hvb
    rw [← e, show (A ++ [true]).length = A.length + 1 by simp] at hr
    rw [readD_high (by omega) hb hr (by rw [hvs]; omega)]
    rw [hvs, Nat.add_assoc]

/-- what is read has just this code -/
theorem dual_is {B : List Bool} {i : Nat} {d : Du} {v p : Nat} (h : readD B i d = (v, p, 0)) (_hi : i ≤ B.length) (h0 : d.k0 ≤ 24) (h1 : d.k1 ≤ 24) : v < 4294967296 ∧ p = i + dualLen d v ∧ p ≤ B.length ∧ midB B i p = dualB d v := by
  have hp0 := pow24 h0
  by_cases hl : B.length ≤ i
  · rw [readD_end d hl] at h; cases h
  have hlt : i < B.length := by omega
  cases hb : B.getD i false with
  | false =>
    by_cases hs : B.length < i + 1 + d.k0
    · rw [readD_short hlt hb hs] at h; cases h
    · rw [readD_low hb (by omega)] at h
      cases h
      have hlen := midB_len B (show i + 1 ≤ i + 1 + d.k0 by omega) (by omega)
      rw [show i + 1 + d.k0 - (i + 1) = d.k0 by omega] at hlen
      have hvl := natB_lt (midB B (i + 1) (i + 1 + d.k0))
      rw [hlen] at hvl
      refine ⟨by omega, by rw [dualLen_low hvl]; omega, by omega, ?_⟩
      rw [midB_succ (by omega) hlt, hb, dualB_low hvl]
      have := numB_natB (midB B (i + 1) (i + 1 + d.k0))
      rw [hlen] at this
      rw [this]
  | true =>
    obtain ⟨w, q, er, hr⟩ : ∃ w q er, readR B (i + 1) d.k1 = (w, q, er) := ⟨_, _, _, rfl⟩
    by_cases he : er = 0
    · subst he
      by_cases hg : 4294967295 < w + 2 ^ d.k0
      · rw [readD_great hlt hb hr hg] at h; cases h
      · rw [readD_high hlt hb hr (by omega)] at h
        cases h
        obtain ⟨r1, r2, r3, r4⟩ := rice_is hr (by omega) h1
        have hn : ¬ w + 2 ^ d.k0 < 2 ^ d.k0 := by omega
        have e : w + 2 ^ d.k0 - 2 ^ d.k0 = w := by omega
        refine ⟨by omega, by rw [dualLen_high hn, e]; omega, r3, ?_⟩
        have := riceLen_pos w d.k1
        rw [midB_succ (by omega) hlt, hb, dualB_high hn, e, r4]
    · rw [readD_no hlt hb hr he] at h; cases h; exact absurd rfl he
/-- what is refused -/
theorem dual_no {B : List Bool} {i : Nat} {d : Du} {v p er : Nat} (h : readD B i d = (v, p, er)) (he : er ≠ 0) (h0 : d.k0 ≤ 24) (h1 : d.k1 ≤ 24) : v = 0 ∧ p = 0 ∧ (er = 24 ∨ (er = 12 ∧ i + 81 ≤ B.length)) := by
  have hp0 := pow24 h0
  have hp1 := pow24 h1
  by_cases hl : B.length ≤ i
  · rw [readD_end d hl] at h; cases h; exact ⟨rfl, rfl, .inl rfl⟩
  have hlt : i < B.length := by omega
  cases hb : B.getD i false with
  | false =>
    by_cases hs : B.length < i + 1 + d.k0
    · rw [readD_short hlt hb hs] at h; cases h; exact ⟨rfl, rfl, .inl rfl⟩
    · rw [readD_low hb (by omega)] at h; cases h; exact absurd rfl he
  | true =>
    obtain ⟨w, q, e, hr⟩ : ∃ w q er, readR B (i + 1) d.k1 = (w, q, er) := ⟨_, _, _, rfl⟩
    by_cases h00 : e = 0
    · subst h00
      by_cases hg : 4294967295 < w + 2 ^ d.k0
      · rw [readD_great hlt hb hr hg] at h; cases h
        obtain ⟨r1, r2, r3, r4⟩ := rice_is hr (by omega) h1
        have hpart : partN w d.k1 = 48 := by
          have : 48 ≤ w / 2 ^ d.k1 := (Nat.le_div_iff_mul_le (by omega)).2 (by omega)
          unfold partN; omega
        have := riceLen_full hpart
        exact ⟨rfl, rfl, .inr ⟨rfl, by omega⟩⟩
      · rw [readD_high hlt hb hr (by omega)] at h; cases h; exact absurd rfl he
    · rw [readD_no hlt hb hr h00] at h
      cases h
      obtain ⟨-, -, r⟩ := rice_no hr h00 (by omega)
      rcases r with r | ⟨r, r'⟩
      · exact ⟨rfl, rfl, .inl r⟩
      · exact ⟨rfl, rfl, .inr ⟨r, by omega⟩⟩

/-- what is read is read, whatever stands behind it -/
theorem dual_more {B : List Bool} {i : Nat} {d : Du} {v p : Nat} (h : readD B i d = (v, p, 0)) (hi : i ≤ B.length) (h0 : d.k0 ≤ 24) (h1 : d.k1 ≤ 24) (C : List Bool) : readD (B ++ C) i d = (v, p, 0) := by
  obtain ⟨hv, hp, hpB, hmid⟩ := dual_is h hi h0 h1
  have e : B = B.take i ++ dualB d v ++ B.drop p := by
    rw [← hmid]
    unfold midB
    have h1 : B.drop p = (B.drop i).drop (p - i) := by rw [List.drop_drop]; congr 1; omega
    rw [h1, List.append_assoc, List.take_append_drop, List.take_append_drop]
  have hl : (B.take i).length = i := by rw [List.length_take]; omega
  have := read_dual (B.take i) (B.drop p ++ C) hv (d := d)
  rw [← List.append_assoc, ← e, hl] at this
  rw [this, hp]
/-- a code that is cut off -/
theorem dual_cut {v j : Nat} {d : Du} (hv : v < 4294967296) (h0 : d.k0 ≤ 24) (h1 : d.k1 ≤ 24) (hj : j < dualLen d v) : readD ((dualB d v).take j) 0 d = (0, 0, 24) := by
  obtain ⟨w, p, er, h⟩ : ∃ w p er, readD ((dualB d v).take j) 0 d = (w, p, er) := ⟨_, _, _, rfl⟩
  have hlen : ((dualB d v).take j).length = j := by rw [List.length_take, dualB_len]; omega
  by_cases he : er = 0
  · subst he
    have e1 := dual_more h (Nat.zero_le _) h0 h1 ((dualB d v).drop j)
    have e2 := read_dual [] [] hv (d := d)
    rw [List.take_append_drop] at e1
    rw [List.nil_append, List.append_nil, List.length_nil, Nat.zero_add, e1] at e2
    cases e2
    obtain ⟨-, -, hpB, -⟩ := dual_is h (Nat.zero_le _) h0 h1
    omega
  · obtain ⟨rfl, rfl, h3⟩ := dual_no h he h0 h1
    rcases h3 with rfl | ⟨rfl, h3⟩
    · exact h
    · have := dualLen_le h0 h1 v
      omega

/-- the state behind numbers, and their codes behind each other -/
def after (d : Du) (l : List Nat) : Du := l.foldl learnD d
def codesD (d : Du) : List Nat → List Bool
  | [] => []
  | v :: l => dualB d v ++ codesD (learnD d v) l
theorem codesD_append (l m : List Nat) : ∀ d, codesD d (l ++ m) = codesD d l ++ codesD (after d l) m := by
  induction l with
  | nil => intro d; rfl
  | cons v l ih => intro d; simp [codesD, ih, after]
theorem after_append (l m : List Nat) (d : Du) : after d (l ++ m) = after (after d l) m := List.foldl_append ..
theorem after_ok : ∀ (l : List Nat) {d : Du}, d.ok → (∀ x ∈ l, x < 4294967296) → (after d l).ok
  | [], _, h, _ => h
  | v :: l, d, h, hl => after_ok l (d := learnD d v) (learnD_ok h (hl v (List.mem_cons_self ..))) fun x hx => hl x (List.mem_cons_of_mem _ hx)
theorem codesD_len_le : ∀ (l : List Nat) {d : Du}, d.ok → (∀ x ∈ l, x < 4294967296) → (codesD d l).length ≤ 81 * l.length
  | [], _, _, _ => by simp [codesD]
  | v :: l, d, h, hl => by
    have h1 := codesD_len_le l (learnD_ok h (hl v (List.mem_cons_self ..))) fun x hx => hl x (List.mem_cons_of_mem _ hx)
    have h2 := dualLen_le h.1 h.2.1 v
    simp only [codesD, List.length_append, List.length_cons, dualB_len]
    omega
theorem after_take_succ (l : List Nat) (d : Du) {i : Nat} (hi : i < l.length) : after d (l.take (i + 1)) = learnD (after d (l.take i)) (l.getD i 0) := by
  rw [List.take_add_one, after_append, show l[i]?.toList = [l.getD i 0] by simp [List.getD, hi]]; rfl
theorem codesD_take_succ (l : List Nat) (d : Du) {i : Nat} (hi : i < l.length) : codesD d (l.take (i + 1)) = codesD d (l.take i) ++ dualB (after d (l.take i)) (l.getD i 0) := by
  rw [List.take_add_one, codesD_append, show l[i]?.toList = [l.getD i 0] by simp [List.getD, hi]]; simp [codesD]
theorem codesD_split (l : List Nat) (d : Du) {i : Nat} (hi : i < l.length) : codesD d l = codesD d (l.take i) ++ dualB (after d (l.take i)) (l.getD i 0) ++ codesD (after d (l.take (i + 1))) (l.drop (i + 1)) := by
  rw [← codesD_take_succ l d hi, ← codesD_append, List.take_append_drop]
end Cad

/- Variables that hold a state of dual; results of functions that hand one back. -/
namespace Go.Proofs.Ythbjcjphplgobaa
open Go.RowKit Cad

/-- a variable that holds a state: its block -/
def DuAt (w : World) (x : Nat) (a b c d : Int) : Prop := w.heap[x]? = some (.cells #[.int .i64 a, .int .i64 b, .int .u64 c, .int .u64 d] 52)
section
variable {w w' : World} {x : Nat} {a b c d : Int}
theorem DuAt.cells (h : DuAt w x a b c d) : w.cell? ⟨x, 0, none⟩ = some (.int .i64 a) ∧ w.cell? ⟨x, 1, none⟩ = some (.int .i64 b) ∧ w.cell? ⟨x, 2, none⟩ = some (.int .u64 c) ∧ w.cell? ⟨x, 3, none⟩ = some (.int .u64 d) ∧
    w.frozen? ⟨x, 0, none⟩ = false ∧ w.frozen? ⟨x, 1, none⟩ = false ∧ w.frozen? ⟨x, 2, none⟩ = false ∧ w.frozen? ⟨x, 3, none⟩ = false := by
  unfold DuAt at h
  refine ⟨?_, ?_, ?_, ?_, ?_, ?_, ?_, ?_⟩
  · unfold World.cell?; rw [h]; rfl
  · unfold World.cell?; rw [h]; rfl
  · unfold World.cell?; rw [h]; rfl
  · unfold World.cell?; rw [h]; rfl
  · unfold World.frozen?; rw [h]; simp
  · unfold World.frozen?; rw [h]; simp
  · unfold World.frozen?; rw [h]; simp
  · unfold World.frozen?; rw [h]; simp
theorem DuAt.lt (h : DuAt w x a b c d) : x < w.heap.size := by
  apply Classical.byContradiction; intro hx; unfold DuAt at h; rw [Array.getElem?_eq_none (by omega)] at h; cases h
theorem DuAt.below {B : Nat} (h : DuAt w x a b c d) (hb : Below B w w') (hx : x < B) : DuAt w' x a b c d := by
  unfold DuAt at h ⊢
  rw [hb.block x hx, h]
theorem DuAt.alloc (h : DuAt w x a b c d) (o : Obj) : DuAt (w.alloc o) x a b c d := by
  have hx := h.lt
  unfold DuAt at h ⊢
  rw [Below.heap_alloc _ _ _ hx, h]
theorem DuAt.drew (h : DuAt w x a b c d) : DuAt w.drew x a b c d := h
theorem DuAt.kept {base : Nat} (h : DuAt w x a b c d) (k : Kept base w w') : DuAt w' x a b c d := by
  have hx := h.lt
  unfold DuAt at h ⊢
  rw [k.oth x hx (fun cur fr e => by rw [h] at e; simp at e), h]
theorem DuAt.other (h : DuAt w x a b c d) {p : Addr} (hp : x ≠ p.block) (u : Value) : DuAt (w.setCell p u) x a b c d := by
  unfold DuAt at h ⊢
  rw [Below.heap_setCell _ _ _ _ hp, h]
theorem DuAt.set0 (h : DuAt w x a b c d) (n : Int) : DuAt (w.setCell ⟨x, 0, none⟩ (.int .i64 n)) x n b c d := by
  unfold DuAt at h ⊢; exact heap_setCell_same _ _ 0 _ _ _ h
theorem DuAt.set1 (h : DuAt w x a b c d) (n : Int) : DuAt (w.setCell ⟨x, 1, none⟩ (.int .i64 n)) x a n c d := by
  unfold DuAt at h ⊢; exact heap_setCell_same _ _ 1 _ _ _ h
theorem DuAt.set2 (h : DuAt w x a b c d) (n : Int) : DuAt (w.setCell ⟨x, 2, none⟩ (.int .u64 n)) x a b n d := by
  unfold DuAt at h ⊢; exact heap_setCell_same _ _ 2 _ _ _ h
theorem DuAt.set3 (h : DuAt w x a b c d) (n : Int) : DuAt (w.setCell ⟨x, 3, none⟩ (.int .u64 n)) x a b c n := by
  unfold DuAt at h ⊢; exact heap_setCell_same _ _ 3 _ _ _ h
/-- a whole state is written -/
theorem DuAt.set (h : DuAt w x a b c d) (i j k l : Int) : DuAt ((((w.setCell ⟨x, 0, none⟩ (.int .i64 i)).setCell ⟨x, 1, none⟩ (.int .i64 j)).setCell ⟨x, 2, none⟩ (.int .u64 k)).setCell ⟨x, 3, none⟩ (.int .u64 l)) x i j k l :=
  (((h.set0 i).set1 j).set2 k).set3 l
theorem DuAt.apart (h : DuAt w x a b c d) {base n : Nat} {v' : Value} {xs : List Value} (ho : w.ownsRow base 5 1 v' n xs) : ∀ g, v'.ownBlock = some g → g ≠ x := by
  intro g e
  rcases ho.2 with ⟨rfl, _⟩ | ⟨g', cap, cur, rfl, _, hh, _⟩
  · cases e
  · cases e
    rintro rfl
    unfold DuAt at h
    rw [h] at hh; simp at hh
/-- bytes stay where a state is written -/
theorem Row.boxD {k : IntKind} {aa : Option Addr} {len cap : Nat} {l : List Int} (hk : k = .u8 ∨ k = .u32) (h : Row k w aa len cap l) (hx : DuAt w x a b c d) (o : Nat) (u : Value) : Row k (w.setCell ⟨x, o, none⟩ u) aa len cap l := by
  refine ⟨h.hlen, h.hcap, h.hmax, h.wf, fun hp => ?_, h.nil⟩
  obtain ⟨b', off, rfl, hlt, hc⟩ := h.cells hp
  have hne : b' ≠ x := by
    rintro rfl
    have h0 := hc 0 hp
    unfold World.cell? at h0
    unfold DuAt at hx
    rw [hx] at h0
    rcases hk with rfl | rfl <;> (match off, h0 with
    | 0, h0 => simp at h0
    | 1, h0 => simp at h0
    | 2, h0 => simp at h0
    | 3, h0 => simp at h0
    | off + 4, h0 => simp at h0)
  refine ⟨b', off, rfl, by simpa using hlt, fun i hi => ?_⟩
  rw [← hc i hi]
  unfold World.cell?
  rw [Below.heap_setCell _ _ _ _ (by simpa using hne)]
end
theorem duat1 (W : World) (a b c d : Int) : DuAt (W.alloc (.cells #[.int .i64 a, .int .i64 b, .int .u64 c, .int .u64 d] 52)) W.heap.size a b c d := heap_alloc_new _ _

/-- a state, and one that goes out -/
theorem du_boxes (W : World) (a b c d : Int) : ∃ W0, W0 = (W.alloc (.cells #[.int .i64 a, .int .i64 b, .int .u64 c, .int .u64 d] 52)).alloc (.cells #[.int .i64 0, .int .i64 0, .int .u64 0, .int .u64 0] 52) ∧ Below W.heap.size W W0 ∧ W0.heap.size = W.heap.size + 1 + 1 ∧
    DuAt W0 W.heap.size a b c d ∧ DuAt W0 (W.heap.size + 1) 0 0 0 0 := by
  refine ⟨_, rfl, ((Below.refl W.heap.size W).alloc (Nat.le_refl _) _).alloc (by simp) _, by simp, (duat1 W a b c d).alloc _, ?_⟩
  unfold DuAt; rw [heap_alloc2_new]
/-- bits and a state -/
theorem bd_boxes (W : World) (v : Value) (N : Int) (a b c d : Int) : ∃ W0, W0 = (W.alloc (.cells #[v, .int .i64 N] 45)).alloc (.cells #[.int .i64 a, .int .i64 b, .int .u64 c, .int .u64 d] 52) ∧ Below W.heap.size W W0 ∧ W0.heap.size = W.heap.size + 1 + 1 ∧
    BoxAt W0 W.heap.size v N ∧ DuAt W0 (W.heap.size + 1) a b c d := by
  refine ⟨_, rfl, ((Below.refl W.heap.size W).alloc (Nat.le_refl _) _).alloc (by simp) _, by simp, (box1 W v N).alloc _, ?_⟩
  unfold DuAt; rw [heap_alloc2_new]
/-- bits, a state, and bits that go out -/
theorem bdb_boxes (W : World) (v : Value) (N : Int) (a b c d : Int) : ∃ W0, W0 = ((W.alloc (.cells #[v, .int .i64 N] 45)).alloc (.cells #[.int .i64 a, .int .i64 b, .int .u64 c, .int .u64 d] 52)).alloc (.cells #[.slice none 0 0, .int .i64 0] 45) ∧ Below W.heap.size W W0 ∧ W0.heap.size = W.heap.size + 1 + 1 + 1 ∧
    BoxAt W0 W.heap.size v N ∧ DuAt W0 (W.heap.size + 1) a b c d ∧ BoxAt W0 (W.heap.size + 1 + 1) (.slice none 0 0) 0 := by
  obtain ⟨W1, rfl, h1, h2, h3, h4⟩ := bd_boxes W v N a b c d
  refine ⟨_, rfl, h1.alloc h1.size _, by simp, h3.alloc _, h4.alloc _, ?_⟩
  rw [← h2]; exact box1 _ _ _
/-- bits, a state, and a state that goes out -/
theorem bdd_boxes (W : World) (v : Value) (N : Int) (a b c d : Int) : ∃ W0, W0 = ((W.alloc (.cells #[v, .int .i64 N] 45)).alloc (.cells #[.int .i64 a, .int .i64 b, .int .u64 c, .int .u64 d] 52)).alloc (.cells #[.int .i64 0, .int .i64 0, .int .u64 0, .int .u64 0] 52) ∧ Below W.heap.size W W0 ∧ W0.heap.size = W.heap.size + 1 + 1 + 1 ∧
    BoxAt W0 W.heap.size v N ∧ DuAt W0 (W.heap.size + 1) a b c d ∧ DuAt W0 (W.heap.size + 1 + 1) 0 0 0 0 := by
  obtain ⟨W1, rfl, h1, h2, h3, h4⟩ := bd_boxes W v N a b c d
  refine ⟨_, rfl, h1.alloc h1.size _, by simp, h3.alloc _, h4.alloc _, ?_⟩
  rw [← h2]; exact duat1 _ _ _ _ _
/-- bits, a state, bits and a state that go out -/
theorem bdbd_boxes (W : World) (v : Value) (N : Int) (a b c d : Int) : ∃ W0, W0 = (((W.alloc (.cells #[v, .int .i64 N] 45)).alloc (.cells #[.int .i64 a, .int .i64 b, .int .u64 c, .int .u64 d] 52)).alloc (.cells #[.slice none 0 0, .int .i64 0] 45)).alloc (.cells #[.int .i64 0, .int .i64 0, .int .u64 0, .int .u64 0] 52) ∧ Below W.heap.size W W0 ∧ W0.heap.size = W.heap.size + 1 + 1 + 1 + 1 ∧
    BoxAt W0 W.heap.size v N ∧ DuAt W0 (W.heap.size + 1) a b c d ∧ BoxAt W0 (W.heap.size + 1 + 1) (.slice none 0 0) 0 ∧ DuAt W0 (W.heap.size + 1 + 1 + 1) 0 0 0 0 := by
  obtain ⟨W1, rfl, h1, h2, h3, h4, h5⟩ := bdb_boxes W v N a b c d
  refine ⟨_, rfl, h1.alloc h1.size _, by simp, h3.alloc _, h4.alloc _, h5.alloc _, ?_⟩
  rw [← h2]; exact duat1 _ _ _ _ _

/-- what == says of two states -/
def sameD (a b c d i j k l : Int) : Bool := a == i && (b == j && (c == k && d == l))
@[go_sem high] theorem eqDu (a b c d i j k l : Int) (w : World) : (Op.equalIn 10000 52 (.agg #[.int .i64 a, .int .i64 b, .int .u64 c, .int .u64 d]) (.agg #[.int .i64 i, .int .i64 j, .int .u64 k, .int .u64 l])).run Try.prog w = .ok (sameD a b c d i j k l) w := by
  have hS : Try.prog.underlying 52 = some (.struct (Try.prog.fieldsOf 52)) := by kernel_rfl
  have hp : Try.prog.stoodInHeld 52 = false := by kernel_rfl
  rw [show (10000 : Nat) = 9999 + 1 from rfl, run_equalIn_agg w 9999 52 _ _ hS hp]
  have u3 := Try.underlying3
  have a3 := Try.isAgg3
  have z3 := Try.sizeOf3
  have u4 := Try.underlying50
  have a4 := Try.isAgg50
  have z4 := Try.sizeOf50
  simp only [Program.fieldsOf, Try.underlying52]
  unfold sameD
  go_simp
  by_cases h1 : a = i <;> by_cases h2 : b = j <;> by_cases h3 : c = k <;> by_cases h4 : d = l <;> simp [h1, h2, h3, h4]
@[go_sem high] theorem guardDu (op : BinOp) (x y : Operand) (xs ys : Array Value) (w : World) : (eqGuard op 52 x y (.agg xs) (.agg ys)).run Try.prog w = .ok () w :=
  run_eqGuard_agg w op 52 x y xs ys (by kernel_rfl)
theorem sameD_self (a b c d : Int) : sameD a b c d a b c d = true := by unfold sameD; simp
theorem sameD_ne {a b c d i j k l : Int} (h : ¬ (a = i ∧ b = j ∧ c = k ∧ d = l)) : sameD a b c d i j k l = false := by
  unfold sameD
  by_cases h1 : a = i <;> by_cases h2 : b = j <;> by_cases h3 : c = k <;> by_cases h4 : d = l <;> simp_all
theorem results_du {fn : Func} {p : Tmp} (h : fn.results = #[.cell p 52]) (tmps : Array Value) (w : World) (x : Nat) (a b c d : Int) (hp : tmps.getD p undef = .pointer (some ⟨x, 0, none⟩)) (hx : DuAt w x a b c d) :
    (results fn tmps).run Try.prog w = .ok (.agg #[.int .i64 a, .int .i64 b, .int .u64 c, .int .u64 d]) w :=
  results_cell_row h tmps w x _ _ _ _ hp hx Try.underlying52 rfl (by kernel_rfl)
theorem results_du_tmp {fn : Func} {p u : Tmp} (h : fn.results = #[.cell p 52, .tmp u]) (tmps : Array Value) (w : World) (x : Nat) (a b c d : Int) (hp : tmps.getD p undef = .pointer (some ⟨x, 0, none⟩)) (hx : DuAt w x a b c d) :
    (results fn tmps).run Try.prog w = .ok (.tuple #[.agg #[.int .i64 a, .int .i64 b, .int .u64 c, .int .u64 d], tmps.getD u undef]) w := by
  rw [results_cell_tmp h, hp]
  have := run_loadVar_row (P := Try.prog) w x _ 52 _ _ _ hx Try.underlying52 rfl (by kernel_rfl)
  simp [asAddr, Sem.run_pure, this]
theorem results_bits_du_tmp {fn : Func} {p q u : Tmp} (h : fn.results = #[.cell p 45, .cell q 52, .tmp u]) (tmps : Array Value) (w : World) (x y : Nat) (v : Value) (N a b c d : Int) (hp : tmps.getD p undef = .pointer (some ⟨x, 0, none⟩)) (hq : tmps.getD q undef = .pointer (some ⟨y, 0, none⟩)) (hx : BoxAt w x v N) (hy : DuAt w y a b c d) :
    (results fn tmps).run Try.prog w = .ok (.tuple #[.agg #[v, .int .i64 N], .agg #[.int .i64 a, .int .i64 b, .int .u64 c, .int .u64 d], tmps.getD u undef]) w := by
  have h1 := run_loadVar_row (P := Try.prog) w x _ 45 _ _ _ hx Try.underlying45 rfl (by kernel_rfl)
  have h2 := run_loadVar_row (P := Try.prog) w y _ 52 _ _ _ hy Try.underlying52 rfl (by kernel_rfl)
  have hp' : tmps[p]?.getD undef = .pointer (some ⟨x, 0, none⟩) := by simpa using hp
  have hq' : tmps[q]?.getD undef = .pointer (some ⟨y, 0, none⟩) := by simpa using hq
  simp [results, h, hp', hq', asAddr, Sem.run_bind, h1, h2]
theorem results_two_du_tmp {fn : Func} {s t q u : Tmp} (h : fn.results = #[.tmp s, .tmp t, .cell q 52, .tmp u]) (tmps : Array Value) (w : World) (y : Nat) (a b c d : Int) (hq : tmps.getD q undef = .pointer (some ⟨y, 0, none⟩)) (hy : DuAt w y a b c d) :
    (results fn tmps).run Try.prog w = .ok (.tuple #[tmps.getD s undef, tmps.getD t undef, .agg #[.int .i64 a, .int .i64 b, .int .u64 c, .int .u64 d], tmps.getD u undef]) w := by
  have h2 := run_loadVar_row (P := Try.prog) w y _ 52 _ _ _ hy Try.underlying52 rfl (by kernel_rfl)
  have hq' : tmps[q]?.getD undef = .pointer (some ⟨y, 0, none⟩) := by simpa using hq
  simp [results, h, hq', asAddr, h2]
end Go.Proofs.Ythbjcjphplgobaa

/- Contracts of the package dual: its small functions. -/
namespace Go.Proofs.Ythbjcjphplgobaa
open Go.RowKit Cad

theorem Dstart_ok (W : World) :
    Calls Try.prog 35 #[] W fun e W' => e = .returned (.agg #[.int .i64 10, .int .i64 10, .int .u64 16384, .int .u64 16384]) ∧ Below W.heap.size W W' := by
  obtain ⟨x0, x1, x2, x3, x4, x5, x6, x7⟩ := (duat1 W 0 0 0 0).cells
  go_enter Try.func35, Try.ntmps35
  go_wp2
  (try simp only [Exit.inBlock, Exit.then])
  refine bodyPost_ret (results_du (by rfl) _ _ W.heap.size _ _ _ _ rfl (duat1 W _ _ _ _)) rfl ?_
  exact ⟨rfl, below1 W _⟩

theorem Dk_ok (W : World) (k r : Int) (hk : (Lit.int .i64 k).wf = true) (hr : (0 ≤ k ∧ k ≤ 24 ∧ r = k) ∨ (k < 0 ∧ r = 0) ∨ (24 < k ∧ r = 24)) :
    Calls Try.prog 74 #[.int .i64 k] W fun e W' => e = .returned (.int .i64 r) ∧ W = W' := by
  have bk := bounds_i64 hk
  obtain ⟨m, hm⟩ : ∃ m : Int, m = if 24 < k then 24 else k := ⟨_, rfl⟩
  have m1 : (if (24 : Int) < k then (24 : Int) else k) = m := hm.symm
  have m2 : (if k < (24 : Int) then k else (24 : Int)) = m := by rw [hm]; split <;> split <;> omega
  have m3 : (if (0 : Int) < m then m else (0 : Int)) = r := by rw [hm]; split <;> split at * <;> omega
  have m4 : (if m < (0 : Int) then (0 : Int) else m) = r := by rw [hm]; split <;> split at * <;> omega
  clear hm hr hk
  go_enter Try.func74, Try.ntmps74
  go_wp2
  go_ret
  exact ⟨by go_num, rfl⟩
theorem Dsum_ok (W : World) (s r : Int) (hs : (Lit.int .u64 s).wf = true) (hr : (s ≤ 68719476735 ∧ r = s) ∨ (68719476735 < s ∧ r = 68719476735)) :
    Calls Try.prog 75 #[.int .u64 s] W fun e W' => e = .returned (.int .u64 r) ∧ W = W' := by
  have bs := bounds_u64 hs
  have m1 : (if (68719476735 : Int) < s then (68719476735 : Int) else s) = r := by split <;> omega
  have m2 : (if s < (68719476735 : Int) then s else (68719476735 : Int)) = r := by split <;> omega
  clear hr hs
  go_enter Try.func75, Try.ntmps75
  go_wp2
  go_ret
  exact ⟨by go_num, rfl⟩

/-- what makes a state valid -/
def DuOk (a b c d : Int) : Prop := 0 ≤ a ∧ a ≤ 24 ∧ 0 ≤ b ∧ b ≤ 24 ∧ c ≤ 68719476735 ∧ d ≤ 68719476735
def chkD (a b c d r : Int) : Prop := (DuOk a b c d ∧ r = 0) ∨ (¬ DuOk a b c d ∧ r = 8)

theorem du_ok {D : Du} (h : D.ok) : DuOk D.k0 D.k1 D.s0 D.s1 := by
  obtain ⟨h1, h2, h3, h4⟩ := h
  unfold DuOk; omega
theorem du_wf {D : Du} (h : D.ok) : (Lit.int .i64 (D.k0 : Int)).wf = true ∧ (Lit.int .i64 (D.k1 : Int)).wf = true ∧ (Lit.int .u64 (D.s0 : Int)).wf = true ∧ (Lit.int .u64 (D.s1 : Int)).wf = true := by
  obtain ⟨h1, h2, h3, h4⟩ := h
  exact ⟨WalkArith.wf_i64 (by omega), WalkArith.wf_i64 (by omega), WalkArith.wf_u64 (by omega), WalkArith.wf_u64 (by omega)⟩
theorem du_of {a b c d : Int} (h : DuOk a b c d) (hc : (Lit.int .u64 c).wf = true) (hd : (Lit.int .u64 d).wf = true) : ∃ D : Du, D.ok ∧ a = D.k0 ∧ b = D.k1 ∧ c = D.s0 ∧ d = D.s1 := by
  have bc := bounds_u64 hc
  have bd := bounds_u64 hd
  unfold DuOk at h
  refine ⟨⟨a.toNat, b.toNat, c.toNat, d.toNat⟩, ⟨?_, ?_, ?_, ?_⟩, ?_, ?_, ?_, ?_⟩ <;> simp only [] <;> omega

theorem clampK (k : Int) : ∃ r : Int, ((0 ≤ k ∧ k ≤ 24 ∧ r = k) ∨ (k < 0 ∧ r = 0) ∨ (24 < k ∧ r = 24)) := by
  by_cases h : k < 0
  · exact ⟨0, .inr (.inl ⟨h, rfl⟩)⟩
  · by_cases h' : 24 < k
    · exact ⟨24, .inr (.inr ⟨h', rfl⟩)⟩
    · exact ⟨k, .inl ⟨by omega, by omega, rfl⟩⟩
theorem clampS (s : Int) : ∃ r : Int, ((s ≤ 68719476735 ∧ r = s) ∨ (68719476735 < s ∧ r = 68719476735)) := by
  by_cases h : 68719476735 < s
  · exact ⟨_, .inr ⟨h, rfl⟩⟩
  · exact ⟨s, .inl ⟨by omega, rfl⟩⟩

set_option maxRecDepth 100000 in
set_option maxHeartbeats 2000000 in
theorem DCheck_any (W : World) (a b c d : Int) (ha : (Lit.int .i64 a).wf = true) (hb : (Lit.int .i64 b).wf = true) (hc : (Lit.int .u64 c).wf = true) (hd : (Lit.int .u64 d).wf = true) (r : Int) (hr : chkD a b c d r) :
    Calls Try.prog 48 #[.agg #[.int .i64 a, .int .i64 b, .int .u64 c, .int .u64 d]] W fun e W' => e = .returned (.int .i64 r) ∧ Below W.heap.size W W' := by
  have hmf : ∀ (fn : Fn) (first cap : Array Value) (w : World), (Instr.makeFunc fn first cap).run Try.prog w = .ok (.func fn first cap) w := fun _ _ _ _ => rfl
  obtain ⟨a', qa⟩ := clampK a
  obtain ⟨b', qb⟩ := clampK b
  obtain ⟨c', qc⟩ := clampS c
  obtain ⟨d', qd⟩ := clampS d
  have ka := Go.Lib.hid fun w => Dk_ok w a a' ha qa
  have kb := Go.Lib.hid fun w => Dk_ok w b b' hb qb
  have kc := Go.Lib.hid fun w => Dsum_ok w c c' hc qc
  have kd := Go.Lib.hid fun w => Dsum_ok w d d' hd qd
  have hx := Go.Lib.hid (duat1 W a b c d)
  obtain ⟨x0, x1, x2, x3, x4, x5, x6, x7⟩ := hx.out.cells
  have key : (a = a' ∧ b = b' ∧ c = c' ∧ d = d' ∧ r = 0) ∨ (¬ (a = a' ∧ b = b' ∧ c = c' ∧ d = d') ∧ r = 8) := by
    unfold chkD DuOk at hr; omega
  clear hr qa qb qc qd ha hb hc hd
  rcases key with ⟨rfl, rfl, rfl, rfl, rfl⟩ | ⟨hne, rfl⟩
  · have hsm := sameD_self a b c d
    go_enter Try.func48, Try.ntmps48
    go_wp2
    go_quiet (first
      | (go_at_call 74; with_reducible refine (ka.out _).mono ?_; rintro e w1 ⟨rfl, rfl⟩; exact ⟨rfl, _, rfl⟩)
      | (go_at_call 74; with_reducible refine (kb.out _).mono ?_; rintro e w1 ⟨rfl, rfl⟩; exact ⟨rfl, _, rfl⟩)
      | (go_at_call 75; with_reducible refine (kc.out _).mono ?_; rintro e w1 ⟨rfl, rfl⟩; exact ⟨rfl, _, rfl⟩)
      | (go_at_call 75; with_reducible refine (kd.out _).mono ?_; rintro e w1 ⟨rfl, rfl⟩; exact ⟨rfl, _, rfl⟩))
    go_wp2
    go_ret
    exact ⟨rfl, Below.drewN (below1 W _) _⟩
  · have hsm := sameD_ne hne
    clear hne
    go_enter Try.func48, Try.ntmps48
    go_wp2
    go_quiet (first
      | (go_at_call 74; with_reducible refine (ka.out _).mono ?_; rintro e w1 ⟨rfl, rfl⟩; exact ⟨rfl, _, rfl⟩)
      | (go_at_call 74; with_reducible refine (kb.out _).mono ?_; rintro e w1 ⟨rfl, rfl⟩; exact ⟨rfl, _, rfl⟩)
      | (go_at_call 75; with_reducible refine (kc.out _).mono ?_; rintro e w1 ⟨rfl, rfl⟩; exact ⟨rfl, _, rfl⟩)
      | (go_at_call 75; with_reducible refine (kd.out _).mono ?_; rintro e w1 ⟨rfl, rfl⟩; exact ⟨rfl, _, rfl⟩))
    go_wp2
    go_ret
    exact ⟨rfl, Below.drewN (below1 W _) _⟩
end Go.Proofs.Ythbjcjphplgobaa

/- Contracts of the package dual: levels, learning. -/
namespace Go.Proofs.Ythbjcjphplgobaa
open Go.RowKit Cad

theorem DisLow_ok (W : World) (k : Nat) (b c d : Int) (v : Nat) (hk : k ≤ 24) (_hv : v < 4294967296) (bb : Bool) (hb : decide (v < 2 ^ k) = bb) :
    Calls Try.prog 49 #[.agg #[.int .i64 k, .int .i64 b, .int .u64 c, .int .u64 d], .int .u32 v] W fun e W' => e = .returned (.bool bb) ∧ Below W.heap.size W W' := by
  have hx := Go.Lib.hid (duat1 W k b c d)
  obtain ⟨x0, x1, x2, x3, x4, x5, x6, x7⟩ := hx.out.cells
  have hp := pow24 hk
  obtain ⟨p, hpe⟩ : ∃ p, p = 2 ^ k := ⟨_, rfl⟩
  rw [← hpe] at hp hb
  have e1 : (1 : Int) * 2 ^ k = (p : Int) := by rw [hpe]; simp
  have e2 : (2 : Int) ^ k = (p : Int) := by rw [hpe]; simp
  have d1 : decide ((v : Int) < (p : Int)) = bb := by rw [← hb]; simp
  clear hpe
  go_enter Try.func49, Try.ntmps49
  go_wp2
  go_ret
  exact ⟨by first | rfl | (rw [← d1]; rfl) | simp, below1 W _⟩
theorem Dleft_ok (W : World) (k : Nat) (b c d : Int) (v : Nat) (hk : k ≤ 24) (hv : v < 4294967296) (h : ¬ v < 2 ^ k) :
    Calls Try.prog 51 #[.agg #[.int .i64 k, .int .i64 b, .int .u64 c, .int .u64 d], .int .u32 v] W fun e W' => e = .returned (.int .u32 (v - 2 ^ k : Nat)) ∧ Below W.heap.size W W' := by
  have hx := Go.Lib.hid (duat1 W k b c d)
  obtain ⟨x0, x1, x2, x3, x4, x5, x6, x7⟩ := hx.out.cells
  have hp := pow24 hk
  obtain ⟨p, hpe⟩ : ∃ p, p = 2 ^ k := ⟨_, rfl⟩
  rw [← hpe] at hp h ⊢
  have e1 : (1 : Int) * 2 ^ k = (p : Int) := by rw [hpe]; simp
  have e2 : (2 : Int) ^ k = (p : Int) := by rw [hpe]; simp
  clear hpe
  go_enter Try.func51, Try.ntmps51
  go_wp2
  go_ret
  exact ⟨by go_num, below1 W _⟩

theorem wr64 (n : Int) : IntKind.u64.wrap n = n % 18446744073709551616 := by simp [IntKind.wrap, IntKind.bits, IntKind.signed]
theorem pow28 {k : Nat} (hk : k ≤ 29) : 1 ≤ 2 ^ k ∧ 2 ^ k ≤ 536870912 :=
  ⟨Nat.pow_pos (by decide), Nat.le_trans (Nat.pow_le_pow_right (n := 2) (by decide) hk) (by decide)⟩

set_option maxHeartbeats 1000000 in
theorem Dlearn_ok (W : World) (k s v : Nat) (hk : k ≤ 24) (hs : s ≤ 68719476735) (hv : v < 4294967296) :
    Calls Try.prog 80 #[.int .i64 k, .int .u64 s, .int .u32 v] W fun e W' => e = .returned (.tuple #[.int .i64 (pairK k (sumN s v) : Nat), .int .u64 (sumN s v : Nat)]) ∧ W = W' := by
  have hn := sumN_le hs hv
  obtain ⟨n, hne⟩ : ∃ n, n = sumN s v := ⟨_, rfl⟩
  have hni : (n : Int) = s - s / 16 + v := by rw [hne]; unfold sumN; omega
  rw [← hne] at hn ⊢
  have hw : IntKind.u64.wrap ((s : Int) + IntKind.u64.wrap ((v : Int) - (s : Int) / 16)) = (n : Int) := by rw [wr64, wr64]; omega
  have hp4 := pow28 (show k + 4 ≤ 29 by omega)
  have hp5 := pow28 (show k + 5 ≤ 29 by omega)
  obtain ⟨p4, h4⟩ : ∃ p, p = 2 ^ (k + 4) := ⟨_, rfl⟩
  obtain ⟨p5, h5⟩ : ∃ p, p = 2 ^ (k + 5) := ⟨_, rfl⟩
  rw [← h4] at hp4
  rw [← h5] at hp5
  have e4 : (2 : Int) ^ (k + 4) = (p4 : Int) := by rw [h4]; simp
  have e5 : (2 : Int) ^ (k + 5) = (p5 : Int) := by rw [h5]; simp
  have w4 : IntKind.u64.wrap (2 ^ (k + 4)) = (p4 : Int) := by rw [e4, wr64]; omega
  have w5 : IntKind.u64.wrap (2 ^ (k + 5)) = (p5 : Int) := by rw [e5, wr64]; omega
  have hpk : pairK k n = if 0 < k ∧ n < p4 then k - 1 else if k < 24 ∧ p5 < n then k + 1 else k := by rw [h4, h5]; rfl
  obtain ⟨r, hr⟩ : ∃ r, r = pairK k n := ⟨_, rfl⟩
  rw [← hr] at hpk ⊢
  have key : (0 < k ∧ n < p4 ∧ r + 1 = k) ∨ (¬ 0 < k ∧ k < 24 ∧ p5 < n ∧ r = k + 1) ∨ (0 < k ∧ ¬ n < p4 ∧ k < 24 ∧ p5 < n ∧ r = k + 1) ∨ (¬ 0 < k ∧ k < 24 ∧ ¬ p5 < n ∧ r = k) ∨ (0 < k ∧ ¬ n < p4 ∧ k < 24 ∧ ¬ p5 < n ∧ r = k) ∨ (0 < k ∧ ¬ n < p4 ∧ ¬ k < 24 ∧ r = k) := by
    rw [hpk]
    by_cases a1 : 0 < k <;> by_cases a2 : n < p4 <;> by_cases a3 : k < 24 <;> by_cases a4 : p5 < n <;> simp [a1, a2, a3, a4] <;> omega
  clear hne hr hpk h4 h5 e4 e5 hni
  rcases key with ⟨a1, a2, a3⟩ | ⟨a1, a2, a3, a4⟩ | ⟨a1, a2, a3, a4, a5⟩ | ⟨a1, a2, a3, a4⟩ | ⟨a1, a2, a3, a4, a5⟩ | ⟨a1, a2, a3, a4⟩
  all_goals
    go_enter Try.func80, Try.ntmps80
    go_wp2
    go_ret2
    exact ⟨by go_num, rfl⟩
end Go.Proofs.Ythbjcjphplgobaa
