/- Contracts of crc64's reference. -/
import Derived.Test.YtgffegcflibclaaCsfQ
import Derived.Laws.BitsAllLaws
namespace Go.Proofs.Ytgffegcflibclaa
open Go.RowKit Cad

theorem csfStep_eq {s : Nat} (hs : s < 18446744073709551616) (b : Bool) : csfStep s b = (2 * s) % 18446744073709551616 ^^^ (if (decide (9223372036854775808 ≤ s)) != b then 0x42f0e1eba9ea3693 else 0) := by
  have hx : s ^^^ (b.toNat * 9223372036854775808) < 18446744073709551616 := Nat.xor_lt_two_pow (n := 64) hs (bit63_lt b)
  have h63 : (b.toNat * 9223372036854775808).testBit 63 = b := by cases b <;> decide
  have hl : ∀ i, i < 63 → (b.toNat * 9223372036854775808).testBit i = false := fun i hi => by
    rw [show b.toNat * 9223372036854775808 = 2 ^ 63 * b.toNat by omega, Nat.testBit_two_pow_mul, decide_eq_false (show ¬ 63 ≤ i by omega)]; rfl
  unfold csfStep csfZ
  have e1 : (2 * (s ^^^ (b.toNat * 9223372036854775808))) % 18446744073709551616 = (2 * s) % 18446744073709551616 := by
    apply Nat.eq_of_testBit_eq
    intro i
    rw [dbl_tb, dbl_tb, Nat.testBit_xor]
    by_cases g : i < 64
    · by_cases g1 : 1 ≤ i
      · rw [hl (i - 1) (by omega)]; simp
      · rw [decide_eq_false g1]; simp
    · rw [decide_eq_false g]; simp
  have e2 : (9223372036854775808 ≤ s ^^^ (b.toNat * 9223372036854775808)) ↔ ((decide (9223372036854775808 ≤ s)) != b) = true := by
    have h1 := top_tb hx
    have h2 := top_tb hs
    rw [Nat.testBit_xor, h63, ← h2] at h1
    rw [← decide_eq_true_iff (p := 9223372036854775808 ≤ s ^^^ (b.toNat * 9223372036854775808)), h1]
  rw [e1]
  by_cases g : 9223372036854775808 ≤ s ^^^ (b.toNat * 9223372036854775808)
  · rw [if_pos g, if_pos (e2.1 g)]
  · rw [if_neg g, if_neg (fun e => g (e2.2 e))]

theorem SRStep_ok (W : World) (s : Nat) (b : Bool) (hs : s < 18446744073709551616) :
    Calls Try.prog 21 #[.int .u64 s, .int .i64 (b.toNat : Nat)] W fun e W' => e = .returned (.int .u64 (csfStep s b : Nat)) ∧ W = W' := by
  have hm : (2 * s) % 18446744073709551616 < 18446744073709551616 := Nat.mod_lt _ (by decide)
  obtain ⟨t, ht⟩ : ∃ t, t = (2 * s) % 18446744073709551616 := ⟨_, rfl⟩
  rw [← ht] at hm
  have hx := Go.u64_xor_nat t 4823603603198064275 hm (by decide)
  rw [show ((4823603603198064275 : Nat) : Int) = (4823603603198064275 : Int) from rfl] at hx
  have htw : IntKind.u64.wrap ((s : Int) * 2) = (t : Int) := by rw [IntKind.wrap_u64]; omega
  obtain ⟨y, hy⟩ : ∃ y, y = t ^^^ 4823603603198064275 := ⟨_, rfl⟩
  rw [← hy] at hx
  obtain ⟨r, hr⟩ : ∃ r, r = csfStep s b := ⟨_, rfl⟩
  rw [← hr]
  rw [csfStep_eq hs, ← ht] at hr
  have hr' := Go.Lib.hid hr
  have hyy := Go.Lib.hid hy
  clear hy hr ht
  by_cases h : 9223372036854775808 ≤ s
  · have h1 : (9223372036854775808 : Int) ≤ (s : Int) := by omega
    have hh := Go.Lib.hid (decide_eq_true h)
    clear h
    cases b
    · go_enter Try.func21, Try.ntmps21
      go_wp2
      go_ret
      exact ⟨ret_int (by rw [hr'.out, hh.out, hyy.out]; simp), rfl⟩
    · go_enter Try.func21, Try.ntmps21
      go_wp2
      go_ret
      exact ⟨ret_int (by rw [hr'.out, hh.out]; simp), rfl⟩
  · have h1 : ¬ (9223372036854775808 : Int) ≤ (s : Int) := by omega
    have hh := Go.Lib.hid (decide_eq_false h)
    clear h
    cases b
    · go_enter Try.func21, Try.ntmps21
      go_wp2
      go_ret
      exact ⟨ret_int (by rw [hr'.out, hh.out]; simp), rfl⟩
    · go_enter Try.func21, Try.ntmps21
      go_wp2
      go_ret
      exact ⟨ret_int (by rw [hr'.out, hh.out, hyy.out]; simp), rfl⟩

theorem csf_take (s c k : Nat) (h : k < 8) : csfBits s ((upB c).take (k + 1)) = csfStep (csfBits s ((upB c).take k)) (c.testBit (7 - k)) := by
  rw [List.take_add_one, List.getElem?_eq_getElem (by rw [upB_len]; exact h)]
  show csfBits s (List.take k (upB c) ++ [(upB c)[k]'_]) = _
  rw [csfBits_app]
  have e : (upB c)[k]'(by rw [upB_len]; exact h) = c.testBit (7 - k) := by
    rw [← upB_getD c k h]
    simp [List.getD, upB_len, h]
  rw [e]; rfl
theorem half128 (k : Nat) : 128 / 2 ^ k / 2 = 128 / 2 ^ (k + 1) := by rw [Nat.div_div_eq_div_mul, Nat.pow_succ]
theorem at128 {k : Nat} (h : k < 8) : 128 / 2 ^ k = 2 ^ (7 - k) := by
  rcases lt8 h with h | h | h | h | h | h | h | h <;> subst h <;> decide

theorem SRByte_ok (W : World) (s c : Nat) (hs : s < 18446744073709551616) (hc : c < 256) :
    Calls Try.prog 19 #[.int .u64 s, .int .u8 c] W fun e W' => e = .returned (.int .u64 (csfByte s c : Nat)) ∧ W = W' := by
  go_enter Try.func19, Try.ntmps19
  go_wp2
  go_loop [0, 5] (fun st d => ∃ k : Nat, k ≤ 8 ∧ st = .int .u64 (csfBits s ((upB c).take k) : Nat) ∧ d = .int .i64 ((128 / 2 ^ k : Nat) : Int)) (fun _ d => (intOf d).toNat)
  case atStart => exact ⟨0, by omega, rfl, rfl⟩
  case round =>
    obtain ⟨k, hk, rfl, rfl⟩ := hrel
    by_cases hlt : k < 8
    · have hst := csfBits_lt ((upB c).take k) hs
      have hn := Go.Lib.hid (csf_take s c k hlt)
      have hh := Go.Lib.hid (half128 k)
      have hy : 1 ≤ 128 / 2 ^ k ∧ 128 / 2 ^ k ≤ 128 := by
        refine ⟨?_, Nat.div_le_self _ _⟩
        rw [at128 hlt]; exact Nat.pow_pos (by decide)
      have hbit : c.testBit (7 - k) = (c / (128 / 2 ^ k) % 2 == 1) := by
        rw [at128 hlt, Nat.testBit_eq_decide_div_mod_eq]; rfl
      obtain ⟨st, hs'⟩ : ∃ x, x = csfBits s ((upB c).take k) := ⟨_, rfl⟩
      obtain ⟨y, hy'⟩ : ∃ x, x = 128 / 2 ^ k := ⟨_, rfl⟩
      rw [← hs'] at hst hn ⊢
      rw [← hy'] at hy hh hbit ⊢
      rw [hbit] at hn
      clear hs' hy' hbit
      obtain ⟨d, hd⟩ : ∃ d, d = c / y := ⟨_, rfl⟩
      rw [← hd] at hn
      have hdI : (c : Int) / (y : Int) = (d : Int) := by rw [hd]; simp
      have hyI : ((y : Int) == 0) = false := by simp; omega
      have hd8 : d ≤ 255 := by rw [hd]; exact Nat.le_trans (Nat.div_le_self _ _) (by omega)
      have hcall : Hid (Calls Try.prog 21 #[.int .u64 st, .int .i64 ((d : Int) % 2)] W fun e W' => e = .returned (.int .u64 (csfStep st (d % 2 == 1) : Nat)) ∧ W = W') := Go.Lib.hid (by
        have := SRStep_ok W st (d % 2 == 1) hst
        have e : (((d % 2 == 1).toNat : Nat) : Int) = (d : Int) % 2 := by
          rcases (show d % 2 = 0 ∨ d % 2 = 1 by omega) with h | h <;> rw [h] <;> simp <;> omega
        rwa [e] at this)
      clear hd
      go_wp2_with (go_at_call 21; refine hcall.out.mono ?_; rintro e w1 ⟨rfl, rfl⟩)
      go_round
      case rel => exact ⟨k + 1, by omega, by rw [hn.out], by rw [← hh.out]; simp⟩
      case measure => (simp [intOf] <;> omega)
    · obtain rfl : k = 8 := by omega
      rw [List.take_of_length_le (by rw [upB_len]; decide)]
      go_wp2
      go_ret
      exact ⟨rfl, rfl⟩

theorem SRBehind_ok (W : World) (s : Nat) (a : Option Addr) (len cap : Nat) (l : List Int) (hr : Row .u8 W a len cap l) (hs : s < 18446744073709551616) :
    Calls Try.prog 17 #[.int .u64 s, .slice a len cap] W fun e W' => e = .returned (.int .u64 (csfB s l : Nat)) ∧ W = W' := by
  have hmx := Nat.le_trans hr.hcap hr.hmax
  unfold maxLen at hmx
  have hlen := Go.Lib.hid hr.hlen
  have hr' := Go.Lib.hid hr
  clear hr
  go_enter Try.func17, Try.ntmps17
  go_wp2
  go_loop [0, 5] (fun st i => ∃ k : Nat, k ≤ len ∧ i = .int .i64 k ∧ st = .int .u64 (csfB s (l.take k) : Nat)) (fun _ i => len - (intOf i).toNat)
  case atStart => exact ⟨0, by omega, rfl, rfl⟩
  case round =>
    obtain ⟨k, hk, rfl, rfl⟩ := hrel
    by_cases hlt : k < len
    · obtain ⟨b, off, rfl, _, hc⟩ := hr'.out.cells (by omega)
      have hcell := hc k hlt
      have hn := Go.Lib.hid (csfB_snoc s l (k := k) (by rw [hlen.out]; exact hlt))
      have hst := csfB_lt (l.take k) hs
      have hb : 0 ≤ l.getD k 0 ∧ l.getD k 0 ≤ 255 := by
        have := bounds_u8 (hr'.out.wf _ (show l.getD k 0 ∈ l by rw [show l.getD k 0 = l[k]'(by rw [hlen.out]; exact hlt) by simp [List.getD, hlen.out, hlt]]; exact List.getElem_mem _))
        exact this
      obtain ⟨st, hs'⟩ : ∃ x, x = csfB s (l.take k) := ⟨_, rfl⟩
      obtain ⟨c, hcc⟩ : ∃ c : Nat, l.getD k 0 = c := ⟨(l.getD k 0).toNat, by omega⟩
      rw [hcc] at hcell hn hb
      rw [← hs'] at hst hn ⊢
      have hc8 : c < 256 := by omega
      clear hs' hcc hc hb
      go_wp2_with (go_at_call 19; refine (SRByte_ok _ st c hst hc8).mono ?_; rintro e w1 ⟨rfl, rfl⟩)
      go_round
      case rel => exact ⟨k + 1, by omega, by go_num, by rw [hn.out]; simp⟩
      case measure => (simp [intOf] <;> omega)
    · obtain rfl : k = len := by omega
      rw [List.take_of_length_le (by rw [hlen.out]; omega)]
      go_wp2
      go_ret
      exact ⟨rfl, rfl⟩

theorem SRNext_many (W : World) (s : Int) (a : Option Addr) (len cap : Nat) (h : (100000 : Int) < len) (hm : len ≤ 9223372036854775807) :
    Calls Try.prog 14 #[.int .u64 s, .slice a len cap] W fun e W' => e = .returned (.tuple #[.int .u64 0, .int .i64 4]) ∧ W = W' := by
  go_enter Try.func14, Try.ntmps14
  go_wp2
  go_ret2
  exact ⟨rfl, rfl⟩
theorem SRNext_ok (W : World) (s : Nat) (a : Option Addr) (len cap : Nat) (l : List Int) (hr : Row .u8 W a len cap l) (hs : s < 18446744073709551616) (h : (len : Int) ≤ 100000) :
    Calls Try.prog 14 #[.int .u64 s, .slice a len cap] W fun e W' => e = .returned (.tuple #[.int .u64 (csfB s l : Nat), .int .i64 0]) ∧ W = W' := by
  have hc := Go.Lib.hid (SRBehind_ok W s a len cap l hr hs)
  clear hr
  go_enter Try.func14, Try.ntmps14
  go_wp2_with (go_at_call 17; refine hc.out.mono ?_; rintro e w1 ⟨rfl, rfl⟩)
  go_ret2
  exact ⟨rfl, rfl⟩
theorem SRSum_many (W : World) (a : Option Addr) (len cap : Nat) (h : (100000 : Int) < len) (hm : len ≤ 9223372036854775807) :
    Calls Try.prog 15 #[.slice a len cap] W fun e W' => e = .returned (.tuple #[.int .u64 0, .int .i64 4]) ∧ W = W' := by
  have hc := Go.Lib.hid (SRNext_many W 0 a len cap h hm)
  go_enter Try.func15, Try.ntmps15
  go_wp2_with (go_at_call 14; refine hc.out.mono ?_; rintro e w1 ⟨rfl, rfl⟩)
  go_ret2
  exact ⟨rfl, rfl⟩
theorem SRSum_ok (W : World) (a : Option Addr) (len cap : Nat) (l : List Int) (hr : Row .u8 W a len cap l) (h : (len : Int) ≤ 100000) :
    Calls Try.prog 15 #[.slice a len cap] W fun e W' => e = .returned (.tuple #[.int .u64 (csfB 0 l : Nat), .int .i64 0]) ∧ W = W' := by
  have hc : Hid (Calls Try.prog 14 #[.int .u64 0, .slice a len cap] W fun e W' => e = .returned (.tuple #[.int .u64 (csfB 0 l : Nat), .int .i64 0]) ∧ W = W') := Go.Lib.hid (SRNext_ok W 0 a len cap l hr (by decide) h)
  clear hr
  go_enter Try.func15, Try.ntmps15
  go_wp2_with (go_at_call 14; refine hc.out.mono ?_; rintro e w1 ⟨rfl, rfl⟩)
  go_ret2
  exact ⟨rfl, rfl⟩


def csfGreat (len : Nat) : Bool := decide (1000 < len ∧ len ≤ 100000 ∨ 100100 < len)
theorem SRGreat_ok (W : World) (a : Option Addr) (len cap : Nat) (hm : len ≤ 9223372036854775807) :
    Calls Try.prog 13 #[.slice a len cap] W fun e W' => e = .returned (.bool (csfGreat len)) ∧ W = W' := by
  by_cases h1 : (1000 : Int) < len
  · by_cases h2 : (len : Int) ≤ 100000
    · rw [show csfGreat len = true from decide_eq_true (by omega)]
      go_enter Try.func13, Try.ntmps13
      go_wp2
      go_ret
      exact ⟨rfl, rfl⟩
    · by_cases h3 : (100100 : Int) < len
      · rw [show csfGreat len = true from decide_eq_true (by omega)]
        go_enter Try.func13, Try.ntmps13
        go_wp2
        go_ret
        exact ⟨rfl, rfl⟩
      · rw [show csfGreat len = false from decide_eq_false (by omega)]
        go_enter Try.func13, Try.ntmps13
        go_wp2
        go_ret
        exact ⟨rfl, rfl⟩
  · have h3 : ¬ (100100 : Int) < len := by omega
    rw [show csfGreat len = false from decide_eq_false (by omega)]
    go_enter Try.func13, Try.ntmps13
    go_wp2
    go_ret
    exact ⟨rfl, rfl⟩
end Go.Proofs.Ytgffegcflibclaa
