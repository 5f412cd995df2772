/- Texts of the proof, one behind the other: LeC, CrcR, MyCrc, CsfR, MyCsfA, MyCsfH, MyCsf, FolA. -/
import Derived.Test.YtbegifpnbbpinaaZ5
import Derived.Laws.BitsAllLaws
import Derived.Laws.Rows
import Derived.Laws.Tables
import Derived.Laws.CopyOwn
/- Contracts of the functions of le's reference that make bytes; the functions At. -/
namespace Go.Proofs.Ytbegifpnbbpinaa
open Go.RowKit CadL

theorem At_no (W : World) (a : Option Addr) (len cap : Nat) (at_ w : Int) (h : ¬ (1 ≤ w ∧ w ≤ 8)) :
    Calls Try.prog 34 #[.slice a len cap, .int .i64 at_, .int .i64 w] W fun e W' => e = .returned (.tuple #[.int .u64 0, .int .i64 2]) ∧ W = W' := by
  go_enter Try.func34, Try.ntmps34
  go_wp2_with (go_at_call 46; refine (isWidth_no _ _ h).mono ?_; rintro e w1 ⟨rfl, rfl⟩)
  go_ret2
  exact ⟨rfl, rfl⟩
theorem At_neg (W : World) (a : Option Addr) (len cap : Nat) (at_ w : Int) (h : 1 ≤ w ∧ w ≤ 8) (h0 : at_ < 0) :
    Calls Try.prog 34 #[.slice a len cap, .int .i64 at_, .int .i64 w] W fun e W' => e = .returned (.tuple #[.int .u64 0, .int .i64 2]) ∧ W = W' := by
  go_enter Try.func34, Try.ntmps34
  go_wp2_with (go_at_call 46; refine (isWidth_yes _ _ (by omega) (by omega)).mono ?_; rintro e w1 ⟨rfl, rfl⟩)
  go_ret2
  exact ⟨rfl, rfl⟩
theorem At_short (W : World) (a : Option Addr) (len cap : Nat) (at_ w : Int) (h : 1 ≤ w ∧ w ≤ 8) (h0 : 0 ≤ at_) (hl : len ≤ 9223372036854775807) (hs : (len : Int) < at_ + w) :
    Calls Try.prog 34 #[.slice a len cap, .int .i64 at_, .int .i64 w] W fun e W' => e = .returned (.tuple #[.int .u64 0, .int .i64 24]) ∧ W = W' := by
  go_enter Try.func34, Try.ntmps34
  go_wp2_with (go_at_call 46; refine (isWidth_yes _ _ (by omega) (by omega)).mono ?_; rintro e w1 ⟨rfl, rfl⟩)
  go_ret2
  exact ⟨rfl, rfl⟩
theorem At_ok (W : World) (a : Option Addr) (len cap : Nat) (l : List Int) (at_ w : Nat) (hr : Row .u8 W a len cap l) (h : 1 ≤ w ∧ w ≤ 8) (hl : len ≤ 9223372036854775807) (hs : at_ + w ≤ len) :
    Calls Try.prog 34 #[.slice a len cap, .int .i64 at_, .int .i64 w] W fun e W' => e = .returned (.tuple #[.int .u64 (ofB ((l.drop at_).take w)), .int .i64 0]) ∧ W = W' := by
  obtain ⟨b, off, rfl, _, _⟩ := hr.cells (by omega)
  have hr' := hr.sub at_ w hs
  have hcap := hr.hcap
  have hmax := hr.hmax
  unfold maxLen at hmax
  have hne : (cap = at_) = False := by simp; omega
  go_enter Try.func34, Try.ntmps34
  go_wp2_with (first | (go_at_call 46; refine (isWidth_yes _ _ (by omega) (by omega)).mono ?_; rintro e w1 ⟨rfl, rfl⟩) | (go_at_call 51; refine (join_any _ _ _ _ _ hr' (by omega) (by omega)).mono ?_; rintro e w1 ⟨rfl, rfl⟩))
  go_ret2
  exact ⟨rfl, rfl⟩

end Go.Proofs.Ytbegifpnbbpinaa

/- Contracts of crc32's reference. -/
namespace Go.Proofs.Ytbegifpnbbpinaa
open Go.RowKit Cad

theorem crcStep_eq (s : Nat) (b : Bool) : crcStep s b = s / 2 ^^^ (if (s % 2 == 1) != b then 3988292384 else 0) := by
  unfold crcStep crcZ
  rw [xor_div2, xor_mod2, show b.toNat / 2 = 0 by cases b <;> rfl, Nat.xor_zero]
  congr 1
  rcases (show s % 2 = 0 ∨ s % 2 = 1 by omega) with h | h <;> cases b <;> simp [h]

/-- the sum of bytes -/
def crcSum (l : List Int) : Nat := 4294967295 - crcB 4294967295 l
def crcGreat (len : Nat) : Bool := decide (1000 < len ∧ len ≤ 100000 ∨ 100100 < len)
end Go.Proofs.Ytbegifpnbbpinaa

/- Contracts of the package crc32 (the true code). -/
namespace Go.Proofs.Ytbegifpnbbpinaa
open Go.RowKit Cad

def crcTab : List Int := (List.range 256).map fun i => (crcByte 0 i : Int)
theorem crcTab_len : crcTab.length = 256 := by simp [crcTab]
theorem crcTab_getD {i : Nat} (h : i < 256) : crcTab.getD i 0 = (crcByte 0 i : Nat) := by simp [crcTab, List.getD, h]
theorem crcTab_snoc {k : Nat} (h : k < 256) : crcTab.take (k + 1) = crcTab.take k ++ [(crcByte 0 k : Int)] := by
  rw [List.take_add_one, List.getElem?_eq_getElem (by rw [crcTab_len]; exact h)]
  simp [crcTab]

attribute [irreducible] crcTab

theorem iterZ_last : ∀ (k s : Nat), iterZ (k + 1) s = crcZ (iterZ k s)
  | 0, _ => rfl
  | k + 1, s => by rw [iterZ, iterZ_last k, iterZ]
theorem iterZ_lt : ∀ (k : Nat) {s : Nat}, s < 4294967296 → iterZ k s < 4294967296
  | 0, _, h => h
  | k + 1, _, h => iterZ_lt k (crcZ_lt h)

theorem CBehind_ok (W : World) (s c : Nat) (hs : s < 4294967296) (hc : c < 256) :
    Calls Try.prog 48 #[.int .u32 s, .int .u8 c] W fun e W' => e = .returned (.int .u32 (crcByte s c : Nat)) ∧ W = W' := by
  have hx := Go.u32_xor_nat s c hs (by omega)
  have hxl : s ^^^ c < 4294967296 := Nat.xor_lt_two_pow (n := 32) hs (by omega)
  have hit := Go.Lib.hid (crcByte_iter s c hc)
  obtain ⟨x, hxd⟩ : ∃ x, x = s ^^^ c := ⟨_, rfl⟩
  rw [← hxd] at hx hxl hit
  clear hxd
  go_enter Try.func48, Try.ntmps48
  go_wp2
  go_loop [0, 9] (fun st i => ∃ k : Nat, k ≤ 8 ∧ i = .int .i64 k ∧ st = .int .u32 (iterZ k x : Nat)) (fun _ i => 8 - (intOf i).toNat)
  case atStart => exact ⟨0, by omega, rfl, rfl⟩
  case round =>
    clear hx
    obtain ⟨k, hk, rfl, rfl⟩ := hrel
    by_cases hlt : k < 8
    · have hst := iterZ_lt k hxl
      have hn := Go.Lib.hid (iterZ_last k x)
      obtain ⟨st, hs'⟩ : ∃ y, y = iterZ k x := ⟨_, rfl⟩
      rw [← hs'] at hst hn ⊢
      clear hs' hit
      rcases (show st % 2 = 0 ∨ st % 2 = 1 by omega) with h | h
      · have e1 : bits .and .u32 (st : Int) 1 = 0 := by
          have := Go.u32_and_nat st 1 hst (by decide)
          rw [show ((1 : Nat) : Int) = 1 from rfl] at this
          rw [this, Nat.and_one_is_mod, h]; rfl
        have e2 : bits .and .u32 3988292384 0 = 0 := by
          have := Go.u32_and_nat 3988292384 0 (by decide) (by decide)
          simpa using this
        have e3 : bits .xor .u32 ((st : Int) / 2) 0 = (st : Int) / 2 := by
          have := Go.u32_xor_nat (st / 2) 0 (by omega) (by decide)
          simpa using this
        have hz := Go.Lib.hid (show crcZ st = st / 2 by unfold crcZ; rw [if_neg (by omega)]; simp)
        clear h
        go_wp2
        go_round
        case rel => exact ⟨k + 1, by omega, by go_num, by rw [hn.out, hz.out]; simp⟩
        case measure => (simp [intOf] <;> omega)
      · have e1 : bits .and .u32 (st : Int) 1 = 1 := by
          have := Go.u32_and_nat st 1 hst (by decide)
          rw [show ((1 : Nat) : Int) = 1 from rfl] at this
          rw [this, Nat.and_one_is_mod, h]; rfl
        have e2 : bits .and .u32 3988292384 4294967295 = 3988292384 := by
          have := Go.u32_and_nat 3988292384 4294967295 (by decide) (by decide)
          simpa using this
        have hx := Go.u32_xor_nat (st / 2) 3988292384 (by omega) (by decide)
        rw [show ((3988292384 : Nat) : Int) = (3988292384 : Int) from rfl, show ((st / 2 : Nat) : Int) = (st : Int) / 2 by simp] at hx
        have hz := Go.Lib.hid (show crcZ st = st / 2 ^^^ 3988292384 by unfold crcZ; rw [if_pos h])
        obtain ⟨y, hy⟩ : ∃ y, y = st / 2 ^^^ 3988292384 := ⟨_, rfl⟩
        rw [← hy] at hx hz
        clear h hy
        go_wp2
        go_round
        case rel => exact ⟨k + 1, by omega, by go_num, by rw [hn.out, hz.out]⟩
        case measure => (simp [intOf] <;> omega)
    · obtain rfl : k = 8 := by omega
      go_wp2
      go_ret
      exact ⟨ret_int (by rw [hit.out]), rfl⟩

def tabTo (k : Nat) : List Int := crcTab.take k ++ List.replicate (256 - k) 0
theorem tabTo_0 : tabTo 0 = List.replicate 256 0 := by unfold tabTo; rw [List.take_zero, List.nil_append]
theorem tabTo_256 : tabTo 256 = crcTab := by unfold tabTo; rw [List.take_of_length_le (by rw [crcTab_len]; exact Nat.le_refl _), Nat.sub_self, List.replicate_zero, List.append_nil]
theorem tabTo_len {k : Nat} (h : k ≤ 256) : (tabTo k).length = 256 := by unfold tabTo; rw [List.length_append, List.length_take, crcTab_len, List.length_replicate]; omega
theorem tabTo_set {k : Nat} (h : k < 256) : (tabTo k).set k (crcByte 0 k : Nat) = tabTo (k + 1) := by
  unfold tabTo
  rw [crcTab_snoc h, show 256 - k = (256 - (k + 1)) + 1 by omega, List.replicate_succ, List.set_append_right _ _ (by rw [List.length_take, crcTab_len]; omega)]
  rw [show k - (List.take k crcTab).length = 0 by rw [List.length_take, crcTab_len]; omega]
  simp
attribute [irreducible] tabTo

theorem CNext_many (W : World) (s : Int) (a : Option Addr) (len cap : Nat) (h : (100000 : Int) < len) (hm : len ≤ 9223372036854775807) :
    Calls Try.prog 29 #[.int .u32 s, .slice a len cap] W fun e W' => e = .returned (.tuple #[.int .u32 0, .int .i64 4]) ∧ Below W.heap.size W W' := by
  go_enter Try.func29, Try.ntmps29
  go_wp2
  go_ret2
  exact ⟨rfl, Below.refl _ _⟩
theorem CNext_ok (W : World) (s : Nat) (a : Option Addr) (len cap : Nat) (l : List Int) (hr : Row .u8 W a len cap l) (hs : s < 4294967296) (h : (len : Int) ≤ 100000) :
    Calls Try.prog 29 #[.int .u32 s, .slice a len cap] W fun e W' => e = .returned (.tuple #[.int .u32 (crcB s l : Nat), .int .i64 0]) ∧ Below W.heap.size W W' := by
  have hmx := Nat.le_trans hr.hcap hr.hmax
  unfold maxLen at hmx
  have hlen := Go.Lib.hid hr.hlen
  have hr' := Go.Lib.hid hr
  clear hr
  go_enter Try.func29, Try.ntmps29
  go_wp2
  go_loop [0, 7, 13] (fun st x i => ∃ k : Nat, k ≤ len ∧ i = .int .i64 k ∧ st = .int .u32 (crcB s (l.take k) : Nat)) (fun _ _ i => len - (intOf i).toNat)
  case atStart => exact ⟨0, by omega, rfl, rfl⟩
  case round =>
    obtain ⟨k, hk, rfl, rfl⟩ := hrel
    by_cases hlt : k < len
    · obtain ⟨b, off, rfl, _, hc⟩ := hr'.out.cells (by omega)
      have hcell := hc k hlt
      have hn := Go.Lib.hid (crcB_snoc s l (k := k) (by rw [hlen.out]; exact hlt))
      have hst := crcB_lt (l.take k) hs
      have hb : 0 ≤ l.getD k 0 ∧ l.getD k 0 ≤ 255 := by
        have := bounds_u8 (hr'.out.wf _ (show l.getD k 0 ∈ l by rw [show l.getD k 0 = l[k]'(by rw [hlen.out]; exact hlt) by simp [List.getD, hlen.out, hlt]]; exact List.getElem_mem _))
        exact this
      obtain ⟨st, hs'⟩ : ∃ x, x = crcB s (l.take k) := ⟨_, rfl⟩
      obtain ⟨c, hcc⟩ : ∃ c : Nat, l.getD k 0 = c := ⟨(l.getD k 0).toNat, by omega⟩
      rw [hcc] at hcell hn hb
      rw [← hs'] at hst hn ⊢
      have hc8 : c < 256 := by omega
      clear hs' hcc hc hb
      go_wp2_with (go_at_call 48; refine (CBehind_ok _ st c hst hc8).mono ?_; rintro e w1 ⟨rfl, rfl⟩)
      go_round
      case rel => exact ⟨k + 1, by omega, by go_num, by rw [hn.out]; simp⟩
      case measure => (simp [intOf] <;> omega)
    · obtain rfl : k = len := by omega
      rw [List.take_of_length_le (by rw [hlen.out]; omega)]
      go_wp2
      go_ret2
      exact ⟨rfl, Below.refl _ _⟩
theorem ones_xor {x : Nat} (h : x < 4294967296) : 4294967295 ^^^ x = 4294967295 - x := by
  apply Nat.eq_of_testBit_eq
  intro i
  rw [Nat.testBit_xor, show 4294967295 - x = 2 ^ 32 - (x + 1) by omega, Nat.testBit_two_pow_sub_succ (by omega), show (4294967295 : Nat) = 2 ^ 32 - 1 by decide, Nat.testBit_two_pow_sub_one]
  by_cases hi : i < 32
  · simp [hi]
  · simp only [hi, decide_false, Bool.false_xor, Bool.false_and]
    exact Nat.testBit_lt_two_pow (Nat.lt_of_lt_of_le h (by calc 4294967296 = 2 ^ 32 := by decide
      _ ≤ 2 ^ i := Nat.pow_le_pow_right (by decide) (by omega)))
theorem CSum_many (W : World) (a : Option Addr) (len cap : Nat) (h : (100000 : Int) < len) (hm : len ≤ 9223372036854775807) :
    Calls Try.prog 31 #[.slice a len cap] W fun e W' => e = .returned (.tuple #[.int .u32 0, .int .i64 4]) ∧ Below W.heap.size W W' := by
  have hc := Go.Lib.hid (CNext_many W 4294967295 a len cap h hm)
  go_enter Try.func31, Try.ntmps31
  go_wp2_with (go_at_call 29; refine hc.out.mono ?_; rintro e w1 ⟨rfl, hb1⟩)
  go_ret2
  exact ⟨rfl, hb1⟩
theorem CSum_ok (W : World) (a : Option Addr) (len cap : Nat) (l : List Int) (hr : Row .u8 W a len cap l) (h : (len : Int) ≤ 100000) :
    Calls Try.prog 31 #[.slice a len cap] W fun e W' => e = .returned (.tuple #[.int .u32 (crcSum l : Nat), .int .i64 0]) ∧ Below W.heap.size W W' := by
  have hc := Go.Lib.hid (CNext_ok W 4294967295 a len cap l hr (by decide) h)
  have hlt := crcB_lt l (s := 4294967295) (by decide)
  have e := Go.Lib.hid (show crcSum l = 4294967295 - crcB 4294967295 l from rfl)
  obtain ⟨x, hx⟩ : ∃ x, x = crcB 4294967295 l := ⟨_, rfl⟩
  rw [← hx] at hc hlt e
  have hn : bits .xor .u32 IntKind.u32.max (x : Int) = ((4294967295 - x : Nat) : Int) := by
    have := Go.u32_xor_nat 4294967295 x (by decide) hlt
    rw [ones_xor hlt] at this
    exact this
  clear hr hx
  go_enter Try.func31, Try.ntmps31
  go_wp2_with (go_at_call 29; refine hc.out.mono ?_; rintro e w1 ⟨rfl, hb1⟩)
  go_ret2
  exact ⟨congrArg (fun z => Ending.returned (.tuple #[.int .u32 z, .int .i64 0])) (by rw [e.out]), hb1⟩
end Go.Proofs.Ytbegifpnbbpinaa

/- Contracts of crc64's reference. -/
namespace Go.Proofs.Ytbegifpnbbpinaa
open Go.RowKit Cad

theorem csfStep_eq {s : Nat} (hs : s < 18446744073709551616) (b : Bool) : csfStep s b = (2 * s) % 18446744073709551616 ^^^ (if (decide (9223372036854775808 ≤ s)) != b then 0x42f0e1eba9ea3693 else 0) := by
  have hx : s ^^^ (b.toNat * 9223372036854775808) < 18446744073709551616 := Nat.xor_lt_two_pow (n := 64) hs (bit63_lt b)
  have h63 : (b.toNat * 9223372036854775808).testBit 63 = b := by cases b <;> decide
  have hl : ∀ i, i < 63 → (b.toNat * 9223372036854775808).testBit i = false := fun i hi => by
    rw [show b.toNat * 9223372036854775808 = 2 ^ 63 * b.toNat by omega, Nat.testBit_two_pow_mul, decide_eq_false (show ¬ 63 ≤ i by omega)]; rfl
  unfold csfStep csfZ
  have e1 : (2 * (s ^^^ (b.toNat * 9223372036854775808))) % 18446744073709551616 = (2 * s) % 18446744073709551616 := by
    apply Nat.eq_of_testBit_eq
    intro i
    rw [dbl_tb, dbl_tb, Nat.testBit_xor]
    by_cases g : i < 64
    · by_cases g1 : 1 ≤ i
      · rw [hl (i - 1) (by omega)]; simp
      · rw [decide_eq_false g1]; simp
    · rw [decide_eq_false g]; simp
  have e2 : (9223372036854775808 ≤ s ^^^ (b.toNat * 9223372036854775808)) ↔ ((decide (9223372036854775808 ≤ s)) != b) = true := by
    have h1 := top_tb hx
    have h2 := top_tb hs
    rw [Nat.testBit_xor, h63, ← h2] at h1
    rw [← decide_eq_true_iff (p := 9223372036854775808 ≤ s ^^^ (b.toNat * 9223372036854775808)), h1]
  rw [e1]
  by_cases g : 9223372036854775808 ≤ s ^^^ (b.toNat * 9223372036854775808)
  · rw [if_pos g, if_pos (e2.1 g)]
  · rw [if_neg g, if_neg (fun e => g (e2.2 e))]

theorem csf_take (s c k : Nat) (h : k < 8) : csfBits s ((upB c).take (k + 1)) = csfStep (csfBits s ((upB c).take k)) (c.testBit (7 - k)) := by
  rw [List.take_add_one, List.getElem?_eq_getElem (by rw [upB_len]; exact h)]
  show csfBits s (List.take k (upB c) ++ [(upB c)[k]'_]) = _
  rw [csfBits_app]
  have e : (upB c)[k]'(by rw [upB_len]; exact h) = c.testBit (7 - k) := by
    rw [← upB_getD c k h]
    simp [List.getD, upB_len, h]
  rw [e]; rfl
theorem half128 (k : Nat) : 128 / 2 ^ k / 2 = 128 / 2 ^ (k + 1) := by rw [Nat.div_div_eq_div_mul, Nat.pow_succ]
theorem at128 {k : Nat} (h : k < 8) : 128 / 2 ^ k = 2 ^ (7 - k) := by
  rcases lt8 h with h | h | h | h | h | h | h | h <;> subst h <;> decide

def csfGreat (len : Nat) : Bool := decide (1000 < len ∧ len ≤ 100000 ∨ 100100 < len)
end Go.Proofs.Ytbegifpnbbpinaa

/- Contracts of the package crc64 (the true code): a step, halves of a byte. -/
namespace Go.Proofs.Ytbegifpnbbpinaa
open Go.RowKit Cad

theorem CStep_one (W : World) (s b x : Nat) (hs : s < 18446744073709551616) (hb : b = 0 ∨ b = 1) (hx : x < 18446744073709551616) (e : bits .xor .u64 (s : Int) ((b : Int) * 9223372036854775808) = (x : Int)) :
    Calls Try.prog 59 #[.int .u64 s, .int .u64 b] W fun e W' => e = .returned (.int .u64 (csfZ x : Nat)) ∧ W = W' := by
  rcases (show x < 9223372036854775808 ∨ 9223372036854775808 ≤ x by omega) with h | h
  · have e2 : bits .and .u64 4823603603198064275 0 = 0 := by
      have := Go.u64_and_nat 4823603603198064275 0 (by decide) (by decide)
      simpa using this
    have e3 : bits .xor .u64 ((x : Int) * 2) 0 = (x : Int) * 2 := by
      have := Go.u64_xor_nat (x * 2) 0 (by omega) (by decide)
      simpa using this
    have hq : (x : Int) / 9223372036854775808 = 0 := by omega
    have hz := Go.Lib.hid (show csfZ x = x * 2 by rw [csfZ_half (by omega)]; omega)
    rcases hb with rfl | rfl
    · simp only [Int.natCast_zero, Int.zero_mul] at e ⊢
      go_enter Try.func59, Try.ntmps59
      go_wp2
      go_ret
      exact ⟨ret_int (by rw [hz.out]; simp), rfl⟩
    · simp only [Int.natCast_one, Int.one_mul] at e ⊢
      go_enter Try.func59, Try.ntmps59
      go_wp2
      go_ret
      exact ⟨ret_int (by rw [hz.out]; simp), rfl⟩
  · have e2 : bits .and .u64 4823603603198064275 18446744073709551615 = 4823603603198064275 := by
      have := Go.u64_and_nat 4823603603198064275 18446744073709551615 (by decide) (by decide)
      simpa using this
    obtain ⟨y, hy⟩ : ∃ y, y = (2 * x) % 18446744073709551616 := ⟨_, rfl⟩
    have hyx : (y : Int) + 18446744073709551616 = (x : Int) * 2 := by omega
    have e3 : bits .xor .u64 (y : Int) 4823603603198064275 = ((y ^^^ 4823603603198064275 : Nat) : Int) := by
      have := Go.u64_xor_nat y 4823603603198064275 (by omega) (by decide)
      simpa using this
    have hq : (x : Int) / 9223372036854775808 = 1 := by omega
    have hz := Go.Lib.hid (show csfZ x = y ^^^ 4823603603198064275 by unfold csfZ; rw [if_pos h, hy])
    have w1 : IntKind.u64.wrap ((x : Int) * 2) = (y : Int) := by rw [hy]; simp [IntKind.wrap, IntKind.signed, IntKind.bits]; omega
    have w2 : IntKind.u64.wrap (-1) = 18446744073709551615 := by decide
    clear hy
    rcases hb with rfl | rfl
    · simp only [Int.natCast_zero, Int.zero_mul] at e ⊢
      go_enter Try.func59, Try.ntmps59
      go_wp2
      go_ret
      exact ⟨ret_int (by rw [hz.out]), rfl⟩
    · simp only [Int.natCast_one, Int.one_mul] at e ⊢
      go_enter Try.func59, Try.ntmps59
      go_wp2
      go_ret
      exact ⟨ret_int (by rw [hz.out]), rfl⟩

/-- the bits of half a byte, the highest one first -/
def upN (h : Nat) : List Bool := (numB h 4).reverse
def nib (h : Nat) : Nat := csfBits 0 (upN h)
theorem upN_step : ∀ i < 16, upN (i / 2) = false :: (upN (i / 2)).drop 1 ∧ upN i = (upN (i / 2)).drop 1 ++ [decide (i % 2 = 1)] := by decide
theorem nib_step {i : Nat} (h : i < 16) : nib i = csfStep (nib (i / 2)) (decide (i % 2 = 1)) := by
  obtain ⟨h1, h2⟩ := upN_step i h
  unfold nib
  rw [h2, h1]
  obtain ⟨L, hL⟩ : ∃ L, L = (upN (i / 2)).drop 1 := ⟨_, rfl⟩
  rw [← hL]
  show csfBits 0 (L ++ [decide (i % 2 = 1)]) = csfStep (csfBits (csfStep 0 false) L) _
  rw [csfBits_app, show csfStep 0 false = 0 by decide]
  rfl
theorem nib_zero : nib 0 = 0 := by decide
theorem nib_lt (h : Nat) : nib h < 18446744073709551616 := csfBits_lt _ (by decide)
theorem upB_half : ∀ c < 256, upB c = upN (c / 16) ++ upN (c % 16) := by decide +kernel
theorem upN_len (h : Nat) : (upN h).length = 4 := by simp [upN, numB_len]
theorem topN : ∀ h < 16, topB (upN h) = h * 1152921504606846976 := by decide
/-- four steps at once: the highest bits and the half go through the table together -/
theorem half_step {s h : Nat} (hs : s < 18446744073709551616) (hh : h < 16) : csfBits s (upN h) = (s * 16) % 18446744073709551616 ^^^ nib ((s / 1152921504606846976) ^^^ h) := by
  have hx : (s / 1152921504606846976) ^^^ h < 16 := Nat.xor_lt_two_pow (n := 4) (by omega) hh
  obtain ⟨x, hxd⟩ : ∃ x, x = (s / 1152921504606846976) ^^^ h := ⟨_, rfl⟩
  rw [← hxd] at hx ⊢
  have e1 : s ^^^ (h * 1152921504606846976) = (s % 1152921504606846976) ^^^ (x * 1152921504606846976) := by
    apply Nat.eq_of_testBit_eq
    intro i
    rw [Nat.testBit_xor, Nat.testBit_xor, hxd, show (1152921504606846976 : Nat) = 2 ^ 60 by decide, Nat.testBit_mod_two_pow, Nat.mul_comm h, Nat.mul_comm _ (2 ^ 60), Nat.testBit_two_pow_mul, Nat.testBit_two_pow_mul, Nat.testBit_xor, Nat.testBit_div_two_pow]
    by_cases g : 60 ≤ i
    · simp [g, show ¬ i < 60 by omega, show 60 + (i - 60) = i by omega, show i - 60 + 60 = i by omega]
    · simp [g, show i < 60 by omega]
  have ex : x * 1152921504606846976 < 18446744073709551616 := by omega
  have em : s % 1152921504606846976 < 18446744073709551616 := by omega
  have e4 : iterY 4 (s % 1152921504606846976) = (s * 16) % 18446744073709551616 := by
    obtain ⟨m, hm⟩ : ∃ m, m = s % 1152921504606846976 := ⟨_, rfl⟩
    have hm2 : m < 1152921504606846976 := by omega
    have hm3 : (s * 16) % 18446744073709551616 = m * 16 := by omega
    rw [← hm, hm3]
    show csfZ (csfZ (csfZ (csfZ m))) = _
    rw [csfZ_half (m := m) (by omega), csfZ_half (m := 2 * m) (by omega), csfZ_half (m := 2 * (2 * m)) (by omega), csfZ_half (m := 2 * (2 * (2 * m))) (by omega)]
    omega
  rw [csfBits_iter _ _ hs (by rw [upN_len]; decide), upN_len, topN h hh, e1, iterY_xor 4 em ex, e4]
  unfold nib
  rw [csfBits_iter _ 0 (by decide) (by rw [upN_len]; decide), upN_len, topN x hx, Nat.zero_xor]
theorem byte_half {s c : Nat} (hc : c < 256) : csfByte s c = csfBits (csfBits s (upN (c / 16))) (upN (c % 16)) := by
  unfold csfByte
  rw [upB_half c hc, csfBits_app]
end Go.Proofs.Ytbegifpnbbpinaa

/- crc64.halves: the states behind all halves of a byte, an array by value. -/
namespace Go.Proofs.Ytbegifpnbbpinaa
open Go.RowKit Cad

def nibTab : List Int := (List.range 16).map fun i => (nib i : Int)
theorem nibTab_len : nibTab.length = 16 := by simp [nibTab]
theorem nibTab_getD {i : Nat} (h : i < 16) : nibTab.getD i 0 = (nib i : Nat) := by simp [nibTab, List.getD, h]
def nibTo (k : Nat) : List Int := nibTab.take k ++ List.replicate (16 - k) 0
theorem nibTo_16 : nibTo 16 = nibTab := by unfold nibTo; rw [List.take_of_length_le (by rw [nibTab_len]; exact Nat.le_refl _), Nat.sub_self, List.replicate_zero, List.append_nil]
theorem nibTo_0 : nibTo 0 = List.replicate 16 0 := by unfold nibTo; rw [List.take_zero, List.nil_append]
theorem nibTo_len {k : Nat} (h : k ≤ 16) : (nibTo k).length = 16 := by unfold nibTo; rw [List.length_append, List.length_take, nibTab_len, List.length_replicate]; omega
theorem nibTo_get {k i : Nat} (h : i < k) (hk : k ≤ 16) : (nibTo k)[i]? = some (nib i : Int) := by
  unfold nibTo
  rw [List.getElem?_append_left (by rw [List.length_take, nibTab_len]; omega), List.getElem?_take, if_pos h]
  simp [nibTab, show i < 16 by omega]
theorem nibTo_zero {k : Nat} (hk : k < 16) : (nibTo k)[k]? = some 0 := by
  unfold nibTo
  rw [List.getElem?_append_right (by rw [List.length_take, nibTab_len]; omega), List.length_take, nibTab_len, List.getElem?_replicate, if_pos (by omega)]
theorem nibTo_set {k : Nat} (h : k < 16) : (nibTo k).set k (nib k : Nat) = nibTo (k + 1) := by
  unfold nibTo
  have e : nibTab.take (k + 1) = nibTab.take k ++ [(nib k : Int)] := by
    rw [List.take_add_one, List.getElem?_eq_getElem (by rw [nibTab_len]; exact h)]
    simp [nibTab]
  rw [e, show 16 - k = (16 - (k + 1)) + 1 by omega, List.replicate_succ, List.set_append_right _ _ (by rw [List.length_take, nibTab_len]; omega)]
  rw [show k - (List.take k nibTab).length = 0 by rw [List.length_take, nibTab_len]; omega]
  simp
/-- what halves' loads read -/
theorem nibTo_half {k : Nat} (hk : k < 16) : ∃ v : Nat, (nibTo k)[k / 2]? = some (v : Int) ∧ v = nib (k / 2) := by
  by_cases h : k = 0
  · subst h; exact ⟨0, nibTo_zero (by decide), nib_zero.symm⟩
  · exact ⟨_, nibTo_get (show k / 2 < k by omega) (by omega), rfl⟩
attribute [irreducible] nibTab nibTo

theorem cells_at {w : World} {b o : Nat} {l : List Int} {t : TypeId} {x : Int} (h : w.heap[b]? = some (.cells (nums .u64 l).toArray t (0, 0))) (hx : l[o]? = some x) : w.cell? ⟨b, o, none⟩ = some (.int .u64 x) := by
  unfold World.cell?
  rw [h]
  simp [nums, hx]
theorem free_at {w : World} {b : Nat} {c : Array Value} {t : TypeId} (h : w.heap[b]? = some (.cells c t (0, 0))) (o : Nat) : w.frozen? ⟨b, o, none⟩ = false := by
  unfold World.frozen?
  rw [h]
  simp

set_option maxRecDepth 100000 in
theorem CHalves_ok (W : World) : Calls Try.prog 58 #[] W fun e W' => e = .returned (.agg (nums .u64 nibTab).toArray) ∧ Below W.heap.size W W' := by
  go_enter Try.func58, Try.ntmps58
  go_wp2
  go_loopw [2, 3] (fun d i wr => ∃ k : Nat, k ≤ 16 ∧ i = .int .i64 k ∧ wr.heap[W.heap.size + 1]? = some (.cells (nums .u64 (nibTo k)).toArray 90 (0, 0)) ∧ wr.heap[W.heap.size]? = some (.cells (nums .u64 (nibTo 0)).toArray 90 (0, 0)) ∧ Below W.heap.size W wr) (fun _ i _ => 16 - (intOf i).toNat)
  case atStart =>
    refine ⟨0, by omega, rfl, ?_, ?_, ((Below.refl _ _).alloc (Nat.le_refl _) _).alloc (by simp) _⟩
    · rw [nibTo_0]; simpa [nums] using heap_alloc_new (W.alloc _) _
    · rw [Below.heap_alloc _ _ _ (by simp), nibTo_0]; simpa [nums] using heap_alloc_new W _
  case round =>
    obtain ⟨k, hk, rfl, hrow, hres, hb⟩ := hrel
    by_cases hlt : k < 16
    · obtain ⟨v, hv, hvn⟩ := nibTo_half hlt
      have hvl : v < 18446744073709551616 := by rw [hvn]; exact nib_lt _
      have hcell := cells_at hrow hv
      have hc2 := cells_at hrow (nibTo_zero hlt)
      have hf2 := free_at hrow k
      have hset := Go.Lib.hid (nibTo_set hlt)
      have hstep := nib_step hlt
      rw [← hvn] at hstep
      obtain ⟨x, hx⟩ : ∃ x, x = nib k := ⟨_, rfl⟩
      rw [← hx] at hstep hset
      have hcall : Hid (∀ w, Calls Try.prog 59 #[.int .u64 v, .int .u64 ((k : Int) % 2)] w fun e W' => e = .returned (.int .u64 (x : Nat)) ∧ w = W') := Go.Lib.hid fun w => by
        have hm : k % 2 = 0 ∨ k % 2 = 1 := by omega
        have hxl : v ^^^ ((k % 2) * 9223372036854775808) < 18446744073709551616 := Nat.xor_lt_two_pow (n := 64) hvl (by omega)
        have := CStep_one w v (k % 2) _ hvl hm hxl (by
          have := Go.u64_xor_nat v ((k % 2) * 9223372036854775808) hvl (by omega)
          rw [← this]; simp)
        have e : csfZ (v ^^^ ((k % 2) * 9223372036854775808)) = x := by
          have et : (decide (k % 2 = 1)).toNat = k % 2 := by rcases hm with h | h <;> rw [h] <;> rfl
          rw [hstep, csfStep, et]
        rw [e] at this
        rw [show ((k : Int) % 2) = ((k % 2 : Nat) : Int) by simp]
        exact this
      have hh1 := Go.Lib.hid (heap_setCell_same wr (W.heap.size + 1) k _ _ (.int .u64 (x : Nat)) hrow)
      have hh2 := Go.Lib.hid ((Below.heap_setCell wr ⟨W.heap.size + 1, k, none⟩ (.int .u64 (x : Nat)) W.heap.size (by simp)).trans hres)
      have hb2 := Go.Lib.hid (hb.setCell (p := ⟨W.heap.size + 1, k, none⟩) (by simp) (.int .u64 (x : Nat)))
      clear hrow hres hb hv hvn hx hstep
      go_wp2_with (go_at_call 59; refine (hcall.out _).mono ?_; rintro e w1 ⟨rfl, rfl⟩)
      go_roundw
      case rel => exact ⟨k + 1, by omega, by go_num, by rw [← hset.out]; simpa [nums, List.map_set] using hh1.out, hh2.out, hb2.out⟩
      case measure => (simp [intOf] <;> omega)
    · have hk16 : k = 16 := by omega
      have hr16 : wr.heap[W.heap.size + 1]? = some (.cells (nums .u64 nibTab).toArray 90 (0, 0)) := by rw [← nibTo_16, ← hk16]; exact hrow
      have hge : ¬ ((k : Int) < 16) := by omega
      have hsz : (nums .u64 nibTab).toArray.size = 16 := by simp [nums, nibTab_len]
      have hsz0 : (nums .u64 (nibTo 0)).toArray.size = 16 := by simp [nums, nibTo_len]
      have hinf : (Try.prog.info? 90).map (·.size) = some (nums .u64 nibTab).toArray.size := by rw [hsz]; kernel_rfl
      have hall : (nums .u64 nibTab).toArray.all (·.oneCell') = true := by simp [nums]; exact fun _ _ => rfl
      obtain ⟨A, hA⟩ : ∃ A, A = (nums .u64 nibTab).toArray := ⟨_, rfl⟩
      rw [← hA] at hr16 hinf hsz hall
      have hAh := Go.Lib.hid hA
      clear hA
      have hfin := Go.Lib.hid (setRow_heap wr W.heap.size _ A _ _ hres)
      have hold := Go.Lib.hid (hsz0.trans hsz.symm)
      have hszh := Go.Lib.hid hsz
      clear hsz
      have hinfh := Go.Lib.hid hinf
      clear hinf
      have hallh := Go.Lib.hid hall
      clear hall
      have hb2 := Go.Lib.hid (below_setRow hb (Nat.le_refl _) A)
      have hr16h := Go.Lib.hid hr16
      clear hr16
      have hresh := Go.Lib.hid hres
      clear hres
      clear hrow hk16 hlt hb
      go_wp2_with (first
        | refine wpList_load_row rfl 90 _ rfl (W.heap.size + 1) rfl _ _ _ _ hr16h.out Try.underlying90 rfl hinfh.out ?_
        | refine wpList_store_row rfl 90 _ _ rfl W.heap.size _ rfl rfl _ _ hresh.out hinfh.out hold.out hallh.out ?_)
      refine bodyPost_ret (results_cell_row (by rfl) _ _ W.heap.size _ _ _ _ rfl hfin.out Try.underlying90 rfl hinfh.out) rfl ?_
      exact ⟨by rw [hAh.out], hb2.out⟩
end Go.Proofs.Ytbegifpnbbpinaa

/- Contracts of the package crc64 (the true code). -/
namespace Go.Proofs.Ytbegifpnbbpinaa
open Go.RowKit Cad

def csfTab : List Int := (List.range 256).map fun i => (csfByte 0 i : Int)
theorem csfTab_len : csfTab.length = 256 := by simp [csfTab]
theorem csfTab_getD {i : Nat} (h : i < 256) : csfTab.getD i 0 = (csfByte 0 i : Nat) := by simp [csfTab, List.getD, h]
theorem csfTab_snoc {k : Nat} (h : k < 256) : csfTab.take (k + 1) = csfTab.take k ++ [(csfByte 0 k : Int)] := by
  rw [List.take_add_one, List.getElem?_eq_getElem (by rw [csfTab_len]; exact h)]
  simp [csfTab]
attribute [irreducible] csfTab

/-- what the walk over half a byte reckons -/
theorem half_facts {s h : Nat} (hs : s < 18446744073709551616) (hh : h < 16) : ∃ m d x v r : Nat, IntKind.u64.wrap ((s : Int) * 16) = (m : Int) ∧ (s : Int) / 1152921504606846976 = (d : Int) ∧ bits .xor .u64 (d : Int) (h : Int) = (x : Int) ∧ x < 16 ∧ v = nib x ∧ v < 18446744073709551616 ∧ bits .xor .u64 (m : Int) (v : Int) = (r : Int) ∧ r = csfBits s (upN h) := by
  have hx : (s / 1152921504606846976) ^^^ h < 16 := Nat.xor_lt_two_pow (n := 4) (by omega) hh
  refine ⟨(s * 16) % 18446744073709551616, s / 1152921504606846976, (s / 1152921504606846976) ^^^ h, _, _, ?_, by simp, ?_, hx, rfl, nib_lt _, Go.u64_xor_nat _ _ (by omega) (nib_lt _), (half_step hs hh).symm⟩
  · rw [IntKind.wrap_u64]; omega
  · exact Go.u64_xor_nat _ _ (by omega) (by omega)

/-- the states within a byte -/
def midSt (s c j : Nat) : Nat := if j = 0 then s else if j = 1 then csfBits s (upN (c / 16)) else csfByte s c

set_option maxRecDepth 100000 in
theorem SBehind_ok (W : World) (s : Nat) (a : Option Addr) (len cap : Nat) (l : List Int) (hr : Row .u8 W a len cap l) (hs : s < 18446744073709551616) :
    Calls Try.prog 49 #[.int .u64 s, .slice a len cap] W fun e W' => e = .returned (.int .u64 (csfB s l : Nat)) ∧ Below W.heap.size W W' := by
  have hmx := Nat.le_trans hr.hcap hr.hmax
  unfold maxLen at hmx
  have hlen := Go.Lib.hid hr.hlen
  have hr' := Go.Lib.hid hr
  have hsz : (nums .u64 nibTab).toArray.size = 16 := by simp [nums, nibTab_len]
  have hinf := Go.Lib.hid (show (Try.prog.info? 90).map (·.size) = some (nums .u64 nibTab).toArray.size by rw [hsz]; kernel_rfl)
  have hall := Go.Lib.hid (show (nums .u64 nibTab).toArray.all (·.oneCell') = true by simp [nums]; exact fun _ _ => rfl)
  have hszh := Go.Lib.hid hsz
  clear hr hsz
  go_enter Try.func49, Try.ntmps49
  go_wp2_with (first
    | (go_at_call 58; refine (CHalves_ok _).mono ?_; rintro e w1 ⟨rfl, hb1⟩)
    | (refine wpList_store_row rfl 90 _ _ rfl w1.heap.size _ rfl rfl _ _ (heap_alloc_new _ _) hinf.out hszh.out.symm hall.out ?_))
  have hrow := setRow_heap _ w1.heap.size _ (nums .u64 nibTab).toArray _ _ (heap_alloc_new w1 (.cells #[Value.int IntKind.u64 0, Value.int IntKind.u64 0, Value.int IntKind.u64 0, Value.int IntKind.u64 0, Value.int IntKind.u64 0, Value.int IntKind.u64 0, Value.int IntKind.u64 0, Value.int IntKind.u64 0, Value.int IntKind.u64 0, Value.int IntKind.u64 0, Value.int IntKind.u64 0, Value.int IntKind.u64 0, Value.int IntKind.u64 0, Value.int IntKind.u64 0, Value.int IntKind.u64 0, Value.int IntKind.u64 0] 90))
  have hb2 := below_setRow (hb1.alloc hb1.size (.cells #[Value.int IntKind.u64 0, Value.int IntKind.u64 0, Value.int IntKind.u64 0, Value.int IntKind.u64 0, Value.int IntKind.u64 0, Value.int IntKind.u64 0, Value.int IntKind.u64 0, Value.int IntKind.u64 0, Value.int IntKind.u64 0, Value.int IntKind.u64 0, Value.int IntKind.u64 0, Value.int IntKind.u64 0, Value.int IntKind.u64 0, Value.int IntKind.u64 0, Value.int IntKind.u64 0, Value.int IntKind.u64 0] 90)) hb1.size (nums .u64 nibTab).toArray
  obtain ⟨w2, hw2⟩ : ∃ w2, w2 = (w1.alloc (.cells #[Value.int IntKind.u64 0, Value.int IntKind.u64 0, Value.int IntKind.u64 0, Value.int IntKind.u64 0, Value.int IntKind.u64 0, Value.int IntKind.u64 0, Value.int IntKind.u64 0, Value.int IntKind.u64 0, Value.int IntKind.u64 0, Value.int IntKind.u64 0, Value.int IntKind.u64 0, Value.int IntKind.u64 0, Value.int IntKind.u64 0, Value.int IntKind.u64 0, Value.int IntKind.u64 0, Value.int IntKind.u64 0] 90)).setRow w1.heap.size (nums .u64 nibTab).toArray := ⟨_, rfl⟩
  rw [← hw2] at hrow hb2 ⊢
  clear hw2 hb1
  obtain ⟨bk, hbk⟩ : ∃ bk, bk = w1.heap.size := ⟨_, rfl⟩
  rw [← hbk] at hrow ⊢
  clear hbk
  have hr2 := Go.Lib.hid (hr'.out.below hb2 (Nat.le_refl _))
  have hb2 := Go.Lib.hid hb2
  have hcells : Hid (∀ x < 16, w2.cell? ⟨bk, x, none⟩ = some (.int .u64 (nib x : Nat))) := Go.Lib.hid fun x hx => cells_at hrow (by
    rw [← nibTo_16]; exact nibTo_get hx (by decide))
  clear hrow hr' hinf hall hszh
  go_loop [0, 13] (fun st i => ∃ k : Nat, k ≤ len ∧ i = .int .i64 k ∧ st = .int .u64 (csfB s (l.take k) : Nat)) (fun _ i => len - (intOf i).toNat)
  case atStart => exact ⟨0, by omega, rfl, rfl⟩
  case round =>
    obtain ⟨k, hk, rfl, rfl⟩ := hrel
    by_cases hlt : k < len
    · obtain ⟨b, off, rfl, _, hc⟩ := hr2.out.cells (by omega)
      have hcell := hc k hlt
      have hn := Go.Lib.hid (csfB_snoc s l (k := k) (by rw [hlen.out]; exact hlt))
      have hst := csfB_lt (l.take k) hs
      have hb : 0 ≤ l.getD k 0 ∧ l.getD k 0 ≤ 255 := by
        have := bounds_u8 (hr2.out.wf _ (show l.getD k 0 ∈ l by rw [show l.getD k 0 = l[k]'(by rw [hlen.out]; exact hlt) by simp [List.getD, hlen.out, hlt]]; exact List.getElem_mem _))
        exact this
      obtain ⟨st, hs'⟩ : ∃ x, x = csfB s (l.take k) := ⟨_, rfl⟩
      obtain ⟨c, hcc⟩ : ∃ c : Nat, l.getD k 0 = c := ⟨(l.getD k 0).toNat, by omega⟩
      rw [hcc] at hcell hn hb
      rw [← hs'] at hst hn ⊢
      have hc8 : c < 256 := by omega
      obtain ⟨h0, hh0, hq0⟩ : ∃ h0 : Nat, h0 < 16 ∧ (c : Int) / 16 = (h0 : Int) := ⟨c / 16, by omega, by simp⟩
      obtain ⟨h1, hh1, hq1⟩ : ∃ h1 : Nat, h1 < 16 ∧ (c : Int) % 16 = (h1 : Int) := ⟨c % 16, by omega, by simp⟩
      have hbt := Go.Lib.hid (byte_half (s := st) hc8)
      rw [show c / 16 = h0 by omega, show c % 16 = h1 by omega] at hbt
      have hout := Go.Lib.hid hn
      clear hs' hcc hc hb hn
      have i0 : ∀ w, (Instr.index 92 (.agg #[.int .u8 (h0 : Int), .int .u8 (h1 : Int)]) (.int .i64 0)).run Try.prog w = .ok (.int .u8 (h0 : Int)) w := fun _ => by kernel_rfl
      have i1 : ∀ w, (Instr.index 92 (.agg #[.int .u8 (h0 : Int), .int .u8 (h1 : Int)]) (.int .i64 1)).run Try.prog w = .ok (.int .u8 (h1 : Int)) w := fun _ => by kernel_rfl
      go_wp2
      go_loop [0, 22] (fun st' j => (j = .int .i64 0 ∧ st' = .int .u64 (st : Nat)) ∨ (j = .int .i64 1 ∧ st' = .int .u64 (csfBits st (upN h0) : Nat)) ∨ (j = .int .i64 2 ∧ st' = .int .u64 (csfBits (csfBits st (upN h0)) (upN h1) : Nat))) (fun _ j => 2 - (intOf j).toNat)
      case atStart => exact .inl ⟨rfl, rfl⟩
      case round =>
        rcases hrel with ⟨rfl, rfl⟩ | ⟨rfl, rfl⟩ | ⟨rfl, rfl⟩
        · obtain ⟨m, d, x, v, r, e1, e2, e3, hx16, ev, hv, e4, er⟩ := half_facts hst hh0
          have hcx := hcells.out x hx16
          rw [← ev] at hcx
          have erh := Go.Lib.hid er
          clear er ev hcell hq0 hq1
          go_wp2
          go_round
          case rel => exact .inr (.inl ⟨rfl, by rw [erh.out]⟩)
          case measure => (simp [intOf] <;> omega)
        · have hst1 : csfBits st (upN h0) < 18446744073709551616 := csfBits_lt _ hst
          obtain ⟨s1, hs1⟩ : ∃ s1, s1 = csfBits st (upN h0) := ⟨_, rfl⟩
          rw [← hs1] at hst1 ⊢
          obtain ⟨m, d, x, v, r, e1, e2, e3, hx16, ev, hv, e4, er⟩ := half_facts hst1 hh1
          have hcx := hcells.out x hx16
          rw [← ev] at hcx
          have erh := Go.Lib.hid er
          have hs1h := Go.Lib.hid hs1
          clear er ev hcell hq0 hq1 hs1
          go_wp2
          go_round
          case rel => exact .inr (.inr ⟨rfl, by rw [erh.out, hs1h.out]⟩)
          case measure => (simp [intOf] <;> omega)
        · rw [← hbt.out]
          clear hcell hq0 hq1
          go_wp2
          go_round
          case rel => exact ⟨k + 1, by omega, by go_num, by rw [hout.out.out]; simp⟩
          case measure => (simp [intOf] <;> omega)
    · obtain rfl : k = len := by omega
      rw [List.take_of_length_le (by rw [hlen.out]; omega)]
      go_wp2
      go_ret
      exact ⟨rfl, hb2.out⟩

theorem CByte_ok (W : World) (s c : Nat) (hs : s < 18446744073709551616) (hc : c < 256) (a : Addr) (hr : Row .u8 W (some a) 1 1 [(c : Int)]) :
    Calls Try.prog 49 #[.int .u64 s, .slice (some a) 1 1] W fun e W' => e = .returned (.int .u64 (csfByte s c : Nat)) ∧ Below W.heap.size W W' := SBehind_ok W s (some a) 1 1 [(c : Int)] hr hs

def stabTo (k : Nat) : List Int := csfTab.take k ++ List.replicate (256 - k) 0
theorem stabTo_0 : stabTo 0 = List.replicate 256 0 := by unfold stabTo; rw [List.take_zero, List.nil_append]
theorem stabTo_256 : stabTo 256 = csfTab := by unfold stabTo; rw [List.take_of_length_le (by rw [csfTab_len]; exact Nat.le_refl _), Nat.sub_self, List.replicate_zero, List.append_nil]
theorem stabTo_len {k : Nat} (h : k ≤ 256) : (stabTo k).length = 256 := by unfold stabTo; rw [List.length_append, List.length_take, csfTab_len, List.length_replicate]; omega
theorem stabTo_set {k : Nat} (h : k < 256) : (stabTo k).set k (csfByte 0 k : Nat) = stabTo (k + 1) := by
  unfold stabTo
  rw [csfTab_snoc h, show 256 - k = (256 - (k + 1)) + 1 by omega, List.replicate_succ, List.set_append_right _ _ (by rw [List.length_take, csfTab_len]; omega)]
  rw [show k - (List.take k csfTab).length = 0 by rw [List.length_take, csfTab_len]; omega]
  simp
attribute [irreducible] stabTo

theorem tab_facts {W wr w2 : World} {n k x : Nat} (hn : n = 256) (hlt : k < 256) (hown : wr.ownsRow W.heap.size 33 1 (.slice (some ⟨W.heap.size, 0, none⟩) n n) n (nums .u64 (stabTo k))) (hsw : W.heap.size < wr.heap.size) (hb : Below W.heap.size W wr)
    (hset : (stabTo k).set k (x : Int) = stabTo (k + 1)) (o : Obj) (hb2 : Below (wr.heap.size + 1) (wr.alloc o) w2) :
    (∃ v0, w2.cell? ⟨W.heap.size, k, none⟩ = some v0) ∧ w2.frozen? ⟨W.heap.size, k, none⟩ = false ∧ Hid ((w2.setCell ⟨W.heap.size, k, none⟩ (.int .u64 (x : Nat))).ownsRow W.heap.size 33 1 (.slice (some ⟨W.heap.size, 0, none⟩) n n) n (nums .u64 (stabTo (k + 1))) ∧ W.heap.size < w2.heap.size ∧ Below W.heap.size W (w2.setCell ⟨W.heap.size, k, none⟩ (.int .u64 (x : Nat)))) := by
  have hown2 := own_below (hown.alloc o) hb2 (by simp)
  have hc1 := hown2.cellAt k (by omega)
  have hf1 := hown2.frozenAt k
  have hsz := hb2.size
  simp only [World.size_alloc] at hsz
  refine ⟨⟨_, hc1.trans (List.getElem?_eq_getElem (by rw [show (nums .u64 (stabTo k)).length = 256 by simp [nums, stabTo_len (Nat.le_of_lt hlt)]]; exact hlt))⟩, hf1, ⟨?_, by omega, ((hb.alloc (Nat.le_of_lt hsw) _).trans (hb2.mono (by omega))).setCell (p := ⟨W.heap.size, k, none⟩) (Nat.le_refl _) _⟩⟩
  have := (hown2.stored k (.int .u64 (x : Nat))).1
  rwa [show (nums .u64 (stabTo k)).set k (.int .u64 (x : Nat)) = nums .u64 (stabTo (k + 1)) by rw [← hset]; simp [nums, List.map_set]] at this

theorem SNext_many (W : World) (s : Int) (a : Option Addr) (len cap : Nat) (h : (100000 : Int) < len) (hm : len ≤ 9223372036854775807) :
    Calls Try.prog 30 #[.int .u64 s, .slice a len cap] W fun e W' => e = .returned (.tuple #[.int .u64 0, .int .i64 4]) ∧ Below W.heap.size W W' := by
  go_enter Try.func30, Try.ntmps30
  go_wp2
  go_ret2
  exact ⟨rfl, Below.refl _ _⟩
theorem SNext_ok (W : World) (s : Nat) (a : Option Addr) (len cap : Nat) (l : List Int) (hr : Row .u8 W a len cap l) (hs : s < 18446744073709551616) (h : (len : Int) ≤ 100000) :
    Calls Try.prog 30 #[.int .u64 s, .slice a len cap] W fun e W' => e = .returned (.tuple #[.int .u64 (csfB s l : Nat), .int .i64 0]) ∧ Below W.heap.size W W' := by
  have hc := Go.Lib.hid (SBehind_ok W s a len cap l hr hs)
  clear hr
  go_enter Try.func30, Try.ntmps30
  go_wp2_with (go_at_call 49; refine hc.out.mono ?_; rintro e w1 ⟨rfl, hb1⟩)
  go_ret2
  exact ⟨rfl, hb1⟩
theorem SSum_many (W : World) (a : Option Addr) (len cap : Nat) (h : (100000 : Int) < len) (hm : len ≤ 9223372036854775807) :
    Calls Try.prog 32 #[.slice a len cap] W fun e W' => e = .returned (.tuple #[.int .u64 0, .int .i64 4]) ∧ Below W.heap.size W W' := by
  go_enter Try.func32, Try.ntmps32
  go_wp2_with (go_at_call 30; refine (SNext_many _ 0 a len cap h hm).mono ?_; rintro e w1 ⟨rfl, hb1⟩)
  go_ret2
  exact ⟨rfl, hb1⟩
theorem SSum_ok (W : World) (a : Option Addr) (len cap : Nat) (l : List Int) (hr : Row .u8 W a len cap l) (h : (len : Int) ≤ 100000) :
    Calls Try.prog 32 #[.slice a len cap] W fun e W' => e = .returned (.tuple #[.int .u64 (csfB 0 l : Nat), .int .i64 0]) ∧ Below W.heap.size W W' := by
  have hc := Go.Lib.hid (SNext_ok W 0 a len cap l hr (by decide) h)
  clear hr
  go_enter Try.func32, Try.ntmps32
  go_wp2_with (go_at_call 30; refine hc.out.mono ?_; rintro e w1 ⟨rfl, hb1⟩)
  go_ret2
  exact ⟨rfl, hb1⟩
end Go.Proofs.Ytbegifpnbbpinaa

/- Contracts of the functions of fold, and of its reference: one number. -/
namespace Go.Proofs.Ytbegifpnbbpinaa
open Go.RowKit CadF

theorem FFold_ok (x : Int) (W : World) (h : -2147483648 ≤ x ∧ x ≤ 2147483647) :
    Calls Try.prog 27 #[.int .i32 x] W fun e W' => e = .returned (.int .u32 (zig x)) ∧ W = W' := by
  by_cases hx : x < 0
  · have e : Hid (bits .xor .u32 IntKind.u32.max (IntKind.u32.wrap (IntKind.u32.wrap x * 2)) = zig x) := Go.Lib.hid (by
      have e1 : IntKind.u32.wrap (IntKind.u32.wrap x * 2) = (((2 * x + 4294967296).toNat : Nat) : Int) := by
        rw [IntKind.wrap_u32, IntKind.wrap_u32]; omega
      rw [e1, u32_not _ (by omega)]
      unfold zig; rw [if_neg (by omega)]; omega)
    go_enter Try.func27, Try.ntmps27
    go_wp2
    go_ret
    exact ⟨ret_int e.out, rfl⟩
  · have e : Hid (x * 2 = zig x) := Go.Lib.hid (by unfold zig; rw [if_pos (by omega)]; omega)
    go_enter Try.func27, Try.ntmps27
    go_wp2
    go_ret
    exact ⟨ret_int e.out, rfl⟩

theorem FBack_ok (n : Int) (W : World) (h : 0 ≤ n ∧ n ≤ 4294967295) :
    Calls Try.prog 35 #[.int .u32 n] W fun e W' => e = .returned (.int .i32 (zag n)) ∧ W = W' := by
  rcases (show n % 2 = 0 ∨ n % 2 = 1 by omega) with hm | hm
  · have e : Hid (n / 2 = zag n) := Go.Lib.hid (by unfold zag; rw [if_pos hm])
    go_enter Try.func35, Try.ntmps35
    go_wp2
    go_ret
    exact ⟨ret_int e.out, rfl⟩
  · have e : Hid (bits .xor .i32 (-1) (n / 2) = zag n) := Go.Lib.hid (by
      rw [show n / 2 = (((n / 2).toNat : Nat) : Int) by omega, i32_not _ (by omega)]
      unfold zag; rw [if_neg (by omega)]; omega)
    go_enter Try.func35, Try.ntmps35
    go_wp2
    go_ret
    exact ⟨ret_int e.out, rfl⟩

end Go.Proofs.Ytbegifpnbbpinaa
