/- Contracts of crc32's reference. -/
import Derived.Test.YtlneafhihbnphaaCrcP
import Derived.Laws.BitsAllLaws
namespace Go.Proofs.Ytlneafhihbnphaa
open Go.RowKit Cad

theorem crcStep_eq (s : Nat) (b : Bool) : crcStep s b = s / 2 ^^^ (if (s % 2 == 1) != b then 3988292384 else 0) := by
  unfold crcStep crcZ
  rw [xor_div2, xor_mod2, show b.toNat / 2 = 0 by cases b <;> rfl, Nat.xor_zero]
  congr 1
  rcases (show s % 2 = 0 ∨ s % 2 = 1 by omega) with h | h <;> cases b <;> simp [h]

theorem CRStep_ok (W : World) (s : Nat) (b : Bool) (hs : s < 4294967296) :
    Calls Try.prog 20 #[.int .u32 s, .int .i64 (b.toNat : Nat)] W fun e W' => e = .returned (.int .u32 (crcStep s b : Nat)) ∧ W = W' := by
  have hx := Go.u32_xor_nat (s / 2) 3988292384 (by omega) (by decide)
  rw [show ((3988292384 : Nat) : Int) = (3988292384 : Int) from rfl] at hx
  have e2 : ((s / 2 : Nat) : Int) = (s : Int) / 2 := by simp
  rw [e2] at hx
  obtain ⟨y, hy⟩ : ∃ y, y = s / 2 ^^^ 3988292384 := ⟨_, rfl⟩
  rw [← hy] at hx
  obtain ⟨r, hr⟩ : ∃ r, r = crcStep s b := ⟨_, rfl⟩
  rw [← hr]
  rw [crcStep_eq] at hr
  have hr' := Go.Lib.hid hr
  have hyy := Go.Lib.hid hy
  have e2' := Go.Lib.hid e2
  clear hy hr e2
  rcases (show s % 2 = 0 ∨ s % 2 = 1 by omega) with h | h
  · have h1 : ((s : Int) % 2 == 1) = false := by simp; omega
    have hh := Go.Lib.hid h
    clear h
    cases b
    · go_enter Try.func20, Try.ntmps20
      go_wp2
      go_ret
      exact ⟨ret_int (by rw [hr'.out, hh.out]; simp), rfl⟩
    · go_enter Try.func20, Try.ntmps20
      go_wp2
      go_ret
      exact ⟨ret_int (by rw [hr'.out, hh.out, hyy.out]; simp), rfl⟩
  · have h1 : ((s : Int) % 2 == 1) = true := by simp; omega
    have hh := Go.Lib.hid h
    clear h
    cases b
    · go_enter Try.func20, Try.ntmps20
      go_wp2
      go_ret
      exact ⟨ret_int (by rw [hr'.out, hh.out, hyy.out]; simp), rfl⟩
    · go_enter Try.func20, Try.ntmps20
      go_wp2
      go_ret
      exact ⟨ret_int (by rw [hr'.out, hh.out]; simp), rfl⟩

theorem CRByte_ok (W : World) (s c : Nat) (hs : s < 4294967296) (hc : c < 256) :
    Calls Try.prog 19 #[.int .u32 s, .int .u8 c] W fun e W' => e = .returned (.int .u32 (crcByte s c : Nat)) ∧ W = W' := by
  go_enter Try.func19, Try.ntmps19
  go_wp2
  go_loop [0, 1, 5] (fun st d i => ∃ k : Nat, k ≤ 8 ∧ i = .int .i64 k ∧ st = .int .u32 (crcBits s (numB c k) : Nat) ∧ d = .int .u8 ((c / 2 ^ k : Nat) : Int)) (fun _ _ i => 8 - (intOf i).toNat)
  case atStart => exact ⟨0, by omega, rfl, rfl, by simp⟩
  case round =>
    obtain ⟨k, hk, rfl, rfl, rfl⟩ := hrel
    by_cases hlt : k < 8
    · have hst := crcBits_lt (numB c k) hs
      have hn : Hid (crcBits s (numB c (k + 1)) = crcStep (crcBits s (numB c k)) (c / 2 ^ k % 2 == 1)) := Go.Lib.hid (by rw [numB_snoc, crcBits_app]; rfl)
      have hd : c / 2 ^ k < 256 := Nat.lt_of_le_of_lt (Nat.div_le_self _ _) hc
      have hd2 : Hid (c / 2 ^ k / 2 = c / 2 ^ (k + 1)) := Go.Lib.hid (by rw [Nat.div_div_eq_div_mul, Nat.pow_succ])
      obtain ⟨st, hs'⟩ : ∃ x, x = crcBits s (numB c k) := ⟨_, rfl⟩
      obtain ⟨d, hd'⟩ : ∃ x, x = c / 2 ^ k := ⟨_, rfl⟩
      rw [← hs'] at hst hn ⊢
      rw [← hd'] at hd hd2 hn ⊢
      clear hs' hd'
      have hcall : Hid (Calls Try.prog 20 #[.int .u32 st, .int .i64 ((d : Int) % 2)] W fun e W' => e = .returned (.int .u32 (crcStep st (d % 2 == 1) : Nat)) ∧ W = W') := Go.Lib.hid (by
        have := CRStep_ok W st (d % 2 == 1) hst
        have e : (((d % 2 == 1).toNat : Nat) : Int) = (d : Int) % 2 := by
          rcases (show d % 2 = 0 ∨ d % 2 = 1 by omega) with h | h <;> rw [h] <;> simp <;> omega
        rwa [e] at this)
      go_wp2_with (go_at_call 20; refine hcall.out.mono ?_; rintro e w1 ⟨rfl, rfl⟩)
      go_round
      case rel => exact ⟨k + 1, by omega, by go_num, by rw [hn.out], by rw [← hd2.out]; simp⟩
      case measure => (simp [intOf] <;> omega)
    · obtain rfl : k = 8 := by omega
      go_wp2
      go_ret
      exact ⟨rfl, rfl⟩

theorem CRBehind_ok (W : World) (s : Nat) (a : Option Addr) (len cap : Nat) (l : List Int) (hr : Row .u8 W a len cap l) (hs : s < 4294967296) :
    Calls Try.prog 17 #[.int .u32 s, .slice a len cap] W fun e W' => e = .returned (.int .u32 (crcB s l : Nat)) ∧ W = W' := by
  have hmx := Nat.le_trans hr.hcap hr.hmax
  unfold maxLen at hmx
  have hlen := Go.Lib.hid hr.hlen
  have hr' := Go.Lib.hid hr
  clear hr
  go_enter Try.func17, Try.ntmps17
  go_wp2
  go_loop [0, 5] (fun st i => ∃ k : Nat, k ≤ len ∧ i = .int .i64 k ∧ st = .int .u32 (crcB s (l.take k) : Nat)) (fun _ i => len - (intOf i).toNat)
  case atStart => exact ⟨0, by omega, rfl, rfl⟩
  case round =>
    obtain ⟨k, hk, rfl, rfl⟩ := hrel
    by_cases hlt : k < len
    · obtain ⟨b, off, rfl, _, hc⟩ := hr'.out.cells (by omega)
      have hcell := hc k hlt
      have hn := Go.Lib.hid (crcB_snoc s l (k := k) (by rw [hlen.out]; exact hlt))
      have hst := crcB_lt (l.take k) hs
      have hb : 0 ≤ l.getD k 0 ∧ l.getD k 0 ≤ 255 := by
        have := bounds_u8 (hr'.out.wf _ (show l.getD k 0 ∈ l by rw [show l.getD k 0 = l[k]'(by rw [hlen.out]; exact hlt) by simp [List.getD, hlen.out, hlt]]; exact List.getElem_mem _))
        exact this
      obtain ⟨st, hs'⟩ : ∃ x, x = crcB s (l.take k) := ⟨_, rfl⟩
      obtain ⟨c, hcc⟩ : ∃ c : Nat, l.getD k 0 = c := ⟨(l.getD k 0).toNat, by omega⟩
      rw [hcc] at hcell hn hb
      rw [← hs'] at hst hn ⊢
      have hc8 : c < 256 := by omega
      clear hs' hcc hc hb
      go_wp2_with (go_at_call 19; refine (CRByte_ok _ st c hst hc8).mono ?_; rintro e w1 ⟨rfl, rfl⟩)
      go_round
      case rel => exact ⟨k + 1, by omega, by go_num, by rw [hn.out]; simp⟩
      case measure => (simp [intOf] <;> omega)
    · obtain rfl : k = len := by omega
      rw [List.take_of_length_le (by rw [hlen.out]; omega)]
      go_wp2
      go_ret
      exact ⟨rfl, rfl⟩

theorem CRNext_many (W : World) (s : Int) (a : Option Addr) (len cap : Nat) (h : (100000 : Int) < len) (hm : len ≤ 9223372036854775807) :
    Calls Try.prog 14 #[.int .u32 s, .slice a len cap] W fun e W' => e = .returned (.tuple #[.int .u32 0, .int .i64 4]) ∧ W = W' := by
  go_enter Try.func14, Try.ntmps14
  go_wp2
  go_ret2
  exact ⟨rfl, rfl⟩
theorem CRNext_ok (W : World) (s : Nat) (a : Option Addr) (len cap : Nat) (l : List Int) (hr : Row .u8 W a len cap l) (hs : s < 4294967296) (h : (len : Int) ≤ 100000) :
    Calls Try.prog 14 #[.int .u32 s, .slice a len cap] W fun e W' => e = .returned (.tuple #[.int .u32 (crcB s l : Nat), .int .i64 0]) ∧ W = W' := by
  have hc := Go.Lib.hid (CRBehind_ok W s a len cap l hr hs)
  clear hr
  go_enter Try.func14, Try.ntmps14
  go_wp2_with (go_at_call 17; refine hc.out.mono ?_; rintro e w1 ⟨rfl, rfl⟩)
  go_ret2
  exact ⟨rfl, rfl⟩
/-- the sum of bytes -/
def crcSum (l : List Int) : Nat := 4294967295 - crcB 4294967295 l
theorem CROf_ok (W : World) (a : Option Addr) (len cap : Nat) (l : List Int) (hr : Row .u8 W a len cap l) :
    Calls Try.prog 18 #[.slice a len cap] W fun e W' => e = .returned (.int .u32 (crcSum l : Nat)) ∧ W = W' := by
  have hc := Go.Lib.hid (CRBehind_ok W 4294967295 a len cap l hr (by decide))
  have hlt := crcB_lt l (s := 4294967295) (by decide)
  have e := Go.Lib.hid (show crcSum l = 4294967295 - crcB 4294967295 l from rfl)
  obtain ⟨x, hx⟩ : ∃ x, x = crcB 4294967295 l := ⟨_, rfl⟩
  rw [← hx] at hc hlt e
  clear hr hx
  go_enter Try.func18, Try.ntmps18
  go_wp2_with (go_at_call 17; refine hc.out.mono ?_; rintro e w1 ⟨rfl, rfl⟩)
  go_ret
  exact ⟨ret_int (by rw [e.out]; omega), rfl⟩
theorem CRSum_many (W : World) (a : Option Addr) (len cap : Nat) (h : (100000 : Int) < len) (hm : len ≤ 9223372036854775807) :
    Calls Try.prog 15 #[.slice a len cap] W fun e W' => e = .returned (.tuple #[.int .u32 0, .int .i64 4]) ∧ W = W' := by
  go_enter Try.func15, Try.ntmps15
  go_wp2
  go_ret2
  exact ⟨rfl, rfl⟩
theorem CRSum_ok (W : World) (a : Option Addr) (len cap : Nat) (l : List Int) (hr : Row .u8 W a len cap l) (h : (len : Int) ≤ 100000) :
    Calls Try.prog 15 #[.slice a len cap] W fun e W' => e = .returned (.tuple #[.int .u32 (crcSum l : Nat), .int .i64 0]) ∧ W = W' := by
  have hc := Go.Lib.hid (CROf_ok W a len cap l hr)
  clear hr
  go_enter Try.func15, Try.ntmps15
  go_wp2_with (go_at_call 18; refine hc.out.mono ?_; rintro e w1 ⟨rfl, rfl⟩)
  go_ret2
  exact ⟨rfl, rfl⟩

def crcGreat (len : Nat) : Bool := decide (1000 < len ∧ len ≤ 100000 ∨ 100100 < len)
theorem CRGreat_ok (W : World) (a : Option Addr) (len cap : Nat) (hm : len ≤ 9223372036854775807) :
    Calls Try.prog 13 #[.slice a len cap] W fun e W' => e = .returned (.bool (crcGreat len)) ∧ W = W' := by
  by_cases h1 : (1000 : Int) < len
  · by_cases h2 : (len : Int) ≤ 100000
    · rw [show crcGreat len = true from decide_eq_true (by omega)]
      go_enter Try.func13, Try.ntmps13
      go_wp2
      go_ret
      exact ⟨rfl, rfl⟩
    · by_cases h3 : (100100 : Int) < len
      · rw [show crcGreat len = true from decide_eq_true (by omega)]
        go_enter Try.func13, Try.ntmps13
        go_wp2
        go_ret
        exact ⟨rfl, rfl⟩
      · rw [show crcGreat len = false from decide_eq_false (by omega)]
        go_enter Try.func13, Try.ntmps13
        go_wp2
        go_ret
        exact ⟨rfl, rfl⟩
  · have h3 : ¬ (100100 : Int) < len := by omega
    rw [show crcGreat len = false from decide_eq_false (by omega)]
    go_enter Try.func13, Try.ntmps13
    go_wp2
    go_ret
    exact ⟨rfl, rfl⟩
end Go.Proofs.Ytlneafhihbnphaa
