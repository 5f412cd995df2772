/- Contracts of the package crc32 (the true code). -/
import Derived.Test.YtlneafhihbnphaaCrcR
namespace Go.Proofs.Ytlneafhihbnphaa
open Go.RowKit Cad

theorem elU32 : Elem Try.prog 22 24 .u32 := ⟨Try.underlying22, 4, by decide, by kernel_rfl⟩
def crcTab : List Int := (List.range 256).map fun i => (crcByte 0 i : Int)
theorem crcTab_len : crcTab.length = 256 := by simp [crcTab]
theorem crcTab_getD {i : Nat} (h : i < 256) : crcTab.getD i 0 = (crcByte 0 i : Nat) := by simp [crcTab, List.getD, h]
theorem crcTab_snoc {k : Nat} (h : k < 256) : crcTab.take (k + 1) = crcTab.take k ++ [(crcByte 0 k : Int)] := by
  rw [List.take_add_one, List.getElem?_eq_getElem (by rw [crcTab_len]; exact h)]
  simp [crcTab]

attribute [irreducible] crcTab

theorem iterZ_last : ∀ (k s : Nat), iterZ (k + 1) s = crcZ (iterZ k s)
  | 0, _ => rfl
  | k + 1, s => by rw [iterZ, iterZ_last k, iterZ]
theorem iterZ_lt : ∀ (k : Nat) {s : Nat}, s < 4294967296 → iterZ k s < 4294967296
  | 0, _, h => h
  | k + 1, _, h => iterZ_lt k (crcZ_lt h)

theorem CBehind_ok (W : World) (s c : Nat) (hs : s < 4294967296) (hc : c < 256) :
    Calls Try.prog 16 #[.int .u32 s, .int .u8 c] W fun e W' => e = .returned (.int .u32 (crcByte s c : Nat)) ∧ W = W' := by
  have hx := Go.u32_xor_nat s c hs (by omega)
  have hxl : s ^^^ c < 4294967296 := Nat.xor_lt_two_pow (n := 32) hs (by omega)
  have hit := Go.Lib.hid (crcByte_iter s c hc)
  obtain ⟨x, hxd⟩ : ∃ x, x = s ^^^ c := ⟨_, rfl⟩
  rw [← hxd] at hx hxl hit
  clear hxd
  go_enter Try.func16, Try.ntmps16
  go_wp2
  go_loop [0, 9] (fun st i => ∃ k : Nat, k ≤ 8 ∧ i = .int .i64 k ∧ st = .int .u32 (iterZ k x : Nat)) (fun _ i => 8 - (intOf i).toNat)
  case atStart => exact ⟨0, by omega, rfl, rfl⟩
  case round =>
    clear hx
    obtain ⟨k, hk, rfl, rfl⟩ := hrel
    by_cases hlt : k < 8
    · have hst := iterZ_lt k hxl
      have hn := Go.Lib.hid (iterZ_last k x)
      obtain ⟨st, hs'⟩ : ∃ y, y = iterZ k x := ⟨_, rfl⟩
      rw [← hs'] at hst hn ⊢
      clear hs' hit
      rcases (show st % 2 = 0 ∨ st % 2 = 1 by omega) with h | h
      · have e1 : bits .and .u32 (st : Int) 1 = 0 := by
          have := Go.u32_and_nat st 1 hst (by decide)
          rw [show ((1 : Nat) : Int) = 1 from rfl] at this
          rw [this, Nat.and_one_is_mod, h]; rfl
        have e2 : bits .and .u32 3988292384 0 = 0 := by
          have := Go.u32_and_nat 3988292384 0 (by decide) (by decide)
          simpa using this
        have e3 : bits .xor .u32 ((st : Int) / 2) 0 = (st : Int) / 2 := by
          have := Go.u32_xor_nat (st / 2) 0 (by omega) (by decide)
          simpa using this
        have hz := Go.Lib.hid (show crcZ st = st / 2 by unfold crcZ; rw [if_neg (by omega)]; simp)
        clear h
        go_wp2
        go_round
        case rel => exact ⟨k + 1, by omega, by go_num, by rw [hn.out, hz.out]; simp⟩
        case measure => (simp [intOf] <;> omega)
      · have e1 : bits .and .u32 (st : Int) 1 = 1 := by
          have := Go.u32_and_nat st 1 hst (by decide)
          rw [show ((1 : Nat) : Int) = 1 from rfl] at this
          rw [this, Nat.and_one_is_mod, h]; rfl
        have e2 : bits .and .u32 3988292384 4294967295 = 3988292384 := by
          have := Go.u32_and_nat 3988292384 4294967295 (by decide) (by decide)
          simpa using this
        have hx := Go.u32_xor_nat (st / 2) 3988292384 (by omega) (by decide)
        rw [show ((3988292384 : Nat) : Int) = (3988292384 : Int) from rfl, show ((st / 2 : Nat) : Int) = (st : Int) / 2 by simp] at hx
        have hz := Go.Lib.hid (show crcZ st = st / 2 ^^^ 3988292384 by unfold crcZ; rw [if_pos h])
        obtain ⟨y, hy⟩ : ∃ y, y = st / 2 ^^^ 3988292384 := ⟨_, rfl⟩
        rw [← hy] at hx hz
        clear h hy
        go_wp2
        go_round
        case rel => exact ⟨k + 1, by omega, by go_num, by rw [hn.out, hz.out]⟩
        case measure => (simp [intOf] <;> omega)
    · obtain rfl : k = 8 := by omega
      go_wp2
      go_ret
      exact ⟨ret_int (by rw [hit.out]), rfl⟩

def tabTo (k : Nat) : List Int := crcTab.take k ++ List.replicate (256 - k) 0
theorem tabTo_0 : tabTo 0 = List.replicate 256 0 := by unfold tabTo; rw [List.take_zero, List.nil_append]
theorem tabTo_256 : tabTo 256 = crcTab := by unfold tabTo; rw [List.take_of_length_le (by rw [crcTab_len]; exact Nat.le_refl _), Nat.sub_self, List.replicate_zero, List.append_nil]
theorem tabTo_len {k : Nat} (h : k ≤ 256) : (tabTo k).length = 256 := by unfold tabTo; rw [List.length_append, List.length_take, crcTab_len, List.length_replicate]; omega
theorem tabTo_set {k : Nat} (h : k < 256) : (tabTo k).set k (crcByte 0 k : Nat) = tabTo (k + 1) := by
  unfold tabTo
  rw [crcTab_snoc h, show 256 - k = (256 - (k + 1)) + 1 by omega, List.replicate_succ, List.set_append_right _ _ (by rw [List.length_take, crcTab_len]; omega)]
  rw [show k - (List.take k crcTab).length = 0 by rw [List.length_take, crcTab_len]; omega]
  simp
attribute [irreducible] tabTo

set_option maxRecDepth 100000 in
theorem CTable_ok (W : World) : Calls Try.prog 9 #[] W fun e W' => ∃ v', e = .returned v' ∧ W'.ownsRow W.heap.size 24 1 v' 256 (nums .u32 crcTab) ∧ Below W.heap.size W W' := by
  obtain ⟨n, hn⟩ : ∃ n : Nat, n = 256 := ⟨_, rfl⟩
  have hnI : (256 : Int) = (n : Int) := by omega
  have h0 := Go.Lib.hid tabTo_0
  rw [← hn] at h0
  have hn' := Go.Lib.hid hnI
  have hnb : n ≤ 17592186044416 := by omega
  have hne := Go.Lib.hid hn
  clear hn hnI
  go_enter Try.func9, Try.ntmps9
  go_wp2_with (at_make; refine law_make elU32 _ rfl _ _ rfl .i64 .i64 256 256 n rfl rfl hn'.out hn'.out hnb ?_; intro w1 hown1 hb1 hs1; rw [← h0.out] at hown1)
  go_loopw [2, 6] (fun d i wr => ∃ k : Nat, k ≤ 256 ∧ i = .int .i64 k ∧ wr.ownsRow W.heap.size 24 1 (.slice (some ⟨W.heap.size, 0, none⟩) n n) n (nums .u32 (tabTo k)) ∧ Below W.heap.size W wr) (fun _ i _ => 256 - (intOf i).toNat)
  case atStart => exact ⟨0, by omega, rfl, hown1, hb1⟩
  case round =>
    obtain ⟨k, hk, rfl, hown, hb⟩ := hrel
    by_cases hlt : k < 256
    · have hbt := crcByte_lt (s := 0) (by decide) k
      have hkn : (k : Int) < n := by have := hne.out; omega
      have hc1 := hown.cellAt k (by have := hne.out; omega)
      have hf1 := hown.frozenAt k
      have hset := Go.Lib.hid (tabTo_set hlt)
      obtain ⟨v0, hv0⟩ : ∃ v0, (nums .u32 (tabTo k))[k]? = some v0 := ⟨_, List.getElem?_eq_getElem (by rw [show (nums .u32 (tabTo k)).length = 256 by simp [nums, tabTo_len hk]]; exact hlt)⟩
      rw [hv0] at hc1
      obtain ⟨x, hx⟩ : ∃ x, x = crcByte 0 k := ⟨_, rfl⟩
      have hcall : Hid (∀ w, Calls Try.prog 16 #[.int .u32 0, .int .u8 k] w fun e W' => e = .returned (.int .u32 (x : Nat)) ∧ w = W') := Go.Lib.hid fun w => by rw [hx]; exact CBehind_ok w 0 k (by decide) (by omega)
      rw [← hx] at hset hbt
      have hst := Go.Lib.hid (hown.stored k (.int .u32 (x : Nat))).1
      have hb2 := Go.Lib.hid (hb.setCell (p := ⟨W.heap.size, k, none⟩) (Nat.le_refl _) (.int .u32 (x : Nat)))
      clear hv0 hx hown hb hown1 hb1 hs1
      go_wp2_with (go_at_call 16; refine (hcall.out _).mono ?_; rintro e w1 ⟨rfl, rfl⟩)
      go_roundw
      case rel => exact ⟨k + 1, by omega, by go_num, by have := hst.out; rwa [show (nums .u32 (tabTo k)).set k (.int .u32 (x : Nat)) = nums .u32 (tabTo (k + 1)) by rw [← hset.out]; simp [nums, List.map_set]] at this, hb2.out⟩
      case measure => (simp [intOf] <;> omega)
    · obtain rfl : k = 256 := by omega
      have hnk : ¬ (256 : Int) < n := by have := hne.out; omega
      rw [tabTo_256] at hown
      have hown' := Go.Lib.hid hown
      clear hown hown1 hb1 hs1
      go_wp2
      go_ret
      have h := hown'.out
      have e := hne.out
      subst e
      exact ⟨_, rfl, h, hb⟩

theorem CNext_many (W : World) (s : Int) (a : Option Addr) (len cap : Nat) (h : (100000 : Int) < len) (hm : len ≤ 9223372036854775807) :
    Calls Try.prog 11 #[.int .u32 s, .slice a len cap] W fun e W' => e = .returned (.tuple #[.int .u32 0, .int .i64 4]) ∧ Below W.heap.size W W' := by
  go_enter Try.func11, Try.ntmps11
  go_wp2
  go_ret2
  exact ⟨rfl, Below.refl _ _⟩
theorem CNext_ok (W : World) (s : Nat) (a : Option Addr) (len cap : Nat) (l : List Int) (hr : Row .u8 W a len cap l) (hs : s < 4294967296) (h : (len : Int) ≤ 100000) :
    Calls Try.prog 11 #[.int .u32 s, .slice a len cap] W fun e W' => e = .returned (.tuple #[.int .u32 (crcB s l : Nat), .int .i64 0]) ∧ Below W.heap.size W W' := by
  have hmx := Nat.le_trans hr.hcap hr.hmax
  unfold maxLen at hmx
  have hlen := Go.Lib.hid hr.hlen
  have hr' := Go.Lib.hid hr
  clear hr
  go_enter Try.func11, Try.ntmps11
  go_wp2
  go_loop [0, 7, 13] (fun st x i => ∃ k : Nat, k ≤ len ∧ i = .int .i64 k ∧ st = .int .u32 (crcB s (l.take k) : Nat)) (fun _ _ i => len - (intOf i).toNat)
  case atStart => exact ⟨0, by omega, rfl, rfl⟩
  case round =>
    obtain ⟨k, hk, rfl, rfl⟩ := hrel
    by_cases hlt : k < len
    · obtain ⟨b, off, rfl, _, hc⟩ := hr'.out.cells (by omega)
      have hcell := hc k hlt
      have hn := Go.Lib.hid (crcB_snoc s l (k := k) (by rw [hlen.out]; exact hlt))
      have hst := crcB_lt (l.take k) hs
      have hb : 0 ≤ l.getD k 0 ∧ l.getD k 0 ≤ 255 := by
        have := bounds_u8 (hr'.out.wf _ (show l.getD k 0 ∈ l by rw [show l.getD k 0 = l[k]'(by rw [hlen.out]; exact hlt) by simp [List.getD, hlen.out, hlt]]; exact List.getElem_mem _))
        exact this
      obtain ⟨st, hs'⟩ : ∃ x, x = crcB s (l.take k) := ⟨_, rfl⟩
      obtain ⟨c, hcc⟩ : ∃ c : Nat, l.getD k 0 = c := ⟨(l.getD k 0).toNat, by omega⟩
      rw [hcc] at hcell hn hb
      rw [← hs'] at hst hn ⊢
      have hc8 : c < 256 := by omega
      clear hs' hcc hc hb
      go_wp2_with (go_at_call 16; refine (CBehind_ok _ st c hst hc8).mono ?_; rintro e w1 ⟨rfl, rfl⟩)
      go_round
      case rel => exact ⟨k + 1, by omega, by go_num, by rw [hn.out]; simp⟩
      case measure => (simp [intOf] <;> omega)
    · obtain rfl : k = len := by omega
      rw [List.take_of_length_le (by rw [hlen.out]; omega)]
      go_wp2
      go_ret2
      exact ⟨rfl, Below.refl _ _⟩
theorem ones_xor {x : Nat} (h : x < 4294967296) : 4294967295 ^^^ x = 4294967295 - x := by
  apply Nat.eq_of_testBit_eq
  intro i
  rw [Nat.testBit_xor, show 4294967295 - x = 2 ^ 32 - (x + 1) by omega, Nat.testBit_two_pow_sub_succ (by omega), show (4294967295 : Nat) = 2 ^ 32 - 1 by decide, Nat.testBit_two_pow_sub_one]
  by_cases hi : i < 32
  · simp [hi]
  · simp only [hi, decide_false, Bool.false_xor, Bool.false_and]
    exact Nat.testBit_lt_two_pow (Nat.lt_of_lt_of_le h (by calc 4294967296 = 2 ^ 32 := by decide
      _ ≤ 2 ^ i := Nat.pow_le_pow_right (by decide) (by omega)))
theorem CSum_many (W : World) (a : Option Addr) (len cap : Nat) (h : (100000 : Int) < len) (hm : len ≤ 9223372036854775807) :
    Calls Try.prog 10 #[.slice a len cap] W fun e W' => e = .returned (.tuple #[.int .u32 0, .int .i64 4]) ∧ Below W.heap.size W W' := by
  have hc := Go.Lib.hid (CNext_many W 4294967295 a len cap h hm)
  go_enter Try.func10, Try.ntmps10
  go_wp2_with (go_at_call 11; refine hc.out.mono ?_; rintro e w1 ⟨rfl, hb1⟩)
  go_ret2
  exact ⟨rfl, hb1⟩
theorem CSum_ok (W : World) (a : Option Addr) (len cap : Nat) (l : List Int) (hr : Row .u8 W a len cap l) (h : (len : Int) ≤ 100000) :
    Calls Try.prog 10 #[.slice a len cap] W fun e W' => e = .returned (.tuple #[.int .u32 (crcSum l : Nat), .int .i64 0]) ∧ Below W.heap.size W W' := by
  have hc := Go.Lib.hid (CNext_ok W 4294967295 a len cap l hr (by decide) h)
  have hlt := crcB_lt l (s := 4294967295) (by decide)
  have e := Go.Lib.hid (show crcSum l = 4294967295 - crcB 4294967295 l from rfl)
  obtain ⟨x, hx⟩ : ∃ x, x = crcB 4294967295 l := ⟨_, rfl⟩
  rw [← hx] at hc hlt e
  have hn : bits .xor .u32 IntKind.u32.max (x : Int) = ((4294967295 - x : Nat) : Int) := by
    have := Go.u32_xor_nat 4294967295 x (by decide) hlt
    rw [ones_xor hlt] at this
    exact this
  clear hr hx
  go_enter Try.func10, Try.ntmps10
  go_wp2_with (go_at_call 11; refine hc.out.mono ?_; rintro e w1 ⟨rfl, hb1⟩)
  go_ret2
  exact ⟨congrArg (fun z => Ending.returned (.tuple #[.int .u32 z, .int .i64 0])) (by rw [e.out]), hb1⟩
end Go.Proofs.Ytlneafhihbnphaa
