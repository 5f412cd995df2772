/- Texts of the proof, one behind the other: MyCrc, BloX, BloL, BloZ. -/
import Derived.Test.YthiaeldhelhjlaaZ5
/- Contracts of the package crc32 (the true code). -/
namespace Go.Proofs.Ythiaeldhelhjlaa
open Go.RowKit Cad

def crcTab : List Int := (List.range 256).map fun i => (crcByte 0 i : Int)
theorem crcTab_len : crcTab.length = 256 := by simp [crcTab]
theorem crcTab_getD {i : Nat} (h : i < 256) : crcTab.getD i 0 = (crcByte 0 i : Nat) := by simp [crcTab, List.getD, h]
theorem crcTab_snoc {k : Nat} (h : k < 256) : crcTab.take (k + 1) = crcTab.take k ++ [(crcByte 0 k : Int)] := by
  rw [List.take_add_one, List.getElem?_eq_getElem (by rw [crcTab_len]; exact h)]
  simp [crcTab]

attribute [irreducible] crcTab

theorem iterZ_last : ∀ (k s : Nat), iterZ (k + 1) s = crcZ (iterZ k s)
  | 0, _ => rfl
  | k + 1, s => by rw [iterZ, iterZ_last k, iterZ]
theorem iterZ_lt : ∀ (k : Nat) {s : Nat}, s < 4294967296 → iterZ k s < 4294967296
  | 0, _, h => h
  | k + 1, _, h => iterZ_lt k (crcZ_lt h)

theorem CBehind_ok (W : World) (s c : Nat) (hs : s < 4294967296) (hc : c < 256) :
    Calls Try.prog 42 #[.int .u32 s, .int .u8 c] W fun e W' => e = .returned (.int .u32 (crcByte s c : Nat)) ∧ W = W' := by
  have hx := Go.u32_xor_nat s c hs (by omega)
  have hxl : s ^^^ c < 4294967296 := Nat.xor_lt_two_pow (n := 32) hs (by omega)
  have hit := Go.Lib.hid (crcByte_iter s c hc)
  obtain ⟨x, hxd⟩ : ∃ x, x = s ^^^ c := ⟨_, rfl⟩
  rw [← hxd] at hx hxl hit
  clear hxd
  go_enter Try.func42, Try.ntmps42
  go_wp2
  go_loop [0, 9] (fun st i => ∃ k : Nat, k ≤ 8 ∧ i = .int .i64 k ∧ st = .int .u32 (iterZ k x : Nat)) (fun _ i => 8 - (intOf i).toNat)
  case atStart => exact ⟨0, by omega, rfl, rfl⟩
  case round =>
    clear hx
    obtain ⟨k, hk, rfl, rfl⟩ := hrel
    by_cases hlt : k < 8
    · have hst := iterZ_lt k hxl
      have hn := Go.Lib.hid (iterZ_last k x)
      obtain ⟨st, hs'⟩ : ∃ y, y = iterZ k x := ⟨_, rfl⟩
      rw [← hs'] at hst hn ⊢
      clear hs' hit
      rcases (show st % 2 = 0 ∨ st % 2 = 1 by omega) with h | h
      · have e1 : bits .and .u32 (st : Int) 1 = 0 := by
          have := Go.u32_and_nat st 1 hst (by decide)
          rw [show ((1 : Nat) : Int) = 1 from rfl] at this
          rw [this, Nat.and_one_is_mod, h]; rfl
        have e2 : bits .and .u32 3988292384 0 = 0 := by
          have := Go.u32_and_nat 3988292384 0 (by decide) (by decide)
          simpa using this
        have e3 : bits .xor .u32 ((st : Int) / 2) 0 = (st : Int) / 2 := by
          have := Go.u32_xor_nat (st / 2) 0 (by omega) (by decide)
          simpa using this
        have hz := Go.Lib.hid (show crcZ st = st / 2 by unfold crcZ; rw [if_neg (by omega)]; simp)
        clear h
        go_wp2
        go_round
        case rel => exact ⟨k + 1, by omega, by go_num, by rw [hn.out, hz.out]; simp⟩
        case measure => (simp [intOf] <;> omega)
      · have e1 : bits .and .u32 (st : Int) 1 = 1 := by
          have := Go.u32_and_nat st 1 hst (by decide)
          rw [show ((1 : Nat) : Int) = 1 from rfl] at this
          rw [this, Nat.and_one_is_mod, h]; rfl
        have e2 : bits .and .u32 3988292384 4294967295 = 3988292384 := by
          have := Go.u32_and_nat 3988292384 4294967295 (by decide) (by decide)
          simpa using this
        have hx := Go.u32_xor_nat (st / 2) 3988292384 (by omega) (by decide)
        rw [show ((3988292384 : Nat) : Int) = (3988292384 : Int) from rfl, show ((st / 2 : Nat) : Int) = (st : Int) / 2 by simp] at hx
        have hz := Go.Lib.hid (show crcZ st = st / 2 ^^^ 3988292384 by unfold crcZ; rw [if_pos h])
        obtain ⟨y, hy⟩ : ∃ y, y = st / 2 ^^^ 3988292384 := ⟨_, rfl⟩
        rw [← hy] at hx hz
        clear h hy
        go_wp2
        go_round
        case rel => exact ⟨k + 1, by omega, by go_num, by rw [hn.out, hz.out]⟩
        case measure => (simp [intOf] <;> omega)
    · obtain rfl : k = 8 := by omega
      go_wp2
      go_ret
      exact ⟨ret_int (by rw [hit.out]), rfl⟩

def tabTo (k : Nat) : List Int := crcTab.take k ++ List.replicate (256 - k) 0
theorem tabTo_0 : tabTo 0 = List.replicate 256 0 := by unfold tabTo; rw [List.take_zero, List.nil_append]
theorem tabTo_256 : tabTo 256 = crcTab := by unfold tabTo; rw [List.take_of_length_le (by rw [crcTab_len]; exact Nat.le_refl _), Nat.sub_self, List.replicate_zero, List.append_nil]
theorem tabTo_len {k : Nat} (h : k ≤ 256) : (tabTo k).length = 256 := by unfold tabTo; rw [List.length_append, List.length_take, crcTab_len, List.length_replicate]; omega
theorem tabTo_set {k : Nat} (h : k < 256) : (tabTo k).set k (crcByte 0 k : Nat) = tabTo (k + 1) := by
  unfold tabTo
  rw [crcTab_snoc h, show 256 - k = (256 - (k + 1)) + 1 by omega, List.replicate_succ, List.set_append_right _ _ (by rw [List.length_take, crcTab_len]; omega)]
  rw [show k - (List.take k crcTab).length = 0 by rw [List.length_take, crcTab_len]; omega]
  simp
attribute [irreducible] tabTo

theorem CNext_many (W : World) (s : Int) (a : Option Addr) (len cap : Nat) (h : (100000 : Int) < len) (hm : len ≤ 9223372036854775807) :
    Calls Try.prog 35 #[.int .u32 s, .slice a len cap] W fun e W' => e = .returned (.tuple #[.int .u32 0, .int .i64 4]) ∧ Below W.heap.size W W' := by
  go_enter Try.func35, Try.ntmps35
  go_wp2
  go_ret2
  exact ⟨rfl, Below.refl _ _⟩
theorem CNext_ok (W : World) (s : Nat) (a : Option Addr) (len cap : Nat) (l : List Int) (hr : Row .u8 W a len cap l) (hs : s < 4294967296) (h : (len : Int) ≤ 100000) :
    Calls Try.prog 35 #[.int .u32 s, .slice a len cap] W fun e W' => e = .returned (.tuple #[.int .u32 (crcB s l : Nat), .int .i64 0]) ∧ Below W.heap.size W W' := by
  have hmx := Nat.le_trans hr.hcap hr.hmax
  unfold maxLen at hmx
  have hlen := Go.Lib.hid hr.hlen
  have hr' := Go.Lib.hid hr
  clear hr
  go_enter Try.func35, Try.ntmps35
  go_wp2
  go_loop [0, 7, 13] (fun st x i => ∃ k : Nat, k ≤ len ∧ i = .int .i64 k ∧ st = .int .u32 (crcB s (l.take k) : Nat)) (fun _ _ i => len - (intOf i).toNat)
  case atStart => exact ⟨0, by omega, rfl, rfl⟩
  case round =>
    obtain ⟨k, hk, rfl, rfl⟩ := hrel
    by_cases hlt : k < len
    · obtain ⟨b, off, rfl, _, hc⟩ := hr'.out.cells (by omega)
      have hcell := hc k hlt
      have hn := Go.Lib.hid (crcB_snoc s l (k := k) (by rw [hlen.out]; exact hlt))
      have hst := crcB_lt (l.take k) hs
      have hb : 0 ≤ l.getD k 0 ∧ l.getD k 0 ≤ 255 := by
        have := bounds_u8 (hr'.out.wf _ (show l.getD k 0 ∈ l by rw [show l.getD k 0 = l[k]'(by rw [hlen.out]; exact hlt) by simp [List.getD, hlen.out, hlt]]; exact List.getElem_mem _))
        exact this
      obtain ⟨st, hs'⟩ : ∃ x, x = crcB s (l.take k) := ⟨_, rfl⟩
      obtain ⟨c, hcc⟩ : ∃ c : Nat, l.getD k 0 = c := ⟨(l.getD k 0).toNat, by omega⟩
      rw [hcc] at hcell hn hb
      rw [← hs'] at hst hn ⊢
      have hc8 : c < 256 := by omega
      clear hs' hcc hc hb
      go_wp2_with (go_at_call 42; refine (CBehind_ok _ st c hst hc8).mono ?_; rintro e w1 ⟨rfl, rfl⟩)
      go_round
      case rel => exact ⟨k + 1, by omega, by go_num, by rw [hn.out]; simp⟩
      case measure => (simp [intOf] <;> omega)
    · obtain rfl : k = len := by omega
      rw [List.take_of_length_le (by rw [hlen.out]; omega)]
      go_wp2
      go_ret2
      exact ⟨rfl, Below.refl _ _⟩
theorem ones_xor {x : Nat} (h : x < 4294967296) : 4294967295 ^^^ x = 4294967295 - x := by
  apply Nat.eq_of_testBit_eq
  intro i
  rw [Nat.testBit_xor, show 4294967295 - x = 2 ^ 32 - (x + 1) by omega, Nat.testBit_two_pow_sub_succ (by omega), show (4294967295 : Nat) = 2 ^ 32 - 1 by decide, Nat.testBit_two_pow_sub_one]
  by_cases hi : i < 32
  · simp [hi]
  · simp only [hi, decide_false, Bool.false_xor, Bool.false_and]
    exact Nat.testBit_lt_two_pow (Nat.lt_of_lt_of_le h (by calc 4294967296 = 2 ^ 32 := by decide
      _ ≤ 2 ^ i := Nat.pow_le_pow_right (by decide) (by omega)))
theorem CSum_many (W : World) (a : Option Addr) (len cap : Nat) (h : (100000 : Int) < len) (hm : len ≤ 9223372036854775807) :
    Calls Try.prog 24 #[.slice a len cap] W fun e W' => e = .returned (.tuple #[.int .u32 0, .int .i64 4]) ∧ Below W.heap.size W W' := by
  have hc := Go.Lib.hid (CNext_many W 4294967295 a len cap h hm)
  go_enter Try.func24, Try.ntmps24
  go_wp2_with (go_at_call 35; refine hc.out.mono ?_; rintro e w1 ⟨rfl, hb1⟩)
  go_ret2
  exact ⟨rfl, hb1⟩
theorem CSum_ok (W : World) (a : Option Addr) (len cap : Nat) (l : List Int) (hr : Row .u8 W a len cap l) (h : (len : Int) ≤ 100000) :
    Calls Try.prog 24 #[.slice a len cap] W fun e W' => e = .returned (.tuple #[.int .u32 (crcSum l : Nat), .int .i64 0]) ∧ Below W.heap.size W W' := by
  have hc := Go.Lib.hid (CNext_ok W 4294967295 a len cap l hr (by decide) h)
  have hlt := crcB_lt l (s := 4294967295) (by decide)
  have e := Go.Lib.hid (show crcSum l = 4294967295 - crcB 4294967295 l from rfl)
  obtain ⟨x, hx⟩ : ∃ x, x = crcB 4294967295 l := ⟨_, rfl⟩
  rw [← hx] at hc hlt e
  have hn : bits .xor .u32 IntKind.u32.max (x : Int) = ((4294967295 - x : Nat) : Int) := by
    have := Go.u32_xor_nat 4294967295 x (by decide) hlt
    rw [ones_xor hlt] at this
    exact this
  clear hr hx
  go_enter Try.func24, Try.ntmps24
  go_wp2_with (go_at_call 35; refine hc.out.mono ?_; rintro e w1 ⟨rfl, hb1⟩)
  go_ret2
  exact ⟨congrArg (fun z => Ending.returned (.tuple #[.int .u32 z, .int .i64 0])) (by rw [e.out]), hb1⟩
end Go.Proofs.Ythiaeldhelhjlaa

/- Contracts of the package block: Size, Pack, Unpack. -/
namespace Go.Proofs.Ythiaeldhelhjlaa
open Go.RowKit Cad

theorem KSize_no (W : World) (n : Int) (h : n < 0 ∨ 330000 < n) :
    Calls Try.prog 10 #[.int .i64 n] W fun e W' => e = .returned (.tuple #[.int .i64 0, .int .i64 2]) ∧ Below W.heap.size W W' := by
  rcases (show n < 0 ∨ (¬ n < 0 ∧ 330000 < n) by omega) with h | ⟨h, h'⟩
  all_goals
    go_enter Try.func10, Try.ntmps10
    go_wp2
    go_ret2
    exact ⟨rfl, Below.refl _ _⟩
theorem KSize_ok (W : World) (n : Nat) (h : n ≤ 330000) :
    Calls Try.prog 10 #[.int .i64 n] W fun e W' => e = .returned (.tuple #[.int .i64 (((n + 7) / 8 + 4 : Nat) : Int), .int .i64 0]) ∧ Below W.heap.size W W' := by
  have h0 : ¬ (n : Int) < 0 := by omega
  have h1 : ¬ (330000 : Int) < n := by omega
  go_enter Try.func10, Try.ntmps10
  go_wp2
  go_ret2
  refine ⟨congrArg (fun z => Ending.returned (.tuple #[.int .i64 z, .int .i64 0])) ?_, Below.refl _ _⟩
  go_num

theorem KsumOf_ok (W : World) (a : Option Addr) (len cap : Nat) (l : List Int) (hr : Row .u8 W a len cap l) (h : (len : Int) ≤ 100000) :
    Calls Try.prog 25 #[.slice a len cap] W fun e W' => ∃ b c, e = .returned (.tuple #[.slice b 4 c, .int .i64 0]) ∧ Row .u8 W' b 4 c (CadL.leB (crcSum l : Nat) 4) ∧ Below W.heap.size W W' := by
  have hcs := Go.Lib.hid (CSum_ok W a len cap l hr h)
  have hlt := crcSum_lt l
  obtain ⟨s, hs⟩ : ∃ s, s = crcSum l := ⟨_, rfl⟩
  rw [← hs] at hcs hlt ⊢
  have hle : Hid (∀ w, Calls Try.prog 36 #[.int .u64 (s : Int), .int .i64 4] w fun e W' => e = .returned (.tuple #[.slice (some ⟨w.heap.size, 0, none⟩) 4 4, .int .i64 0]) ∧ W'.ownsRow w.heap.size 5 1 (.slice (some ⟨w.heap.size, 0, none⟩) 4 4) 4 (nums .u8 (CadL.leB (s : Int) 4)) ∧ Below w.heap.size w W') := Go.Lib.hid fun w => Bytes_ok (s : Int) 4 w (by decide) (by decide) (by omega) (by show (s : Int) ≤ 4294967295; omega)
  have hwf := Go.Lib.hid (u8_wf (CadL.leB_wf (s : Int) 4))
  clear hr hs
  go_enter Try.func25, Try.ntmps25
  go_wp2_with (first
    | (go_at_call 24; with_reducible refine hcs.out.mono ?_; rintro e w1 ⟨rfl, hb1⟩; have B1 := Go.Lib.hid hb1; clear hb1)
    | (go_at_call 36; with_reducible refine (hle.out _).mono ?_; rintro e w2 ⟨rfl, ho2, hb2⟩; have R2 := Go.Lib.hid (Row.of_own ho2 hwf.out); have B2 := Go.Lib.hid (B1.out.trans (hb2.mono B1.out.size)); clear ho2 hb2))
  go_ret2
  exact ⟨_, _, rfl, R2.out, B2.out⟩

theorem KPack_bad (W : World) (aa : Option Addr) (len cap : Nat) (N : Int) (l : List Int) (hr : Row .u8 W aa len cap l) (hN : (Lit.int .i64 N).wf = true) (hv : ¬ Valid l N) :
    ResP 11 #[.agg #[.slice aa len cap, .int .i64 N]] W 0 [] 8 := by
  refine ResP.none ?_
  have b0 := Go.Lib.hid (below1 W (.cells #[.slice aa len cap, .int .i64 N] 29))
  have hal := Go.Lib.hid (BAlign_bad _ aa len cap N l (hr.below b0.out (Nat.le_refl _)) hN hv)
  clear hr hN hv
  go_enter Try.func11, Try.ntmps11
  go_wp2_with (go_at_call 23; with_reducible refine hal.out.mono ?_; rintro e w1 ⟨rfl, hb1⟩; have B1 := b0.out.trans (hb1.mono b0.out.size); have B2 := Go.Lib.hid (B1.alloc B1.size (.cells #[.slice none 0 0, .int .i64 0] 29)); clear hb1 B1)
  go_ret2
  exact ⟨rfl, B2.out⟩

theorem KPack_ok (W : World) (aa : Option Addr) (len cap : Nat) (N : Int) (l : List Int) (hr : Row .u8 W aa len cap l) (hN : (Lit.int .i64 N).wf = true) (hv : Valid l N) :
    ResP 11 #[.agg #[.slice aa len cap, .int .i64 N]] W (len + 4) (sealB l) 0 := by
  unfold ResP
  have hlen : len ≤ 41250 := by have := hv.n; have := hr.hlen; omega
  have b0 := Go.Lib.hid (below1 W (.cells #[.slice aa len cap, .int .i64 N] 29))
  have hwl := Go.Lib.hid hr.wf
  obtain ⟨n8, hn8⟩ : ∃ n8, n8 = 8 * (len : Int) := ⟨_, rfl⟩
  have hal := Go.Lib.hid (BAlign_ok _ aa len cap N l (hr.below b0.out (Nat.le_refl _)) hN hv)
  rw [← hn8] at hal
  have hsm := Go.Lib.hid fun w a c h => KsumOf_ok w a len c l h (by omega)
  obtain ⟨S, hS⟩ : ∃ S, S = CadL.leB (crcSum l : Nat) 4 := ⟨_, rfl⟩
  have hse : Hid (l ++ S = sealB l) := Go.Lib.hid (by rw [hS]; rfl)
  rw [← hS] at hsm
  have hn9 : len + 4 ≤ 1000000000 := by omega
  clear hr hN hv hS hn8
  go_enter Try.func11, Try.ntmps11
  go_wp2_with (first
    | (go_at_call 23; with_reducible refine hal.out.mono ?_; rintro e w1 ⟨v1, rfl, ho1, hb1⟩; obtain ⟨a1, c1, rfl⟩ := own_form ho1; have R0 := Row.of_own ho1 hwl.out; have B1 := b0.out.trans (hb1.mono b0.out.size); have B2 := Go.Lib.hid (B1.alloc B1.size (.cells #[.slice a1 len c1, .int .i64 n8] 29)); have R2 := Go.Lib.hid (R0.below (below1 w1 (.cells #[.slice a1 len c1, .int .i64 n8] 29)) (Nat.le_refl _)); have X2 := Go.Lib.hid (box1 w1 (.slice a1 len c1) n8); obtain ⟨c0, c1', c2, c3⟩ := X2.out.cells; clear ho1 hb1 R0 B1)
    | (go_at_call 25; with_reducible refine (hsm.out _ _ _ R2.out).mono ?_; rintro e w3 ⟨a3, c3', rfl, hr3, hb3⟩; have B3 := Go.Lib.hid (B2.out.trans (hb3.mono B2.out.size)); have R3 := Go.Lib.hid (R2.out.below hb3 (Nat.le_refl _)); have S3 := Go.Lib.hid hr3; have X3 := Go.Lib.hid (X2.out.below hb3 X2.out.lt); obtain ⟨d0, d1, d2, d3⟩ := X3.out.cells; clear hr3 hb3)
    | (go_at_call 26; with_reducible refine (SConcat2_ok w3 _ a1 len c1 l a3 4 c3' S R3.out S3.out hn9).mono ?_; rintro e w4 ⟨a4, c4, rfl, hr4, hb4⟩; have B4 := Go.Lib.hid (B3.out.trans (hb4.mono B3.out.size)); have R4 := Go.Lib.hid hr4; clear hr4 hb4))
  go_ret2
  exact ⟨a4, c4, rfl, by rw [← hse.out]; exact R4.out, B4.out⟩

theorem KUnpack_short (W : World) (a : Option Addr) (len cap : Nat) (l : List Int) (_hr : Row .u8 W a len cap l) (h : len < 4) :
    ResU 12 #[.slice a len cap] W 0 [] 0 24 := by
  refine ResU.none ?_
  have h' : (len : Int) < 4 := by omega
  clear _hr
  go_enter Try.func12, Try.ntmps12
  go_wp2
  go_returns
  exact ⟨rfl, (Below.refl _ _).alloc (Nat.le_refl _) _⟩
theorem KUnpack_many (W : World) (a : Option Addr) (len cap : Nat) (l : List Int) (_hr : Row .u8 W a len cap l) (h : 41254 < len) (hm : len ≤ 9223372036854775807) :
    ResU 12 #[.slice a len cap] W 0 [] 0 4 := by
  refine ResU.none ?_
  have h' : ¬ (len : Int) < 4 := by omega
  have h2 : (41254 : Int) < len := by omega
  clear _hr
  go_enter Try.func12, Try.ntmps12
  go_wp2
  go_returns
  exact ⟨rfl, (Below.refl _ _).alloc (Nat.le_refl _) _⟩

theorem right_iff {l : List Int} {len n : Nat} (hl : l.length = len) (hn : n + 4 = len) : rightB l ↔ CadL.leB (crcSum (l.take n) : Nat) 4 = (l.drop n).take 4 := by
  have e : l.length - 4 = n := by omega
  have e4 : (l.drop n).take 4 = l.drop n := List.take_of_length_le (by simp; omega)
  rw [e4]
  unfold rightB sealB
  rw [e]
  constructor
  · rintro ⟨_, h⟩
    have h' : l.take n ++ CadL.leB (crcSum (l.take n) : Nat) 4 = l.take n ++ l.drop n := by rw [List.take_append_drop]; exact h
    exact List.append_cancel_left h'
  · intro h
    refine ⟨by omega, ?_⟩
    rw [h, List.take_append_drop]

theorem BoxAt.drewN {w : World} {x : Nat} {v : Value} {N : Int} (h : BoxAt w x v N) (n : Nat) : BoxAt (w.drewN n) x v N := h

theorem KUnpack_no (W : World) (a : Option Addr) (len cap : Nat) (l : List Int) (hr : Row .u8 W a len cap l) (h4 : 4 ≤ len) (hl : len ≤ 41254) (hn : ¬ rightB l) :
    ResU 12 #[.slice a len cap] W 0 [] 0 22 := by
  refine ResU.none ?_
  have h' : ¬ (len : Int) < 4 := by omega
  have h2 : ¬ (41254 : Int) < len := by omega
  obtain ⟨n, hnn⟩ : ∃ n, n + 4 = len := ⟨len - 4, by omega⟩
  have hne := Go.Lib.hid (decide_eq_false fun h => hn ((right_iff hr.hlen hnn).2 h))
  have hcap := hr.hcap
  have hmx := Nat.le_trans hr.hcap hr.hmax
  unfold maxLen at hmx
  obtain ⟨b, off, rfl, hbW, _⟩ := hr.cells (by omega)
  have b0 := Go.Lib.hid (below1 W (.cells #[.slice none 0 0, .int .i64 0] 29))
  have x0 := Go.Lib.hid (box1 W (.slice none 0 0) 0)
  have r0 := hr.below b0.out (Nat.le_refl _)
  have rT := Go.Lib.hid (r0.take n (by omega))
  have rS := Go.Lib.hid (r0.sub n 4 (by omega))
  have hsm := Go.Lib.hid fun w h => KsumOf_ok w (some ⟨b, off, none⟩) n cap (l.take n) h (by omega)
  obtain ⟨S, hS⟩ : ∃ S, S = CadL.leB (crcSum (l.take n) : Nat) 4 := ⟨_, rfl⟩
  obtain ⟨Z, hZ⟩ : ∃ Z, Z = (l.drop n).take 4 := ⟨_, rfl⟩
  rw [← hS] at hsm hne
  rw [← hZ] at hne rS
  obtain ⟨m4, hm4⟩ : ∃ m4, m4 = len - n := ⟨_, rfl⟩
  have hm4' : m4 = 4 := by omega
  have heq : Hid (∀ w a c, Row .u8 w a 4 c S → Row .u8 w (some ⟨b, off + n, none⟩) 4 (cap - n) Z → Calls Try.prog 27 #[.slice a 4 c, .slice (some ⟨b, off + n, none⟩) m4 (cap - n)] w fun e W' => e = .returned (.bool false) ∧ Below w.heap.size w W') := Go.Lib.hid fun w a c h1 h2 => by
    have := SEqual_ok w a 4 c S h1 (some ⟨b, off + n, none⟩) 4 (cap - n) Z h2
    rw [hm4']
    rwa [hne.out] at this
  rw [hm4] at heq
  have e1 : (len : Int) - 4 = (n : Int) := by omega
  have e2 : (n : Int) ≤ len := by omega
  have e3 : (n : Int) < cap := by omega
  clear hr hn hS hZ r0 hne hm4 hm4'
  go_enter Try.func12, Try.ntmps12
  go_wp2
  go_quiet (fail)
  go_wp2_with (first
    | (go_at_call 25; with_reducible refine (hsm.out _ ?h0).mono ?_; (case h0 => exact rT.out.below (Below.drewN (Below.refl _ _) _) (Nat.le_refl _)); rintro e w1 ⟨a1, c1, rfl, hr1, hb1⟩; have B1 := Go.Lib.hid ((Below.drewN b0.out _).trans (hb1.mono (Below.drewN b0.out _).size)); have S1 := Go.Lib.hid hr1; have R1 := Go.Lib.hid ((rS.out.below (Below.drewN (Below.refl _ _) _) (Nat.le_refl _)).below hb1 (Nat.le_refl _)); have T1 := Go.Lib.hid ((rT.out.below (Below.drewN (Below.refl _ _) _) (Nat.le_refl _)).below hb1 (Nat.le_refl _)); have X1 := Go.Lib.hid ((x0.out.drewN _).below hb1 (x0.out.drewN _).lt); clear hr1 hb1)
    | (go_at_call 27; with_reducible refine (heq.out _ _ _ S1.out R1.out).mono ?_; rintro e w2 ⟨rfl, hb2⟩; have B2 := Go.Lib.hid (B1.out.trans (hb2.mono B1.out.size)); have X2 := Go.Lib.hid (X1.out.below hb2 X1.out.lt); have T2 := Go.Lib.hid (T1.out.below hb2 (Nat.le_refl _)); obtain ⟨c0, c1, c2, c3⟩ := X2.out.cells; clear hb2))
  (try simp only [Exit.inBlock, Exit.then])
  refine bodyPost_ret (results_box_tmp (by rfl) _ _ W.heap.size _ _ rfl (X2.out.set _ _)) rfl ?_
  exact ⟨rfl, (B2.out.setCell (Nat.le_refl _) _).setCell (Nat.le_refl _) _⟩

theorem KUnpack_ok (W : World) (a : Option Addr) (len cap : Nat) (l : List Int) (hr : Row .u8 W a len cap l) (hl : len ≤ 41254) (hy : rightB l) :
    ResU 12 #[.slice a len cap] W (len - 4) (l.take (len - 4)) (8 * (len - 4) : Nat) 0 := by
  unfold ResU
  have h4 : 4 ≤ len := by have := hy.1; have := hr.hlen; omega
  have h' : ¬ (len : Int) < 4 := by omega
  have h2 : ¬ (41254 : Int) < len := by omega
  obtain ⟨n, hnn⟩ : ∃ n, n + 4 = len := ⟨len - 4, by omega⟩
  have hne := Go.Lib.hid (decide_eq_true ((right_iff hr.hlen hnn).1 hy))
  have hcap := hr.hcap
  have hmx := Nat.le_trans hr.hcap hr.hmax
  unfold maxLen at hmx
  obtain ⟨b, off, rfl, hbW, _⟩ := hr.cells (by omega)
  have b0 := Go.Lib.hid (below1 W (.cells #[.slice none 0 0, .int .i64 0] 29))
  have x0 := Go.Lib.hid (box1 W (.slice none 0 0) 0)
  have r0 := hr.below b0.out (Nat.le_refl _)
  have rT := Go.Lib.hid (r0.take n (by omega))
  have rS := Go.Lib.hid (r0.sub n 4 (by omega))
  have hsm := Go.Lib.hid fun w h => KsumOf_ok w (some ⟨b, off, none⟩) n cap (l.take n) h (by omega)
  obtain ⟨S, hS⟩ : ∃ S, S = CadL.leB (crcSum (l.take n) : Nat) 4 := ⟨_, rfl⟩
  obtain ⟨Z, hZ⟩ : ∃ Z, Z = (l.drop n).take 4 := ⟨_, rfl⟩
  rw [← hS] at hsm hne
  rw [← hZ] at hne rS
  obtain ⟨m4, hm4⟩ : ∃ m4, m4 = len - n := ⟨_, rfl⟩
  have hm4' : m4 = 4 := by omega
  have heq : Hid (∀ w a c, Row .u8 w a 4 c S → Row .u8 w (some ⟨b, off + n, none⟩) 4 (cap - n) Z → Calls Try.prog 27 #[.slice a 4 c, .slice (some ⟨b, off + n, none⟩) m4 (cap - n)] w fun e W' => e = .returned (.bool true) ∧ Below w.heap.size w W') := Go.Lib.hid fun w a c h1 h2 => by
    have := SEqual_ok w a 4 c S h1 (some ⟨b, off + n, none⟩) 4 (cap - n) Z h2
    rw [hm4']
    rwa [hne.out] at this
  rw [hm4] at heq
  have e1 : (len : Int) - 4 = (n : Int) := by omega
  have e2 : (n : Int) ≤ len := by omega
  have e3 : (n : Int) < cap := by omega
  have hwf := Go.Lib.hid (hr.take n (by omega)).wf
  have hlt : Hid (l.take (len - 4) = l.take n ∧ len - 4 = n) := Go.Lib.hid ⟨by rw [show len - 4 = n by omega], by omega⟩
  rw [hlt.out.1, hlt.out.2]
  have hof : Hid (∀ w, Row .u8 w (some ⟨b, off, none⟩) n cap (l.take n) → Calls Try.prog 13 #[.slice (some ⟨b, off, none⟩) n cap] w fun e W' => ∃ b c, e = .returned (.tuple #[.agg #[.slice b n c, .int .i64 ((8 * n : Nat) : Int)], .int .i64 0]) ∧ Row .u8 W' b n c (l.take n) ∧ Below w.heap.size w W') := Go.Lib.hid fun w h => by
    refine (BOf_ok w _ n cap (l.take n) h (by omega)).mono ?_
    rintro e W' ⟨v', rfl, ho, hb⟩
    obtain ⟨b, c, rfl⟩ := own_form ho
    exact ⟨b, c, by simp, Row.of_own ho hwf.out, hb⟩
  clear hr hy hS hZ r0 hne hm4 hm4' hlt
  go_enter Try.func12, Try.ntmps12
  go_wp2
  go_quiet (fail)
  go_wp2_with (first
    | (go_at_call 25; with_reducible refine (hsm.out _ ?h0).mono ?_; (case h0 => exact rT.out.below (Below.drewN (Below.refl _ _) _) (Nat.le_refl _)); rintro e w1 ⟨a1, c1, rfl, hr1, hb1⟩; have B1 := Go.Lib.hid ((Below.drewN b0.out _).trans (hb1.mono (Below.drewN b0.out _).size)); have S1 := Go.Lib.hid hr1; have R1 := Go.Lib.hid ((rS.out.below (Below.drewN (Below.refl _ _) _) (Nat.le_refl _)).below hb1 (Nat.le_refl _)); have T1 := Go.Lib.hid ((rT.out.below (Below.drewN (Below.refl _ _) _) (Nat.le_refl _)).below hb1 (Nat.le_refl _)); have X1 := Go.Lib.hid ((x0.out.drewN _).below hb1 (x0.out.drewN _).lt); clear hr1 hb1)
    | (go_at_call 27; with_reducible refine (heq.out _ _ _ S1.out R1.out).mono ?_; rintro e w2 ⟨rfl, hb2⟩; have B2 := Go.Lib.hid (B1.out.trans (hb2.mono B1.out.size)); have X2 := Go.Lib.hid (X1.out.below hb2 X1.out.lt); have T2 := Go.Lib.hid (T1.out.below hb2 (Nat.le_refl _)); obtain ⟨c0, c1, c2, c3⟩ := X2.out.cells; clear hb2)
    | (go_at_call 13; with_reducible refine (hof.out _ T2.out).mono ?_; rintro e w3 ⟨a3, p3, rfl, hr3, hb3⟩; have B3 := Go.Lib.hid (B2.out.trans (hb3.mono B2.out.size)); have X3 := Go.Lib.hid (X2.out.below hb3 X2.out.lt); have R3 := Go.Lib.hid hr3; obtain ⟨d0, d1, d2, d3⟩ := X3.out.cells; clear hr3 hb3))
  (try simp only [Exit.inBlock, Exit.then])
  refine bodyPost_ret (results_box_tmp (by rfl) _ _ W.heap.size _ _ rfl (X3.out.set _ _)) rfl ?_
  exact ⟨a3, p3, by simp, (R3.out.box X3.out 0 (.slice a3 n p3)).box (X3.out.set0 _) 1 _, (B3.out.setCell (Nat.le_refl _) _).setCell (Nat.le_refl _) _⟩
end Go.Proofs.Ythiaeldhelhjlaa

/- What the statements of block share: the chapter's examples; package and reference say the same. -/
namespace Go.Proofs.Ythiaeldhelhjlaa
open Go.RowKit Cad

theorem bx2 (w : World) (o : Obj) (v : Value) (N : Int) : BoxAt ((w.alloc o).alloc (.cells #[v, .int .i64 N] 29)) (w.heap.size + 1) v N := by
  unfold BoxAt; rw [heap_alloc2_new]
theorem seal_none : sealB [] = [0, 0, 0, 0] := by decide +kernel
theorem seal_one : sealB [0] = [0, 141, 239, 2, 210] := by decide +kernel
theorem valid_none : Valid [] 0 := ⟨[], by rfl, by decide, by decide⟩
theorem valid_one : Valid [0] 8 := ⟨numB 0 8, by decide +kernel, by decide, by decide⟩
theorem str_none : (strOfNums [0, 0, 0, 0]).toList = [0, 0, 0, 0] := by decide +kernel
theorem str_one : (strOfNums [0, 141, 239, 2, 210]).toList = [0, 141, 239, 2, 210] := by decide +kernel

theorem alive11_ok (W : World) : Calls Try.prog 14 #[] W fun e W' => e = .returned (.bool true) ∧ Below W.heap.size W W' := by
  have p1 : Hid (∀ w, Calls Try.prog 11 #[.agg #[.slice none 0 0, .int .i64 0]] w fun r W' => ∃ a c, r = .returned (.tuple #[.slice a 4 c, .int .i64 0]) ∧ Row .u8 W' a 4 c [0, 0, 0, 0] ∧ Below w.heap.size w W') := Go.Lib.hid fun w => by
    have := KPack_ok w none 0 0 0 [] (Row.nil_row _ _) (by decide) valid_none
    rw [seal_none] at this
    exact this
  have p2 : Hid (∀ (w : World) (x : Nat), x = w.heap.size → Calls Try.prog 11 #[.agg #[.slice (some ⟨x, 0, none⟩) 1 1, .int .i64 8]] (w.alloc (.cells #[.int .u8 0] 5)) fun r W' => ∃ a c, r = .returned (.tuple #[.slice a 5 c, .int .i64 0]) ∧ Row .u8 W' a 5 c [0, 141, 239, 2, 210] ∧ Below w.heap.size w W') := Go.Lib.hid fun w x hx => by
    subst hx
    have := KPack_ok (w.alloc (.cells #[.int .u8 0] 5)) (some ⟨w.heap.size, 0, none⟩) 1 1 8 [0] (lit_row w [0] 1 (0, 0) rfl (by decide) (by decide)) (by decide) valid_one
    rw [seal_one] at this
    refine this.mono ?_
    rintro e w' ⟨a, c, rfl, h1, h2⟩
    exact ⟨a, c, rfl, h1, (below1 w _).trans (h2.mono (by simp))⟩
  have s0 := str_none
  have s1 := str_one
  go_enter Try.func14, Try.ntmps14
  go_wp2_with (first
    | (go_at_call 11; with_reducible refine (p1.out _).mono ?_; rintro e w1 ⟨a1, c1, rfl, hr1, hb1⟩; have B1 := Go.Lib.hid hb1; have R1 := Go.Lib.hid hr1; clear hb1 hr1)
    | (go_at_call 11; with_reducible refine (p2.out _ _ ?hx).mono ?_; (case hx => simp); rintro e w2 ⟨a2, c2, rfl, hr2, hb2⟩; have B2 := Go.Lib.hid (B1.out.trans (hb2.mono B1.out.size)); have R2 := Go.Lib.hid hr2; have t1 := (R1.out.below hb2 (Nat.le_refl _)).str Try.underlying25 Try.underlying5 Try.underlying9; have t2 := hr2.str Try.underlying25 Try.underlying5 Try.underlying9; clear hb2 hr2))
  go_ret
  exact ⟨by simp, B2.out⟩

theorem ksize_both (n : Int) : ∃ m e : Int, (∀ W, Calls Try.prog 10 #[.int .i64 n] W fun r W' => r = .returned (.tuple #[.int .i64 m, .int .i64 e]) ∧ Below W.heap.size W W') ∧ ∀ w, Calls Try.prog 17 #[.int .i64 n] w fun r W' => r = .returned (.tuple #[.int .i64 m, .int .i64 e]) ∧ w = W' := by
  by_cases h : n < 0 ∨ 330000 < n
  · exact ⟨0, 2, fun W => KSize_no W n h, fun w => KrSize_no w n h⟩
  · obtain ⟨k, rfl⟩ : ∃ k : Nat, n = k := ⟨n.toNat, by omega⟩
    exact ⟨_, 0, fun W => KSize_ok W k (by omega), fun w => KrSize_ok w k (by omega)⟩
theorem kpack_both (len : Nat) (N : Int) (l : List Int) (hN : (Lit.int .i64 N).wf = true) (hwf : ∀ x ∈ l, (Lit.int .u8 x).wf = true) : ∃ (m : Nat) (z : List Int) (e : Int), (∀ x ∈ z, (Lit.int .u8 x).wf = true) ∧ (∀ w a c, Row .u8 w a len c l → ResP 11 #[.agg #[.slice a len c, .int .i64 N]] w m z e) ∧ (∀ w a c, Row .u8 w a len c l → ResP 18 #[.agg #[.slice a len c, .int .i64 N]] w m z e) := by
  by_cases hv : Valid l N
  · exact ⟨_, _, _, leB_nums hwf, fun w a c h => KPack_ok w a len c N l h hN hv, fun w a c h => KrPack_ok w a len c N l h hN hv⟩
  · exact ⟨_, _, _, fun x hx => (by cases hx), fun w a c h => KPack_bad w a len c N l h hN hv, fun w a c h => KrPack_bad w a len c N l h hN hv⟩
theorem kunpack_both (len : Nat) (l : List Int) (hl : l.length = len) (hm : len ≤ 9223372036854775807) : ∃ (m : Nat) (z : List Int) (n e : Int), (∀ w a c, Row .u8 w a len c l → ResU 12 #[.slice a len c] w m z n e) ∧ (∀ w a c, Row .u8 w a len c l → ResU 21 #[.slice a len c] w m z n e) := by
  by_cases h4 : len < 4
  · exact ⟨_, _, _, _, fun w a c h => KUnpack_short w a len c l h h4, fun w a c _ => KrUnpack_short w a len c h4⟩
  by_cases h5 : 41254 < len
  · exact ⟨_, _, _, _, fun w a c h => KUnpack_many w a len c l h h5 hm, fun w a c _ => KrUnpack_many w a len c h5 hm⟩
  by_cases hy : rightB l
  · exact ⟨_, _, _, _, fun w a c h => KUnpack_ok w a len c l h (by omega) hy, fun w a c h => KrUnpack_ok w a len c l h (by omega) hy⟩
  · exact ⟨_, _, _, _, fun w a c h => KUnpack_no w a len c l h (by omega) (by omega) hy, fun w a c h => KrUnpack_no w a len c l h (by omega) (by omega) hy⟩
end Go.Proofs.Ythiaeldhelhjlaa

/- Zeros, and the sum: 41,254 zeros are no block. No Go function in sight. -/
namespace Cad
open Go.Proofs.Ythiaeldhelhjlaa

theorem iterZ_plus : ∀ (n m s : Nat), iterZ (n + m) s = iterZ m (iterZ n s)
  | 0, m, s => by rw [Nat.zero_add]; rfl
  | n + 1, m, s => by
    rw [show n + 1 + m = (n + m) + 1 by omega]
    exact iterZ_plus n m (crcZ s)
theorem iterZ_below : ∀ (k : Nat) {s : Nat}, s < 4294967296 → iterZ k s < 4294967296
  | 0, _, h => h
  | k + 1, _, h => iterZ_below k (crcZ_lt h)
/-- s times u, bits reflected -/
def mz : Nat → Nat → Nat → Nat
  | 0, _, _ => 0
  | k + 1, u, s => (if s / 2 ^ k % 2 = 1 then u else 0) ^^^ mz k (crcZ u) s
theorem mod_top (s k : Nat) : s % 2 ^ (k + 1) = (if s / 2 ^ k % 2 = 1 then 2 ^ k else 0) ^^^ (s % 2 ^ k) := by
  apply Nat.eq_of_testBit_eq
  intro i
  rw [Nat.testBit_mod_two_pow, Nat.testBit_xor, Nat.testBit_mod_two_pow]
  have hk : s.testBit k = decide (s / 2 ^ k % 2 = 1) := Nat.testBit_eq_decide_div_mod_eq
  by_cases h1 : s / 2 ^ k % 2 = 1
  · rw [if_pos h1, Nat.testBit_two_pow]
    rw [decide_eq_true h1] at hk
    by_cases h2 : i < k
    · rw [decide_eq_true (show i < k + 1 by omega), decide_eq_true h2, decide_eq_false (show ¬ k = i by omega)]; simp
    · by_cases h3 : i = k
      · subst h3; rw [decide_eq_true (show i < i + 1 by omega), hk]; simp
      · rw [decide_eq_false (show ¬ i < k + 1 by omega), decide_eq_false h2, decide_eq_false (show ¬ k = i by omega)]; simp
  · rw [if_neg h1]
    rw [decide_eq_false h1] at hk
    by_cases h2 : i < k
    · rw [decide_eq_true (show i < k + 1 by omega), decide_eq_true h2]; simp
    · by_cases h3 : i = k
      · subst h3; rw [hk]; simp
      · rw [decide_eq_false (show ¬ i < k + 1 by omega), decide_eq_false h2]; simp
theorem mz_iter (n : Nat) : ∀ (k s : Nat), mz k (iterZ n (2 ^ (k - 1))) s = iterZ n (s % 2 ^ k)
  | 0, s => by rw [Nat.pow_zero, Nat.mod_one, iterZ_zero]; rfl
  | k + 1, s => by
    show (if s / 2 ^ k % 2 = 1 then iterZ n (2 ^ k) else 0) ^^^ mz k (crcZ (iterZ n (2 ^ k))) s = _
    have e1 : mz k (crcZ (iterZ n (2 ^ k))) s = iterZ n (s % 2 ^ k) := by
      match k with
      | 0 => rw [Nat.pow_zero, Nat.mod_one, iterZ_zero]; rfl
      | j + 1 =>
        have e2 : crcZ (iterZ n (2 ^ (j + 1))) = iterZ n (2 ^ j) := by
          have h1 : crcZ (iterZ n (2 ^ (j + 1))) = iterZ (n + 1) (2 ^ (j + 1)) := (iterZ_plus n 1 _).symm
          rw [h1]
          show iterZ n (crcZ (2 ^ (j + 1))) = _
          rw [Nat.pow_succ, Nat.mul_comm, crcZ_double]
        rw [e2]
        exact mz_iter n (j + 1) s
    rw [e1, mod_top, iterZ_xor]
    by_cases h : s / 2 ^ k % 2 = 1
    · rw [if_pos h, if_pos h]
    · rw [if_neg h, if_neg h, iterZ_zero]
theorem iter32 (n : Nat) {s : Nat} (hs : s < 4294967296) : iterZ n s = mz 32 (iterZ n 2147483648) s := by
  have := mz_iter n 32 s
  rw [Nat.mod_eq_of_lt hs] at this
  exact this.symm
theorem uz_dbl {n m u v : Nat} (h : iterZ n 2147483648 = u) (hm : m = n + n) (hv : mz 32 u u = v) : iterZ m 2147483648 = v := by
  rw [hm, iterZ_plus, iter32 n (iterZ_below n (by decide)), h, hv]
theorem uz_one {n m u v : Nat} (h : iterZ n 2147483648 = u) (hv : m = n + 1 ∧ crcZ u = v) : iterZ m 2147483648 = v := by
  rw [hv.1, iterZ_plus, h]; exact hv.2
theorem uz_0 : iterZ 0 2147483648 = 2147483648 := rfl
theorem uz_1 : iterZ 1 2147483648 = 1073741824 := uz_one uz_0 (by decide +kernel)
theorem uz_2 : iterZ 2 2147483648 = 536870912 := uz_dbl uz_1 (by decide) (by decide +kernel)
theorem uz_4 : iterZ 4 2147483648 = 134217728 := uz_dbl uz_2 (by decide) (by decide +kernel)
theorem uz_5 : iterZ 5 2147483648 = 67108864 := uz_one uz_4 (by decide +kernel)
theorem uz_10 : iterZ 10 2147483648 = 2097152 := uz_dbl uz_5 (by decide) (by decide +kernel)
theorem uz_20 : iterZ 20 2147483648 = 2048 := uz_dbl uz_10 (by decide) (by decide +kernel)
theorem uz_40 : iterZ 40 2147483648 = 998479947 := uz_dbl uz_20 (by decide) (by decide +kernel)
theorem uz_80 : iterZ 80 2147483648 = 2283203314 := uz_dbl uz_40 (by decide) (by decide +kernel)
theorem uz_160 : iterZ 160 2147483648 = 3129789416 := uz_dbl uz_80 (by decide) (by decide +kernel)
theorem uz_161 : iterZ 161 2147483648 = 1564894708 := uz_one uz_160 (by decide +kernel)
theorem uz_322 : iterZ 322 2147483648 = 3296246138 := uz_dbl uz_161 (by decide) (by decide +kernel)
theorem uz_644 : iterZ 644 2147483648 = 3117410197 := uz_dbl uz_322 (by decide) (by decide +kernel)
theorem uz_1288 : iterZ 1288 2147483648 = 3580817155 := uz_dbl uz_644 (by decide) (by decide +kernel)
theorem uz_1289 : iterZ 1289 2147483648 = 2265969825 := uz_one uz_1288 (by decide +kernel)
theorem uz_2578 : iterZ 2578 2147483648 = 1719856205 := uz_dbl uz_1289 (by decide) (by decide +kernel)
theorem uz_5156 : iterZ 5156 2147483648 = 2165145685 := uz_dbl uz_2578 (by decide) (by decide +kernel)
theorem uz_10312 : iterZ 10312 2147483648 = 1548252857 := uz_dbl uz_5156 (by decide) (by decide +kernel)
theorem uz_20624 : iterZ 20624 2147483648 = 263497498 := uz_dbl uz_10312 (by decide) (by decide +kernel)
theorem uz_20625 : iterZ 20625 2147483648 = 131748749 := uz_one uz_20624 (by decide +kernel)
theorem uz_41250 : iterZ 41250 2147483648 = 703775208 := uz_dbl uz_20625 (by decide) (by decide +kernel)
theorem uz_82500 : iterZ 82500 2147483648 = 3595620737 := uz_dbl uz_41250 (by decide) (by decide +kernel)
theorem uz_165000 : iterZ 165000 2147483648 = 3824832845 := uz_dbl uz_82500 (by decide) (by decide +kernel)
theorem uz_330000 : iterZ 330000 2147483648 = 2423463552 := uz_dbl uz_165000 (by decide) (by decide +kernel)
theorem uz_all : iterZ 330000 4294967295 = 3941930272 := by
  rw [iter32 330000 (by decide), uz_330000]; decide +kernel
theorem bitsOf_zeros : ∀ n : Nat, bitsOf (List.replicate n 0) = List.replicate (8 * n) false
  | 0 => rfl
  | n + 1 => by
    rw [List.replicate_succ]
    show numB 0 8 ++ bitsOf (List.replicate n 0) = _
    rw [bitsOf_zeros n, show numB 0 8 = List.replicate 8 false by decide, List.replicate_append_replicate]
    congr 1; omega
theorem zeros_right {n : Nat} (h : rightB (List.replicate (n + 4) 0)) : crcB 4294967295 (List.replicate n 0) = 4294967295 := by
  have h2 := h.2
  rw [List.length_replicate, List.take_replicate, Nat.add_sub_cancel, Nat.min_eq_left (by omega)] at h2
  unfold sealB at h2
  rw [← List.replicate_append_replicate] at h2
  have h3 := List.append_cancel_left h2
  have h4 := crcSum_lt (List.replicate n 0)
  have h5 := CadL.ofB_leB (crcSum (List.replicate n 0) : Nat) 4 (by omega) (by omega)
  rw [h3, show CadL.ofB (List.replicate 4 0) = 0 by decide] at h5
  have h6 := crcB_lt (List.replicate n 0) (s := 4294967295) (by decide)
  unfold crcSum at h5
  omega
theorem zeros_crc {n m : Nat} (h : m = 8 * n) : crcB 4294967295 (List.replicate n 0) = iterZ m 4294967295 := by
  rw [crcB_bits, bitsOf_zeros, crcBits_zeros, h]
theorem zeros_no {n m u : Nat} (h : m = 8 * n) (hu : iterZ m 4294967295 = u) (hne : u ≠ 4294967295) : ¬ rightB (List.replicate (n + 4) 0) := fun hr => by
  have := zeros_right hr
  rw [zeros_crc h, hu] at this
  exact hne this
theorem zeros_not : ¬ rightB (List.replicate (41250 + 4) 0) := zeros_no (by decide) uz_all (by decide)
end Cad
