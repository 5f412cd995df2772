/- Contracts of the package rice: Read. -/
import Derived.Test.YtahefkjgcdchlaaRicB
namespace Go.Proofs.Ytahefkjgcdchlaa
open Go.RowKit Cad

theorem PRead_bad (W : World) (a : Option Addr) (len cap : Nat) (N : Int) (l : List Int) (i k : Int) (hr : Row .u8 W a len cap l) (hN : (Lit.int .i64 N).wf = true) (hv : ¬ Valid l N) :
    Calls Try.prog 11 #[.agg #[.slice a len cap, .int .i64 N], .int .i64 i, .int .i64 k] W fun e W' => e = .returned (.tuple #[.int .u32 0, .int .i64 0, .int .i64 8]) ∧ Below W.heap.size W W' := by
  have hbE' := Go.Lib.hid (below1 W (.cells #[.slice a len cap, .int .i64 N] 28))
  have hck := Go.Lib.hid (BCheck_any _ a len cap N l (hr.below hbE'.out (Nat.le_refl _)) hN 8 (.inr ⟨hv, rfl⟩))
  clear hr hN hv
  go_enter Try.func11, Try.ntmps11
  go_wp2_with (go_at_call 28; refine hck.out.mono ?_; rintro e w1 ⟨rfl, hb1⟩; have hb1' := Go.Lib.hid hb1; clear hb1)
  go_ret3
  exact ⟨rfl, hbE'.out.trans (hb1'.out.mono (by simp))⟩
theorem PRead_arg (W : World) (a : Option Addr) (len cap : Nat) (N : Int) (l : List Int) (i k : Int) (hr : Row .u8 W a len cap l) (hN : (Lit.int .i64 N).wf = true) (hv : Valid l N) (hk : (Lit.int .i64 k).wf = true) (h : k < 0 ∨ 24 < k) :
    Calls Try.prog 11 #[.agg #[.slice a len cap, .int .i64 N], .int .i64 i, .int .i64 k] W fun e W' => e = .returned (.tuple #[.int .u32 0, .int .i64 0, .int .i64 2]) ∧ Below W.heap.size W W' := by
  have hbE' := Go.Lib.hid (below1 W (.cells #[.slice a len cap, .int .i64 N] 28))
  have hck := Go.Lib.hid (BCheck_any _ a len cap N l (hr.below hbE'.out (Nat.le_refl _)) hN 0 (.inl ⟨hv, rfl⟩))
  have hpa := Go.Lib.hid fun w => PisParameter_no w k hk h
  clear hr hN hv hk h
  go_enter Try.func11, Try.ntmps11
  go_wp2_with (first
    | (go_at_call 28; refine hck.out.mono ?_; rintro e w1 ⟨rfl, hb1⟩; have hb1' := Go.Lib.hid hb1; clear hb1)
    | (go_at_call 24; refine (hpa.out _).mono ?_; rintro e w2 ⟨rfl, rfl⟩))
  go_ret3
  exact ⟨rfl, hbE'.out.trans (hb1'.out.mono (by simp))⟩
/-- the run is not read -/
theorem PRead_norun (W : World) (a : Option Addr) (len cap : Nat) (N : Int) (l : List Int) (i : Int) (k : Nat) (er : Int) (her : er = 2 ∨ er = 24) (hr : Row .u8 W a len cap l) (hN : (Lit.int .i64 N).wf = true) (hv : Valid l N) (hk : k ≤ 24)
    (hun : ∀ w, Row .u8 w a len cap l → Calls Try.prog 30 #[.agg #[.slice a len cap, .int .i64 N], .int .i64 i] w fun e W' => e = .returned (.tuple #[.int .i64 0, .int .i64 0, .int .i64 er]) ∧ Below w.heap.size w W') :
    Calls Try.prog 11 #[.agg #[.slice a len cap, .int .i64 N], .int .i64 i, .int .i64 k] W fun e W' => e = .returned (.tuple #[.int .u32 0, .int .i64 0, .int .i64 er]) ∧ Below W.heap.size W W' := by
  have hbE' := Go.Lib.hid (below1 W (.cells #[.slice a len cap, .int .i64 N] 28))
  have hx0' := Go.Lib.hid (box1 W (.slice a len cap) N)
  have hrE' := Go.Lib.hid (hr.below hbE'.out (Nat.le_refl _))
  have hck := Go.Lib.hid (BCheck_any _ a len cap N l hrE'.out hN 0 (.inl ⟨hv, rfl⟩))
  have hpa := Go.Lib.hid fun w => PisParameter_ok w k hk
  have hun' := Go.Lib.hid hun
  have hne' : (er != 0) = true := by rcases her with rfl | rfl <;> rfl
  clear hr hN hv hun her
  go_enter Try.func11, Try.ntmps11
  go_wp2_with (first
    | (go_at_call 28; refine hck.out.mono ?_; rintro e w1 ⟨rfl, hb1⟩; obtain ⟨c0, c1, c2, c3⟩ := (hx0'.out.below hb1 (by simp)).cells; have hb1' := Go.Lib.hid hb1; clear hb1)
    | (go_at_call 24; refine (hpa.out _).mono ?_; rintro e w2 ⟨rfl, rfl⟩)
    | (go_at_call 30; refine (hun'.out _ (hrE'.out.below hb1'.out (Nat.le_refl _))).mono ?_; rintro e w3 ⟨rfl, hb3⟩; have hb13 := Go.Lib.hid (hb1'.out.trans (hb3.mono hb1'.out.size)); clear hb3))
  go_ret3
  exact ⟨rfl, hbE'.out.trans (hb13.out.mono (by simp))⟩

theorem or_add {low q k : Nat} (h : low < 2 ^ k) : low ||| q * 2 ^ k = q * 2 ^ k + low := by
  rw [Nat.mul_comm, Nat.two_pow_add_eq_or_of_lt h, Nat.or_comm]

set_option maxHeartbeats 800000 in
theorem PRead_in (W : World) (a : Option Addr) (len cap : Nat) (B : List Bool) (i k : Nat) (hr : Row .u8 W a len cap (pack B)) (hB : B.length ≤ 330000) (hi : i ≤ B.length) (hk : k ≤ 24) (v p er : Nat) (hv : readR B i k = (v, p, er)) :
    Calls Try.prog 11 #[.agg #[.slice a len cap, .int .i64 B.length], .int .i64 i, .int .i64 k] W fun e W' => e = .returned (.tuple #[.int .u32 v, .int .i64 p, .int .i64 er]) ∧ Below W.heap.size W W' := by
  have hval : Valid (pack B) B.length := ⟨B, rfl, hB, rfl⟩
  obtain ⟨q, m, e, hrv⟩ : ∃ q m e, readV B i = (q, m, e) := ⟨_, _, _, rfl⟩
  by_cases he : e = 0
  case neg =>
    obtain ⟨rfl, rfl, rfl, -, -⟩ := read_no hrv he hi
    rw [readR_no hrv he] at hv
    cases hv
    exact PRead_norun W a len cap B.length (pack B) i k 24 (.inr rfl) hr (bounds_of_len (by omega)) hval hk fun w hw => by
      by_cases h : i < B.length
      · exact URead_in w a len cap B i hw hB h 0 0 24 hrv
      · exact URead_no w a len cap B.length i 24 (bounds_of_len (by omega)) (.inr (.inr rfl)) fun w' hw' => BGet_short w' a len cap B.length (pack B) i 1 (hw.below hw' (Nat.le_refl _)) (bounds_of_len (by omega)) hval (by omega) (by omega) (by omega)
  subst he
  obtain ⟨hq, -, hm, hmB, -⟩ := read_is hrv hi
  have hlt : i < B.length := by have := runLen_pos q; omega
  have hbE' := Go.Lib.hid (below1 W (.cells #[.slice a len cap, .int .i64 B.length] 28))
  have hx0' := Go.Lib.hid (box1 W (.slice a len cap) B.length)
  have hrE' := Go.Lib.hid (hr.below hbE'.out (Nat.le_refl _))
  have hck := Go.Lib.hid (BCheck_any _ a len cap B.length (pack B) hrE'.out (bounds_of_len (by omega)) 0 (.inl ⟨hval, rfl⟩))
  have hpa := Go.Lib.hid fun w => PisParameter_ok w k hk
  have hlo := Go.Lib.hid fun w => PlowBits_ok w q k hq hk
  have hun := Go.Lib.hid fun w hw => URead_in w a len cap B i hw hB hlt q m 0 hrv
  have h2 := lowN_le (q := q) hk
  obtain ⟨n, hn⟩ : ∃ n, n = lowN q k := ⟨_, rfl⟩
  rw [← hn] at hlo h2
  by_cases hs : B.length < m + n
  · rw [readR_short hrv (by omega)] at hv
    cases hv
    have hg := Go.Lib.hid fun w hw => BGet_short w a len cap B.length (pack B) m n hw (bounds_of_len (by omega)) hval (by omega) (by omega) (by omega)
    clear hr hval hn hm hrv
    go_enter Try.func11, Try.ntmps11
    go_wp2_with (first
      | (go_at_call 28; refine hck.out.mono ?_; rintro e w1 ⟨rfl, hb1⟩; obtain ⟨c0, c1, c2, c3⟩ := (hx0'.out.below hb1 (by simp)).cells; have hb1' := Go.Lib.hid hb1; clear hb1)
      | (go_at_call 24; refine (hpa.out _).mono ?_; rintro e w2 ⟨rfl, rfl⟩)
      | (go_at_call 27; refine (hlo.out _).mono ?_; rintro e w2 ⟨rfl, rfl⟩)
      | (go_at_call 30; refine (hun.out _ (hrE'.out.below hb1'.out (Nat.le_refl _))).mono ?_; rintro e w3 ⟨rfl, hb3⟩; have hb13 := Go.Lib.hid (hb1'.out.trans (hb3.mono hb1'.out.size)); obtain ⟨d0, d1, d2, d3⟩ := (hx0'.out.below hb13.out (by simp)).cells; clear hb3)
      | (go_at_call 31; refine (hg.out _ (hrE'.out.below hb13.out (Nat.le_refl _))).mono ?_; rintro e w4 ⟨rfl, hb4⟩; have hb14 := Go.Lib.hid (hb13.out.trans (hb4.mono hb13.out.size)); clear hb4))
    go_ret3
    exact ⟨rfl, hbE'.out.trans (hb14.out.mono (by simp))⟩
  have hg := Go.Lib.hid fun w hw => BGet_ok w a len cap B m n hw hB (by omega) (by omega)
  have hlow : natB (midB B m (m + n)) < 2 ^ n := by
    have := natB_lt (midB B m (m + n))
    rw [midB_len B (show m ≤ m + n by omega) (by omega), show m + n - m = n by omega] at this
    exact this
  have hp32 : 2 ^ n ≤ 4294967296 := Nat.le_trans (Nat.pow_le_pow_right (n := 2) (by decide) h2) (by decide)
  have hless : ∀ (_ : q < 48), n = k ∧ readR B i k = (q * 2 ^ k + natB (midB B m (m + n)), m + n, 0) := fun h => by
    have e : n = k := by rw [hn]; exact if_pos h
    exact ⟨e, by rw [e]; exact readR_less hrv (by omega) h⟩
  have hform : ∀ (_ : q = 48) (_ : partN (natB (midB B m (m + n))) k ≠ 48), readR B i k = (0, 0, 12) := fun h h' => by
    subst h
    have e : n = 32 := hn
    rw [e] at h'
    exact readR_form hrv (by omega) h'
  have hfull : ∀ (_ : q = 48) (_ : partN (natB (midB B m (m + n))) k = 48), readR B i k = (natB (midB B m (m + n)), m + n, 0) := fun h h' => by
    subst h
    have e : n = 32 := hn
    rw [e] at h' ⊢
    exact readR_full hrv (by omega) h'
  obtain ⟨low, hl⟩ : ∃ low, low = natB (midB B m (m + n)) := ⟨_, rfl⟩
  rw [← hl] at hg hlow hless hform hfull
  have hlow32 : low < 4294967296 := by omega
  have hmI : (m : Int) + (n : Int) = ((m + n : Nat) : Int) := by omega
  have hmb : m + n ≤ 330000 := by omega
  obtain ⟨t, ht⟩ : ∃ t, t = m + n := ⟨_, rfl⟩
  rw [← ht] at hmI hmb
  by_cases h48 : q < 48
  · obtain ⟨hnk, h1⟩ := hless h48
    rw [hv, ← ht] at h1
    cases h1
    rw [hnk] at hlow
    have hp := partN_of h48 hlow
    have hlt := less_lt hk h48 hlow
    have hor := or_add (q := q) hlow
    have hru := Go.Lib.hid fun w => PrunOf_ok w (q * 2 ^ k + low) k hlt hk
    rw [hp] at hru
    obtain ⟨x, hx⟩ : ∃ x, x = q * 2 ^ k := ⟨_, rfl⟩
    rw [← hx] at hru hor hlt ⊢
    have e1 : (q : Int) * 2 ^ k = (x : Int) := by rw [hx]; simp
    have o1 := Go.u32_or_nat low x hlow32 (by omega)
    rw [hor] at o1
    have hq48 : (q : Int) < 48 := by omega
    have hkI : (k : Int) ≤ 24 := by omega
    clear hr hval hn hm hrv hless hform hfull hor hx hp hnk hv hlow hp32 hl ht hs
    go_enter Try.func11, Try.ntmps11
    go_wp2_with (first
      | (go_at_call 28; refine hck.out.mono ?_; rintro e w1 ⟨rfl, hb1⟩; obtain ⟨c0, c1, c2, c3⟩ := (hx0'.out.below hb1 (by simp)).cells; have hb1' := Go.Lib.hid hb1; clear hb1)
      | (go_at_call 24; refine (hpa.out _).mono ?_; rintro e w2 ⟨rfl, rfl⟩)
      | (go_at_call 27; refine (hlo.out _).mono ?_; rintro e w2 ⟨rfl, rfl⟩)
      | (go_at_call 30; refine (hun.out _ (hrE'.out.below hb1'.out (Nat.le_refl _))).mono ?_; rintro e w3 ⟨rfl, hb3⟩; have hb13 := Go.Lib.hid (hb1'.out.trans (hb3.mono hb1'.out.size)); obtain ⟨d0, d1, d2, d3⟩ := (hx0'.out.below hb13.out (by simp)).cells; clear hb3)
      | (go_at_call 31; refine (hg.out _ (hrE'.out.below hb13.out (Nat.le_refl _))).mono ?_; rintro e w4 ⟨rfl, hb4⟩; have hb14 := Go.Lib.hid (hb13.out.trans (hb4.mono hb13.out.size)); clear hb4)
      | (go_at_call 25; refine (hru.out _).mono ?_; rintro e w2 ⟨rfl, rfl⟩))
    go_ret3
    exact ⟨by go_num, hbE'.out.trans (hb14.out.mono (by simp))⟩
  · obtain rfl : q = 48 := by omega
    have hru := Go.Lib.hid fun w => PrunOf_ok w low k hlow32 hk
    by_cases hpp : partN low k = 48
    · have h1 := hfull rfl hpp
      rw [hv, ← ht] at h1
      cases h1
      rw [hpp] at hru
      clear hr hval hn hm hrv hless hform hfull hv hlow hp32 hl ht hs hpp
      go_enter Try.func11, Try.ntmps11
      go_wp2_with (first
        | (go_at_call 28; refine hck.out.mono ?_; rintro e w1 ⟨rfl, hb1⟩; obtain ⟨c0, c1, c2, c3⟩ := (hx0'.out.below hb1 (by simp)).cells; have hb1' := Go.Lib.hid hb1; clear hb1)
        | (go_at_call 24; refine (hpa.out _).mono ?_; rintro e w2 ⟨rfl, rfl⟩)
        | (go_at_call 27; refine (hlo.out _).mono ?_; rintro e w2 ⟨rfl, rfl⟩)
        | (go_at_call 30; refine (hun.out _ (hrE'.out.below hb1'.out (Nat.le_refl _))).mono ?_; rintro e w3 ⟨rfl, hb3⟩; have hb13 := Go.Lib.hid (hb1'.out.trans (hb3.mono hb1'.out.size)); obtain ⟨d0, d1, d2, d3⟩ := (hx0'.out.below hb13.out (by simp)).cells; clear hb3)
        | (go_at_call 31; refine (hg.out _ (hrE'.out.below hb13.out (Nat.le_refl _))).mono ?_; rintro e w4 ⟨rfl, hb4⟩; have hb14 := Go.Lib.hid (hb13.out.trans (hb4.mono hb13.out.size)); clear hb4)
        | (go_at_call 25; refine (hru.out _).mono ?_; rintro e w2 ⟨rfl, rfl⟩))
      go_ret3
      exact ⟨by go_num, hbE'.out.trans (hb14.out.mono (by simp))⟩
    · have h1 := hform rfl hpp
      rw [hv] at h1
      cases h1
      have hpl := partN_le low k
      obtain ⟨r, hrr⟩ : ∃ r, r = partN low k := ⟨_, rfl⟩
      rw [← hrr] at hru hpp hpl
      have hr48 : ((r : Int) != 48) = true := by simp; omega
      clear hr hval hn hm hrv hless hform hfull hv hlow hp32 hl ht hs hrr
      go_enter Try.func11, Try.ntmps11
      go_wp2_with (first
        | (go_at_call 28; refine hck.out.mono ?_; rintro e w1 ⟨rfl, hb1⟩; obtain ⟨c0, c1, c2, c3⟩ := (hx0'.out.below hb1 (by simp)).cells; have hb1' := Go.Lib.hid hb1; clear hb1)
        | (go_at_call 24; refine (hpa.out _).mono ?_; rintro e w2 ⟨rfl, rfl⟩)
        | (go_at_call 27; refine (hlo.out _).mono ?_; rintro e w2 ⟨rfl, rfl⟩)
        | (go_at_call 30; refine (hun.out _ (hrE'.out.below hb1'.out (Nat.le_refl _))).mono ?_; rintro e w3 ⟨rfl, hb3⟩; have hb13 := Go.Lib.hid (hb1'.out.trans (hb3.mono hb1'.out.size)); obtain ⟨d0, d1, d2, d3⟩ := (hx0'.out.below hb13.out (by simp)).cells; clear hb3)
        | (go_at_call 31; refine (hg.out _ (hrE'.out.below hb13.out (Nat.le_refl _))).mono ?_; rintro e w4 ⟨rfl, hb4⟩; have hb14 := Go.Lib.hid (hb13.out.trans (hb4.mono hb13.out.size)); clear hb4)
        | (go_at_call 25; refine (hru.out _).mono ?_; rintro e w2 ⟨rfl, rfl⟩))
      go_ret3
      exact ⟨rfl, hbE'.out.trans (hb14.out.mono (by simp))⟩

theorem PRead_out (W : World) (a : Option Addr) (len cap : Nat) (N : Int) (l : List Int) (i er : Int) (k : Nat) (hr : Row .u8 W a len cap l) (hN : (Lit.int .i64 N).wf = true) (hi : (Lit.int .i64 i).wf = true) (hv : Valid l N) (hk : k ≤ 24) (h : (i < 0 ∧ er = 2) ∨ (¬ i < 0 ∧ N ≤ i ∧ er = 24)) :
    Calls Try.prog 11 #[.agg #[.slice a len cap, .int .i64 N], .int .i64 i, .int .i64 k] W fun e W' => e = .returned (.tuple #[.int .u32 0, .int .i64 0, .int .i64 er]) ∧ Below W.heap.size W W' :=
  PRead_norun W a len cap N l i k er (by omega) hr hN hv hk fun w hw => URead_no w a len cap N i er hi (by omega) fun w' hw' => by
    rcases h with ⟨h, rfl⟩ | ⟨h, h', rfl⟩
    · exact BGet_arg w' a len cap N l i 1 (hw.below hw' (Nat.le_refl _)) hN hv (by omega) h
    · exact BGet_short w' a len cap N l i 1 (hw.below hw' (Nat.le_refl _)) hN hv (by omega) h (by omega)
end Go.Proofs.Ytahefkjgcdchlaa
