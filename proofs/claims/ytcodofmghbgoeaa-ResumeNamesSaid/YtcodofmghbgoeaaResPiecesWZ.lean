/- ResumePieces: pieces do not matter. -/
import Derived.Test.YtcodofmghbgoeaaZ11
import Derived.Deep.DeepCutAuto

namespace Go.Proofs.Ytcodofmghbgoeaa
open Go.RowKit Cad

theorem RsCheck_okN (w : World) (aa : Option Addr) (len cap m : Nat) (D : Du) (R : List Bool) (l : List Int) (h : Row .u8 w aa len cap l) (e : l = pack R) (hok : ResOkN m D R) :
    Calls Try.prog 19 #[.agg #[.int .i64 m, .int .i64 D.k0, .int .i64 D.k1, .int .u64 D.s0, .int .u64 D.s1, .slice aa len cap, .int .i64 R.length]] w fun e W' => e = .returned (.int .i64 0) ∧ Below w.heap.size w W' := by
  subst e
  have := hok.n4
  by_cases h0 : m = 0
  · subst h0
    exact RsCheck_zero w aa len cap 0 R.length D R hok.d h hok.b rfl (.inr ⟨hok.zero rfl, rfl⟩)
  · exact RsCheck_wait w aa len cap m 0 R.length D R hok.d h hok.b rfl (by omega) (by omega) (by omega) 0 0 24 (hok.wait h0) (.inr ⟨rfl, rfl⟩)
set_option maxRecDepth 100000 in
set_option maxHeartbeats 1000000 in
theorem resumePieces_out (W : World) (aa : Option Addr) (len cap : Nat) (n a b c d N : Int) (l : List Int) (ab : Option Addr) (nb cb : Nat) (sa : Option Addr) (ns cs : Nat) (hr : Row .u8 W aa len cap l) (hl : len ≤ 9223372036854775807) (hN : (Lit.int .i64 N).wf = true) (ha : (Lit.int .i64 a).wf = true) (hb : (Lit.int .i64 b).wf = true) (hc : (Lit.int .u64 c).wf = true) (hd : (Lit.int .u64 d).wf = true)
    (h : great len = true ∨ (great len = false ∧ (¬ ResOk n a b c d l N ∨ (ResOk n a b c d l N ∧ ((190 : Int) < nb ∨ (¬ (190 : Int) < nb ∧ (20 : Int) < ns)))))) :
    Calls Try.prog 5 #[.agg #[.int .i64 n, .int .i64 a, .int .i64 b, .int .u64 c, .int .u64 d, .slice aa len cap, .int .i64 N], .slice ab nb cb, .slice sa ns cs] W fun e w' => e = .returned (.bool true) ∧ Below W.heap.size W w' := by
  have hG := Go.Lib.hid fun w => RGreat_ok w aa len cap N hl
  have hWE0 := Go.Lib.hid (below1 W (.cells #[.int .i64 n, .int .i64 a, .int .i64 b, .int .u64 c, .int .u64 d, .slice aa len cap, .int .i64 N] 29))
  have BE0_s := Go.Lib.hid (resat1 W n a b c d (.slice aa len cap) N)
  have RE0_r := Go.Lib.hid (hr.below hWE0.out (Nat.le_refl _))
  rcases h with h | ⟨h, h2⟩
  · rw [h] at hG
    clear hr hN ha hb hc hd
    go_enter Try.func5, Try.ntmps5
    go_wp2_with (first
      | (go_at_call 15; ((with_reducible refine (hG.out _).mono ?_)); rintro e w1 ⟨rfl, hb1⟩; have hWE1 := Go.Lib.hid hWE0.out; have hW1 := Go.Lib.hid (hWE1.out.trans (hb1.mono hWE1.out.size)); have R1_r := Go.Lib.hid (RE0_r.out.below hb1 (Nat.le_refl _)); have BE1_s := Go.Lib.hid BE0_s.out; have B1_s := Go.Lib.hid (BE1_s.out.below hb1 BE1_s.out.lt); obtain ⟨k1s0, k1s1, k1s2, k1s3, k1s4, k1s5, k1s6, k1s7, k1s8, k1s9, k1s10, k1s11, k1s12, k1s13⟩ := B1_s.out.cells; clear hb1)
      | (go_at_call 14; refine (alive10_ok _).mono ?_; rintro e w2 ⟨rfl, hb2⟩; have hWE2 := Go.Lib.hid hW1.out; have hW2 := Go.Lib.hid (hWE2.out.trans (hb2.mono hWE2.out.size)); clear hb2))
    go_ret
    exact ⟨rfl, hW2.out⟩
  · rw [h] at hG
    have ck := Go.Lib.hid fun w (r : Int) (hc' : chkS n a b c d l N r) (h : Row .u8 w aa len cap l) => RsCheck_any w aa len cap n a b c d N l h hN ha hb hc hd r hc'
    clear h hN ha hb hc hd hr
    rcases h2 with h2 | ⟨h2, h3 | ⟨h3, h4⟩⟩
    · have ck := Go.Lib.hid fun w => ck.out w 8 (.inr ⟨h2, rfl⟩)
      go_enter Try.func5, Try.ntmps5
      go_wp2_with (first
        | (go_at_call 15; ((with_reducible refine (hG.out _).mono ?_)); rintro e w1 ⟨rfl, hb1⟩; have hWE1 := Go.Lib.hid hWE0.out; have hW1 := Go.Lib.hid (hWE1.out.trans (hb1.mono hWE1.out.size)); have R1_r := Go.Lib.hid (RE0_r.out.below hb1 (Nat.le_refl _)); have BE1_s := Go.Lib.hid BE0_s.out; have B1_s := Go.Lib.hid (BE1_s.out.below hb1 BE1_s.out.lt); obtain ⟨k1s0, k1s1, k1s2, k1s3, k1s4, k1s5, k1s6, k1s7, k1s8, k1s9, k1s10, k1s11, k1s12, k1s13⟩ := B1_s.out.cells; clear hb1)
        | (go_at_call 19; ((with_reducible refine (ck.out _ ?h1).mono ?_)); (case h1 => exact R1_r.out); rintro e w2 ⟨rfl, hb2⟩; have hWE2 := Go.Lib.hid hW1.out; have hW2 := Go.Lib.hid (hWE2.out.trans (hb2.mono hWE2.out.size)); have R2_r := Go.Lib.hid (R1_r.out.below hb2 (Nat.le_refl _)); have BE2_s := Go.Lib.hid B1_s.out; have B2_s := Go.Lib.hid (BE2_s.out.below hb2 BE2_s.out.lt); obtain ⟨k2s0, k2s1, k2s2, k2s3, k2s4, k2s5, k2s6, k2s7, k2s8, k2s9, k2s10, k2s11, k2s12, k2s13⟩ := B2_s.out.cells; clear hb2)
        | (go_at_call 14; refine (alive10_ok _).mono ?_; rintro e w3 ⟨rfl, hb3⟩; have hWE3 := Go.Lib.hid hW2.out; have hW3 := Go.Lib.hid (hWE3.out.trans (hb3.mono hWE3.out.size)); clear hb3))
      go_ret
      exact ⟨rfl, hW3.out⟩
    · have ck := Go.Lib.hid fun w => ck.out w 0 (.inl ⟨h2, rfl⟩)
      go_enter Try.func5, Try.ntmps5
      go_wp2_with (first
        | (go_at_call 15; ((with_reducible refine (hG.out _).mono ?_)); rintro e w1 ⟨rfl, hb1⟩; have hWE1 := Go.Lib.hid hWE0.out; have hW1 := Go.Lib.hid (hWE1.out.trans (hb1.mono hWE1.out.size)); have R1_r := Go.Lib.hid (RE0_r.out.below hb1 (Nat.le_refl _)); have BE1_s := Go.Lib.hid BE0_s.out; have B1_s := Go.Lib.hid (BE1_s.out.below hb1 BE1_s.out.lt); obtain ⟨k1s0, k1s1, k1s2, k1s3, k1s4, k1s5, k1s6, k1s7, k1s8, k1s9, k1s10, k1s11, k1s12, k1s13⟩ := B1_s.out.cells; clear hb1)
        | (go_at_call 19; ((with_reducible refine (ck.out _ ?h1).mono ?_)); (case h1 => exact R1_r.out); rintro e w2 ⟨rfl, hb2⟩; have hWE2 := Go.Lib.hid hW1.out; have hW2 := Go.Lib.hid (hWE2.out.trans (hb2.mono hWE2.out.size)); have R2_r := Go.Lib.hid (R1_r.out.below hb2 (Nat.le_refl _)); have BE2_s := Go.Lib.hid B1_s.out; have B2_s := Go.Lib.hid (BE2_s.out.below hb2 BE2_s.out.lt); obtain ⟨k2s0, k2s1, k2s2, k2s3, k2s4, k2s5, k2s6, k2s7, k2s8, k2s9, k2s10, k2s11, k2s12, k2s13⟩ := B2_s.out.cells; clear hb2)
        | (go_at_call 14; refine (alive10_ok _).mono ?_; rintro e w3 ⟨rfl, hb3⟩; have hWE3 := Go.Lib.hid hW2.out; have hW3 := Go.Lib.hid (hWE3.out.trans (hb3.mono hWE3.out.size)); clear hb3))
      go_ret
      exact ⟨rfl, hW3.out⟩
    · have ck := Go.Lib.hid fun w => ck.out w 0 (.inl ⟨h2, rfl⟩)
      have d1 : decide ((190 : Int) < nb) = false := decide_eq_false h3
      go_enter Try.func5, Try.ntmps5
      go_wp2_with (first
        | (go_at_call 15; ((with_reducible refine (hG.out _).mono ?_)); rintro e w1 ⟨rfl, hb1⟩; have hWE1 := Go.Lib.hid hWE0.out; have hW1 := Go.Lib.hid (hWE1.out.trans (hb1.mono hWE1.out.size)); have R1_r := Go.Lib.hid (RE0_r.out.below hb1 (Nat.le_refl _)); have BE1_s := Go.Lib.hid BE0_s.out; have B1_s := Go.Lib.hid (BE1_s.out.below hb1 BE1_s.out.lt); obtain ⟨k1s0, k1s1, k1s2, k1s3, k1s4, k1s5, k1s6, k1s7, k1s8, k1s9, k1s10, k1s11, k1s12, k1s13⟩ := B1_s.out.cells; clear hb1)
        | (go_at_call 19; ((with_reducible refine (ck.out _ ?h1).mono ?_)); (case h1 => exact R1_r.out); rintro e w2 ⟨rfl, hb2⟩; have hWE2 := Go.Lib.hid hW1.out; have hW2 := Go.Lib.hid (hWE2.out.trans (hb2.mono hWE2.out.size)); have R2_r := Go.Lib.hid (R1_r.out.below hb2 (Nat.le_refl _)); have BE2_s := Go.Lib.hid B1_s.out; have B2_s := Go.Lib.hid (BE2_s.out.below hb2 BE2_s.out.lt); obtain ⟨k2s0, k2s1, k2s2, k2s3, k2s4, k2s5, k2s6, k2s7, k2s8, k2s9, k2s10, k2s11, k2s12, k2s13⟩ := B2_s.out.cells; clear hb2)
        | (go_at_call 14; refine (alive10_ok _).mono ?_; rintro e w3 ⟨rfl, hb3⟩; have hWE3 := Go.Lib.hid hW2.out; have hW3 := Go.Lib.hid (hWE3.out.trans (hb3.mono hWE3.out.size)); clear hb3))
      go_ret
      exact ⟨rfl, hW3.out⟩

set_option maxRecDepth 100000 in
set_option maxHeartbeats 8000000 in
theorem resumePieces_in (W : World) (aa : Option Addr) (len cap : Nat) (n a b c d N : Int) (m : Nat) (D : Du) (R : List Bool) (lR : List Int) (ab : Option Addr) (nb cb : Nat) (bl : List Nat) (lb : List Int) (sa : Option Addr) (ns cs : Nat) (zs : List Int) (hr : Row .u8 W aa len cap lR) (hlen : len = (R.length + 7) / 8) (hlR : lR = pack R) (hgr : great len = false) (hab : ab = none ∨ (∃ pb po, ab = some ⟨pb, po, none⟩) ∨ cb = 0) (hbr : Row .u8 W ab nb cb lb) (hlb : lb = bl.map Int.ofNat) (hbl : bl.length = nb) (h256 : ∀ x ∈ bl, x < 256) (hnb : nb ≤ 190) (hsr : Row .i64 W sa ns cs zs) (hns : ns ≤ 20)
    (hok : ResOkN m D R) (hn : n = m) (hk0 : a = D.k0) (hk1 : b = D.k1) (hs0 : c = D.s0) (hs1 : d = D.s1) (hN : N = R.length) :
    Calls Try.prog 5 #[.agg #[.int .i64 n, .int .i64 a, .int .i64 b, .int .u64 c, .int .u64 d, .slice aa len cap, .int .i64 N], .slice ab nb cb, .slice sa ns cs] W fun e w' => e = .returned (.bool true) ∧ Below W.heap.size W w' := by
  have hl80 := hok.b80
  have hG := Go.Lib.hid fun w => RGreat_ok w aa len cap N (by omega)
  rw [hgr] at hG
  have hrok : ResOk n a b c d lR N := ⟨m, D, R, hok, hn, hk0, hk1, hs0, hs1, hlR, hN⟩
  have d1 : decide ((190 : Int) < nb) = false := decide_eq_false (by omega)
  have d2 : decide ((20 : Int) < ns) = false := decide_eq_false (by omega)
  obtain ⟨F, hF⟩ : ∃ F, F = fed m (R ++ bytesB bl) D := ⟨_, rfl⟩
  obtain ⟨RN, hRN⟩ : ∃ x, x = F.r.length := ⟨_, rfl⟩
  obtain ⟨RL, hRL⟩ : ∃ x, x = (RN + 7) / 8 := ⟨_, rfl⟩
  obtain ⟨FL, hFL⟩ : ∃ x, x = F.l.length := ⟨_, rfl⟩
  obtain ⟨fe, hfe⟩ : ∃ x : Int, x = F.e := ⟨_, rfl⟩
  have ck : Hid (∀ w, Row .u8 w aa len cap lR → Calls Try.prog 19 #[.agg #[.int .i64 n, .int .i64 a, .int .i64 b, .int .u64 c, .int .u64 d, .slice aa len cap, .int .i64 N]] w fun e W' => e = .returned (.int .i64 0) ∧ Below w.heap.size w W') := Go.Lib.hid fun w h => by
    subst hn hk0 hk1 hs0 hs1 hN
    exact RsCheck_okN w aa len cap m D R lR h hlR hok
  have fd : Hid (∀ w, Row .u8 w aa len cap lR → Row .u8 w ab nb cb lb → Calls Try.prog 10 #[.agg #[.int .i64 n, .int .i64 a, .int .i64 b, .int .u64 c, .int .u64 d, .slice aa len cap, .int .i64 N], .slice ab nb cb] w fun e W' => ∃ bb cc a c, e = .returned (.tuple #[.agg #[.int .i64 F.n, .int .i64 F.d.k0, .int .i64 F.d.k1, .int .u64 F.d.s0, .int .u64 F.d.s1, .slice bb RL cc, .int .i64 RN], .slice a FL c, .int .i64 fe]) ∧ Row .u8 W' bb RL cc (pack F.r) ∧ Row .u32 W' a FL c (F.l.map Int.ofNat) ∧ Below w.heap.size w W') := Go.Lib.hid fun w h h' => by
    subst hn hk0 hk1 hs0 hs1 hN
    have := PsFeed_ok w aa len cap m D R ab nb cb bl (by rw [← hlR]; exact h) hok (by rw [← hlb]; exact h') hbl h256 (by omega)
    unfold ResF at this
    rw [← hF, ← hRN, ← hRL, ← hfe] at this
    refine this.mono ?_
    rintro e w' ⟨bb, cc, a, q, c, rfl, g1, g2, g3⟩
    obtain rfl : q = FL := by rw [← g2.hlen, List.length_map, hFL]
    exact ⟨bb, cc, a, c, rfl, g1, g2, g3⟩
  have ct : Hid (∀ w, Row .u8 w ab nb cb lb → Row .i64 w sa ns cs zs → Calls Try.prog 21 #[.slice ab nb cb, .slice sa ns cs] w fun e W' => ∃ a c vs ps, e = .returned (.slice a (ns + 1) c) ∧ SRow W' a (ns + 1) c vs ∧ Pieces W' vs ps ∧ ps.flatten = bl ∧ (∀ p ∈ ps, p.length ≤ nb) ∧ Below w.heap.size w W') := Go.Lib.hid fun w h h' =>
    cut_ok w ab nb cb bl sa ns cs zs hab (by rw [← hlb]; exact h) hbl h256 (by omega) h' (by omega)
  have fs : Hid (∀ w q qc vs ps, Row .u8 w aa len cap lR → SRow w q (ns + 1) qc vs → Pieces w vs ps → ps.flatten = bl → (∀ p ∈ ps, p.length ≤ nb) → Calls Try.prog 20 #[.agg #[.int .i64 n, .int .i64 a, .int .i64 b, .int .u64 c, .int .u64 d, .slice aa len cap, .int .i64 N], .slice q (ns + 1) qc] w fun e W' => ∃ bb cc a c, e = .returned (.tuple #[.agg #[.int .i64 F.n, .int .i64 F.d.k0, .int .i64 F.d.k1, .int .u64 F.d.s0, .int .u64 F.d.s1, .slice bb RL cc, .int .i64 RN], .slice a FL c, .int .i64 fe]) ∧ Row .u8 W' bb RL cc (pack F.r) ∧ Row .u32 W' a FL c (F.l.map Int.ofNat) ∧ Below w.heap.size w W') := Go.Lib.hid fun w q qc vs ps h g1 g2 g3 g4 => by
    subst hn hk0 hk1 hs0 hs1 hN hlen
    have := feeds_of PsFeed_says w aa cap m D R q (ns + 1) qc vs ps (by rw [← hlR]; exact h) hok g1 g2 fun p hp => Nat.le_trans (g4 p hp) (by omega)
    unfold ResF at this
    rw [feedS_fed ps m R D hok, g3, ← hF, ← hRN, ← hRL, ← hfe] at this
    refine this.mono ?_
    rintro e w' ⟨bb, cc, a, q, c, rfl, g1, g2, g3⟩
    obtain rfl : q = FL := by rw [← g2.hlen, List.length_map, hFL]
    exact ⟨bb, cc, a, c, rfl, g1, g2, g3⟩
  have sm1 : Hid (∀ w b c b' c', Row .u8 w b RL c (pack F.r) → Row .u8 w b' RL c' (pack F.r) → Calls Try.prog 12 #[.agg #[.int .i64 F.n, .int .i64 F.d.k0, .int .i64 F.d.k1, .int .u64 F.d.s0, .int .u64 F.d.s1, .slice b RL c, .int .i64 RN], .agg #[.int .i64 F.n, .int .i64 F.d.k0, .int .i64 F.d.k1, .int .u64 F.d.s0, .int .u64 F.d.s1, .slice b' RL c', .int .i64 RN]] w fun e W' => e = .returned (.bool true) ∧ Below w.heap.size w W') := Go.Lib.hid fun w b c b' c' h h' => by
    have := RsSame_ok w F.n F.d.k0 F.d.k1 F.d.s0 F.d.s1 RN F.n F.d.k0 F.d.k1 F.d.s0 F.d.s1 RN b RL c _ b' RL c' _ h h'
    rw [sameD_self] at this
    simpa using this
  have sm2 : Hid (∀ w b c b' c', Row .u32 w b FL c (F.l.map Int.ofNat) → Row .u32 w b' FL c' (F.l.map Int.ofNat) → Calls Try.prog 13 #[.slice b FL c, .slice b' FL c'] w fun e W' => e = .returned (.bool true) ∧ Below w.heap.size w W') := Go.Lib.hid fun w b c b' c' h h' => by
    have := CSame_ok w b FL c _ h b' FL c' _ h'
    simpa using this
  have key : fe ≠ 0 ∨ (fe = 0 ∧ ResOkN F.n F.d F.r ∧ F.n + FL = m) := by
    by_cases he : F.e = 0
    · obtain ⟨l1, r1, k1, h1, -⟩ := fed_is m (R ++ bytesB bl) D hok.d (by rw [← hF]; exact he)
      obtain ⟨v1, v2, -⟩ := fed_valid hok.d hok.n4 h1
      rw [← hF] at h1
      have hFL1 : FL = l1.length := by rw [hFL, h1]
      rw [h1]
      exact .inr ⟨by omega, v1, by rw [hFL1]; exact v2⟩
    · exact .inl (by omega)
  have hkey : Hid (fe ≠ 0 ∨ (fe = 0 ∧ (∀ w b c, Row .u8 w b RL c (pack F.r) → Calls Try.prog 19 #[.agg #[.int .i64 F.n, .int .i64 F.d.k0, .int .i64 F.d.k1, .int .u64 F.d.s0, .int .u64 F.d.s1, .slice b RL c, .int .i64 RN]] w fun e W' => e = .returned (.int .i64 0) ∧ Below w.heap.size w W') ∧ (F.n : Int) ≤ 4000 ∧ (FL : Int) ≤ 4000 ∧ (F.n : Int) + FL = n)) := Go.Lib.hid (by
    rcases key with h | ⟨h1, h2, h3⟩
    · exact .inl h
    · have := h2.n4
      have := hok.n4
      refine .inr ⟨h1, fun w b c h => ?_, by omega, by omega, by omega⟩
      rw [hRN]
      exact RsCheck_okN w b RL c F.n F.d F.r _ h rfl h2)
  have hWE0 := Go.Lib.hid (below1 W (.cells #[.int .i64 n, .int .i64 a, .int .i64 b, .int .u64 c, .int .u64 d, .slice aa len cap, .int .i64 N] 29))
  have BE0_s := Go.Lib.hid (resat1 W n a b c d (.slice aa len cap) N)
  have RE0_r := Go.Lib.hid (hr.below hWE0.out (Nat.le_refl _))
  have RE0_b := Go.Lib.hid (hbr.below hWE0.out (Nat.le_refl _))
  have RE0_z := Go.Lib.hid (hsr.below hWE0.out (Nat.le_refl _))
  clear hr hbr hsr hab hlen hlR hgr hlb hbl h256 hnb hns hok hn hk0 hk1 hs0 hs1 hN hrok hF hRN hRL hFL hfe key hl80
  go_enter Try.func5, Try.ntmps5
  go_wp2_with (first
    | (go_at_call 15; ((with_reducible refine (hG.out _).mono ?_)); rintro e w1 ⟨rfl, hb1⟩; have hWE1 := Go.Lib.hid hWE0.out; have hW1 := Go.Lib.hid (hWE1.out.trans (hb1.mono hWE1.out.size)); have R1_r := Go.Lib.hid (RE0_r.out.below hb1 (Nat.le_refl _)); have R1_b := Go.Lib.hid (RE0_b.out.below hb1 (Nat.le_refl _)); have R1_z := Go.Lib.hid (RE0_z.out.below hb1 (Nat.le_refl _)); have BE1_s := Go.Lib.hid BE0_s.out; have B1_s := Go.Lib.hid (BE1_s.out.below hb1 BE1_s.out.lt); obtain ⟨k1s0, k1s1, k1s2, k1s3, k1s4, k1s5, k1s6, k1s7, k1s8, k1s9, k1s10, k1s11, k1s12, k1s13⟩ := B1_s.out.cells; clear hb1)
    | (go_at_call 19; ((with_reducible refine (ck.out _ ?h1).mono ?_)); (case h1 => exact R1_r.out); rintro e w2 ⟨rfl, hb2⟩; have hWE2 := Go.Lib.hid hW1.out; have hW2 := Go.Lib.hid (hWE2.out.trans (hb2.mono hWE2.out.size)); have R2_r := Go.Lib.hid (R1_r.out.below hb2 (Nat.le_refl _)); have R2_b := Go.Lib.hid (R1_b.out.below hb2 (Nat.le_refl _)); have R2_z := Go.Lib.hid (R1_z.out.below hb2 (Nat.le_refl _)); have BE2_s := Go.Lib.hid B1_s.out; have B2_s := Go.Lib.hid (BE2_s.out.below hb2 BE2_s.out.lt); obtain ⟨k2s0, k2s1, k2s2, k2s3, k2s4, k2s5, k2s6, k2s7, k2s8, k2s9, k2s10, k2s11, k2s12, k2s13⟩ := B2_s.out.cells; clear hb2)
    | (go_at_call 10; ((with_reducible refine (fd.out _ ?h1 ?h2).mono ?_)); (case h1 => exact R2_r.out); (case h2 => exact R2_b.out); rintro e w3 ⟨b3, cp3, a3, ca3, rfl, hr3, hm3, hb3⟩; have hWE3 := Go.Lib.hid hW2.out; have hW3 := Go.Lib.hid (hWE3.out.trans (hb3.mono hWE3.out.size)); have R3_r := Go.Lib.hid (R2_r.out.below hb3 (Nat.le_refl _)); have R3_b := Go.Lib.hid (R2_b.out.below hb3 (Nat.le_refl _)); have R3_z := Go.Lib.hid (R2_z.out.below hb3 (Nat.le_refl _)); have R3_x := Go.Lib.hid hr3; clear hr3; have BE3_s := Go.Lib.hid B2_s.out; have B3_s := Go.Lib.hid (BE3_s.out.below hb3 BE3_s.out.lt); obtain ⟨k3s0, k3s1, k3s2, k3s3, k3s4, k3s5, k3s6, k3s7, k3s8, k3s9, k3s10, k3s11, k3s12, k3s13⟩ := B3_s.out.cells; have l3s := B3_s.out.lt; have n3s : W.heap.size ≠ w3.heap.size := (by omega); have R3_l := Go.Lib.hid hm3; clear hm3; clear hb3))
  have hWF := Go.Lib.hid (hW3.out.alloc hW3.out.size (.cells #[.int .i64 F.n, .int .i64 F.d.k0, .int .i64 F.d.k1, .int .u64 F.d.s0, .int .u64 F.d.s1, (.slice b3 RL cp3), .int .i64 RN] 29))
  have RF_r := Go.Lib.hid (R3_r.out.below (below1 w3 (.cells #[.int .i64 F.n, .int .i64 F.d.k0, .int .i64 F.d.k1, .int .u64 F.d.s0, .int .u64 F.d.s1, (.slice b3 RL cp3), .int .i64 RN] 29)) (Nat.le_refl _))
  have RF_b := Go.Lib.hid (R3_b.out.below (below1 w3 (.cells #[.int .i64 F.n, .int .i64 F.d.k0, .int .i64 F.d.k1, .int .u64 F.d.s0, .int .u64 F.d.s1, (.slice b3 RL cp3), .int .i64 RN] 29)) (Nat.le_refl _))
  have RF_z := Go.Lib.hid (R3_z.out.below (below1 w3 (.cells #[.int .i64 F.n, .int .i64 F.d.k0, .int .i64 F.d.k1, .int .u64 F.d.s0, .int .u64 F.d.s1, (.slice b3 RL cp3), .int .i64 RN] 29)) (Nat.le_refl _))
  have RF_x := Go.Lib.hid (R3_x.out.below (below1 w3 (.cells #[.int .i64 F.n, .int .i64 F.d.k0, .int .i64 F.d.k1, .int .u64 F.d.s0, .int .u64 F.d.s1, (.slice b3 RL cp3), .int .i64 RN] 29)) (Nat.le_refl _))
  have RF_l := Go.Lib.hid (R3_l.out.below (below1 w3 (.cells #[.int .i64 F.n, .int .i64 F.d.k0, .int .i64 F.d.k1, .int .u64 F.d.s0, .int .u64 F.d.s1, (.slice b3 RL cp3), .int .i64 RN] 29)) (Nat.le_refl _))
  have BF_s := Go.Lib.hid (B3_s.out.alloc (.cells #[.int .i64 F.n, .int .i64 F.d.k0, .int .i64 F.d.k1, .int .u64 F.d.s0, .int .u64 F.d.s1, (.slice b3 RL cp3), .int .i64 RN] 29))
  have BF_x := Go.Lib.hid (resat1 w3 F.n F.d.k0 F.d.k1 F.d.s0 F.d.s1 (.slice b3 RL cp3) RN)
  obtain ⟨wf, hwf⟩ : ∃ wf, wf = (w3.alloc (.cells #[.int .i64 F.n, .int .i64 F.d.k0, .int .i64 F.d.k1, .int .u64 F.d.s0, .int .u64 F.d.s1, (.slice b3 RL cp3), .int .i64 RN] 29)) := ⟨_, rfl⟩
  rw [← hwf] at hWF RF_r RF_b RF_z RF_x RF_l BF_s BF_x
  try rw [← hwf]
  obtain ⟨xx, hxx⟩ : ∃ x, x = w3.heap.size := ⟨_, rfl⟩
  rw [← hxx] at BF_x
  try rw [← hxx]
  clear hwf hxx
  have hsl := BF_s.out.lt
  have hxl := BF_x.out.lt
  go_cut [10, 11, 12] (fun s10 s11 s12 wx => ∃ (x10 : Nat) (b4 : Option Addr) (c4 : Nat) (a4 : Option Addr) (d4 : Nat), s10 = .pointer (some ⟨x10, 0, none⟩) ∧ s11 = .slice a4 FL d4 ∧ s12 = .int .i64 fe ∧ wf.heap.size ≤ x10 ∧ ResAt wx x10 F.n F.d.k0 F.d.k1 F.d.s0 F.d.s1 (.slice b4 RL c4) RN ∧ Row .u8 wx b4 RL c4 (pack F.r) ∧ Row .u32 wx a4 FL d4 (F.l.map Int.ofNat) ∧ Below wf.heap.size wf wx)
  case first =>
    refine wp_region_ord3 (fun w' => Below wf.heap.size wf w') 3 4 9 [(1, 0), (2, 0), (0, 2), (3, 3), (4, 3), (5, 0), (6, 0), (7, 0), (8, 0), (9, 3), (10, 4), (11, 0), (12, 0)] [(1, 0), (2, 0), (0, 2), (3, 3), (9, 3), (4, 3), (5, 0), (6, 0), (7, 0), (8, 0), (10, 4), (11, 0), (12, 0)] [(1, 0), (2, 0), (0, 2), (9, 3), (3, 3), (4, 3), (5, 0), (6, 0), (7, 0), (8, 0), (10, 4), (11, 0), (12, 0)] (by kernel_rfl) (by decide) (by kernel_rfl) (by kernel_rfl) (by kernel_rfl) ?hC0 ?_ ?_ ?_
    case hC0 => exact (Below.refl _ _).drew
    · simp only [pick, nth]
      refine wpW_name ?_
      intro q0 hq0
      have H0 : Below wf.heap.size wf q0 := by rw [hq0]; exact (Below.refl _ _).drew
      clear hq0
      (repeat (first | (apply wpW_light; (case h => (intro wa; (first | (go_big_quiet_skip; exact wpQuiet_nil rfl) | (go_big_quiet_want; go_big_quiet_op; go_big_quiet_on; exact wpQuiet_nil rfl))))) | (apply wpW_here; (case h => (first | (go_big_quiet_skip; exact wpQuiet_nil rfl) | (go_big_quiet_want; go_big_quiet_op; go_big_quiet_on; exact wpQuiet_nil rfl)))) | (apply wpW_held; (case hC => assumption); (case h => (intro wa hCa; (obtain ⟨u0, u1, u2, u3, u4, u5, u6, u7, u8, u9, u10, u11, u12, u13⟩ := (BF_s.out.below hCa hsl).cells; clear hCa); (first | (go_big_quiet_skip; exact wpQuiet_nil rfl) | (go_big_quiet_want; go_big_quiet_op; go_big_quiet_on; exact wpQuiet_nil rfl)))))))
      refine wpW_act (fun QQ hQQ => ?_) (by rfl)
      go_wp2_with (go_at_call 21; with_reducible refine (ct.out _ (RF_b.out.below H0 (Nat.le_refl _)) (RF_z.out.below H0 (Nat.le_refl _))).mono ?_; rintro e q1 ⟨ca, cc, vs, ps, rfl, sr1, sp1, hfl, hpl, hs⟩)
      have H1 := H0.trans (hs.mono H0.size)
      (refine hQQ _ _ ?hCn ?_; (case hCn => exact H1); clear hQQ QQ)
      clear hs
      (repeat (first | (apply wpW_light; (case h => (intro wa; (first | (go_big_quiet_skip; exact wpQuiet_nil rfl) | (go_big_quiet_want; go_big_quiet_op; go_big_quiet_on; exact wpQuiet_nil rfl))))) | (apply wpW_here; (case h => (first | (go_big_quiet_skip; exact wpQuiet_nil rfl) | (go_big_quiet_want; go_big_quiet_op; go_big_quiet_on; exact wpQuiet_nil rfl)))) | (apply wpW_held; (case hC => assumption); (case h => (intro wa hCa; simp only [] at hCa; (first | (go_big_quiet_skip; exact wpQuiet_nil rfl) | (go_big_quiet_want; go_big_quiet_op; go_big_quiet_on; exact wpQuiet_nil rfl)))))))
      refine wpW_act (fun QQ hQQ => ?_) (by rfl)
      go_wp2_with (go_at_call 20; with_reducible refine (fs.out _ _ _ _ _ (RF_r.out.below H1 (Nat.le_refl _)) sr1 sp1 hfl hpl).mono ?_; rintro e q2 ⟨b4, c4, a4, d4, rfl, fr2, fl2, hs⟩)
      have H2 := H1.trans (hs.mono H1.size)
      (refine hQQ _ _ ?hCn ?_; (case hCn => exact H2); clear hQQ QQ)
      clear hs
      (repeat (first | (apply wpW_light; (case h => (intro wa; (first | (go_big_quiet_skip; exact wpQuiet_nil rfl) | (go_big_quiet_want; go_big_quiet_op; go_big_quiet_on; exact wpQuiet_nil rfl))))) | (apply wpW_here; (case h => (first | (go_big_quiet_skip; exact wpQuiet_nil rfl) | (go_big_quiet_want; go_big_quiet_op; go_big_quiet_on; exact wpQuiet_nil rfl)))) | (apply wpW_held; (case hC => assumption); (case h => (intro wa hCa; simp only [] at hCa; (first | (go_big_quiet_skip; exact wpQuiet_nil rfl) | (go_big_quiet_want; go_big_quiet_op; go_big_quiet_on; exact wpQuiet_nil rfl)))))))
      refine wpW_act (fun QQ hQQ => ?_) (by rfl)
      go_wp2
      (refine hQQ _ _ ?hCn ?_; (case hCn => exact H2.alloc H2.size _); clear hQQ QQ)
      (repeat (first | (apply wpW_light; (case h => (intro wa; (first | (go_big_quiet_skip; exact wpQuiet_nil rfl) | (go_big_quiet_want; go_big_quiet_op; go_big_quiet_on; exact wpQuiet_nil rfl))))) | (apply wpW_here; (case h => (first | (go_big_quiet_skip; exact wpQuiet_nil rfl) | (go_big_quiet_want; go_big_quiet_op; go_big_quiet_on; exact wpQuiet_nil rfl)))) | (apply wpW_held; (case hC => assumption); (case h => (intro wa hCa; simp only [] at hCa; (first | (go_big_quiet_skip; exact wpQuiet_nil rfl) | (go_big_quiet_want; go_big_quiet_op; go_big_quiet_on; exact wpQuiet_nil rfl)))))))
      refine wpW_name ?_
      intro q3 hq
      have H3 : Below wf.heap.size wf q3 := by rw [hq]; exact H2.alloc H2.size _
      have hs : Below q2.heap.size q2 q3 := by rw [hq]; exact below1 q2 _
      have fr3 := fr2.below hs (Nat.le_refl _)
      have fl3 := fl2.below hs (Nat.le_refl _)
      have x3 : ResAt q3 q2.heap.size 0 0 0 0 0 (.slice none 0 0) 0 := by rw [hq]; exact resat1 q2 0 0 0 0 0 _ 0
      have gx : wf.heap.size ≤ q2.heap.size := H2.size
      obtain ⟨x10, hx10⟩ : ∃ x, x = q2.heap.size := ⟨_, rfl⟩
      rw [← hx10] at x3 gx ⊢
      clear hq hs hx10
      obtain ⟨y0, y1, y2, y3, y4, y5, y6, y7, y8, y9, y10, y11, y12, y13⟩ := x3.cells
      refine wpW_last (fun QQ hQQ => ?_) (by rfl)
      go_wp2
      (refine hQQ.out _ _ ?_; clear hQQ QQ)
      (repeat (first | (apply wpW_light; (case h => (intro wa; (first | (go_big_quiet_skip; exact wpQuiet_nil rfl) | (go_big_quiet_want; go_big_quiet_op; go_big_quiet_on; exact wpQuiet_nil rfl))))) | (apply wpW_here; (case h => (first | (go_big_quiet_skip; exact wpQuiet_nil rfl) | (go_big_quiet_want; go_big_quiet_op; go_big_quiet_on; exact wpQuiet_nil rfl)))) | (apply wpW_held; (case hC => assumption); (case h => (intro wa hCa; simp only [] at hCa; (first | (go_big_quiet_skip; exact wpQuiet_nil rfl) | (go_big_quiet_want; go_big_quiet_op; go_big_quiet_on; exact wpQuiet_nil rfl)))))))
      refine wpW_nil ?_
      go_wp2_with (fail)
      go_meet
      exact ⟨x10, b4, c4, a4, d4, rfl, rfl, rfl, gx, x3.set F.n F.d.k0 F.d.k1 F.d.s0 F.d.s1 (.slice b4 RL c4) RN, rows7 (.inl rfl) fr3 x3, rows7 (.inr rfl) fl3 x3, below7 H3 gx⟩
    · simp only [pick, nth]
      refine wpW_name ?_
      intro q0 hq0
      have H0 : Below wf.heap.size wf q0 := by rw [hq0]; exact (Below.refl _ _).drew
      clear hq0
      (repeat (first | (apply wpW_light; (case h => (intro wa; (first | (go_big_quiet_skip; exact wpQuiet_nil rfl) | (go_big_quiet_want; go_big_quiet_op; go_big_quiet_on; exact wpQuiet_nil rfl))))) | (apply wpW_here; (case h => (first | (go_big_quiet_skip; exact wpQuiet_nil rfl) | (go_big_quiet_want; go_big_quiet_op; go_big_quiet_on; exact wpQuiet_nil rfl)))) | (apply wpW_held; (case hC => assumption); (case h => (intro wa hCa; (obtain ⟨u0, u1, u2, u3, u4, u5, u6, u7, u8, u9, u10, u11, u12, u13⟩ := (BF_s.out.below hCa hsl).cells; clear hCa); (first | (go_big_quiet_skip; exact wpQuiet_nil rfl) | (go_big_quiet_want; go_big_quiet_op; go_big_quiet_on; exact wpQuiet_nil rfl)))))))
      refine wpW_act (fun QQ hQQ => ?_) (by rfl)
      go_wp2_with (go_at_call 21; with_reducible refine (ct.out _ (RF_b.out.below H0 (Nat.le_refl _)) (RF_z.out.below H0 (Nat.le_refl _))).mono ?_; rintro e q1 ⟨ca, cc, vs, ps, rfl, sr1, sp1, hfl, hpl, hs⟩)
      have H1 := H0.trans (hs.mono H0.size)
      (refine hQQ _ _ ?hCn ?_; (case hCn => exact H1); clear hQQ QQ)
      clear hs
      (repeat (first | (apply wpW_light; (case h => (intro wa; (first | (go_big_quiet_skip; exact wpQuiet_nil rfl) | (go_big_quiet_want; go_big_quiet_op; go_big_quiet_on; exact wpQuiet_nil rfl))))) | (apply wpW_here; (case h => (first | (go_big_quiet_skip; exact wpQuiet_nil rfl) | (go_big_quiet_want; go_big_quiet_op; go_big_quiet_on; exact wpQuiet_nil rfl)))) | (apply wpW_held; (case hC => assumption); (case h => (intro wa hCa; simp only [] at hCa; (first | (go_big_quiet_skip; exact wpQuiet_nil rfl) | (go_big_quiet_want; go_big_quiet_op; go_big_quiet_on; exact wpQuiet_nil rfl)))))))
      refine wpW_act (fun QQ hQQ => ?_) (by rfl)
      go_wp2
      (refine hQQ _ _ ?hCn ?_; (case hCn => exact H1.alloc H1.size _); clear hQQ QQ)
      (repeat (first | (apply wpW_light; (case h => (intro wa; (first | (go_big_quiet_skip; exact wpQuiet_nil rfl) | (go_big_quiet_want; go_big_quiet_op; go_big_quiet_on; exact wpQuiet_nil rfl))))) | (apply wpW_here; (case h => (first | (go_big_quiet_skip; exact wpQuiet_nil rfl) | (go_big_quiet_want; go_big_quiet_op; go_big_quiet_on; exact wpQuiet_nil rfl)))) | (apply wpW_held; (case hC => assumption); (case h => (intro wa hCa; simp only [] at hCa; (first | (go_big_quiet_skip; exact wpQuiet_nil rfl) | (go_big_quiet_want; go_big_quiet_op; go_big_quiet_on; exact wpQuiet_nil rfl)))))))
      refine wpW_name ?_
      intro q2 hq
      have H2 : Below wf.heap.size wf q2 := by rw [hq]; exact H1.alloc H1.size _
      have hs : Below q1.heap.size q1 q2 := by rw [hq]; exact below1 q1 _
      have sr2 := sr1.below hs (Nat.le_refl _)
      have sp2 := sp1.below hs (Nat.le_refl _)
      have x2 : ResAt q2 q1.heap.size 0 0 0 0 0 (.slice none 0 0) 0 := by rw [hq]; exact resat1 q1 0 0 0 0 0 _ 0
      have gx : wf.heap.size ≤ q1.heap.size := H1.size
      obtain ⟨x10, hx10⟩ : ∃ x, x = q1.heap.size := ⟨_, rfl⟩
      rw [← hx10] at x2 gx ⊢
      clear hq hs hx10
      refine wpW_act (fun QQ hQQ => ?_) (by rfl)
      go_wp2_with (go_at_call 20; with_reducible refine (fs.out _ _ _ _ _ (RF_r.out.below H2 (Nat.le_refl _)) sr2 sp2 hfl hpl).mono ?_; rintro e q3 ⟨b4, c4, a4, d4, rfl, fr3, fl3, hs⟩)
      have H3 := H2.trans (hs.mono H2.size)
      (refine hQQ _ _ ?hCn ?_; (case hCn => exact H3); clear hQQ QQ)
      have x3 := x2.below hs x2.lt
      clear hs
      (repeat (first | (apply wpW_light; (case h => (intro wa; (first | (go_big_quiet_skip; exact wpQuiet_nil rfl) | (go_big_quiet_want; go_big_quiet_op; go_big_quiet_on; exact wpQuiet_nil rfl))))) | (apply wpW_here; (case h => (first | (go_big_quiet_skip; exact wpQuiet_nil rfl) | (go_big_quiet_want; go_big_quiet_op; go_big_quiet_on; exact wpQuiet_nil rfl)))) | (apply wpW_held; (case hC => assumption); (case h => (intro wa hCa; simp only [] at hCa; (first | (go_big_quiet_skip; exact wpQuiet_nil rfl) | (go_big_quiet_want; go_big_quiet_op; go_big_quiet_on; exact wpQuiet_nil rfl)))))))
      obtain ⟨y0, y1, y2, y3, y4, y5, y6, y7, y8, y9, y10, y11, y12, y13⟩ := x3.cells
      refine wpW_last (fun QQ hQQ => ?_) (by rfl)
      go_wp2
      (refine hQQ.out _ _ ?_; clear hQQ QQ)
      (repeat (first | (apply wpW_light; (case h => (intro wa; (first | (go_big_quiet_skip; exact wpQuiet_nil rfl) | (go_big_quiet_want; go_big_quiet_op; go_big_quiet_on; exact wpQuiet_nil rfl))))) | (apply wpW_here; (case h => (first | (go_big_quiet_skip; exact wpQuiet_nil rfl) | (go_big_quiet_want; go_big_quiet_op; go_big_quiet_on; exact wpQuiet_nil rfl)))) | (apply wpW_held; (case hC => assumption); (case h => (intro wa hCa; simp only [] at hCa; (first | (go_big_quiet_skip; exact wpQuiet_nil rfl) | (go_big_quiet_want; go_big_quiet_op; go_big_quiet_on; exact wpQuiet_nil rfl)))))))
      refine wpW_nil ?_
      go_wp2_with (fail)
      go_meet
      exact ⟨x10, b4, c4, a4, d4, rfl, rfl, rfl, gx, x3.set F.n F.d.k0 F.d.k1 F.d.s0 F.d.s1 (.slice b4 RL c4) RN, rows7 (.inl rfl) fr3 x3, rows7 (.inr rfl) fl3 x3, below7 H3 gx⟩
    · simp only [pick, nth]
      refine wpW_name ?_
      intro q0 hq0
      have H0 : Below wf.heap.size wf q0 := by rw [hq0]; exact (Below.refl _ _).drew
      clear hq0
      (repeat (first | (apply wpW_light; (case h => (intro wa; (first | (go_big_quiet_skip; exact wpQuiet_nil rfl) | (go_big_quiet_want; go_big_quiet_op; go_big_quiet_on; exact wpQuiet_nil rfl))))) | (apply wpW_here; (case h => (first | (go_big_quiet_skip; exact wpQuiet_nil rfl) | (go_big_quiet_want; go_big_quiet_op; go_big_quiet_on; exact wpQuiet_nil rfl)))) | (apply wpW_held; (case hC => assumption); (case h => (intro wa hCa; (obtain ⟨u0, u1, u2, u3, u4, u5, u6, u7, u8, u9, u10, u11, u12, u13⟩ := (BF_s.out.below hCa hsl).cells; clear hCa); (first | (go_big_quiet_skip; exact wpQuiet_nil rfl) | (go_big_quiet_want; go_big_quiet_op; go_big_quiet_on; exact wpQuiet_nil rfl)))))))
      refine wpW_act (fun QQ hQQ => ?_) (by rfl)
      go_wp2
      (refine hQQ _ _ ?hCn ?_; (case hCn => exact H0.alloc H0.size _); clear hQQ QQ)
      (repeat (first | (apply wpW_light; (case h => (intro wa; (first | (go_big_quiet_skip; exact wpQuiet_nil rfl) | (go_big_quiet_want; go_big_quiet_op; go_big_quiet_on; exact wpQuiet_nil rfl))))) | (apply wpW_here; (case h => (first | (go_big_quiet_skip; exact wpQuiet_nil rfl) | (go_big_quiet_want; go_big_quiet_op; go_big_quiet_on; exact wpQuiet_nil rfl)))) | (apply wpW_held; (case hC => assumption); (case h => (intro wa hCa; simp only [] at hCa; (first | (go_big_quiet_skip; exact wpQuiet_nil rfl) | (go_big_quiet_want; go_big_quiet_op; go_big_quiet_on; exact wpQuiet_nil rfl)))))))
      refine wpW_name ?_
      intro q1 hq
      have H1 : Below wf.heap.size wf q1 := by rw [hq]; exact H0.alloc H0.size _
      have hs : Below q0.heap.size q0 q1 := by rw [hq]; exact below1 q0 _
      have x1 : ResAt q1 q0.heap.size 0 0 0 0 0 (.slice none 0 0) 0 := by rw [hq]; exact resat1 q0 0 0 0 0 0 _ 0
      have gx : wf.heap.size ≤ q0.heap.size := H0.size
      obtain ⟨x10, hx10⟩ : ∃ x, x = q0.heap.size := ⟨_, rfl⟩
      rw [← hx10] at x1 gx ⊢
      clear hq hs hx10
      refine wpW_act (fun QQ hQQ => ?_) (by rfl)
      go_wp2_with (go_at_call 21; with_reducible refine (ct.out _ (RF_b.out.below H1 (Nat.le_refl _)) (RF_z.out.below H1 (Nat.le_refl _))).mono ?_; rintro e q2 ⟨ca, cc, vs, ps, rfl, sr2, sp2, hfl, hpl, hs⟩)
      have H2 := H1.trans (hs.mono H1.size)
      (refine hQQ _ _ ?hCn ?_; (case hCn => exact H2); clear hQQ QQ)
      have x2 := x1.below hs x1.lt
      clear hs
      (repeat (first | (apply wpW_light; (case h => (intro wa; (first | (go_big_quiet_skip; exact wpQuiet_nil rfl) | (go_big_quiet_want; go_big_quiet_op; go_big_quiet_on; exact wpQuiet_nil rfl))))) | (apply wpW_here; (case h => (first | (go_big_quiet_skip; exact wpQuiet_nil rfl) | (go_big_quiet_want; go_big_quiet_op; go_big_quiet_on; exact wpQuiet_nil rfl)))) | (apply wpW_held; (case hC => assumption); (case h => (intro wa hCa; simp only [] at hCa; (first | (go_big_quiet_skip; exact wpQuiet_nil rfl) | (go_big_quiet_want; go_big_quiet_op; go_big_quiet_on; exact wpQuiet_nil rfl)))))))
      refine wpW_act (fun QQ hQQ => ?_) (by rfl)
      go_wp2_with (go_at_call 20; with_reducible refine (fs.out _ _ _ _ _ (RF_r.out.below H2 (Nat.le_refl _)) sr2 sp2 hfl hpl).mono ?_; rintro e q3 ⟨b4, c4, a4, d4, rfl, fr3, fl3, hs⟩)
      have H3 := H2.trans (hs.mono H2.size)
      (refine hQQ _ _ ?hCn ?_; (case hCn => exact H3); clear hQQ QQ)
      have x3 := x2.below hs x2.lt
      clear hs
      (repeat (first | (apply wpW_light; (case h => (intro wa; (first | (go_big_quiet_skip; exact wpQuiet_nil rfl) | (go_big_quiet_want; go_big_quiet_op; go_big_quiet_on; exact wpQuiet_nil rfl))))) | (apply wpW_here; (case h => (first | (go_big_quiet_skip; exact wpQuiet_nil rfl) | (go_big_quiet_want; go_big_quiet_op; go_big_quiet_on; exact wpQuiet_nil rfl)))) | (apply wpW_held; (case hC => assumption); (case h => (intro wa hCa; simp only [] at hCa; (first | (go_big_quiet_skip; exact wpQuiet_nil rfl) | (go_big_quiet_want; go_big_quiet_op; go_big_quiet_on; exact wpQuiet_nil rfl)))))))
      obtain ⟨y0, y1, y2, y3, y4, y5, y6, y7, y8, y9, y10, y11, y12, y13⟩ := x3.cells
      refine wpW_last (fun QQ hQQ => ?_) (by rfl)
      go_wp2
      (refine hQQ.out _ _ ?_; clear hQQ QQ)
      (repeat (first | (apply wpW_light; (case h => (intro wa; (first | (go_big_quiet_skip; exact wpQuiet_nil rfl) | (go_big_quiet_want; go_big_quiet_op; go_big_quiet_on; exact wpQuiet_nil rfl))))) | (apply wpW_here; (case h => (first | (go_big_quiet_skip; exact wpQuiet_nil rfl) | (go_big_quiet_want; go_big_quiet_op; go_big_quiet_on; exact wpQuiet_nil rfl)))) | (apply wpW_held; (case hC => assumption); (case h => (intro wa hCa; simp only [] at hCa; (first | (go_big_quiet_skip; exact wpQuiet_nil rfl) | (go_big_quiet_want; go_big_quiet_op; go_big_quiet_on; exact wpQuiet_nil rfl)))))))
      refine wpW_nil ?_
      go_wp2_with (fail)
      go_meet
      exact ⟨x10, b4, c4, a4, d4, rfl, rfl, rfl, gx, x3.set F.n F.d.k0 F.d.k1 F.d.s0 F.d.s1 (.slice b4 RL c4) RN, rows7 (.inl rfl) fr3 x3, rows7 (.inr rfl) fl3 x3, below7 H3 gx⟩
  case rest =>
  obtain ⟨x10, b4, c4, a4, d4, rfl, rfl, rfl, gx, X2, r2, l2, B2⟩ := hcut
  obtain ⟨w20, hw⟩ : ∃ w, w = wc := ⟨_, rfl⟩
  subst hw
  have hW20 := Go.Lib.hid (hWF.out.trans (B2.mono hWF.out.size))
  have B20_s := Go.Lib.hid (BF_s.out.below B2 hsl)
  have B20_x := Go.Lib.hid (BF_x.out.below B2 hxl)
  have B20_y := Go.Lib.hid X2
  have R20_x := Go.Lib.hid (RF_x.out.below B2 (Nat.le_refl _))
  have R20_l := Go.Lib.hid (RF_l.out.below B2 (Nat.le_refl _))
  have R20_y := Go.Lib.hid r2
  have R20_m := Go.Lib.hid l2
  obtain ⟨y0, y1, y2, y3, y4, y5, y6, y7, y8, y9, y10, y11, y12, y13⟩ := B20_s.out.cells
  obtain ⟨v0, v1, v2, v3, v4, v5, v6, v7, v8, v9, v10, v11, v12, v13⟩ := B20_x.out.cells
  obtain ⟨z0, z1, z2, z3, z4, z5, z6, z7, z8, z9, z10, z11, z12, z13⟩ := B20_y.out.cells
  clear X2 r2 l2 B2 hWF BF_s BF_x RF_x RF_l RF_r RF_b RF_z
  rcases hkey.out with he | ⟨rfl, c3, hF4, hL4, hsum⟩
  · have e0 : decide (fe = 0) = false := decide_eq_false he
    go_wp2_with (first
      | (go_at_call 12; ((with_reducible refine (sm1.out _ _ _ _ _ ?h1 ?h2).mono ?_)); (case h1 => exact R20_x.out); (case h2 => exact R20_y.out); rintro e w21 ⟨rfl, hb21⟩; have hWE21 := Go.Lib.hid hW20.out; have hW21 := Go.Lib.hid (hWE21.out.trans (hb21.mono hWE21.out.size)); have R21_x := Go.Lib.hid (R20_x.out.below hb21 (Nat.le_refl _)); have R21_l := Go.Lib.hid (R20_l.out.below hb21 (Nat.le_refl _)); have R21_y := Go.Lib.hid (R20_y.out.below hb21 (Nat.le_refl _)); have R21_m := Go.Lib.hid (R20_m.out.below hb21 (Nat.le_refl _)); have BE21_s := Go.Lib.hid B20_s.out; have B21_s := Go.Lib.hid (BE21_s.out.below hb21 BE21_s.out.lt); obtain ⟨k21s0, k21s1, k21s2, k21s3, k21s4, k21s5, k21s6, k21s7, k21s8, k21s9, k21s10, k21s11, k21s12, k21s13⟩ := B21_s.out.cells; have BE21_x := Go.Lib.hid B20_x.out; have B21_x := Go.Lib.hid (BE21_x.out.below hb21 BE21_x.out.lt); obtain ⟨k21x0, k21x1, k21x2, k21x3, k21x4, k21x5, k21x6, k21x7, k21x8, k21x9, k21x10, k21x11, k21x12, k21x13⟩ := B21_x.out.cells; have BE21_y := Go.Lib.hid B20_y.out; have B21_y := Go.Lib.hid (BE21_y.out.below hb21 BE21_y.out.lt); obtain ⟨k21y0, k21y1, k21y2, k21y3, k21y4, k21y5, k21y6, k21y7, k21y8, k21y9, k21y10, k21y11, k21y12, k21y13⟩ := B21_y.out.cells; clear hb21)
      | (go_at_call 13; ((with_reducible refine (sm2.out _ _ _ _ _ ?h1 ?h2).mono ?_)); (case h1 => exact R21_l.out); (case h2 => exact R21_m.out); rintro e w22 ⟨rfl, hb22⟩; have hWE22 := Go.Lib.hid hW21.out; have hW22 := Go.Lib.hid (hWE22.out.trans (hb22.mono hWE22.out.size)); have R22_x := Go.Lib.hid (R21_x.out.below hb22 (Nat.le_refl _)); have R22_l := Go.Lib.hid (R21_l.out.below hb22 (Nat.le_refl _)); have R22_y := Go.Lib.hid (R21_y.out.below hb22 (Nat.le_refl _)); have R22_m := Go.Lib.hid (R21_m.out.below hb22 (Nat.le_refl _)); have BE22_s := Go.Lib.hid B21_s.out; have B22_s := Go.Lib.hid (BE22_s.out.below hb22 BE22_s.out.lt); obtain ⟨k22s0, k22s1, k22s2, k22s3, k22s4, k22s5, k22s6, k22s7, k22s8, k22s9, k22s10, k22s11, k22s12, k22s13⟩ := B22_s.out.cells; have BE22_x := Go.Lib.hid B21_x.out; have B22_x := Go.Lib.hid (BE22_x.out.below hb22 BE22_x.out.lt); obtain ⟨k22x0, k22x1, k22x2, k22x3, k22x4, k22x5, k22x6, k22x7, k22x8, k22x9, k22x10, k22x11, k22x12, k22x13⟩ := B22_x.out.cells; have BE22_y := Go.Lib.hid B21_y.out; have B22_y := Go.Lib.hid (BE22_y.out.below hb22 BE22_y.out.lt); obtain ⟨k22y0, k22y1, k22y2, k22y3, k22y4, k22y5, k22y6, k22y7, k22y8, k22y9, k22y10, k22y11, k22y12, k22y13⟩ := B22_y.out.cells; clear hb22)
      | (go_at_call 14; refine (alive10_ok _).mono ?_; rintro e w23 ⟨rfl, hb23⟩; have hWE23 := Go.Lib.hid hW22.out; have hW23 := Go.Lib.hid (hWE23.out.trans (hb23.mono hWE23.out.size)); clear hb23))
    go_ret
    exact ⟨rfl, hW23.out⟩
  · have c3 := Go.Lib.hid c3
    go_wp2_with (first
      | (go_at_call 12; ((with_reducible refine (sm1.out _ _ _ _ _ ?h1 ?h2).mono ?_)); (case h1 => exact R20_x.out); (case h2 => exact R20_y.out); rintro e w21 ⟨rfl, hb21⟩; have hWE21 := Go.Lib.hid hW20.out; have hW21 := Go.Lib.hid (hWE21.out.trans (hb21.mono hWE21.out.size)); have R21_x := Go.Lib.hid (R20_x.out.below hb21 (Nat.le_refl _)); have R21_l := Go.Lib.hid (R20_l.out.below hb21 (Nat.le_refl _)); have R21_y := Go.Lib.hid (R20_y.out.below hb21 (Nat.le_refl _)); have R21_m := Go.Lib.hid (R20_m.out.below hb21 (Nat.le_refl _)); have BE21_s := Go.Lib.hid B20_s.out; have B21_s := Go.Lib.hid (BE21_s.out.below hb21 BE21_s.out.lt); obtain ⟨k21s0, k21s1, k21s2, k21s3, k21s4, k21s5, k21s6, k21s7, k21s8, k21s9, k21s10, k21s11, k21s12, k21s13⟩ := B21_s.out.cells; have BE21_x := Go.Lib.hid B20_x.out; have B21_x := Go.Lib.hid (BE21_x.out.below hb21 BE21_x.out.lt); obtain ⟨k21x0, k21x1, k21x2, k21x3, k21x4, k21x5, k21x6, k21x7, k21x8, k21x9, k21x10, k21x11, k21x12, k21x13⟩ := B21_x.out.cells; have BE21_y := Go.Lib.hid B20_y.out; have B21_y := Go.Lib.hid (BE21_y.out.below hb21 BE21_y.out.lt); obtain ⟨k21y0, k21y1, k21y2, k21y3, k21y4, k21y5, k21y6, k21y7, k21y8, k21y9, k21y10, k21y11, k21y12, k21y13⟩ := B21_y.out.cells; clear hb21)
      | (go_at_call 13; ((with_reducible refine (sm2.out _ _ _ _ _ ?h1 ?h2).mono ?_)); (case h1 => exact R21_l.out); (case h2 => exact R21_m.out); rintro e w22 ⟨rfl, hb22⟩; have hWE22 := Go.Lib.hid hW21.out; have hW22 := Go.Lib.hid (hWE22.out.trans (hb22.mono hWE22.out.size)); have R22_x := Go.Lib.hid (R21_x.out.below hb22 (Nat.le_refl _)); have R22_l := Go.Lib.hid (R21_l.out.below hb22 (Nat.le_refl _)); have R22_y := Go.Lib.hid (R21_y.out.below hb22 (Nat.le_refl _)); have R22_m := Go.Lib.hid (R21_m.out.below hb22 (Nat.le_refl _)); have BE22_s := Go.Lib.hid B21_s.out; have B22_s := Go.Lib.hid (BE22_s.out.below hb22 BE22_s.out.lt); obtain ⟨k22s0, k22s1, k22s2, k22s3, k22s4, k22s5, k22s6, k22s7, k22s8, k22s9, k22s10, k22s11, k22s12, k22s13⟩ := B22_s.out.cells; have BE22_x := Go.Lib.hid B21_x.out; have B22_x := Go.Lib.hid (BE22_x.out.below hb22 BE22_x.out.lt); obtain ⟨k22x0, k22x1, k22x2, k22x3, k22x4, k22x5, k22x6, k22x7, k22x8, k22x9, k22x10, k22x11, k22x12, k22x13⟩ := B22_x.out.cells; have BE22_y := Go.Lib.hid B21_y.out; have B22_y := Go.Lib.hid (BE22_y.out.below hb22 BE22_y.out.lt); obtain ⟨k22y0, k22y1, k22y2, k22y3, k22y4, k22y5, k22y6, k22y7, k22y8, k22y9, k22y10, k22y11, k22y12, k22y13⟩ := B22_y.out.cells; clear hb22)
      | (go_at_call 19; ((with_reducible refine (c3.out _ _ _ ?h1).mono ?_)); (case h1 => exact R22_x.out); rintro e w23 ⟨rfl, hb23⟩; have hWE23 := Go.Lib.hid hW22.out; have hW23 := Go.Lib.hid (hWE23.out.trans (hb23.mono hWE23.out.size)); have R23_x := Go.Lib.hid (R22_x.out.below hb23 (Nat.le_refl _)); have R23_l := Go.Lib.hid (R22_l.out.below hb23 (Nat.le_refl _)); have R23_y := Go.Lib.hid (R22_y.out.below hb23 (Nat.le_refl _)); have R23_m := Go.Lib.hid (R22_m.out.below hb23 (Nat.le_refl _)); have BE23_s := Go.Lib.hid B22_s.out; have B23_s := Go.Lib.hid (BE23_s.out.below hb23 BE23_s.out.lt); obtain ⟨k23s0, k23s1, k23s2, k23s3, k23s4, k23s5, k23s6, k23s7, k23s8, k23s9, k23s10, k23s11, k23s12, k23s13⟩ := B23_s.out.cells; have BE23_x := Go.Lib.hid B22_x.out; have B23_x := Go.Lib.hid (BE23_x.out.below hb23 BE23_x.out.lt); obtain ⟨k23x0, k23x1, k23x2, k23x3, k23x4, k23x5, k23x6, k23x7, k23x8, k23x9, k23x10, k23x11, k23x12, k23x13⟩ := B23_x.out.cells; have BE23_y := Go.Lib.hid B22_y.out; have B23_y := Go.Lib.hid (BE23_y.out.below hb23 BE23_y.out.lt); obtain ⟨k23y0, k23y1, k23y2, k23y3, k23y4, k23y5, k23y6, k23y7, k23y8, k23y9, k23y10, k23y11, k23y12, k23y13⟩ := B23_y.out.cells; clear hb23)
      | (go_at_call 14; refine (alive10_ok _).mono ?_; rintro e w24 ⟨rfl, hb24⟩; have hWE24 := Go.Lib.hid hW23.out; have hW24 := Go.Lib.hid (hWE24.out.trans (hb24.mono hWE24.out.size)); clear hb24))
    go_ret
    exact ⟨rfl, hW24.out⟩

theorem resumePieces_walk (x0_0 : Int) (x0_1 : Int) (x0_2 : Int) (x0_3 : Int) (x0_4 : Int) (ax0_5 : Option Addr) (lenx0_5 capx0_5 : Nat) (zx0_5 : List Int) (x0_6 : Int) (ax1 : Option Addr) (lenx1 capx1 : Nat) (zx1 : List Int) (ax2 : Option Addr) (lenx2 capx2 : Nat) (zx2 : List Int) (W : World) (wx0_0 : (Lit.int .i64 x0_0).wf = true) (wx0_1 : (Lit.int .i64 x0_1).wf = true) (wx0_2 : (Lit.int .i64 x0_2).wf = true) (wx0_3 : (Lit.int .u64 x0_3).wf = true) (wx0_4 : (Lit.int .u64 x0_4).wf = true) (wx0_5 : IsRow .u8 W ax0_5 lenx0_5 capx0_5 zx0_5) (wx0_6 : (Lit.int .i64 x0_6).wf = true) (wx1 : IsRow .u8 W ax1 lenx1 capx1 zx1) (wx2 : IsRow .i64 W ax2 lenx2 capx2 zx2) :
    Calls Try.prog 5 #[.agg #[.int .i64 x0_0, .int .i64 x0_1, .int .i64 x0_2, .int .u64 x0_3, .int .u64 x0_4, .slice ax0_5 lenx0_5 capx0_5, .int .i64 x0_6], .slice ax1 lenx1 capx1, .slice ax2 lenx2 capx2] W fun e w' => e = .returned (.bool true) ∧ Below W.heap.size W w' := by
  have _ := wx0_0
  have hr := Row.of_isRow wx0_5
  have hb := Row.of_isRow wx1
  have hs := Row.of_isRow wx2
  have hm := Nat.le_trans hr.hcap hr.hmax
  unfold maxLen at hm
  cases hg : great lenx0_5 with
  | true => exact resumePieces_out W _ _ _ _ _ _ _ _ _ _ _ _ _ _ _ _ hr (by omega) wx0_6 wx0_1 wx0_2 wx0_3 wx0_4 (.inl hg)
  | false =>
    by_cases hok : ResOk x0_0 x0_1 x0_2 x0_3 x0_4 (zx0_5.take lenx0_5) x0_6
    · by_cases h : (190 : Int) < lenx1 ∨ (¬ (190 : Int) < lenx1 ∧ (20 : Int) < lenx2)
      · exact resumePieces_out W _ _ _ _ _ _ _ _ _ _ _ _ _ _ _ _ hr (by omega) wx0_6 wx0_1 wx0_2 wx0_3 wx0_4 (.inr ⟨hg, .inr ⟨hok, h⟩⟩)
      · obtain ⟨m, D, R, hok, e1, e2, e3, e4, e5, e6, e7⟩ := hok
        obtain ⟨m', h2, h3⟩ := bytes_of hb.wf
        exact resumePieces_in W _ _ _ _ _ _ _ _ _ m D R _ _ _ _ m' _ _ _ _ _ hr (by rw [← hr.hlen, e6, pack_len]) e6 hg (isRow_form wx1) hb h2 (by rw [← hb.hlen, h2, List.length_map]) h3 (by omega) hs (by omega) hok e1 e2 e3 e4 e5 e7
    · exact resumePieces_out W _ _ _ _ _ _ _ _ _ _ _ _ _ _ _ _ hr (by omega) wx0_6 wx0_1 wx0_2 wx0_3 wx0_4 (.inr ⟨hg, .inl hok⟩)
end Go.Proofs.Ytcodofmghbgoeaa
