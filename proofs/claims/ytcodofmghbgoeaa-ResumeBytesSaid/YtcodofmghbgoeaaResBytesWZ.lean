/- ResumeBytes: down to one byte each. -/
import Derived.Test.YtcodofmghbgoeaaZ11
import Derived.Test.YtcodofmghbgoeaaResPiecesWZ

namespace Go.Proofs.Ytcodofmghbgoeaa
open Go.RowKit Cad

section
variable {P : Program} {T E : TypeId} (he : ElemS P T E) (w : World) {ops : Array Oper} {rest : List Oper} {o : Oper} {a : Act} {Q : Exit → Act → World → Prop} (hg : o.guard = none)
include he hg
/-- append(s, x, nil): two slices -/
theorem law_appendS2 (s x : Operand) (hop : o.op = Op.call { callee := Callee.builtin Builtin.append, args := #[s, x], argTypes := #[T, T] }) (base : Nat) (v : Value) (n : Nat) (vs : List Value) (hs : a.eval s = v)
    (hown : w.ownsRow base E 1 v n vs) (xa : Option Addr) (xn xc : Nat) (hx : a.eval x = .slice (some ⟨w.heap.size, 0, none⟩) 2 2) (hn : n < 1000000000) (hbase : base ≤ w.heap.size)
    (hK : ∀ v' w', w'.ownsRow base E 1 v' (n + 2) (vs ++ [.slice xa xn xc, .slice none 0 0]) → Below base w w' → wpList P ops Q rest (a.put o.dst v') w') :
    wpList P ops Q (o :: rest) a (w.alloc (.cells #[.slice xa xn xc, .slice none 0 0] E)) := by
  obtain ⟨sl, info⟩ := he
  cases hi : P.info? E with
  | none => rw [hi] at info; cases info
  | some i0 =>
    rw [hi] at info
    simp only [Option.map_some, Option.some.injEq, Prod.mk.injEq] at info
    obtain ⟨hz0, hz1, hz2⟩ := info
    refine wpList_append_own (w.alloc (.cells #[.slice xa xn xc, .slice none 0 0] E)) hg s x T hop base E i0 (.slice none 0 0) 1 24 sl hi hz0 hz1 hz2 rfl (by decide) v n vs hs (hown.alloc _) ⟨w.heap.size, 0, none⟩ 2 2 [.slice xa xn xc, .slice none 0 0] hx (by simp) (fun j u hj => ?_) (fun u hu => ?_) (by unfold maxLen; omega) (by omega) (by simp; omega) fun v' w' h1 h2 _ => hK v' w' h1 ?_
    · have hj0 : j = 0 ∨ j = 1 := by
        apply Classical.byContradiction; intro h
        rw [List.getElem?_eq_none (by simp; omega)] at hj; cases hj
      rcases hj0 with rfl | rfl
      · simp only [List.getElem?_cons_zero, Option.some.injEq] at hj
        subst hj
        have e : (⟨w.heap.size, 0, none⟩ : Addr).add 0 = ⟨w.heap.size, 0, none⟩ := by simp [Addr.add]
        rw [e]
        unfold World.cell?
        rw [heap_alloc_new]
        rfl
      · simp only [List.getElem?_cons_succ, List.getElem?_cons_zero, Option.some.injEq] at hj
        subst hj
        have e : (⟨w.heap.size, 0, none⟩ : Addr).add (1 * 1) = ⟨w.heap.size, 1, none⟩ := by simp [Addr.add]
        first | rw [e] | skip
        have e' : (⟨w.heap.size, 0, none⟩ : Addr).add 1 = ⟨w.heap.size, 1, none⟩ := by simp [Addr.add]
        first | rw [e'] | skip
        unfold World.cell?
        rw [heap_alloc_new]
        rfl
    · rcases List.mem_cons.1 hu with hu | hu
      · subst hu; rfl
      · rw [List.mem_singleton] at hu; subst hu; rfl
    · exact ((Below.refl base w).alloc hbase _).grown h2 (by simp; omega) fun g hgg => by
        have := ((hown.alloc (.cells #[.slice xa xn xc, .slice none 0 0] E)).lt g hgg).1
        exact this
end

set_option maxRecDepth 100000 in
set_option maxHeartbeats 1000000 in
theorem resumeBytes_out (W : World) (aa : Option Addr) (len cap : Nat) (n a b c d N : Int) (l : List Int) (ab : Option Addr) (nb cb : Nat) (hr : Row .u8 W aa len cap l) (hl : len ≤ 9223372036854775807) (hN : (Lit.int .i64 N).wf = true) (ha : (Lit.int .i64 a).wf = true) (hb : (Lit.int .i64 b).wf = true) (hc : (Lit.int .u64 c).wf = true) (hd : (Lit.int .u64 d).wf = true)
    (h : great len = true ∨ (great len = false ∧ (¬ ResOk n a b c d l N ∨ (ResOk n a b c d l N ∧ (100 : Int) < nb)))) :
    Calls Try.prog 6 #[.agg #[.int .i64 n, .int .i64 a, .int .i64 b, .int .u64 c, .int .u64 d, .slice aa len cap, .int .i64 N], .slice ab nb cb] W fun e w' => e = .returned (.bool true) ∧ Below W.heap.size W w' := by
  have hG := Go.Lib.hid fun w => RGreat_ok w aa len cap N hl
  have hWE0 := Go.Lib.hid (below1 W (.cells #[.int .i64 n, .int .i64 a, .int .i64 b, .int .u64 c, .int .u64 d, .slice aa len cap, .int .i64 N] 29))
  have BE0_s := Go.Lib.hid (resat1 W n a b c d (.slice aa len cap) N)
  have RE0_r := Go.Lib.hid (hr.below hWE0.out (Nat.le_refl _))
  rcases h with h | ⟨h, h2⟩
  · rw [h] at hG
    clear hr hN ha hb hc hd
    go_enter Try.func6, Try.ntmps6
    go_wp2_with (first
      | (go_at_call 15; ((with_reducible refine (hG.out _).mono ?_)); rintro e w1 ⟨rfl, hb1⟩; have hWE1 := Go.Lib.hid hWE0.out; have hW1 := Go.Lib.hid (hWE1.out.trans (hb1.mono hWE1.out.size)); have R1_r := Go.Lib.hid (RE0_r.out.below hb1 (Nat.le_refl _)); have BE1_s := Go.Lib.hid BE0_s.out; have B1_s := Go.Lib.hid (BE1_s.out.below hb1 BE1_s.out.lt); obtain ⟨k1s0, k1s1, k1s2, k1s3, k1s4, k1s5, k1s6, k1s7, k1s8, k1s9, k1s10, k1s11, k1s12, k1s13⟩ := B1_s.out.cells; clear hb1)
      | (go_at_call 14; refine (alive10_ok _).mono ?_; rintro e w2 ⟨rfl, hb2⟩; have hWE2 := Go.Lib.hid hW1.out; have hW2 := Go.Lib.hid (hWE2.out.trans (hb2.mono hWE2.out.size)); clear hb2))
    go_ret
    exact ⟨rfl, hW2.out⟩
  · rw [h] at hG
    have ck := Go.Lib.hid fun w (r : Int) (hc' : chkS n a b c d l N r) (h : Row .u8 w aa len cap l) => RsCheck_any w aa len cap n a b c d N l h hN ha hb hc hd r hc'
    clear h hN ha hb hc hd hr
    rcases h2 with h2 | ⟨h2, h3⟩
    · have ck := Go.Lib.hid fun w => ck.out w 8 (.inr ⟨h2, rfl⟩)
      go_enter Try.func6, Try.ntmps6
      go_wp2_with (first
        | (go_at_call 15; ((with_reducible refine (hG.out _).mono ?_)); rintro e w1 ⟨rfl, hb1⟩; have hWE1 := Go.Lib.hid hWE0.out; have hW1 := Go.Lib.hid (hWE1.out.trans (hb1.mono hWE1.out.size)); have R1_r := Go.Lib.hid (RE0_r.out.below hb1 (Nat.le_refl _)); have BE1_s := Go.Lib.hid BE0_s.out; have B1_s := Go.Lib.hid (BE1_s.out.below hb1 BE1_s.out.lt); obtain ⟨k1s0, k1s1, k1s2, k1s3, k1s4, k1s5, k1s6, k1s7, k1s8, k1s9, k1s10, k1s11, k1s12, k1s13⟩ := B1_s.out.cells; clear hb1)
        | (go_at_call 19; ((with_reducible refine (ck.out _ ?h1).mono ?_)); (case h1 => exact R1_r.out); rintro e w2 ⟨rfl, hb2⟩; have hWE2 := Go.Lib.hid hW1.out; have hW2 := Go.Lib.hid (hWE2.out.trans (hb2.mono hWE2.out.size)); have R2_r := Go.Lib.hid (R1_r.out.below hb2 (Nat.le_refl _)); have BE2_s := Go.Lib.hid B1_s.out; have B2_s := Go.Lib.hid (BE2_s.out.below hb2 BE2_s.out.lt); obtain ⟨k2s0, k2s1, k2s2, k2s3, k2s4, k2s5, k2s6, k2s7, k2s8, k2s9, k2s10, k2s11, k2s12, k2s13⟩ := B2_s.out.cells; clear hb2)
        | (go_at_call 14; refine (alive10_ok _).mono ?_; rintro e w3 ⟨rfl, hb3⟩; have hWE3 := Go.Lib.hid hW2.out; have hW3 := Go.Lib.hid (hWE3.out.trans (hb3.mono hWE3.out.size)); clear hb3))
      go_ret
      exact ⟨rfl, hW3.out⟩
    · have ck := Go.Lib.hid fun w => ck.out w 0 (.inl ⟨h2, rfl⟩)
      go_enter Try.func6, Try.ntmps6
      go_wp2_with (first
        | (go_at_call 15; ((with_reducible refine (hG.out _).mono ?_)); rintro e w1 ⟨rfl, hb1⟩; have hWE1 := Go.Lib.hid hWE0.out; have hW1 := Go.Lib.hid (hWE1.out.trans (hb1.mono hWE1.out.size)); have R1_r := Go.Lib.hid (RE0_r.out.below hb1 (Nat.le_refl _)); have BE1_s := Go.Lib.hid BE0_s.out; have B1_s := Go.Lib.hid (BE1_s.out.below hb1 BE1_s.out.lt); obtain ⟨k1s0, k1s1, k1s2, k1s3, k1s4, k1s5, k1s6, k1s7, k1s8, k1s9, k1s10, k1s11, k1s12, k1s13⟩ := B1_s.out.cells; clear hb1)
        | (go_at_call 19; ((with_reducible refine (ck.out _ ?h1).mono ?_)); (case h1 => exact R1_r.out); rintro e w2 ⟨rfl, hb2⟩; have hWE2 := Go.Lib.hid hW1.out; have hW2 := Go.Lib.hid (hWE2.out.trans (hb2.mono hWE2.out.size)); have R2_r := Go.Lib.hid (R1_r.out.below hb2 (Nat.le_refl _)); have BE2_s := Go.Lib.hid B1_s.out; have B2_s := Go.Lib.hid (BE2_s.out.below hb2 BE2_s.out.lt); obtain ⟨k2s0, k2s1, k2s2, k2s3, k2s4, k2s5, k2s6, k2s7, k2s8, k2s9, k2s10, k2s11, k2s12, k2s13⟩ := B2_s.out.cells; clear hb2)
        | (go_at_call 14; refine (alive10_ok _).mono ?_; rintro e w3 ⟨rfl, hb3⟩; have hWE3 := Go.Lib.hid hW2.out; have hW3 := Go.Lib.hid (hWE3.out.trans (hb3.mono hWE3.out.size)); clear hb3))
      go_ret
      exact ⟨rfl, hW3.out⟩

set_option maxRecDepth 100000 in
set_option maxHeartbeats 8000000 in
theorem resumeBytes_in (W : World) (aa : Option Addr) (len cap : Nat) (n a b c d N : Int) (m : Nat) (D : Du) (R : List Bool) (lR : List Int) (ab : Option Addr) (nb cb : Nat) (bl : List Nat) (lb : List Int) (hr : Row .u8 W aa len cap lR) (hlen : len = (R.length + 7) / 8) (hlR : lR = pack R) (hgr : great len = false) (hbr : Row .u8 W ab nb cb lb) (hlb : lb = bl.map Int.ofNat) (hbl : bl.length = nb) (h256 : ∀ x ∈ bl, x < 256) (hnb : nb ≤ 100)
    (hok : ResOkN m D R) (hn : n = m) (hk0 : a = D.k0) (hk1 : b = D.k1) (hs0 : c = D.s0) (hs1 : d = D.s1) (hN : N = R.length) :
    Calls Try.prog 6 #[.agg #[.int .i64 n, .int .i64 a, .int .i64 b, .int .u64 c, .int .u64 d, .slice aa len cap, .int .i64 N], .slice ab nb cb] W fun e w' => e = .returned (.bool true) ∧ Below W.heap.size W w' := by
  have hl80 := hok.b80
  have hG := Go.Lib.hid fun w => RGreat_ok w aa len cap N (by omega)
  rw [hgr] at hG
  have d1 : decide ((100 : Int) < nb) = false := decide_eq_false (by omega)
  obtain ⟨F, hF⟩ : ∃ F, F = fed m (R ++ bytesB bl) D := ⟨_, rfl⟩
  obtain ⟨RN, hRN⟩ : ∃ x, x = F.r.length := ⟨_, rfl⟩
  obtain ⟨RL, hRL⟩ : ∃ x, x = (RN + 7) / 8 := ⟨_, rfl⟩
  obtain ⟨FL, hFL⟩ : ∃ x, x = F.l.length := ⟨_, rfl⟩
  obtain ⟨fe, hfe⟩ : ∃ x : Int, x = F.e := ⟨_, rfl⟩
  have ck : Hid (∀ w, Row .u8 w aa len cap lR → Calls Try.prog 19 #[.agg #[.int .i64 n, .int .i64 a, .int .i64 b, .int .u64 c, .int .u64 d, .slice aa len cap, .int .i64 N]] w fun e W' => e = .returned (.int .i64 0) ∧ Below w.heap.size w W') := Go.Lib.hid fun w h => by
    subst hn hk0 hk1 hs0 hs1 hN
    exact RsCheck_okN w aa len cap m D R lR h hlR hok
  have fd : Hid (∀ w, Row .u8 w aa len cap lR → Row .u8 w ab nb cb lb → Calls Try.prog 10 #[.agg #[.int .i64 n, .int .i64 a, .int .i64 b, .int .u64 c, .int .u64 d, .slice aa len cap, .int .i64 N], .slice ab nb cb] w fun e W' => ∃ bb cc a c, e = .returned (.tuple #[.agg #[.int .i64 F.n, .int .i64 F.d.k0, .int .i64 F.d.k1, .int .u64 F.d.s0, .int .u64 F.d.s1, .slice bb RL cc, .int .i64 RN], .slice a FL c, .int .i64 fe]) ∧ Row .u8 W' bb RL cc (pack F.r) ∧ Row .u32 W' a FL c (F.l.map Int.ofNat) ∧ Below w.heap.size w W') := Go.Lib.hid fun w h h' => by
    subst hn hk0 hk1 hs0 hs1 hN
    have := PsFeed_ok w aa len cap m D R ab nb cb bl (by rw [← hlR]; exact h) hok (by rw [← hlb]; exact h') hbl h256 (by omega)
    unfold ResF at this
    rw [← hF, ← hRN, ← hRL, ← hfe] at this
    refine this.mono ?_
    rintro e w' ⟨bb, cc, a, q, c, rfl, g1, g2, g3⟩
    obtain rfl : q = FL := by rw [← g2.hlen, List.length_map, hFL]
    exact ⟨bb, cc, a, c, rfl, g1, g2, g3⟩
  have fs : Hid (∀ w q qn qc vs ps, Row .u8 w aa len cap lR → SRow w q qn qc vs → Pieces w vs ps → ps.flatten = bl → (∀ p ∈ ps, p.length ≤ 1) → Calls Try.prog 20 #[.agg #[.int .i64 n, .int .i64 a, .int .i64 b, .int .u64 c, .int .u64 d, .slice aa len cap, .int .i64 N], .slice q qn qc] w fun e W' => ∃ bb cc a c, e = .returned (.tuple #[.agg #[.int .i64 F.n, .int .i64 F.d.k0, .int .i64 F.d.k1, .int .u64 F.d.s0, .int .u64 F.d.s1, .slice bb RL cc, .int .i64 RN], .slice a FL c, .int .i64 fe]) ∧ Row .u8 W' bb RL cc (pack F.r) ∧ Row .u32 W' a FL c (F.l.map Int.ofNat) ∧ Below w.heap.size w W') := Go.Lib.hid fun w q qn qc vs ps h g1 g2 g3 g4 => by
    subst hn hk0 hk1 hs0 hs1 hN hlen
    have := feeds_of PsFeed_says w aa cap m D R q qn qc vs ps (by rw [← hlR]; exact h) hok g1 g2 fun p hp => Nat.le_trans (g4 p hp) (by omega)
    unfold ResF at this
    rw [feedS_fed ps m R D hok, g3, ← hF, ← hRN, ← hRL, ← hfe] at this
    refine this.mono ?_
    rintro e w' ⟨bb, cc, a, q, c, rfl, g1, g2, g3⟩
    obtain rfl : q = FL := by rw [← g2.hlen, List.length_map, hFL]
    exact ⟨bb, cc, a, c, rfl, g1, g2, g3⟩
  have sm1 : Hid (∀ w b c b' c', Row .u8 w b RL c (pack F.r) → Row .u8 w b' RL c' (pack F.r) → Calls Try.prog 12 #[.agg #[.int .i64 F.n, .int .i64 F.d.k0, .int .i64 F.d.k1, .int .u64 F.d.s0, .int .u64 F.d.s1, .slice b RL c, .int .i64 RN], .agg #[.int .i64 F.n, .int .i64 F.d.k0, .int .i64 F.d.k1, .int .u64 F.d.s0, .int .u64 F.d.s1, .slice b' RL c', .int .i64 RN]] w fun e W' => e = .returned (.bool true) ∧ Below w.heap.size w W') := Go.Lib.hid fun w b c b' c' h h' => by
    have := RsSame_ok w F.n F.d.k0 F.d.k1 F.d.s0 F.d.s1 RN F.n F.d.k0 F.d.k1 F.d.s0 F.d.s1 RN b RL c _ b' RL c' _ h h'
    rw [sameD_self] at this
    simpa using this
  have sm2 : Hid (∀ w b c b' c', Row .u32 w b FL c (F.l.map Int.ofNat) → Row .u32 w b' FL c' (F.l.map Int.ofNat) → Calls Try.prog 13 #[.slice b FL c, .slice b' FL c'] w fun e W' => e = .returned (.bool true) ∧ Below w.heap.size w W') := Go.Lib.hid fun w b c b' c' h h' => by
    have := CSame_ok w b FL c _ h b' FL c' _ h'
    simpa using this
  have hWE0 := Go.Lib.hid (below1 W (.cells #[.int .i64 n, .int .i64 a, .int .i64 b, .int .u64 c, .int .u64 d, .slice aa len cap, .int .i64 N] 29))
  have BE0_s := Go.Lib.hid (resat1 W n a b c d (.slice aa len cap) N)
  have RE0_r := Go.Lib.hid (hr.below hWE0.out (Nat.le_refl _))
  have RE0_b := Go.Lib.hid (hbr.below hWE0.out (Nat.le_refl _))
  have hlb' := Go.Lib.hid hlb
  have hbl' := Go.Lib.hid hbl
  have h2' := Go.Lib.hid h256
  have hnbI : (nb : Int) ≤ 100 := by omega
  clear hr hbr hlen hlR hgr hlb hbl h256 hnb hok hn hk0 hk1 hs0 hs1 hN hF hRN hRL hFL hfe hl80
  go_enter Try.func6, Try.ntmps6
  go_wp2_with (first
    | (go_at_call 15; ((with_reducible refine (hG.out _).mono ?_)); rintro e w1 ⟨rfl, hb1⟩; have hWE1 := Go.Lib.hid hWE0.out; have hW1 := Go.Lib.hid (hWE1.out.trans (hb1.mono hWE1.out.size)); have R1_r := Go.Lib.hid (RE0_r.out.below hb1 (Nat.le_refl _)); have R1_b := Go.Lib.hid (RE0_b.out.below hb1 (Nat.le_refl _)); have BE1_s := Go.Lib.hid BE0_s.out; have B1_s := Go.Lib.hid (BE1_s.out.below hb1 BE1_s.out.lt); obtain ⟨k1s0, k1s1, k1s2, k1s3, k1s4, k1s5, k1s6, k1s7, k1s8, k1s9, k1s10, k1s11, k1s12, k1s13⟩ := B1_s.out.cells; clear hb1)
    | (go_at_call 19; ((with_reducible refine (ck.out _ ?h1).mono ?_)); (case h1 => exact R1_r.out); rintro e w2 ⟨rfl, hb2⟩; have hWE2 := Go.Lib.hid hW1.out; have hW2 := Go.Lib.hid (hWE2.out.trans (hb2.mono hWE2.out.size)); have R2_r := Go.Lib.hid (R1_r.out.below hb2 (Nat.le_refl _)); have R2_b := Go.Lib.hid (R1_b.out.below hb2 (Nat.le_refl _)); have BE2_s := Go.Lib.hid B1_s.out; have B2_s := Go.Lib.hid (BE2_s.out.below hb2 BE2_s.out.lt); obtain ⟨k2s0, k2s1, k2s2, k2s3, k2s4, k2s5, k2s6, k2s7, k2s8, k2s9, k2s10, k2s11, k2s12, k2s13⟩ := B2_s.out.cells; clear hb2))
  go_loopg [5, 6] nb (fun g ones i wr => ∃ (k : Nat) (v : Value) (vs : List Value) (ps : List (List Nat)), k ≤ nb ∧ g = nb - k ∧ i = .int .i64 k ∧ ones = v ∧ Pieces w2 vs ps ∧ ps.flatten = bl.take k ∧ (∀ p ∈ ps, p.length ≤ 1) ∧ wr.ownsRow w2.heap.size 25 1 v (2 * k) vs ∧ Below w2.heap.size w2 wr)
  case atStart => exact ⟨0, .slice none 0 0, [], [], Nat.zero_le _, rfl, rfl, rfl, ⟨rfl, fun i hi => (by simp at hi)⟩, by simp, fun p hp => (by cases hp), World.ownsRow_nil _ _ _ _, Below.refl _ _⟩
  case round =>
  obtain ⟨k, v, vs, ps, hk, hg, rfl, rfl, hP, hfl, hpl, ho, hB⟩ := hrel
  obtain ⟨av, cv, rfl⟩ := own_form ho
  have hgo := Go.Lib.hid hg
  have hP' := Go.Lib.hid hP
  have hfl' := Go.Lib.hid hfl
  have hpl' := Go.Lib.hid hpl
  have ho' := Go.Lib.hid ho
  have hB' := Go.Lib.hid hB
  clear hg hP hfl hpl ho hB
  by_cases hlt : k < nb
  · have hlt' : (k : Int) < nb := by omega
    have hcap := R2_b.out.hcap
    have hcI : (k : Int) + 1 ≤ cb := by omega
    obtain ⟨pb, po, rfl, hpl2, -⟩ := R2_b.out.cells (by omega)
    go_wp2_with (at_builtin; refine law_appendS2 elBB _ rfl _ _ rfl w2.heap.size _ (2 * k) vs rfl ho'.out (some ⟨pb, po + k, none⟩) 1 (cb - k) rfl (by omega) hB'.out.size ?_; intro v5 q5 o5 hb5; obtain ⟨a5, c5, rfl⟩ := own_form o5; have B5 := Go.Lib.hid (hB'.out.trans hb5); have o5' := Go.Lib.hid o5; clear o5 hb5)
    go_roundg (nb - (k + 1))
    case measure => (have hgk := hgo.out; omega)
    case rel =>
      have hbl2 := hbl'.out
      have hsub := R2_b.out.sub k 1 (by omega)
      rw [hlb'.out, map_drop, map_take] at hsub
      refine ⟨k + 1, _, vs ++ [.slice (some ⟨pb, po + k, none⟩) 1 (cb - k), .slice none 0 0], ps ++ [(bl.drop k).take 1] ++ [[]], by omega, rfl, by go_num, rfl, ?_, ?_, ?_, o5'.out, B5.out⟩
      · have h1 := hP'.out.snoc (p := (bl.drop k).take 1) (n := 1) (by rw [List.length_take, List.length_drop]; omega) hsub fun x hx => h2'.out x (List.mem_of_mem_drop (List.mem_of_mem_take hx))
        have h2 := h1.snoc (p := []) (n := 0) rfl (Row.nil_row _ _) (fun x hx => (by cases hx))
        simpa using h2
      · rw [List.flatten_append, List.flatten_append, List.flatten_singleton, List.flatten_singleton, List.append_nil, hfl'.out, List.take_add]
      · intro p hp
        rcases List.mem_append.1 hp with hp | hp
        · rcases List.mem_append.1 hp with hp | hp
          · exact hpl'.out p hp
          · rw [List.mem_singleton] at hp; rw [hp, List.length_take]; omega
        · rw [List.mem_singleton] at hp; rw [hp]; simp
  · obtain rfl : k = nb := by omega
    have hlt' : ¬ (k : Int) < k := by omega
    have hflb : ps.flatten = bl := by rw [hfl'.out, ← hbl'.out, List.take_length]
    obtain ⟨w20, hw⟩ : ∃ w, w = wr := ⟨_, rfl⟩
    subst hw
    have hW20 := Go.Lib.hid (hW2.out.trans (hB'.out.mono hW2.out.size))
    have B20_s := Go.Lib.hid (B2_s.out.below hB'.out B2_s.out.lt)
    have R20_r := Go.Lib.hid (R2_r.out.below hB'.out (Nat.le_refl _))
    have R20_b := Go.Lib.hid (R2_b.out.below hB'.out (Nat.le_refl _))
    have S20 := Go.Lib.hid (SRow.of_own ho'.out (by omega))
    have P20 := Go.Lib.hid (hP'.out.below hB'.out (Nat.le_refl _))
    have hplh := Go.Lib.hid hpl'.out
    have hflh := Go.Lib.hid hflb
    obtain ⟨y0, y1, y2, y3, y4, y5, y6, y7, y8, y9, y10, y11, y12, y13⟩ := B20_s.out.cells
    clear hflb hB' hW2 R2_r R2_b
    go_wp2_with (first
      | (go_at_call 10; ((with_reducible refine (fd.out _ ?h1 ?h2).mono ?_)); (case h1 => exact R20_r.out); (case h2 => exact R20_b.out); rintro e w21 ⟨b21, cp21, a21, ca21, rfl, hr21, hm21, hb21⟩; have hWE21 := Go.Lib.hid hW20.out; have hW21 := Go.Lib.hid (hWE21.out.trans (hb21.mono hWE21.out.size)); have R21_r := Go.Lib.hid (R20_r.out.below hb21 (Nat.le_refl _)); have R21_b := Go.Lib.hid (R20_b.out.below hb21 (Nat.le_refl _)); have R21_x := Go.Lib.hid hr21; clear hr21; have BE21_s := Go.Lib.hid B20_s.out; have B21_s := Go.Lib.hid (BE21_s.out.below hb21 BE21_s.out.lt); obtain ⟨k21s0, k21s1, k21s2, k21s3, k21s4, k21s5, k21s6, k21s7, k21s8, k21s9, k21s10, k21s11, k21s12, k21s13⟩ := B21_s.out.cells; have l21s := B21_s.out.lt; have n21s : W.heap.size ≠ w21.heap.size := (by omega); have R21_l := Go.Lib.hid hm21; clear hm21; have S21 := Go.Lib.hid (S20.out.below hb21 (Nat.le_refl _)); have P21 := Go.Lib.hid (P20.out.below hb21 (Nat.le_refl _)); clear hb21)
      | (go_at_call 20; ((with_reducible refine (fs.out _ _ _ _ vs ps ?h1 ?h2 ?h3 hflh.out hplh.out).mono ?_)); (case h1 => exact (R21_r.out.below (below1 w21 (.cells #[.int .i64 F.n, .int .i64 F.d.k0, .int .i64 F.d.k1, .int .u64 F.d.s0, .int .u64 F.d.s1, (.slice b21 RL cp21), .int .i64 RN] 29)) (Nat.le_refl _))); (case h2 => exact S21.out.below (below1 w21 (.cells #[.int .i64 F.n, .int .i64 F.d.k0, .int .i64 F.d.k1, .int .u64 F.d.s0, .int .u64 F.d.s1, (.slice b21 RL cp21), .int .i64 RN] 29)) (Nat.le_refl _)); (case h3 => exact P21.out.below (below1 w21 (.cells #[.int .i64 F.n, .int .i64 F.d.k0, .int .i64 F.d.k1, .int .u64 F.d.s0, .int .u64 F.d.s1, (.slice b21 RL cp21), .int .i64 RN] 29)) (Nat.le_refl _)); rintro e w22 ⟨b22, cp22, a22, ca22, rfl, hr22, hm22, hb22⟩; have hWE22 := Go.Lib.hid (hW21.out.alloc hW21.out.size (.cells #[.int .i64 F.n, .int .i64 F.d.k0, .int .i64 F.d.k1, .int .u64 F.d.s0, .int .u64 F.d.s1, (.slice b21 RL cp21), .int .i64 RN] 29)); have hW22 := Go.Lib.hid (hWE22.out.trans (hb22.mono hWE22.out.size)); have R22_r := Go.Lib.hid ((R21_r.out.below (below1 w21 (.cells #[.int .i64 F.n, .int .i64 F.d.k0, .int .i64 F.d.k1, .int .u64 F.d.s0, .int .u64 F.d.s1, (.slice b21 RL cp21), .int .i64 RN] 29)) (Nat.le_refl _)).below hb22 (Nat.le_refl _)); have R22_b := Go.Lib.hid ((R21_b.out.below (below1 w21 (.cells #[.int .i64 F.n, .int .i64 F.d.k0, .int .i64 F.d.k1, .int .u64 F.d.s0, .int .u64 F.d.s1, (.slice b21 RL cp21), .int .i64 RN] 29)) (Nat.le_refl _)).below hb22 (Nat.le_refl _)); have R22_x := Go.Lib.hid ((R21_x.out.below (below1 w21 (.cells #[.int .i64 F.n, .int .i64 F.d.k0, .int .i64 F.d.k1, .int .u64 F.d.s0, .int .u64 F.d.s1, (.slice b21 RL cp21), .int .i64 RN] 29)) (Nat.le_refl _)).below hb22 (Nat.le_refl _)); have R22_l := Go.Lib.hid ((R21_l.out.below (below1 w21 (.cells #[.int .i64 F.n, .int .i64 F.d.k0, .int .i64 F.d.k1, .int .u64 F.d.s0, .int .u64 F.d.s1, (.slice b21 RL cp21), .int .i64 RN] 29)) (Nat.le_refl _)).below hb22 (Nat.le_refl _)); have R22_y := Go.Lib.hid hr22; clear hr22; have BE22_s := Go.Lib.hid (B21_s.out.alloc (.cells #[.int .i64 F.n, .int .i64 F.d.k0, .int .i64 F.d.k1, .int .u64 F.d.s0, .int .u64 F.d.s1, (.slice b21 RL cp21), .int .i64 RN] 29)); have B22_s := Go.Lib.hid (BE22_s.out.below hb22 BE22_s.out.lt); obtain ⟨k22s0, k22s1, k22s2, k22s3, k22s4, k22s5, k22s6, k22s7, k22s8, k22s9, k22s10, k22s11, k22s12, k22s13⟩ := B22_s.out.cells; have BE22_x := Go.Lib.hid (resat1 w21 F.n F.d.k0 F.d.k1 F.d.s0 F.d.s1 (.slice b21 RL cp21) RN); have B22_x := Go.Lib.hid (BE22_x.out.below hb22 BE22_x.out.lt); obtain ⟨k22x0, k22x1, k22x2, k22x3, k22x4, k22x5, k22x6, k22x7, k22x8, k22x9, k22x10, k22x11, k22x12, k22x13⟩ := B22_x.out.cells; have l22s := B22_s.out.lt; have n22s : W.heap.size ≠ w22.heap.size := (by omega); have l22x := B22_x.out.lt; have n22x : w21.heap.size ≠ w22.heap.size := (by omega); have R22_m := Go.Lib.hid hm22; clear hm22; clear hb22)
      | (go_at_call 12; ((with_reducible refine (sm1.out _ _ _ _ _ ?h1 ?h2).mono ?_)); (case h1 => exact (R22_x.out.below (below1 w22 (.cells #[.int .i64 F.n, .int .i64 F.d.k0, .int .i64 F.d.k1, .int .u64 F.d.s0, .int .u64 F.d.s1, (.slice b22 RL cp22), .int .i64 RN] 29)) (Nat.le_refl _))); (case h2 => exact (R22_y.out.below (below1 w22 (.cells #[.int .i64 F.n, .int .i64 F.d.k0, .int .i64 F.d.k1, .int .u64 F.d.s0, .int .u64 F.d.s1, (.slice b22 RL cp22), .int .i64 RN] 29)) (Nat.le_refl _))); rintro e w23 ⟨rfl, hb23⟩; have hWE23 := Go.Lib.hid (hW22.out.alloc hW22.out.size (.cells #[.int .i64 F.n, .int .i64 F.d.k0, .int .i64 F.d.k1, .int .u64 F.d.s0, .int .u64 F.d.s1, (.slice b22 RL cp22), .int .i64 RN] 29)); have hW23 := Go.Lib.hid (hWE23.out.trans (hb23.mono hWE23.out.size)); have R23_r := Go.Lib.hid ((R22_r.out.below (below1 w22 (.cells #[.int .i64 F.n, .int .i64 F.d.k0, .int .i64 F.d.k1, .int .u64 F.d.s0, .int .u64 F.d.s1, (.slice b22 RL cp22), .int .i64 RN] 29)) (Nat.le_refl _)).below hb23 (Nat.le_refl _)); have R23_b := Go.Lib.hid ((R22_b.out.below (below1 w22 (.cells #[.int .i64 F.n, .int .i64 F.d.k0, .int .i64 F.d.k1, .int .u64 F.d.s0, .int .u64 F.d.s1, (.slice b22 RL cp22), .int .i64 RN] 29)) (Nat.le_refl _)).below hb23 (Nat.le_refl _)); have R23_x := Go.Lib.hid ((R22_x.out.below (below1 w22 (.cells #[.int .i64 F.n, .int .i64 F.d.k0, .int .i64 F.d.k1, .int .u64 F.d.s0, .int .u64 F.d.s1, (.slice b22 RL cp22), .int .i64 RN] 29)) (Nat.le_refl _)).below hb23 (Nat.le_refl _)); have R23_l := Go.Lib.hid ((R22_l.out.below (below1 w22 (.cells #[.int .i64 F.n, .int .i64 F.d.k0, .int .i64 F.d.k1, .int .u64 F.d.s0, .int .u64 F.d.s1, (.slice b22 RL cp22), .int .i64 RN] 29)) (Nat.le_refl _)).below hb23 (Nat.le_refl _)); have R23_y := Go.Lib.hid ((R22_y.out.below (below1 w22 (.cells #[.int .i64 F.n, .int .i64 F.d.k0, .int .i64 F.d.k1, .int .u64 F.d.s0, .int .u64 F.d.s1, (.slice b22 RL cp22), .int .i64 RN] 29)) (Nat.le_refl _)).below hb23 (Nat.le_refl _)); have R23_m := Go.Lib.hid ((R22_m.out.below (below1 w22 (.cells #[.int .i64 F.n, .int .i64 F.d.k0, .int .i64 F.d.k1, .int .u64 F.d.s0, .int .u64 F.d.s1, (.slice b22 RL cp22), .int .i64 RN] 29)) (Nat.le_refl _)).below hb23 (Nat.le_refl _)); have BE23_s := Go.Lib.hid (B22_s.out.alloc (.cells #[.int .i64 F.n, .int .i64 F.d.k0, .int .i64 F.d.k1, .int .u64 F.d.s0, .int .u64 F.d.s1, (.slice b22 RL cp22), .int .i64 RN] 29)); have B23_s := Go.Lib.hid (BE23_s.out.below hb23 BE23_s.out.lt); obtain ⟨k23s0, k23s1, k23s2, k23s3, k23s4, k23s5, k23s6, k23s7, k23s8, k23s9, k23s10, k23s11, k23s12, k23s13⟩ := B23_s.out.cells; have BE23_x := Go.Lib.hid (B22_x.out.alloc (.cells #[.int .i64 F.n, .int .i64 F.d.k0, .int .i64 F.d.k1, .int .u64 F.d.s0, .int .u64 F.d.s1, (.slice b22 RL cp22), .int .i64 RN] 29)); have B23_x := Go.Lib.hid (BE23_x.out.below hb23 BE23_x.out.lt); obtain ⟨k23x0, k23x1, k23x2, k23x3, k23x4, k23x5, k23x6, k23x7, k23x8, k23x9, k23x10, k23x11, k23x12, k23x13⟩ := B23_x.out.cells; have BE23_y := Go.Lib.hid (resat1 w22 F.n F.d.k0 F.d.k1 F.d.s0 F.d.s1 (.slice b22 RL cp22) RN); have B23_y := Go.Lib.hid (BE23_y.out.below hb23 BE23_y.out.lt); obtain ⟨k23y0, k23y1, k23y2, k23y3, k23y4, k23y5, k23y6, k23y7, k23y8, k23y9, k23y10, k23y11, k23y12, k23y13⟩ := B23_y.out.cells; clear hb23)
      | (go_at_call 13; ((with_reducible refine (sm2.out _ _ _ _ _ ?h1 ?h2).mono ?_)); (case h1 => exact R23_l.out); (case h2 => exact R23_m.out); rintro e w24 ⟨rfl, hb24⟩; have hWE24 := Go.Lib.hid hW23.out; have hW24 := Go.Lib.hid (hWE24.out.trans (hb24.mono hWE24.out.size)); have R24_r := Go.Lib.hid (R23_r.out.below hb24 (Nat.le_refl _)); have R24_b := Go.Lib.hid (R23_b.out.below hb24 (Nat.le_refl _)); have R24_x := Go.Lib.hid (R23_x.out.below hb24 (Nat.le_refl _)); have R24_l := Go.Lib.hid (R23_l.out.below hb24 (Nat.le_refl _)); have R24_y := Go.Lib.hid (R23_y.out.below hb24 (Nat.le_refl _)); have R24_m := Go.Lib.hid (R23_m.out.below hb24 (Nat.le_refl _)); have BE24_s := Go.Lib.hid B23_s.out; have B24_s := Go.Lib.hid (BE24_s.out.below hb24 BE24_s.out.lt); obtain ⟨k24s0, k24s1, k24s2, k24s3, k24s4, k24s5, k24s6, k24s7, k24s8, k24s9, k24s10, k24s11, k24s12, k24s13⟩ := B24_s.out.cells; have BE24_x := Go.Lib.hid B23_x.out; have B24_x := Go.Lib.hid (BE24_x.out.below hb24 BE24_x.out.lt); obtain ⟨k24x0, k24x1, k24x2, k24x3, k24x4, k24x5, k24x6, k24x7, k24x8, k24x9, k24x10, k24x11, k24x12, k24x13⟩ := B24_x.out.cells; have BE24_y := Go.Lib.hid B23_y.out; have B24_y := Go.Lib.hid (BE24_y.out.below hb24 BE24_y.out.lt); obtain ⟨k24y0, k24y1, k24y2, k24y3, k24y4, k24y5, k24y6, k24y7, k24y8, k24y9, k24y10, k24y11, k24y12, k24y13⟩ := B24_y.out.cells; clear hb24)
      | (go_at_call 14; refine (alive10_ok _).mono ?_; rintro e w25 ⟨rfl, hb25⟩; have hWE25 := Go.Lib.hid hW24.out; have hW25 := Go.Lib.hid (hWE25.out.trans (hb25.mono hWE25.out.size)); clear hb25))
    go_ret
    exact ⟨rfl, hW25.out⟩

theorem resumeBytes_walk (x0_0 : Int) (x0_1 : Int) (x0_2 : Int) (x0_3 : Int) (x0_4 : Int) (ax0_5 : Option Addr) (lenx0_5 capx0_5 : Nat) (zx0_5 : List Int) (x0_6 : Int) (ax1 : Option Addr) (lenx1 capx1 : Nat) (zx1 : List Int) (W : World) (wx0_0 : (Lit.int .i64 x0_0).wf = true) (wx0_1 : (Lit.int .i64 x0_1).wf = true) (wx0_2 : (Lit.int .i64 x0_2).wf = true) (wx0_3 : (Lit.int .u64 x0_3).wf = true) (wx0_4 : (Lit.int .u64 x0_4).wf = true) (wx0_5 : IsRow .u8 W ax0_5 lenx0_5 capx0_5 zx0_5) (wx0_6 : (Lit.int .i64 x0_6).wf = true) (wx1 : IsRow .u8 W ax1 lenx1 capx1 zx1) :
    Calls Try.prog 6 #[.agg #[.int .i64 x0_0, .int .i64 x0_1, .int .i64 x0_2, .int .u64 x0_3, .int .u64 x0_4, .slice ax0_5 lenx0_5 capx0_5, .int .i64 x0_6], .slice ax1 lenx1 capx1] W fun e w' => e = .returned (.bool true) ∧ Below W.heap.size W w' := by
  have _ := wx0_0
  have hr := Row.of_isRow wx0_5
  have hb := Row.of_isRow wx1
  have hm := Nat.le_trans hr.hcap hr.hmax
  unfold maxLen at hm
  cases hg : great lenx0_5 with
  | true => exact resumeBytes_out W _ _ _ _ _ _ _ _ _ _ _ _ _ hr (by omega) wx0_6 wx0_1 wx0_2 wx0_3 wx0_4 (.inl hg)
  | false =>
    by_cases hok : ResOk x0_0 x0_1 x0_2 x0_3 x0_4 (zx0_5.take lenx0_5) x0_6
    · by_cases h : (100 : Int) < lenx1
      · exact resumeBytes_out W _ _ _ _ _ _ _ _ _ _ _ _ _ hr (by omega) wx0_6 wx0_1 wx0_2 wx0_3 wx0_4 (.inr ⟨hg, .inr ⟨hok, h⟩⟩)
      · obtain ⟨m, D, R, hok, e1, e2, e3, e4, e5, e6, e7⟩ := hok
        obtain ⟨m', h2, h3⟩ := bytes_of hb.wf
        exact resumeBytes_in W _ _ _ _ _ _ _ _ _ m D R _ _ _ _ m' _ hr (by rw [← hr.hlen, e6, pack_len]) e6 hg hb h2 (by rw [← hb.hlen, h2, List.length_map]) h3 (by omega) hok e1 e2 e3 e4 e5 e7
    · exact resumeBytes_out W _ _ _ _ _ _ _ _ _ _ _ _ _ hr (by omega) wx0_6 wx0_1 wx0_2 wx0_3 wx0_4 (.inr ⟨hg, .inl hok⟩)
end Go.Proofs.Ytcodofmghbgoeaa
