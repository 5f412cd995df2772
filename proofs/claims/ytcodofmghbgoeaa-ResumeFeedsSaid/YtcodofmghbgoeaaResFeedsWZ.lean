/- ResumeFeeds: Check and Feed are the reference's. -/
import Derived.Test.YtcodofmghbgoeaaZ11
import Derived.Deep.DeepCutAuto

namespace Go.Proofs.Ytcodofmghbgoeaa
open Go.RowKit Cad

theorem rfeed_both (n a b c d N : Int) (l : List Int) (nb : Nat) (bl : List Nat) (hN : (Lit.int .i64 N).wf = true) (ha : (Lit.int .i64 a).wf = true) (hb : (Lit.int .i64 b).wf = true) (hc : (Lit.int .u64 c).wf = true) (hd : (Lit.int .u64 d).wf = true) (hbl : bl.length = nb) (h256 : ∀ x ∈ bl, x < 256) (hnb : nb ≤ 9223372036854775807) : ∃ F : Fed,
    (∀ w aa len cap ab cb, Row .u8 w aa len cap l → Row .u8 w ab nb cb (bl.map Int.ofNat) → ResF 10 #[.agg #[.int .i64 n, .int .i64 a, .int .i64 b, .int .u64 c, .int .u64 d, .slice aa len cap, .int .i64 N], .slice ab nb cb] w F) ∧
    (∀ w aa len cap ab cb, Row .u8 w aa len cap l → Row .u8 w ab nb cb (bl.map Int.ofNat) → ResF 18 #[.agg #[.int .i64 n, .int .i64 a, .int .i64 b, .int .u64 c, .int .u64 d, .slice aa len cap, .int .i64 N], .slice ab nb cb] w F) := by
  by_cases h : ResOk n a b c d l N
  · obtain ⟨m, D, R, hok, rfl, rfl, rfl, rfl, rfl, rfl, rfl⟩ := h
    by_cases h4 : 41000 < nb
    · exact ⟨fedE 4, fun w aa len cap ab cb h h' => PsFeed_many w aa len cap m D R ab nb cb _ h h' hok h4 hnb, fun w aa len cap ab cb h _ => RsFeed_many w aa len cap m D R ab nb cb h hok h4 hnb⟩
    · exact ⟨_, fun w aa len cap ab cb h h' => PsFeed_ok w aa len cap m D R ab nb cb bl h hok h' hbl h256 (by omega), fun w aa len cap ab cb h h' => RsFeed_ok w aa len cap m D R ab nb cb bl h hok h' hbl h256 (by omega)⟩
  · exact ⟨fedE 8, fun w aa len cap ab cb h' h2 => PsFeed_bad w aa len cap n a b c d N l ab nb cb _ h' h2 hN ha hb hc hd h, fun w aa len cap ab cb h' _ => RsFeed_bad w aa len cap n a b c d N l ab nb cb h' hN ha hb hc hd h⟩

set_option maxRecDepth 100000 in
theorem resumeFeeds_great (W : World) (aa : Option Addr) (len cap : Nat) (n a b c d N : Int) (ab : Option Addr) (nb cb : Nat) (hl : len ≤ 9223372036854775807) (hnb : nb ≤ 9223372036854775807) (hg : great len = true ∨ (great len = false ∧ decide ((190 < nb ∧ nb ≤ 41000) ∨ 41100 < nb) = true)) :
    Calls Try.prog 4 #[.agg #[.int .i64 n, .int .i64 a, .int .i64 b, .int .u64 c, .int .u64 d, .slice aa len cap, .int .i64 N], .slice ab nb cb] W fun e w' => e = .returned (.bool true) ∧ Below W.heap.size W w' := by
  have hG := Go.Lib.hid fun w => RGreat_ok w aa len cap N hl
  have hWE0 := Go.Lib.hid (below1 W (.cells #[.int .i64 n, .int .i64 a, .int .i64 b, .int .u64 c, .int .u64 d, .slice aa len cap, .int .i64 N] 29))
  rcases hg with h | ⟨h, h'⟩
  · rw [h] at hG
    go_enter Try.func4, Try.ntmps4
    go_wp2_with (go_at_call 15; refine (hG.out _).mono ?_; rintro e w1 ⟨rfl, hb1⟩; have hW1 := Go.Lib.hid (hWE0.out.trans (hb1.mono hWE0.out.size)); clear hb1)
    go_ret
    exact ⟨rfl, hW1.out⟩
  · rw [h] at hG
    have hQ := Go.Lib.hid fun w => RsGreat_ok w ab nb cb hnb _ h'
    clear h'
    go_enter Try.func4, Try.ntmps4
    go_wp2_with (first
      | (go_at_call 15; refine (hG.out _).mono ?_; rintro e w1 ⟨rfl, hb1⟩; have hW1 := Go.Lib.hid (hWE0.out.trans (hb1.mono hWE0.out.size)); clear hb1)
      | (go_at_call 16; refine (hQ.out _).mono ?_; rintro e wz ⟨rfl, rfl⟩))
    go_ret
    exact ⟨rfl, hW1.out⟩

set_option maxRecDepth 100000 in
set_option maxHeartbeats 8000000 in
theorem resumeFeeds_in (W : World) (aa : Option Addr) (len cap : Nat) (n a b c d N : Int) (l : List Int) (ab : Option Addr) (nb cb : Nat) (bl : List Nat) (lb : List Int) (hr : Row .u8 W aa len cap l) (hlen : len ≤ 1000000000) (hgr : great len = false) (hbr : Row .u8 W ab nb cb lb) (hlb : lb = bl.map Int.ofNat) (hbl : bl.length = nb) (h256 : ∀ x ∈ bl, x < 256) (hnb : nb ≤ 41100) (hgb : decide ((190 < nb ∧ nb ≤ 41000) ∨ 41100 < nb) = false)
    (hN : (Lit.int .i64 N).wf = true) (ha : (Lit.int .i64 a).wf = true) (hb : (Lit.int .i64 b).wf = true) (hc : (Lit.int .u64 c).wf = true) (hd : (Lit.int .u64 d).wf = true) :
    Calls Try.prog 4 #[.agg #[.int .i64 n, .int .i64 a, .int .i64 b, .int .u64 c, .int .u64 d, .slice aa len cap, .int .i64 N], .slice ab nb cb] W fun e w' => e = .returned (.bool true) ∧ Below W.heap.size W w' := by
  have hG := Go.Lib.hid fun w => RGreat_ok w aa len cap N (by omega)
  rw [hgr] at hG
  have hQ := Go.Lib.hid fun w => RsGreat_ok w ab nb cb (by omega) _ hgb
  have htw := Go.Lib.hid fun w hw => RTwin_row w aa len cap N l hw hlen
  obtain ⟨F, f1, f2⟩ := rfeed_both n a b c d N l nb bl hN ha hb hc hd hbl h256 (by omega)
  unfold ResF at f1 f2
  rw [← hlb] at f1 f2
  obtain ⟨RL, hRL⟩ : ∃ x, x = (F.r.length + 7) / 8 := ⟨_, rfl⟩
  obtain ⟨RN, hRN⟩ : ∃ x, x = F.r.length := ⟨_, rfl⟩
  rw [← hRL, ← hRN] at f1 f2
  obtain ⟨r, hck⟩ := chkS_any n a b c d l N
  have f1 := Go.Lib.hid f1
  have f2 := Go.Lib.hid f2
  have c1 := Go.Lib.hid fun w aa len cap (h : Row .u8 w aa len cap l) => PsCheck_any w aa len cap n a b c d N l h hN ha hb hc hd r hck
  have c2 := Go.Lib.hid fun w (h : Row .u8 w aa len cap l) => RsCheck_any w aa len cap n a b c d N l h hN ha hb hc hd r hck
  have sm1 : Hid (∀ w b c b' c', Row .u8 w b RL c (pack F.r) → Row .u8 w b' RL c' (pack F.r) → Calls Try.prog 12 #[.agg #[.int .i64 F.n, .int .i64 F.d.k0, .int .i64 F.d.k1, .int .u64 F.d.s0, .int .u64 F.d.s1, .slice b RL c, .int .i64 RN], .agg #[.int .i64 F.n, .int .i64 F.d.k0, .int .i64 F.d.k1, .int .u64 F.d.s0, .int .u64 F.d.s1, .slice b' RL c', .int .i64 RN]] w fun e W' => e = .returned (.bool true) ∧ Below w.heap.size w W') := Go.Lib.hid fun w b c b' c' h h' => by
    have := RsSame_ok w F.n F.d.k0 F.d.k1 F.d.s0 F.d.s1 RN F.n F.d.k0 F.d.k1 F.d.s0 F.d.s1 RN b RL c _ b' RL c' _ h h'
    rw [sameD_self] at this
    simpa using this
  have sm2 : Hid (∀ w b j c b' j' c', Row .u32 w b j c (F.l.map Int.ofNat) → Row .u32 w b' j' c' (F.l.map Int.ofNat) → Calls Try.prog 13 #[.slice b j c, .slice b' j' c'] w fun e W' => e = .returned (.bool true) ∧ Below w.heap.size w W') := Go.Lib.hid fun w b j c b' j' c' h h' => by
    have := CSame_ok w b j c _ h b' j' c' _ h'
    simpa using this
  have sm3 : Hid (∀ w b' c', Row .u8 w b' len c' l → Row .u8 w aa len cap l → Calls Try.prog 12 #[.agg #[.int .i64 n, .int .i64 a, .int .i64 b, .int .u64 c, .int .u64 d, .slice b' len c', .int .i64 N], .agg #[.int .i64 n, .int .i64 a, .int .i64 b, .int .u64 c, .int .u64 d, .slice aa len cap, .int .i64 N]] w fun e W' => e = .returned (.bool true) ∧ Below w.heap.size w W') := Go.Lib.hid fun w b' c' h h' => by
    have := RsSame_ok w n a b c d N n a b c d N b' len c' _ aa len cap _ h h'
    rw [sameD_self] at this
    simpa using this
  have wfb := Go.Lib.hid hbr.wf
  have hnbI : (nb : Int) ≤ 41100 := by omega
  have hWE0 := Go.Lib.hid (below1 W (.cells #[.int .i64 n, .int .i64 a, .int .i64 b, .int .u64 c, .int .u64 d, .slice aa len cap, .int .i64 N] 29))
  have BE0_s := Go.Lib.hid (resat1 W n a b c d (.slice aa len cap) N)
  have RE0_r := Go.Lib.hid (hr.below hWE0.out (Nat.le_refl _))
  have RE0_b := Go.Lib.hid (hbr.below hWE0.out (Nat.le_refl _))
  clear hr hbr hN ha hb hc hd hck hlb hbl h256 hgr hgb hRL hRN hlen
  go_enter Try.func4, Try.ntmps4
  go_wp2_with (first
    | (go_at_call 15; ((with_reducible refine (hG.out _).mono ?_)); rintro e w1 ⟨rfl, hb1⟩; have hWE1 := Go.Lib.hid hWE0.out; have hW1 := Go.Lib.hid (hWE1.out.trans (hb1.mono hWE1.out.size)); have R1_r := Go.Lib.hid (RE0_r.out.below hb1 (Nat.le_refl _)); have R1_b := Go.Lib.hid (RE0_b.out.below hb1 (Nat.le_refl _)); have BE1_s := Go.Lib.hid BE0_s.out; have B1_s := Go.Lib.hid (BE1_s.out.below hb1 BE1_s.out.lt); obtain ⟨k1s0, k1s1, k1s2, k1s3, k1s4, k1s5, k1s6, k1s7, k1s8, k1s9, k1s10, k1s11, k1s12, k1s13⟩ := B1_s.out.cells; clear hb1)
    | (go_at_call 16; ((with_reducible refine (hQ.out _).mono ?_)); rintro e wz ⟨rfl, rfl⟩))
  have hS1 := Go.Lib.hid B1_s.out
  have hsl := B1_s.out.lt
  go_cut [5, 6] (fun s5 s6 wx => ∃ (x5 : Nat) (ap : Option Addr) (cp : Nat), s5 = .pointer (some ⟨x5, 0, none⟩) ∧ s6 = .slice ap nb cp ∧ w1.heap.size ≤ x5 ∧ ResAt wx W.heap.size n a b c d (.slice aa len cap) N ∧ ResAt wx x5 n a b c d (.slice aa len cap) N ∧ Row .u8 wx ap nb cp lb ∧ Row .u8 wx aa len cap l ∧ Row .u8 wx ab nb cb lb ∧ Below W.heap.size W wx)
  case first =>
    refine wp_region_ord3 (fun w' => Below w1.heap.size w1 w') 1 3 4 [(2, 0), (0, 2), (1, 3), (3, 3), (4, 3), (5, 4), (6, 0)] [(2, 0), (0, 2), (1, 3), (4, 3), (3, 3), (5, 4), (6, 0)] [(2, 0), (0, 2), (4, 3), (1, 3), (3, 3), (5, 4), (6, 0)] (by kernel_rfl) (by decide) (by kernel_rfl) (by kernel_rfl) (by kernel_rfl) ?hC0 ?_ ?_ ?_
    case hC0 => exact (Below.refl _ _).drew
    · simp only [pick, nth]
      refine wpW_name ?_
      intro q0 hq0
      have H0 : Below w1.heap.size w1 q0 := by rw [hq0]; exact (Below.refl _ _).drew
      clear hq0
      (repeat (first | (apply wpW_light; (case h => (intro wa; (first | (go_big_quiet_skip; exact wpQuiet_nil rfl) | (go_big_quiet_want; go_big_quiet_op; go_big_quiet_on; exact wpQuiet_nil rfl))))) | (apply wpW_here; (case h => (first | (go_big_quiet_skip; exact wpQuiet_nil rfl) | (go_big_quiet_want; go_big_quiet_op; go_big_quiet_on; exact wpQuiet_nil rfl)))) | (apply wpW_held; (case hC => assumption); (case h => (intro wa hCa; (obtain ⟨u0, u1, u2, u3, u4, u5, u6, u7, u8, u9, u10, u11, u12, u13⟩ := (hS1.out.below hCa hsl).cells; clear hCa); (first | (go_big_quiet_skip; exact wpQuiet_nil rfl) | (go_big_quiet_want; go_big_quiet_op; go_big_quiet_on; exact wpQuiet_nil rfl)))))))
      refine wpW_act (fun QQ hQQ => ?_) (by rfl)
      go_wp2
      (refine hQQ _ _ ?hCn ?_; (case hCn => exact H0.alloc H0.size _); clear hQQ QQ)
      (repeat (first | (apply wpW_light; (case h => (intro wa; (first | (go_big_quiet_skip; exact wpQuiet_nil rfl) | (go_big_quiet_want; go_big_quiet_op; go_big_quiet_on; exact wpQuiet_nil rfl))))) | (apply wpW_here; (case h => (first | (go_big_quiet_skip; exact wpQuiet_nil rfl) | (go_big_quiet_want; go_big_quiet_op; go_big_quiet_on; exact wpQuiet_nil rfl)))) | (apply wpW_held; (case hC => assumption); (case h => (intro wa hCa; simp only [] at hCa; (first | (go_big_quiet_skip; exact wpQuiet_nil rfl) | (go_big_quiet_want; go_big_quiet_op; go_big_quiet_on; exact wpQuiet_nil rfl)))))))
      refine wpW_name ?_
      intro q1 hq
      have H1 : Below w1.heap.size w1 q1 := by rw [hq]; exact H0.alloc H0.size _
      have hs : Below q0.heap.size q0 q1 := by rw [hq]; exact below1 q0 _
      have e1 : q1.ownsRow q0.heap.size 5 1 (.slice (some ⟨q0.heap.size, 0, none⟩) 0 0) 0 (nums .u8 []) := by rw [hq]; exact own_empty q0 5 .u8
      have hbb : q0.heap.size < q1.heap.size := by rw [hq]; simp
      have hb1 : w1.heap.size ≤ q0.heap.size := H0.size
      obtain ⟨eb, heb⟩ : ∃ e, e = q0.heap.size := ⟨_, rfl⟩
      rw [← heb] at e1 hbb hb1 ⊢
      clear hq hs heb
      refine wpW_act (fun QQ hQQ => ?_) (by rfl)
      go_wp2_with (at_builtin; refine law_appendRowK elU8 _ rfl _ _ rfl eb _ 0 [] rfl e1 ab nb cb lb rfl (R1_b.out.below H1 (Nat.le_refl _)) (by omega) (by omega) ?_; intro v5 q2 o5 hb5; simp only [Nat.zero_add, List.nil_append] at o5; obtain ⟨a5, c5, rfl⟩ := own_form o5)
      have H2 : Below w1.heap.size w1 q2 := H1.grown hb5 H1.size (fun k hk => by have e : eb = k := Option.some.inj hk; omega)
      (refine hQQ _ _ ?hCn ?_; (case hCn => exact H2); clear hQQ QQ)
      (repeat (first | (apply wpW_light; (case h => (intro wa; (first | (go_big_quiet_skip; exact wpQuiet_nil rfl) | (go_big_quiet_want; go_big_quiet_op; go_big_quiet_on; exact wpQuiet_nil rfl))))) | (apply wpW_here; (case h => (first | (go_big_quiet_skip; exact wpQuiet_nil rfl) | (go_big_quiet_want; go_big_quiet_op; go_big_quiet_on; exact wpQuiet_nil rfl)))) | (apply wpW_held; (case hC => assumption); (case h => (intro wa hCa; simp only [] at hCa; (first | (go_big_quiet_skip; exact wpQuiet_nil rfl) | (go_big_quiet_want; go_big_quiet_op; go_big_quiet_on; exact wpQuiet_nil rfl)))))))
      have p2 := Row.of_own o5 wfb.out
      clear hb5 o5
      refine wpW_act (fun QQ hQQ => ?_) (by rfl)
      go_wp2
      (refine hQQ _ _ ?hCn ?_; (case hCn => exact H2.alloc H2.size _); clear hQQ QQ)
      (repeat (first | (apply wpW_light; (case h => (intro wa; (first | (go_big_quiet_skip; exact wpQuiet_nil rfl) | (go_big_quiet_want; go_big_quiet_op; go_big_quiet_on; exact wpQuiet_nil rfl))))) | (apply wpW_here; (case h => (first | (go_big_quiet_skip; exact wpQuiet_nil rfl) | (go_big_quiet_want; go_big_quiet_op; go_big_quiet_on; exact wpQuiet_nil rfl)))) | (apply wpW_held; (case hC => assumption); (case h => (intro wa hCa; simp only [] at hCa; (first | (go_big_quiet_skip; exact wpQuiet_nil rfl) | (go_big_quiet_want; go_big_quiet_op; go_big_quiet_on; exact wpQuiet_nil rfl)))))))
      refine wpW_name ?_
      intro q3 hq
      have H3 : Below w1.heap.size w1 q3 := by rw [hq]; exact H2.alloc H2.size _
      have hs : Below q2.heap.size q2 q3 := by rw [hq]; exact below1 q2 _
      have p3 := p2.below hs (Nat.le_refl _)
      have x3 : ResAt q3 q2.heap.size 0 0 0 0 0 (.slice none 0 0) 0 := by rw [hq]; exact resat1 q2 0 0 0 0 0 _ 0
      have gx : w1.heap.size ≤ q2.heap.size := H2.size
      obtain ⟨x5, hx5⟩ : ∃ x, x = q2.heap.size := ⟨_, rfl⟩
      rw [← hx5] at x3 gx ⊢
      clear hq hs hx5
      obtain ⟨y0, y1, y2, y3, y4, y5, y6, y7, y8, y9, y10, y11, y12, y13⟩ := x3.cells
      refine wpW_last (fun QQ hQQ => ?_) (by rfl)
      go_wp2
      (refine hQQ.out _ _ ?_; clear hQQ QQ)
      (repeat (first | (apply wpW_light; (case h => (intro wa; (first | (go_big_quiet_skip; exact wpQuiet_nil rfl) | (go_big_quiet_want; go_big_quiet_op; go_big_quiet_on; exact wpQuiet_nil rfl))))) | (apply wpW_here; (case h => (first | (go_big_quiet_skip; exact wpQuiet_nil rfl) | (go_big_quiet_want; go_big_quiet_op; go_big_quiet_on; exact wpQuiet_nil rfl)))) | (apply wpW_held; (case hC => assumption); (case h => (intro wa hCa; simp only [] at hCa; (first | (go_big_quiet_skip; exact wpQuiet_nil rfl) | (go_big_quiet_want; go_big_quiet_op; go_big_quiet_on; exact wpQuiet_nil rfl)))))))
      refine wpW_nil ?_
      go_wp2_with (fail)
      go_meet
      exact ⟨x5, a5, c5, rfl, rfl, gx, ((((((((hS1.out.below H3 hsl).other (by simp; omega) _).other (by simp; omega) _).other (by simp; omega) _).other (by simp; omega) _).other (by simp; omega) _).other (by simp; omega) _).other (by simp; omega) _), x3.set n a b c d (.slice aa len cap) N, rows7 (.inl rfl) p3 x3, rows7 (.inl rfl) (R1_r.out.below H3 (Nat.le_refl _)) x3, rows7 (.inl rfl) (R1_b.out.below H3 (Nat.le_refl _)) x3, below7 (hW1.out.trans (H3.mono hW1.out.size)) (by omega)⟩
    · simp only [pick, nth]
      refine wpW_name ?_
      intro q0 hq0
      have H0 : Below w1.heap.size w1 q0 := by rw [hq0]; exact (Below.refl _ _).drew
      clear hq0
      (repeat (first | (apply wpW_light; (case h => (intro wa; (first | (go_big_quiet_skip; exact wpQuiet_nil rfl) | (go_big_quiet_want; go_big_quiet_op; go_big_quiet_on; exact wpQuiet_nil rfl))))) | (apply wpW_here; (case h => (first | (go_big_quiet_skip; exact wpQuiet_nil rfl) | (go_big_quiet_want; go_big_quiet_op; go_big_quiet_on; exact wpQuiet_nil rfl)))) | (apply wpW_held; (case hC => assumption); (case h => (intro wa hCa; (obtain ⟨u0, u1, u2, u3, u4, u5, u6, u7, u8, u9, u10, u11, u12, u13⟩ := (hS1.out.below hCa hsl).cells; clear hCa); (first | (go_big_quiet_skip; exact wpQuiet_nil rfl) | (go_big_quiet_want; go_big_quiet_op; go_big_quiet_on; exact wpQuiet_nil rfl)))))))
      refine wpW_act (fun QQ hQQ => ?_) (by rfl)
      go_wp2
      (refine hQQ _ _ ?hCn ?_; (case hCn => exact H0.alloc H0.size _); clear hQQ QQ)
      (repeat (first | (apply wpW_light; (case h => (intro wa; (first | (go_big_quiet_skip; exact wpQuiet_nil rfl) | (go_big_quiet_want; go_big_quiet_op; go_big_quiet_on; exact wpQuiet_nil rfl))))) | (apply wpW_here; (case h => (first | (go_big_quiet_skip; exact wpQuiet_nil rfl) | (go_big_quiet_want; go_big_quiet_op; go_big_quiet_on; exact wpQuiet_nil rfl)))) | (apply wpW_held; (case hC => assumption); (case h => (intro wa hCa; simp only [] at hCa; (first | (go_big_quiet_skip; exact wpQuiet_nil rfl) | (go_big_quiet_want; go_big_quiet_op; go_big_quiet_on; exact wpQuiet_nil rfl)))))))
      refine wpW_name ?_
      intro q1 hq
      have H1 : Below w1.heap.size w1 q1 := by rw [hq]; exact H0.alloc H0.size _
      have hs : Below q0.heap.size q0 q1 := by rw [hq]; exact below1 q0 _
      have e1 : q1.ownsRow q0.heap.size 5 1 (.slice (some ⟨q0.heap.size, 0, none⟩) 0 0) 0 (nums .u8 []) := by rw [hq]; exact own_empty q0 5 .u8
      have hbb : q0.heap.size < q1.heap.size := by rw [hq]; simp
      have hb1 : w1.heap.size ≤ q0.heap.size := H0.size
      obtain ⟨eb, heb⟩ : ∃ e, e = q0.heap.size := ⟨_, rfl⟩
      rw [← heb] at e1 hbb hb1 ⊢
      clear hq hs heb
      refine wpW_act (fun QQ hQQ => ?_) (by rfl)
      go_wp2
      (refine hQQ _ _ ?hCn ?_; (case hCn => exact H1.alloc H1.size _); clear hQQ QQ)
      (repeat (first | (apply wpW_light; (case h => (intro wa; (first | (go_big_quiet_skip; exact wpQuiet_nil rfl) | (go_big_quiet_want; go_big_quiet_op; go_big_quiet_on; exact wpQuiet_nil rfl))))) | (apply wpW_here; (case h => (first | (go_big_quiet_skip; exact wpQuiet_nil rfl) | (go_big_quiet_want; go_big_quiet_op; go_big_quiet_on; exact wpQuiet_nil rfl)))) | (apply wpW_held; (case hC => assumption); (case h => (intro wa hCa; simp only [] at hCa; (first | (go_big_quiet_skip; exact wpQuiet_nil rfl) | (go_big_quiet_want; go_big_quiet_op; go_big_quiet_on; exact wpQuiet_nil rfl)))))))
      refine wpW_name ?_
      intro q2 hq
      have H2 : Below w1.heap.size w1 q2 := by rw [hq]; exact H1.alloc H1.size _
      have hs : Below q1.heap.size q1 q2 := by rw [hq]; exact below1 q1 _
      have e2 := own_below e1 hs (Nat.le_refl _)
      have nx0 : eb ≠ q1.heap.size := by omega
      have hbb := Nat.lt_of_lt_of_le hbb hs.size
      have x2 : ResAt q2 q1.heap.size 0 0 0 0 0 (.slice none 0 0) 0 := by rw [hq]; exact resat1 q1 0 0 0 0 0 _ 0
      have gx : w1.heap.size ≤ q1.heap.size := H1.size
      obtain ⟨x5, hx5⟩ : ∃ x, x = q1.heap.size := ⟨_, rfl⟩
      rw [← hx5] at x2 gx ⊢
      have nx : eb ≠ x5 := by rw [hx5]; exact nx0
      clear hq hs hx5
      refine wpW_act (fun QQ hQQ => ?_) (by rfl)
      go_wp2_with (at_builtin; refine law_appendRowK elU8 _ rfl _ _ rfl eb _ 0 [] rfl e2 ab nb cb lb rfl (R1_b.out.below H2 (Nat.le_refl _)) (by omega) (by omega) ?_; intro v5 q3 o5 hb5; simp only [Nat.zero_add, List.nil_append] at o5; obtain ⟨a5, c5, rfl⟩ := own_form o5)
      have H3 : Below w1.heap.size w1 q3 := H2.grown hb5 H2.size (fun k hk => by have e : eb = k := Option.some.inj hk; omega)
      (refine hQQ _ _ ?hCn ?_; (case hCn => exact H3); clear hQQ QQ)
      (repeat (first | (apply wpW_light; (case h => (intro wa; (first | (go_big_quiet_skip; exact wpQuiet_nil rfl) | (go_big_quiet_want; go_big_quiet_op; go_big_quiet_on; exact wpQuiet_nil rfl))))) | (apply wpW_here; (case h => (first | (go_big_quiet_skip; exact wpQuiet_nil rfl) | (go_big_quiet_want; go_big_quiet_op; go_big_quiet_on; exact wpQuiet_nil rfl)))) | (apply wpW_held; (case hC => assumption); (case h => (intro wa hCa; simp only [] at hCa; (first | (go_big_quiet_skip; exact wpQuiet_nil rfl) | (go_big_quiet_want; go_big_quiet_op; go_big_quiet_on; exact wpQuiet_nil rfl)))))))
      have p3 := Row.of_own o5 wfb.out
      have x3 : ResAt q3 x5 0 0 0 0 0 (.slice none 0 0) 0 := by
        have hl := x2.lt
        have hx := x2
        unfold ResAt at hx ⊢
        rw [hb5.block x5 hl (fun e => nx (Option.some.inj (show some x5 = some eb from e)).symm), hx]
      clear hb5 o5
      obtain ⟨y0, y1, y2, y3, y4, y5, y6, y7, y8, y9, y10, y11, y12, y13⟩ := x3.cells
      refine wpW_last (fun QQ hQQ => ?_) (by rfl)
      go_wp2
      (refine hQQ.out _ _ ?_; clear hQQ QQ)
      (repeat (first | (apply wpW_light; (case h => (intro wa; (first | (go_big_quiet_skip; exact wpQuiet_nil rfl) | (go_big_quiet_want; go_big_quiet_op; go_big_quiet_on; exact wpQuiet_nil rfl))))) | (apply wpW_here; (case h => (first | (go_big_quiet_skip; exact wpQuiet_nil rfl) | (go_big_quiet_want; go_big_quiet_op; go_big_quiet_on; exact wpQuiet_nil rfl)))) | (apply wpW_held; (case hC => assumption); (case h => (intro wa hCa; simp only [] at hCa; (first | (go_big_quiet_skip; exact wpQuiet_nil rfl) | (go_big_quiet_want; go_big_quiet_op; go_big_quiet_on; exact wpQuiet_nil rfl)))))))
      refine wpW_nil ?_
      go_wp2_with (fail)
      go_meet
      exact ⟨x5, a5, c5, rfl, rfl, gx, ((((((((hS1.out.below H3 hsl).other (by simp; omega) _).other (by simp; omega) _).other (by simp; omega) _).other (by simp; omega) _).other (by simp; omega) _).other (by simp; omega) _).other (by simp; omega) _), x3.set n a b c d (.slice aa len cap) N, rows7 (.inl rfl) p3 x3, rows7 (.inl rfl) (R1_r.out.below H3 (Nat.le_refl _)) x3, rows7 (.inl rfl) (R1_b.out.below H3 (Nat.le_refl _)) x3, below7 (hW1.out.trans (H3.mono hW1.out.size)) (by omega)⟩
    · simp only [pick, nth]
      refine wpW_name ?_
      intro q0 hq0
      have H0 : Below w1.heap.size w1 q0 := by rw [hq0]; exact (Below.refl _ _).drew
      clear hq0
      (repeat (first | (apply wpW_light; (case h => (intro wa; (first | (go_big_quiet_skip; exact wpQuiet_nil rfl) | (go_big_quiet_want; go_big_quiet_op; go_big_quiet_on; exact wpQuiet_nil rfl))))) | (apply wpW_here; (case h => (first | (go_big_quiet_skip; exact wpQuiet_nil rfl) | (go_big_quiet_want; go_big_quiet_op; go_big_quiet_on; exact wpQuiet_nil rfl)))) | (apply wpW_held; (case hC => assumption); (case h => (intro wa hCa; (obtain ⟨u0, u1, u2, u3, u4, u5, u6, u7, u8, u9, u10, u11, u12, u13⟩ := (hS1.out.below hCa hsl).cells; clear hCa); (first | (go_big_quiet_skip; exact wpQuiet_nil rfl) | (go_big_quiet_want; go_big_quiet_op; go_big_quiet_on; exact wpQuiet_nil rfl)))))))
      refine wpW_act (fun QQ hQQ => ?_) (by rfl)
      go_wp2
      (refine hQQ _ _ ?hCn ?_; (case hCn => exact H0.alloc H0.size _); clear hQQ QQ)
      (repeat (first | (apply wpW_light; (case h => (intro wa; (first | (go_big_quiet_skip; exact wpQuiet_nil rfl) | (go_big_quiet_want; go_big_quiet_op; go_big_quiet_on; exact wpQuiet_nil rfl))))) | (apply wpW_here; (case h => (first | (go_big_quiet_skip; exact wpQuiet_nil rfl) | (go_big_quiet_want; go_big_quiet_op; go_big_quiet_on; exact wpQuiet_nil rfl)))) | (apply wpW_held; (case hC => assumption); (case h => (intro wa hCa; simp only [] at hCa; (first | (go_big_quiet_skip; exact wpQuiet_nil rfl) | (go_big_quiet_want; go_big_quiet_op; go_big_quiet_on; exact wpQuiet_nil rfl)))))))
      refine wpW_name ?_
      intro q1 hq
      have H1 : Below w1.heap.size w1 q1 := by rw [hq]; exact H0.alloc H0.size _
      have hs : Below q0.heap.size q0 q1 := by rw [hq]; exact below1 q0 _
      have x1 : ResAt q1 q0.heap.size 0 0 0 0 0 (.slice none 0 0) 0 := by rw [hq]; exact resat1 q0 0 0 0 0 0 _ 0
      have gx : w1.heap.size ≤ q0.heap.size := H0.size
      obtain ⟨x5, hx5⟩ : ∃ x, x = q0.heap.size := ⟨_, rfl⟩
      rw [← hx5] at x1 gx ⊢
      clear hq hs hx5
      refine wpW_act (fun QQ hQQ => ?_) (by rfl)
      go_wp2
      (refine hQQ _ _ ?hCn ?_; (case hCn => exact H1.alloc H1.size _); clear hQQ QQ)
      (repeat (first | (apply wpW_light; (case h => (intro wa; (first | (go_big_quiet_skip; exact wpQuiet_nil rfl) | (go_big_quiet_want; go_big_quiet_op; go_big_quiet_on; exact wpQuiet_nil rfl))))) | (apply wpW_here; (case h => (first | (go_big_quiet_skip; exact wpQuiet_nil rfl) | (go_big_quiet_want; go_big_quiet_op; go_big_quiet_on; exact wpQuiet_nil rfl)))) | (apply wpW_held; (case hC => assumption); (case h => (intro wa hCa; simp only [] at hCa; (first | (go_big_quiet_skip; exact wpQuiet_nil rfl) | (go_big_quiet_want; go_big_quiet_op; go_big_quiet_on; exact wpQuiet_nil rfl)))))))
      refine wpW_name ?_
      intro q2 hq
      have H2 : Below w1.heap.size w1 q2 := by rw [hq]; exact H1.alloc H1.size _
      have hs : Below q1.heap.size q1 q2 := by rw [hq]; exact below1 q1 _
      have x2 := x1.below hs x1.lt
      have e2 : q2.ownsRow q1.heap.size 5 1 (.slice (some ⟨q1.heap.size, 0, none⟩) 0 0) 0 (nums .u8 []) := by rw [hq]; exact own_empty q1 5 .u8
      have hbb : q1.heap.size < q2.heap.size := by rw [hq]; simp
      have hb1 : w1.heap.size ≤ q1.heap.size := H1.size
      obtain ⟨eb, heb⟩ : ∃ e, e = q1.heap.size := ⟨_, rfl⟩
      rw [← heb] at e2 hbb hb1 ⊢
      have nx : eb ≠ x5 := by have := x1.lt; omega
      clear hq hs heb
      refine wpW_act (fun QQ hQQ => ?_) (by rfl)
      go_wp2_with (at_builtin; refine law_appendRowK elU8 _ rfl _ _ rfl eb _ 0 [] rfl e2 ab nb cb lb rfl (R1_b.out.below H2 (Nat.le_refl _)) (by omega) (by omega) ?_; intro v5 q3 o5 hb5; simp only [Nat.zero_add, List.nil_append] at o5; obtain ⟨a5, c5, rfl⟩ := own_form o5)
      have H3 : Below w1.heap.size w1 q3 := H2.grown hb5 H2.size (fun k hk => by have e : eb = k := Option.some.inj hk; omega)
      (refine hQQ _ _ ?hCn ?_; (case hCn => exact H3); clear hQQ QQ)
      (repeat (first | (apply wpW_light; (case h => (intro wa; (first | (go_big_quiet_skip; exact wpQuiet_nil rfl) | (go_big_quiet_want; go_big_quiet_op; go_big_quiet_on; exact wpQuiet_nil rfl))))) | (apply wpW_here; (case h => (first | (go_big_quiet_skip; exact wpQuiet_nil rfl) | (go_big_quiet_want; go_big_quiet_op; go_big_quiet_on; exact wpQuiet_nil rfl)))) | (apply wpW_held; (case hC => assumption); (case h => (intro wa hCa; simp only [] at hCa; (first | (go_big_quiet_skip; exact wpQuiet_nil rfl) | (go_big_quiet_want; go_big_quiet_op; go_big_quiet_on; exact wpQuiet_nil rfl)))))))
      have p3 := Row.of_own o5 wfb.out
      have x3 : ResAt q3 x5 0 0 0 0 0 (.slice none 0 0) 0 := by
        have hl := x2.lt
        have hx := x2
        unfold ResAt at hx ⊢
        rw [hb5.block x5 hl (fun e => nx (Option.some.inj (show some x5 = some eb from e)).symm), hx]
      clear hb5 o5
      obtain ⟨y0, y1, y2, y3, y4, y5, y6, y7, y8, y9, y10, y11, y12, y13⟩ := x3.cells
      refine wpW_last (fun QQ hQQ => ?_) (by rfl)
      go_wp2
      (refine hQQ.out _ _ ?_; clear hQQ QQ)
      (repeat (first | (apply wpW_light; (case h => (intro wa; (first | (go_big_quiet_skip; exact wpQuiet_nil rfl) | (go_big_quiet_want; go_big_quiet_op; go_big_quiet_on; exact wpQuiet_nil rfl))))) | (apply wpW_here; (case h => (first | (go_big_quiet_skip; exact wpQuiet_nil rfl) | (go_big_quiet_want; go_big_quiet_op; go_big_quiet_on; exact wpQuiet_nil rfl)))) | (apply wpW_held; (case hC => assumption); (case h => (intro wa hCa; simp only [] at hCa; (first | (go_big_quiet_skip; exact wpQuiet_nil rfl) | (go_big_quiet_want; go_big_quiet_op; go_big_quiet_on; exact wpQuiet_nil rfl)))))))
      refine wpW_nil ?_
      go_wp2_with (fail)
      go_meet
      exact ⟨x5, a5, c5, rfl, rfl, gx, ((((((((hS1.out.below H3 hsl).other (by simp; omega) _).other (by simp; omega) _).other (by simp; omega) _).other (by simp; omega) _).other (by simp; omega) _).other (by simp; omega) _).other (by simp; omega) _), x3.set n a b c d (.slice aa len cap) N, rows7 (.inl rfl) p3 x3, rows7 (.inl rfl) (R1_r.out.below H3 (Nat.le_refl _)) x3, rows7 (.inl rfl) (R1_b.out.below H3 (Nat.le_refl _)) x3, below7 (hW1.out.trans (H3.mono hW1.out.size)) (by omega)⟩
  case rest =>
  obtain ⟨x5, ap, cp, rfl, rfl, gx, S2, X2, rp, rr, rb, B2⟩ := hcut
  obtain ⟨w20, hw⟩ : ∃ w, w = wc := ⟨_, rfl⟩
  subst hw
  have hn5 : W.heap.size ≠ x5 := by omega
  have lg : W.heap.size ≤ x5 := by omega
  have hW20 := Go.Lib.hid B2
  have B20_s := Go.Lib.hid S2
  have B20_o := Go.Lib.hid X2
  have R20_r := Go.Lib.hid rr
  have R20_b := Go.Lib.hid rb
  have R20_p := Go.Lib.hid rp
  obtain ⟨y0, y1, y2, y3, y4, y5, y6, y7, y8, y9, y10, y11, y12, y13⟩ := S2.cells
  clear S2 X2 rr rb rp B2 hS1 hsl
  go_wp2_with (first
    | (go_at_call 17; ((with_reducible refine (htw.out _ ?h1).mono ?_)); (case h1 => exact R20_r.out); rintro e w21 ⟨b21, cp21, rfl, hr21, hb21⟩; have hWE21 := Go.Lib.hid hW20.out; have hW21 := Go.Lib.hid (hWE21.out.trans (hb21.mono hWE21.out.size)); have R21_r := Go.Lib.hid (R20_r.out.below hb21 (Nat.le_refl _)); have R21_b := Go.Lib.hid (R20_b.out.below hb21 (Nat.le_refl _)); have R21_p := Go.Lib.hid (R20_p.out.below hb21 (Nat.le_refl _)); have R21_t := Go.Lib.hid hr21; clear hr21; have BE21_s := Go.Lib.hid B20_s.out; have B21_s := Go.Lib.hid (BE21_s.out.below hb21 BE21_s.out.lt); obtain ⟨k21s0, k21s1, k21s2, k21s3, k21s4, k21s5, k21s6, k21s7, k21s8, k21s9, k21s10, k21s11, k21s12, k21s13⟩ := B21_s.out.cells; have BE21_o := Go.Lib.hid B20_o.out; have B21_o := Go.Lib.hid (BE21_o.out.below hb21 BE21_o.out.lt); obtain ⟨k21o0, k21o1, k21o2, k21o3, k21o4, k21o5, k21o6, k21o7, k21o8, k21o9, k21o10, k21o11, k21o12, k21o13⟩ := B21_o.out.cells; clear hb21))
  obtain ⟨w30, hw30⟩ : ∃ w, w = (w21.setCell ⟨x5, 5, none⟩ (.slice b21 len cp21)).setCell ⟨x5, 6, none⟩ (.int .i64 N) := ⟨_, rfl⟩
  have hxo : ∃ n a b c d al m e N, ResAt w21 x5 n a b c d (.slice al m e) N := ⟨_, _, _, _, _, _, _, _, _, B21_o.out⟩
  have hxp : ∃ n a b c d al m e N', ResAt (w21.setCell ⟨x5, 5, none⟩ (.slice b21 len cp21)) x5 n a b c d (.slice al m e) N' := ⟨_, _, _, _, _, _, _, _, _, B21_o.out.set5 _⟩
  have hW30 := Go.Lib.hid ((hW21.out.setCell (p := ⟨x5, 5, none⟩) lg (.slice b21 len cp21)).setCell (p := ⟨x5, 6, none⟩) lg (.int .i64 N))
  have B30_s := Go.Lib.hid ((B21_s.out.other (p := ⟨x5, 5, none⟩) hn5 (.slice b21 len cp21)).other (p := ⟨x5, 6, none⟩) hn5 (.int .i64 N))
  have B30_o := Go.Lib.hid (B21_o.out.setB (.slice b21 len cp21) N)
  have R30_r := Go.Lib.hid (Row.boxR (.inl rfl) (Row.boxR (.inl rfl) R21_r.out hxo 5 _) hxp 6 (.int .i64 N))
  have R30_b := Go.Lib.hid (Row.boxR (.inl rfl) (Row.boxR (.inl rfl) R21_b.out hxo 5 _) hxp 6 (.int .i64 N))
  have R30_p := Go.Lib.hid (Row.boxR (.inl rfl) (Row.boxR (.inl rfl) R21_p.out hxo 5 _) hxp 6 (.int .i64 N))
  have R30_t := Go.Lib.hid (Row.boxR (.inl rfl) (Row.boxR (.inl rfl) R21_t.out hxo 5 _) hxp 6 (.int .i64 N))
  rw [← hw30] at hW30 B30_s B30_o R30_r R30_b R30_p R30_t
  try rw [← hw30]
  obtain ⟨v0, v1, v2, v3, v4, v5, v6, v7, v8, v9, v10, v11, v12, v13⟩ := B30_o.out.cells
  clear hw30 hxo hxp k21s0 k21s1 k21s2 k21s3 k21s4 k21s5 k21s6 k21s7 k21s8 k21s9 k21s10 k21s11 k21s12 k21s13 k21o0 k21o1 k21o2 k21o3 k21o4 k21o5 k21o6 k21o7 k21o8 k21o9 k21o10 k21o11 k21o12 k21o13 hW20 B20_s B20_o R20_r R20_b R20_p BE21_s BE21_o B21_s B21_o R21_r R21_b R21_p R21_t hWE21 hW21
  go_wp2_with (first
    | (go_at_call 10; ((with_reducible refine (f1.out _ _ _ _ _ _ ?h1 ?h2).mono ?_)); (case h1 => exact R30_t.out); (case h2 => exact R30_p.out); rintro e w31 ⟨b31, cp31, a31, n31, ca31, rfl, hr31, hm31, hb31⟩; have hWE31 := Go.Lib.hid hW30.out; have hW31 := Go.Lib.hid (hWE31.out.trans (hb31.mono hWE31.out.size)); have R31_r := Go.Lib.hid (R30_r.out.below hb31 (Nat.le_refl _)); have R31_b := Go.Lib.hid (R30_b.out.below hb31 (Nat.le_refl _)); have R31_p := Go.Lib.hid (R30_p.out.below hb31 (Nat.le_refl _)); have R31_t := Go.Lib.hid (R30_t.out.below hb31 (Nat.le_refl _)); have R31_x := Go.Lib.hid hr31; clear hr31; have BE31_s := Go.Lib.hid B30_s.out; have B31_s := Go.Lib.hid (BE31_s.out.below hb31 BE31_s.out.lt); obtain ⟨k31s0, k31s1, k31s2, k31s3, k31s4, k31s5, k31s6, k31s7, k31s8, k31s9, k31s10, k31s11, k31s12, k31s13⟩ := B31_s.out.cells; have BE31_o := Go.Lib.hid B30_o.out; have B31_o := Go.Lib.hid (BE31_o.out.below hb31 BE31_o.out.lt); obtain ⟨k31o0, k31o1, k31o2, k31o3, k31o4, k31o5, k31o6, k31o7, k31o8, k31o9, k31o10, k31o11, k31o12, k31o13⟩ := B31_o.out.cells; have l31s := B31_s.out.lt; have n31s : W.heap.size ≠ w31.heap.size := (by omega); have l31o := B31_o.out.lt; have n31o : x5 ≠ w31.heap.size := (by omega); have R31_lx := Go.Lib.hid hm31; clear hm31; clear hb31)
    | (go_at_call 18; ((with_reducible refine (f2.out _ _ _ _ _ _ ?h1 ?h2).mono ?_)); (case h1 => exact (R31_r.out.below (below1 w31 (.cells #[.int .i64 F.n, .int .i64 F.d.k0, .int .i64 F.d.k1, .int .u64 F.d.s0, .int .u64 F.d.s1, (.slice b31 RL cp31), .int .i64 RN] 29)) (Nat.le_refl _))); (case h2 => exact (R31_b.out.below (below1 w31 (.cells #[.int .i64 F.n, .int .i64 F.d.k0, .int .i64 F.d.k1, .int .u64 F.d.s0, .int .u64 F.d.s1, (.slice b31 RL cp31), .int .i64 RN] 29)) (Nat.le_refl _))); rintro e w32 ⟨b32, cp32, a32, n32, ca32, rfl, hr32, hm32, hb32⟩; have hWE32 := Go.Lib.hid (hW31.out.alloc hW31.out.size (.cells #[.int .i64 F.n, .int .i64 F.d.k0, .int .i64 F.d.k1, .int .u64 F.d.s0, .int .u64 F.d.s1, (.slice b31 RL cp31), .int .i64 RN] 29)); have hW32 := Go.Lib.hid (hWE32.out.trans (hb32.mono hWE32.out.size)); have R32_r := Go.Lib.hid ((R31_r.out.below (below1 w31 (.cells #[.int .i64 F.n, .int .i64 F.d.k0, .int .i64 F.d.k1, .int .u64 F.d.s0, .int .u64 F.d.s1, (.slice b31 RL cp31), .int .i64 RN] 29)) (Nat.le_refl _)).below hb32 (Nat.le_refl _)); have R32_b := Go.Lib.hid ((R31_b.out.below (below1 w31 (.cells #[.int .i64 F.n, .int .i64 F.d.k0, .int .i64 F.d.k1, .int .u64 F.d.s0, .int .u64 F.d.s1, (.slice b31 RL cp31), .int .i64 RN] 29)) (Nat.le_refl _)).below hb32 (Nat.le_refl _)); have R32_p := Go.Lib.hid ((R31_p.out.below (below1 w31 (.cells #[.int .i64 F.n, .int .i64 F.d.k0, .int .i64 F.d.k1, .int .u64 F.d.s0, .int .u64 F.d.s1, (.slice b31 RL cp31), .int .i64 RN] 29)) (Nat.le_refl _)).below hb32 (Nat.le_refl _)); have R32_t := Go.Lib.hid ((R31_t.out.below (below1 w31 (.cells #[.int .i64 F.n, .int .i64 F.d.k0, .int .i64 F.d.k1, .int .u64 F.d.s0, .int .u64 F.d.s1, (.slice b31 RL cp31), .int .i64 RN] 29)) (Nat.le_refl _)).below hb32 (Nat.le_refl _)); have R32_x := Go.Lib.hid ((R31_x.out.below (below1 w31 (.cells #[.int .i64 F.n, .int .i64 F.d.k0, .int .i64 F.d.k1, .int .u64 F.d.s0, .int .u64 F.d.s1, (.slice b31 RL cp31), .int .i64 RN] 29)) (Nat.le_refl _)).below hb32 (Nat.le_refl _)); have R32_lx := Go.Lib.hid ((R31_lx.out.below (below1 w31 (.cells #[.int .i64 F.n, .int .i64 F.d.k0, .int .i64 F.d.k1, .int .u64 F.d.s0, .int .u64 F.d.s1, (.slice b31 RL cp31), .int .i64 RN] 29)) (Nat.le_refl _)).below hb32 (Nat.le_refl _)); have R32_y := Go.Lib.hid hr32; clear hr32; have BE32_s := Go.Lib.hid (B31_s.out.alloc (.cells #[.int .i64 F.n, .int .i64 F.d.k0, .int .i64 F.d.k1, .int .u64 F.d.s0, .int .u64 F.d.s1, (.slice b31 RL cp31), .int .i64 RN] 29)); have B32_s := Go.Lib.hid (BE32_s.out.below hb32 BE32_s.out.lt); obtain ⟨k32s0, k32s1, k32s2, k32s3, k32s4, k32s5, k32s6, k32s7, k32s8, k32s9, k32s10, k32s11, k32s12, k32s13⟩ := B32_s.out.cells; have BE32_o := Go.Lib.hid (B31_o.out.alloc (.cells #[.int .i64 F.n, .int .i64 F.d.k0, .int .i64 F.d.k1, .int .u64 F.d.s0, .int .u64 F.d.s1, (.slice b31 RL cp31), .int .i64 RN] 29)); have B32_o := Go.Lib.hid (BE32_o.out.below hb32 BE32_o.out.lt); obtain ⟨k32o0, k32o1, k32o2, k32o3, k32o4, k32o5, k32o6, k32o7, k32o8, k32o9, k32o10, k32o11, k32o12, k32o13⟩ := B32_o.out.cells; have BE32_x := Go.Lib.hid (resat1 w31 F.n F.d.k0 F.d.k1 F.d.s0 F.d.s1 (.slice b31 RL cp31) RN); have B32_x := Go.Lib.hid (BE32_x.out.below hb32 BE32_x.out.lt); obtain ⟨k32x0, k32x1, k32x2, k32x3, k32x4, k32x5, k32x6, k32x7, k32x8, k32x9, k32x10, k32x11, k32x12, k32x13⟩ := B32_x.out.cells; have l32s := B32_s.out.lt; have n32s : W.heap.size ≠ w32.heap.size := (by omega); have l32o := B32_o.out.lt; have n32o : x5 ≠ w32.heap.size := (by omega); have l32x := B32_x.out.lt; have n32x : w31.heap.size ≠ w32.heap.size := (by omega); have R32_ly := Go.Lib.hid hm32; clear hm32; clear hb32))
  have hWF := Go.Lib.hid (hW32.out.alloc hW32.out.size (.cells #[.int .i64 F.n, .int .i64 F.d.k0, .int .i64 F.d.k1, .int .u64 F.d.s0, .int .u64 F.d.s1, (.slice b32 RL cp32), .int .i64 RN] 29))
  have RF_r := Go.Lib.hid (R32_r.out.below (below1 w32 (.cells #[.int .i64 F.n, .int .i64 F.d.k0, .int .i64 F.d.k1, .int .u64 F.d.s0, .int .u64 F.d.s1, (.slice b32 RL cp32), .int .i64 RN] 29)) (Nat.le_refl _))
  have RF_b := Go.Lib.hid (R32_b.out.below (below1 w32 (.cells #[.int .i64 F.n, .int .i64 F.d.k0, .int .i64 F.d.k1, .int .u64 F.d.s0, .int .u64 F.d.s1, (.slice b32 RL cp32), .int .i64 RN] 29)) (Nat.le_refl _))
  have RF_p := Go.Lib.hid (R32_p.out.below (below1 w32 (.cells #[.int .i64 F.n, .int .i64 F.d.k0, .int .i64 F.d.k1, .int .u64 F.d.s0, .int .u64 F.d.s1, (.slice b32 RL cp32), .int .i64 RN] 29)) (Nat.le_refl _))
  have RF_t := Go.Lib.hid (R32_t.out.below (below1 w32 (.cells #[.int .i64 F.n, .int .i64 F.d.k0, .int .i64 F.d.k1, .int .u64 F.d.s0, .int .u64 F.d.s1, (.slice b32 RL cp32), .int .i64 RN] 29)) (Nat.le_refl _))
  have RF_x := Go.Lib.hid (R32_x.out.below (below1 w32 (.cells #[.int .i64 F.n, .int .i64 F.d.k0, .int .i64 F.d.k1, .int .u64 F.d.s0, .int .u64 F.d.s1, (.slice b32 RL cp32), .int .i64 RN] 29)) (Nat.le_refl _))
  have RF_lx := Go.Lib.hid (R32_lx.out.below (below1 w32 (.cells #[.int .i64 F.n, .int .i64 F.d.k0, .int .i64 F.d.k1, .int .u64 F.d.s0, .int .u64 F.d.s1, (.slice b32 RL cp32), .int .i64 RN] 29)) (Nat.le_refl _))
  have RF_y := Go.Lib.hid (R32_y.out.below (below1 w32 (.cells #[.int .i64 F.n, .int .i64 F.d.k0, .int .i64 F.d.k1, .int .u64 F.d.s0, .int .u64 F.d.s1, (.slice b32 RL cp32), .int .i64 RN] 29)) (Nat.le_refl _))
  have RF_ly := Go.Lib.hid (R32_ly.out.below (below1 w32 (.cells #[.int .i64 F.n, .int .i64 F.d.k0, .int .i64 F.d.k1, .int .u64 F.d.s0, .int .u64 F.d.s1, (.slice b32 RL cp32), .int .i64 RN] 29)) (Nat.le_refl _))
  have BF_s := Go.Lib.hid (B32_s.out.alloc (.cells #[.int .i64 F.n, .int .i64 F.d.k0, .int .i64 F.d.k1, .int .u64 F.d.s0, .int .u64 F.d.s1, (.slice b32 RL cp32), .int .i64 RN] 29))
  have BF_o := Go.Lib.hid (B32_o.out.alloc (.cells #[.int .i64 F.n, .int .i64 F.d.k0, .int .i64 F.d.k1, .int .u64 F.d.s0, .int .u64 F.d.s1, (.slice b32 RL cp32), .int .i64 RN] 29))
  have BF_x := Go.Lib.hid (B32_x.out.alloc (.cells #[.int .i64 F.n, .int .i64 F.d.k0, .int .i64 F.d.k1, .int .u64 F.d.s0, .int .u64 F.d.s1, (.slice b32 RL cp32), .int .i64 RN] 29))
  have BF_y := Go.Lib.hid (resat1 w32 F.n F.d.k0 F.d.k1 F.d.s0 F.d.s1 (.slice b32 RL cp32) RN)
  obtain ⟨wf, hwf⟩ : ∃ wf, wf = (w32.alloc (.cells #[.int .i64 F.n, .int .i64 F.d.k0, .int .i64 F.d.k1, .int .u64 F.d.s0, .int .u64 F.d.s1, (.slice b32 RL cp32), .int .i64 RN] 29)) := ⟨_, rfl⟩
  rw [← hwf] at hWF RF_r RF_b RF_p RF_t RF_x RF_lx RF_y RF_ly BF_s BF_o BF_x BF_y
  try rw [← hwf]
  obtain ⟨xx, hxx⟩ : ∃ x, x = w31.heap.size := ⟨_, rfl⟩
  obtain ⟨xy, hxy⟩ : ∃ x, x = w32.heap.size := ⟨_, rfl⟩
  rw [← hxx] at BF_x
  rw [← hxy] at BF_y
  try rw [← hxx]
  try rw [← hxy]
  clear hwf hxx hxy
  have hW50 := Go.Lib.hid hWF.out.drew
  have R50_r := Go.Lib.hid (RF_r.out.below (Below.refl _ _).drew (Nat.le_refl _))
  have R50_b := Go.Lib.hid (RF_b.out.below (Below.refl _ _).drew (Nat.le_refl _))
  have R50_p := Go.Lib.hid (RF_p.out.below (Below.refl _ _).drew (Nat.le_refl _))
  have R50_t := Go.Lib.hid (RF_t.out.below (Below.refl _ _).drew (Nat.le_refl _))
  have R50_x := Go.Lib.hid (RF_x.out.below (Below.refl _ _).drew (Nat.le_refl _))
  have R50_lx := Go.Lib.hid (RF_lx.out.below (Below.refl _ _).drew (Nat.le_refl _))
  have R50_y := Go.Lib.hid (RF_y.out.below (Below.refl _ _).drew (Nat.le_refl _))
  have R50_ly := Go.Lib.hid (RF_ly.out.below (Below.refl _ _).drew (Nat.le_refl _))
  have B50_s := Go.Lib.hid BF_s.out.drew
  have B50_o := Go.Lib.hid BF_o.out.drew
  have B50_x := Go.Lib.hid BF_x.out.drew
  have B50_y := Go.Lib.hid BF_y.out.drew
  clear hWF RF_r RF_b RF_p RF_t RF_x RF_lx RF_y RF_ly BF_s BF_o BF_x BF_y
  go_wp2
  try simp only [List.append_eq, List.cons_append, List.nil_append]
  refine wp_region_ord (fun w' => ResAt w' W.heap.size n a b c d (.slice aa len cap) N) [(0, 1), (2, 2), (1, 3), (3, 3), (4, 0), (5, 0), (6, 1), (7, 1), (8, 3), (9, 0), (10, 0), (11, 0), (12, 0), (13, 3), (14, 0), (15, 0), (16, 0), (17, 0), (18, 0), (19, 0), (20, 0), (21, 1), (22, 1), (23, 3), (24, 0), (25, 0), (26, 0), (27, 1), (28, 0), (29, 1), (30, 0), (31, 0), (32, 0)] (by kernel_rfl) (by kernel_rfl) ?hC0 ?_
  case hC0 => exact B50_s.out
  simp only [pick, nth]
  obtain ⟨m0, m1, m2, m3, m4, m5, m6, m7, m8, m9, m10, m11, m12, m13⟩ := B50_o.out.cells
  (repeat (first | (apply wpW_light; (case h => (intro wa; (first | (go_big_quiet_skip; exact wpQuiet_nil rfl) | (go_big_quiet_want; go_big_quiet_op; go_big_quiet_on; exact wpQuiet_nil rfl))))) | (apply wpW_here; (case h => (first | (go_big_quiet_skip; exact wpQuiet_nil rfl) | (go_big_quiet_want; go_big_quiet_op; go_big_quiet_on; exact wpQuiet_nil rfl)))) | (apply wpW_held; (case hC => assumption); (case h => (intro wa hCa; obtain ⟨u0, u1, u2, u3, u4, u5, u6, u7, u8, u9, u10, u11, u12, u13⟩ := hCa.cells; (first | (go_big_quiet_skip; exact wpQuiet_nil rfl) | (go_big_quiet_want; go_big_quiet_op; go_big_quiet_on; exact wpQuiet_nil rfl)))))))
  refine wpW_act (fun QQ hQQ => ?_) (by rfl)
  go_wp2_with (first
    | (go_at_call 11; ((with_reducible refine (c1.out _ _ _ _ ?h1).mono ?_)); (case h1 => exact R50_t.out); rintro e w51 ⟨rfl, hb51⟩; have hWE51 := Go.Lib.hid hW50.out; have hW51 := Go.Lib.hid (hWE51.out.trans (hb51.mono hWE51.out.size)); have R51_r := Go.Lib.hid (R50_r.out.below hb51 (Nat.le_refl _)); have R51_b := Go.Lib.hid (R50_b.out.below hb51 (Nat.le_refl _)); have R51_p := Go.Lib.hid (R50_p.out.below hb51 (Nat.le_refl _)); have R51_t := Go.Lib.hid (R50_t.out.below hb51 (Nat.le_refl _)); have R51_x := Go.Lib.hid (R50_x.out.below hb51 (Nat.le_refl _)); have R51_lx := Go.Lib.hid (R50_lx.out.below hb51 (Nat.le_refl _)); have R51_y := Go.Lib.hid (R50_y.out.below hb51 (Nat.le_refl _)); have R51_ly := Go.Lib.hid (R50_ly.out.below hb51 (Nat.le_refl _)); have BE51_s := Go.Lib.hid B50_s.out; have B51_s := Go.Lib.hid (BE51_s.out.below hb51 BE51_s.out.lt); obtain ⟨k51s0, k51s1, k51s2, k51s3, k51s4, k51s5, k51s6, k51s7, k51s8, k51s9, k51s10, k51s11, k51s12, k51s13⟩ := B51_s.out.cells; have BE51_o := Go.Lib.hid B50_o.out; have B51_o := Go.Lib.hid (BE51_o.out.below hb51 BE51_o.out.lt); obtain ⟨k51o0, k51o1, k51o2, k51o3, k51o4, k51o5, k51o6, k51o7, k51o8, k51o9, k51o10, k51o11, k51o12, k51o13⟩ := B51_o.out.cells; have BE51_x := Go.Lib.hid B50_x.out; have B51_x := Go.Lib.hid (BE51_x.out.below hb51 BE51_x.out.lt); obtain ⟨k51x0, k51x1, k51x2, k51x3, k51x4, k51x5, k51x6, k51x7, k51x8, k51x9, k51x10, k51x11, k51x12, k51x13⟩ := B51_x.out.cells; have BE51_y := Go.Lib.hid B50_y.out; have B51_y := Go.Lib.hid (BE51_y.out.below hb51 BE51_y.out.lt); obtain ⟨k51y0, k51y1, k51y2, k51y3, k51y4, k51y5, k51y6, k51y7, k51y8, k51y9, k51y10, k51y11, k51y12, k51y13⟩ := B51_y.out.cells; clear hb51))
  (refine hQQ _ _ ?hCn ?_; (case hCn => exact B51_s.out); clear hQQ QQ)
  (repeat (first | (apply wpW_light; (case h => (intro wa; (first | (go_big_quiet_skip; exact wpQuiet_nil rfl) | (go_big_quiet_want; go_big_quiet_op; go_big_quiet_on; exact wpQuiet_nil rfl))))) | (apply wpW_here; (case h => (first | (go_big_quiet_skip; exact wpQuiet_nil rfl) | (go_big_quiet_want; go_big_quiet_op; go_big_quiet_on; exact wpQuiet_nil rfl)))) | (apply wpW_held; (case hC => assumption); (case h => (intro wa hCa; simp only [] at hCa; (first | (go_big_quiet_skip; exact wpQuiet_nil rfl) | (go_big_quiet_want; go_big_quiet_op; go_big_quiet_on; exact wpQuiet_nil rfl)))))))
  refine wpW_act (fun QQ hQQ => ?_) (by rfl)
  go_wp2_with (first
    | (go_at_call 19; ((with_reducible refine (c2.out _ ?h1).mono ?_)); (case h1 => exact R51_r.out); rintro e w52 ⟨rfl, hb52⟩; have hWE52 := Go.Lib.hid hW51.out; have hW52 := Go.Lib.hid (hWE52.out.trans (hb52.mono hWE52.out.size)); have R52_r := Go.Lib.hid (R51_r.out.below hb52 (Nat.le_refl _)); have R52_b := Go.Lib.hid (R51_b.out.below hb52 (Nat.le_refl _)); have R52_p := Go.Lib.hid (R51_p.out.below hb52 (Nat.le_refl _)); have R52_t := Go.Lib.hid (R51_t.out.below hb52 (Nat.le_refl _)); have R52_x := Go.Lib.hid (R51_x.out.below hb52 (Nat.le_refl _)); have R52_lx := Go.Lib.hid (R51_lx.out.below hb52 (Nat.le_refl _)); have R52_y := Go.Lib.hid (R51_y.out.below hb52 (Nat.le_refl _)); have R52_ly := Go.Lib.hid (R51_ly.out.below hb52 (Nat.le_refl _)); have BE52_s := Go.Lib.hid B51_s.out; have B52_s := Go.Lib.hid (BE52_s.out.below hb52 BE52_s.out.lt); obtain ⟨k52s0, k52s1, k52s2, k52s3, k52s4, k52s5, k52s6, k52s7, k52s8, k52s9, k52s10, k52s11, k52s12, k52s13⟩ := B52_s.out.cells; have BE52_o := Go.Lib.hid B51_o.out; have B52_o := Go.Lib.hid (BE52_o.out.below hb52 BE52_o.out.lt); obtain ⟨k52o0, k52o1, k52o2, k52o3, k52o4, k52o5, k52o6, k52o7, k52o8, k52o9, k52o10, k52o11, k52o12, k52o13⟩ := B52_o.out.cells; have BE52_x := Go.Lib.hid B51_x.out; have B52_x := Go.Lib.hid (BE52_x.out.below hb52 BE52_x.out.lt); obtain ⟨k52x0, k52x1, k52x2, k52x3, k52x4, k52x5, k52x6, k52x7, k52x8, k52x9, k52x10, k52x11, k52x12, k52x13⟩ := B52_x.out.cells; have BE52_y := Go.Lib.hid B51_y.out; have B52_y := Go.Lib.hid (BE52_y.out.below hb52 BE52_y.out.lt); obtain ⟨k52y0, k52y1, k52y2, k52y3, k52y4, k52y5, k52y6, k52y7, k52y8, k52y9, k52y10, k52y11, k52y12, k52y13⟩ := B52_y.out.cells; clear hb52))
  (refine hQQ _ _ ?hCn ?_; (case hCn => exact B52_s.out); clear hQQ QQ)
  (repeat (first | (apply wpW_light; (case h => (intro wa; (first | (go_big_quiet_skip; exact wpQuiet_nil rfl) | (go_big_quiet_want; go_big_quiet_op; go_big_quiet_on; exact wpQuiet_nil rfl))))) | (apply wpW_here; (case h => (first | (go_big_quiet_skip; exact wpQuiet_nil rfl) | (go_big_quiet_want; go_big_quiet_op; go_big_quiet_on; exact wpQuiet_nil rfl)))) | (apply wpW_held; (case hC => assumption); (case h => (intro wa hCa; simp only [] at hCa; (first | (go_big_quiet_skip; exact wpQuiet_nil rfl) | (go_big_quiet_want; go_big_quiet_op; go_big_quiet_on; exact wpQuiet_nil rfl)))))))
  refine wpW_actg (fun QQ hQQ => ?_) (by rfl)
  go_wp2_with (first
    | (go_at_call 12; ((with_reducible refine (sm1.out _ _ _ _ _ ?h1 ?h2).mono ?_)); (case h1 => exact R52_x.out); (case h2 => exact R52_y.out); rintro e w53 ⟨rfl, hb53⟩; have hWE53 := Go.Lib.hid hW52.out; have hW53 := Go.Lib.hid (hWE53.out.trans (hb53.mono hWE53.out.size)); have R53_r := Go.Lib.hid (R52_r.out.below hb53 (Nat.le_refl _)); have R53_b := Go.Lib.hid (R52_b.out.below hb53 (Nat.le_refl _)); have R53_p := Go.Lib.hid (R52_p.out.below hb53 (Nat.le_refl _)); have R53_t := Go.Lib.hid (R52_t.out.below hb53 (Nat.le_refl _)); have R53_x := Go.Lib.hid (R52_x.out.below hb53 (Nat.le_refl _)); have R53_lx := Go.Lib.hid (R52_lx.out.below hb53 (Nat.le_refl _)); have R53_y := Go.Lib.hid (R52_y.out.below hb53 (Nat.le_refl _)); have R53_ly := Go.Lib.hid (R52_ly.out.below hb53 (Nat.le_refl _)); have BE53_s := Go.Lib.hid B52_s.out; have B53_s := Go.Lib.hid (BE53_s.out.below hb53 BE53_s.out.lt); obtain ⟨k53s0, k53s1, k53s2, k53s3, k53s4, k53s5, k53s6, k53s7, k53s8, k53s9, k53s10, k53s11, k53s12, k53s13⟩ := B53_s.out.cells; have BE53_o := Go.Lib.hid B52_o.out; have B53_o := Go.Lib.hid (BE53_o.out.below hb53 BE53_o.out.lt); obtain ⟨k53o0, k53o1, k53o2, k53o3, k53o4, k53o5, k53o6, k53o7, k53o8, k53o9, k53o10, k53o11, k53o12, k53o13⟩ := B53_o.out.cells; have BE53_x := Go.Lib.hid B52_x.out; have B53_x := Go.Lib.hid (BE53_x.out.below hb53 BE53_x.out.lt); obtain ⟨k53x0, k53x1, k53x2, k53x3, k53x4, k53x5, k53x6, k53x7, k53x8, k53x9, k53x10, k53x11, k53x12, k53x13⟩ := B53_x.out.cells; have BE53_y := Go.Lib.hid B52_y.out; have B53_y := Go.Lib.hid (BE53_y.out.below hb53 BE53_y.out.lt); obtain ⟨k53y0, k53y1, k53y2, k53y3, k53y4, k53y5, k53y6, k53y7, k53y8, k53y9, k53y10, k53y11, k53y12, k53y13⟩ := B53_y.out.cells; clear hb53))
  (refine hQQ _ _ ?hCn ?_; (case hCn => exact B53_s.out); clear hQQ QQ)
  (repeat (first | (apply wpW_light; (case h => (intro wa; (first | (go_big_quiet_skip; exact wpQuiet_nil rfl) | (go_big_quiet_want; go_big_quiet_op; go_big_quiet_on; exact wpQuiet_nil rfl))))) | (apply wpW_here; (case h => (first | (go_big_quiet_skip; exact wpQuiet_nil rfl) | (go_big_quiet_want; go_big_quiet_op; go_big_quiet_on; exact wpQuiet_nil rfl)))) | (apply wpW_held; (case hC => assumption); (case h => (intro wa hCa; simp only [] at hCa; (first | (go_big_quiet_skip; exact wpQuiet_nil rfl) | (go_big_quiet_want; go_big_quiet_op; go_big_quiet_on; exact wpQuiet_nil rfl)))))))
  refine wpW_actg (fun QQ hQQ => ?_) (by rfl)
  go_wp2_with (first
    | (go_at_call 13; ((with_reducible refine (sm2.out _ _ _ _ _ _ _ ?h1 ?h2).mono ?_)); (case h1 => exact R53_lx.out); (case h2 => exact R53_ly.out); rintro e w54 ⟨rfl, hb54⟩; have hWE54 := Go.Lib.hid hW53.out; have hW54 := Go.Lib.hid (hWE54.out.trans (hb54.mono hWE54.out.size)); have R54_r := Go.Lib.hid (R53_r.out.below hb54 (Nat.le_refl _)); have R54_b := Go.Lib.hid (R53_b.out.below hb54 (Nat.le_refl _)); have R54_p := Go.Lib.hid (R53_p.out.below hb54 (Nat.le_refl _)); have R54_t := Go.Lib.hid (R53_t.out.below hb54 (Nat.le_refl _)); have R54_x := Go.Lib.hid (R53_x.out.below hb54 (Nat.le_refl _)); have R54_lx := Go.Lib.hid (R53_lx.out.below hb54 (Nat.le_refl _)); have R54_y := Go.Lib.hid (R53_y.out.below hb54 (Nat.le_refl _)); have R54_ly := Go.Lib.hid (R53_ly.out.below hb54 (Nat.le_refl _)); have BE54_s := Go.Lib.hid B53_s.out; have B54_s := Go.Lib.hid (BE54_s.out.below hb54 BE54_s.out.lt); obtain ⟨k54s0, k54s1, k54s2, k54s3, k54s4, k54s5, k54s6, k54s7, k54s8, k54s9, k54s10, k54s11, k54s12, k54s13⟩ := B54_s.out.cells; have BE54_o := Go.Lib.hid B53_o.out; have B54_o := Go.Lib.hid (BE54_o.out.below hb54 BE54_o.out.lt); obtain ⟨k54o0, k54o1, k54o2, k54o3, k54o4, k54o5, k54o6, k54o7, k54o8, k54o9, k54o10, k54o11, k54o12, k54o13⟩ := B54_o.out.cells; have BE54_x := Go.Lib.hid B53_x.out; have B54_x := Go.Lib.hid (BE54_x.out.below hb54 BE54_x.out.lt); obtain ⟨k54x0, k54x1, k54x2, k54x3, k54x4, k54x5, k54x6, k54x7, k54x8, k54x9, k54x10, k54x11, k54x12, k54x13⟩ := B54_x.out.cells; have BE54_y := Go.Lib.hid B53_y.out; have B54_y := Go.Lib.hid (BE54_y.out.below hb54 BE54_y.out.lt); obtain ⟨k54y0, k54y1, k54y2, k54y3, k54y4, k54y5, k54y6, k54y7, k54y8, k54y9, k54y10, k54y11, k54y12, k54y13⟩ := B54_y.out.cells; clear hb54))
  (refine hQQ _ _ ?hCn ?_; (case hCn => exact B54_s.out); clear hQQ QQ)
  (repeat (first | (apply wpW_light; (case h => (intro wa; (first | (go_big_quiet_skip; exact wpQuiet_nil rfl) | (go_big_quiet_want; go_big_quiet_op; go_big_quiet_on; exact wpQuiet_nil rfl))))) | (apply wpW_here; (case h => (first | (go_big_quiet_skip; exact wpQuiet_nil rfl) | (go_big_quiet_want; go_big_quiet_op; go_big_quiet_on; exact wpQuiet_nil rfl)))) | (apply wpW_held; (case hC => assumption); (case h => (intro wa hCa; simp only [] at hCa; (first | (go_big_quiet_skip; exact wpQuiet_nil rfl) | (go_big_quiet_want; go_big_quiet_op; go_big_quiet_on; exact wpQuiet_nil rfl)))))))
  refine wpW_actg (fun QQ hQQ => ?_) (by rfl)
  go_wp2_with (first
    | (go_at_call 12; ((with_reducible refine (sm3.out _ _ _ ?h1 ?h2).mono ?_)); (case h1 => exact R54_t.out); (case h2 => exact R54_r.out); rintro e w55 ⟨rfl, hb55⟩; have hWE55 := Go.Lib.hid hW54.out; have hW55 := Go.Lib.hid (hWE55.out.trans (hb55.mono hWE55.out.size)); have R55_r := Go.Lib.hid (R54_r.out.below hb55 (Nat.le_refl _)); have R55_b := Go.Lib.hid (R54_b.out.below hb55 (Nat.le_refl _)); have R55_p := Go.Lib.hid (R54_p.out.below hb55 (Nat.le_refl _)); have R55_t := Go.Lib.hid (R54_t.out.below hb55 (Nat.le_refl _)); have R55_x := Go.Lib.hid (R54_x.out.below hb55 (Nat.le_refl _)); have R55_lx := Go.Lib.hid (R54_lx.out.below hb55 (Nat.le_refl _)); have R55_y := Go.Lib.hid (R54_y.out.below hb55 (Nat.le_refl _)); have R55_ly := Go.Lib.hid (R54_ly.out.below hb55 (Nat.le_refl _)); have BE55_s := Go.Lib.hid B54_s.out; have B55_s := Go.Lib.hid (BE55_s.out.below hb55 BE55_s.out.lt); obtain ⟨k55s0, k55s1, k55s2, k55s3, k55s4, k55s5, k55s6, k55s7, k55s8, k55s9, k55s10, k55s11, k55s12, k55s13⟩ := B55_s.out.cells; have BE55_o := Go.Lib.hid B54_o.out; have B55_o := Go.Lib.hid (BE55_o.out.below hb55 BE55_o.out.lt); obtain ⟨k55o0, k55o1, k55o2, k55o3, k55o4, k55o5, k55o6, k55o7, k55o8, k55o9, k55o10, k55o11, k55o12, k55o13⟩ := B55_o.out.cells; have BE55_x := Go.Lib.hid B54_x.out; have B55_x := Go.Lib.hid (BE55_x.out.below hb55 BE55_x.out.lt); obtain ⟨k55x0, k55x1, k55x2, k55x3, k55x4, k55x5, k55x6, k55x7, k55x8, k55x9, k55x10, k55x11, k55x12, k55x13⟩ := B55_x.out.cells; have BE55_y := Go.Lib.hid B54_y.out; have B55_y := Go.Lib.hid (BE55_y.out.below hb55 BE55_y.out.lt); obtain ⟨k55y0, k55y1, k55y2, k55y3, k55y4, k55y5, k55y6, k55y7, k55y8, k55y9, k55y10, k55y11, k55y12, k55y13⟩ := B55_y.out.cells; clear hb55))
  (refine hQQ _ _ ?hCn ?_; (case hCn => exact B55_s.out); clear hQQ QQ)
  have sx := R55_p.out.str (P := Try.prog) Try.underlying25 Try.underlying5 Try.underlying9
  have sy := R55_b.out.str (P := Try.prog) Try.underlying25 Try.underlying5 Try.underlying9
  (repeat (first | (apply wpW_light; (case h => (intro wa; (first | (go_big_quiet_skip; exact wpQuiet_nil rfl) | (go_big_quiet_want; go_big_quiet_op; go_big_quiet_on; exact wpQuiet_nil rfl))))) | (apply wpW_here; (case h => (first | (go_big_quiet_skip; exact wpQuiet_nil rfl) | (go_big_quiet_want; go_big_quiet_op; go_big_quiet_on; exact wpQuiet_nil rfl)))) | (apply wpW_held; (case hC => assumption); (case h => (intro wa hCa; simp only [] at hCa; (first | (go_big_quiet_skip; exact wpQuiet_nil rfl) | (go_big_quiet_want; go_big_quiet_op; go_big_quiet_on; exact wpQuiet_nil rfl)))))))
  refine wpW_nil ?_
  go_wp2
  go_ret
  exact ⟨rfl, hW55.out⟩

theorem resumeFeeds_walk (x0_0 : Int) (x0_1 : Int) (x0_2 : Int) (x0_3 : Int) (x0_4 : Int) (ax0_5 : Option Addr) (lenx0_5 capx0_5 : Nat) (zx0_5 : List Int) (x0_6 : Int) (ax1 : Option Addr) (lenx1 capx1 : Nat) (zx1 : List Int) (W : World) (wx0_0 : (Lit.int .i64 x0_0).wf = true) (wx0_1 : (Lit.int .i64 x0_1).wf = true) (wx0_2 : (Lit.int .i64 x0_2).wf = true) (wx0_3 : (Lit.int .u64 x0_3).wf = true) (wx0_4 : (Lit.int .u64 x0_4).wf = true) (wx0_5 : IsRow .u8 W ax0_5 lenx0_5 capx0_5 zx0_5) (wx0_6 : (Lit.int .i64 x0_6).wf = true) (wx1 : IsRow .u8 W ax1 lenx1 capx1 zx1) :
    Calls Try.prog 4 #[.agg #[.int .i64 x0_0, .int .i64 x0_1, .int .i64 x0_2, .int .u64 x0_3, .int .u64 x0_4, .slice ax0_5 lenx0_5 capx0_5, .int .i64 x0_6], .slice ax1 lenx1 capx1] W fun e w' => e = .returned (.bool true) ∧ Below W.heap.size W w' := by
  have _ := wx0_0
  have hr := Row.of_isRow wx0_5
  have hb := Row.of_isRow wx1
  have hm := Nat.le_trans hr.hcap hr.hmax
  have hm' := Nat.le_trans hb.hcap hb.hmax
  unfold maxLen at hm hm'
  cases hg : great lenx0_5 with
  | true => exact resumeFeeds_great W _ _ _ _ _ _ _ _ _ _ _ _ (by omega) (by omega) (.inl hg)
  | false =>
    cases hq : decide ((190 < lenx1 ∧ lenx1 ≤ 41000) ∨ 41100 < lenx1) with
    | true => exact resumeFeeds_great W _ _ _ _ _ _ _ _ _ _ _ _ (by omega) (by omega) (.inr ⟨hg, hq⟩)
    | false =>
      have hlen : lenx0_5 ≤ 41350 := by
        have := of_decide_eq_false hg
        omega
      have h4 := of_decide_eq_false hq
      obtain ⟨m, h2, h3⟩ := bytes_of hb.wf
      exact resumeFeeds_in W _ _ _ _ _ _ _ _ _ _ _ _ _ m _ hr (by omega) hg hb h2 (by rw [← hb.hlen, h2, List.length_map]) h3 (by omega) hq wx0_6 wx0_1 wx0_2 wx0_3 wx0_4
end Go.Proofs.Ytcodofmghbgoeaa

