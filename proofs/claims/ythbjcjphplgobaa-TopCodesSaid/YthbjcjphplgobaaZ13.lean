/- Texts of the proof, one behind the other: ResB, ResCoderW, TopD, ResQ, ResV, ResY. -/
import Derived.Test.YthbjcjphplgobaaZ12
import Derived.Deep.DeepCutAuto
/- What the statements of resume share: bytes as natural numbers; the first state. -/
namespace Go.Proofs.Ythbjcjphplgobaa
open Go.RowKit Cad

theorem bytes_of {l : List Int} (h : ∀ x ∈ l, (Lit.int .u8 x).wf = true) : ∃ m : List Nat, l = m.map Int.ofNat ∧ ∀ x ∈ m, x < 256 := by
  refine ⟨l.map Int.toNat, ?_, fun x hx => ?_⟩
  · rw [List.map_map]
    symm
    calc l.map (Int.ofNat ∘ Int.toNat) = l.map id := List.map_congr_left fun x hx => by have := bounds_u8 (h x hx); simp; omega
      _ = l := List.map_id l
  · obtain ⟨y, hy, rfl⟩ := List.mem_map.1 hx
    have := bounds_u8 (h y hy)
    omega
theorem readD_nil (d : Du) : readD [] 0 d = (0, 0, 24) := readD_end d (Nat.le_refl _)
theorem ok_start (n : Nat) (hn : n ≤ 4000) : ResOkN n dStart [] := ⟨hn, dStart_ok, by simp, fun _ => by simp, fun _ => readD_nil _⟩
end Go.Proofs.Ythbjcjphplgobaa

/- ResumeCoder: the bytes of a code of numbers give these; fewer numbers, and there is more. -/
namespace Go.Proofs.Ythbjcjphplgobaa
open Go.RowKit Cad

/-- the bits of the bytes of bits: these, filled up -/
theorem bytes_pack (X : List Bool) : ∃ bl : List Nat, pack X = bl.map Int.ofNat ∧ bl.length = (X.length + 7) / 8 ∧ (∀ x ∈ bl, x < 256) ∧ bytesB bl = X ++ List.replicate (8 * ((X.length + 7) / 8) - X.length) false := by
  obtain ⟨bl, h1, h2⟩ := bytes_of (u8_wf (pack_wf X))
  have hl : bl.length = (X.length + 7) / 8 := by
    have := congrArg List.length h1
    rw [pack_len, List.length_map] at this
    exact this.symm
  refine ⟨bl, h1, hl, h2, ?_⟩
  apply ext_getD
  · rw [bytesB_len, hl, List.length_append, List.length_replicate]; omega
  · intro i hi
    rw [bytesB_len, hl] at hi
    have e := bit_pack X i
    rw [h1] at e
    have e2 : bit (bl.map Int.ofNat) i = (bytesB bl).getD i false := by
      rw [bytesB_get bl i (by omega)]
      unfold bit
      have e : ((bl.map Int.ofNat).getD (i / 8) 0).toNat = bl.getD (i / 8) 0 := by
        have hj : i / 8 < bl.length := by omega
        simp [List.getD, hj]
      rw [e]
    rw [← e2, e]
    by_cases h : i < X.length
    · exact (getD_ahead X _ h).symm
    · have e3 := getD_behind X (List.replicate (8 * ((X.length + 7) / 8) - X.length) false) (i - X.length)
      rw [show X.length + (i - X.length) = i by omega] at e3
      rw [e3, getD_ge _ _ (by omega)]
      simp [List.getD, show i - X.length < 8 * ((X.length + 7) / 8) - X.length by omega]

end Go.Proofs.Ythbjcjphplgobaa

/- Of TopCodes: what becomes of a list of numbers that is coded and packed; its examples. -/
namespace Go.Proofs.Ythbjcjphplgobaa
open Go.RowKit Cad

theorem tc_chain (m : List Nat) (ll : Nat) (hm : m.length = ll) (hm32 : ∀ x ∈ m, x < 4294967296) (h4 : ll ≤ 4000) (X : List Bool) (hX : X = codesD dStart m) (A mc : Nat) (hA : A = X.length) (hmc : mc = (A + 7) / 8) :
    A ≤ 324000 ∧ mc ≤ 40500 ∧ (pack X).length = mc ∧ ∃ Y : List Bool, Y.length = 8 * mc ∧ pack Y = pack X ∧ decD Y ll 0 dStart = (m, A, 0) := by
  have hle := codesD_len_le m dStart_ok hm32
  rw [← hX, ← hA, hm] at hle
  obtain ⟨bl, p1, p2, p3, p4⟩ := bytes_pack X
  refine ⟨by omega, by omega, by rw [pack_len, ← hA, hmc], bytesB bl, ?_, ?_, ?_⟩
  · rw [bytesB_len, p2, ← hA, ← hmc]
  · rw [pack_bytes p3, p1]
  · have := dec_codes m [] (List.replicate (8 * ((X.length + 7) / 8) - X.length) false) dStart hm32
    rw [List.nil_append, ← hX, ← p4, hm, List.length_nil, Nat.zero_add, ← hA] at this
    exact this

section
variable (ll : Nat) (m : List Nat) (hm : m.length = ll) (hm32 : ∀ x ∈ m, x < 4294967296) (h4 : ll ≤ 4000) (X : List Bool) (hX : X = codesD dStart m) (A mc : Nat) (hA : A = X.length) (hmc : mc = (A + 7) / 8)
include hm hm32 h4 hX hA hmc
theorem tc_encode (w : World) (a : Option Addr) (c : Nat) (h : Row .u32 w a ll c (m.map Int.ofNat)) : Res 24 #[.slice a ll c] w mc (pack X) A 0 := by
  have := PEncode_ok w a ll c m h h4 hm hm32
  rw [← hX, ← hA, ← hmc] at this
  exact this
theorem tc_pack (w : World) (a : Option Addr) (c : Nat) (h : Row .u8 w a mc c (pack X)) : ResP 25 #[.agg #[.slice a mc c, .int .i64 A]] w (mc + 4) (sealB (pack X)) 0 := by
  obtain ⟨h1, h2, h3, -⟩ := tc_chain m ll hm hm32 h4 X hX A mc hA hmc
  exact KPack_ok w a mc c A (pack X) h (bounds_of_len (by omega)) ⟨X, by rw [hA], by omega, rfl⟩
theorem tc_unpack (w : World) (a : Option Addr) (c : Nat) (h : Row .u8 w a (mc + 4) c (sealB (pack X))) : ResU 31 #[.slice a (mc + 4) c] w mc (pack X) (8 * mc : Nat) 0 := by
  obtain ⟨h1, h2, h3, -⟩ := tc_chain m ll hm hm32 h4 X hX A mc hA hmc
  have := KUnpack_ok w a (mc + 4) c _ h (by omega) (right_seal _)
  rw [Nat.add_sub_cancel, show (sealB (pack X)).take mc = pack X by rw [← h3]; exact sealB_take _] at this
  exact this
theorem tc_decode (w : World) (a : Option Addr) (c : Nat) (h : Row .u8 w a mc c (pack X)) : Calls Try.prog 32 #[.agg #[.slice a mc c, .int .i64 (8 * mc : Nat)], .int .i64 ll] w fun r W' => ∃ a c, r = .returned (.tuple #[.slice a ll c, .int .i64 A, .int .i64 0]) ∧ Row .u32 W' a ll c (m.map Int.ofNat) ∧ Below w.heap.size w W' := by
  obtain ⟨h1, h2, h3, Y, y1, y2, y3⟩ := tc_chain m ll hm hm32 h4 X hX A mc hA hmc
  have := PDecode_ok w a mc c Y ll (by rw [y2]; exact h) (by omega) h4 m A 0 y3
  rw [y1] at this
  refine this.mono ?_
  rintro e W' ⟨b, k, c', rfl, g1, g2⟩
  have : k = ll := by rw [← g1.hlen, List.length_map, hm]
  subst this
  exact ⟨b, c', rfl, g1, g2⟩
end

set_option maxRecDepth 100000 in
set_option maxHeartbeats 2000000 in
theorem tcAlive_ok (W : World) : Calls Try.prog 30 #[] W fun e W' => e = .returned (.bool true) ∧ Below W.heap.size W W' := by
  have h32 : ∀ x ∈ [7, 5000], x < 4294967296 := by decide
  obtain ⟨m, hm⟩ : ∃ m : List Nat, m = [7, 5000] := ⟨_, rfl⟩
  rw [← hm] at h32
  have hml : m.length = 2 := by rw [hm]; rfl
  have hmi : m.map Int.ofNat = [7, 5000] := by rw [hm]; rfl
  obtain ⟨X, hX⟩ : ∃ X, X = codesD dStart m := ⟨_, rfl⟩
  obtain ⟨A, hA⟩ : ∃ A, A = X.length := ⟨_, rfl⟩
  obtain ⟨mc, hmc⟩ : ∃ n, n = (A + 7) / 8 := ⟨_, rfl⟩
  have h4 : 2 ≤ 4000 := by decide
  obtain ⟨g1, g2, -⟩ := tc_chain m 2 hml h32 h4 X hX A mc hA hmc
  have en := Go.Lib.hid (tc_encode 2 m hml h32 h4 X hX A mc hA hmc)
  have pk := Go.Lib.hid (tc_pack 2 m hml h32 h4 X hX A mc hA hmc)
  have un := Go.Lib.hid (tc_unpack 2 m hml h32 h4 X hX A mc hA hmc)
  have de := Go.Lib.hid (tc_decode 2 m hml h32 h4 X hX A mc hA hmc)
  unfold Res at en
  unfold ResP at pk
  unfold ResU at un
  rw [hmi] at en de
  rw [show (((2:Nat) : Int)) = 2 from rfl] at de
  obtain ⟨N8, hN8⟩ : ∃ n, n = 8 * mc := ⟨_, rfl⟩
  rw [← hN8] at un de
  have sm : Hid (∀ (w : World) (x : Nat) a n c, x = w.heap.size → Row .u32 w a n c [7, 5000] → Calls Try.prog 21 #[.slice a n c, .slice (some ⟨x, 0, none⟩) 2 2] (w.alloc (.cells #[.int .u32 7, .int .u32 5000] 30)) fun e W' => e = .returned (.bool true) ∧ Below w.heap.size w W') := Go.Lib.hid fun w x a n c hx hr => by
    subst hx
    have := CSame_ok _ a n c [7, 5000] (hr.below (below1 w _) (Nat.le_refl _)) _ 2 2 [7, 5000] (lit_rowK .u32 30 w [7, 5000] 2 (0, 0) rfl (by decide) (by decide))
    refine this.mono ?_
    rintro e w' ⟨h1, h2⟩
    exact ⟨by rw [h1]; rfl, (below1 w _).trans (h2.mono (by simp))⟩
  have hWE0 := Go.Lib.hid (below1 W (.cells #[.int .u32 7, .int .u32 5000] 30))
  have RE0_l := Go.Lib.hid (show Row .u32 (W.alloc (.cells #[.int .u32 7, .int .u32 5000] 30)) (some ⟨W.heap.size, 0, none⟩) 2 2 [7, 5000] from lit_rowK .u32 30 W [7, 5000] 2 (0, 0) rfl (by decide) (by decide))
  clear hN8 h32 hm hml hmi hX hA hmc h4
  go_enter Try.func30, Try.ntmps30
  go_wp2_with (first
    | (go_at_call 24; ((with_reducible refine (en.out _ _ _ ?h1).mono ?_)); (case h1 => exact RE0_l.out); rintro e w1 ⟨b1, cp1, rfl, hr1, hb1⟩; have hWE1 := Go.Lib.hid hWE0.out; have hW1 := Go.Lib.hid (hWE1.out.trans (hb1.mono hWE1.out.size)); have R1_l := Go.Lib.hid (RE0_l.out.below hb1 (Nat.le_refl _)); have R1_b := Go.Lib.hid hr1; clear hr1; clear hb1)
    | (go_at_call 25; ((with_reducible refine (pk.out _ _ _ ?h1).mono ?_)); (case h1 => exact (R1_b.out.below (below1 w1 (.cells #[(.slice b1 mc cp1), .int .i64 A] 45)) (Nat.le_refl _))); rintro e w2 ⟨b2, cp2, rfl, hr2, hb2⟩; have hWE2 := Go.Lib.hid (hW1.out.alloc hW1.out.size (.cells #[(.slice b1 mc cp1), .int .i64 A] 45)); have hW2 := Go.Lib.hid (hWE2.out.trans (hb2.mono hWE2.out.size)); have R2_l := Go.Lib.hid ((R1_l.out.below (below1 w1 (.cells #[(.slice b1 mc cp1), .int .i64 A] 45)) (Nat.le_refl _)).below hb2 (Nat.le_refl _)); have R2_b := Go.Lib.hid ((R1_b.out.below (below1 w1 (.cells #[(.slice b1 mc cp1), .int .i64 A] 45)) (Nat.le_refl _)).below hb2 (Nat.le_refl _)); have R2_p := Go.Lib.hid hr2; clear hr2; have BE2_b := Go.Lib.hid (box1 w1 (.slice b1 mc cp1) A); have B2_b := Go.Lib.hid (BE2_b.out.below hb2 BE2_b.out.lt); obtain ⟨k2b0, k2b1, k2b2, k2b3⟩ := B2_b.out.cells; clear hb2)
    | (go_at_call 31; ((with_reducible refine (un.out _ _ _ ?h1).mono ?_)); (case h1 => exact R2_p.out); rintro e w3 ⟨b3, cp3, rfl, hr3, hb3⟩; have hWE3 := Go.Lib.hid hW2.out; have hW3 := Go.Lib.hid (hWE3.out.trans (hb3.mono hWE3.out.size)); have R3_l := Go.Lib.hid (R2_l.out.below hb3 (Nat.le_refl _)); have R3_b := Go.Lib.hid (R2_b.out.below hb3 (Nat.le_refl _)); have R3_p := Go.Lib.hid (R2_p.out.below hb3 (Nat.le_refl _)); have R3_c := Go.Lib.hid hr3; clear hr3; have BE3_b := Go.Lib.hid B2_b.out; have B3_b := Go.Lib.hid (BE3_b.out.below hb3 BE3_b.out.lt); obtain ⟨k3b0, k3b1, k3b2, k3b3⟩ := B3_b.out.cells; have l3b := B3_b.out.lt; have n3b : w1.heap.size ≠ w3.heap.size := (by omega); clear hb3)
    | (go_at_call 32; ((with_reducible refine (de.out _ _ _ ?h1).mono ?_)); (case h1 => exact (R3_c.out.below (below1 w3 (.cells #[(.slice b3 mc cp3), .int .i64 N8] 45)) (Nat.le_refl _))); rintro e w4 ⟨b4, cp4, rfl, hr4, hb4⟩; have hWE4 := Go.Lib.hid (hW3.out.alloc hW3.out.size (.cells #[(.slice b3 mc cp3), .int .i64 N8] 45)); have hW4 := Go.Lib.hid (hWE4.out.trans (hb4.mono hWE4.out.size)); have R4_l := Go.Lib.hid ((R3_l.out.below (below1 w3 (.cells #[(.slice b3 mc cp3), .int .i64 N8] 45)) (Nat.le_refl _)).below hb4 (Nat.le_refl _)); have R4_b := Go.Lib.hid ((R3_b.out.below (below1 w3 (.cells #[(.slice b3 mc cp3), .int .i64 N8] 45)) (Nat.le_refl _)).below hb4 (Nat.le_refl _)); have R4_p := Go.Lib.hid ((R3_p.out.below (below1 w3 (.cells #[(.slice b3 mc cp3), .int .i64 N8] 45)) (Nat.le_refl _)).below hb4 (Nat.le_refl _)); have R4_c := Go.Lib.hid ((R3_c.out.below (below1 w3 (.cells #[(.slice b3 mc cp3), .int .i64 N8] 45)) (Nat.le_refl _)).below hb4 (Nat.le_refl _)); have R4_m := Go.Lib.hid hr4; clear hr4; have BE4_b := Go.Lib.hid (B3_b.out.alloc (.cells #[(.slice b3 mc cp3), .int .i64 N8] 45)); have B4_b := Go.Lib.hid (BE4_b.out.below hb4 BE4_b.out.lt); obtain ⟨k4b0, k4b1, k4b2, k4b3⟩ := B4_b.out.cells; have BE4_c := Go.Lib.hid (box1 w3 (.slice b3 mc cp3) N8); have B4_c := Go.Lib.hid (BE4_c.out.below hb4 BE4_c.out.lt); obtain ⟨k4c0, k4c1, k4c2, k4c3⟩ := B4_c.out.cells; clear hb4)
    | (go_at_call 21; with_reducible refine (sm.out _ _ _ _ _ ?hx R4_m.out).mono ?_; (case hx => simp); rintro e w5 ⟨rfl, hb⟩; have B5 := Go.Lib.hid (hW4.out.trans (hb.mono hW4.out.size)); clear hb))
  go_ret
  exact ⟨rfl, B5.out⟩
end Go.Proofs.Ythbjcjphplgobaa

/- Pieces fed one by one; rows of slices. -/
namespace Cad
open Go.Proofs.Ythbjcjphplgobaa

/-- pieces fed one by one -/
def feedS : Nat → List Bool → Du → List (List Nat) → Fed
  | n, R, d, [] => ⟨[], R, n, d, 0⟩
  | n, R, d, p :: ps => if (fed n (R ++ bytesB p) d).e ≠ 0 then fed n (R ++ bytesB p) d else glueF (fed n (R ++ bytesB p) d).l (feedS (fed n (R ++ bytesB p) d).n (fed n (R ++ bytesB p) d).r (fed n (R ++ bytesB p) d).d ps)
theorem feedS_er {n : Nat} {R : List Bool} {d : Du} {p : List Nat} {ps : List (List Nat)} (h : (fed n (R ++ bytesB p) d).e ≠ 0) : feedS n R d (p :: ps) = fed n (R ++ bytesB p) d := if_pos h
theorem feedS_ok {n : Nat} {R : List Bool} {d : Du} {p : List Nat} {ps : List (List Nat)} {l : List Nat} {r : List Bool} {k : Nat} {d' : Du} (h : fed n (R ++ bytesB p) d = ⟨l, r, k, d', 0⟩) : feedS n R d (p :: ps) = glueF l (feedS k r d' ps) := by
  rw [feedS, h, if_neg (fun h => h rfl)]
/-- a valid state, fed with nothing -/
theorem fed_self {n : Nat} {R : List Bool} {d : Du} (h : ResOkN n d R) : fed n R d = ⟨[], R, n, d, 0⟩ := by
  by_cases h0 : n = 0
  · subst h0; exact fed_none d (h.zero rfl)
  · obtain ⟨m, rfl⟩ : ∃ m, n = m + 1 := ⟨n - 1, by omega⟩
    exact fed_wait (h.wait h0)
/-- the state behind feeding is valid -/
theorem fed_valid {n : Nat} {B : List Bool} {d : Du} (hd : d.ok) (hn : n ≤ 4000) {l : List Nat} {r : List Bool} {k : Nat} {d' : Du} (h : fed n B d = ⟨l, r, k, d', 0⟩) : ResOkN k d' r ∧ k + l.length = n ∧ (∀ x ∈ l, x < 4294967296) := by
  obtain ⟨l1, r1, k1, h1, h2, h3, h4, h5, h6⟩ := fed_is n B d hd (by rw [h])
  rw [h] at h1
  cases h1
  have hd' := after_ok l hd h3
  refine ⟨⟨by omega, hd', ?_, h5, h6⟩, h2, h3⟩
  by_cases h0 : k = 0
  · have := h5 h0; omega
  · have := short_le (h6 h0) hd'; omega
theorem feedS_fed : ∀ (ps : List (List Nat)) (n : Nat) (R : List Bool) (d : Du), ResOkN n d R → feedS n R d ps = fed n (R ++ bytesB ps.flatten) d
  | [], n, R, d, h => by
    show (⟨[], R, n, d, 0⟩ : Fed) = fed n (R ++ []) d
    rw [List.append_nil, fed_self h]
  | p :: ps, n, R, d, h => by
    rw [List.flatten_cons, bytesB_append, ← List.append_assoc, fed_pieces n (R ++ bytesB p) _ d h.d]
    by_cases he : (fed n (R ++ bytesB p) d).e = 0
    · obtain ⟨l, r, k, h1, -⟩ := fed_is n (R ++ bytesB p) d h.d he
      have hv := (fed_valid h.d h.n4 h1).1
      rw [feedS_ok h1, h1]
      simp only
      rw [if_neg (fun h => h rfl), feedS_fed ps k r _ hv]
    · rw [feedS_er he, if_pos he]
end Cad
namespace Go.Proofs.Ythbjcjphplgobaa
open Go.RowKit Cad

/-- a row of slices, that is only read -/
structure SRow (w : World) (a : Option Addr) (len cap : Nat) (vs : List Value) : Prop where
  hlen : vs.length = len
  hmax : len ≤ 17592186044416
  cells : 0 < len → ∃ b off, a = some ⟨b, off, none⟩ ∧ b < w.heap.size ∧ ∀ i, i < len → w.cell? ⟨b, off + i, none⟩ = some (vs.getD i undef)
theorem SRow.below {w w' : World} {a : Option Addr} {len cap : Nat} {vs : List Value} {B : Nat} (h : SRow w a len cap vs) (hb : Below B w w') (hB : w.heap.size ≤ B) : SRow w' a len cap vs :=
  ⟨h.hlen, h.hmax, fun hp => by
    obtain ⟨b, off, rfl, hlt, hc⟩ := h.cells hp
    exact ⟨b, off, rfl, Nat.lt_of_lt_of_le hlt hb.size, fun i hi => (Below.cell hb (p := ⟨b, off + i, none⟩) (Nat.lt_of_lt_of_le hlt hB)).trans (hc i hi)⟩⟩
theorem SRow.of_own {w : World} {base : Nat} {E : TypeId} {a : Option Addr} {n c : Nat} {vs : List Value} (h : w.ownsRow base E 1 (.slice a n c) n vs) (hn : n ≤ 17592186044416) : SRow w a n c vs := by
  have hl : vs.length = n := by have := h.1; omega
  refine ⟨hl, hn, fun hp => ?_⟩
  rcases h.2 with ⟨he, h0⟩ | ⟨g, cap, cur, he, hg, hh, hc1, hc2, hc3, ht⟩
  · omega
  · cases he
    have hlt : g < w.heap.size := by
      apply Classical.byContradiction; intro hx; rw [Array.getElem?_eq_none (by omega)] at hh; cases hh
    refine ⟨g, 0, rfl, hlt, fun i hi => ?_⟩
    have hx := congrArg (fun l => l[i]?) ht
    simp only [List.getElem?_take] at hx
    rw [if_pos (by omega)] at hx
    unfold World.cell?
    rw [hh]
    simp only [Nat.zero_add]
    have : cur[i]? = vs[i]? := by simpa using hx
    rw [this]
    simp [List.getD, show i < vs.length by omega]
/-- slices that read as pieces -/
structure Pieces (w : World) (vs : List Value) (ps : List (List Nat)) : Prop where
  len : vs.length = ps.length
  at_ : ∀ i, i < ps.length → ∃ a c, vs.getD i undef = .slice a (ps.getD i []).length c ∧ Row .u8 w a (ps.getD i []).length c ((ps.getD i []).map Int.ofNat) ∧ ∀ x ∈ ps.getD i [], x < 256
theorem Pieces.below {w w' : World} {vs : List Value} {ps : List (List Nat)} {B : Nat} (h : Pieces w vs ps) (hb : Below B w w') (hB : w.heap.size ≤ B) : Pieces w' vs ps :=
  ⟨h.len, fun i hi => by
    obtain ⟨a, c, h1, h2, h3⟩ := h.at_ i hi
    exact ⟨a, c, h1, h2.below hb hB, h3⟩⟩
/-- a row stays where another block is written -/
theorem Row.grown {k : IntKind} {w w' : World} {aa : Option Addr} {len cap : Nat} {l : List Int} {row : Option Nat} (h : Row k w aa len cap l) (hg : w.grownBy w' row) (hn : len = 0 ∨ ∃ g o, aa = some ⟨g, o, none⟩ ∧ some g ≠ row) : Row k w' aa len cap l := by
  refine ⟨h.hlen, h.hcap, h.hmax, h.wf, fun hp => ?_, h.nil⟩
  obtain ⟨b, off, e, hlt, hc⟩ := h.cells hp
  rcases hn with hn | ⟨g, o, e2, hne⟩
  · omega
  rw [e] at e2
  cases e2
  refine ⟨b, off, e, Nat.lt_of_lt_of_le hlt hg.size, fun i hi => ?_⟩
  rw [← hc i hi]
  unfold World.cell?
  rw [hg.block b hlt hne]
theorem ResAt.grown {w w' : World} {x : Nat} {n a b c d N : Int} {v : Value} {row : Option Nat} (h : ResAt w x n a b c d v N) (hg : w.grownBy w' row) (hn : some x ≠ row) : ResAt w' x n a b c d v N := by
  have hl := h.lt
  unfold ResAt at h ⊢
  rw [hg.block x hl hn, h]
end Go.Proofs.Ythbjcjphplgobaa

/- Contracts of the statements' helpers: feeds. -/
namespace Go.Proofs.Ythbjcjphplgobaa
open Go.RowKit Cad

/-- what Feed says of valid states and not too many bytes; its Rest is new -/
def FeedSays : Prop := ∀ (w : World) (aa : Option Addr) (cap n : Nat) (D : Du) (R : List Bool) (ab : Option Addr) (nb cb : Nat) (bl : List Nat), Row .u8 w aa ((R.length + 7) / 8) cap (pack R) → ResOkN n D R → Row .u8 w ab nb cb (bl.map Int.ofNat) → bl.length = nb → (∀ x ∈ bl, x < 256) → nb ≤ 41000 →
    Calls Try.prog 34 #[.agg #[.int .i64 n, .int .i64 D.k0, .int .i64 D.k1, .int .u64 D.s0, .int .u64 D.s1, .slice aa ((R.length + 7) / 8) cap, .int .i64 R.length], .slice ab nb cb] w fun r W' => ∃ bb cc a m c, r = .returned (.tuple #[.agg #[.int .i64 (fed n (R ++ bytesB bl) D).n, .int .i64 (fed n (R ++ bytesB bl) D).d.k0, .int .i64 (fed n (R ++ bytesB bl) D).d.k1, .int .u64 (fed n (R ++ bytesB bl) D).d.s0, .int .u64 (fed n (R ++ bytesB bl) D).d.s1, .slice bb (((fed n (R ++ bytesB bl) D).r.length + 7) / 8) cc, .int .i64 (fed n (R ++ bytesB bl) D).r.length], .slice a m c, .int .i64 (fed n (R ++ bytesB bl) D).e]) ∧
    Row .u8 W' bb (((fed n (R ++ bytesB bl) D).r.length + 7) / 8) cc (pack (fed n (R ++ bytesB bl) D).r) ∧ Row .u32 W' a m c ((fed n (R ++ bytesB bl) D).l.map Int.ofNat) ∧ Below w.heap.size w W' ∧ (((fed n (R ++ bytesB bl) D).r.length + 7) / 8 = 0 ∨ ∃ g o, bb = some ⟨g, o, none⟩ ∧ w.heap.size ≤ g)

end Go.Proofs.Ythbjcjphplgobaa

/- What Feed says of valid states, its Rest being new. -/
namespace Go.Proofs.Ythbjcjphplgobaa
open Go.RowKit Cad
theorem PsFeed_says : FeedSays := fun w aa cap n D R ab nb cb bl hr hok hbr hbl h256 hnb => by
  have := PsFeed_new w aa _ cap n D R ab nb cb bl hr hok hbr hbl h256 hnb
  unfold ResG at this
  exact this
end Go.Proofs.Ythbjcjphplgobaa
