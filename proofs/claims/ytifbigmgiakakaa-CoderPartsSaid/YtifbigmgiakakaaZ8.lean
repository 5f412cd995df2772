/- Texts of the proof, one behind the other: DuaM, RegY, DuaN, CodP, CodR, CodS, CodT, CodA, CodB. -/
import Derived.Test.YtifbigmgiakakaaZ7
import Derived.Deep.DeepCutAuto
/- The chapter's examples of dual. -/
namespace Go.Proofs.Ytifbigmgiakakaa
open Go.RowKit Cad

theorem duat2 (w : World) (o : Obj) (a b c d : Int) : DuAt ((w.alloc o).alloc (.cells #[.int .i64 a, .int .i64 b, .int .u64 c, .int .u64 d] 31)) (w.heap.size + 1) a b c d := by
  unfold DuAt; rw [heap_alloc2_new]
def D8 : Du := ⟨10, 10, 16384, 16384⟩
theorem d8_ok : D8.ok := ⟨by decide, by decide, by decide, by decide⟩

end Go.Proofs.Ytifbigmgiakakaa

/- A region that draws its order: three that act and are not ordered; the world behind an act by a name. No Go function in sight. -/
namespace Go.Proofs.Ytifbigmgiakakaa
open Go.RowKit

section
variable {P : Program} {ops : Array Oper} {C : World → Prop} {Q : Exit → Act → World → Prop}

theorem wpW_name {R : List (Nat × Oper)} {a : Act} {w : World} (h : ∀ w', w' = w → wpW P ops C Q R a w') : wpW P ops C Q R a w := h w rfl

/-- three that act, x, y and z, are not ordered: six orders: xyz, xzy, zxy, yxz, yzx, zyx -/
theorem wp_region_ord6 {id : Nat} {l : List Oper} {a : Act} {w : World} (C : World → Prop) (x y z : Nat) (R1 R2 R3 R4 R5 R6 : List (Nat × Nat)) (hm : P.follows .mixedOrders = true) (hxy : x ≠ y ∧ y ≠ z ∧ x ≠ z ∧ x < l.length ∧ y < l.length ∧ z < l.length)
    (h1 : ordB l [(z, y), (y, x)] R1 = true) (h2 : ordB l [(z, x), (y, z), (y, x)] R2 = true) (h3 : ordB l [(x, z), (y, z), (y, x)] R3 = true)
    (h4 : ordB l [(z, x), (x, y)] R4 = true) (h5 : ordB l [(z, y), (x, z), (x, y)] R5 = true) (h6 : ordB l [(y, z), (x, z), (x, y)] R6 = true) (hC : C w.drew)
    (g1 : wpW P l.toArray C (NoPanic Q) (pick l R1) a w.drew) (g2 : wpW P l.toArray C (NoPanic Q) (pick l R2) a w.drew) (g3 : wpW P l.toArray C (NoPanic Q) (pick l R3) a w.drew)
    (g4 : wpW P l.toArray C (NoPanic Q) (pick l R4) a w.drew) (g5 : wpW P l.toArray C (NoPanic Q) (pick l R5) a w.drew) (g6 : wpW P l.toArray C (NoPanic Q) (pick l R6) a w.drew) : (Code.region id l.toArray true).wp P Q a w := by
  refine wp_region_noPanic (wp_region_draw fun t => ?_)
  simp only [Region.schedule, hm, Bool.true_or, if_true]
  obtain ⟨n1, n2, n3, l1, l2, l3⟩ := hxy
  have sz : (Array.replicate l.toArray.size false).size = l.toArray.size := by simp
  have b1 : x < l.toArray.size := by simpa using l1
  have b2 : y < l.toArray.size := by simpa using l2
  have b3 : z < l.toArray.size := by simpa using l3
  rcases lin_split (ops := l.toArray) n1 _ _ sz b1 b2 (lin_all t) with hA | hB
  · rcases lin_split (ops := l.toArray) n2 _ _ sz b2 b3 hA with h | h
    · exact wpOps_of_ord R1 h1 hC _ h g1
    · rcases lin_split (ops := l.toArray) n3 _ _ sz b1 b3 h with h | h
      · exact wpOps_of_ord R2 h2 hC _ h g2
      · exact wpOps_of_ord R3 h3 hC _ h g3
  · rcases lin_split (ops := l.toArray) n3 _ _ sz b1 b3 hB with h | h
    · exact wpOps_of_ord R4 h4 hC _ h g4
    · rcases lin_split (ops := l.toArray) n2 _ _ sz b2 b3 h with h | h
      · exact wpOps_of_ord R5 h5 hC _ h g5
      · exact wpOps_of_ord R6 h6 hC _ h g6
end
end Go.Proofs.Ytifbigmgiakakaa

/- What a world holds while codes of dual are written behind each other. -/
namespace Go.Proofs.Ytifbigmgiakakaa
open Go.RowKit Cad

/-- numbers stay where a variable that holds bits is written -/
theorem Row.boxU {w : World} {a a' : Option Addr} {len cap n' c' : Nat} {l : List Int} {x : Nat} {N : Int} (h : Row .u32 w a len cap l) (hx : BoxAt w x (.slice a' n' c') N) (o : Nat) (u : Value) : Row .u32 (w.setCell ⟨x, o, none⟩ u) a len cap l := by
  refine ⟨h.hlen, h.hcap, h.hmax, h.wf, fun hp => ?_, h.nil⟩
  obtain ⟨b, off, rfl, hlt, hc⟩ := h.cells hp
  have hne : b ≠ x := by
    rintro rfl
    have h0 := hc 0 hp
    unfold World.cell? at h0
    unfold BoxAt at hx
    rw [hx] at h0
    match off, h0 with
    | 0, h0 => simp at h0
    | 1, h0 => simp at h0
    | off + 2, h0 => simp at h0
  refine ⟨b, off, rfl, by simpa using hlt, fun i hi => ?_⟩
  rw [← hc i hi]
  unfold World.cell?
  rw [Below.heap_setCell _ _ _ _ (by simpa using hne)]

structure SidesAt (W : World) (aa : Option Addr) (len cap : Nat) (N : Int) (D : Du) (al : Option Addr) (ll cl : Nat) (l : List Int) (xb xn : Nat) (w : World) (au : Option Addr) (L cu : Nat) (M : Int) (X : List Bool) (E : Du) : Prop where
  f : BoxAt w W.heap.size (.slice aa len cap) N
  d : DuAt w (W.heap.size + 1) D.k0 D.k1 D.s0 D.s1
  b : BoxAt w xb (.slice au L cu) M
  n : DuAt w xn E.k0 E.k1 E.s0 E.s1
  r : Row .u8 w au L cu (pack X)
  l : Row .u32 w al ll cl l
  w : Below W.heap.size W w
section
variable {W : World} {aa : Option Addr} {len cap : Nat} {N : Int} {D : Du} {al : Option Addr} {ll cl : Nat} {l : List Int} {xb xn : Nat} {w w' : World} {au : Option Addr} {L cu : Nat} {M : Int} {X : List Bool} {E : Du}
theorem SidesAt.below (h : SidesAt W aa len cap N D al ll cl l xb xn w au L cu M X E) (hb : Below w.heap.size w w') : SidesAt W aa len cap N D al ll cl l xb xn w' au L cu M X E :=
  ⟨h.f.below hb h.f.lt, h.d.below hb h.d.lt, h.b.below hb h.b.lt, h.n.below hb h.n.lt, h.r.below hb (Nat.le_refl _), h.l.below hb (Nat.le_refl _), h.w.trans (hb.mono h.w.size)⟩
/-- both variables are written -/
theorem SidesAt.next (h : SidesAt W aa len cap N D al ll cl l xb xn w au L cu M X E) (h1 : W.heap.size + 1 < xb) (h2 : W.heap.size + 1 < xn) (hne : xb ≠ xn) {b' : Option Addr} {L' c' : Nat} {M' : Int} {X' : List Bool} (E' : Du) (hr : Row .u8 w b' L' c' (pack X')) :
    SidesAt W aa len cap N D al ll cl l xb xn ((((((w.setCell ⟨xb, 0, none⟩ (.slice b' L' c')).setCell ⟨xb, 1, none⟩ (.int .i64 M')).setCell ⟨xn, 0, none⟩ (.int .i64 E'.k0)).setCell ⟨xn, 1, none⟩ (.int .i64 E'.k1)).setCell ⟨xn, 2, none⟩ (.int .u64 E'.s0)).setCell ⟨xn, 3, none⟩ (.int .u64 E'.s1)) b' L' c' M' X' E' := by
  obtain ⟨o1, o2, o3, o4⟩ := outs h.b h.n hne b' L' c' M' E'.k0 E'.k1 E'.s0 E'.s1
  have hp2 := (h.n.other (p := ⟨xb, 0, none⟩) hne.symm (.slice b' L' c')).other (p := ⟨xb, 1, none⟩) hne.symm (.int .i64 M')
  refine ⟨?_, ?_, o1, o2, o4 hr, ?_, o3 h.w (by omega) (by omega)⟩
  · exact (((((h.f.other (by simp; omega) _).other (by simp; omega) _).other (by simp; omega) _).other (by simp; omega) _).other (by simp; omega) _).other (by simp; omega) _
  · exact (((((h.d.other (by simp; omega) _).other (by simp; omega) _).other (by simp; omega) _).other (by simp; omega) _).other (by simp; omega) _).other (by simp; omega) _
  · have r1 := (h.l.boxU h.b 0 (.slice b' L' c')).boxU (h.b.set0 _) 1 (.int .i64 M')
    exact (((r1.boxD (.inr rfl) hp2 0 _).boxD (.inr rfl) (hp2.set0 _) 1 _).boxD (.inr rfl) ((hp2.set0 _).set1 _) 2 _).boxD (.inr rfl) (((hp2.set0 _).set1 _).set2 _) 3 _
end
end Go.Proofs.Ytifbigmgiakakaa

/- Lists of numbers coded, state after state, as lists of Bools: no Go function in sight. -/
namespace Cad
open Go.Proofs.Ytifbigmgiakakaa

/-- the first state -/
def dStart : Du := ⟨10, 10, 16384, 16384⟩
theorem dStart_ok : dStart.ok := ⟨by decide, by decide, by decide, by decide⟩

/-- what was read ahead, put in front -/
def glue (l : List Nat) (r : List Nat × Nat × Nat) : List Nat × Nat × Nat := if r.2.2 ≠ 0 then ([], 0, r.2.2) else (l ++ r.1, r.2.1, 0)
/-- n numbers that are read from index i on: the numbers, the index behind them, the error -/
def decD (B : List Bool) : Nat → Nat → Du → List Nat × Nat × Nat
  | 0, i, _ => ([], i, 0)
  | n + 1, i, d => if (readD B i d).2.2 ≠ 0 then ([], 0, (readD B i d).2.2) else glue [(readD B i d).1] (decD B n (readD B i d).2.1 (learnD d (readD B i d).1))
theorem glue_er (l m : List Nat) (p : Nat) {er : Nat} (h : er ≠ 0) : glue l (m, p, er) = ([], 0, er) := if_pos h
theorem glue_ok (l m : List Nat) (p : Nat) : glue l (m, p, 0) = (l ++ m, p, 0) := if_neg (fun h => h rfl)
theorem decD_zero (B : List Bool) (i : Nat) (d : Du) : decD B 0 i d = ([], i, 0) := rfl
theorem decD_er {B : List Bool} {n i : Nat} {d : Du} {v p er : Nat} (h : readD B i d = (v, p, er)) (he : er ≠ 0) : decD B (n + 1) i d = ([], 0, er) := by
  rw [decD, h, if_pos he]
theorem decD_ok {B : List Bool} {n i : Nat} {d : Du} {v p : Nat} (h : readD B i d = (v, p, 0)) : decD B (n + 1) i d = glue [v] (decD B n p (learnD d v)) := by
  rw [decD, h, if_neg (fun h => h rfl)]
theorem glue_glue (l m : List Nat) (r : List Nat × Nat × Nat) : glue l (glue m r) = glue (l ++ m) r := by
  obtain ⟨x, p, er⟩ := r
  by_cases he : er = 0
  · subst he; rw [glue_ok, glue_ok, glue_ok, List.append_assoc]
  · rw [glue_er _ _ _ he, glue_er _ _ _ he, glue_er _ _ _ he]

/-- codes behind each other are read -/
theorem dec_codes : ∀ (l : List Nat) (A C : List Bool) (d : Du), (∀ x ∈ l, x < 4294967296) → decD (A ++ codesD d l ++ C) l.length A.length d = (l, A.length + (codesD d l).length, 0)
  | [], A, C, d, _ => by rw [List.length_nil, decD_zero]; rfl
  | v :: l, A, C, d, h => by
    have hv := h v (List.mem_cons_self ..)
    have e : A ++ codesD d (v :: l) ++ C = A ++ dualB d v ++ (codesD (learnD d v) l ++ C) := by simp [codesD]
    have h1 := read_dual A (codesD (learnD d v) l ++ C) hv (d := d)
    rw [← e] at h1
    rw [List.length_cons, decD_ok h1]
    have e2 : A ++ codesD d (v :: l) ++ C = (A ++ dualB d v) ++ codesD (learnD d v) l ++ C := by simp [codesD]
    have ih := dec_codes l (A ++ dualB d v) C (learnD d v) fun x hx => h x (List.mem_cons_of_mem _ hx)
    rw [List.length_append, dualB_len] at ih
    rw [e2, ih, glue_ok]
    simp [codesD, dualB_len, Nat.add_assoc]

/-- what is decoded has just these codes -/
theorem dec_is : ∀ (n : Nat) {B : List Bool} {i : Nat} {d : Du} {l : List Nat} {p : Nat}, decD B n i d = (l, p, 0) → i ≤ B.length → d.ok →
    l.length = n ∧ (∀ x ∈ l, x < 4294967296) ∧ p = i + (codesD d l).length ∧ p ≤ B.length ∧ midB B i p = codesD d l
  | 0, B, i, d, l, p, h, hi, _ => by
    rw [decD_zero] at h; cases h
    exact ⟨rfl, fun x hx => (by cases hx), by simp [codesD], hi, by simp [midB, codesD]⟩
  | n + 1, B, i, d, l, p, h, hi, hd => by
    obtain ⟨v, q, er, hr⟩ : ∃ v q er, readD B i d = (v, q, er) := ⟨_, _, _, rfl⟩
    by_cases he : er = 0
    · subst he
      rw [decD_ok hr] at h
      obtain ⟨hv, hq, hqB, hm⟩ := dual_is hr hi hd.1 hd.2.1
      obtain ⟨m, p2, er2, h2⟩ : ∃ m p2 er2, decD B n q (learnD d v) = (m, p2, er2) := ⟨_, _, _, rfl⟩
      rw [h2] at h
      by_cases he2 : er2 = 0
      · subst he2
        rw [glue_ok] at h; cases h
        obtain ⟨h3, h4, h5, h6, h7⟩ := dec_is n h2 hqB (learnD_ok hd hv)
        refine ⟨by simp [h3], fun x hx => ?_, ?_, h6, ?_⟩
        · rcases List.mem_append.1 hx with hx | hx
          · rw [List.mem_singleton] at hx; rw [hx]; exact hv
          · exact h4 x hx
        · simp [codesD, dualB_len]; omega
        · simp only [List.singleton_append, codesD]
          rw [← hm, ← h7]
          unfold midB
          have e : B.drop q = (B.drop i).drop (q - i) := by rw [List.drop_drop]; congr 1; omega
          rw [e, show p - i = (q - i) + (p - q) by omega, List.take_add]
      · rw [glue_er _ _ _ he2] at h; cases h; exact absurd rfl he2
    · rw [decD_er hr he] at h; cases h; exact absurd rfl he
/-- what is refused -/
theorem dec_no : ∀ (n : Nat) {B : List Bool} {i : Nat} {d : Du} {l : List Nat} {p er : Nat}, decD B n i d = (l, p, er) → er ≠ 0 → i ≤ B.length → d.ok → l = [] ∧ p = 0 ∧ (er = 24 ∨ er = 12)
  | 0, B, i, d, l, p, er, h, he, _, _ => by rw [decD_zero] at h; cases h; exact absurd rfl he
  | n + 1, B, i, d, l, p, er, h, he, hi, hd => by
    obtain ⟨v, q, e, hr⟩ : ∃ v q er, readD B i d = (v, q, er) := ⟨_, _, _, rfl⟩
    by_cases h0 : e = 0
    · subst h0
      rw [decD_ok hr] at h
      obtain ⟨hv, hq, hqB, hm⟩ := dual_is hr hi hd.1 hd.2.1
      obtain ⟨m, p2, er2, h2⟩ : ∃ m p2 er2, decD B n q (learnD d v) = (m, p2, er2) := ⟨_, _, _, rfl⟩
      rw [h2] at h
      by_cases he2 : er2 = 0
      · subst he2; rw [glue_ok] at h; cases h; exact absurd rfl he
      · rw [glue_er _ _ _ he2] at h; cases h
        exact ⟨rfl, rfl, (dec_no n h2 he2 hqB (learnD_ok hd hv)).2.2⟩
    · rw [decD_er hr h0] at h; cases h
      obtain ⟨-, -, h3⟩ := dual_no hr h0 hd.1 hd.2.1
      exact ⟨rfl, rfl, by omega⟩
/-- what is decoded is decoded, whatever stands behind it -/
theorem dec_more {B : List Bool} {n i : Nat} {d : Du} {l : List Nat} {p : Nat} (h : decD B n i d = (l, p, 0)) (hi : i ≤ B.length) (hd : d.ok) (C : List Bool) : decD (B ++ C) n i d = (l, p, 0) := by
  obtain ⟨hn, hl, hp, hpB, hm⟩ := dec_is n h hi hd
  have e : B = B.take i ++ codesD d l ++ B.drop p := by
    rw [← hm]
    unfold midB
    have h1 : B.drop p = (B.drop i).drop (p - i) := by rw [List.drop_drop]; congr 1; omega
    rw [h1, List.append_assoc, List.take_append_drop, List.take_append_drop]
  have hlen : (B.take i).length = i := by rw [List.length_take]; omega
  have := dec_codes l (B.take i) (B.drop p ++ C) d hl
  rw [← List.append_assoc, ← e, hlen, hn] at this
  rw [this, hp]
/-- a part of the codes: the first numbers that are whole, and no more -/
theorem dec_part {l : List Nat} {d : Du} {left n : Nat} (hl : ∀ x ∈ l, x < 4294967296) (hd : d.ok) (hleft : left ≤ (codesD d l).length) (hn : n ≤ l.length) :
    ((codesD d (l.take n)).length ≤ left → decD ((codesD d l).take left) n 0 d = (l.take n, (codesD d (l.take n)).length, 0)) ∧
    (left < (codesD d (l.take n)).length → decD ((codesD d l).take left) n 0 d = ([], 0, 24)) := by
  have hs : codesD d l = codesD d (l.take n) ++ codesD (after d (l.take n)) (l.drop n) := by rw [← codesD_append, List.take_append_drop]
  have ht : ∀ x ∈ l.take n, x < 4294967296 := fun x hx => hl x (List.mem_of_mem_take hx)
  have hlen : (l.take n).length = n := by rw [List.length_take]; omega
  constructor
  · intro h
    have e : (codesD d l).take left = [] ++ codesD d (l.take n) ++ (codesD (after d (l.take n)) (l.drop n)).take (left - (codesD d (l.take n)).length) := by
      rw [hs, List.take_append, List.take_of_length_le h, List.nil_append]
    have := dec_codes (l.take n) [] ((codesD (after d (l.take n)) (l.drop n)).take (left - (codesD d (l.take n)).length)) d ht
    rw [← e, hlen, List.length_nil, Nat.zero_add] at this
    exact this
  · intro h
    obtain ⟨m, p, er, hr⟩ : ∃ m p er, decD ((codesD d l).take left) n 0 d = (m, p, er) := ⟨_, _, _, rfl⟩
    by_cases he : er = 0
    · exfalso
      subst he
      have h1 := dec_more hr (Nat.zero_le _) hd ((codesD d l).drop left)
      rw [List.take_append_drop] at h1
      have h2 := dec_codes (l.take n) [] (codesD (after d (l.take n)) (l.drop n)) d ht
      rw [List.nil_append, ← hs, hlen, List.length_nil, Nat.zero_add, h1] at h2
      cases h2
      obtain ⟨-, -, -, hp, -⟩ := dec_is n hr (Nat.zero_le _) hd
      rw [List.length_take] at hp
      omega
    · -- cut off, so too short: the form of what is there is that of codes
      have key : ∀ (l : List Nat) (d : Du) (left n : Nat), (∀ x ∈ l, x < 4294967296) → d.ok → n ≤ l.length → ∀ (A : List Bool) (m : List Nat) (p er : Nat), decD (A ++ (codesD d l).take left) n A.length d = (m, p, er) → er ≠ 0 → er = 24 := by
        intro l
        induction l with
        | nil =>
          intro d left n _ _ hn A m p er h he
          obtain rfl : n = 0 := by simpa using hn
          rw [decD_zero] at h; cases h; exact absurd rfl he
        | cons v l ih =>
          intro d left n hl hd hn A m p er h he
          cases n with
          | zero => rw [decD_zero] at h; cases h; exact absurd rfl he
          | succ n =>
            have hv := hl v (List.mem_cons_self ..)
            by_cases hlt : left < dualLen d v
            · have e : (codesD d (v :: l)).take left = (dualB d v).take left := by
                simp only [codesD]
                rw [List.take_append_of_le_length (by rw [dualB_len]; omega)]
              rw [e] at h
              obtain ⟨v', q, e', hr⟩ : ∃ v' q er, readD (A ++ (dualB d v).take left) A.length d = (v', q, er) := ⟨_, _, _, rfl⟩
              have hno : e' ≠ 0 := by
                rintro rfl
                have h1 := dual_more hr (by simp) hd.1 hd.2.1 ((dualB d v).drop left)
                rw [List.append_assoc, List.take_append_drop] at h1
                have h2 := read_dual A [] hv (d := d)
                rw [List.append_nil, h1] at h2
                cases h2
                obtain ⟨-, -, hpB, -⟩ := dual_is hr (by simp) hd.1 hd.2.1
                rw [List.length_append, List.length_take, dualB_len] at hpB
                omega
              rw [decD_er hr hno] at h
              cases h
              obtain ⟨-, -, h3⟩ := dual_no hr hno hd.1 hd.2.1
              rcases h3 with h3 | ⟨-, h3⟩
              · exact h3
              · rw [List.length_append, List.length_take, dualB_len] at h3
                have := dualLen_le hd.1 hd.2.1 v
                omega
            · have e : A ++ (codesD d (v :: l)).take left = (A ++ dualB d v) ++ (codesD (learnD d v) l).take (left - dualLen d v) := by
                simp only [codesD]
                rw [List.take_append, dualB_len, List.take_of_length_le (by rw [dualB_len]; omega), List.append_assoc]
              have hr := read_dual A ((codesD (learnD d v) l).take (left - dualLen d v)) hv (d := d)
              rw [e] at h
              rw [decD_ok hr] at h
              obtain ⟨m2, p2, er2, h2⟩ : ∃ m p er, decD ((A ++ dualB d v) ++ (codesD (learnD d v) l).take (left - dualLen d v)) n (A.length + dualLen d v) (learnD d v) = (m, p, er) := ⟨_, _, _, rfl⟩
              rw [h2] at h
              by_cases he2 : er2 = 0
              · subst he2; rw [glue_ok] at h; cases h; exact absurd rfl he
              · rw [glue_er _ _ _ he2] at h; cases h
                refine ih (learnD d v) (left - dualLen d v) n (fun x hx => hl x (List.mem_cons_of_mem _ hx)) (learnD_ok hd hv) (by simpa using hn) (A ++ dualB d v) m2 p2 _ ?_ he2
                rw [List.length_append, dualB_len]; exact h2
      have h24 := key l d left n hl hd hn [] m p er (by simpa using hr) he
      subst h24
      obtain ⟨rfl, rfl, -⟩ := dec_no n hr he (Nat.zero_le _) hd
      exact hr

/-! ### zeros -/
def dec1 (s : Nat) : Nat := s - s / 16
def decs : Nat → Nat → Nat
  | 0, s => s
  | n + 1, s => decs n (dec1 s)
theorem dec1_mono {a b : Nat} (h : a ≤ b) : dec1 a ≤ dec1 b := by unfold dec1; omega
theorem decs_mono : ∀ (n : Nat) {a b : Nat}, a ≤ b → decs n a ≤ decs n b
  | 0, _, _, h => h
  | n + 1, _, _, h => decs_mono n (dec1_mono h)
theorem decs_small : decs 400 68719476735 ≤ 15 := by decide +kernel
theorem learn_zero (d : Du) : learnD d 0 = ⟨pairK d.k0 (dec1 d.s0), d.k1, dec1 d.s0, d.s1⟩ := by
  rw [learnD_low (Nat.pow_pos (by decide))]; rfl
theorem dec1_le (s : Nat) : dec1 s ≤ s := Nat.sub_le _ _
theorem decs_le : ∀ (n s : Nat), decs n s ≤ s
  | 0, s => Nat.le_refl s
  | n + 1, s => Nat.le_trans (decs_le n (dec1 s)) (dec1_le s)
theorem decs_add : ∀ (n m s : Nat), decs (n + m) s = decs m (decs n s)
  | 0, m, s => by rw [Nat.zero_add]; rfl
  | n + 1, m, s => by rw [show n + 1 + m = (n + m) + 1 by omega]; exact decs_add n m (dec1 s)
theorem after_cons (d : Du) (v : Nat) (l : List Nat) : after d (v :: l) = after (learnD d v) l := rfl
theorem zeros_s : ∀ (n : Nat) (d : Du), (after d (List.replicate n 0)).s0 = decs n d.s0 ∧ (after d (List.replicate n 0)).k1 = d.k1 ∧ (after d (List.replicate n 0)).s1 = d.s1
  | 0, d => ⟨rfl, rfl, rfl⟩
  | n + 1, d => by
    rw [List.replicate_succ, after_cons]
    obtain ⟨h1, h2, h3⟩ := zeros_s n (learnD d 0)
    rw [h1, h2, h3, learn_zero]
    exact ⟨rfl, rfl, rfl⟩
theorem pair_small {k s : Nat} (hs : s ≤ 15) : pairK k s = k - 1 := by
  unfold pairK
  by_cases hk : 0 < k
  · have h1 : 2 ^ 5 ≤ 2 ^ (k + 4) := Nat.pow_le_pow_right (by decide) (by omega)
    rw [if_pos ⟨hk, by omega⟩]
  · obtain rfl : k = 0 := by omega
    rw [if_neg (by omega), if_neg (by omega)]
theorem zeros_k : ∀ (n : Nat) (d : Du), d.s0 ≤ 15 → (after d (List.replicate n 0)).k0 = d.k0 - n
  | 0, d, _ => rfl
  | n + 1, d, h => by
    have h1 : dec1 d.s0 ≤ 15 := Nat.le_trans (dec1_le _) h
    rw [List.replicate_succ, after_cons, zeros_k n (learnD d 0) (by rw [learn_zero]; exact h1), learn_zero, pair_small h1]
    show d.k0 - 1 - n = d.k0 - (n + 1)
    omega
theorem rep_add (a b : Nat) : List.replicate (a + b) (0 : Nat) = List.replicate a 0 ++ List.replicate b 0 := by simp
/-- behind 500 zeros the first K is 0 -/
theorem zeros_end {n : Nat} {d : Du} (hd : d.ok) (hn : 500 ≤ n) : (after d (List.replicate n 0)).k0 = 0 := by
  obtain ⟨m, rfl⟩ : ∃ m, n = 400 + m := ⟨n - 400, by omega⟩
  have e := rep_add 400 m
  have h1 : (after d (List.replicate 400 0)).s0 ≤ 15 := by
    rw [(zeros_s 400 d).1]
    exact Nat.le_trans (decs_mono 400 hd.2.2.1) decs_small
  have h2 : (after d (List.replicate 400 0)).ok := after_ok _ hd fun x hx => by rw [List.eq_of_mem_replicate hx]; decide
  have h3 := h2.1
  rw [e, after_append, zeros_k m _ h1]
  omega
/-- zeros from a state whose first K is at most 10 and not too small: at most 11 bits each -/
theorem zeros_len : ∀ (n : Nat) (d : Du), d.k0 ≤ 10 → d.s0 ≤ 2 ^ (d.k0 + 5) → (codesD d (List.replicate n 0)).length ≤ 11 * n
  | 0, d, _, _ => by simp [codesD]
  | n + 1, d, hk, hs => by
    have h0 : 0 < 2 ^ d.k0 := Nat.pow_pos (by decide)
    have hs' : dec1 d.s0 ≤ 2 ^ (d.k0 + 5) := Nat.le_trans (dec1_le _) hs
    have step : pairK d.k0 (dec1 d.s0) ≤ 10 ∧ dec1 d.s0 ≤ 2 ^ (pairK d.k0 (dec1 d.s0) + 5) := by
      unfold pairK
      split
      · rename_i h
        refine ⟨by omega, ?_⟩
        rw [show d.k0 - 1 + 5 = d.k0 + 4 by omega]
        exact Nat.le_of_lt h.2
      · split
        · rename_i h; omega
        · exact ⟨hk, hs'⟩
    have ih := zeros_len n (learnD d 0) (by rw [learn_zero]; exact step.1) (by rw [learn_zero]; exact step.2)
    rw [List.replicate_succ]
    simp only [codesD, List.length_append, dualB_len]
    rw [dualLen_low h0]
    omega
theorem zeros_start (n : Nat) : (codesD dStart (List.replicate n 0)).length ≤ 11 * n := zeros_len n dStart (by decide) (by decide)
end Cad

/- Contracts of the reference of coder: comparisons, the code of numbers. -/
namespace Go.Proofs.Ytifbigmgiakakaa
open Go.RowKit Cad

theorem CSame_ok (W : World) (a : Option Addr) (len cap : Nat) (l : List Int) (hr : Row .u32 W a len cap l) (a' : Option Addr) (len' cap' : Nat) (l' : List Int) (hr' : Row .u32 W a' len' cap' l') :
    Calls Try.prog 21 #[.slice a len cap, .slice a' len' cap'] W fun e W' => e = .returned (.bool (decide (l = l'))) ∧ Below W.heap.size W W' := by
  have hmx := Nat.le_trans hr.hcap hr.hmax
  have hmx' := Nat.le_trans hr'.hcap hr'.hmax
  unfold maxLen at hmx hmx'
  have hln := Go.Lib.hid hr.hlen
  have hln' := Go.Lib.hid hr'.hlen
  have hR := Go.Lib.hid hr
  have hR' := Go.Lib.hid hr'
  clear hr hr'
  by_cases hne : len = len'
  · subst hne
    go_enter Try.func21, Try.ntmps21
    go_wp2
    go_loopw [5] (fun i wr => ∃ k : Nat, k ≤ len ∧ i = .int .i64 k ∧ Hid (l.take k = l'.take k) ∧ Below W.heap.size W wr) (fun i _ => len - (intOf i).toNat)
    case atStart => exact ⟨0, by omega, rfl, Go.Lib.hid rfl, Below.refl _ _⟩
    case round =>
      obtain ⟨k, hk, rfl, hpre, hb⟩ := hrel
      by_cases hlt : k < len
      · obtain ⟨b, off, rfl, hbl, hc⟩ := (hR.out.below hb (Nat.le_refl _)).cells (by omega)
        obtain ⟨b', off', rfl, hbl', hc'⟩ := (hR'.out.below hb (Nat.le_refl _)).cells (by omega)
        have hcell := hc k hlt
        have hcell' := hc' k hlt
        obtain ⟨x, hx⟩ : ∃ x, x = l.getD k 0 := ⟨_, rfl⟩
        obtain ⟨y, hy⟩ : ∃ y, y = l'.getD k 0 := ⟨_, rfl⟩
        rw [← hx] at hcell
        rw [← hy] at hcell'
        have hX := Go.Lib.hid hx
        have hY := Go.Lib.hid hy
        clear hc hc' hx hy
        by_cases he : x = y
        · subst he
          have hnext := Go.Lib.hid (take_next hpre.out (by rw [hln.out]; exact hlt) (by rw [hln'.out]; exact hlt) (hX.out.symm.trans hY.out))
          go_wp2
          go_quiet (fail)
          go_wp2
          go_roundw
          case rel => exact ⟨k + 1, by omega, by go_num, hnext, Below.drewN hb _⟩
          case measure => (simp [intOf] <;> omega)
        · have hneq : Hid (l ≠ l') := Go.Lib.hid fun e => he (by rw [hX.out, hY.out, e])
          go_wp2
          go_quiet (fail)
          go_wp2
          go_ret
          exact ⟨ret_bool (decide_eq_false hneq.out).symm, Below.drewN hb _⟩
      · obtain rfl : k = len := by omega
        have heq : Hid (l = l') := Go.Lib.hid (by
          have := hpre.out
          rwa [List.take_of_length_le (by rw [hln.out]; exact Nat.le_refl _), List.take_of_length_le (by rw [hln'.out]; exact Nat.le_refl _)] at this)
        go_wp2
        go_ret
        exact ⟨ret_bool (decide_eq_true heq.out).symm, hb⟩
  · have hneq : Hid (l ≠ l') := Go.Lib.hid fun e => hne (by rw [← hln.out, ← hln'.out, e])
    go_enter Try.func21, Try.ntmps21
    go_wp2
    go_ret
    exact ⟨ret_bool (decide_eq_false hneq.out).symm, Below.refl _ _⟩

theorem CGreat_ok (W : World) (a : Option Addr) (len cap : Nat) (hl : len ≤ 9223372036854775807) (q : Bool) (hq : decide ((150 < len ∧ len ≤ 4000) ∨ 4010 < len) = q) :
    Calls Try.prog 17 #[.slice a len cap] W fun e W' => e = .returned (.bool q) ∧ W = W' := by
  have key : (¬ (150 : Int) < len ∧ q = false) ∨ ((150 : Int) < len ∧ (len : Int) ≤ 4000 ∧ q = true) ∨ ((150 : Int) < len ∧ ¬ (len : Int) ≤ 4000 ∧ ¬ (4010 : Int) < len ∧ q = false) ∨ ((150 : Int) < len ∧ ¬ (len : Int) ≤ 4000 ∧ (4010 : Int) < len ∧ q = true) := by
    rw [← hq]
    by_cases h1 : 150 < len <;> by_cases h2 : len ≤ 4000 <;> by_cases h3 : 4010 < len <;> simp [h1, h2, h3] <;> omega
  clear hq
  rcases key with ⟨h1, rfl⟩ | ⟨h1, h2, rfl⟩ | ⟨h1, h2, h3, rfl⟩ | ⟨h1, h2, h3, rfl⟩
  all_goals
    go_enter Try.func17, Try.ntmps17
    go_wp2
    go_ret
    exact ⟨by first | rfl | (simp; omega) | simp, rfl⟩

theorem results_bits_du {fn : Func} {p q : Tmp} (h : fn.results = #[.cell p 24, .cell q 31]) (tmps : Array Value) (w : World) (x y : Nat) (v : Value) (N a b c d : Int) (hp : tmps.getD p undef = .pointer (some ⟨x, 0, none⟩)) (hq : tmps.getD q undef = .pointer (some ⟨y, 0, none⟩)) (hx : BoxAt w x v N) (hy : DuAt w y a b c d) :
    (results fn tmps).run Try.prog w = .ok (.tuple #[.agg #[v, .int .i64 N], .agg #[.int .i64 a, .int .i64 b, .int .u64 c, .int .u64 d]]) w := by
  have h1 := run_loadVar_row (P := Try.prog) w x _ 24 _ _ _ hx Try.underlying24 rfl (by kernel_rfl)
  have h2 := run_loadVar_row (P := Try.prog) w y _ 31 _ _ _ hy Try.underlying31 rfl (by kernel_rfl)
  have hp' : tmps[p]?.getD undef = .pointer (some ⟨x, 0, none⟩) := by simpa using hp
  have hq' : tmps[q]?.getD undef = .pointer (some ⟨y, 0, none⟩) := by simpa using hq
  simp [results, h, hp', hq', asAddr, Sem.run_bind, h1, h2]

set_option maxRecDepth 100000 in
set_option maxHeartbeats 800000 in
theorem Coded_ok (W : World) (al : Option Addr) (ll cl : Nat) (l : List Int) (m : List Nat) (hl : Row .u32 W al ll cl l) (h4 : ll ≤ 4000) (hm : m.length = ll) (hml : ∀ k, k < ll → l.getD k 0 = ((m.getD k 0 : Nat) : Int)) (hm32 : ∀ x ∈ m, x < 4294967296) :
    Calls Try.prog 37 #[.slice al ll cl] W fun e W' => ∃ b c, e = .returned (.tuple #[.agg #[.slice b (((codesD dStart m).length + 7) / 8) c, .int .i64 (codesD dStart m).length], .agg #[.int .i64 (after dStart m).k0, .int .i64 (after dStart m).k1, .int .u64 (after dStart m).s0, .int .u64 (after dStart m).s1]]) ∧
      Row .u8 W' b (((codesD dStart m).length + 7) / 8) c (pack (codesD dStart m)) ∧ Below W.heap.size W W' := by
  have st := Go.Lib.hid Rstart_ok
  obtain ⟨Ef, hEf⟩ : ∃ E, E = after dStart m := ⟨_, rfl⟩
  obtain ⟨Xf, hXf⟩ : ∃ X, X = codesD dStart m := ⟨_, rfl⟩
  obtain ⟨Lf, hLf⟩ : ∃ L, L = (Xf.length + 7) / 8 := ⟨_, rfl⟩
  obtain ⟨Nf, hNf⟩ : ∃ N, N = Xf.length := ⟨_, rfl⟩
  rw [← hEf, ← hXf, ← hLf, ← hNf]
  replace hEf := Go.Lib.hid hEf
  replace hXf := Go.Lib.hid hXf
  replace hLf := Go.Lib.hid hLf
  replace hNf := Go.Lib.hid hNf
  have hsize : Hid (∀ k, k ≤ ll → (codesD dStart (m.take k)).length ≤ 81 * k) := Go.Lib.hid fun k hk => by
    have := codesD_len_le (m.take k) dStart_ok (fun x hx => hm32 x (List.mem_of_mem_take hx))
    rw [List.length_take] at this
    omega
  have hev : Hid (∀ k, (after dStart (m.take k)).ok) := Go.Lib.hid fun k => after_ok _ dStart_ok fun x hx => hm32 x (List.mem_of_mem_take hx)
  have h32 : Hid (∀ k, k < ll → m.getD k 0 < 4294967296) := Go.Lib.hid fun k hk => hm32 _ (by rw [show m.getD k 0 = m[k] by simp [List.getD, show k < m.length by omega]]; exact List.getElem_mem _)
  have hm' := Go.Lib.hid hm
  have hml' := Go.Lib.hid hml
  have hl' := Go.Lib.hid hl
  have hl4 : (ll : Int) ≤ 4000 := by omega
  clear hm hml hm32 hl
  go_enter Try.func37, Try.ntmps37
  go_wp2_with (go_at_call 38; refine (st.out _).mono ?_; rintro e w1 ⟨rfl, hb1⟩; have hb1' := Go.Lib.hid hb1; clear hb1)
  have hE : Below W.heap.size W (((W.alloc (.cells #[.slice none 0 0, .int .i64 0] 24)).alloc (.cells #[.int .i64 0, .int .i64 0, .int .u64 0, .int .u64 0] 31)).alloc (.cells #[.slice none 0 0, .int .i64 0] 24)) := (((below1 W _).alloc (below1 W _).size _).alloc ((below1 W _).alloc (below1 W _).size _).size _)
  have hs3 : (((W.alloc (.cells #[.slice none 0 0, .int .i64 0] 24)).alloc (.cells #[.int .i64 0, .int .i64 0, .int .u64 0, .int .u64 0] 31)).alloc (.cells #[.slice none 0 0, .int .i64 0] 24)).heap.size = W.heap.size + 1 + 1 + 1 := by simp
  have b2 : BoxAt w1 W.heap.size (.slice none 0 0) 0 := (((box1 W (.slice none 0 0) 0).alloc (.cells #[.int .i64 0, .int .i64 0, .int .u64 0, .int .u64 0] 31)).alloc (.cells #[.slice none 0 0, .int .i64 0] 24)).below hb1'.out (by omega)
  have d3 : DuAt w1 (W.heap.size + 1) 0 0 0 0 := ((duat2 W (.cells #[.slice none 0 0, .int .i64 0] 24) 0 0 0 0).alloc (.cells #[.slice none 0 0, .int .i64 0] 24)).below hb1'.out (by omega)
  have b4 : BoxAt w1 (W.heap.size + 1 + 1) (.slice none 0 0) 0 := by
    have h := box1 ((W.alloc (.cells #[.slice none 0 0, .int .i64 0] 24)).alloc (.cells #[.int .i64 0, .int .i64 0, .int .u64 0, .int .u64 0] 31)) (.slice none 0 0) 0
    have e : ((W.alloc (.cells #[.slice none 0 0, .int .i64 0] 24)).alloc (.cells #[.int .i64 0, .int .i64 0, .int .u64 0, .int .u64 0] 31)).heap.size = W.heap.size + 1 + 1 := by simp
    rw [e] at h
    exact h.below hb1'.out (by omega)
  have hW1 : Below W.heap.size W w1 := hE.trans (hb1'.out.mono (by omega))
  have hsz1 : W.heap.size + 1 + 1 + 1 ≤ w1.heap.size := by have := hb1'.out.size; omega
  obtain ⟨w2, hw2⟩ : ∃ w, w = w1.alloc (.cells #[.int .i64 10, .int .i64 10, .int .u64 16384, .int .u64 16384] 31) := ⟨_, rfl⟩
  have b2' : BoxAt w2 W.heap.size (.slice none 0 0) 0 := by rw [hw2]; exact b2.alloc _
  have d3' : DuAt w2 (W.heap.size + 1) 0 0 0 0 := by rw [hw2]; exact d3.alloc _
  have b4' : BoxAt w2 (W.heap.size + 1 + 1) (.slice none 0 0) 0 := by rw [hw2]; exact b4.alloc _
  have d5' : DuAt w2 w1.heap.size 10 10 16384 16384 := by rw [hw2]; exact duat1 w1 _ _ _ _
  have hW2 : Below W.heap.size W w2 := by rw [hw2]; exact hW1.alloc hW1.size _
  try rw [← hw2]
  obtain ⟨x5, hx5⟩ : ∃ x, x = w1.heap.size := ⟨_, rfl⟩
  rw [← hx5] at d5' hsz1
  try rw [← hx5]
  clear hw2 hx5 hE hs3 b2 d3 b4 hW1 hb1'
  have b2h := Go.Lib.hid b2'
  have d3h := Go.Lib.hid d3'
  have b4h := Go.Lib.hid b4'
  have d5h := Go.Lib.hid d5'
  have hW2h := Go.Lib.hid hW2
  clear b2' d3' b4' d5' hW2
  go_wp2
  go_loopg [6] ll (fun g i wr => ∃ (k : Nat) (v : Value), k ≤ ll ∧ g = ll - k ∧ i = .int .i64 k ∧ wr.ownsRow W.heap.size 5 1 v (((codesD dStart (m.take k)).length + 7) / 8) (nums .u8 (pack (codesD dStart (m.take k)))) ∧ BoxAt wr (W.heap.size + 1 + 1) v (codesD dStart (m.take k)).length ∧ DuAt wr x5 ((after dStart (m.take k)).k0 : Int) ((after dStart (m.take k)).k1 : Int) ((after dStart (m.take k)).s0 : Int) ((after dStart (m.take k)).s1 : Int) ∧
    BoxAt wr W.heap.size (.slice none 0 0) 0 ∧ DuAt wr (W.heap.size + 1) 0 0 0 0 ∧ Below W.heap.size W wr)
  case atStart =>
    refine ⟨0, .slice none 0 0, Nat.zero_le _, rfl, rfl, ?_, ?_, ?_, b2h.out, d3h.out, hW2h.out⟩
    · exact ⟨by simp only [List.take_zero, codesD]; rfl, .inl ⟨rfl, by simp [codesD]⟩⟩
    · exact b4h.out
    · exact d5h.out
  case round =>
  obtain ⟨k, v, hk, hg, rfl, ho, hb4, hd5, hb2, hd3, hB⟩ := hrel
  obtain ⟨av, cv, rfl⟩ := own_form ho
  have hgo := Go.Lib.hid hg
  clear b2h d3h b4h d5h hW2h hg
  by_cases hlt : k < ll
  · have hlt' : (k : Int) < ll := by omega
    have hts := codesD_take_succ m dStart (show k < m.length by rw [hm'.out]; exact hlt)
    have hta := after_take_succ m dStart (show k < m.length by rw [hm'.out]; exact hlt)
    have hv32 := h32.out k hlt
    have hmk := hml'.out k hlt
    have hEo := hev.out k
    have hsz := hsize.out k hk
    obtain ⟨num, hnum⟩ : ∃ v, v = m.getD k 0 := ⟨_, rfl⟩
    rw [← hnum] at hts hta hv32 hmk
    obtain ⟨E, hE⟩ : ∃ E, E = after dStart (m.take k) := ⟨_, rfl⟩
    obtain ⟨X, hX⟩ : ∃ X, X = codesD dStart (m.take k) := ⟨_, rfl⟩
    rw [← hE] at hts hta hEo hd5
    rw [← hX] at hts ho hb4 hsz
    obtain ⟨E', hE'⟩ : ∃ E', E' = learnD E num := ⟨_, rfl⟩
    obtain ⟨X', hX'⟩ : ∃ X', X' = X ++ dualB E num := ⟨_, rfl⟩
    rw [← hE'] at hta
    rw [← hX'] at hts
    obtain ⟨L, hL⟩ : ∃ L, L = (X.length + 7) / 8 := ⟨_, rfl⟩
    obtain ⟨L', hL'⟩ : ∃ L, L = (X'.length + 7) / 8 := ⟨_, rfl⟩
    obtain ⟨N, hN⟩ : ∃ N, N = X.length := ⟨_, rfl⟩
    obtain ⟨N', hN'⟩ : ∃ N, N = X'.length := ⟨_, rfl⟩
    rw [← hL] at ho hb4
    rw [← hN] at hb4
    have had : Hid (∀ w, w.ownsRow W.heap.size 5 1 (.slice av L cv) L (nums .u8 (pack X)) → W.heap.size ≤ w.heap.size → Calls Try.prog 50 #[.agg #[.slice av L cv, .int .i64 N], .agg #[.int .i64 E.k0, .int .i64 E.k1, .int .u64 E.s0, .int .u64 E.s1], .int .u32 num] w fun e W' => ∃ v', e = .returned (.agg #[v', .int .i64 (N' : Nat)]) ∧ W'.ownsRow W.heap.size 5 1 v' L' (nums .u8 (pack X')) ∧ Kept W.heap.size w W') := Go.Lib.hid fun w h hb => by
      have := RdAdd_ok w W.heap.size (.slice av L cv) X E num (by rw [← hL]; exact h) hb (by omega) hv32 hEo
      rw [← hX', ← hL', ← dualB_len, ← List.length_append, ← hX', ← hN', ← hN] at this
      exact this
    have lrn : Hid (∀ w, Calls Try.prog 40 #[.agg #[.int .i64 E.k0, .int .i64 E.k1, .int .u64 E.s0, .int .u64 E.s1], .int .u32 num] w fun e W' => e = .returned (.agg #[.int .i64 E'.k0, .int .i64 E'.k1, .int .u64 E'.s0, .int .u64 E'.s1]) ∧ Below w.heap.size w W') := Go.Lib.hid fun w => by rw [hE']; exact RLearnt_ok w E num hEo hv32
    have hts' := Go.Lib.hid hts
    have hta' := Go.Lib.hid hta
    have hN2 := Go.Lib.hid hN'
    have hL2 := Go.Lib.hid hL'
    obtain ⟨bl, ol, rfl, hblt, hc⟩ := (hl'.out.below hB (Nat.le_refl _)).cells (by omega)
    have hcell := hc k hlt
    rw [hmk] at hcell
    clear hts hta hX hE hE' hX' hL hL' hN hN' hnum hc hsz hEo
    go_wp2
    refine wp_region_ord (fun _ => True) [(2, 0), (3, 0), (4, 0), (0, 1), (1, 1), (5, 1), (6, 3), (7, 4)] (by kernel_rfl) (by kernel_rfl) ?hC0 ?_
    case hC0 => trivial
    simp only [pick, nth]
    refine wpW_name ?_
    intro q0 hq0
    have o0 : q0.ownsRow W.heap.size 5 1 (.slice av L cv) L (nums .u8 (pack X)) := by rw [hq0]; exact own_drew ho
    have b0 : BoxAt q0 (W.heap.size + 1 + 1) (.slice av L cv) N := by rw [hq0]; exact hb4.drew
    have d0 : DuAt q0 x5 (E.k0 : Int) (E.k1 : Int) (E.s0 : Int) (E.s1 : Int) := by rw [hq0]; exact hd5.drew
    have p0 : BoxAt q0 W.heap.size (.slice none 0 0) 0 := by rw [hq0]; exact hb2.drew
    have e0 : DuAt q0 (W.heap.size + 1) 0 0 0 0 := by rw [hq0]; exact hd3.drew
    have B0 : Below W.heap.size W q0 := by rw [hq0]; exact hB.drew
    have c0 : q0.cell? ⟨bl, ol + k, none⟩ = some (.int .u32 num) := by rw [hq0]; exact hcell
    clear hq0 ho hb4 hd5 hb2 hd3 hB hcell
    obtain ⟨f0, f1, f2, f3⟩ := b0.cells
    obtain ⟨g0, g1, g2, g3, g4, g5, g6, g7⟩ := d0.cells
    (repeat (first | (apply wpW_light; (case h => (intro wa; (first | (go_big_quiet_skip; exact wpQuiet_nil rfl) | (go_big_quiet_want; go_big_quiet_op; go_big_quiet_on; exact wpQuiet_nil rfl))))) | (apply wpW_here; (case h => (first | (go_big_quiet_skip; exact wpQuiet_nil rfl) | (go_big_quiet_want; go_big_quiet_op; go_big_quiet_on; exact wpQuiet_nil rfl)))) | (apply wpW_held; (case hC => assumption); (case h => (intro wa hCa; simp only [] at hCa; (first | (go_big_quiet_skip; exact wpQuiet_nil rfl) | (go_big_quiet_want; go_big_quiet_op; go_big_quiet_on; exact wpQuiet_nil rfl)))))))
    clear f0 f1 f2 f3 g0 g1 g2 g3 g4 g5 g6 g7
    refine wpW_act (fun QQ hQQ => ?_) (by rfl)
    go_wp2_with (go_at_call 50; with_reducible refine (had.out _ o0 B0.size).mono ?_; rintro e q1 ⟨v1, rfl, o1, hk1⟩; obtain ⟨a1, c1, rfl⟩ := own_form o1)
    (refine hQQ _ _ ?hCn ?_; (case hCn => trivial); clear hQQ QQ)
    have b1 := b0.kept hk1
    have d1 := d0.kept hk1
    have p1 := p0.kept hk1
    have e1 := e0.kept hk1
    have B1 := B0.trans hk1.bel
    clear b0 d0 p0 e0 B0 c0 o0 hk1
    obtain ⟨f0, f1, f2, f3⟩ := b1.cells
    refine wpW_last (fun QQ hQQ => ?_) (by rfl)
    go_wp2
    (refine hQQ.out _ _ ?_; clear hQQ QQ)
    refine wpW_name ?_
    intro q2 hq2
    have ap := b1.apart o1
    have o2 : q2.ownsRow W.heap.size 5 1 (.slice a1 L' c1) L' (nums .u8 (pack X')) := by rw [hq2]; exact own_set (own_set o1 ap _ _) ap _ _
    have b2 : BoxAt q2 (W.heap.size + 1 + 1) (.slice a1 L' c1) N' := by rw [hq2]; exact b1.set _ _
    have d2 : DuAt q2 x5 (E.k0 : Int) (E.k1 : Int) (E.s0 : Int) (E.s1 : Int) := by rw [hq2]; exact (d1.other (by simp; omega) _).other (by simp; omega) _
    have p2 : BoxAt q2 W.heap.size (.slice none 0 0) 0 := by rw [hq2]; exact (p1.other (by simp; omega) _).other (by simp; omega) _
    have e2 : DuAt q2 (W.heap.size + 1) 0 0 0 0 := by rw [hq2]; exact (e1.other (by simp) _).other (by simp) _
    have B2 : Below W.heap.size W q2 := by rw [hq2]; exact (B1.setCell (by simp; omega) _).setCell (by simp; omega) _
    clear hq2 b1 d1 p1 e1 B1 o1 ap f0 f1 f2 f3
    refine wpW_nil ?_
    obtain ⟨bl2, ol2, heq, hblt2, hc2⟩ := (hl'.out.below B2 (Nat.le_refl _)).cells (by omega)
    cases heq
    have hcell := hc2 k hlt
    rw [hmk] at hcell
    clear hc2
    go_wp2
    refine wp_region_ord (fun _ => True) [(1, 0), (2, 0), (3, 0), (0, 1), (4, 1), (5, 3), (6, 4)] (by kernel_rfl) (by kernel_rfl) ?hC0 ?_
    case hC0 => trivial
    simp only [pick, nth]
    refine wpW_name ?_
    intro q3 hq3
    have o3 : q3.ownsRow W.heap.size 5 1 (.slice a1 L' c1) L' (nums .u8 (pack X')) := by rw [hq3]; exact own_drew o2
    have b3 : BoxAt q3 (W.heap.size + 1 + 1) (.slice a1 L' c1) N' := by rw [hq3]; exact b2.drew
    have d3 : DuAt q3 x5 (E.k0 : Int) (E.k1 : Int) (E.s0 : Int) (E.s1 : Int) := by rw [hq3]; exact d2.drew
    have p3 : BoxAt q3 W.heap.size (.slice none 0 0) 0 := by rw [hq3]; exact p2.drew
    have e3 : DuAt q3 (W.heap.size + 1) 0 0 0 0 := by rw [hq3]; exact e2.drew
    have B3 : Below W.heap.size W q3 := by rw [hq3]; exact B2.drew
    have c3 : q3.cell? ⟨bl, ol + k, none⟩ = some (.int .u32 num) := by rw [hq3]; exact hcell
    clear hq3 o2 b2 d2 p2 e2 B2 hcell
    obtain ⟨g0, g1, g2, g3, g4, g5, g6, g7⟩ := d3.cells
    (repeat (first | (apply wpW_light; (case h => (intro wa; (first | (go_big_quiet_skip; exact wpQuiet_nil rfl) | (go_big_quiet_want; go_big_quiet_op; go_big_quiet_on; exact wpQuiet_nil rfl))))) | (apply wpW_here; (case h => (first | (go_big_quiet_skip; exact wpQuiet_nil rfl) | (go_big_quiet_want; go_big_quiet_op; go_big_quiet_on; exact wpQuiet_nil rfl)))) | (apply wpW_held; (case hC => assumption); (case h => (intro wa hCa; simp only [] at hCa; (first | (go_big_quiet_skip; exact wpQuiet_nil rfl) | (go_big_quiet_want; go_big_quiet_op; go_big_quiet_on; exact wpQuiet_nil rfl)))))))
    clear g0 g1 g2 g3 g4 g5 g6 g7
    refine wpW_act (fun QQ hQQ => ?_) (by rfl)
    go_wp2_with (go_at_call 40; with_reducible refine (lrn.out _).mono ?_; rintro e q4 ⟨rfl, hs⟩)
    (refine hQQ _ _ ?hCn ?_; (case hCn => trivial); clear hQQ QQ)
    have o4 := own_below o3 hs (Nat.le_refl _)
    have b4 := b3.below hs b3.lt
    have d4 := d3.below hs d3.lt
    have p4 := p3.below hs p3.lt
    have e4 := e3.below hs e3.lt
    have B4 := B3.trans (hs.mono B3.size)
    clear o3 b3 d3 p3 e3 B3 c3 hs
    obtain ⟨g0, g1, g2, g3, g4, g5, g6, g7⟩ := d4.cells
    refine wpW_last (fun QQ hQQ => ?_) (by rfl)
    go_wp2
    (refine hQQ.out _ _ ?_; clear hQQ QQ)
    refine wpW_name ?_
    intro q5 hq5
    have ap := d4.apart o4
    have o5 : q5.ownsRow W.heap.size 5 1 (.slice a1 L' c1) L' (nums .u8 (pack X')) := by rw [hq5]; exact own_set (own_set (own_set (own_set o4 ap _ _) ap _ _) ap _ _) ap _ _
    have b5 : BoxAt q5 (W.heap.size + 1 + 1) (.slice a1 L' c1) N' := by rw [hq5]; exact (((b4.other (by simp; omega) _).other (by simp; omega) _).other (by simp; omega) _).other (by simp; omega) _
    have d5 : DuAt q5 x5 (E'.k0 : Int) (E'.k1 : Int) (E'.s0 : Int) (E'.s1 : Int) := by rw [hq5]; exact d4.set _ _ _ _
    have p5 : BoxAt q5 W.heap.size (.slice none 0 0) 0 := by rw [hq5]; exact (((p4.other (by simp; omega) _).other (by simp; omega) _).other (by simp; omega) _).other (by simp; omega) _
    have e5 : DuAt q5 (W.heap.size + 1) 0 0 0 0 := by rw [hq5]; exact (((e4.other (by simp; omega) _).other (by simp; omega) _).other (by simp; omega) _).other (by simp; omega) _
    have B5 : Below W.heap.size W q5 := by rw [hq5]; exact outp B4 (by omega)
    clear hq5 o4 b4 d4 p4 e4 B4 ap g0 g1 g2 g3 g4 g5 g6 g7
    refine wpW_nil ?_
    go_wp2
    go_roundg (ll - (k + 1))
    case measure => (have hgk := hgo.out; omega)
    case rel =>
      refine ⟨k + 1, .slice a1 L' c1, by omega, rfl, by go_num, ?_, ?_, ?_, p5, e5, B5⟩
      · rw [hts'.out, ← hL2.out]; exact o5
      · rw [hts'.out, ← hN2.out]; exact b5
      · rw [hta'.out]; exact d5
  · obtain rfl : k = ll := by omega
    have hmt : m.take k = m := List.take_of_length_le (by rw [hm'.out]; exact Nat.le_refl _)
    rw [hmt] at ho hb4 hd5
    rw [← hEf.out] at hd5
    rw [← hXf.out] at ho hb4
    rw [← hLf.out] at ho hb4
    rw [← hNf.out] at hb4
    clear hmt
    have hlt' : ¬ (k : Int) < (k : Int) := by omega
    go_wp2
    refine wp_region_ord (fun w' => DuAt w' x5 (Ef.k0 : Int) (Ef.k1 : Int) (Ef.s0 : Int) (Ef.s1 : Int)) [(0, 1), (1, 2), (2, 3), (3, 4)] (by kernel_rfl) (by kernel_rfl) ?hC0 ?_
    case hC0 => exact hd5.drew
    simp only [pick, nth]
    refine wpW_name ?_
    intro q0 hq0
    have o0 : q0.ownsRow W.heap.size 5 1 (.slice av Lf cv) Lf (nums .u8 (pack Xf)) := by rw [hq0]; exact own_drew ho
    have b0 : BoxAt q0 (W.heap.size + 1 + 1) (.slice av Lf cv) Nf := by rw [hq0]; exact hb4.drew
    have d0 : DuAt q0 x5 (Ef.k0 : Int) (Ef.k1 : Int) (Ef.s0 : Int) (Ef.s1 : Int) := by rw [hq0]; exact hd5.drew
    have p0 : BoxAt q0 W.heap.size (.slice none 0 0) 0 := by rw [hq0]; exact hb2.drew
    have e0 : DuAt q0 (W.heap.size + 1) 0 0 0 0 := by rw [hq0]; exact hd3.drew
    have B0 : Below W.heap.size W q0 := by rw [hq0]; exact hB.drew
    clear hq0 ho hb4 hd5 hb2 hd3 hB
    obtain ⟨f0, f1, f2, f3⟩ := b0.cells
    (repeat (first | (apply wpW_light; (case h => (intro wa; (first | (go_big_quiet_skip; exact wpQuiet_nil rfl) | (go_big_quiet_want; go_big_quiet_op; go_big_quiet_on; exact wpQuiet_nil rfl))))) | (apply wpW_here; (case h => (first | (go_big_quiet_skip; exact wpQuiet_nil rfl) | (go_big_quiet_want; go_big_quiet_op; go_big_quiet_on; exact wpQuiet_nil rfl)))) | (apply wpW_held; (case hC => assumption); (case h => (intro wa hCa; obtain ⟨u0, u1, u2, u3, u4, u5, u6, u7⟩ := hCa.cells; (first | (go_big_quiet_skip; exact wpQuiet_nil rfl) | (go_big_quiet_want; go_big_quiet_op; go_big_quiet_on; exact wpQuiet_nil rfl)))))))
    clear f0 f1 f2 f3
    have r0 := Row.of_own o0 (u8_wf (pack_wf _))
    obtain ⟨f0, f1, f2, f3⟩ := p0.cells
    obtain ⟨g0, g1, g2, g3, g4, g5, g6, g7⟩ := e0.cells
    refine wpW_act (fun QQ hQQ => ?_) (by rfl)
    go_wp2
    (refine hQQ _ _ ?hCn ?_; (case hCn => exact (d0.other (by simp; omega) _).other (by simp; omega) _); clear hQQ QQ)
    refine wpW_last (fun QQ hQQ => ?_) (by rfl)
    go_wp2
    (refine hQQ.out _ _ ?_; clear hQQ QQ)
    refine wpW_nil ?_
    go_wp2
    (try simp only [Exit.inBlock, Exit.then])
    obtain ⟨w1', w2', w3', w4'⟩ := outs p0 e0 (by omega) av Lf cv Nf Ef.k0 Ef.k1 Ef.s0 Ef.s1
    refine bodyPost_ret (results_bits_du (by rfl) _ _ W.heap.size (W.heap.size + 1) _ _ _ _ _ _ rfl rfl w1' w2') rfl ?_
    exact ⟨av, cv, rfl, w4' r0, w3' B0 (Nat.le_refl _) (by omega)⟩
end Go.Proofs.Ytifbigmgiakakaa

/- Contracts of the reference of coder: Encode and After. -/
namespace Go.Proofs.Ytifbigmgiakakaa
open Go.RowKit Cad

theorem CEncode_many (W : World) (al : Option Addr) (ll cl : Nat) (h : (4000 : Int) < ll) (_hl : ll ≤ 9223372036854775807) :
    Calls Try.prog 18 #[.slice al ll cl] W fun e W' => e = .returned (.tuple #[.agg #[.slice none 0 0, .int .i64 0], .int .i64 4]) ∧ Below W.heap.size W W' := by
  go_enter Try.func18, Try.ntmps18
  go_wp2
  go_returns
  exact ⟨rfl, (Below.refl _ _).alloc (Nat.le_refl _) _⟩
theorem CAfter_many (W : World) (al : Option Addr) (ll cl : Nat) (h : (4000 : Int) < ll) (_hl : ll ≤ 9223372036854775807) :
    Calls Try.prog 19 #[.slice al ll cl] W fun e W' => e = .returned (.tuple #[.agg #[.int .i64 0, .int .i64 0, .int .u64 0, .int .u64 0], .int .i64 4]) ∧ Below W.heap.size W W' := by
  go_enter Try.func19, Try.ntmps19
  go_wp2
  go_returns
  exact ⟨rfl, (Below.refl _ _).alloc (Nat.le_refl _) _⟩
set_option maxRecDepth 100000 in
set_option maxHeartbeats 1000000 in
theorem CEncode_ok (W : World) (al : Option Addr) (ll cl : Nat) (l : List Int) (m : List Nat) (hl : Row .u32 W al ll cl l) (h4 : ll ≤ 4000) (hm : m.length = ll) (hml : ∀ k, k < ll → l.getD k 0 = ((m.getD k 0 : Nat) : Int)) (hm32 : ∀ x ∈ m, x < 4294967296) :
    Res 18 #[.slice al ll cl] W (((codesD dStart m).length + 7) / 8) (pack (codesD dStart m)) (codesD dStart m).length 0 := by
  have hc := Go.Lib.hid fun w hw => Coded_ok w al ll cl l m hw h4 hm hml hm32
  obtain ⟨E, hE⟩ : ∃ E, E = after dStart m := ⟨_, rfl⟩
  obtain ⟨X, hX⟩ : ∃ X, X = codesD dStart m := ⟨_, rfl⟩
  obtain ⟨L, hL⟩ : ∃ L, L = (X.length + 7) / 8 := ⟨_, rfl⟩
  obtain ⟨N, hN⟩ : ∃ N, N = X.length := ⟨_, rfl⟩
  rw [← hX] at hc ⊢
  rw [← hE, ← hL, ← hN] at hc
  rw [← hL, ← hN]
  clear hE hX hL hN hml hm hm32
  have hl4 : (ll : Int) ≤ 4000 := by omega
  have hl' := Go.Lib.hid (hl.below (below1 W (.cells #[.slice none 0 0, .int .i64 0] 24)) (Nat.le_refl _))
  have b0 := Go.Lib.hid (box1 W (.slice none 0 0) 0)
  clear hl
  unfold Res
  go_enter Try.func18, Try.ntmps18
  go_wp2_with (go_at_call 37; with_reducible refine (hc.out _ hl'.out).mono ?_; rintro e w1 ⟨bb, cc, rfl, hr1, hb1⟩; have b1 := ((b0.out.below hb1 (by simp)).alloc (.cells #[.slice bb L cc, .int .i64 N] 24)).alloc (.cells #[.int .i64 E.k0, .int .i64 E.k1, .int .u64 E.s0, .int .u64 E.s1] 31); have b2 := (below1 W (.cells #[.slice none 0 0, .int .i64 0] 24)).trans (hb1.mono (by simp)); have hb1' := Go.Lib.hid ((b2.alloc b2.size (.cells #[.slice bb L cc, .int .i64 N] 24)).alloc (b2.alloc b2.size (.cells #[.slice bb L cc, .int .i64 N] 24)).size (.cells #[.int .i64 E.k0, .int .i64 E.k1, .int .u64 E.s0, .int .u64 E.s1] 31)); have hr1' := Go.Lib.hid ((hr1.below (below1 w1 (.cells #[.slice bb L cc, .int .i64 N] 24)) (Nat.le_refl _)).below (below1 _ (.cells #[.int .i64 E.k0, .int .i64 E.k1, .int .u64 E.s0, .int .u64 E.s1] 31)) (Nat.le_refl _)); have b1' := Go.Lib.hid b1; obtain ⟨f0, f1, f2, f3⟩ := b1.cells; clear hb1 hr1 b1 b2)
  (try simp only [Exit.inBlock, Exit.then])
  refine bodyPost_ret (results_box_tmp (by rfl) _ _ W.heap.size _ _ rfl (b1'.out.set _ _)) rfl ?_
  exact ⟨bb, cc, by simp, (hr1'.out.box b1'.out 0 _).box (b1'.out.set0 _) 1 _, (hb1'.out.setCell (Nat.le_refl _) _).setCell (Nat.le_refl _) _⟩
set_option maxRecDepth 100000 in
set_option maxHeartbeats 1000000 in
theorem CAfter_ok (W : World) (al : Option Addr) (ll cl : Nat) (l : List Int) (m : List Nat) (hl : Row .u32 W al ll cl l) (h4 : ll ≤ 4000) (hm : m.length = ll) (hml : ∀ k, k < ll → l.getD k 0 = ((m.getD k 0 : Nat) : Int)) (hm32 : ∀ x ∈ m, x < 4294967296) :
    Calls Try.prog 19 #[.slice al ll cl] W fun e W' => e = .returned (.tuple #[.agg #[.int .i64 (after dStart m).k0, .int .i64 (after dStart m).k1, .int .u64 (after dStart m).s0, .int .u64 (after dStart m).s1], .int .i64 0]) ∧ Below W.heap.size W W' := by
  have hc := Go.Lib.hid fun w hw => Coded_ok w al ll cl l m hw h4 hm hml hm32
  obtain ⟨E, hE⟩ : ∃ E, E = after dStart m := ⟨_, rfl⟩
  obtain ⟨X, hX⟩ : ∃ X, X = codesD dStart m := ⟨_, rfl⟩
  obtain ⟨L, hL⟩ : ∃ L, L = (X.length + 7) / 8 := ⟨_, rfl⟩
  obtain ⟨N, hN⟩ : ∃ N, N = X.length := ⟨_, rfl⟩
  rw [← hX] at hc
  rw [← hE, ← hL, ← hN] at hc
  rw [← hE]
  clear hE hX hL hN hml hm hm32
  have hl4 : (ll : Int) ≤ 4000 := by omega
  have hl' := Go.Lib.hid (hl.below (below1 W (.cells #[.int .i64 0, .int .i64 0, .int .u64 0, .int .u64 0] 31)) (Nat.le_refl _))
  have b0 := Go.Lib.hid (duat1 W 0 0 0 0)
  clear hl
  go_enter Try.func19, Try.ntmps19
  go_wp2_with (go_at_call 37; with_reducible refine (hc.out _ hl'.out).mono ?_; rintro e w1 ⟨bb, cc, rfl, hr1, hb1⟩; have b1 := ((b0.out.below hb1 (by simp)).alloc (.cells #[.slice bb L cc, .int .i64 N] 24)).alloc (.cells #[.int .i64 E.k0, .int .i64 E.k1, .int .u64 E.s0, .int .u64 E.s1] 31); have b2 := (below1 W (.cells #[.int .i64 0, .int .i64 0, .int .u64 0, .int .u64 0] 31)).trans (hb1.mono (by simp)); have hb1' := Go.Lib.hid ((b2.alloc b2.size (.cells #[.slice bb L cc, .int .i64 N] 24)).alloc (b2.alloc b2.size (.cells #[.slice bb L cc, .int .i64 N] 24)).size (.cells #[.int .i64 E.k0, .int .i64 E.k1, .int .u64 E.s0, .int .u64 E.s1] 31)); have b1' := Go.Lib.hid b1; obtain ⟨f0, f1, f2, f3, f4, f5, f6, f7⟩ := b1.cells; clear hb1 hr1 b1 b2)
  (try simp only [Exit.inBlock, Exit.then])
  refine bodyPost_ret (results_du_tmp (by rfl) _ _ W.heap.size _ _ _ _ rfl (b1'.out.set _ _ _ _)) rfl ?_
  exact ⟨by simp, outp hb1'.out (Nat.le_refl _)⟩
end Go.Proofs.Ytifbigmgiakakaa

/- Contracts of the reference of coder: Decode. -/
namespace Go.Proofs.Ytifbigmgiakakaa
open Go.RowKit Cad

theorem own_setG {w : World} {x : Nat} {base n e : Nat} {v' : Value} {xs : List Value} (ho : w.ownsRow base e 1 v' n xs) (ha : ∀ g, v'.ownBlock = some g → g ≠ x) (o : Nat) (u : Value) : (w.setCell ⟨x, o, none⟩ u).ownsRow base e 1 v' n xs :=
  own_congr ho fun g e => by rw [Below.heap_setCell _ _ _ _ (ha g e)]
theorem natsU (l : List Nat) (h : ∀ x ∈ l, x < 4294967296) : ∀ x ∈ l.map Int.ofNat, (Lit.int .u32 x).wf = true := fun x hx => by
  obtain ⟨y, hy, rfl⟩ := List.mem_map.1 hx
  have := h y hy
  exact WalkArith.wf_u32 ⟨by simp, by simp; omega⟩
theorem RdGot_any (W : World) (aa : Option Addr) (len cap : Nat) (B : List Bool) (i : Nat) (D : Du) (hr : Row .u8 W aa len cap (pack B)) (hB : B.length ≤ 330000) (hd : D.ok) (v p er : Nat) (hv : readD B i D = (v, p, er)) :
    Calls Try.prog 39 #[.agg #[.slice aa len cap, .int .i64 B.length], .int .i64 i, .agg #[.int .i64 D.k0, .int .i64 D.k1, .int .u64 D.s0, .int .u64 D.s1]] W fun e W' => e = .returned (.tuple #[.int .u32 v, .int .i64 p, .int .i64 er]) ∧ Below W.heap.size W W' := by
  by_cases h : i < B.length
  · exact RdGot_in W aa len cap B i D hr hB h hd v p er hv
  · rw [readD_end D (by omega)] at hv; cases hv
    exact RdGot_end W aa len cap _ _ _ _ _ _ (by omega)

theorem CDecode_bad (W : World) (aa : Option Addr) (len cap : Nat) (N n : Int) (l : List Int) (hr : Row .u8 W aa len cap l) (hN : (Lit.int .i64 N).wf = true) (hv : ¬ Valid l N) :
    Calls Try.prog 24 #[.agg #[.slice aa len cap, .int .i64 N], .int .i64 n] W fun e W' => e = .returned (.tuple #[.slice none 0 0, .int .i64 0, .int .i64 8]) ∧ Below W.heap.size W W' := by
  have hck := Go.Lib.hid fun w hw => RCheck_any w aa len cap N l hw hN 8 (.inr ⟨hv, rfl⟩)
  have hr' := Go.Lib.hid (hr.below (below1 W (.cells #[.slice aa len cap, .int .i64 N] 24)) (Nat.le_refl _))
  have b0 := below1 W (.cells #[.slice aa len cap, .int .i64 N] 24)
  have b0' := Go.Lib.hid b0
  clear hr hN hv b0
  go_enter Try.func24, Try.ntmps24
  go_wp2_with (go_at_call 25; with_reducible refine (hck.out _ hr'.out).mono ?_; rintro e w1 ⟨rfl, hb1⟩; have hb1' := Go.Lib.hid (b0'.out.trans (hb1.mono b0'.out.size)); clear hb1)
  go_ret3
  exact ⟨rfl, hb1'.out⟩
theorem CDecode_arg (W : World) (aa : Option Addr) (len cap : Nat) (N n : Int) (l : List Int) (hr : Row .u8 W aa len cap l) (hN : (Lit.int .i64 N).wf = true) (hv : Valid l N) (hn : n < 0) :
    Calls Try.prog 24 #[.agg #[.slice aa len cap, .int .i64 N], .int .i64 n] W fun e W' => e = .returned (.tuple #[.slice none 0 0, .int .i64 0, .int .i64 2]) ∧ Below W.heap.size W W' := by
  have hck := Go.Lib.hid fun w hw => RCheck_any w aa len cap N l hw hN 0 (.inl ⟨hv, rfl⟩)
  have hr' := Go.Lib.hid (hr.below (below1 W (.cells #[.slice aa len cap, .int .i64 N] 24)) (Nat.le_refl _))
  have b0 := below1 W (.cells #[.slice aa len cap, .int .i64 N] 24)
  have b0' := Go.Lib.hid b0
  clear hr hN hv b0
  go_enter Try.func24, Try.ntmps24
  go_wp2_with (go_at_call 25; with_reducible refine (hck.out _ hr'.out).mono ?_; rintro e w1 ⟨rfl, hb1⟩; have hb1' := Go.Lib.hid (b0'.out.trans (hb1.mono b0'.out.size)); clear hb1)
  go_ret3
  exact ⟨rfl, hb1'.out⟩
theorem CDecode_many (W : World) (aa : Option Addr) (len cap : Nat) (N n : Int) (l : List Int) (hr : Row .u8 W aa len cap l) (hN : (Lit.int .i64 N).wf = true) (hv : Valid l N) (hn : 4000 < n) :
    Calls Try.prog 24 #[.agg #[.slice aa len cap, .int .i64 N], .int .i64 n] W fun e W' => e = .returned (.tuple #[.slice none 0 0, .int .i64 0, .int .i64 4]) ∧ Below W.heap.size W W' := by
  have hck := Go.Lib.hid fun w hw => RCheck_any w aa len cap N l hw hN 0 (.inl ⟨hv, rfl⟩)
  have hr' := Go.Lib.hid (hr.below (below1 W (.cells #[.slice aa len cap, .int .i64 N] 24)) (Nat.le_refl _))
  have b0 := below1 W (.cells #[.slice aa len cap, .int .i64 N] 24)
  have b0' := Go.Lib.hid b0
  have hn0 : ¬ n < 0 := by omega
  clear hr hN hv b0
  go_enter Try.func24, Try.ntmps24
  go_wp2_with (go_at_call 25; with_reducible refine (hck.out _ hr'.out).mono ?_; rintro e w1 ⟨rfl, hb1⟩; have hb1' := Go.Lib.hid (b0'.out.trans (hb1.mono b0'.out.size)); clear hb1)
  go_ret3
  exact ⟨rfl, hb1'.out⟩

set_option maxRecDepth 100000 in
set_option maxHeartbeats 2000000 in
theorem CDecode_ok (W : World) (aa : Option Addr) (len cap : Nat) (B : List Bool) (n : Nat) (hr : Row .u8 W aa len cap (pack B)) (hB : B.length ≤ 330000) (hn : n ≤ 4000) (lz : List Nat) (pz ez : Nat) (hz : decD B n 0 dStart = (lz, pz, ez)) :
    Calls Try.prog 24 #[.agg #[.slice aa len cap, .int .i64 B.length], .int .i64 n] W fun e W' => ∃ a m c, e = .returned (.tuple #[.slice a m c, .int .i64 pz, .int .i64 ez]) ∧ Row .u32 W' a m c (lz.map Int.ofNat) ∧ Below W.heap.size W W' := by
  have hck := Go.Lib.hid fun w hw => RCheck_any w aa len cap B.length (pack B) hw (bounds_of_len (by omega)) 0 (.inl ⟨⟨B, rfl, hB, rfl⟩, rfl⟩)
  have hrr := Go.Lib.hid hr
  have hr' := Go.Lib.hid (hr.below (below1 W (.cells #[.slice aa len cap, .int .i64 B.length] 24)) (Nat.le_refl _))
  have b0 := below1 W (.cells #[.slice aa len cap, .int .i64 B.length] 24)
  have b0' := Go.Lib.hid b0
  have x0 := Go.Lib.hid (box1 W (.slice aa len cap) B.length)
  have st := Go.Lib.hid Rstart_ok
  have hn0 : ¬ (n : Int) < 0 := by omega
  have hn4 : ¬ (4000 : Int) < n := by omega
  have hzh := Go.Lib.hid hz
  have hBh := Go.Lib.hid hB
  have hgot := Go.Lib.hid fun w hw (i : Nat) (D : Du) (hd : D.ok) (v p er : Nat) hv => RdGot_any w aa len cap B i D hw hB hd v p er hv
  have hlrn := Go.Lib.hid fun w (D : Du) (v : Nat) (hd : D.ok) (hv : v < 4294967296) => RLearnt_ok w D v hd hv
  obtain ⟨N, hN⟩ : ∃ N, N = B.length := ⟨_, rfl⟩
  rw [← hN] at hck hr' b0' x0 hgot ⊢
  clear hr b0 hB hz hN
  go_enter Try.func24, Try.ntmps24
  go_wp2_with (first
    | (go_at_call 25; with_reducible refine (hck.out _ hr'.out).mono ?_; rintro e w1 ⟨rfl, hb1⟩; have hb1' := Go.Lib.hid (b0'.out.trans (hb1.mono b0'.out.size)); have x1 := Go.Lib.hid (x0.out.below hb1 (by simp)); clear hb1)
    | (go_at_call 38; refine (st.out _).mono ?_; rintro e w2 ⟨rfl, hb2⟩; have hb2' := Go.Lib.hid (hb1'.out.trans (hb2.mono hb1'.out.size)); have x2 := Go.Lib.hid (x1.out.below hb2 x1.out.lt); clear hb2))
  have hW2 := Go.Lib.hid (hb2'.out.alloc hb2'.out.size (.cells #[.int .i64 10, .int .i64 10, .int .u64 16384, .int .u64 16384] 31))
  have x3 := Go.Lib.hid (x2.out.alloc (.cells #[.int .i64 10, .int .i64 10, .int .u64 16384, .int .u64 16384] 31))
  have d3 := Go.Lib.hid (duat1 w2 10 10 16384 16384)
  obtain ⟨w3, hw3⟩ : ∃ w, w = w2.alloc (.cells #[.int .i64 10, .int .i64 10, .int .u64 16384, .int .u64 16384] 31) := ⟨_, rfl⟩
  rw [← hw3] at hW2 x3 d3 ⊢
  have hsz3 : w2.heap.size + 1 ≤ w3.heap.size := by rw [hw3]; simp
  have hx2 : W.heap.size < w2.heap.size := x2.out.lt
  obtain ⟨x9, hx9⟩ : ∃ x, x = w2.heap.size := ⟨_, rfl⟩
  rw [← hx9] at d3 hsz3 hx2 ⊢
  clear hw3 hx9 hb2' x2 x1 hb1' x0
  go_loopg [7, 8, 10] n (fun g v at_ i wr => ∃ (k : Nat) (l : List Nat) (p : Nat) (E : Du), k ≤ n ∧ g = n - k ∧ i = .int .i64 k ∧ at_ = .int .i64 p ∧ p ≤ B.length ∧ E.ok ∧ decD B n 0 dStart = glue l (decD B (n - k) p E) ∧ l.length = k ∧ (∀ x ∈ l, x < 4294967296) ∧
    wr.ownsRow (x9 + 1) 57 1 v k (nums .u32 (l.map Int.ofNat)) ∧ BoxAt wr W.heap.size (.slice aa len cap) N ∧ DuAt wr x9 (E.k0 : Int) (E.k1 : Int) (E.s0 : Int) (E.s1 : Int) ∧ Below W.heap.size W wr ∧ x9 + 1 ≤ wr.heap.size)
  case atStart =>
    refine ⟨0, [], 0, dStart, Nat.zero_le _, rfl, rfl, rfl, Nat.zero_le _, dStart_ok, ?_, rfl, fun x hx => (by cases hx), World.ownsRow_nil _ _ _ _, x3.out, d3.out, hW2.out, hsz3⟩
    rw [Nat.sub_zero]
    obtain ⟨a, b, c, h⟩ : ∃ a b c, decD B n 0 dStart = (a, b, c) := ⟨_, _, _, rfl⟩
    rw [h]
    by_cases hc : c = 0
    · subst hc; rw [glue_ok]; rfl
    · obtain ⟨rfl, rfl, -⟩ := dec_no n h hc (Nat.zero_le _) dStart_ok
      rw [glue_er _ _ _ hc]
  case round =>
  obtain ⟨k, l, p, E, hk, hg, rfl, rfl, hp, hE, hgl, hlk, hl32, ho, hx, hd, hB, hsz⟩ := hrel
  obtain ⟨av, cv, rfl⟩ := own_form ho
  have hgo := Go.Lib.hid hg
  have hgl' := Go.Lib.hid hgl
  have hE' := Go.Lib.hid hE
  have hp' := Go.Lib.hid hp
  have hl' := Go.Lib.hid hl32
  clear hg hgl hE hp hl32 x3 d3 hW2
  by_cases hlt : k < n
  · have hlt' : (k : Int) < n := by omega
    obtain ⟨v, q, er, hv⟩ : ∃ v q er, readD B p E = (v, q, er) := ⟨_, _, _, rfl⟩
    have hcall := Go.Lib.hid fun w hw => hgot.out w hw p E hE'.out v q er hv
    have hv' := Go.Lib.hid hv
    clear hv
    have hx' := Go.Lib.hid hx
    have hd' := Go.Lib.hid hd
    have hB' := Go.Lib.hid hB
    obtain ⟨f0, f1, f2, f3⟩ := hx.cells
    obtain ⟨g0, g1, g2, g3, g4, g5, g6, g7⟩ := hd.cells
    clear hx hd hB
    by_cases he : er = 0
    · subst he
      obtain ⟨hv32, -, hqB, -⟩ := dual_is hv'.out hp'.out hE'.out.1 hE'.out.2.1
      have hle := Go.Lib.hid fun w => hlrn.out w E v hE'.out hv32
      go_wp2_with (first
        | (go_at_call 39; with_reducible refine (hcall.out _ (hrr.out.below hB'.out (Nat.le_refl _))).mono ?_; rintro e q1 ⟨rfl, hs⟩; have o1 := own_below ho hs (Nat.le_refl _); have x1 := Go.Lib.hid (hx'.out.below hs hx'.out.lt); have d1 := Go.Lib.hid (hd'.out.below hs hd'.out.lt); have B1 := Go.Lib.hid (hB'.out.trans (hs.mono hB'.out.size)); have z1 : x9 + 1 ≤ q1.heap.size := Nat.le_trans hsz hs.size; clear hs)
        | (at_builtin; refine law_append1 elU32 _ rfl _ _ rfl (x9 + 1) _ k (l.map Int.ofNat) rfl o1 v rfl (by omega) (by omega) ?_))
      intro v2 q2 o2 hb2
      obtain ⟨a2, c2, rfl⟩ := own_form o2
      have x2 := Go.Lib.hid (x1.out.below hb2 (by omega))
      have d2 := Go.Lib.hid (d1.out.below hb2 (by omega))
      have B2 := Go.Lib.hid (B1.out.trans (hb2.mono (by omega)))
      have z2 : x9 + 1 ≤ q2.heap.size := Nat.le_trans z1 hb2.size
      have hle' := Go.Lib.hid hle
      obtain ⟨E', hEE⟩ : ∃ E', E' = learnD E v := ⟨_, rfl⟩
      have hE2 := Go.Lib.hid (show E'.ok by rw [hEE]; exact learnD_ok hE'.out hv32)
      have hle2 := hle.out
      rw [← hEE] at hle2
      have hle3 := Go.Lib.hid hle2
      have hst := Go.Lib.hid (show decD B n 0 dStart = glue (l ++ [v]) (decD B (n - (k + 1)) q E') by
        rw [hgl'.out, show n - k = (n - (k + 1)) + 1 by omega, decD_ok hv'.out, glue_glue, ← hEE])
      have e2 : (l.map Int.ofNat) ++ [(v : Int)] = (l ++ [v]).map Int.ofNat := by simp
      rw [e2] at o2
      obtain ⟨f0, f1, f2, f3, f4, f5, f6, f7⟩ := d2.out.cells
      clear hle hle2 hle' hEE e2 hb2 x1 d1 B1 z1 hx' hd' hB' o1 ho hcall g0 g1 g2 g3 g4 g5 g6 g7
      go_wp2_with (go_at_call 40; with_reducible refine (hle3.out _).mono ?_; rintro e q3 ⟨rfl, hs⟩; have o3 := own_below o2 hs (Nat.le_refl _); have x3 := Go.Lib.hid (x2.out.below hs x2.out.lt); have d3 := Go.Lib.hid (d2.out.below hs d2.out.lt); have B3 := Go.Lib.hid (B2.out.trans (hs.mono B2.out.size)); have z3 : x9 + 1 ≤ q3.heap.size := Nat.le_trans z2 hs.size; obtain ⟨g0, g1, g2, g3, g4, g5, g6, g7⟩ := d3.out.cells; clear hs)
      go_roundg (n - (k + 1))
      case measure => (have hgk := hgo.out; omega)
      case rel =>
        have ap : ∀ g, (Value.slice a2 (k + 1) c2).ownBlock = some g → g ≠ x9 := fun g e => by have := (o3.lt g e).1; omega
        refine ⟨k + 1, l ++ [v], q, E', by omega, rfl, by go_num, rfl, hqB, hE2.out, hst.out, by simp [hlk], fun x hx => ?_, own_setG (own_setG (own_setG (own_setG o3 ap _ _) ap _ _) ap _ _) ap _ _, (((x3.out.other (by simp; omega) _).other (by simp; omega) _).other (by simp; omega) _).other (by simp; omega) _, d3.out.set _ _ _ _, outp B3.out (by omega), by simp; omega⟩
        rcases List.mem_append.1 hx with hx | hx
        · exact hl'.out x hx
        · rw [List.mem_singleton] at hx; rw [hx]; exact hv32
    · have hfin := Go.Lib.hid (show lz = [] ∧ pz = 0 ∧ ez = er by
        have h1 := hzh.out
        rw [hgl'.out, show n - k = (n - (k + 1)) + 1 by omega, decD_er hv'.out he, glue_er _ _ _ he] at h1
        cases h1; exact ⟨rfl, rfl, rfl⟩)
      have he' : ¬ (er : Int) = 0 := by omega
      go_wp2_with (go_at_call 39; with_reducible refine (hcall.out _ (hrr.out.below hB'.out (Nat.le_refl _))).mono ?_; rintro e q1 ⟨rfl, hs⟩; have B1 := Go.Lib.hid (hB'.out.trans (hs.mono hB'.out.size)); clear hs)
      go_ret3
      obtain ⟨rfl, rfl, rfl⟩ := hfin.out
      exact ⟨none, 0, 0, rfl, Row.nil_row _ _, B1.out⟩
  · obtain rfl : k = n := by omega
    have hfin := Go.Lib.hid (show lz = l ∧ pz = p ∧ ez = 0 by
      have h1 := hzh.out
      rw [hgl'.out, Nat.sub_self, decD_zero, glue_ok, List.append_nil] at h1
      cases h1; exact ⟨rfl, rfl, rfl⟩)
    have hlt' : ¬ (k : Int) < k := by omega
    go_wp2
    go_ret3
    obtain ⟨rfl, rfl, rfl⟩ := hfin.out
    exact ⟨av, k, cv, rfl, Row.of_own ho (natsU _ hl'.out), hB⟩
end Go.Proofs.Ytifbigmgiakakaa

/- Contracts of the package coder: encode, by halves. -/
namespace Go.Proofs.Ytifbigmgiakakaa
open Go.RowKit Cad

/-- a state, bits and a state that go out -/
theorem dbd_boxes (W : World) (a b c d : Int) : ∃ W0, W0 = ((W.alloc (.cells #[.int .i64 a, .int .i64 b, .int .u64 c, .int .u64 d] 31)).alloc (.cells #[.slice none 0 0, .int .i64 0] 24)).alloc (.cells #[.int .i64 0, .int .i64 0, .int .u64 0, .int .u64 0] 31) ∧ Below W.heap.size W W0 ∧ W0.heap.size = W.heap.size + 1 + 1 + 1 ∧
    DuAt W0 W.heap.size a b c d ∧ BoxAt W0 (W.heap.size + 1) (.slice none 0 0) 0 ∧ DuAt W0 (W.heap.size + 1 + 1) 0 0 0 0 := by
  have h1 := (below1 W (.cells #[.int .i64 a, .int .i64 b, .int .u64 c, .int .u64 d] 31)).alloc (below1 W _).size (.cells #[.slice none 0 0, .int .i64 0] 24)
  refine ⟨_, rfl, h1.alloc h1.size _, by simp, ((duat1 W a b c d).alloc _).alloc _, ?_, ?_⟩
  · have h := box1 (W.alloc (.cells #[.int .i64 a, .int .i64 b, .int .u64 c, .int .u64 d] 31)) (.slice none 0 0) 0
    have e : (W.alloc (.cells #[.int .i64 a, .int .i64 b, .int .u64 c, .int .u64 d] 31)).heap.size = W.heap.size + 1 := by simp
    rw [e] at h
    exact h.alloc _
  · have h := duat1 ((W.alloc (.cells #[.int .i64 a, .int .i64 b, .int .u64 c, .int .u64 d] 31)).alloc (.cells #[.slice none 0 0, .int .i64 0] 24)) 0 0 0 0
    have e : ((W.alloc (.cells #[.int .i64 a, .int .i64 b, .int .u64 c, .int .u64 d] 31)).alloc (.cells #[.slice none 0 0, .int .i64 0] 24)).heap.size = W.heap.size + 1 + 1 := by simp
    rw [e] at h
    exact h

/-- what a world holds while numbers are coded -/
structure EncAt (W : World) (al : Option Addr) (ll cl : Nat) (l : List Int) (w : World) (E : Du) : Prop where
  d : DuAt w W.heap.size E.k0 E.k1 E.s0 E.s1
  y : BoxAt w (W.heap.size + 1) (.slice none 0 0) 0
  p : DuAt w (W.heap.size + 1 + 1) 0 0 0 0
  l : Row .u32 w al ll cl l
  w : Below W.heap.size W w
section
variable {W : World} {al : Option Addr} {ll cl : Nat} {l : List Int} {w w' : World} {E : Du}
theorem EncAt.below (h : EncAt W al ll cl l w E) (hb : Below w.heap.size w w') : EncAt W al ll cl l w' E :=
  ⟨h.d.below hb h.d.lt, h.y.below hb h.y.lt, h.p.below hb h.p.lt, h.l.below hb (Nat.le_refl _), h.w.trans (hb.mono h.w.size)⟩
theorem EncAt.drew (h : EncAt W al ll cl l w E) : EncAt W al ll cl l w.drew E := h.below (Below.refl _ _).drew
theorem EncAt.alloc (h : EncAt W al ll cl l w E) (o : Obj) : EncAt W al ll cl l (w.alloc o) E := h.below (below1 _ _)
theorem EncAt.sz (h : EncAt W al ll cl l w E) : W.heap.size + 1 + 1 < w.heap.size := h.p.lt
/-- a new variable that holds bits is written -/
theorem EncAt.box (h : EncAt W al ll cl l w E) {x : Nat} {aa : Option Addr} {n c : Nat} {N : Int} (hx : BoxAt w x (.slice aa n c) N) (hg : W.heap.size + 1 + 1 < x) (v : Value) (M : Int) :
    EncAt W al ll cl l ((w.setCell ⟨x, 0, none⟩ v).setCell ⟨x, 1, none⟩ (.int .i64 M)) E := by
  refine ⟨(h.d.other (by simp; omega) _).other (by simp; omega) _, (h.y.other (by simp; omega) _).other (by simp; omega) _, (h.p.other (by simp; omega) _).other (by simp; omega) _, ?_, (h.w.setCell (by simp; omega) _).setCell (by simp; omega) _⟩
  have hl := h.l
  refine ⟨hl.hlen, hl.hcap, hl.hmax, hl.wf, fun hp => ?_, hl.nil⟩
  obtain ⟨b, off, rfl, hlt, hc⟩ := hl.cells hp
  have hne : b ≠ x := by
    rintro rfl
    have h0 := hc 0 hp
    unfold World.cell? at h0
    unfold BoxAt at hx
    rw [hx] at h0
    match off, h0 with
    | 0, h0 => simp at h0
    | 1, h0 => simp at h0
    | off + 2, h0 => simp at h0
  refine ⟨b, off, rfl, by simpa using hlt, fun i hi => ?_⟩
  rw [← hc i hi]
  unfold World.cell?
  rw [Below.heap_setCell _ _ _ _ (by simpa using hne), Below.heap_setCell _ _ _ _ (by simpa using hne)]
/-- the state is written -/
theorem EncAt.next (h : EncAt W al ll cl l w E) (E' : Du) :
    EncAt W al ll cl l ((((w.setCell ⟨W.heap.size, 0, none⟩ (.int .i64 E'.k0)).setCell ⟨W.heap.size, 1, none⟩ (.int .i64 E'.k1)).setCell ⟨W.heap.size, 2, none⟩ (.int .u64 E'.s0)).setCell ⟨W.heap.size, 3, none⟩ (.int .u64 E'.s1)) E' := by
  refine ⟨h.d.set _ _ _ _, (((h.y.other (by simp) _).other (by simp) _).other (by simp) _).other (by simp) _, (((h.p.other (by simp; omega) _).other (by simp; omega) _).other (by simp; omega) _).other (by simp; omega) _, ?_, outp h.w (Nat.le_refl _)⟩
  exact (((h.l.boxD (.inr rfl) h.d 0 _).boxD (.inr rfl) (h.d.set0 _) 1 _).boxD (.inr rfl) ((h.d.set0 _).set1 _) 2 _).boxD (.inr rfl) (((h.d.set0 _).set1 _).set2 _) 3 _
end

set_option maxRecDepth 100000 in
set_option maxHeartbeats 2000000 in
/-- no number -/
theorem Pcode_nil (W : World) (al : Option Addr) (cl : Nat) (D : Du) :
    ResD 30 #[.slice al 0 cl, .agg #[.int .i64 D.k0, .int .i64 D.k1, .int .u64 D.s0, .int .u64 D.s1]] W 0 [] 0 D.k0 D.k1 D.s0 D.s1 0 := by
  unfold ResD
  obtain ⟨W0, hW0, hbE, hsz0, hd0, hy0, hp0⟩ := dbd_boxes W D.k0 D.k1 D.s0 D.s1
  have hd0' := Go.Lib.hid hd0
  have hy0' := Go.Lib.hid hy0
  have hp0' := Go.Lib.hid hp0
  have hbE' := Go.Lib.hid hbE
  clear hd0 hy0 hp0 hbE
  go_enter Try.func30, Try.ntmps30
  go_wp2
  rw [← hW0]
  clear hW0
  refine wp_region_ord (fun w' => DuAt w' W.heap.size D.k0 D.k1 D.s0 D.s1) [(0, 0), (1, 2), (2, 3), (3, 4), (4, 0)] (by kernel_rfl) (by kernel_rfl) ?hC0 ?_
  case hC0 => exact hd0'.out.drew
  simp only [pick, nth]
  refine wpW_name ?_
  intro q0 hq0
  have d0 := Go.Lib.hid (show DuAt q0 W.heap.size D.k0 D.k1 D.s0 D.s1 by rw [hq0]; exact hd0'.out.drew)
  have y0 := Go.Lib.hid (show BoxAt q0 (W.heap.size + 1) (.slice none 0 0) 0 by rw [hq0]; exact hy0'.out.drew)
  have p0 := Go.Lib.hid (show DuAt q0 (W.heap.size + 1 + 1) 0 0 0 0 by rw [hq0]; exact hp0'.out.drew)
  have B0 := Go.Lib.hid (show Below W.heap.size W q0 by rw [hq0]; exact hbE'.out.drew)
  clear hq0 hd0' hy0' hp0' hbE'
  (repeat (first | (apply wpW_light; (case h => (intro wa; (first | (go_big_quiet_skip; exact wpQuiet_nil rfl) | (go_big_quiet_want; go_big_quiet_op; go_big_quiet_on; exact wpQuiet_nil rfl))))) | (apply wpW_here; (case h => (first | (go_big_quiet_skip; exact wpQuiet_nil rfl) | (go_big_quiet_want; go_big_quiet_op; go_big_quiet_on; exact wpQuiet_nil rfl)))) | (apply wpW_held; (case hC => assumption); (case h => (intro wa hCa; obtain ⟨u0, u1, u2, u3, u4, u5, u6, u7⟩ := hCa.cells; (first | (go_big_quiet_skip; exact wpQuiet_nil rfl) | (go_big_quiet_want; go_big_quiet_op; go_big_quiet_on; exact wpQuiet_nil rfl)))))))
  obtain ⟨f0, f1, f2, f3⟩ := y0.out.cells
  obtain ⟨g0, g1, g2, g3, g4, g5, g6, g7⟩ := p0.out.cells
  refine wpW_act (fun QQ hQQ => ?_) (by rfl)
  go_wp2
  (refine hQQ _ _ ?hCn ?_; (case hCn => exact (d0.out.other (by simp) _).other (by simp) _); clear hQQ QQ)
  (repeat (first | (apply wpW_light; (case h => (intro wa; (first | (go_big_quiet_skip; exact wpQuiet_nil rfl) | (go_big_quiet_want; go_big_quiet_op; go_big_quiet_on; exact wpQuiet_nil rfl))))) | (apply wpW_here; (case h => (first | (go_big_quiet_skip; exact wpQuiet_nil rfl) | (go_big_quiet_want; go_big_quiet_op; go_big_quiet_on; exact wpQuiet_nil rfl)))) | (apply wpW_held; (case hC => assumption); (case h => (intro wa hCa; simp only [] at hCa; (first | (go_big_quiet_skip; exact wpQuiet_nil rfl) | (go_big_quiet_want; go_big_quiet_op; go_big_quiet_on; exact wpQuiet_nil rfl)))))))
  refine wpW_last (fun QQ hQQ => ?_) (by rfl)
  go_wp2
  (refine hQQ.out _ _ ?_; clear hQQ QQ)
  (repeat (first | (apply wpW_light; (case h => (intro wa; (first | (go_big_quiet_skip; exact wpQuiet_nil rfl) | (go_big_quiet_want; go_big_quiet_op; go_big_quiet_on; exact wpQuiet_nil rfl))))) | (apply wpW_here; (case h => (first | (go_big_quiet_skip; exact wpQuiet_nil rfl) | (go_big_quiet_want; go_big_quiet_op; go_big_quiet_on; exact wpQuiet_nil rfl)))) | (apply wpW_held; (case hC => assumption); (case h => (intro wa hCa; simp only [] at hCa; (first | (go_big_quiet_skip; exact wpQuiet_nil rfl) | (go_big_quiet_want; go_big_quiet_op; go_big_quiet_on; exact wpQuiet_nil rfl)))))))
  refine wpW_nil ?_
  go_wp2
  (try simp only [Exit.inBlock, Exit.then])
  obtain ⟨o1, o2, o3, o4⟩ := outs y0.out p0.out (by omega) none 0 0 0 D.k0 D.k1 D.s0 D.s1
  refine bodyPost_ret (results_bits_du_tmp (by rfl) _ _ (W.heap.size + 1) (W.heap.size + 1 + 1) _ _ _ _ _ _ rfl rfl o1 o2) rfl ?_
  exact ⟨none, 0, by simp, Row.nil_row _ _, o3 B0.out (by omega) (by omega)⟩

set_option maxRecDepth 100000 in
set_option maxHeartbeats 2000000 in
/-- one number -/
theorem Pcode_one (W : World) (al : Option Addr) (cl : Nat) (l : List Int) (v : Nat) (D E : Du) (hl : Row .u32 W al 1 cl l) (hv : l.getD 0 0 = (v : Int)) (m : Nat) (p : List Int) (t : Int)
    (hw : ∀ w, ResD 28 #[.agg #[.slice none 0 0, .int .i64 0], .agg #[.int .i64 D.k0, .int .i64 D.k1, .int .u64 D.s0, .int .u64 D.s1], .int .u32 v] w m p t E.k0 E.k1 E.s0 E.s1 0) :
    ResD 30 #[.slice al 1 cl, .agg #[.int .i64 D.k0, .int .i64 D.k1, .int .u64 D.s0, .int .u64 D.s1]] W m p t E.k0 E.k1 E.s0 E.s1 0 := by
  unfold ResD at hw ⊢
  obtain ⟨W0, hW0, hbE, hsz0, hd0, hy0, hp0⟩ := dbd_boxes W D.k0 D.k1 D.s0 D.s1
  have hd0' := Go.Lib.hid hd0
  have hy0' := Go.Lib.hid hy0
  have hp0' := Go.Lib.hid hp0
  have hbE' := Go.Lib.hid hbE
  have hw' := Go.Lib.hid hw
  obtain ⟨b, o, rfl, hblt, hc⟩ := (hl.below hbE (Nat.le_refl _)).cells (by omega)
  have hcell := hc 0 (by omega)
  rw [hv] at hcell
  simp only [Nat.add_zero] at hcell
  clear hd0 hy0 hp0 hbE hl hc hw hv
  go_enter Try.func30, Try.ntmps30
  go_wp2
  rw [← hW0]
  clear hW0
  refine wp_region_ord (fun _ => True) [(0, 0), (1, 1), (2, 0), (3, 0), (4, 1), (5, 3), (6, 0), (7, 0), (8, 0), (9, 3), (10, 4), (11, 0)] (by kernel_rfl) (by kernel_rfl) ?hC0 ?_
  case hC0 => trivial
  simp only [pick, nth]
  have hcell' : W0.drew.cell? ⟨b, o, none⟩ = some (.int .u32 v) := hcell
  obtain ⟨u0, u1, u2, u3, u4, u5, u6, u7⟩ := hd0'.out.drew.cells
  (repeat (first | (apply wpW_light; (case h => (intro wa; (first | (go_big_quiet_skip; exact wpQuiet_nil rfl) | (go_big_quiet_want; go_big_quiet_op; go_big_quiet_on; exact wpQuiet_nil rfl))))) | (apply wpW_here; (case h => (first | (go_big_quiet_skip; exact wpQuiet_nil rfl) | (go_big_quiet_want; go_big_quiet_op; go_big_quiet_on; exact wpQuiet_nil rfl)))) | (apply wpW_held; (case hC => assumption); (case h => (intro wa hCa; simp only [] at hCa; (first | (go_big_quiet_skip; exact wpQuiet_nil rfl) | (go_big_quiet_want; go_big_quiet_op; go_big_quiet_on; exact wpQuiet_nil rfl)))))))
  clear u0 u1 u2 u3 u4 u5 u6 u7 hcell' hcell
  refine wpW_act (fun QQ hQQ => ?_) (by rfl)
  go_wp2_with (go_at_call 28; with_reducible refine (hw'.out _).mono ?_; rintro e q1 ⟨b1, c1, rfl, hr1, hb1⟩)
  (refine hQQ _ _ ?hCn ?_; (case hCn => trivial); clear hQQ QQ)
  have hy1 := Go.Lib.hid (hy0'.out.drew.below hb1 hy0'.out.drew.lt)
  have hp1 := Go.Lib.hid (hp0'.out.drew.below hb1 hp0'.out.drew.lt)
  have hr1' := Go.Lib.hid hr1
  have hbA := Go.Lib.hid (hbE'.out.drew.trans (hb1.mono hbE'.out.drew.size))
  clear hb1 hr1
  obtain ⟨f0, f1, f2, f3⟩ := hy1.out.cells
  obtain ⟨g0, g1, g2, g3, g4, g5, g6, g7⟩ := hp1.out.cells
  (repeat (first | (apply wpW_light; (case h => (intro wa; (first | (go_big_quiet_skip; exact wpQuiet_nil rfl) | (go_big_quiet_want; go_big_quiet_op; go_big_quiet_on; exact wpQuiet_nil rfl))))) | (apply wpW_here; (case h => (first | (go_big_quiet_skip; exact wpQuiet_nil rfl) | (go_big_quiet_want; go_big_quiet_op; go_big_quiet_on; exact wpQuiet_nil rfl)))) | (apply wpW_held; (case hC => assumption); (case h => (intro wa hCa; simp only [] at hCa; (first | (go_big_quiet_skip; exact wpQuiet_nil rfl) | (go_big_quiet_want; go_big_quiet_op; go_big_quiet_on; exact wpQuiet_nil rfl)))))))
  refine wpW_act (fun QQ hQQ => ?_) (by rfl)
  go_wp2
  (refine hQQ _ _ ?hCn ?_; (case hCn => trivial); clear hQQ QQ)
  (repeat (first | (apply wpW_light; (case h => (intro wa; (first | (go_big_quiet_skip; exact wpQuiet_nil rfl) | (go_big_quiet_want; go_big_quiet_op; go_big_quiet_on; exact wpQuiet_nil rfl))))) | (apply wpW_here; (case h => (first | (go_big_quiet_skip; exact wpQuiet_nil rfl) | (go_big_quiet_want; go_big_quiet_op; go_big_quiet_on; exact wpQuiet_nil rfl)))) | (apply wpW_held; (case hC => assumption); (case h => (intro wa hCa; simp only [] at hCa; (first | (go_big_quiet_skip; exact wpQuiet_nil rfl) | (go_big_quiet_want; go_big_quiet_op; go_big_quiet_on; exact wpQuiet_nil rfl)))))))
  refine wpW_last (fun QQ hQQ => ?_) (by rfl)
  go_wp2
  (refine hQQ.out _ _ ?_; clear hQQ QQ)
  (repeat (first | (apply wpW_light; (case h => (intro wa; (first | (go_big_quiet_skip; exact wpQuiet_nil rfl) | (go_big_quiet_want; go_big_quiet_op; go_big_quiet_on; exact wpQuiet_nil rfl))))) | (apply wpW_here; (case h => (first | (go_big_quiet_skip; exact wpQuiet_nil rfl) | (go_big_quiet_want; go_big_quiet_op; go_big_quiet_on; exact wpQuiet_nil rfl)))) | (apply wpW_held; (case hC => assumption); (case h => (intro wa hCa; simp only [] at hCa; (first | (go_big_quiet_skip; exact wpQuiet_nil rfl) | (go_big_quiet_want; go_big_quiet_op; go_big_quiet_on; exact wpQuiet_nil rfl)))))))
  refine wpW_nil ?_
  go_wp2
  (try simp only [Exit.inBlock, Exit.then])
  obtain ⟨o1, o2, o3, o4⟩ := outs hy1.out hp1.out (by omega) b1 m c1 t E.k0 E.k1 E.s0 E.s1
  refine bodyPost_ret (results_bits_du_tmp (by rfl) _ _ (W.heap.size + 1) (W.heap.size + 1 + 1) _ _ _ _ _ _ rfl rfl o1 o2) rfl ?_
  exact ⟨b1, c1, by simp, o4 hr1'.out, o3 hbA.out (by omega) (by omega)⟩
end Go.Proofs.Ytifbigmgiakakaa

/- Contracts of the package coder: encode, by halves; two halves. -/
namespace Go.Proofs.Ytifbigmgiakakaa
open Go.RowKit Cad

set_option maxRecDepth 100000 in
set_option maxHeartbeats 8000000 in
/-- two halves -/
theorem Pcode_more (W : World) (b o ll cl : Nat) (l : List Int) (D E G : Du) (h : Nat) (hl : Row .u32 W (some ⟨b, o, none⟩) ll cl l) (h4 : ll ≤ 4000) (h2 : 2 ≤ ll) (hh : h = ll / 2) (m1 : Nat) (p1 : List Int) (t1 : Int) (m2 : Nat) (p2 : List Int) (t2 : Int) (m3 : Nat) (p3 : List Int) (t3 : Int)
    (c1 : ∀ w, Row .u32 w (some ⟨b, o, none⟩) ll cl l → ResD 30 #[.slice (some ⟨b, o, none⟩) h cl, .agg #[.int .i64 D.k0, .int .i64 D.k1, .int .u64 D.s0, .int .u64 D.s1]] w m1 p1 t1 E.k0 E.k1 E.s0 E.s1 0)
    (c2 : ∀ w, Row .u32 w (some ⟨b, o, none⟩) ll cl l → ResD 30 #[.slice (some ⟨b, o + h, none⟩) (ll - h) (cl - h), .agg #[.int .i64 E.k0, .int .i64 E.k1, .int .u64 E.s0, .int .u64 E.s1]] w m2 p2 t2 G.k0 G.k1 G.s0 G.s1 0)
    (cj : ∀ w b c b' c', Row .u8 w b m1 c p1 → Row .u8 w b' m2 c' p2 → Res 26 #[.agg #[.slice b m1 c, .int .i64 t1], .agg #[.slice b' m2 c', .int .i64 t2]] w m3 p3 t3 0) :
    ResD 30 #[.slice (some ⟨b, o, none⟩) ll cl, .agg #[.int .i64 D.k0, .int .i64 D.k1, .int .u64 D.s0, .int .u64 D.s1]] W m3 p3 t3 G.k0 G.k1 G.s0 G.s1 0 := by
  unfold ResD at c1 c2 ⊢
  unfold Res at cj
  have c1' := Go.Lib.hid c1
  have c2' := Go.Lib.hid c2
  have cj' := Go.Lib.hid cj
  have hcap := hl.hcap
  obtain ⟨W0, hW0, hbE, hsz0, hd0, hy0, hp0⟩ := dbd_boxes W D.k0 D.k1 D.s0 D.s1
  have A0 := Go.Lib.hid (⟨hd0, hy0, hp0, hl.below hbE (Nat.le_refl _), hbE⟩ : EncAt W (some ⟨b, o, none⟩) ll cl l W0 D)
  clear hd0 hy0 hp0 hbE hl c1 c2 cj
  have n0 : ((ll : Int) == 0) = false := by rw [beq_eq_false_iff_ne]; omega
  have n1 : ((ll : Int) == 1) = false := by rw [beq_eq_false_iff_ne]; omega
  have e8 : IntKind.i64.wrap ((ll : Int) / 2) = (h : Int) := by rw [IntWalk.i64_in _ (by omega)]; omega
  have hle : h < ll := by omega
  have hle2 : h < cl := by omega
  clear hh
  go_enter Try.func30, Try.ntmps30
  go_wp2
  rw [← hW0]
  clear hW0
  go_cut [8, 9] (fun s8 s9 wx => ∃ (x : Nat) (b1 : Option Addr) (k1 : Nat), s8 = .pointer (some ⟨x, 0, none⟩) ∧ s9 = .int .i64 0 ∧ W.heap.size + 1 + 1 < x ∧ BoxAt wx x (.slice b1 m1 k1) t1 ∧ Row .u8 wx b1 m1 k1 p1 ∧ EncAt W (some ⟨b, o, none⟩) ll cl l wx E)
  case first =>
    refine wp_region_ord2 (fun w' => DuAt w' W.heap.size D.k0 D.k1 D.s0 D.s1) 4 9 [(0, 0), (1, 0), (2, 0), (3, 2), (4, 4), (5, 0), (6, 0), (7, 0), (8, 0), (9, 4), (10, 4), (11, 4), (12, 0)] [(0, 0), (1, 0), (2, 0), (3, 2), (9, 3), (4, 4), (5, 0), (6, 0), (7, 0), (8, 0), (10, 4), (11, 4), (12, 0)] (by kernel_rfl) (by decide) (by kernel_rfl) (by kernel_rfl) ?hC0 ?_ ?_
    case hC0 => exact A0.out.d.drew
    · simp only [pick, nth]
      refine wpW_name ?_
      intro q0 hq0
      have A1 := Go.Lib.hid (show EncAt W (some ⟨b, o, none⟩) ll cl l q0 D by rw [hq0]; exact A0.out.drew)
      clear hq0 A0
      have dA := Go.Lib.hid A1.out.d
      (repeat (first | (apply wpW_light; (case h => (intro wa; (first | (go_big_quiet_skip; exact wpQuiet_nil rfl) | (go_big_quiet_want; go_big_quiet_op; go_big_quiet_on; exact wpQuiet_nil rfl))))) | (apply wpW_here; (case h => (first | (go_big_quiet_skip; exact wpQuiet_nil rfl) | (go_big_quiet_want; go_big_quiet_op; go_big_quiet_on; exact wpQuiet_nil rfl)))) | (apply wpW_held; (case hC => assumption); (case h => (intro wa hCa; obtain ⟨u0, u1, u2, u3, u4, u5, u6, u7⟩ := hCa.cells; (first | (go_big_quiet_skip; exact wpQuiet_nil rfl) | (go_big_quiet_want; go_big_quiet_op; go_big_quiet_on; exact wpQuiet_nil rfl)))))))
      clear dA
      refine wpW_last (fun QQ hQQ => ?_) (by rfl)
      go_wp2_with (go_at_call 30; with_reducible refine (c1'.out _ A1.out.l).mono ?_; rintro e q1 ⟨ba, ka, rfl, ra, hb⟩)
      (refine hQQ.out _ _ ?_; clear hQQ QQ)
      have A2 := Go.Lib.hid (A1.out.below hb)
      have ra2 := Go.Lib.hid ra
      clear ra hb
      (repeat (first | (apply wpW_light; (case h => (intro wa; (first | (go_big_quiet_skip; exact wpQuiet_nil rfl) | (go_big_quiet_want; go_big_quiet_op; go_big_quiet_on; exact wpQuiet_nil rfl))))) | (apply wpW_here; (case h => (first | (go_big_quiet_skip; exact wpQuiet_nil rfl) | (go_big_quiet_want; go_big_quiet_op; go_big_quiet_on; exact wpQuiet_nil rfl)))) | (apply wpW_held; (case hC => assumption); (case h => (intro wa hCa; simp only [] at hCa; (first | (go_big_quiet_skip; exact wpQuiet_nil rfl) | (go_big_quiet_want; go_big_quiet_op; go_big_quiet_on; exact wpQuiet_nil rfl)))))))
      refine wpW_last (fun QQ hQQ => ?_) (by rfl)
      go_wp2
      (refine hQQ.out _ _ ?_; clear hQQ QQ)
      refine wpW_name ?_
      intro q2 hq
      have hb : Below q1.heap.size q1 q2 := by rw [hq]; exact below1 q1 _
      have nb3 := Go.Lib.hid (show BoxAt q2 q1.heap.size (.slice none 0 0) 0 by rw [hq]; exact box1 q1 _ _)
      have gx : W.heap.size + 1 + 1 < q1.heap.size := A2.out.sz
      obtain ⟨y, hy⟩ : ∃ y, y = q1.heap.size := ⟨_, rfl⟩
      rw [← hy] at nb3 gx ⊢
      have A3 := Go.Lib.hid (A2.out.below hb)
      have ra3 := Go.Lib.hid (ra2.out.below hb (Nat.le_refl _))
      clear hq hb hy
      (repeat (first | (apply wpW_light; (case h => (intro wa; (first | (go_big_quiet_skip; exact wpQuiet_nil rfl) | (go_big_quiet_want; go_big_quiet_op; go_big_quiet_on; exact wpQuiet_nil rfl))))) | (apply wpW_here; (case h => (first | (go_big_quiet_skip; exact wpQuiet_nil rfl) | (go_big_quiet_want; go_big_quiet_op; go_big_quiet_on; exact wpQuiet_nil rfl)))) | (apply wpW_held; (case hC => assumption); (case h => (intro wa hCa; simp only [] at hCa; (first | (go_big_quiet_skip; exact wpQuiet_nil rfl) | (go_big_quiet_want; go_big_quiet_op; go_big_quiet_on; exact wpQuiet_nil rfl)))))))
      obtain ⟨f0, f1, f2, f3⟩ := nb3.out.cells
      refine wpW_last (fun QQ hQQ => ?_) (by rfl)
      go_wp2
      (refine hQQ.out _ _ ?_; clear hQQ QQ)
      refine wpW_name ?_
      intro q3 hq
      have A4 := Go.Lib.hid (show EncAt W (some ⟨b, o, none⟩) ll cl l q3 D by rw [hq]; exact A3.out.box nb3.out gx _ _)
      have nb4 := Go.Lib.hid (show BoxAt q3 y (.slice ba m1 ka) t1 by rw [hq]; exact nb3.out.set _ _)
      have ra4 := Go.Lib.hid (show Row .u8 q3 ba m1 ka p1 by rw [hq]; exact (ra3.out.box nb3.out 0 _).box (nb3.out.set0 _) 1 _)
      clear hq f0 f1 f2 f3
      (repeat (first | (apply wpW_light; (case h => (intro wa; (first | (go_big_quiet_skip; exact wpQuiet_nil rfl) | (go_big_quiet_want; go_big_quiet_op; go_big_quiet_on; exact wpQuiet_nil rfl))))) | (apply wpW_here; (case h => (first | (go_big_quiet_skip; exact wpQuiet_nil rfl) | (go_big_quiet_want; go_big_quiet_op; go_big_quiet_on; exact wpQuiet_nil rfl)))) | (apply wpW_held; (case hC => assumption); (case h => (intro wa hCa; simp only [] at hCa; (first | (go_big_quiet_skip; exact wpQuiet_nil rfl) | (go_big_quiet_want; go_big_quiet_op; go_big_quiet_on; exact wpQuiet_nil rfl)))))))
      obtain ⟨g0, g1, g2, g3, g4, g5, g6, g7⟩ := A4.out.d.cells
      refine wpW_last (fun QQ hQQ => ?_) (by rfl)
      go_wp2
      (refine hQQ.out _ _ ?_; clear hQQ QQ)
      (repeat (first | (apply wpW_light; (case h => (intro wa; (first | (go_big_quiet_skip; exact wpQuiet_nil rfl) | (go_big_quiet_want; go_big_quiet_op; go_big_quiet_on; exact wpQuiet_nil rfl))))) | (apply wpW_here; (case h => (first | (go_big_quiet_skip; exact wpQuiet_nil rfl) | (go_big_quiet_want; go_big_quiet_op; go_big_quiet_on; exact wpQuiet_nil rfl)))) | (apply wpW_held; (case hC => assumption); (case h => (intro wa hCa; simp only [] at hCa; (first | (go_big_quiet_skip; exact wpQuiet_nil rfl) | (go_big_quiet_want; go_big_quiet_op; go_big_quiet_on; exact wpQuiet_nil rfl)))))))
      refine wpW_nil ?_
      go_wp2_with (fail)
      go_meet
      have ny : y ≠ W.heap.size := by omega
      exact ⟨y, ba, ka, rfl, rfl, gx, (((nb4.out.other ny _).other ny _).other ny _).other ny _, (((ra4.out.boxD (.inl rfl) A4.out.d 0 _).boxD (.inl rfl) (A4.out.d.set0 _) 1 _).boxD (.inl rfl) ((A4.out.d.set0 _).set1 _) 2 _).boxD (.inl rfl) (((A4.out.d.set0 _).set1 _).set2 _) 3 _, A4.out.next E⟩
    · simp only [pick, nth]
      refine wpW_name ?_
      intro q0 hq0
      have A1 := Go.Lib.hid (show EncAt W (some ⟨b, o, none⟩) ll cl l q0 D by rw [hq0]; exact A0.out.drew)
      clear hq0 A0
      have dA := Go.Lib.hid A1.out.d
      (repeat (first | (apply wpW_light; (case h => (intro wa; (first | (go_big_quiet_skip; exact wpQuiet_nil rfl) | (go_big_quiet_want; go_big_quiet_op; go_big_quiet_on; exact wpQuiet_nil rfl))))) | (apply wpW_here; (case h => (first | (go_big_quiet_skip; exact wpQuiet_nil rfl) | (go_big_quiet_want; go_big_quiet_op; go_big_quiet_on; exact wpQuiet_nil rfl)))) | (apply wpW_held; (case hC => assumption); (case h => (intro wa hCa; obtain ⟨u0, u1, u2, u3, u4, u5, u6, u7⟩ := hCa.cells; (first | (go_big_quiet_skip; exact wpQuiet_nil rfl) | (go_big_quiet_want; go_big_quiet_op; go_big_quiet_on; exact wpQuiet_nil rfl)))))))
      clear dA
      refine wpW_act (fun QQ hQQ => ?_) (by rfl)
      go_wp2
      (refine hQQ _ _ ?hCn ?_; (case hCn => exact A1.out.d.alloc _); clear hQQ QQ)
      refine wpW_name ?_
      intro q1 hq
      have hb : Below q0.heap.size q0 q1 := by rw [hq]; exact below1 q0 _
      have nb2 := Go.Lib.hid (show BoxAt q1 q0.heap.size (.slice none 0 0) 0 by rw [hq]; exact box1 q0 _ _)
      have gx : W.heap.size + 1 + 1 < q0.heap.size := A1.out.sz
      obtain ⟨y, hy⟩ : ∃ y, y = q0.heap.size := ⟨_, rfl⟩
      rw [← hy] at nb2 gx ⊢
      have A2 := Go.Lib.hid (A1.out.below hb)
      clear hq hb hy
      refine wpW_last (fun QQ hQQ => ?_) (by rfl)
      go_wp2_with (go_at_call 30; with_reducible refine (c1'.out _ A2.out.l).mono ?_; rintro e q2 ⟨ba, ka, rfl, ra, hb⟩)
      (refine hQQ.out _ _ ?_; clear hQQ QQ)
      have A3 := Go.Lib.hid (A2.out.below hb)
      have ra3 := Go.Lib.hid ra
      have nb3 := Go.Lib.hid (nb2.out.below hb nb2.out.lt)
      clear ra hb
      (repeat (first | (apply wpW_light; (case h => (intro wa; (first | (go_big_quiet_skip; exact wpQuiet_nil rfl) | (go_big_quiet_want; go_big_quiet_op; go_big_quiet_on; exact wpQuiet_nil rfl))))) | (apply wpW_here; (case h => (first | (go_big_quiet_skip; exact wpQuiet_nil rfl) | (go_big_quiet_want; go_big_quiet_op; go_big_quiet_on; exact wpQuiet_nil rfl)))) | (apply wpW_held; (case hC => assumption); (case h => (intro wa hCa; simp only [] at hCa; (first | (go_big_quiet_skip; exact wpQuiet_nil rfl) | (go_big_quiet_want; go_big_quiet_op; go_big_quiet_on; exact wpQuiet_nil rfl)))))))
      (repeat (first | (apply wpW_light; (case h => (intro wa; (first | (go_big_quiet_skip; exact wpQuiet_nil rfl) | (go_big_quiet_want; go_big_quiet_op; go_big_quiet_on; exact wpQuiet_nil rfl))))) | (apply wpW_here; (case h => (first | (go_big_quiet_skip; exact wpQuiet_nil rfl) | (go_big_quiet_want; go_big_quiet_op; go_big_quiet_on; exact wpQuiet_nil rfl)))) | (apply wpW_held; (case hC => assumption); (case h => (intro wa hCa; simp only [] at hCa; (first | (go_big_quiet_skip; exact wpQuiet_nil rfl) | (go_big_quiet_want; go_big_quiet_op; go_big_quiet_on; exact wpQuiet_nil rfl)))))))
      obtain ⟨f0, f1, f2, f3⟩ := nb3.out.cells
      refine wpW_last (fun QQ hQQ => ?_) (by rfl)
      go_wp2
      (refine hQQ.out _ _ ?_; clear hQQ QQ)
      refine wpW_name ?_
      intro q3 hq
      have A4 := Go.Lib.hid (show EncAt W (some ⟨b, o, none⟩) ll cl l q3 D by rw [hq]; exact A3.out.box nb3.out gx _ _)
      have nb4 := Go.Lib.hid (show BoxAt q3 y (.slice ba m1 ka) t1 by rw [hq]; exact nb3.out.set _ _)
      have ra4 := Go.Lib.hid (show Row .u8 q3 ba m1 ka p1 by rw [hq]; exact (ra3.out.box nb3.out 0 _).box (nb3.out.set0 _) 1 _)
      clear hq f0 f1 f2 f3
      (repeat (first | (apply wpW_light; (case h => (intro wa; (first | (go_big_quiet_skip; exact wpQuiet_nil rfl) | (go_big_quiet_want; go_big_quiet_op; go_big_quiet_on; exact wpQuiet_nil rfl))))) | (apply wpW_here; (case h => (first | (go_big_quiet_skip; exact wpQuiet_nil rfl) | (go_big_quiet_want; go_big_quiet_op; go_big_quiet_on; exact wpQuiet_nil rfl)))) | (apply wpW_held; (case hC => assumption); (case h => (intro wa hCa; simp only [] at hCa; (first | (go_big_quiet_skip; exact wpQuiet_nil rfl) | (go_big_quiet_want; go_big_quiet_op; go_big_quiet_on; exact wpQuiet_nil rfl)))))))
      obtain ⟨g0, g1, g2, g3, g4, g5, g6, g7⟩ := A4.out.d.cells
      refine wpW_last (fun QQ hQQ => ?_) (by rfl)
      go_wp2
      (refine hQQ.out _ _ ?_; clear hQQ QQ)
      (repeat (first | (apply wpW_light; (case h => (intro wa; (first | (go_big_quiet_skip; exact wpQuiet_nil rfl) | (go_big_quiet_want; go_big_quiet_op; go_big_quiet_on; exact wpQuiet_nil rfl))))) | (apply wpW_here; (case h => (first | (go_big_quiet_skip; exact wpQuiet_nil rfl) | (go_big_quiet_want; go_big_quiet_op; go_big_quiet_on; exact wpQuiet_nil rfl)))) | (apply wpW_held; (case hC => assumption); (case h => (intro wa hCa; simp only [] at hCa; (first | (go_big_quiet_skip; exact wpQuiet_nil rfl) | (go_big_quiet_want; go_big_quiet_op; go_big_quiet_on; exact wpQuiet_nil rfl)))))))
      refine wpW_nil ?_
      go_wp2_with (fail)
      go_meet
      have ny : y ≠ W.heap.size := by omega
      exact ⟨y, ba, ka, rfl, rfl, gx, (((nb4.out.other ny _).other ny _).other ny _).other ny _, (((ra4.out.boxD (.inl rfl) A4.out.d 0 _).boxD (.inl rfl) (A4.out.d.set0 _) 1 _).boxD (.inl rfl) ((A4.out.d.set0 _).set1 _) 2 _).boxD (.inl rfl) (((A4.out.d.set0 _).set1 _).set2 _) 3 _, A4.out.next E⟩
  case rest =>
  obtain ⟨x, b1, k1, rfl, rfl, hx, X0', R0', A0'⟩ := hcut
  have X0 := Go.Lib.hid X0'
  have R0 := Go.Lib.hid R0'
  clear A0
  have A0 := Go.Lib.hid A0'
  clear X0' R0' A0' c1'
  go_wp2
  go_cut [10, 9] (fun s10 s9 wx => ∃ (y : Nat) (b2 : Option Addr) (k2 : Nat), s10 = .pointer (some ⟨y, 0, none⟩) ∧ s9 = .int .i64 0 ∧ BoxAt wx y (.slice b2 m2 k2) t2 ∧ Row .u8 wx b2 m2 k2 p2 ∧ BoxAt wx x (.slice b1 m1 k1) t1 ∧ Row .u8 wx b1 m1 k1 p1 ∧ EncAt W (some ⟨b, o, none⟩) ll cl l wx G)
  case first =>
    refine wp_region_ord2 (fun w' => DuAt w' W.heap.size E.k0 E.k1 E.s0 E.s1) 4 9 [(0, 0), (1, 0), (2, 0), (3, 2), (4, 4), (5, 0), (6, 0), (7, 0), (8, 0), (9, 4), (10, 4), (11, 4), (12, 0)] [(0, 0), (1, 0), (2, 0), (3, 2), (9, 3), (4, 4), (5, 0), (6, 0), (7, 0), (8, 0), (10, 4), (11, 4), (12, 0)] (by kernel_rfl) (by decide) (by kernel_rfl) (by kernel_rfl) ?hC0 ?_ ?_
    case hC0 => exact A0.out.d.drew
    · simp only [pick, nth]
      refine wpW_name ?_
      intro q0 hq0
      have A1 := Go.Lib.hid (show EncAt W (some ⟨b, o, none⟩) ll cl l q0 E by rw [hq0]; exact A0.out.drew)
      have X1 := Go.Lib.hid (show BoxAt q0 x (.slice b1 m1 k1) t1 by rw [hq0]; exact X0.out.drew)
      have R1 := Go.Lib.hid (show Row .u8 q0 b1 m1 k1 p1 by rw [hq0]; exact R0.out.below (Below.refl _ _).drew (Nat.le_refl _))
      clear hq0 A0 X0 R0
      have dA := Go.Lib.hid A1.out.d
      (repeat (first | (apply wpW_light; (case h => (intro wa; (first | (go_big_quiet_skip; exact wpQuiet_nil rfl) | (go_big_quiet_want; go_big_quiet_op; go_big_quiet_on; exact wpQuiet_nil rfl))))) | (apply wpW_here; (case h => (first | (go_big_quiet_skip; exact wpQuiet_nil rfl) | (go_big_quiet_want; go_big_quiet_op; go_big_quiet_on; exact wpQuiet_nil rfl)))) | (apply wpW_held; (case hC => assumption); (case h => (intro wa hCa; obtain ⟨u0, u1, u2, u3, u4, u5, u6, u7⟩ := hCa.cells; (first | (go_big_quiet_skip; exact wpQuiet_nil rfl) | (go_big_quiet_want; go_big_quiet_op; go_big_quiet_on; exact wpQuiet_nil rfl)))))))
      clear dA
      refine wpW_last (fun QQ hQQ => ?_) (by rfl)
      go_wp2_with (go_at_call 30; with_reducible refine (c2'.out _ A1.out.l).mono ?_; rintro e q1 ⟨ba, ka, rfl, ra, hb⟩)
      (refine hQQ.out _ _ ?_; clear hQQ QQ)
      have A2 := Go.Lib.hid (A1.out.below hb)
      have X2 := Go.Lib.hid (X1.out.below hb X1.out.lt)
      have R2 := Go.Lib.hid (R1.out.below hb (Nat.le_refl _))
      have ra2 := Go.Lib.hid ra
      clear ra hb
      (repeat (first | (apply wpW_light; (case h => (intro wa; (first | (go_big_quiet_skip; exact wpQuiet_nil rfl) | (go_big_quiet_want; go_big_quiet_op; go_big_quiet_on; exact wpQuiet_nil rfl))))) | (apply wpW_here; (case h => (first | (go_big_quiet_skip; exact wpQuiet_nil rfl) | (go_big_quiet_want; go_big_quiet_op; go_big_quiet_on; exact wpQuiet_nil rfl)))) | (apply wpW_held; (case hC => assumption); (case h => (intro wa hCa; simp only [] at hCa; (first | (go_big_quiet_skip; exact wpQuiet_nil rfl) | (go_big_quiet_want; go_big_quiet_op; go_big_quiet_on; exact wpQuiet_nil rfl)))))))
      refine wpW_last (fun QQ hQQ => ?_) (by rfl)
      go_wp2
      (refine hQQ.out _ _ ?_; clear hQQ QQ)
      refine wpW_name ?_
      intro q2 hq
      have hb : Below q1.heap.size q1 q2 := by rw [hq]; exact below1 q1 _
      have nb3 := Go.Lib.hid (show BoxAt q2 q1.heap.size (.slice none 0 0) 0 by rw [hq]; exact box1 q1 _ _)
      have gx : W.heap.size + 1 + 1 < q1.heap.size := A2.out.sz
      have nx : x ≠ q1.heap.size := Nat.ne_of_lt X2.out.lt
      obtain ⟨y, hy⟩ : ∃ y, y = q1.heap.size := ⟨_, rfl⟩
      rw [← hy] at nb3 gx nx ⊢
      have A3 := Go.Lib.hid (A2.out.below hb)
      have X3 := Go.Lib.hid (X2.out.below hb X2.out.lt)
      have R3 := Go.Lib.hid (R2.out.below hb (Nat.le_refl _))
      have ra3 := Go.Lib.hid (ra2.out.below hb (Nat.le_refl _))
      clear hq hb hy
      (repeat (first | (apply wpW_light; (case h => (intro wa; (first | (go_big_quiet_skip; exact wpQuiet_nil rfl) | (go_big_quiet_want; go_big_quiet_op; go_big_quiet_on; exact wpQuiet_nil rfl))))) | (apply wpW_here; (case h => (first | (go_big_quiet_skip; exact wpQuiet_nil rfl) | (go_big_quiet_want; go_big_quiet_op; go_big_quiet_on; exact wpQuiet_nil rfl)))) | (apply wpW_held; (case hC => assumption); (case h => (intro wa hCa; simp only [] at hCa; (first | (go_big_quiet_skip; exact wpQuiet_nil rfl) | (go_big_quiet_want; go_big_quiet_op; go_big_quiet_on; exact wpQuiet_nil rfl)))))))
      obtain ⟨f0, f1, f2, f3⟩ := nb3.out.cells
      refine wpW_last (fun QQ hQQ => ?_) (by rfl)
      go_wp2
      (refine hQQ.out _ _ ?_; clear hQQ QQ)
      refine wpW_name ?_
      intro q3 hq
      have A4 := Go.Lib.hid (show EncAt W (some ⟨b, o, none⟩) ll cl l q3 E by rw [hq]; exact A3.out.box nb3.out gx _ _)
      have nb4 := Go.Lib.hid (show BoxAt q3 y (.slice ba m2 ka) t2 by rw [hq]; exact nb3.out.set _ _)
      have ra4 := Go.Lib.hid (show Row .u8 q3 ba m2 ka p2 by rw [hq]; exact (ra3.out.box nb3.out 0 _).box (nb3.out.set0 _) 1 _)
      have X4 := Go.Lib.hid (show BoxAt q3 x (.slice b1 m1 k1) t1 by rw [hq]; exact (X3.out.other nx _).other nx _)
      have R4 := Go.Lib.hid (show Row .u8 q3 b1 m1 k1 p1 by rw [hq]; exact (R3.out.box nb3.out 0 _).box (nb3.out.set0 _) 1 _)
      clear hq f0 f1 f2 f3
      (repeat (first | (apply wpW_light; (case h => (intro wa; (first | (go_big_quiet_skip; exact wpQuiet_nil rfl) | (go_big_quiet_want; go_big_quiet_op; go_big_quiet_on; exact wpQuiet_nil rfl))))) | (apply wpW_here; (case h => (first | (go_big_quiet_skip; exact wpQuiet_nil rfl) | (go_big_quiet_want; go_big_quiet_op; go_big_quiet_on; exact wpQuiet_nil rfl)))) | (apply wpW_held; (case hC => assumption); (case h => (intro wa hCa; simp only [] at hCa; (first | (go_big_quiet_skip; exact wpQuiet_nil rfl) | (go_big_quiet_want; go_big_quiet_op; go_big_quiet_on; exact wpQuiet_nil rfl)))))))
      obtain ⟨g0, g1, g2, g3, g4, g5, g6, g7⟩ := A4.out.d.cells
      refine wpW_last (fun QQ hQQ => ?_) (by rfl)
      go_wp2
      (refine hQQ.out _ _ ?_; clear hQQ QQ)
      (repeat (first | (apply wpW_light; (case h => (intro wa; (first | (go_big_quiet_skip; exact wpQuiet_nil rfl) | (go_big_quiet_want; go_big_quiet_op; go_big_quiet_on; exact wpQuiet_nil rfl))))) | (apply wpW_here; (case h => (first | (go_big_quiet_skip; exact wpQuiet_nil rfl) | (go_big_quiet_want; go_big_quiet_op; go_big_quiet_on; exact wpQuiet_nil rfl)))) | (apply wpW_held; (case hC => assumption); (case h => (intro wa hCa; simp only [] at hCa; (first | (go_big_quiet_skip; exact wpQuiet_nil rfl) | (go_big_quiet_want; go_big_quiet_op; go_big_quiet_on; exact wpQuiet_nil rfl)))))))
      refine wpW_nil ?_
      go_wp2_with (fail)
      go_meet
      have ny : y ≠ W.heap.size := by omega
      have nz : x ≠ W.heap.size := by omega
      exact ⟨y, ba, ka, rfl, rfl, (((nb4.out.other ny _).other ny _).other ny _).other ny _, (((ra4.out.boxD (.inl rfl) A4.out.d 0 _).boxD (.inl rfl) (A4.out.d.set0 _) 1 _).boxD (.inl rfl) ((A4.out.d.set0 _).set1 _) 2 _).boxD (.inl rfl) (((A4.out.d.set0 _).set1 _).set2 _) 3 _, (((X4.out.other nz _).other nz _).other nz _).other nz _, (((R4.out.boxD (.inl rfl) A4.out.d 0 _).boxD (.inl rfl) (A4.out.d.set0 _) 1 _).boxD (.inl rfl) ((A4.out.d.set0 _).set1 _) 2 _).boxD (.inl rfl) (((A4.out.d.set0 _).set1 _).set2 _) 3 _, A4.out.next G⟩
    · simp only [pick, nth]
      refine wpW_name ?_
      intro q0 hq0
      have A1 := Go.Lib.hid (show EncAt W (some ⟨b, o, none⟩) ll cl l q0 E by rw [hq0]; exact A0.out.drew)
      have X1 := Go.Lib.hid (show BoxAt q0 x (.slice b1 m1 k1) t1 by rw [hq0]; exact X0.out.drew)
      have R1 := Go.Lib.hid (show Row .u8 q0 b1 m1 k1 p1 by rw [hq0]; exact R0.out.below (Below.refl _ _).drew (Nat.le_refl _))
      clear hq0 A0 X0 R0
      have dA := Go.Lib.hid A1.out.d
      (repeat (first | (apply wpW_light; (case h => (intro wa; (first | (go_big_quiet_skip; exact wpQuiet_nil rfl) | (go_big_quiet_want; go_big_quiet_op; go_big_quiet_on; exact wpQuiet_nil rfl))))) | (apply wpW_here; (case h => (first | (go_big_quiet_skip; exact wpQuiet_nil rfl) | (go_big_quiet_want; go_big_quiet_op; go_big_quiet_on; exact wpQuiet_nil rfl)))) | (apply wpW_held; (case hC => assumption); (case h => (intro wa hCa; obtain ⟨u0, u1, u2, u3, u4, u5, u6, u7⟩ := hCa.cells; (first | (go_big_quiet_skip; exact wpQuiet_nil rfl) | (go_big_quiet_want; go_big_quiet_op; go_big_quiet_on; exact wpQuiet_nil rfl)))))))
      clear dA
      refine wpW_act (fun QQ hQQ => ?_) (by rfl)
      go_wp2
      (refine hQQ _ _ ?hCn ?_; (case hCn => exact A1.out.d.alloc _); clear hQQ QQ)
      refine wpW_name ?_
      intro q1 hq
      have hb : Below q0.heap.size q0 q1 := by rw [hq]; exact below1 q0 _
      have nb2 := Go.Lib.hid (show BoxAt q1 q0.heap.size (.slice none 0 0) 0 by rw [hq]; exact box1 q0 _ _)
      have gx : W.heap.size + 1 + 1 < q0.heap.size := A1.out.sz
      have nx : x ≠ q0.heap.size := Nat.ne_of_lt X1.out.lt
      obtain ⟨y, hy⟩ : ∃ y, y = q0.heap.size := ⟨_, rfl⟩
      rw [← hy] at nb2 gx nx ⊢
      have A2 := Go.Lib.hid (A1.out.below hb)
      have X2 := Go.Lib.hid (X1.out.below hb X1.out.lt)
      have R2 := Go.Lib.hid (R1.out.below hb (Nat.le_refl _))
      clear hq hb hy
      refine wpW_last (fun QQ hQQ => ?_) (by rfl)
      go_wp2_with (go_at_call 30; with_reducible refine (c2'.out _ A2.out.l).mono ?_; rintro e q2 ⟨ba, ka, rfl, ra, hb⟩)
      (refine hQQ.out _ _ ?_; clear hQQ QQ)
      have A3 := Go.Lib.hid (A2.out.below hb)
      have X3 := Go.Lib.hid (X2.out.below hb X2.out.lt)
      have R3 := Go.Lib.hid (R2.out.below hb (Nat.le_refl _))
      have ra3 := Go.Lib.hid ra
      have nb3 := Go.Lib.hid (nb2.out.below hb nb2.out.lt)
      clear ra hb
      (repeat (first | (apply wpW_light; (case h => (intro wa; (first | (go_big_quiet_skip; exact wpQuiet_nil rfl) | (go_big_quiet_want; go_big_quiet_op; go_big_quiet_on; exact wpQuiet_nil rfl))))) | (apply wpW_here; (case h => (first | (go_big_quiet_skip; exact wpQuiet_nil rfl) | (go_big_quiet_want; go_big_quiet_op; go_big_quiet_on; exact wpQuiet_nil rfl)))) | (apply wpW_held; (case hC => assumption); (case h => (intro wa hCa; simp only [] at hCa; (first | (go_big_quiet_skip; exact wpQuiet_nil rfl) | (go_big_quiet_want; go_big_quiet_op; go_big_quiet_on; exact wpQuiet_nil rfl)))))))
      (repeat (first | (apply wpW_light; (case h => (intro wa; (first | (go_big_quiet_skip; exact wpQuiet_nil rfl) | (go_big_quiet_want; go_big_quiet_op; go_big_quiet_on; exact wpQuiet_nil rfl))))) | (apply wpW_here; (case h => (first | (go_big_quiet_skip; exact wpQuiet_nil rfl) | (go_big_quiet_want; go_big_quiet_op; go_big_quiet_on; exact wpQuiet_nil rfl)))) | (apply wpW_held; (case hC => assumption); (case h => (intro wa hCa; simp only [] at hCa; (first | (go_big_quiet_skip; exact wpQuiet_nil rfl) | (go_big_quiet_want; go_big_quiet_op; go_big_quiet_on; exact wpQuiet_nil rfl)))))))
      obtain ⟨f0, f1, f2, f3⟩ := nb3.out.cells
      refine wpW_last (fun QQ hQQ => ?_) (by rfl)
      go_wp2
      (refine hQQ.out _ _ ?_; clear hQQ QQ)
      refine wpW_name ?_
      intro q3 hq
      have A4 := Go.Lib.hid (show EncAt W (some ⟨b, o, none⟩) ll cl l q3 E by rw [hq]; exact A3.out.box nb3.out gx _ _)
      have nb4 := Go.Lib.hid (show BoxAt q3 y (.slice ba m2 ka) t2 by rw [hq]; exact nb3.out.set _ _)
      have ra4 := Go.Lib.hid (show Row .u8 q3 ba m2 ka p2 by rw [hq]; exact (ra3.out.box nb3.out 0 _).box (nb3.out.set0 _) 1 _)
      have X4 := Go.Lib.hid (show BoxAt q3 x (.slice b1 m1 k1) t1 by rw [hq]; exact (X3.out.other nx _).other nx _)
      have R4 := Go.Lib.hid (show Row .u8 q3 b1 m1 k1 p1 by rw [hq]; exact (R3.out.box nb3.out 0 _).box (nb3.out.set0 _) 1 _)
      clear hq f0 f1 f2 f3
      (repeat (first | (apply wpW_light; (case h => (intro wa; (first | (go_big_quiet_skip; exact wpQuiet_nil rfl) | (go_big_quiet_want; go_big_quiet_op; go_big_quiet_on; exact wpQuiet_nil rfl))))) | (apply wpW_here; (case h => (first | (go_big_quiet_skip; exact wpQuiet_nil rfl) | (go_big_quiet_want; go_big_quiet_op; go_big_quiet_on; exact wpQuiet_nil rfl)))) | (apply wpW_held; (case hC => assumption); (case h => (intro wa hCa; simp only [] at hCa; (first | (go_big_quiet_skip; exact wpQuiet_nil rfl) | (go_big_quiet_want; go_big_quiet_op; go_big_quiet_on; exact wpQuiet_nil rfl)))))))
      obtain ⟨g0, g1, g2, g3, g4, g5, g6, g7⟩ := A4.out.d.cells
      refine wpW_last (fun QQ hQQ => ?_) (by rfl)
      go_wp2
      (refine hQQ.out _ _ ?_; clear hQQ QQ)
      (repeat (first | (apply wpW_light; (case h => (intro wa; (first | (go_big_quiet_skip; exact wpQuiet_nil rfl) | (go_big_quiet_want; go_big_quiet_op; go_big_quiet_on; exact wpQuiet_nil rfl))))) | (apply wpW_here; (case h => (first | (go_big_quiet_skip; exact wpQuiet_nil rfl) | (go_big_quiet_want; go_big_quiet_op; go_big_quiet_on; exact wpQuiet_nil rfl)))) | (apply wpW_held; (case hC => assumption); (case h => (intro wa hCa; simp only [] at hCa; (first | (go_big_quiet_skip; exact wpQuiet_nil rfl) | (go_big_quiet_want; go_big_quiet_op; go_big_quiet_on; exact wpQuiet_nil rfl)))))))
      refine wpW_nil ?_
      go_wp2_with (fail)
      go_meet
      have ny : y ≠ W.heap.size := by omega
      have nz : x ≠ W.heap.size := by omega
      exact ⟨y, ba, ka, rfl, rfl, (((nb4.out.other ny _).other ny _).other ny _).other ny _, (((ra4.out.boxD (.inl rfl) A4.out.d 0 _).boxD (.inl rfl) (A4.out.d.set0 _) 1 _).boxD (.inl rfl) ((A4.out.d.set0 _).set1 _) 2 _).boxD (.inl rfl) (((A4.out.d.set0 _).set1 _).set2 _) 3 _, (((X4.out.other nz _).other nz _).other nz _).other nz _, (((R4.out.boxD (.inl rfl) A4.out.d 0 _).boxD (.inl rfl) (A4.out.d.set0 _) 1 _).boxD (.inl rfl) ((A4.out.d.set0 _).set1 _) 2 _).boxD (.inl rfl) (((A4.out.d.set0 _).set1 _).set2 _) 3 _, A4.out.next G⟩
  case rest =>
  obtain ⟨y, b2, k2, rfl, rfl, Y0', R2', X0', R0', A0'⟩ := hcut
  have Y0 := Go.Lib.hid Y0'
  have R2 := Go.Lib.hid R2'
  clear X0 R0 A0
  have X0 := Go.Lib.hid X0'
  have R0 := Go.Lib.hid R0'
  have A0 := Go.Lib.hid A0'
  clear X0' R0' A0' Y0' R2' c2'
  obtain ⟨x0, x1, x2, x3⟩ := X0.out.cells
  obtain ⟨y0, y1, y2, y3⟩ := Y0.out.cells
  go_wp2_with (go_at_call 26; with_reducible refine (cj'.out _ _ _ _ _ R0.out R2.out).mono ?_; rintro e w3 ⟨b3, k3, rfl, r3, hb3⟩; have A3 := Go.Lib.hid ((A0.out.below hb3).alloc (.cells #[.slice b3 m3 k3, .int .i64 t3] 24)); have R3 := Go.Lib.hid (r3.below (below1 w3 (.cells #[.slice b3 m3 k3, .int .i64 t3] 24)) (Nat.le_refl _)); have X3 := Go.Lib.hid (box1 w3 (.slice b3 m3 k3) t3); have hz3 := (A0.out.below hb3).sz; clear r3 hb3)
  obtain ⟨x8, hx8⟩ : ∃ x, x = w3.heap.size := ⟨_, rfl⟩
  obtain ⟨w4, hw4⟩ : ∃ w, w = w3.alloc (.cells #[.slice b3 m3 k3, .int .i64 t3] 24) := ⟨_, rfl⟩
  rw [← hx8, ← hw4] at X3
  rw [← hw4] at A3 R3
  rw [← hx8] at hz3
  try rw [← hw4]
  try rw [← hx8]
  clear x0 x1 x2 x3 y0 y1 y2 y3 hw4 hx8 X0 R0 Y0 R2 A0 cj'
  go_wp2
  refine wp_region_ord (fun w' => DuAt w' W.heap.size G.k0 G.k1 G.s0 G.s1) [(0, 1), (1, 2), (2, 3), (3, 4), (4, 0)] (by kernel_rfl) (by kernel_rfl) ?hC0 ?_
  case hC0 => exact A3.out.d.drew
  simp only [pick, nth]
  refine wpW_name ?_
  intro q0 hq0
  have A4 := Go.Lib.hid (show EncAt W (some ⟨b, o, none⟩) ll cl l q0 G by rw [hq0]; exact A3.out.drew)
  have R4 := Go.Lib.hid (show Row .u8 q0 b3 m3 k3 p3 by rw [hq0]; exact R3.out.below (Below.refl _ _).drew (Nat.le_refl _))
  have X4 := Go.Lib.hid (show BoxAt q0 x8 (.slice b3 m3 k3) t3 by rw [hq0]; exact X3.out.drew)
  clear hq0 A3 R3 X3
  obtain ⟨f0, f1, f2, f3⟩ := X4.out.cells
  have dA := Go.Lib.hid A4.out.d
  (repeat (first | (apply wpW_light; (case h => (intro wa; (first | (go_big_quiet_skip; exact wpQuiet_nil rfl) | (go_big_quiet_want; go_big_quiet_op; go_big_quiet_on; exact wpQuiet_nil rfl))))) | (apply wpW_here; (case h => (first | (go_big_quiet_skip; exact wpQuiet_nil rfl) | (go_big_quiet_want; go_big_quiet_op; go_big_quiet_on; exact wpQuiet_nil rfl)))) | (apply wpW_held; (case hC => assumption); (case h => (intro wa hCa; obtain ⟨u0, u1, u2, u3, u4, u5, u6, u7⟩ := hCa.cells; (first | (go_big_quiet_skip; exact wpQuiet_nil rfl) | (go_big_quiet_want; go_big_quiet_op; go_big_quiet_on; exact wpQuiet_nil rfl)))))))
  clear f0 f1 f2 f3 dA
  obtain ⟨f0, f1, f2, f3⟩ := A4.out.y.cells
  obtain ⟨g0, g1, g2, g3, g4, g5, g6, g7⟩ := A4.out.p.cells
  refine wpW_act (fun QQ hQQ => ?_) (by rfl)
  go_wp2
  (refine hQQ _ _ ?hCn ?_; (case hCn => exact (A4.out.d.other (by simp) _).other (by simp) _); clear hQQ QQ)
  (repeat (first | (apply wpW_light; (case h => (intro wa; (first | (go_big_quiet_skip; exact wpQuiet_nil rfl) | (go_big_quiet_want; go_big_quiet_op; go_big_quiet_on; exact wpQuiet_nil rfl))))) | (apply wpW_here; (case h => (first | (go_big_quiet_skip; exact wpQuiet_nil rfl) | (go_big_quiet_want; go_big_quiet_op; go_big_quiet_on; exact wpQuiet_nil rfl)))) | (apply wpW_held; (case hC => assumption); (case h => (intro wa hCa; simp only [] at hCa; (first | (go_big_quiet_skip; exact wpQuiet_nil rfl) | (go_big_quiet_want; go_big_quiet_op; go_big_quiet_on; exact wpQuiet_nil rfl)))))))
  refine wpW_last (fun QQ hQQ => ?_) (by rfl)
  go_wp2
  (refine hQQ.out _ _ ?_; clear hQQ QQ)
  (repeat (first | (apply wpW_light; (case h => (intro wa; (first | (go_big_quiet_skip; exact wpQuiet_nil rfl) | (go_big_quiet_want; go_big_quiet_op; go_big_quiet_on; exact wpQuiet_nil rfl))))) | (apply wpW_here; (case h => (first | (go_big_quiet_skip; exact wpQuiet_nil rfl) | (go_big_quiet_want; go_big_quiet_op; go_big_quiet_on; exact wpQuiet_nil rfl)))) | (apply wpW_held; (case hC => assumption); (case h => (intro wa hCa; simp only [] at hCa; (first | (go_big_quiet_skip; exact wpQuiet_nil rfl) | (go_big_quiet_want; go_big_quiet_op; go_big_quiet_on; exact wpQuiet_nil rfl)))))))
  refine wpW_nil ?_
  go_wp2
  (try simp only [Exit.inBlock, Exit.then])
  obtain ⟨o1, o2, o3, o4⟩ := outs A4.out.y A4.out.p (by omega) b3 m3 k3 t3 G.k0 G.k1 G.s0 G.s1
  refine bodyPost_ret (results_bits_du_tmp (by rfl) _ _ (W.heap.size + 1) (W.heap.size + 1 + 1) _ _ _ _ _ _ rfl rfl o1 o2) rfl ?_
  exact ⟨b3, k3, by simp, o4 R4.out, o3 A4.out.w (by omega) (by omega)⟩

end Go.Proofs.Ytifbigmgiakakaa
