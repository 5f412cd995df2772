/- Texts of the proof, one behind the other: DuaM, RegY, DuaN, CodP, CodR, CodS, CodT, TalP, TalR. -/
import Derived.Test.YthbjcjphplgobaaZ7
import Derived.Deep.DeepCutAuto
/- The chapter's examples of dual. -/
namespace Go.Proofs.Ythbjcjphplgobaa
open Go.RowKit Cad

theorem duat2 (w : World) (o : Obj) (a b c d : Int) : DuAt ((w.alloc o).alloc (.cells #[.int .i64 a, .int .i64 b, .int .u64 c, .int .u64 d] 52)) (w.heap.size + 1) a b c d := by
  unfold DuAt; rw [heap_alloc2_new]
def D8 : Du := ⟨10, 10, 16384, 16384⟩
theorem d8_ok : D8.ok := ⟨by decide, by decide, by decide, by decide⟩

end Go.Proofs.Ythbjcjphplgobaa

/- A region that draws its order: three that act and are not ordered; the world behind an act by a name. No Go function in sight. -/
namespace Go.Proofs.Ythbjcjphplgobaa
open Go.RowKit

section
variable {P : Program} {ops : Array Oper} {C : World → Prop} {Q : Exit → Act → World → Prop}

theorem wpW_name {R : List (Nat × Oper)} {a : Act} {w : World} (h : ∀ w', w' = w → wpW P ops C Q R a w') : wpW P ops C Q R a w := h w rfl

/-- three that act, x, y and z, are not ordered: six orders: xyz, xzy, zxy, yxz, yzx, zyx -/
theorem wp_region_ord6 {id : Nat} {l : List Oper} {a : Act} {w : World} (C : World → Prop) (x y z : Nat) (R1 R2 R3 R4 R5 R6 : List (Nat × Nat)) (hm : P.follows .mixedOrders = true) (hxy : x ≠ y ∧ y ≠ z ∧ x ≠ z ∧ x < l.length ∧ y < l.length ∧ z < l.length)
    (h1 : ordB l [(z, y), (y, x)] R1 = true) (h2 : ordB l [(z, x), (y, z), (y, x)] R2 = true) (h3 : ordB l [(x, z), (y, z), (y, x)] R3 = true)
    (h4 : ordB l [(z, x), (x, y)] R4 = true) (h5 : ordB l [(z, y), (x, z), (x, y)] R5 = true) (h6 : ordB l [(y, z), (x, z), (x, y)] R6 = true) (hC : C w.drew)
    (g1 : wpW P l.toArray C (NoPanic Q) (pick l R1) a w.drew) (g2 : wpW P l.toArray C (NoPanic Q) (pick l R2) a w.drew) (g3 : wpW P l.toArray C (NoPanic Q) (pick l R3) a w.drew)
    (g4 : wpW P l.toArray C (NoPanic Q) (pick l R4) a w.drew) (g5 : wpW P l.toArray C (NoPanic Q) (pick l R5) a w.drew) (g6 : wpW P l.toArray C (NoPanic Q) (pick l R6) a w.drew) : (Code.region id l.toArray true).wp P Q a w := by
  refine wp_region_noPanic (wp_region_draw fun t => ?_)
  simp only [Region.schedule, hm, Bool.true_or, if_true]
  obtain ⟨n1, n2, n3, l1, l2, l3⟩ := hxy
  have sz : (Array.replicate l.toArray.size false).size = l.toArray.size := by simp
  have b1 : x < l.toArray.size := by simpa using l1
  have b2 : y < l.toArray.size := by simpa using l2
  have b3 : z < l.toArray.size := by simpa using l3
  rcases lin_split (ops := l.toArray) n1 _ _ sz b1 b2 (lin_all t) with hA | hB
  · rcases lin_split (ops := l.toArray) n2 _ _ sz b2 b3 hA with h | h
    · exact wpOps_of_ord R1 h1 hC _ h g1
    · rcases lin_split (ops := l.toArray) n3 _ _ sz b1 b3 h with h | h
      · exact wpOps_of_ord R2 h2 hC _ h g2
      · exact wpOps_of_ord R3 h3 hC _ h g3
  · rcases lin_split (ops := l.toArray) n3 _ _ sz b1 b3 hB with h | h
    · exact wpOps_of_ord R4 h4 hC _ h g4
    · rcases lin_split (ops := l.toArray) n2 _ _ sz b2 b3 h with h | h
      · exact wpOps_of_ord R5 h5 hC _ h g5
      · exact wpOps_of_ord R6 h6 hC _ h g6
end
end Go.Proofs.Ythbjcjphplgobaa

/- What a world holds while codes of dual are written behind each other. -/
namespace Go.Proofs.Ythbjcjphplgobaa
open Go.RowKit Cad

/-- numbers stay where a variable that holds bits is written -/
theorem Row.boxU {w : World} {a a' : Option Addr} {len cap n' c' : Nat} {l : List Int} {x : Nat} {N : Int} (h : Row .u32 w a len cap l) (hx : BoxAt w x (.slice a' n' c') N) (o : Nat) (u : Value) : Row .u32 (w.setCell ⟨x, o, none⟩ u) a len cap l := by
  refine ⟨h.hlen, h.hcap, h.hmax, h.wf, fun hp => ?_, h.nil⟩
  obtain ⟨b, off, rfl, hlt, hc⟩ := h.cells hp
  have hne : b ≠ x := by
    rintro rfl
    have h0 := hc 0 hp
    unfold World.cell? at h0
    unfold BoxAt at hx
    rw [hx] at h0
    match off, h0 with
    | 0, h0 => simp at h0
    | 1, h0 => simp at h0
    | off + 2, h0 => simp at h0
  refine ⟨b, off, rfl, by simpa using hlt, fun i hi => ?_⟩
  rw [← hc i hi]
  unfold World.cell?
  rw [Below.heap_setCell _ _ _ _ (by simpa using hne)]

structure SidesAt (W : World) (aa : Option Addr) (len cap : Nat) (N : Int) (D : Du) (al : Option Addr) (ll cl : Nat) (l : List Int) (xb xn : Nat) (w : World) (au : Option Addr) (L cu : Nat) (M : Int) (X : List Bool) (E : Du) : Prop where
  f : BoxAt w W.heap.size (.slice aa len cap) N
  d : DuAt w (W.heap.size + 1) D.k0 D.k1 D.s0 D.s1
  b : BoxAt w xb (.slice au L cu) M
  n : DuAt w xn E.k0 E.k1 E.s0 E.s1
  r : Row .u8 w au L cu (pack X)
  l : Row .u32 w al ll cl l
  w : Below W.heap.size W w
section
variable {W : World} {aa : Option Addr} {len cap : Nat} {N : Int} {D : Du} {al : Option Addr} {ll cl : Nat} {l : List Int} {xb xn : Nat} {w w' : World} {au : Option Addr} {L cu : Nat} {M : Int} {X : List Bool} {E : Du}
theorem SidesAt.below (h : SidesAt W aa len cap N D al ll cl l xb xn w au L cu M X E) (hb : Below w.heap.size w w') : SidesAt W aa len cap N D al ll cl l xb xn w' au L cu M X E :=
  ⟨h.f.below hb h.f.lt, h.d.below hb h.d.lt, h.b.below hb h.b.lt, h.n.below hb h.n.lt, h.r.below hb (Nat.le_refl _), h.l.below hb (Nat.le_refl _), h.w.trans (hb.mono h.w.size)⟩
/-- both variables are written -/
theorem SidesAt.next (h : SidesAt W aa len cap N D al ll cl l xb xn w au L cu M X E) (h1 : W.heap.size + 1 < xb) (h2 : W.heap.size + 1 < xn) (hne : xb ≠ xn) {b' : Option Addr} {L' c' : Nat} {M' : Int} {X' : List Bool} (E' : Du) (hr : Row .u8 w b' L' c' (pack X')) :
    SidesAt W aa len cap N D al ll cl l xb xn ((((((w.setCell ⟨xb, 0, none⟩ (.slice b' L' c')).setCell ⟨xb, 1, none⟩ (.int .i64 M')).setCell ⟨xn, 0, none⟩ (.int .i64 E'.k0)).setCell ⟨xn, 1, none⟩ (.int .i64 E'.k1)).setCell ⟨xn, 2, none⟩ (.int .u64 E'.s0)).setCell ⟨xn, 3, none⟩ (.int .u64 E'.s1)) b' L' c' M' X' E' := by
  obtain ⟨o1, o2, o3, o4⟩ := outs h.b h.n hne b' L' c' M' E'.k0 E'.k1 E'.s0 E'.s1
  have hp2 := (h.n.other (p := ⟨xb, 0, none⟩) hne.symm (.slice b' L' c')).other (p := ⟨xb, 1, none⟩) hne.symm (.int .i64 M')
  refine ⟨?_, ?_, o1, o2, o4 hr, ?_, o3 h.w (by omega) (by omega)⟩
  · exact (((((h.f.other (by simp; omega) _).other (by simp; omega) _).other (by simp; omega) _).other (by simp; omega) _).other (by simp; omega) _).other (by simp; omega) _
  · exact (((((h.d.other (by simp; omega) _).other (by simp; omega) _).other (by simp; omega) _).other (by simp; omega) _).other (by simp; omega) _).other (by simp; omega) _
  · have r1 := (h.l.boxU h.b 0 (.slice b' L' c')).boxU (h.b.set0 _) 1 (.int .i64 M')
    exact (((r1.boxD (.inr rfl) hp2 0 _).boxD (.inr rfl) (hp2.set0 _) 1 _).boxD (.inr rfl) ((hp2.set0 _).set1 _) 2 _).boxD (.inr rfl) (((hp2.set0 _).set1 _).set2 _) 3 _
end
end Go.Proofs.Ythbjcjphplgobaa

/- Lists of numbers coded, state after state, as lists of Bools: no Go function in sight. -/
namespace Cad
open Go.Proofs.Ythbjcjphplgobaa

/-- the first state -/
def dStart : Du := ⟨10, 10, 16384, 16384⟩
theorem dStart_ok : dStart.ok := ⟨by decide, by decide, by decide, by decide⟩

/-- what was read ahead, put in front -/
def glue (l : List Nat) (r : List Nat × Nat × Nat) : List Nat × Nat × Nat := if r.2.2 ≠ 0 then ([], 0, r.2.2) else (l ++ r.1, r.2.1, 0)
/-- n numbers that are read from index i on: the numbers, the index behind them, the error -/
def decD (B : List Bool) : Nat → Nat → Du → List Nat × Nat × Nat
  | 0, i, _ => ([], i, 0)
  | n + 1, i, d => if (readD B i d).2.2 ≠ 0 then ([], 0, (readD B i d).2.2) else glue [(readD B i d).1] (decD B n (readD B i d).2.1 (learnD d (readD B i d).1))
theorem glue_er (l m : List Nat) (p : Nat) {er : Nat} (h : er ≠ 0) : glue l (m, p, er) = ([], 0, er) := if_pos h
theorem glue_ok (l m : List Nat) (p : Nat) : glue l (m, p, 0) = (l ++ m, p, 0) := if_neg (fun h => h rfl)
theorem decD_zero (B : List Bool) (i : Nat) (d : Du) : decD B 0 i d = ([], i, 0) := rfl
theorem decD_er {B : List Bool} {n i : Nat} {d : Du} {v p er : Nat} (h : readD B i d = (v, p, er)) (he : er ≠ 0) : decD B (n + 1) i d = ([], 0, er) := by
  rw [decD, h, if_pos he]
theorem decD_ok {B : List Bool} {n i : Nat} {d : Du} {v p : Nat} (h : readD B i d = (v, p, 0)) : decD B (n + 1) i d = glue [v] (decD B n p (learnD d v)) := by
  rw [decD, h, if_neg (fun h => h rfl)]
theorem glue_glue (l m : List Nat) (r : List Nat × Nat × Nat) : glue l (glue m r) = glue (l ++ m) r := by
  obtain ⟨x, p, er⟩ := r
  by_cases he : er = 0
  · subst he; rw [glue_ok, glue_ok, glue_ok, List.append_assoc]
  · rw [glue_er _ _ _ he, glue_er _ _ _ he, glue_er _ _ _ he]

/-- codes behind each other are read -/
theorem dec_codes : ∀ (l : List Nat) (A C : List Bool) (d : Du), (∀ x ∈ l, x < 4294967296) → decD (A ++ codesD d l ++ C) l.length A.length d = (l, A.length + (codesD d l).length, 0)
  | [], A, C, d, _ => by rw [List.length_nil, decD_zero]; rfl
  | v :: l, A, C, d, h => by
    have hv := h v (List.mem_cons_self ..)
    have e : A ++ codesD d (v :: l) ++ C = A ++ dualB d v ++ (codesD (learnD d v) l ++ C) := by simp [codesD]
    have h1 := read_dual A (codesD (learnD d v) l ++ C) hv (d := d)
    rw [← e] at h1
    rw [List.length_cons, decD_ok h1]
    have e2 : A ++ codesD d (v :: l) ++ C = (A ++ dualB d v) ++ codesD (learnD d v) l ++ C := by simp [codesD]
    have ih := dec_codes l (A ++ dualB d v) C (learnD d v) fun x hx => h x (List.mem_cons_of_mem _ hx)
    rw [List.length_append, dualB_len] at ih
    rw [e2, ih, glue_ok]
    simp [codesD, dualB_len, Nat.add_assoc]

/-- what is decoded has just these codes -/
theorem dec_is : ∀ (n : Nat) {B : List Bool} {i : Nat} {d : Du} {l : List Nat} {p : Nat}, decD B n i d = (l, p, 0) → i ≤ B.length → d.ok →
    l.length = n ∧ (∀ x ∈ l, x < 4294967296) ∧ p = i + (codesD d l).length ∧ p ≤ B.length ∧ midB B i p = codesD d l
  | 0, B, i, d, l, p, h, hi, _ => by
    rw [decD_zero] at h; cases h
    exact ⟨rfl, fun x hx => (by cases hx), by simp [codesD], hi, by simp [midB, codesD]⟩
  | n + 1, B, i, d, l, p, h, hi, hd => by
    obtain ⟨v, q, er, hr⟩ : ∃ v q er, readD B i d = (v, q, er) := ⟨_, _, _, rfl⟩
    by_cases he : er = 0
    · subst he
      rw [decD_ok hr] at h
      obtain ⟨hv, hq, hqB, hm⟩ := dual_is hr hi hd.1 hd.2.1
      obtain ⟨m, p2, er2, h2⟩ : ∃ m p2 er2, decD B n q (learnD d v) = (m, p2, er2) := ⟨_, _, _, rfl⟩
      rw [h2] at h
      by_cases he2 : er2 = 0
      · subst he2
        rw [glue_ok] at h; cases h
        obtain ⟨h3, h4, h5, h6, h7⟩ := dec_is n h2 hqB (learnD_ok hd hv)
        refine ⟨by simp [h3], fun x hx => ?_, ?_, h6, ?_⟩
        · rcases List.mem_append.1 hx with hx | hx
          · rw [List.mem_singleton] at hx; rw [hx]; exact hv
          · exact h4 x hx
        · simp [codesD, dualB_len]; omega
        · simp only [List.singleton_append, codesD]
          rw [← hm, ← h7]
          unfold midB
          have e : B.drop q = (B.drop i).drop (q - i) := by rw [List.drop_drop]; congr 1; omega
          rw [e, show p - i = (q - i) + (p - q) by omega, List.take_add]
      · rw [glue_er _ _ _ he2] at h; cases h; exact absurd rfl he2
    · rw [decD_er hr he] at h; cases h; exact absurd rfl he
/-- what is refused -/
theorem dec_no : ∀ (n : Nat) {B : List Bool} {i : Nat} {d : Du} {l : List Nat} {p er : Nat}, decD B n i d = (l, p, er) → er ≠ 0 → i ≤ B.length → d.ok → l = [] ∧ p = 0 ∧ (er = 24 ∨ er = 12)
  | 0, B, i, d, l, p, er, h, he, _, _ => by rw [decD_zero] at h; cases h; exact absurd rfl he
  | n + 1, B, i, d, l, p, er, h, he, hi, hd => by
    obtain ⟨v, q, e, hr⟩ : ∃ v q er, readD B i d = (v, q, er) := ⟨_, _, _, rfl⟩
    by_cases h0 : e = 0
    · subst h0
      rw [decD_ok hr] at h
      obtain ⟨hv, hq, hqB, hm⟩ := dual_is hr hi hd.1 hd.2.1
      obtain ⟨m, p2, er2, h2⟩ : ∃ m p2 er2, decD B n q (learnD d v) = (m, p2, er2) := ⟨_, _, _, rfl⟩
      rw [h2] at h
      by_cases he2 : er2 = 0
      · subst he2; rw [glue_ok] at h; cases h; exact absurd rfl he
      · rw [glue_er _ _ _ he2] at h; cases h
        exact ⟨rfl, rfl, (dec_no n h2 he2 hqB (learnD_ok hd hv)).2.2⟩
    · rw [decD_er hr h0] at h; cases h
      obtain ⟨-, -, h3⟩ := dual_no hr h0 hd.1 hd.2.1
      exact ⟨rfl, rfl, by omega⟩
/-- what is decoded is decoded, whatever stands behind it -/
theorem dec_more {B : List Bool} {n i : Nat} {d : Du} {l : List Nat} {p : Nat} (h : decD B n i d = (l, p, 0)) (hi : i ≤ B.length) (hd : d.ok) (C : List Bool) : decD (B ++ C) n i d = (l, p, 0) := by
  obtain ⟨hn, hl, hp, hpB, hm⟩ := dec_is n h hi hd
  have e : B = B.take i ++ codesD d l ++ B.drop p := by
    rw [← hm]
    unfold midB
    have h1 : B.drop p = (B.drop i).drop (p - i) := by rw [List.drop_drop]; congr 1; omega
    rw [h1, List.append_assoc, List.take_append_drop, List.take_append_drop]
  have hlen : (B.take i).length = i := by rw [List.length_take]; omega
  have := dec_codes l (B.take i) (B.drop p ++ C) d hl
  rw [← List.append_assoc, ← e, hlen, hn] at this
  rw [this, hp]
/-- a part of the codes: the first numbers that are whole, and no more -/
theorem dec_part {l : List Nat} {d : Du} {left n : Nat} (hl : ∀ x ∈ l, x < 4294967296) (hd : d.ok) (hleft : left ≤ (codesD d l).length) (hn : n ≤ l.length) :
    ((codesD d (l.take n)).length ≤ left → decD ((codesD d l).take left) n 0 d = (l.take n, (codesD d (l.take n)).length, 0)) ∧
    (left < (codesD d (l.take n)).length → decD ((codesD d l).take left) n 0 d = ([], 0, 24)) := by
  have hs : codesD d l = codesD d (l.take n) ++ codesD (after d (l.take n)) (l.drop n) := by rw [← codesD_append, List.take_append_drop]
  have ht : ∀ x ∈ l.take n, x < 4294967296 := fun x hx => hl x (List.mem_of_mem_take hx)
  have hlen : (l.take n).length = n := by rw [List.length_take]; omega
  constructor
  · intro h
    have e : (codesD d l).take left = [] ++ codesD d (l.take n) ++ (codesD (after d (l.take n)) (l.drop n)).take (left - (codesD d (l.take n)).length) := by
      rw [hs, List.take_append, List.take_of_length_le h, List.nil_append]
    have := dec_codes (l.take n) [] ((codesD (after d (l.take n)) (l.drop n)).take (left - (codesD d (l.take n)).length)) d ht
    rw [← e, hlen, List.length_nil, Nat.zero_add] at this
    exact this
  · intro h
    obtain ⟨m, p, er, hr⟩ : ∃ m p er, decD ((codesD d l).take left) n 0 d = (m, p, er) := ⟨_, _, _, rfl⟩
    by_cases he : er = 0
    · exfalso
      subst he
      have h1 := dec_more hr (Nat.zero_le _) hd ((codesD d l).drop left)
      rw [List.take_append_drop] at h1
      have h2 := dec_codes (l.take n) [] (codesD (after d (l.take n)) (l.drop n)) d ht
      rw [List.nil_append, ← hs, hlen, List.length_nil, Nat.zero_add, h1] at h2
      cases h2
      obtain ⟨-, -, -, hp, -⟩ := dec_is n hr (Nat.zero_le _) hd
      rw [List.length_take] at hp
      omega
    · -- cut off, so too short: the form of what is there is that of codes
      have key : ∀ (l : List Nat) (d : Du) (left n : Nat), (∀ x ∈ l, x < 4294967296) → d.ok → n ≤ l.length → ∀ (A : List Bool) (m : List Nat) (p er : Nat), decD (A ++ (codesD d l).take left) n A.length d = (m, p, er) → er ≠ 0 → er = 24 := by
        intro l
        induction l with
        | nil =>
          intro d left n _ _ hn A m p er h he
          obtain rfl : n = 0 := by simpa using hn
          rw [decD_zero] at h; cases h; exact absurd rfl he
        | cons v l ih =>
          intro d left n hl hd hn A m p er h he
          cases n with
          | zero => rw [decD_zero] at h; cases h; exact absurd rfl he
          | succ n =>
            have hv := hl v (List.mem_cons_self ..)
            by_cases hlt : left < dualLen d v
            · have e : (codesD d (v :: l)).take left = (dualB d v).take left := by
                simp only [codesD]
                rw [List.take_append_of_le_length (by rw [dualB_len]; omega)]
              rw [e] at h
              obtain ⟨v', q, e', hr⟩ : ∃ v' q er, readD (A ++ (dualB d v).take left) A.length d = (v', q, er) := ⟨_, _, _, rfl⟩
              have hno : e' ≠ 0 := by
                rintro rfl
                have h1 := dual_more hr (by simp) hd.1 hd.2.1 ((dualB d v).drop left)
                rw [List.append_assoc, List.take_append_drop] at h1
                have h2 := read_dual A [] hv (d := d)
                rw [List.append_nil, h1] at h2
                cases h2
                obtain ⟨-, -, hpB, -⟩ := dual_is hr (by simp) hd.1 hd.2.1
                rw [List.length_append, List.length_take, dualB_len] at hpB
                omega
              rw [decD_er hr hno] at h
              cases h
              obtain ⟨-, -, h3⟩ := dual_no hr hno hd.1 hd.2.1
              rcases h3 with h3 | ⟨-, h3⟩
              · exact h3
              · rw [List.length_append, List.length_take, dualB_len] at h3
                have := dualLen_le hd.1 hd.2.1 v
                omega
            · have e : A ++ (codesD d (v :: l)).take left = (A ++ dualB d v) ++ (codesD (learnD d v) l).take (left - dualLen d v) := by
                simp only [codesD]
                rw [List.take_append, dualB_len, List.take_of_length_le (by rw [dualB_len]; omega), List.append_assoc]
              have hr := read_dual A ((codesD (learnD d v) l).take (left - dualLen d v)) hv (d := d)
              rw [e] at h
              rw [decD_ok hr] at h
              obtain ⟨m2, p2, er2, h2⟩ : ∃ m p er, decD ((A ++ dualB d v) ++ (codesD (learnD d v) l).take (left - dualLen d v)) n (A.length + dualLen d v) (learnD d v) = (m, p, er) := ⟨_, _, _, rfl⟩
              rw [h2] at h
              by_cases he2 : er2 = 0
              · subst he2; rw [glue_ok] at h; cases h; exact absurd rfl he
              · rw [glue_er _ _ _ he2] at h; cases h
                refine ih (learnD d v) (left - dualLen d v) n (fun x hx => hl x (List.mem_cons_of_mem _ hx)) (learnD_ok hd hv) (by simpa using hn) (A ++ dualB d v) m2 p2 _ ?_ he2
                rw [List.length_append, dualB_len]; exact h2
      have h24 := key l d left n hl hd hn [] m p er (by simpa using hr) he
      subst h24
      obtain ⟨rfl, rfl, -⟩ := dec_no n hr he (Nat.zero_le _) hd
      exact hr

/-! ### zeros -/
def dec1 (s : Nat) : Nat := s - s / 16
def decs : Nat → Nat → Nat
  | 0, s => s
  | n + 1, s => decs n (dec1 s)
theorem dec1_mono {a b : Nat} (h : a ≤ b) : dec1 a ≤ dec1 b := by unfold dec1; omega
theorem decs_mono : ∀ (n : Nat) {a b : Nat}, a ≤ b → decs n a ≤ decs n b
  | 0, _, _, h => h
  | n + 1, _, _, h => decs_mono n (dec1_mono h)
theorem decs_small : decs 400 68719476735 ≤ 15 := by decide +kernel
theorem learn_zero (d : Du) : learnD d 0 = ⟨pairK d.k0 (dec1 d.s0), d.k1, dec1 d.s0, d.s1⟩ := by
  rw [learnD_low (Nat.pow_pos (by decide))]; rfl
theorem dec1_le (s : Nat) : dec1 s ≤ s := Nat.sub_le _ _
theorem decs_le : ∀ (n s : Nat), decs n s ≤ s
  | 0, s => Nat.le_refl s
  | n + 1, s => Nat.le_trans (decs_le n (dec1 s)) (dec1_le s)
theorem decs_add : ∀ (n m s : Nat), decs (n + m) s = decs m (decs n s)
  | 0, m, s => by rw [Nat.zero_add]; rfl
  | n + 1, m, s => by rw [show n + 1 + m = (n + m) + 1 by omega]; exact decs_add n m (dec1 s)
theorem after_cons (d : Du) (v : Nat) (l : List Nat) : after d (v :: l) = after (learnD d v) l := rfl
theorem zeros_s : ∀ (n : Nat) (d : Du), (after d (List.replicate n 0)).s0 = decs n d.s0 ∧ (after d (List.replicate n 0)).k1 = d.k1 ∧ (after d (List.replicate n 0)).s1 = d.s1
  | 0, d => ⟨rfl, rfl, rfl⟩
  | n + 1, d => by
    rw [List.replicate_succ, after_cons]
    obtain ⟨h1, h2, h3⟩ := zeros_s n (learnD d 0)
    rw [h1, h2, h3, learn_zero]
    exact ⟨rfl, rfl, rfl⟩
theorem pair_small {k s : Nat} (hs : s ≤ 15) : pairK k s = k - 1 := by
  unfold pairK
  by_cases hk : 0 < k
  · have h1 : 2 ^ 5 ≤ 2 ^ (k + 4) := Nat.pow_le_pow_right (by decide) (by omega)
    rw [if_pos ⟨hk, by omega⟩]
  · obtain rfl : k = 0 := by omega
    rw [if_neg (by omega), if_neg (by omega)]
theorem zeros_k : ∀ (n : Nat) (d : Du), d.s0 ≤ 15 → (after d (List.replicate n 0)).k0 = d.k0 - n
  | 0, d, _ => rfl
  | n + 1, d, h => by
    have h1 : dec1 d.s0 ≤ 15 := Nat.le_trans (dec1_le _) h
    rw [List.replicate_succ, after_cons, zeros_k n (learnD d 0) (by rw [learn_zero]; exact h1), learn_zero, pair_small h1]
    show d.k0 - 1 - n = d.k0 - (n + 1)
    omega
theorem rep_add (a b : Nat) : List.replicate (a + b) (0 : Nat) = List.replicate a 0 ++ List.replicate b 0 := by simp
/-- behind 500 zeros the first K is 0 -/
theorem zeros_end {n : Nat} {d : Du} (hd : d.ok) (hn : 500 ≤ n) : (after d (List.replicate n 0)).k0 = 0 := by
  obtain ⟨m, rfl⟩ : ∃ m, n = 400 + m := ⟨n - 400, by omega⟩
  have e := rep_add 400 m
  have h1 : (after d (List.replicate 400 0)).s0 ≤ 15 := by
    rw [(zeros_s 400 d).1]
    exact Nat.le_trans (decs_mono 400 hd.2.2.1) decs_small
  have h2 : (after d (List.replicate 400 0)).ok := after_ok _ hd fun x hx => by rw [List.eq_of_mem_replicate hx]; decide
  have h3 := h2.1
  rw [e, after_append, zeros_k m _ h1]
  omega
/-- zeros from a state whose first K is at most 10 and not too small: at most 11 bits each -/
theorem zeros_len : ∀ (n : Nat) (d : Du), d.k0 ≤ 10 → d.s0 ≤ 2 ^ (d.k0 + 5) → (codesD d (List.replicate n 0)).length ≤ 11 * n
  | 0, d, _, _ => by simp [codesD]
  | n + 1, d, hk, hs => by
    have h0 : 0 < 2 ^ d.k0 := Nat.pow_pos (by decide)
    have hs' : dec1 d.s0 ≤ 2 ^ (d.k0 + 5) := Nat.le_trans (dec1_le _) hs
    have step : pairK d.k0 (dec1 d.s0) ≤ 10 ∧ dec1 d.s0 ≤ 2 ^ (pairK d.k0 (dec1 d.s0) + 5) := by
      unfold pairK
      split
      · rename_i h
        refine ⟨by omega, ?_⟩
        rw [show d.k0 - 1 + 5 = d.k0 + 4 by omega]
        exact Nat.le_of_lt h.2
      · split
        · rename_i h; omega
        · exact ⟨hk, hs'⟩
    have ih := zeros_len n (learnD d 0) (by rw [learn_zero]; exact step.1) (by rw [learn_zero]; exact step.2)
    rw [List.replicate_succ]
    simp only [codesD, List.length_append, dualB_len]
    rw [dualLen_low h0]
    omega
theorem zeros_start (n : Nat) : (codesD dStart (List.replicate n 0)).length ≤ 11 * n := zeros_len n dStart (by decide) (by decide)
end Cad

/- Contracts of the reference of coder: comparisons, the code of numbers. -/
namespace Go.Proofs.Ythbjcjphplgobaa
open Go.RowKit Cad

theorem CSame_ok (W : World) (a : Option Addr) (len cap : Nat) (l : List Int) (hr : Row .u32 W a len cap l) (a' : Option Addr) (len' cap' : Nat) (l' : List Int) (hr' : Row .u32 W a' len' cap' l') :
    Calls Try.prog 21 #[.slice a len cap, .slice a' len' cap'] W fun e W' => e = .returned (.bool (decide (l = l'))) ∧ Below W.heap.size W W' := by
  have hmx := Nat.le_trans hr.hcap hr.hmax
  have hmx' := Nat.le_trans hr'.hcap hr'.hmax
  unfold maxLen at hmx hmx'
  have hln := Go.Lib.hid hr.hlen
  have hln' := Go.Lib.hid hr'.hlen
  have hR := Go.Lib.hid hr
  have hR' := Go.Lib.hid hr'
  clear hr hr'
  by_cases hne : len = len'
  · subst hne
    go_enter Try.func21, Try.ntmps21
    go_wp2
    go_loopw [5] (fun i wr => ∃ k : Nat, k ≤ len ∧ i = .int .i64 k ∧ Hid (l.take k = l'.take k) ∧ Below W.heap.size W wr) (fun i _ => len - (intOf i).toNat)
    case atStart => exact ⟨0, by omega, rfl, Go.Lib.hid rfl, Below.refl _ _⟩
    case round =>
      obtain ⟨k, hk, rfl, hpre, hb⟩ := hrel
      by_cases hlt : k < len
      · obtain ⟨b, off, rfl, hbl, hc⟩ := (hR.out.below hb (Nat.le_refl _)).cells (by omega)
        obtain ⟨b', off', rfl, hbl', hc'⟩ := (hR'.out.below hb (Nat.le_refl _)).cells (by omega)
        have hcell := hc k hlt
        have hcell' := hc' k hlt
        obtain ⟨x, hx⟩ : ∃ x, x = l.getD k 0 := ⟨_, rfl⟩
        obtain ⟨y, hy⟩ : ∃ y, y = l'.getD k 0 := ⟨_, rfl⟩
        rw [← hx] at hcell
        rw [← hy] at hcell'
        have hX := Go.Lib.hid hx
        have hY := Go.Lib.hid hy
        clear hc hc' hx hy
        by_cases he : x = y
        · subst he
          have hnext := Go.Lib.hid (take_next hpre.out (by rw [hln.out]; exact hlt) (by rw [hln'.out]; exact hlt) (hX.out.symm.trans hY.out))
          go_wp2
          go_quiet (fail)
          go_wp2
          go_roundw
          case rel => exact ⟨k + 1, by omega, by go_num, hnext, Below.drewN hb _⟩
          case measure => (simp [intOf] <;> omega)
        · have hneq : Hid (l ≠ l') := Go.Lib.hid fun e => he (by rw [hX.out, hY.out, e])
          go_wp2
          go_quiet (fail)
          go_wp2
          go_ret
          exact ⟨ret_bool (decide_eq_false hneq.out).symm, Below.drewN hb _⟩
      · obtain rfl : k = len := by omega
        have heq : Hid (l = l') := Go.Lib.hid (by
          have := hpre.out
          rwa [List.take_of_length_le (by rw [hln.out]; exact Nat.le_refl _), List.take_of_length_le (by rw [hln'.out]; exact Nat.le_refl _)] at this)
        go_wp2
        go_ret
        exact ⟨ret_bool (decide_eq_true heq.out).symm, hb⟩
  · have hneq : Hid (l ≠ l') := Go.Lib.hid fun e => hne (by rw [← hln.out, ← hln'.out, e])
    go_enter Try.func21, Try.ntmps21
    go_wp2
    go_ret
    exact ⟨ret_bool (decide_eq_false hneq.out).symm, Below.refl _ _⟩

theorem CGreat_ok (W : World) (a : Option Addr) (len cap : Nat) (hl : len ≤ 9223372036854775807) (q : Bool) (hq : decide ((150 < len ∧ len ≤ 4000) ∨ 4010 < len) = q) :
    Calls Try.prog 17 #[.slice a len cap] W fun e W' => e = .returned (.bool q) ∧ W = W' := by
  have key : (¬ (150 : Int) < len ∧ q = false) ∨ ((150 : Int) < len ∧ (len : Int) ≤ 4000 ∧ q = true) ∨ ((150 : Int) < len ∧ ¬ (len : Int) ≤ 4000 ∧ ¬ (4010 : Int) < len ∧ q = false) ∨ ((150 : Int) < len ∧ ¬ (len : Int) ≤ 4000 ∧ (4010 : Int) < len ∧ q = true) := by
    rw [← hq]
    by_cases h1 : 150 < len <;> by_cases h2 : len ≤ 4000 <;> by_cases h3 : 4010 < len <;> simp [h1, h2, h3] <;> omega
  clear hq
  rcases key with ⟨h1, rfl⟩ | ⟨h1, h2, rfl⟩ | ⟨h1, h2, h3, rfl⟩ | ⟨h1, h2, h3, rfl⟩
  all_goals
    go_enter Try.func17, Try.ntmps17
    go_wp2
    go_ret
    exact ⟨by first | rfl | (simp; omega) | simp, rfl⟩

theorem results_bits_du {fn : Func} {p q : Tmp} (h : fn.results = #[.cell p 45, .cell q 52]) (tmps : Array Value) (w : World) (x y : Nat) (v : Value) (N a b c d : Int) (hp : tmps.getD p undef = .pointer (some ⟨x, 0, none⟩)) (hq : tmps.getD q undef = .pointer (some ⟨y, 0, none⟩)) (hx : BoxAt w x v N) (hy : DuAt w y a b c d) :
    (results fn tmps).run Try.prog w = .ok (.tuple #[.agg #[v, .int .i64 N], .agg #[.int .i64 a, .int .i64 b, .int .u64 c, .int .u64 d]]) w := by
  have h1 := run_loadVar_row (P := Try.prog) w x _ 45 _ _ _ hx Try.underlying45 rfl (by kernel_rfl)
  have h2 := run_loadVar_row (P := Try.prog) w y _ 52 _ _ _ hy Try.underlying52 rfl (by kernel_rfl)
  have hp' : tmps[p]?.getD undef = .pointer (some ⟨x, 0, none⟩) := by simpa using hp
  have hq' : tmps[q]?.getD undef = .pointer (some ⟨y, 0, none⟩) := by simpa using hq
  simp [results, h, hp', hq', asAddr, Sem.run_bind, h1, h2]

end Go.Proofs.Ythbjcjphplgobaa

/- Contracts of the reference of coder: Encode and After. -/
namespace Go.Proofs.Ythbjcjphplgobaa
open Go.RowKit Cad

end Go.Proofs.Ythbjcjphplgobaa

/- Contracts of the reference of coder: Decode. -/
namespace Go.Proofs.Ythbjcjphplgobaa
open Go.RowKit Cad

theorem own_setG {w : World} {x : Nat} {base n e : Nat} {v' : Value} {xs : List Value} (ho : w.ownsRow base e 1 v' n xs) (ha : ∀ g, v'.ownBlock = some g → g ≠ x) (o : Nat) (u : Value) : (w.setCell ⟨x, o, none⟩ u).ownsRow base e 1 v' n xs :=
  own_congr ho fun g e => by rw [Below.heap_setCell _ _ _ _ (ha g e)]
theorem natsU (l : List Nat) (h : ∀ x ∈ l, x < 4294967296) : ∀ x ∈ l.map Int.ofNat, (Lit.int .u32 x).wf = true := fun x hx => by
  obtain ⟨y, hy, rfl⟩ := List.mem_map.1 hx
  have := h y hy
  exact WalkArith.wf_u32 ⟨by simp, by simp; omega⟩
end Go.Proofs.Ythbjcjphplgobaa

/- How long codes are, without coding. No Go function in sight. -/
namespace Cad
open Go.Proofs.Ythbjcjphplgobaa

def lens (d : Du) : List Nat → List Nat
  | [] => []
  | v :: l => dualLen d v :: lens (learnD d v) l
theorem lens_len : ∀ (l : List Nat) (d : Du), (lens d l).length = l.length
  | [], _ => rfl
  | v :: l, d => by
    show (lens (learnD d v) l).length + 1 = l.length + 1
    rw [lens_len l]
theorem lens_append : ∀ (l m : List Nat) (d : Du), lens d (l ++ m) = lens d l ++ lens (after d l) m
  | [], m, d => rfl
  | v :: l, m, d => by
    show dualLen d v :: lens (learnD d v) (l ++ m) = dualLen d v :: (lens (learnD d v) l ++ lens (after (learnD d v) l) m)
    rw [lens_append l m]
theorem lens_take (l : List Nat) (d : Du) (k : Nat) (h : k ≤ l.length) : (lens d l).take k = lens d (l.take k) := by
  conv => lhs; rw [← List.take_append_drop k l, lens_append]
  rw [List.take_left' (by rw [lens_len, List.length_take]; omega)]
theorem lens_snoc (l : List Nat) (d : Du) {k : Nat} (h : k < l.length) : lens d (l.take (k + 1)) = lens d (l.take k) ++ [dualLen (after d (l.take k)) (l.getD k 0)] := by
  have e : l.take (k + 1) = l.take k ++ [l.getD k 0] := by
    rw [List.take_succ_eq_append_getElem h]; simp [List.getD, h]
  rw [e, lens_append]; rfl
theorem lens_get (l : List Nat) (d : Du) {k : Nat} (h : k < l.length) : (lens d l).getD k 0 = dualLen (after d (l.take k)) (l.getD k 0) := by
  have h1 := lens_take l d (k + 1) h
  rw [lens_snoc l d h, ← lens_take l d k (Nat.le_of_lt h)] at h1
  have hl : k < (lens d l).length := by rw [lens_len]; exact h
  rw [List.take_succ_eq_append_getElem hl] at h1
  have h2 := List.append_cancel_left h1
  simp only [List.cons.injEq, and_true] at h2
  simp [List.getD, hl]
  rw [h2]; simp [List.getD]
theorem lens_bd (l : List Nat) {d : Du} (hd : d.ok) (hl : ∀ x ∈ l, x < 4294967296) : ∀ x ∈ lens d l, 1 ≤ x ∧ x ≤ 81 := by
  induction l generalizing d with
  | nil => intro x hx; cases hx
  | cons v l ih =>
    intro x hx
    have hv := hl v (List.mem_cons_self ..)
    rcases List.mem_cons.1 hx with rfl | hx
    · exact ⟨dualLen_pos d v, dualLen_le hd.1 hd.2.1 v⟩
    · exact ih (learnD_ok hd hv) (fun y hy => hl y (List.mem_cons_of_mem _ hy)) x hx
theorem codesD_sum : ∀ (l : List Nat) (d : Du), (codesD d l).length = (lens d l).sum
  | [], _ => rfl
  | v :: l, d => by
    show (dualB d v ++ codesD (learnD d v) l).length = (dualLen d v :: lens (learnD d v) l).sum
    rw [List.length_append, dualB_len, codesD_sum l, List.sum_cons]
theorem sum_bd : ∀ (l : List Nat), (∀ x ∈ l, x ≤ 81) → l.sum ≤ 81 * l.length
  | [], _ => Nat.le_refl _
  | x :: l, h => by
    have h1 := sum_bd l fun y hy => h y (List.mem_cons_of_mem _ hy)
    have h2 := h x (List.mem_cons_self ..)
    rw [List.sum_cons, List.length_cons]; omega
theorem sum_snoc (l : List Nat) {k : Nat} (h : k < l.length) : (l.take (k + 1)).sum = (l.take k).sum + l.getD k 0 := by
  rw [List.take_succ_eq_append_getElem h, List.sum_append]; simp [List.getD, h]
theorem sum_mono (l : List Nat) {i j : Nat} (h : i ≤ j) : (l.take i).sum ≤ (l.take j).sum := by
  have e : l.take j = l.take i ++ (l.take j).drop i := by
    have := List.take_append_drop i (l.take j)
    rw [List.take_take, Nat.min_eq_left h] at this
    exact this.symm
  rw [e, List.sum_append]; omega
/-- how many bytes the block of n bits has -/
def longB (n : Nat) : Nat := (n + 7) / 8 + 4
theorem longB_mono {n m : Nat} (h : n ≤ m) : longB n ≤ longB m := by unfold longB; omega
/-- how many numbers fit, by their lengths: of those from the k-th one on, i of them left -/
def fitN (L : List Nat) (b : Int) : Nat → Nat → Nat
  | 0, k => k
  | i + 1, k => if b < longB (L.take (k + 1)).sum then k else fitN L b i (k + 1)
theorem fitN_stop {L : List Nat} {b : Int} {i k : Nat} (h : b < longB (L.take (k + 1)).sum) : fitN L b (i + 1) k = k := if_pos h
theorem fitN_go {L : List Nat} {b : Int} {i k : Nat} (h : ¬ b < longB (L.take (k + 1)).sum) : fitN L b (i + 1) k = fitN L b i (k + 1) := if_neg h
theorem fitN_is : ∀ (i k : Nat) (L : List Nat) (b : Int), (longB (L.take k).sum : Int) ≤ b → k ≤ fitN L b i k ∧ fitN L b i k ≤ k + i ∧ (longB (L.take (fitN L b i k)).sum : Int) ≤ b ∧ (fitN L b i k < k + i → b < longB (L.take (fitN L b i k + 1)).sum)
  | 0, k, L, b, h => ⟨Nat.le_refl _, Nat.le_refl _, h, fun h => absurd h (Nat.lt_irrefl _)⟩
  | i + 1, k, L, b, h => by
    by_cases hb : b < longB (L.take (k + 1)).sum
    · rw [fitN_stop hb]
      exact ⟨Nat.le_refl _, by omega, h, fun _ => hb⟩
    · rw [fitN_go hb]
      obtain ⟨h1, h2, h3, h4⟩ := fitN_is i (k + 1) L b (by omega)
      exact ⟨by omega, by omega, h3, fun h => h4 (by omega)⟩
/-- how many numbers fit -/
def fits (L : List Nat) (b : Int) : Nat := fitN L b L.length 0
theorem fits_is {L : List Nat} {b : Int} (h : 4 ≤ b) : fits L b ≤ L.length ∧ (longB (L.take (fits L b)).sum : Int) ≤ b ∧ (fits L b < L.length → b < longB (L.take (fits L b + 1)).sum) := by
  obtain ⟨-, h2, h3, h4⟩ := fitN_is L.length 0 L b (by
    rw [List.take_zero]
    show ((longB 0 : Nat) : Int) ≤ b
    exact h)
  rw [Nat.zero_add] at h2 h4
  exact ⟨h2, h3, h4⟩
theorem fits_mono {L : List Nat} {b c : Int} (h : 4 ≤ b) (hbc : b ≤ c) : fits L b ≤ fits L c := by
  obtain ⟨h1, h2, -⟩ := fits_is (L := L) h
  obtain ⟨h4, -, h6⟩ := fits_is (L := L) (b := c) (by omega)
  apply Classical.byContradiction
  intro hc
  have h7 := h6 (by omega)
  have h8 := longB_mono (sum_mono L (show fits L c + 1 ≤ fits L b by omega))
  omega
end Cad

/- Contracts of the reference of tally: comparisons, lengths. -/
namespace Go.Proofs.Ythbjcjphplgobaa
open Go.RowKit Cad

theorem KtSame_ok (W : World) (a : Option Addr) (len cap : Nat) (l : List Int) (hr : Row .i64 W a len cap l) (a' : Option Addr) (len' cap' : Nat) (l' : List Int) (hr' : Row .i64 W a' len' cap' l') :
    Calls Try.prog 15 #[.slice a len cap, .slice a' len' cap'] W fun e W' => e = .returned (.bool (decide (l = l'))) ∧ Below W.heap.size W W' := by
  have hmx := Nat.le_trans hr.hcap hr.hmax
  have hmx' := Nat.le_trans hr'.hcap hr'.hmax
  unfold maxLen at hmx hmx'
  have hln := Go.Lib.hid hr.hlen
  have hln' := Go.Lib.hid hr'.hlen
  have hR := Go.Lib.hid hr
  have hR' := Go.Lib.hid hr'
  clear hr hr'
  by_cases hne : len = len'
  · subst hne
    go_enter Try.func15, Try.ntmps15
    go_wp2
    go_loopw [5] (fun i wr => ∃ k : Nat, k ≤ len ∧ i = .int .i64 k ∧ Hid (l.take k = l'.take k) ∧ Below W.heap.size W wr) (fun i _ => len - (intOf i).toNat)
    case atStart => exact ⟨0, by omega, rfl, Go.Lib.hid rfl, Below.refl _ _⟩
    case round =>
      obtain ⟨k, hk, rfl, hpre, hb⟩ := hrel
      by_cases hlt : k < len
      · obtain ⟨b, off, rfl, hbl, hc⟩ := (hR.out.below hb (Nat.le_refl _)).cells (by omega)
        obtain ⟨b', off', rfl, hbl', hc'⟩ := (hR'.out.below hb (Nat.le_refl _)).cells (by omega)
        have hcell := hc k hlt
        have hcell' := hc' k hlt
        obtain ⟨x, hx⟩ : ∃ x, x = l.getD k 0 := ⟨_, rfl⟩
        obtain ⟨y, hy⟩ : ∃ y, y = l'.getD k 0 := ⟨_, rfl⟩
        rw [← hx] at hcell
        rw [← hy] at hcell'
        have hX := Go.Lib.hid hx
        have hY := Go.Lib.hid hy
        clear hc hc' hx hy
        by_cases he : x = y
        · subst he
          have hnext := Go.Lib.hid (take_next hpre.out (by rw [hln.out]; exact hlt) (by rw [hln'.out]; exact hlt) (hX.out.symm.trans hY.out))
          go_wp2
          go_quiet (fail)
          go_wp2
          go_roundw
          case rel => exact ⟨k + 1, by omega, by go_num, hnext, Below.drewN hb _⟩
          case measure => (simp [intOf] <;> omega)
        · have hneq : Hid (l ≠ l') := Go.Lib.hid fun e => he (by rw [hX.out, hY.out, e])
          go_wp2
          go_quiet (fail)
          go_wp2
          go_ret
          exact ⟨ret_bool (decide_eq_false hneq.out).symm, Below.drewN hb _⟩
      · obtain rfl : k = len := by omega
        have heq : Hid (l = l') := Go.Lib.hid (by
          have := hpre.out
          rwa [List.take_of_length_le (by rw [hln.out]; exact Nat.le_refl _), List.take_of_length_le (by rw [hln'.out]; exact Nat.le_refl _)] at this)
        go_wp2
        go_ret
        exact ⟨ret_bool (decide_eq_true heq.out).symm, hb⟩
  · have hneq : Hid (l ≠ l') := Go.Lib.hid fun e => hne (by rw [← hln.out, ← hln'.out, e])
    go_enter Try.func15, Try.ntmps15
    go_wp2
    go_ret
    exact ⟨ret_bool (decide_eq_false hneq.out).symm, Below.refl _ _⟩

theorem elInt : Elem Try.prog 23 3 .i64 := ⟨Try.underlying23, 8, by decide, by kernel_rfl⟩
theorem natsI (l : List Nat) (h : ∀ x ∈ l, x ≤ 1000000000) : ∀ x ∈ l.map Int.ofNat, (Lit.int .i64 x).wf = true := fun x hx => by
  obtain ⟨y, hy, rfl⟩ := List.mem_map.1 hx
  have := h y hy
  exact WalkArith.wf_i64 ⟨by simp, by simp; omega⟩
theorem lens_i64 (l : List Nat) {d : Du} (hd : d.ok) (hl : ∀ x ∈ l, x < 4294967296) : ∀ x ∈ (lens d l).map Int.ofNat, (Lit.int .i64 x).wf = true :=
  natsI _ fun x hx => by have := lens_bd l hd hl x hx; omega

set_option maxRecDepth 100000 in
set_option maxHeartbeats 2000000 in
theorem KtLengths_ok (W : World) (al : Option Addr) (ll cl : Nat) (m : List Nat) (hl : Row .u32 W al ll cl (m.map Int.ofNat)) (h4 : ll ≤ 4010) (hm : m.length = ll) (hm32 : ∀ x ∈ m, x < 4294967296) :
    Calls Try.prog 40 #[.slice al ll cl] W fun e W' => ∃ v', e = .returned v' ∧ W'.ownsRow W.heap.size 3 1 v' ll (nums .i64 ((lens dStart m).map Int.ofNat)) ∧ Below W.heap.size W W' := by
  have st := Go.Lib.hid Rstart_ok
  have hlr := Go.Lib.hid hl
  have hm' := Go.Lib.hid hm
  have h32 := Go.Lib.hid hm32
  have hml : Hid (∀ k, k < ll → (m.map Int.ofNat).getD k 0 = ((m.getD k 0 : Nat) : Int)) := Go.Lib.hid fun k hk => by simp [List.getD, show k < m.length by omega]
  have lng := Go.Lib.hid fun w (E : Du) (v : Nat) (hE : E.ok) (hv : v < 4294967296) => RdLong_ok w E v hE hv
  have lrn := Go.Lib.hid fun w (E : Du) (v : Nat) (hE : E.ok) (hv : v < 4294967296) => RLearnt_ok w E v hE hv
  have hllI : (ll : Int) ≤ 4010 := by omega
  clear hl hm hm32
  go_enter Try.func40, Try.ntmps40
  go_wp2_with (go_at_call 67; refine (st.out _).mono ?_; rintro e w1 ⟨rfl, hb1⟩; have B1 := Go.Lib.hid (hb1.alloc hb1.size (.cells #[.int .i64 10, .int .i64 10, .int .u64 16384, .int .u64 16384] 52)); have d1 := Go.Lib.hid (duat1 w1 10 10 16384 16384); have s1 := hb1.size; clear hb1)
  obtain ⟨w2, hw2⟩ : ∃ w, w = w1.alloc (.cells #[.int .i64 10, .int .i64 10, .int .u64 16384, .int .u64 16384] 52) := ⟨_, rfl⟩
  obtain ⟨x4, hx4⟩ : ∃ x, x = w1.heap.size := ⟨_, rfl⟩
  have s2 : x4 + 1 ≤ w2.heap.size := by rw [hw2, hx4]; simp
  rw [← hw2] at B1 d1
  try rw [← hw2]
  rw [← hx4] at d1 s1
  try rw [← hx4]
  clear hw2 hx4
  go_loopg [3, 5] ll (fun g out i wr => ∃ (k : Nat) (v : Value), k ≤ ll ∧ g = ll - k ∧ i = .int .i64 k ∧ out = v ∧ wr.ownsRow (x4 + 1) 3 1 v k (nums .i64 ((lens dStart (m.take k)).map Int.ofNat)) ∧ DuAt wr x4 ((after dStart (m.take k)).k0 : Nat) ((after dStart (m.take k)).k1 : Nat) ((after dStart (m.take k)).s0 : Nat) ((after dStart (m.take k)).s1 : Nat) ∧ Below W.heap.size W wr ∧ x4 + 1 ≤ wr.heap.size)
  case atStart => exact ⟨0, .slice none 0 0, Nat.zero_le _, rfl, rfl, rfl, World.ownsRow_nil _ _ _ _, d1.out, B1.out, s2⟩
  case round =>
  obtain ⟨k, v, hk, hg, rfl, rfl, ho, hd, hB, hs⟩ := hrel
  obtain ⟨av, cv, rfl⟩ := own_form ho
  have hgo := Go.Lib.hid hg
  obtain ⟨w3, hw3⟩ : ∃ w, w = wr := ⟨_, rfl⟩
  subst hw3
  clear d1 B1 hg
  by_cases hlt : k < ll
  · have hlt' : (k : Int) < ll := by omega
    have hkm : k < m.length := by rw [hm'.out]; exact hlt
    have hts := lens_snoc m dStart hkm
    have hats := after_take_succ m dStart hkm
    have hmk := hml.out k hlt
    obtain ⟨E, hE⟩ : ∃ E, E = after dStart (m.take k) := ⟨_, rfl⟩
    have hEok : E.ok := by rw [hE]; exact after_ok _ dStart_ok fun x hx => h32.out x (List.mem_of_mem_take hx)
    obtain ⟨num, hnum⟩ : ∃ v, v = m.getD k 0 := ⟨_, rfl⟩
    have hn32 : num < 4294967296 := by rw [hnum, show m.getD k 0 = m[k] by simp [List.getD, hkm]]; exact h32.out _ (List.getElem_mem _)
    rw [← hE, ← hnum] at hts hats
    rw [← hE] at hd
    rw [← hnum] at hmk
    obtain ⟨E2, hE2⟩ : ∃ E', E' = learnD E num := ⟨_, rfl⟩
    rw [← hE2] at hats
    obtain ⟨dl, hdl⟩ : ∃ x, x = dualLen E num := ⟨_, rfl⟩
    have lng' : Hid (∀ w, Calls Try.prog 68 #[.agg #[.int .i64 E.k0, .int .i64 E.k1, .int .u64 E.s0, .int .u64 E.s1], .int .u32 num] w fun e W' => e = .returned (.int .i64 dl) ∧ Below w.heap.size w W') := Go.Lib.hid fun w => by rw [hdl]; exact lng.out w E num hEok hn32
    have lrn' : Hid (∀ w, Calls Try.prog 69 #[.agg #[.int .i64 E.k0, .int .i64 E.k1, .int .u64 E.s0, .int .u64 E.s1], .int .u32 num] w fun e W' => e = .returned (.agg #[.int .i64 E2.k0, .int .i64 E2.k1, .int .u64 E2.s0, .int .u64 E2.s1]) ∧ Below w.heap.size w W') := Go.Lib.hid fun w => by rw [hE2]; exact lrn.out w E num hEok hn32
    rw [← hdl] at hts
    obtain ⟨Z, hZ⟩ : ∃ Z, Z = (lens dStart (m.take k)).map Int.ofNat := ⟨_, rfl⟩
    have hts2 := Go.Lib.hid (show (lens dStart (m.take (k + 1))).map Int.ofNat = Z ++ [(dl : Int)] by rw [hts, hZ, List.map_append]; rfl)
    have hats2 := Go.Lib.hid hats
    have hmk2 := Go.Lib.hid hmk
    rw [← hZ] at ho
    obtain ⟨bl, ol, rfl, hblt, hc⟩ := (hlr.out.below hB (Nat.le_refl _)).cells (by omega)
    have hcell := hc k hlt
    rw [hmk] at hcell
    have hn32I : (num : Int) ≤ 4294967295 := by omega
    clear hts hats hmk hE hEok hnum hE2 hdl hZ hc hkm
    go_wp2
    refine wp_region_ord (fun _ => True) [(0, 0), (1, 1), (2, 0), (3, 0), (4, 0), (5, 1), (6, 3), (7, 3), (8, 4), (9, 0)] (by kernel_rfl) (by kernel_rfl) ?hC0 ?_
    case hC0 => trivial
    simp only [pick, nth]
    refine wpW_name ?_
    intro q0 hq0
    have o0 := Go.Lib.hid (show q0.ownsRow (x4 + 1) 3 1 (.slice av k cv) k (nums .i64 Z) by rw [hq0]; exact own_drew ho)
    have d0 := Go.Lib.hid (show DuAt q0 x4 E.k0 E.k1 E.s0 E.s1 by rw [hq0]; exact hd.drew)
    have B0 := Go.Lib.hid (show Below W.heap.size W q0 by rw [hq0]; exact hB.drew)
    have s0 : x4 + 1 ≤ q0.heap.size := by rw [hq0]; exact hs
    have c0 : q0.cell? ⟨bl, ol + k, none⟩ = some (.int .u32 num) := by rw [hq0]; exact hcell
    have b0 : bl < q0.heap.size := by rw [hq0]; exact hblt
    clear hq0 ho hd hB hs hcell hblt
    obtain ⟨f0, f1, f2, f3, f4, f5, f6, f7⟩ := d0.out.cells
    (repeat (first | (apply wpW_light; (case h => (intro wa; (first | (go_big_quiet_skip; exact wpQuiet_nil rfl) | (go_big_quiet_want; go_big_quiet_op; go_big_quiet_on; exact wpQuiet_nil rfl))))) | (apply wpW_here; (case h => (first | (go_big_quiet_skip; exact wpQuiet_nil rfl) | (go_big_quiet_want; go_big_quiet_op; go_big_quiet_on; exact wpQuiet_nil rfl)))) | (apply wpW_held; (case hC => assumption); (case h => (intro wa hCa; simp only [] at hCa; (first | (go_big_quiet_skip; exact wpQuiet_nil rfl) | (go_big_quiet_want; go_big_quiet_op; go_big_quiet_on; exact wpQuiet_nil rfl)))))))
    clear f0 f1 f2 f3 f4 f5 f6 f7
    refine wpW_act (fun QQ hQQ => ?_) (by rfl)
    go_wp2_with (go_at_call 68; with_reducible refine (lng'.out _).mono ?_; rintro e q1 ⟨rfl, hb⟩)
    (refine hQQ _ _ ?hCn ?_; (case hCn => trivial); clear hQQ QQ)
    have o1 := own_below o0.out hb (Nat.le_refl _)
    have d1 := Go.Lib.hid (d0.out.below hb d0.out.lt)
    have B1 := Go.Lib.hid (B0.out.trans (hb.mono B0.out.size))
    have s1' : x4 + 1 ≤ q1.heap.size := Nat.le_trans s0 hb.size
    have c1 := (Below.cell hb (p := ⟨bl, ol + k, none⟩) b0).trans c0
    have b1 : bl < q1.heap.size := Nat.lt_of_lt_of_le b0 hb.size
    clear hb o0 d0 B0 c0 b0 s0
    refine wpW_act (fun QQ hQQ => ?_) (by rfl)
    go_wp2
    (refine hQQ _ _ ?hCn ?_; (case hCn => trivial); clear hQQ QQ)
    refine wpW_last (fun QQ hQQ => ?_) (by rfl)
    go_wp2_with (at_builtin; refine law_append1 elInt _ rfl _ _ rfl (x4 + 1) _ k Z rfl o1 dl rfl (by omega) s1' ?_; intro v2 q2 hown2 hb2)
    (refine hQQ.out _ _ ?_; clear hQQ QQ)
    (repeat (first | (apply wpW_light; (case h => (intro wa; (first | (go_big_quiet_skip; exact wpQuiet_nil rfl) | (go_big_quiet_want; go_big_quiet_op; go_big_quiet_on; exact wpQuiet_nil rfl))))) | (apply wpW_here; (case h => (first | (go_big_quiet_skip; exact wpQuiet_nil rfl) | (go_big_quiet_want; go_big_quiet_op; go_big_quiet_on; exact wpQuiet_nil rfl)))) | (apply wpW_held; (case hC => assumption); (case h => (intro wa hCa; simp only [] at hCa; (first | (go_big_quiet_skip; exact wpQuiet_nil rfl) | (go_big_quiet_want; go_big_quiet_op; go_big_quiet_on; exact wpQuiet_nil rfl)))))))
    refine wpW_nil ?_
    obtain ⟨a2, c2, rfl⟩ := own_form hown2
    have hown2' := hown2
    have d2 := Go.Lib.hid (d1.out.below hb2 (Nat.lt_succ_self _))
    have B2 := Go.Lib.hid (B1.out.trans (hb2.mono (by omega)))
    have s2' : x4 + 1 ≤ q2.heap.size := Nat.le_trans s1' hb2.size
    have hR2 := (hlr.out.below B2.out (Nat.le_refl _))
    obtain ⟨bl', ol', e', hblt', hc'⟩ := hR2.cells (by omega)
    cases e'
    have hcell := hc' k hlt
    rw [hmk2.out] at hcell
    clear hR2 hc' hblt' hown2 hb2 o1 d1 B1 c1 s1' b1
    obtain ⟨f0, f1, f2, f3, f4, f5, f6, f7⟩ := d2.out.cells
    have o2 := Go.Lib.hid hown2'
    clear hown2'
    go_wp2
    refine wp_region_ord (fun _ => True) [(0, 1), (1, 0), (2, 0), (3, 0), (4, 1), (5, 3), (6, 4)] (by kernel_rfl) (by kernel_rfl) ?hC0 ?_
    case hC0 => trivial
    simp only [pick, nth]
    refine wpW_name ?_
    intro q3 hq3
    have o3 := Go.Lib.hid (show q3.ownsRow (x4 + 1) 3 1 (.slice a2 (k + 1) c2) (k + 1) (nums .i64 (Z ++ [(dl : Int)])) by rw [hq3]; exact own_drew o2.out)
    have d3 := Go.Lib.hid (show DuAt q3 x4 E.k0 E.k1 E.s0 E.s1 by rw [hq3]; exact d2.out.drew)
    have B3 := Go.Lib.hid (show Below W.heap.size W q3 by rw [hq3]; exact B2.out.drew)
    have s3 : x4 + 1 ≤ q3.heap.size := by rw [hq3]; exact s2'
    have c3 : q3.cell? ⟨bl, ol + k, none⟩ = some (.int .u32 num) := by rw [hq3]; exact hcell
    clear hq3 f0 f1 f2 f3 f4 f5 f6 f7 o2 d2 B2 s2' hcell
    obtain ⟨f0, f1, f2, f3, f4, f5, f6, f7⟩ := d3.out.cells
    (repeat (first | (apply wpW_light; (case h => (intro wa; (first | (go_big_quiet_skip; exact wpQuiet_nil rfl) | (go_big_quiet_want; go_big_quiet_op; go_big_quiet_on; exact wpQuiet_nil rfl))))) | (apply wpW_here; (case h => (first | (go_big_quiet_skip; exact wpQuiet_nil rfl) | (go_big_quiet_want; go_big_quiet_op; go_big_quiet_on; exact wpQuiet_nil rfl)))) | (apply wpW_held; (case hC => assumption); (case h => (intro wa hCa; simp only [] at hCa; (first | (go_big_quiet_skip; exact wpQuiet_nil rfl) | (go_big_quiet_want; go_big_quiet_op; go_big_quiet_on; exact wpQuiet_nil rfl)))))))
    clear f0 f1 f2 f3 f4 f5 f6 f7
    refine wpW_act (fun QQ hQQ => ?_) (by rfl)
    go_wp2_with (go_at_call 69; with_reducible refine (lrn'.out _).mono ?_; rintro e q4 ⟨rfl, hb⟩)
    (refine hQQ _ _ ?hCn ?_; (case hCn => trivial); clear hQQ QQ)
    have o4 := own_below o3.out hb (Nat.le_refl _)
    have d4 := d3.out.below hb d3.out.lt
    have B4 := B3.out.trans (hb.mono B3.out.size)
    have s4 : x4 + 1 ≤ q4.heap.size := Nat.le_trans s3 hb.size
    have o4' := Go.Lib.hid o4
    have d4' := Go.Lib.hid d4
    have B4' := Go.Lib.hid B4
    obtain ⟨f0, f1, f2, f3, f4, f5, f6, f7⟩ := d4.cells
    clear hb o3 d3 B3 c3 s3 o4 d4 B4
    refine wpW_last (fun QQ hQQ => ?_) (by rfl)
    go_wp2
    (refine hQQ.out _ _ ?_; clear hQQ QQ)
    refine wpW_nil ?_
    go_wp2
    go_roundg (ll - (k + 1))
    case measure => (have hgk := hgo.out; omega)
    case rel =>
      have ap : ∀ g, (Value.slice a2 (k + 1) c2).ownBlock = some g → g ≠ x4 := fun g e => by have := (o4'.out.lt g e).1; omega
      refine ⟨k + 1, _, by omega, rfl, by go_num, rfl, by rw [hts2.out]; exact own_setG (own_setG (own_setG (own_setG o4'.out ap _ _) ap _ _) ap _ _) ap _ _, ?_, outp B4'.out s1, by simpa using s4⟩
      rw [hats2.out]
      exact d4'.out.set E2.k0 E2.k1 E2.s0 E2.s1
  · obtain rfl : k = ll := by omega
    have hlt' : ¬ (k : Int) < k := by omega
    have e : m.take k = m := List.take_of_length_le (by rw [hm'.out]; exact Nat.le_refl _)
    rw [e] at ho
    go_wp2
    go_ret
    exact ⟨_, rfl, own_base ho (by omega), hB⟩
end Go.Proofs.Ythbjcjphplgobaa
