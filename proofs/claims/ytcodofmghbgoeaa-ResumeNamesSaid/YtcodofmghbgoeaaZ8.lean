/- Texts of the proof, one behind the other: DuaM, RegY, DuaN, CodP, ResP, ResK, CodR, CodS, CodT. -/
import Derived.Test.YtcodofmghbgoeaaZ7
import Derived.Deep.DeepCutAuto
/- The chapter's examples of dual. -/
namespace Go.Proofs.Ytcodofmghbgoeaa
open Go.RowKit Cad

theorem duat2 (w : World) (o : Obj) (a b c d : Int) : DuAt ((w.alloc o).alloc (.cells #[.int .i64 a, .int .i64 b, .int .u64 c, .int .u64 d] 24)) (w.heap.size + 1) a b c d := by
  unfold DuAt; rw [heap_alloc2_new]
def D8 : Du := ⟨10, 10, 16384, 16384⟩
theorem d8_ok : D8.ok := ⟨by decide, by decide, by decide, by decide⟩

end Go.Proofs.Ytcodofmghbgoeaa

/- A region that draws its order: three that act and are not ordered; the world behind an act by a name. No Go function in sight. -/
namespace Go.Proofs.Ytcodofmghbgoeaa
open Go.RowKit

section
variable {P : Program} {ops : Array Oper} {C : World → Prop} {Q : Exit → Act → World → Prop}

theorem wpW_name {R : List (Nat × Oper)} {a : Act} {w : World} (h : ∀ w', w' = w → wpW P ops C Q R a w') : wpW P ops C Q R a w := h w rfl

/-- three that act, x, y and z, are not ordered: six orders: xyz, xzy, zxy, yxz, yzx, zyx -/
theorem wp_region_ord6 {id : Nat} {l : List Oper} {a : Act} {w : World} (C : World → Prop) (x y z : Nat) (R1 R2 R3 R4 R5 R6 : List (Nat × Nat)) (hm : P.follows .mixedOrders = true) (hxy : x ≠ y ∧ y ≠ z ∧ x ≠ z ∧ x < l.length ∧ y < l.length ∧ z < l.length)
    (h1 : ordB l [(z, y), (y, x)] R1 = true) (h2 : ordB l [(z, x), (y, z), (y, x)] R2 = true) (h3 : ordB l [(x, z), (y, z), (y, x)] R3 = true)
    (h4 : ordB l [(z, x), (x, y)] R4 = true) (h5 : ordB l [(z, y), (x, z), (x, y)] R5 = true) (h6 : ordB l [(y, z), (x, z), (x, y)] R6 = true) (hC : C w.drew)
    (g1 : wpW P l.toArray C (NoPanic Q) (pick l R1) a w.drew) (g2 : wpW P l.toArray C (NoPanic Q) (pick l R2) a w.drew) (g3 : wpW P l.toArray C (NoPanic Q) (pick l R3) a w.drew)
    (g4 : wpW P l.toArray C (NoPanic Q) (pick l R4) a w.drew) (g5 : wpW P l.toArray C (NoPanic Q) (pick l R5) a w.drew) (g6 : wpW P l.toArray C (NoPanic Q) (pick l R6) a w.drew) : (Code.region id l.toArray true).wp P Q a w := by
  refine wp_region_noPanic (wp_region_draw fun t => ?_)
  simp only [Region.schedule, hm, Bool.true_or, if_true]
  obtain ⟨n1, n2, n3, l1, l2, l3⟩ := hxy
  have sz : (Array.replicate l.toArray.size false).size = l.toArray.size := by simp
  have b1 : x < l.toArray.size := by simpa using l1
  have b2 : y < l.toArray.size := by simpa using l2
  have b3 : z < l.toArray.size := by simpa using l3
  rcases lin_split (ops := l.toArray) n1 _ _ sz b1 b2 (lin_all t) with hA | hB
  · rcases lin_split (ops := l.toArray) n2 _ _ sz b2 b3 hA with h | h
    · exact wpOps_of_ord R1 h1 hC _ h g1
    · rcases lin_split (ops := l.toArray) n3 _ _ sz b1 b3 h with h | h
      · exact wpOps_of_ord R2 h2 hC _ h g2
      · exact wpOps_of_ord R3 h3 hC _ h g3
  · rcases lin_split (ops := l.toArray) n3 _ _ sz b1 b3 hB with h | h
    · exact wpOps_of_ord R4 h4 hC _ h g4
    · rcases lin_split (ops := l.toArray) n2 _ _ sz b2 b3 h with h | h
      · exact wpOps_of_ord R5 h5 hC _ h g5
      · exact wpOps_of_ord R6 h6 hC _ h g6
end
end Go.Proofs.Ytcodofmghbgoeaa

/- What a world holds while codes of dual are written behind each other. -/
namespace Go.Proofs.Ytcodofmghbgoeaa
open Go.RowKit Cad

/-- numbers stay where a variable that holds bits is written -/
theorem Row.boxU {w : World} {a a' : Option Addr} {len cap n' c' : Nat} {l : List Int} {x : Nat} {N : Int} (h : Row .u32 w a len cap l) (hx : BoxAt w x (.slice a' n' c') N) (o : Nat) (u : Value) : Row .u32 (w.setCell ⟨x, o, none⟩ u) a len cap l := by
  refine ⟨h.hlen, h.hcap, h.hmax, h.wf, fun hp => ?_, h.nil⟩
  obtain ⟨b, off, rfl, hlt, hc⟩ := h.cells hp
  have hne : b ≠ x := by
    rintro rfl
    have h0 := hc 0 hp
    unfold World.cell? at h0
    unfold BoxAt at hx
    rw [hx] at h0
    match off, h0 with
    | 0, h0 => simp at h0
    | 1, h0 => simp at h0
    | off + 2, h0 => simp at h0
  refine ⟨b, off, rfl, by simpa using hlt, fun i hi => ?_⟩
  rw [← hc i hi]
  unfold World.cell?
  rw [Below.heap_setCell _ _ _ _ (by simpa using hne)]

structure SidesAt (W : World) (aa : Option Addr) (len cap : Nat) (N : Int) (D : Du) (al : Option Addr) (ll cl : Nat) (l : List Int) (xb xn : Nat) (w : World) (au : Option Addr) (L cu : Nat) (M : Int) (X : List Bool) (E : Du) : Prop where
  f : BoxAt w W.heap.size (.slice aa len cap) N
  d : DuAt w (W.heap.size + 1) D.k0 D.k1 D.s0 D.s1
  b : BoxAt w xb (.slice au L cu) M
  n : DuAt w xn E.k0 E.k1 E.s0 E.s1
  r : Row .u8 w au L cu (pack X)
  l : Row .u32 w al ll cl l
  w : Below W.heap.size W w
section
variable {W : World} {aa : Option Addr} {len cap : Nat} {N : Int} {D : Du} {al : Option Addr} {ll cl : Nat} {l : List Int} {xb xn : Nat} {w w' : World} {au : Option Addr} {L cu : Nat} {M : Int} {X : List Bool} {E : Du}
theorem SidesAt.below (h : SidesAt W aa len cap N D al ll cl l xb xn w au L cu M X E) (hb : Below w.heap.size w w') : SidesAt W aa len cap N D al ll cl l xb xn w' au L cu M X E :=
  ⟨h.f.below hb h.f.lt, h.d.below hb h.d.lt, h.b.below hb h.b.lt, h.n.below hb h.n.lt, h.r.below hb (Nat.le_refl _), h.l.below hb (Nat.le_refl _), h.w.trans (hb.mono h.w.size)⟩
/-- both variables are written -/
theorem SidesAt.next (h : SidesAt W aa len cap N D al ll cl l xb xn w au L cu M X E) (h1 : W.heap.size + 1 < xb) (h2 : W.heap.size + 1 < xn) (hne : xb ≠ xn) {b' : Option Addr} {L' c' : Nat} {M' : Int} {X' : List Bool} (E' : Du) (hr : Row .u8 w b' L' c' (pack X')) :
    SidesAt W aa len cap N D al ll cl l xb xn ((((((w.setCell ⟨xb, 0, none⟩ (.slice b' L' c')).setCell ⟨xb, 1, none⟩ (.int .i64 M')).setCell ⟨xn, 0, none⟩ (.int .i64 E'.k0)).setCell ⟨xn, 1, none⟩ (.int .i64 E'.k1)).setCell ⟨xn, 2, none⟩ (.int .u64 E'.s0)).setCell ⟨xn, 3, none⟩ (.int .u64 E'.s1)) b' L' c' M' X' E' := by
  obtain ⟨o1, o2, o3, o4⟩ := outs h.b h.n hne b' L' c' M' E'.k0 E'.k1 E'.s0 E'.s1
  have hp2 := (h.n.other (p := ⟨xb, 0, none⟩) hne.symm (.slice b' L' c')).other (p := ⟨xb, 1, none⟩) hne.symm (.int .i64 M')
  refine ⟨?_, ?_, o1, o2, o4 hr, ?_, o3 h.w (by omega) (by omega)⟩
  · exact (((((h.f.other (by simp; omega) _).other (by simp; omega) _).other (by simp; omega) _).other (by simp; omega) _).other (by simp; omega) _).other (by simp; omega) _
  · exact (((((h.d.other (by simp; omega) _).other (by simp; omega) _).other (by simp; omega) _).other (by simp; omega) _).other (by simp; omega) _).other (by simp; omega) _
  · have r1 := (h.l.boxU h.b 0 (.slice b' L' c')).boxU (h.b.set0 _) 1 (.int .i64 M')
    exact (((r1.boxD (.inr rfl) hp2 0 _).boxD (.inr rfl) (hp2.set0 _) 1 _).boxD (.inr rfl) ((hp2.set0 _).set1 _) 2 _).boxD (.inr rfl) (((hp2.set0 _).set1 _).set2 _) 3 _
end
end Go.Proofs.Ytcodofmghbgoeaa

/- Lists of numbers coded, state after state, as lists of Bools: no Go function in sight. -/
namespace Cad
open Go.Proofs.Ytcodofmghbgoeaa

/-- the first state -/
def dStart : Du := ⟨10, 10, 16384, 16384⟩
theorem dStart_ok : dStart.ok := ⟨by decide, by decide, by decide, by decide⟩

/-- what was read ahead, put in front -/
def glue (l : List Nat) (r : List Nat × Nat × Nat) : List Nat × Nat × Nat := if r.2.2 ≠ 0 then ([], 0, r.2.2) else (l ++ r.1, r.2.1, 0)
/-- n numbers that are read from index i on: the numbers, the index behind them, the error -/
def decD (B : List Bool) : Nat → Nat → Du → List Nat × Nat × Nat
  | 0, i, _ => ([], i, 0)
  | n + 1, i, d => if (readD B i d).2.2 ≠ 0 then ([], 0, (readD B i d).2.2) else glue [(readD B i d).1] (decD B n (readD B i d).2.1 (learnD d (readD B i d).1))
theorem glue_er (l m : List Nat) (p : Nat) {er : Nat} (h : er ≠ 0) : glue l (m, p, er) = ([], 0, er) := if_pos h
theorem glue_ok (l m : List Nat) (p : Nat) : glue l (m, p, 0) = (l ++ m, p, 0) := if_neg (fun h => h rfl)
theorem decD_zero (B : List Bool) (i : Nat) (d : Du) : decD B 0 i d = ([], i, 0) := rfl
theorem decD_er {B : List Bool} {n i : Nat} {d : Du} {v p er : Nat} (h : readD B i d = (v, p, er)) (he : er ≠ 0) : decD B (n + 1) i d = ([], 0, er) := by
  rw [decD, h, if_pos he]
theorem decD_ok {B : List Bool} {n i : Nat} {d : Du} {v p : Nat} (h : readD B i d = (v, p, 0)) : decD B (n + 1) i d = glue [v] (decD B n p (learnD d v)) := by
  rw [decD, h, if_neg (fun h => h rfl)]
theorem glue_glue (l m : List Nat) (r : List Nat × Nat × Nat) : glue l (glue m r) = glue (l ++ m) r := by
  obtain ⟨x, p, er⟩ := r
  by_cases he : er = 0
  · subst he; rw [glue_ok, glue_ok, glue_ok, List.append_assoc]
  · rw [glue_er _ _ _ he, glue_er _ _ _ he, glue_er _ _ _ he]

/-- codes behind each other are read -/
theorem dec_codes : ∀ (l : List Nat) (A C : List Bool) (d : Du), (∀ x ∈ l, x < 4294967296) → decD (A ++ codesD d l ++ C) l.length A.length d = (l, A.length + (codesD d l).length, 0)
  | [], A, C, d, _ => by rw [List.length_nil, decD_zero]; rfl
  | v :: l, A, C, d, h => by
    have hv := h v (List.mem_cons_self ..)
    have e : A ++ codesD d (v :: l) ++ C = A ++ dualB d v ++ (codesD (learnD d v) l ++ C) := by simp [codesD]
    have h1 := read_dual A (codesD (learnD d v) l ++ C) hv (d := d)
    rw [← e] at h1
    rw [List.length_cons, decD_ok h1]
    have e2 : A ++ codesD d (v :: l) ++ C = (A ++ dualB d v) ++ codesD (learnD d v) l ++ C := by simp [codesD]
    have ih := dec_codes l (A ++ dualB d v) C (learnD d v) fun x hx => h x (List.mem_cons_of_mem _ hx)
    rw [List.length_append, dualB_len] at ih
    rw [e2, ih, glue_ok]
    simp [codesD, dualB_len, Nat.add_assoc]

/-- what is decoded has just these codes -/
theorem dec_is : ∀ (n : Nat) {B : List Bool} {i : Nat} {d : Du} {l : List Nat} {p : Nat}, decD B n i d = (l, p, 0) → i ≤ B.length → d.ok →
    l.length = n ∧ (∀ x ∈ l, x < 4294967296) ∧ p = i + (codesD d l).length ∧ p ≤ B.length ∧ midB B i p = codesD d l
  | 0, B, i, d, l, p, h, hi, _ => by
    rw [decD_zero] at h; cases h
    exact ⟨rfl, fun x hx => (by cases hx), by simp [codesD], hi, by simp [midB, codesD]⟩
  | n + 1, B, i, d, l, p, h, hi, hd => by
    obtain ⟨v, q, er, hr⟩ : ∃ v q er, readD B i d = (v, q, er) := ⟨_, _, _, rfl⟩
    by_cases he : er = 0
    · subst he
      rw [decD_ok hr] at h
      obtain ⟨hv, hq, hqB, hm⟩ := dual_is hr hi hd.1 hd.2.1
      obtain ⟨m, p2, er2, h2⟩ : ∃ m p2 er2, decD B n q (learnD d v) = (m, p2, er2) := ⟨_, _, _, rfl⟩
      rw [h2] at h
      by_cases he2 : er2 = 0
      · subst he2
        rw [glue_ok] at h; cases h
        obtain ⟨h3, h4, h5, h6, h7⟩ := dec_is n h2 hqB (learnD_ok hd hv)
        refine ⟨by simp [h3], fun x hx => ?_, ?_, h6, ?_⟩
        · rcases List.mem_append.1 hx with hx | hx
          · rw [List.mem_singleton] at hx; rw [hx]; exact hv
          · exact h4 x hx
        · simp [codesD, dualB_len]; omega
        · simp only [List.singleton_append, codesD]
          rw [← hm, ← h7]
          unfold midB
          have e : B.drop q = (B.drop i).drop (q - i) := by rw [List.drop_drop]; congr 1; omega
          rw [e, show p - i = (q - i) + (p - q) by omega, List.take_add]
      · rw [glue_er _ _ _ he2] at h; cases h; exact absurd rfl he2
    · rw [decD_er hr he] at h; cases h; exact absurd rfl he
/-- what is refused -/
theorem dec_no : ∀ (n : Nat) {B : List Bool} {i : Nat} {d : Du} {l : List Nat} {p er : Nat}, decD B n i d = (l, p, er) → er ≠ 0 → i ≤ B.length → d.ok → l = [] ∧ p = 0 ∧ (er = 24 ∨ er = 12)
  | 0, B, i, d, l, p, er, h, he, _, _ => by rw [decD_zero] at h; cases h; exact absurd rfl he
  | n + 1, B, i, d, l, p, er, h, he, hi, hd => by
    obtain ⟨v, q, e, hr⟩ : ∃ v q er, readD B i d = (v, q, er) := ⟨_, _, _, rfl⟩
    by_cases h0 : e = 0
    · subst h0
      rw [decD_ok hr] at h
      obtain ⟨hv, hq, hqB, hm⟩ := dual_is hr hi hd.1 hd.2.1
      obtain ⟨m, p2, er2, h2⟩ : ∃ m p2 er2, decD B n q (learnD d v) = (m, p2, er2) := ⟨_, _, _, rfl⟩
      rw [h2] at h
      by_cases he2 : er2 = 0
      · subst he2; rw [glue_ok] at h; cases h; exact absurd rfl he
      · rw [glue_er _ _ _ he2] at h; cases h
        exact ⟨rfl, rfl, (dec_no n h2 he2 hqB (learnD_ok hd hv)).2.2⟩
    · rw [decD_er hr h0] at h; cases h
      obtain ⟨-, -, h3⟩ := dual_no hr h0 hd.1 hd.2.1
      exact ⟨rfl, rfl, by omega⟩
/-- what is decoded is decoded, whatever stands behind it -/
theorem dec_more {B : List Bool} {n i : Nat} {d : Du} {l : List Nat} {p : Nat} (h : decD B n i d = (l, p, 0)) (hi : i ≤ B.length) (hd : d.ok) (C : List Bool) : decD (B ++ C) n i d = (l, p, 0) := by
  obtain ⟨hn, hl, hp, hpB, hm⟩ := dec_is n h hi hd
  have e : B = B.take i ++ codesD d l ++ B.drop p := by
    rw [← hm]
    unfold midB
    have h1 : B.drop p = (B.drop i).drop (p - i) := by rw [List.drop_drop]; congr 1; omega
    rw [h1, List.append_assoc, List.take_append_drop, List.take_append_drop]
  have hlen : (B.take i).length = i := by rw [List.length_take]; omega
  have := dec_codes l (B.take i) (B.drop p ++ C) d hl
  rw [← List.append_assoc, ← e, hlen, hn] at this
  rw [this, hp]
/-- a part of the codes: the first numbers that are whole, and no more -/
theorem dec_part {l : List Nat} {d : Du} {left n : Nat} (hl : ∀ x ∈ l, x < 4294967296) (hd : d.ok) (hleft : left ≤ (codesD d l).length) (hn : n ≤ l.length) :
    ((codesD d (l.take n)).length ≤ left → decD ((codesD d l).take left) n 0 d = (l.take n, (codesD d (l.take n)).length, 0)) ∧
    (left < (codesD d (l.take n)).length → decD ((codesD d l).take left) n 0 d = ([], 0, 24)) := by
  have hs : codesD d l = codesD d (l.take n) ++ codesD (after d (l.take n)) (l.drop n) := by rw [← codesD_append, List.take_append_drop]
  have ht : ∀ x ∈ l.take n, x < 4294967296 := fun x hx => hl x (List.mem_of_mem_take hx)
  have hlen : (l.take n).length = n := by rw [List.length_take]; omega
  constructor
  · intro h
    have e : (codesD d l).take left = [] ++ codesD d (l.take n) ++ (codesD (after d (l.take n)) (l.drop n)).take (left - (codesD d (l.take n)).length) := by
      rw [hs, List.take_append, List.take_of_length_le h, List.nil_append]
    have := dec_codes (l.take n) [] ((codesD (after d (l.take n)) (l.drop n)).take (left - (codesD d (l.take n)).length)) d ht
    rw [← e, hlen, List.length_nil, Nat.zero_add] at this
    exact this
  · intro h
    obtain ⟨m, p, er, hr⟩ : ∃ m p er, decD ((codesD d l).take left) n 0 d = (m, p, er) := ⟨_, _, _, rfl⟩
    by_cases he : er = 0
    · exfalso
      subst he
      have h1 := dec_more hr (Nat.zero_le _) hd ((codesD d l).drop left)
      rw [List.take_append_drop] at h1
      have h2 := dec_codes (l.take n) [] (codesD (after d (l.take n)) (l.drop n)) d ht
      rw [List.nil_append, ← hs, hlen, List.length_nil, Nat.zero_add, h1] at h2
      cases h2
      obtain ⟨-, -, -, hp, -⟩ := dec_is n hr (Nat.zero_le _) hd
      rw [List.length_take] at hp
      omega
    · -- cut off, so too short: the form of what is there is that of codes
      have key : ∀ (l : List Nat) (d : Du) (left n : Nat), (∀ x ∈ l, x < 4294967296) → d.ok → n ≤ l.length → ∀ (A : List Bool) (m : List Nat) (p er : Nat), decD (A ++ (codesD d l).take left) n A.length d = (m, p, er) → er ≠ 0 → er = 24 := by
        intro l
        induction l with
        | nil =>
          intro d left n _ _ hn A m p er h he
          obtain rfl : n = 0 := by simpa using hn
          rw [decD_zero] at h; cases h; exact absurd rfl he
        | cons v l ih =>
          intro d left n hl hd hn A m p er h he
          cases n with
          | zero => rw [decD_zero] at h; cases h; exact absurd rfl he
          | succ n =>
            have hv := hl v (List.mem_cons_self ..)
            by_cases hlt : left < dualLen d v
            · have e : (codesD d (v :: l)).take left = (dualB d v).take left := by
                simp only [codesD]
                rw [List.take_append_of_le_length (by rw [dualB_len]; omega)]
              rw [e] at h
              obtain ⟨v', q, e', hr⟩ : ∃ v' q er, readD (A ++ (dualB d v).take left) A.length d = (v', q, er) := ⟨_, _, _, rfl⟩
              have hno : e' ≠ 0 := by
                rintro rfl
                have h1 := dual_more hr (by simp) hd.1 hd.2.1 ((dualB d v).drop left)
                rw [List.append_assoc, List.take_append_drop] at h1
                have h2 := read_dual A [] hv (d := d)
                rw [List.append_nil, h1] at h2
                cases h2
                obtain ⟨-, -, hpB, -⟩ := dual_is hr (by simp) hd.1 hd.2.1
                rw [List.length_append, List.length_take, dualB_len] at hpB
                omega
              rw [decD_er hr hno] at h
              cases h
              obtain ⟨-, -, h3⟩ := dual_no hr hno hd.1 hd.2.1
              rcases h3 with h3 | ⟨-, h3⟩
              · exact h3
              · rw [List.length_append, List.length_take, dualB_len] at h3
                have := dualLen_le hd.1 hd.2.1 v
                omega
            · have e : A ++ (codesD d (v :: l)).take left = (A ++ dualB d v) ++ (codesD (learnD d v) l).take (left - dualLen d v) := by
                simp only [codesD]
                rw [List.take_append, dualB_len, List.take_of_length_le (by rw [dualB_len]; omega), List.append_assoc]
              have hr := read_dual A ((codesD (learnD d v) l).take (left - dualLen d v)) hv (d := d)
              rw [e] at h
              rw [decD_ok hr] at h
              obtain ⟨m2, p2, er2, h2⟩ : ∃ m p er, decD ((A ++ dualB d v) ++ (codesD (learnD d v) l).take (left - dualLen d v)) n (A.length + dualLen d v) (learnD d v) = (m, p, er) := ⟨_, _, _, rfl⟩
              rw [h2] at h
              by_cases he2 : er2 = 0
              · subst he2; rw [glue_ok] at h; cases h; exact absurd rfl he
              · rw [glue_er _ _ _ he2] at h; cases h
                refine ih (learnD d v) (left - dualLen d v) n (fun x hx => hl x (List.mem_cons_of_mem _ hx)) (learnD_ok hd hv) (by simpa using hn) (A ++ dualB d v) m2 p2 _ ?_ he2
                rw [List.length_append, dualB_len]; exact h2
      have h24 := key l d left n hl hd hn [] m p er (by simpa using hr) he
      subst h24
      obtain ⟨rfl, rfl, -⟩ := dec_no n hr he (Nat.zero_le _) hd
      exact hr

/-! ### zeros -/
def dec1 (s : Nat) : Nat := s - s / 16
def decs : Nat → Nat → Nat
  | 0, s => s
  | n + 1, s => decs n (dec1 s)
theorem dec1_mono {a b : Nat} (h : a ≤ b) : dec1 a ≤ dec1 b := by unfold dec1; omega
theorem decs_mono : ∀ (n : Nat) {a b : Nat}, a ≤ b → decs n a ≤ decs n b
  | 0, _, _, h => h
  | n + 1, _, _, h => decs_mono n (dec1_mono h)
theorem decs_small : decs 400 68719476735 ≤ 15 := by decide +kernel
theorem learn_zero (d : Du) : learnD d 0 = ⟨pairK d.k0 (dec1 d.s0), d.k1, dec1 d.s0, d.s1⟩ := by
  rw [learnD_low (Nat.pow_pos (by decide))]; rfl
theorem dec1_le (s : Nat) : dec1 s ≤ s := Nat.sub_le _ _
theorem decs_le : ∀ (n s : Nat), decs n s ≤ s
  | 0, s => Nat.le_refl s
  | n + 1, s => Nat.le_trans (decs_le n (dec1 s)) (dec1_le s)
theorem decs_add : ∀ (n m s : Nat), decs (n + m) s = decs m (decs n s)
  | 0, m, s => by rw [Nat.zero_add]; rfl
  | n + 1, m, s => by rw [show n + 1 + m = (n + m) + 1 by omega]; exact decs_add n m (dec1 s)
theorem after_cons (d : Du) (v : Nat) (l : List Nat) : after d (v :: l) = after (learnD d v) l := rfl
theorem zeros_s : ∀ (n : Nat) (d : Du), (after d (List.replicate n 0)).s0 = decs n d.s0 ∧ (after d (List.replicate n 0)).k1 = d.k1 ∧ (after d (List.replicate n 0)).s1 = d.s1
  | 0, d => ⟨rfl, rfl, rfl⟩
  | n + 1, d => by
    rw [List.replicate_succ, after_cons]
    obtain ⟨h1, h2, h3⟩ := zeros_s n (learnD d 0)
    rw [h1, h2, h3, learn_zero]
    exact ⟨rfl, rfl, rfl⟩
theorem pair_small {k s : Nat} (hs : s ≤ 15) : pairK k s = k - 1 := by
  unfold pairK
  by_cases hk : 0 < k
  · have h1 : 2 ^ 5 ≤ 2 ^ (k + 4) := Nat.pow_le_pow_right (by decide) (by omega)
    rw [if_pos ⟨hk, by omega⟩]
  · obtain rfl : k = 0 := by omega
    rw [if_neg (by omega), if_neg (by omega)]
theorem zeros_k : ∀ (n : Nat) (d : Du), d.s0 ≤ 15 → (after d (List.replicate n 0)).k0 = d.k0 - n
  | 0, d, _ => rfl
  | n + 1, d, h => by
    have h1 : dec1 d.s0 ≤ 15 := Nat.le_trans (dec1_le _) h
    rw [List.replicate_succ, after_cons, zeros_k n (learnD d 0) (by rw [learn_zero]; exact h1), learn_zero, pair_small h1]
    show d.k0 - 1 - n = d.k0 - (n + 1)
    omega
theorem rep_add (a b : Nat) : List.replicate (a + b) (0 : Nat) = List.replicate a 0 ++ List.replicate b 0 := by simp
/-- behind 500 zeros the first K is 0 -/
theorem zeros_end {n : Nat} {d : Du} (hd : d.ok) (hn : 500 ≤ n) : (after d (List.replicate n 0)).k0 = 0 := by
  obtain ⟨m, rfl⟩ : ∃ m, n = 400 + m := ⟨n - 400, by omega⟩
  have e := rep_add 400 m
  have h1 : (after d (List.replicate 400 0)).s0 ≤ 15 := by
    rw [(zeros_s 400 d).1]
    exact Nat.le_trans (decs_mono 400 hd.2.2.1) decs_small
  have h2 : (after d (List.replicate 400 0)).ok := after_ok _ hd fun x hx => by rw [List.eq_of_mem_replicate hx]; decide
  have h3 := h2.1
  rw [e, after_append, zeros_k m _ h1]
  omega
/-- zeros from a state whose first K is at most 10 and not too small: at most 11 bits each -/
theorem zeros_len : ∀ (n : Nat) (d : Du), d.k0 ≤ 10 → d.s0 ≤ 2 ^ (d.k0 + 5) → (codesD d (List.replicate n 0)).length ≤ 11 * n
  | 0, d, _, _ => by simp [codesD]
  | n + 1, d, hk, hs => by
    have h0 : 0 < 2 ^ d.k0 := Nat.pow_pos (by decide)
    have hs' : dec1 d.s0 ≤ 2 ^ (d.k0 + 5) := Nat.le_trans (dec1_le _) hs
    have step : pairK d.k0 (dec1 d.s0) ≤ 10 ∧ dec1 d.s0 ≤ 2 ^ (pairK d.k0 (dec1 d.s0) + 5) := by
      unfold pairK
      split
      · rename_i h
        refine ⟨by omega, ?_⟩
        rw [show d.k0 - 1 + 5 = d.k0 + 4 by omega]
        exact Nat.le_of_lt h.2
      · split
        · rename_i h; omega
        · exact ⟨hk, hs'⟩
    have ih := zeros_len n (learnD d 0) (by rw [learn_zero]; exact step.1) (by rw [learn_zero]; exact step.2)
    rw [List.replicate_succ]
    simp only [codesD, List.length_append, dualB_len]
    rw [dualLen_low h0]
    omega
theorem zeros_start (n : Nat) : (codesD dStart (List.replicate n 0)).length ≤ 11 * n := zeros_len n dStart (by decide) (by decide)
end Cad

/- Numbers read from pieces: what feeding says, as lists of Bools: no Go function in sight. -/
namespace Cad
open Go.Proofs.Ytcodofmghbgoeaa

/-! ### reading behind other bits -/
def sh (a : Nat) (r : Nat × Nat × Nat) : Nat × Nat × Nat := if r.2.2 = 0 then (r.1, a + r.2.1, 0) else (0, 0, r.2.2)
theorem sh_ok (a v p : Nat) : sh a (v, p, 0) = (v, a + p, 0) := if_pos rfl
theorem sh_er (a v p : Nat) {er : Nat} (h : er ≠ 0) : sh a (v, p, er) = (0, 0, er) := if_neg h
theorem drop_behind (A B : List Bool) (i : Nat) : (A ++ B).drop (A.length + i) = B.drop i := by
  rw [List.drop_append, List.drop_eq_nil_of_le (by omega), List.nil_append]; congr 1; omega
theorem midB_behind (A B : List Bool) (i k : Nat) : midB (A ++ B) (A.length + i) (A.length + k) = midB B i k := by
  unfold midB; rw [drop_behind]; congr 1; omega
theorem getD_behind (A B : List Bool) (i : Nat) : (A ++ B).getD (A.length + i) false = B.getD i false := by
  have h1 := drop_getD (A ++ B) (A.length + i) 0
  have h2 := drop_getD B i 0
  rw [drop_behind, h2] at h1
  simpa using h1.symm
theorem readV_behind (A B : List Bool) (i : Nat) : readV (A ++ B) (A.length + i) = sh A.length (readV B i) := by
  unfold readV
  rw [drop_behind, List.length_append]
  simp only
  by_cases h1 : lead (B.drop i) 48 = 48
  · rw [if_pos h1, if_pos h1, sh_ok, Nat.add_assoc]
  · rw [if_neg h1, if_neg h1]
    by_cases h2 : i + lead (B.drop i) 48 < B.length
    · rw [if_pos h2, if_pos (by omega), sh_ok]; congr 2; omega
    · rw [if_neg h2, if_neg (by omega), sh_er _ _ _ (by decide)]
theorem readR_behind (A B : List Bool) (i k : Nat) : readR (A ++ B) (A.length + i) k = sh A.length (readR B i k) := by
  obtain ⟨q, m, e, hr⟩ : ∃ q m e, readV B i = (q, m, e) := ⟨_, _, _, rfl⟩
  have h2 := readV_behind A B i
  rw [hr] at h2
  by_cases h0 : e = 0
  · subst h0
    rw [sh_ok] at h2
    by_cases hs : B.length < m + lowN q k
    · rw [readR_short hr hs, readR_short h2 (by rw [List.length_append]; omega), sh_er _ _ _ (by decide)]
    · by_cases h48 : q < 48
      · have el : lowN q k = k := if_pos h48
        rw [el] at hs
        rw [readR_less hr (by omega) h48, readR_less h2 (by rw [List.length_append]; omega) h48, sh_ok, Nat.add_assoc, midB_behind]
      · have hq : q = 48 := by
          have : q ≤ 48 := by
            unfold readV at hr
            simp only at hr
            have hk := lead_le (B.drop i) 48
            split at hr
            · cases hr; exact Nat.le_refl _
            · split at hr
              · cases hr; exact hk
              · cases hr
          omega
        subst hq
        have el : lowN 48 k = 32 := rfl
        rw [el] at hs
        have hmid : midB (A ++ B) (A.length + m) (A.length + m + 32) = midB B m (m + 32) := by rw [Nat.add_assoc]; exact midB_behind A B m (m + 32)
        by_cases hp : partN (natB (midB B m (m + 32))) k = 48
        · rw [readR_full hr (by omega) hp, readR_full h2 (by rw [List.length_append]; omega) (by rw [hmid]; exact hp), sh_ok, hmid, Nat.add_assoc]
        · rw [readR_form hr (by omega) hp, readR_form h2 (by rw [List.length_append]; omega) (by rw [hmid]; exact hp), sh_er _ _ _ (by decide)]
  · rw [sh_er _ _ _ h0] at h2
    rw [readR_no hr h0, readR_no h2 h0, sh_er _ _ _ (by decide)]
theorem readD_behind (A B : List Bool) (i : Nat) (d : Du) : readD (A ++ B) (A.length + i) d = sh A.length (readD B i d) := by
  by_cases hl : B.length ≤ i
  · rw [readD_end d hl, readD_end d (by rw [List.length_append]; omega), sh_er _ _ _ (by decide)]
  have hlt : i < B.length := by omega
  have hlt2 : A.length + i < (A ++ B).length := by rw [List.length_append]; omega
  have hb2 := getD_behind A B i
  cases hb : B.getD i false with
  | false =>
    rw [hb] at hb2
    by_cases hs : B.length < i + 1 + d.k0
    · rw [readD_short hlt hb hs, readD_short hlt2 hb2 (by rw [List.length_append]; omega), sh_er _ _ _ (by decide)]
    · rw [readD_low hb (by omega), readD_low hb2 (by rw [List.length_append]; omega), sh_ok]
      rw [show A.length + i + 1 = A.length + (i + 1) by omega, show A.length + (i + 1) + d.k0 = A.length + (i + 1 + d.k0) by omega, midB_behind]
  | true =>
    rw [hb] at hb2
    obtain ⟨w, q, e, hr⟩ : ∃ w q er, readR B (i + 1) d.k1 = (w, q, er) := ⟨_, _, _, rfl⟩
    have h2 := readR_behind A B (i + 1) d.k1
    rw [hr, ← Nat.add_assoc] at h2
    by_cases h00 : e = 0
    · subst h00
      rw [sh_ok] at h2
      by_cases hg : 4294967295 < w + 2 ^ d.k0
      · rw [readD_great hlt hb hr hg, readD_great hlt2 hb2 h2 hg, sh_er _ _ _ (by decide)]
      · rw [readD_high hlt hb hr (by omega), readD_high hlt2 hb2 h2 (by omega), sh_ok]
    · rw [sh_er _ _ _ h00] at h2
      rw [readD_no hlt hb hr h00, readD_no hlt2 hb2 h2 h00, sh_er _ _ _ h00]
/-- reading from index i on is reading what is behind i bits -/
theorem readD_drop (B : List Bool) {i : Nat} (hi : i ≤ B.length) (d : Du) : readD B i d = sh i (readD (B.drop i) 0 d) := by
  have h := readD_behind (B.take i) (B.drop i) 0 d
  have hl : (B.take i).length = i := by rw [List.length_take]; omega
  rw [List.take_append_drop, hl, Nat.add_zero] at h
  exact h

/-! ### more bits behind -/
theorem midB_ahead (B C : List Bool) {i k : Nat} (hk : k ≤ B.length) : midB (B ++ C) i k = midB B i k := by
  unfold midB
  by_cases h : i ≤ k
  · rw [List.drop_append_of_le_length (by omega), List.take_append_of_le_length (by rw [List.length_drop]; omega)]
  · rw [show k - i = 0 by omega]; rfl
theorem getD_ahead (B C : List Bool) {i : Nat} (h : i < B.length) : (B ++ C).getD i false = B.getD i false := by
  simp [List.getD, List.getElem?_append_left h]
theorem readV_more {B : List Bool} {i q m : Nat} (h : readV B i = (q, m, 0)) (hi : i ≤ B.length) (C : List Bool) : readV (B ++ C) i = (q, m, 0) := by
  obtain ⟨h1, -, h3, h4, h5⟩ := read_is h hi
  have e : B = B.take i ++ runB q ++ B.drop m := by
    rw [← h5]
    have h6 : B.drop m = (B.drop i).drop (m - i) := by rw [List.drop_drop]; congr 1; omega
    rw [h6, List.append_assoc, List.take_append_drop, List.take_append_drop]
  have hl : (B.take i).length = i := by rw [List.length_take]; omega
  have := read_run (B.take i) (B.drop m ++ C) h1
  rw [← List.append_assoc, ← e, hl] at this
  rw [this, h3]
theorem rice_form {B : List Bool} {i k : Nat} (h : readR B i k = (0, 0, 12)) (hi : i ≤ B.length) (C : List Bool) : readR (B ++ C) i k = (0, 0, 12) := by
  obtain ⟨q, m, e, hr⟩ : ∃ q m e, readV B i = (q, m, e) := ⟨_, _, _, rfl⟩
  by_cases h0 : e = 0
  · subst h0
    have h2 := readV_more hr hi C
    obtain ⟨hq, -, hm, hmB, -⟩ := read_is hr hi
    by_cases hs : B.length < m + lowN q k
    · rw [readR_short hr hs] at h; cases h
    · by_cases h48 : q < 48
      · have el : lowN q k = k := if_pos h48
        rw [el] at hs
        rw [readR_less hr (by omega) h48] at h
        simp at h
      · obtain rfl : q = 48 := by omega
        have el : lowN 48 k = 32 := rfl
        rw [el] at hs
        by_cases hp : partN (natB (midB B m (m + 32))) k = 48
        · rw [readR_full hr (by omega) hp] at h; simp at h
        · exact readR_form h2 (by rw [List.length_append]; omega) (by rw [midB_ahead B C (by omega)]; exact hp)
  · rw [readR_no hr h0] at h; cases h
theorem dual_form {B : List Bool} {i : Nat} {d : Du} {v p er : Nat} (h : readD B i d = (v, p, er)) (he : er ≠ 0) (h24 : er ≠ 24) (_hi : i ≤ B.length) (hd : d.ok) (C : List Bool) : readD (B ++ C) i d = (0, 0, er) := by
  have hp0 := pow24 hd.1
  have hp1 := pow24 hd.2.1
  by_cases hl : B.length ≤ i
  · rw [readD_end d hl] at h; cases h; exact absurd rfl h24
  have hlt : i < B.length := by omega
  have hlt2 : i < (B ++ C).length := by rw [List.length_append]; omega
  have hb2 := getD_ahead B C hlt
  cases hb : B.getD i false with
  | false =>
    by_cases hs : B.length < i + 1 + d.k0
    · rw [readD_short hlt hb hs] at h; cases h; exact absurd rfl h24
    · rw [readD_low hb (by omega)] at h; cases h; exact absurd rfl he
  | true =>
    rw [hb] at hb2
    obtain ⟨w, q, e, hr⟩ : ∃ w q er, readR B (i + 1) d.k1 = (w, q, er) := ⟨_, _, _, rfl⟩
    by_cases h0 : e = 0
    · subst h0
      have h2 := rice_more hr (by omega) hd.2.1 C
      by_cases hg : 4294967295 < w + 2 ^ d.k0
      · rw [readD_great hlt hb hr hg] at h; cases h
        exact readD_great hlt2 hb2 h2 hg
      · rw [readD_high hlt hb hr (by omega)] at h; cases h; exact absurd rfl he
    · rw [readD_no hlt hb hr h0] at h
      cases h
      obtain ⟨rfl, rfl, r⟩ := rice_no hr he (by omega)
      obtain rfl : er = 12 := by omega
      exact readD_no hlt2 hb2 (rice_form hr (by omega) C) (by decide)
/-- bits that are too few are few -/
theorem short_le {B : List Bool} {d : Du} {v p : Nat} (h : readD B 0 d = (v, p, 24)) (hd : d.ok) : B.length ≤ 80 := by
  have hp0 := hd.1
  apply Classical.byContradiction
  intro hc
  have hlt : 0 < B.length := by omega
  cases hb : B.getD 0 false with
  | false => rw [readD_low hb (by omega)] at h; cases h
  | true =>
    obtain ⟨w, q, e, hr⟩ : ∃ w q er, readR B (0 + 1) d.k1 = (w, q, er) := ⟨_, _, _, rfl⟩
    by_cases h0 : e = 0
    · subst h0
      by_cases hg : 4294967295 < w + 2 ^ d.k0
      · rw [readD_great hlt hb hr hg] at h; cases h
      · rw [readD_high hlt hb hr (by omega)] at h; cases h
    · rw [readD_no hlt hb hr h0] at h
      cases h
      obtain ⟨q, m, e, hv⟩ : ∃ q m e, readV B (0 + 1) = (q, m, e) := ⟨_, _, _, rfl⟩
      by_cases h1 : e = 0
      · subst h1
        obtain ⟨hq, -, hm, hmB, -⟩ := read_is hv (by omega)
        have hrl : runLen q ≤ 48 := by unfold runLen; split <;> omega
        have hrk : q < 48 → runLen q + lowN q d.k1 ≤ 72 := fun h => by have := hd.2.1; unfold lowN; rw [if_pos h]; omega
        by_cases hs : B.length < m + lowN q d.k1
        · by_cases h48 : q < 48
          · have := hrk h48; omega
          · obtain rfl : q = 48 := by omega
            have : lowN 48 d.k1 = 32 := rfl
            omega
        · by_cases h48 : q < 48
          · have el : lowN q d.k1 = d.k1 := if_pos h48
            rw [el] at hs
            rw [readR_less hv (by omega) h48] at hr; cases hr
          · obtain rfl : q = 48 := by omega
            have el : lowN 48 d.k1 = 32 := rfl
            rw [el] at hs
            by_cases hp : partN (natB (midB B m (m + 32))) d.k1 = 48
            · rw [readR_full hv (by omega) hp] at hr; cases hr
            · rw [readR_form hv (by omega) hp] at hr; cases hr
      · obtain ⟨-, -, -, h3, h4⟩ := read_no hv h1 (by omega)
        omega

/-! ### feeding -/
/-- numbers, the rest, how many are left, the state, the error -/
structure Fed where
  l : List Nat
  r : List Bool
  n : Nat
  d : Du
  e : Nat
def fedE (er : Nat) : Fed := ⟨[], [], 0, ⟨0, 0, 0, 0⟩, er⟩
def glueF (l : List Nat) (f : Fed) : Fed := if f.e ≠ 0 then fedE f.e else ⟨l ++ f.l, f.r, f.n, f.d, 0⟩
theorem glueF_er (l : List Nat) {f : Fed} (h : f.e ≠ 0) : glueF l f = fedE f.e := if_pos h
theorem glueF_E (l : List Nat) {er : Nat} (h : er ≠ 0) : glueF l (fedE er) = fedE er := if_pos h
theorem glueF_ok (l m : List Nat) (r : List Bool) (n : Nat) (d : Du) : glueF l ⟨m, r, n, d, 0⟩ = ⟨l ++ m, r, n, d, 0⟩ := if_neg (fun h => h rfl)
theorem glueF_glue (l m : List Nat) (f : Fed) : glueF l (glueF m f) = glueF (l ++ m) f := by
  obtain ⟨x, r, n, d, e⟩ := f
  by_cases he : e = 0
  · subst he; rw [glueF_ok, glueF_ok, glueF_ok, List.append_assoc]
  · rw [glueF_er m (f := ⟨x, r, n, d, e⟩) he, glueF_er (l ++ m) (f := ⟨x, r, n, d, e⟩) he, glueF_E l he]
/-- all numbers that there are, at most n -/
def fed : Nat → List Bool → Du → Fed
  | 0, B, d => if 8 ≤ B.length then fedE 38 else ⟨[], B, 0, d, 0⟩
  | n + 1, B, d => if (readD B 0 d).2.2 = 24 then ⟨[], B, n + 1, d, 0⟩ else if (readD B 0 d).2.2 ≠ 0 then fedE (readD B 0 d).2.2
      else glueF [(readD B 0 d).1] (fed n (B.drop (readD B 0 d).2.1) (learnD d (readD B 0 d).1))
theorem fed_more {B : List Bool} (d : Du) (h : 8 ≤ B.length) : fed 0 B d = fedE 38 := if_pos h
theorem fed_none {B : List Bool} (d : Du) (h : B.length < 8) : fed 0 B d = ⟨[], B, 0, d, 0⟩ := if_neg (by omega)
theorem fed_wait {B : List Bool} {n : Nat} {d : Du} {v p : Nat} (h : readD B 0 d = (v, p, 24)) : fed (n + 1) B d = ⟨[], B, n + 1, d, 0⟩ := by
  rw [fed, h, if_pos rfl]
theorem fed_er {B : List Bool} {n : Nat} {d : Du} {v p er : Nat} (h : readD B 0 d = (v, p, er)) (h24 : er ≠ 24) (h0 : er ≠ 0) : fed (n + 1) B d = fedE er := by
  rw [fed, h, if_neg h24, if_pos h0]
theorem fed_next {B : List Bool} {n : Nat} {d : Du} {v p : Nat} (h : readD B 0 d = (v, p, 0)) : fed (n + 1) B d = glueF [v] (fed n (B.drop p) (learnD d v)) := by
  rw [fed, h, if_neg (by simp), if_neg (fun h => h rfl)]
theorem glueF_nil {f : Fed} (h : f.e = 0) : glueF [] f = f := by
  obtain ⟨x, r, n, d, e⟩ := f
  obtain rfl : e = 0 := h
  rw [glueF_ok, List.nil_append]
/-- what feeding says: all its parts -/
theorem fed_is : ∀ (n : Nat) (B : List Bool) (d : Du), d.ok → (fed n B d).e = 0 → ∃ l r k, fed n B d = ⟨l, r, k, after d l, 0⟩ ∧ k + l.length = n ∧ (∀ x ∈ l, x < 4294967296) ∧ B = codesD d l ++ r ∧ (k = 0 → r.length < 8) ∧ (k ≠ 0 → readD r 0 (after d l) = (0, 0, 24))
  | 0, B, d, _, h => by
    by_cases h8 : 8 ≤ B.length
    · rw [fed_more d h8] at h; cases h
    · exact ⟨[], B, 0, by rw [fed_none d (by omega)]; rfl, rfl, fun x hx => (by cases hx), rfl, fun _ => by omega, fun h => absurd rfl h⟩
  | n + 1, B, d, hd, h => by
    obtain ⟨v, p, er, hr⟩ : ∃ v p er, readD B 0 d = (v, p, er) := ⟨_, _, _, rfl⟩
    by_cases h24 : er = 24
    · subst h24
      obtain ⟨rfl, rfl, -⟩ := dual_no hr (by decide) hd.1 hd.2.1
      exact ⟨[], B, n + 1, by rw [fed_wait hr]; rfl, by simp, fun x hx => (by cases hx), rfl, fun h => (by omega), fun _ => hr⟩
    · by_cases h0 : er = 0
      · subst h0
        obtain ⟨hv, hp, hpB, hm⟩ := dual_is hr (Nat.zero_le _) hd.1 hd.2.1
        rw [fed_next hr] at h
        have he : (fed n (B.drop p) (learnD d v)).e = 0 := by
          apply Classical.byContradiction
          intro hc
          rw [glueF_er _ hc] at h
          exact hc h
        obtain ⟨l, r, k, h1, h2, h3, h4, h5, h6⟩ := fed_is n (B.drop p) (learnD d v) (learnD_ok hd hv) he
        refine ⟨v :: l, r, k, by rw [fed_next hr, h1, glueF_ok]; rfl, by simp; omega, fun x hx => ?_, ?_, h5, h6⟩
        · rcases List.mem_cons.1 hx with rfl | hx
          · exact hv
          · exact h3 x hx
        · simp only [codesD]
          rw [List.append_assoc, ← h4, ← hm]
          unfold midB
          rw [List.drop_zero, Nat.sub_zero, List.take_append_drop]
      · rw [fed_er hr h24 h0] at h; exact absurd h h0
theorem fed_no : ∀ (n : Nat) (B : List Bool) (d : Du), d.ok → (fed n B d).e ≠ 0 → (fed n B d = fedE 12 ∨ fed n B d = fedE 38)
  | 0, B, d, _, h => by
    by_cases h8 : 8 ≤ B.length
    · exact .inr (fed_more d h8)
    · rw [fed_none d (by omega)] at h; exact absurd rfl h
  | n + 1, B, d, hd, h => by
    obtain ⟨v, p, er, hr⟩ : ∃ v p er, readD B 0 d = (v, p, er) := ⟨_, _, _, rfl⟩
    by_cases h24 : er = 24
    · subst h24
      rw [fed_wait hr] at h; exact absurd rfl h
    · by_cases h0 : er = 0
      · subst h0
        obtain ⟨hv, hp, hpB, hm⟩ := dual_is hr (Nat.zero_le _) hd.1 hd.2.1
        rw [fed_next hr] at h ⊢
        have he : (fed n (B.drop p) (learnD d v)).e ≠ 0 := by
          intro hc
          rcases hf : fed n (B.drop p) (learnD d v) with ⟨x, r, k, d', e⟩
          rw [hf] at h hc
          obtain rfl : e = 0 := hc
          rw [glueF_ok] at h
          exact h rfl
        rcases fed_no n (B.drop p) (learnD d v) (learnD_ok hd hv) he with h1 | h1
        · left; rw [h1, glueF_E _ (by decide)]
        · right; rw [h1, glueF_E _ (by decide)]
      · obtain ⟨-, -, h3⟩ := dual_no hr h0 hd.1 hd.2.1
        left; rw [fed_er hr h24 h0]; congr 1; omega
/-- pieces do not matter -/
theorem fed_pieces : ∀ (n : Nat) (B C : List Bool) (d : Du), d.ok → fed n (B ++ C) d = if (fed n B d).e ≠ 0 then fed n B d else glueF (fed n B d).l (fed (fed n B d).n ((fed n B d).r ++ C) (fed n B d).d)
  | 0, B, C, d, _ => by
    by_cases h8 : 8 ≤ B.length
    · rw [fed_more d h8, fed_more d (by rw [List.length_append]; omega)]; rfl
    · rw [fed_none (B := B) d (by omega)]
      simp only
      rw [if_neg (fun h => h rfl)]
      by_cases h2 : 8 ≤ (B ++ C).length
      · rw [fed_more d h2, glueF_E _ (by decide)]
      · rw [fed_none d (by omega), glueF_ok, List.nil_append]
  | n + 1, B, C, d, hd => by
    obtain ⟨v, p, er, hr⟩ : ∃ v p er, readD B 0 d = (v, p, er) := ⟨_, _, _, rfl⟩
    by_cases h24 : er = 24
    · subst h24
      rw [fed_wait hr]
      simp only
      rw [if_neg (fun h => h rfl)]
      by_cases hc : (fed (n + 1) (B ++ C) d).e = 0
      · rw [glueF_nil hc]
      · rcases fed_no _ _ _ hd hc with h | h <;> rw [h, glueF_E _ (by decide)]
    · by_cases h0 : er = 0
      · subst h0
        obtain ⟨hv, hp, hpB, hm⟩ := dual_is hr (Nat.zero_le _) hd.1 hd.2.1
        have h2 := dual_more hr (Nat.zero_le _) hd.1 hd.2.1 C
        have ih := fed_pieces n (B.drop p) C (learnD d v) (learnD_ok hd hv)
        rw [fed_next h2, fed_next hr, List.drop_append_of_le_length hpB, ih]
        by_cases he : (fed n (B.drop p) (learnD d v)).e = 0
        · obtain ⟨l, r, k, h1, -⟩ := fed_is n (B.drop p) (learnD d v) (learnD_ok hd hv) he
          rw [h1, glueF_ok]
          simp only
          rw [if_neg (fun h => h rfl), if_neg (fun h => h rfl), glueF_glue]
        · rw [if_pos he]
          rcases fed_no n (B.drop p) (learnD d v) (learnD_ok hd hv) he with h | h <;> rw [h, glueF_E _ (by decide)] <;> rfl
      · rw [fed_er hr h24 h0, fed_er (dual_form hr h0 h24 (Nat.zero_le _) hd C) h24 h0, if_pos (show (fedE er).e ≠ 0 from h0)]
/-- codes ahead of other bits -/
theorem fed_codes : ∀ (l : List Nat) (k : Nat) (C : List Bool) (d : Du), (∀ x ∈ l, x < 4294967296) → d.ok → fed (l.length + k) (codesD d l ++ C) d = (if (fed k C (after d l)).e ≠ 0 then fed k C (after d l) else glueF l (fed k C (after d l)))
  | [], k, C, d, _, hd => by
    rw [List.length_nil, Nat.zero_add]
    show fed k C d = if (fed k C d).e ≠ 0 then fed k C d else glueF [] (fed k C d)
    by_cases hc : (fed k C d).e = 0
    · rw [if_neg (fun h => h hc), glueF_nil hc]
    · rw [if_pos hc]
  | v :: l, k, C, d, h, hd => by
    have hv := h v (List.mem_cons_self ..)
    have e : codesD d (v :: l) ++ C = [] ++ dualB d v ++ (codesD (learnD d v) l ++ C) := by simp [codesD]
    have h1 := read_dual [] (codesD (learnD d v) l ++ C) hv (d := d)
    rw [← e, List.length_nil, Nat.zero_add] at h1
    have ih := fed_codes l k C (learnD d v) (fun x hx => h x (List.mem_cons_of_mem _ hx)) (learnD_ok hd hv)
    have hdrop : (codesD d (v :: l) ++ C).drop (dualLen d v) = codesD (learnD d v) l ++ C := by
      simp only [codesD]
      rw [List.append_assoc, ← dualB_len d v, List.drop_left]
    rw [show (v :: l).length + k = (l.length + k) + 1 by simp; omega, fed_next h1, hdrop, ih]
    show glueF [v] (if (fed k C (after (learnD d v) l)).e ≠ 0 then _ else _) = if (fed k C (after (learnD d v) l)).e ≠ 0 then _ else _
    by_cases hc : (fed k C (after (learnD d v) l)).e = 0
    · rw [if_neg (fun h => h hc), if_neg (fun h => h hc), glueF_glue]; rfl
    · rw [if_pos hc, if_pos hc]
      have hok : (after (learnD d v) l).ok := after_ok l (learnD_ok hd hv) fun x hx => h x (List.mem_cons_of_mem _ hx)
      rcases fed_no _ _ _ hok hc with h' | h' <;> (rw [h', glueF_E _ (by decide)]; exact h'.symm)

/-! ### the bits of bytes -/
def bytesB : List Nat → List Bool
  | [] => []
  | v :: l => numB v 8 ++ bytesB l
theorem bytesB_append : ∀ (l m : List Nat), bytesB (l ++ m) = bytesB l ++ bytesB m
  | [], m => rfl
  | v :: l, m => by
    show numB v 8 ++ bytesB (l ++ m) = numB v 8 ++ bytesB l ++ bytesB m
    rw [bytesB_append l m, List.append_assoc]
theorem bytesB_len : ∀ (l : List Nat), (bytesB l).length = 8 * l.length
  | [] => rfl
  | v :: l => by
    show (numB v 8 ++ bytesB l).length = 8 * (l.length + 1)
    rw [List.length_append, numB_len, bytesB_len l]; omega
theorem bytesB_take_succ (l : List Nat) {k : Nat} (h : k < l.length) : bytesB (l.take (k + 1)) = bytesB (l.take k) ++ numB (l.getD k 0) 8 := by
  have e : l.take (k + 1) = l.take k ++ [l.getD k 0] := by
    rw [List.take_succ_eq_append_getElem h]; simp [List.getD, h]
  rw [e, bytesB_append]; simp [bytesB]
theorem numB_get (v : Nat) {n i : Nat} (h : i < n) : (numB v n).getD i false = (v / 2 ^ i % 2 == 1) := by
  simp [numB, List.getD, h]
theorem bytesB_get : ∀ (l : List Nat) (i : Nat), i < 8 * l.length → (bytesB l).getD i false = (l.getD (i / 8) 0 / 2 ^ (i % 8) % 2 == 1)
  | [], i, h => by simp at h
  | v :: l, i, h => by
    show (numB v 8 ++ bytesB l).getD i false = _
    by_cases h8 : i < 8
    · rw [getD_ahead _ _ (by rw [numB_len]; exact h8), numB_get v h8, Nat.div_eq_of_lt h8, Nat.mod_eq_of_lt h8]; rfl
    · have e := getD_behind (numB v 8) (bytesB l) (i - 8)
      rw [numB_len, show 8 + (i - 8) = i by omega] at e
      rw [e, bytesB_get l (i - 8) (by simp at h; omega)]
      rw [show i / 8 = (i - 8) / 8 + 1 by omega, show i % 8 = (i - 8) % 8 by omega]; rfl
theorem pack_bytes {l : List Nat} (h : ∀ x ∈ l, x < 256) : pack (bytesB l) = l.map Int.ofNat := by
  have e : bytesB l = unpack (l.map Int.ofNat) (8 * l.length) := by
    apply ext_getD
    · rw [bytesB_len, unpack_len]
    · intro i hi
      rw [bytesB_len] at hi
      rw [bytesB_get l i hi, unpack_getD _ _ _ hi]
      unfold bit
      have e : ((l.map Int.ofNat).getD (i / 8) 0).toNat = l.getD (i / 8) 0 := by
        have hj : i / 8 < l.length := by omega
        simp [List.getD, hj]
      rw [e]
  rw [e]
  refine pack_unpack (fun x hx => ?_) (by simp; omega) fun i h1 h2 => ?_
  · obtain ⟨y, hy, rfl⟩ := List.mem_map.1 hx
    have := h y hy
    simp; omega
  · simp at h2; omega
end Cad

/- Variables that hold a state of resume: seven cells; results of functions that hand one back. -/
namespace Go.Proofs.Ytcodofmghbgoeaa
open Go.RowKit Cad

/-- a variable that holds a state of resume: its block -/
def ResAt (w : World) (x : Nat) (n a b c d : Int) (v : Value) (N : Int) : Prop := w.heap[x]? = some (.cells #[.int .i64 n, .int .i64 a, .int .i64 b, .int .u64 c, .int .u64 d, v, .int .i64 N] 29)
section
variable {w w' : World} {x : Nat} {n a b c d N : Int} {v : Value}
theorem ResAt.cells (h : ResAt w x n a b c d v N) : w.cell? ⟨x, 0, none⟩ = some (.int .i64 n) ∧ w.cell? ⟨x, 1, none⟩ = some (.int .i64 a) ∧ w.cell? ⟨x, 2, none⟩ = some (.int .i64 b) ∧ w.cell? ⟨x, 3, none⟩ = some (.int .u64 c) ∧ w.cell? ⟨x, 4, none⟩ = some (.int .u64 d) ∧ w.cell? ⟨x, 5, none⟩ = some (v) ∧ w.cell? ⟨x, 6, none⟩ = some (.int .i64 N) ∧
    w.frozen? ⟨x, 0, none⟩ = false ∧ w.frozen? ⟨x, 1, none⟩ = false ∧ w.frozen? ⟨x, 2, none⟩ = false ∧ w.frozen? ⟨x, 3, none⟩ = false ∧ w.frozen? ⟨x, 4, none⟩ = false ∧ w.frozen? ⟨x, 5, none⟩ = false ∧ w.frozen? ⟨x, 6, none⟩ = false := by
  unfold ResAt at h
  refine ⟨?_, ?_, ?_, ?_, ?_, ?_, ?_, ?_, ?_, ?_, ?_, ?_, ?_, ?_⟩
  · unfold World.cell?; rw [h]; rfl
  · unfold World.cell?; rw [h]; rfl
  · unfold World.cell?; rw [h]; rfl
  · unfold World.cell?; rw [h]; rfl
  · unfold World.cell?; rw [h]; rfl
  · unfold World.cell?; rw [h]; rfl
  · unfold World.cell?; rw [h]; rfl
  · unfold World.frozen?; rw [h]; simp
  · unfold World.frozen?; rw [h]; simp
  · unfold World.frozen?; rw [h]; simp
  · unfold World.frozen?; rw [h]; simp
  · unfold World.frozen?; rw [h]; simp
  · unfold World.frozen?; rw [h]; simp
  · unfold World.frozen?; rw [h]; simp
theorem ResAt.lt (h : ResAt w x n a b c d v N) : x < w.heap.size := by
  apply Classical.byContradiction; intro hx; unfold ResAt at h; rw [Array.getElem?_eq_none (by omega)] at h; cases h
theorem ResAt.below {B : Nat} (h : ResAt w x n a b c d v N) (hb : Below B w w') (hx : x < B) : ResAt w' x n a b c d v N := by
  unfold ResAt at h ⊢
  rw [hb.block x hx, h]
theorem ResAt.alloc (h : ResAt w x n a b c d v N) (o : Obj) : ResAt (w.alloc o) x n a b c d v N := by
  have hx := h.lt
  unfold ResAt at h ⊢
  rw [Below.heap_alloc _ _ _ hx, h]
theorem ResAt.drew (h : ResAt w x n a b c d v N) : ResAt w.drew x n a b c d v N := h
theorem ResAt.kept {base : Nat} (h : ResAt w x n a b c d v N) (k : Kept base w w') : ResAt w' x n a b c d v N := by
  have hx := h.lt
  unfold ResAt at h ⊢
  rw [k.oth x hx (fun cur fr e => by rw [h] at e; simp at e), h]
theorem ResAt.other (h : ResAt w x n a b c d v N) {p : Addr} (hp : x ≠ p.block) (u : Value) : ResAt (w.setCell p u) x n a b c d v N := by
  unfold ResAt at h ⊢
  rw [Below.heap_setCell _ _ _ _ hp, h]
theorem ResAt.set0 (h : ResAt w x n a b c d v N) (z : Int) : ResAt (w.setCell ⟨x, 0, none⟩ (.int .i64 z)) x z a b c d v N := by
  unfold ResAt at h ⊢; exact heap_setCell_same _ _ 0 _ _ _ h
theorem ResAt.set1 (h : ResAt w x n a b c d v N) (z : Int) : ResAt (w.setCell ⟨x, 1, none⟩ (.int .i64 z)) x n z b c d v N := by
  unfold ResAt at h ⊢; exact heap_setCell_same _ _ 1 _ _ _ h
theorem ResAt.set2 (h : ResAt w x n a b c d v N) (z : Int) : ResAt (w.setCell ⟨x, 2, none⟩ (.int .i64 z)) x n a z c d v N := by
  unfold ResAt at h ⊢; exact heap_setCell_same _ _ 2 _ _ _ h
theorem ResAt.set3 (h : ResAt w x n a b c d v N) (z : Int) : ResAt (w.setCell ⟨x, 3, none⟩ (.int .u64 z)) x n a b z d v N := by
  unfold ResAt at h ⊢; exact heap_setCell_same _ _ 3 _ _ _ h
theorem ResAt.set4 (h : ResAt w x n a b c d v N) (z : Int) : ResAt (w.setCell ⟨x, 4, none⟩ (.int .u64 z)) x n a b c z v N := by
  unfold ResAt at h ⊢; exact heap_setCell_same _ _ 4 _ _ _ h
theorem ResAt.set5 (h : ResAt w x n a b c d v N) (z : Value) : ResAt (w.setCell ⟨x, 5, none⟩ (z)) x n a b c d z N := by
  unfold ResAt at h ⊢; exact heap_setCell_same _ _ 5 _ _ _ h
theorem ResAt.set6 (h : ResAt w x n a b c d v N) (z : Int) : ResAt (w.setCell ⟨x, 6, none⟩ (.int .i64 z)) x n a b c d v z := by
  unfold ResAt at h ⊢; exact heap_setCell_same _ _ 6 _ _ _ h
/-- the state of the code is written -/
theorem ResAt.setD (h : ResAt w x n a b c d v N) (i j k l : Int) : ResAt ((((w.setCell ⟨x, 1, none⟩ (.int .i64 i)).setCell ⟨x, 2, none⟩ (.int .i64 j)).setCell ⟨x, 3, none⟩ (.int .u64 k)).setCell ⟨x, 4, none⟩ (.int .u64 l)) x n i j k l v N :=
  (((h.set1 i).set2 j).set3 k).set4 l
/-- the bits are written -/
theorem ResAt.setB (h : ResAt w x n a b c d v N) (z : Value) (M : Int) : ResAt ((w.setCell ⟨x, 5, none⟩ (z)).setCell ⟨x, 6, none⟩ (.int .i64 M)) x n a b c d z M :=
  (h.set5 z).set6 M
/-- all is written -/
theorem ResAt.set (h : ResAt w x n a b c d v N) (m i j k l : Int) (z : Value) (M : Int) : ResAt (((((((w.setCell ⟨x, 0, none⟩ (.int .i64 m)).setCell ⟨x, 1, none⟩ (.int .i64 i)).setCell ⟨x, 2, none⟩ (.int .i64 j)).setCell ⟨x, 3, none⟩ (.int .u64 k)).setCell ⟨x, 4, none⟩ (.int .u64 l)).setCell ⟨x, 5, none⟩ (z)).setCell ⟨x, 6, none⟩ (.int .i64 M)) x m i j k l z M :=
  ((((((h.set0 m).set1 i).set2 j).set3 k).set4 l).set5 z).set6 M
theorem below7 {p B : Nat} {W : World} {m i j k l M : Int} {z : Value} (h : Below B W w) (hp : B ≤ p) : Below B W (((((((w.setCell ⟨p, 0, none⟩ (.int .i64 m)).setCell ⟨p, 1, none⟩ (.int .i64 i)).setCell ⟨p, 2, none⟩ (.int .i64 j)).setCell ⟨p, 3, none⟩ (.int .u64 k)).setCell ⟨p, 4, none⟩ (.int .u64 l)).setCell ⟨p, 5, none⟩ (z)).setCell ⟨p, 6, none⟩ (.int .i64 M)) :=
  ((((((h.setCell hp _).setCell hp _).setCell hp _).setCell hp _).setCell hp _).setCell hp _).setCell hp _
theorem ResAt.apart (h : ResAt w x n a b c d v N) {E : TypeId} (hE : E ≠ 29) {base m : Nat} {v' : Value} {xs : List Value} (ho : w.ownsRow base E 1 v' m xs) : ∀ g, v'.ownBlock = some g → g ≠ x := by
  intro g e
  rcases ho.2 with ⟨rfl, _⟩ | ⟨g', cap, cur, rfl, _, hh, _⟩
  · cases e
  · cases e
    rintro rfl
    unfold ResAt at h
    rw [h] at hh
    simp only [Option.some.injEq, Obj.cells.injEq] at hh
    exact hE hh.2.1.symm
/-- bytes and numbers stay where a state is written -/
theorem Row.boxR {k : IntKind} {aa : Option Addr} {len cap : Nat} {l : List Int} (hk : k = .u8 ∨ k = .u32) (h : Row k w aa len cap l) (hx : ∃ n a b c d al m e N, ResAt w x n a b c d (.slice al m e) N) (o : Nat) (u : Value) : Row k (w.setCell ⟨x, o, none⟩ u) aa len cap l := by
  obtain ⟨n, a, b, c, d, al, m, e, N, hx⟩ := hx
  refine ⟨h.hlen, h.hcap, h.hmax, h.wf, fun hp => ?_, h.nil⟩
  obtain ⟨b', off, rfl, hlt, hc⟩ := h.cells hp
  have hne : b' ≠ x := by
    rintro rfl
    have h0 := hc 0 hp
    unfold World.cell? at h0
    unfold ResAt at hx
    rw [hx] at h0
    rcases hk with rfl | rfl <;>
    match off, h0 with
    | 0, h0 => simp at h0
    | 1, h0 => simp at h0
    | 2, h0 => simp at h0
    | 3, h0 => simp at h0
    | 4, h0 => simp at h0
    | 5, h0 => simp at h0
    | 6, h0 => simp at h0
    | off + 7, h0 => simp at h0
  refine ⟨b', off, rfl, by simpa using hlt, fun i hi => ?_⟩
  rw [← hc i hi]
  unfold World.cell?
  rw [Below.heap_setCell _ _ _ _ (by simpa using hne)]
theorem rows7 {k : IntKind} {aa : Option Addr} {len cap : Nat} {z : List Int} (hk : k = .u8 ∨ k = .u32) (h : Row k w aa len cap z) {al : Option Addr} {q e : Nat} (hx : ResAt w x n a b c d (.slice al q e) N) {m i j k' l M : Int} {al' : Option Addr} {q' e' : Nat} : Row k (((((((w.setCell ⟨x, 0, none⟩ (.int .i64 m)).setCell ⟨x, 1, none⟩ (.int .i64 i)).setCell ⟨x, 2, none⟩ (.int .i64 j)).setCell ⟨x, 3, none⟩ (.int .u64 k')).setCell ⟨x, 4, none⟩ (.int .u64 l)).setCell ⟨x, 5, none⟩ (.slice al' q' e')).setCell ⟨x, 6, none⟩ (.int .i64 M)) aa len cap z := by
  have r0 := Row.boxR hk h ⟨_, _, _, _, _, _, _, _, _, hx⟩ 0 (.int .i64 m)
  have x0 := hx.set0 m
  have r1 := Row.boxR hk r0 ⟨_, _, _, _, _, _, _, _, _, x0⟩ 1 (.int .i64 i)
  have x1 := x0.set1 i
  have r2 := Row.boxR hk r1 ⟨_, _, _, _, _, _, _, _, _, x1⟩ 2 (.int .i64 j)
  have x2 := x1.set2 j
  have r3 := Row.boxR hk r2 ⟨_, _, _, _, _, _, _, _, _, x2⟩ 3 (.int .u64 k')
  have x3 := x2.set3 k'
  have r4 := Row.boxR hk r3 ⟨_, _, _, _, _, _, _, _, _, x3⟩ 4 (.int .u64 l)
  have x4 := x3.set4 l
  have r5 := Row.boxR hk r4 ⟨_, _, _, _, _, _, _, _, _, x4⟩ 5 (.slice al' q' e')
  have x5 := x4.set5 (.slice al' q' e')
  exact Row.boxR hk r5 ⟨_, _, _, _, _, _, _, _, _, x5⟩ 6 (.int .i64 M)
end
theorem resat1 (W : World) (n a b c d : Int) (v : Value) (N : Int) : ResAt (W.alloc (.cells #[.int .i64 n, .int .i64 a, .int .i64 b, .int .u64 c, .int .u64 d, v, .int .i64 N] 29)) W.heap.size n a b c d v N := heap_alloc_new _ _
theorem resat2 (w : World) (o : Obj) (n a b c d : Int) (v : Value) (N : Int) : ResAt ((w.alloc o).alloc (.cells #[.int .i64 n, .int .i64 a, .int .i64 b, .int .u64 c, .int .u64 d, v, .int .i64 N] 29)) (w.heap.size + 1) n a b c d v N := by
  unfold ResAt; rw [heap_alloc2_new]
/-- a state that comes in, and one that goes out -/
theorem rr_boxes (W : World) (n a b c d : Int) (v : Value) (N : Int) : ∃ W0, W0 = (W.alloc (.cells #[.int .i64 n, .int .i64 a, .int .i64 b, .int .u64 c, .int .u64 d, v, .int .i64 N] 29)).alloc (.cells #[.int .i64 0, .int .i64 0, .int .i64 0, .int .u64 0, .int .u64 0, .slice none 0 0, .int .i64 0] 29) ∧ Below W.heap.size W W0 ∧ W0.heap.size = W.heap.size + 1 + 1 ∧
    ResAt W0 W.heap.size n a b c d v N ∧ ResAt W0 (W.heap.size + 1) 0 0 0 0 0 (.slice none 0 0) 0 :=
  ⟨_, rfl, ((Below.refl W.heap.size W).alloc (Nat.le_refl _) _).alloc (by simp) _, by simp, (resat1 W n a b c d v N).alloc _, resat2 W _ 0 0 0 0 0 _ 0⟩
theorem two_res (W : World) (n a b c d : Int) (v : Value) (N : Int) (n' a' b' c' d' : Int) (v' : Value) (N' : Int) : ∃ W0, W0 = (W.alloc (.cells #[.int .i64 n, .int .i64 a, .int .i64 b, .int .u64 c, .int .u64 d, v, .int .i64 N] 29)).alloc (.cells #[.int .i64 n', .int .i64 a', .int .i64 b', .int .u64 c', .int .u64 d', v', .int .i64 N'] 29) ∧ Below W.heap.size W W0 ∧ W0.heap.size = W.heap.size + 1 + 1 ∧
    ResAt W0 W.heap.size n a b c d v N ∧ ResAt W0 (W.heap.size + 1) n' a' b' c' d' v' N' :=
  ⟨_, rfl, ((Below.refl W.heap.size W).alloc (Nat.le_refl _) _).alloc (by simp) _, by simp, (resat1 W n a b c d v N).alloc _, resat2 W _ n' a' b' c' d' _ N'⟩

theorem results_res_tmp {fn : Func} {p u : Tmp} (h : fn.results = #[.cell p 29, .tmp u]) (tmps : Array Value) (w : World) (x : Nat) (n a b c d : Int) (v : Value) (N : Int) (hp : tmps.getD p undef = .pointer (some ⟨x, 0, none⟩)) (hx : ResAt w x n a b c d v N) :
    (results fn tmps).run Try.prog w = .ok (.tuple #[.agg #[.int .i64 n, .int .i64 a, .int .i64 b, .int .u64 c, .int .u64 d, v, .int .i64 N], tmps.getD u undef]) w := by
  rw [results_cell_tmp h, hp]
  have := run_loadVar_row (P := Try.prog) w x _ 29 _ _ _ hx Try.underlying29 rfl (by kernel_rfl)
  simp [asAddr, Sem.run_pure, this]
theorem results_res_two {fn : Func} {p s u : Tmp} (h : fn.results = #[.cell p 29, .tmp s, .tmp u]) (tmps : Array Value) (w : World) (x : Nat) (n a b c d : Int) (v : Value) (N : Int) (hp : tmps.getD p undef = .pointer (some ⟨x, 0, none⟩)) (hx : ResAt w x n a b c d v N) :
    (results fn tmps).run Try.prog w = .ok (.tuple #[.agg #[.int .i64 n, .int .i64 a, .int .i64 b, .int .u64 c, .int .u64 d, v, .int .i64 N], tmps.getD s undef, tmps.getD u undef]) w := by
  have h1 := run_loadVar_row (P := Try.prog) w x _ 29 _ _ _ hx Try.underlying29 rfl (by kernel_rfl)
  have hp' : tmps[p]?.getD undef = .pointer (some ⟨x, 0, none⟩) := by simpa using hp
  simp [results, h, hp', asAddr, h1]
end Go.Proofs.Ytcodofmghbgoeaa

/- Contracts of the reference of coder: comparisons, the code of numbers. -/
namespace Go.Proofs.Ytcodofmghbgoeaa
open Go.RowKit Cad

theorem CSame_ok (W : World) (a : Option Addr) (len cap : Nat) (l : List Int) (hr : Row .u32 W a len cap l) (a' : Option Addr) (len' cap' : Nat) (l' : List Int) (hr' : Row .u32 W a' len' cap' l') :
    Calls Try.prog 13 #[.slice a len cap, .slice a' len' cap'] W fun e W' => e = .returned (.bool (decide (l = l'))) ∧ Below W.heap.size W W' := by
  have hmx := Nat.le_trans hr.hcap hr.hmax
  have hmx' := Nat.le_trans hr'.hcap hr'.hmax
  unfold maxLen at hmx hmx'
  have hln := Go.Lib.hid hr.hlen
  have hln' := Go.Lib.hid hr'.hlen
  have hR := Go.Lib.hid hr
  have hR' := Go.Lib.hid hr'
  clear hr hr'
  by_cases hne : len = len'
  · subst hne
    go_enter Try.func13, Try.ntmps13
    go_wp2
    go_loopw [5] (fun i wr => ∃ k : Nat, k ≤ len ∧ i = .int .i64 k ∧ Hid (l.take k = l'.take k) ∧ Below W.heap.size W wr) (fun i _ => len - (intOf i).toNat)
    case atStart => exact ⟨0, by omega, rfl, Go.Lib.hid rfl, Below.refl _ _⟩
    case round =>
      obtain ⟨k, hk, rfl, hpre, hb⟩ := hrel
      by_cases hlt : k < len
      · obtain ⟨b, off, rfl, hbl, hc⟩ := (hR.out.below hb (Nat.le_refl _)).cells (by omega)
        obtain ⟨b', off', rfl, hbl', hc'⟩ := (hR'.out.below hb (Nat.le_refl _)).cells (by omega)
        have hcell := hc k hlt
        have hcell' := hc' k hlt
        obtain ⟨x, hx⟩ : ∃ x, x = l.getD k 0 := ⟨_, rfl⟩
        obtain ⟨y, hy⟩ : ∃ y, y = l'.getD k 0 := ⟨_, rfl⟩
        rw [← hx] at hcell
        rw [← hy] at hcell'
        have hX := Go.Lib.hid hx
        have hY := Go.Lib.hid hy
        clear hc hc' hx hy
        by_cases he : x = y
        · subst he
          have hnext := Go.Lib.hid (take_next hpre.out (by rw [hln.out]; exact hlt) (by rw [hln'.out]; exact hlt) (hX.out.symm.trans hY.out))
          go_wp2
          go_quiet (fail)
          go_wp2
          go_roundw
          case rel => exact ⟨k + 1, by omega, by go_num, hnext, Below.drewN hb _⟩
          case measure => (simp [intOf] <;> omega)
        · have hneq : Hid (l ≠ l') := Go.Lib.hid fun e => he (by rw [hX.out, hY.out, e])
          go_wp2
          go_quiet (fail)
          go_wp2
          go_ret
          exact ⟨ret_bool (decide_eq_false hneq.out).symm, Below.drewN hb _⟩
      · obtain rfl : k = len := by omega
        have heq : Hid (l = l') := Go.Lib.hid (by
          have := hpre.out
          rwa [List.take_of_length_le (by rw [hln.out]; exact Nat.le_refl _), List.take_of_length_le (by rw [hln'.out]; exact Nat.le_refl _)] at this)
        go_wp2
        go_ret
        exact ⟨ret_bool (decide_eq_true heq.out).symm, hb⟩
  · have hneq : Hid (l ≠ l') := Go.Lib.hid fun e => hne (by rw [← hln.out, ← hln'.out, e])
    go_enter Try.func13, Try.ntmps13
    go_wp2
    go_ret
    exact ⟨ret_bool (decide_eq_false hneq.out).symm, Below.refl _ _⟩

theorem results_bits_du {fn : Func} {p q : Tmp} (h : fn.results = #[.cell p 27, .cell q 24]) (tmps : Array Value) (w : World) (x y : Nat) (v : Value) (N a b c d : Int) (hp : tmps.getD p undef = .pointer (some ⟨x, 0, none⟩)) (hq : tmps.getD q undef = .pointer (some ⟨y, 0, none⟩)) (hx : BoxAt w x v N) (hy : DuAt w y a b c d) :
    (results fn tmps).run Try.prog w = .ok (.tuple #[.agg #[v, .int .i64 N], .agg #[.int .i64 a, .int .i64 b, .int .u64 c, .int .u64 d]]) w := by
  have h1 := run_loadVar_row (P := Try.prog) w x _ 27 _ _ _ hx Try.underlying27 rfl (by kernel_rfl)
  have h2 := run_loadVar_row (P := Try.prog) w y _ 24 _ _ _ hy Try.underlying24 rfl (by kernel_rfl)
  have hp' : tmps[p]?.getD undef = .pointer (some ⟨x, 0, none⟩) := by simpa using hp
  have hq' : tmps[q]?.getD undef = .pointer (some ⟨y, 0, none⟩) := by simpa using hq
  simp [results, h, hp', hq', asAddr, Sem.run_bind, h1, h2]

end Go.Proofs.Ytcodofmghbgoeaa

/- Contracts of the reference of coder: Encode and After. -/
namespace Go.Proofs.Ytcodofmghbgoeaa
open Go.RowKit Cad

end Go.Proofs.Ytcodofmghbgoeaa

/- Contracts of the reference of coder: Decode. -/
namespace Go.Proofs.Ytcodofmghbgoeaa
open Go.RowKit Cad

theorem own_setG {w : World} {x : Nat} {base n e : Nat} {v' : Value} {xs : List Value} (ho : w.ownsRow base e 1 v' n xs) (ha : ∀ g, v'.ownBlock = some g → g ≠ x) (o : Nat) (u : Value) : (w.setCell ⟨x, o, none⟩ u).ownsRow base e 1 v' n xs :=
  own_congr ho fun g e => by rw [Below.heap_setCell _ _ _ _ (ha g e)]
theorem natsU (l : List Nat) (h : ∀ x ∈ l, x < 4294967296) : ∀ x ∈ l.map Int.ofNat, (Lit.int .u32 x).wf = true := fun x hx => by
  obtain ⟨y, hy, rfl⟩ := List.mem_map.1 hx
  have := h y hy
  exact WalkArith.wf_u32 ⟨by simp, by simp; omega⟩
theorem RdGot_any (W : World) (aa : Option Addr) (len cap : Nat) (B : List Bool) (i : Nat) (D : Du) (hr : Row .u8 W aa len cap (pack B)) (hB : B.length ≤ 330000) (hd : D.ok) (v p er : Nat) (hv : readD B i D = (v, p, er)) :
    Calls Try.prog 35 #[.agg #[.slice aa len cap, .int .i64 B.length], .int .i64 i, .agg #[.int .i64 D.k0, .int .i64 D.k1, .int .u64 D.s0, .int .u64 D.s1]] W fun e W' => e = .returned (.tuple #[.int .u32 v, .int .i64 p, .int .i64 er]) ∧ Below W.heap.size W W' := by
  by_cases h : i < B.length
  · exact RdGot_in W aa len cap B i D hr hB h hd v p er hv
  · rw [readD_end D (by omega)] at hv; cases hv
    exact RdGot_end W aa len cap _ _ _ _ _ _ (by omega)

end Go.Proofs.Ytcodofmghbgoeaa
