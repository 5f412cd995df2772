/- Texts of the proof, one behind the other: ResW, ResV, ResY. -/
import Derived.Test.YtcodofmghbgoeaaZ10
import Derived.Deep.DeepCutAuto
/- Contracts of the statements' helpers: cut. -/
namespace Go.Proofs.Ytcodofmghbgoeaa
open Go.RowKit Cad

/-- an element type that is a slice -/
structure ElemS (P : Program) (T E : TypeId) : Prop where
  sl : P.underlying T = some (.slice E)
  info : (P.info? E).map (fun i => (i.zero, i.size, i.bytes)) = some (some (.slice none 0 0), 1, 24)
theorem elBB : ElemS Try.prog 51 25 := ⟨Try.underlying51, by kernel_rfl⟩
section
variable {P : Program} {T E : TypeId} (he : ElemS P T E) (w : World) {ops : Array Oper} {rest : List Oper} {o : Oper} {a : Act} {Q : Exit → Act → World → Prop} (hg : o.guard = none)
include he hg
/-- append(s, x): one slice -/
theorem law_appendS1 (s x : Operand) (hop : o.op = Op.call { callee := Callee.builtin Builtin.append, args := #[s, x], argTypes := #[T, T] }) (base : Nat) (v : Value) (n : Nat) (vs : List Value) (hs : a.eval s = v)
    (hown : w.ownsRow base E 1 v n vs) (xa : Option Addr) (xn xc : Nat) (hx : a.eval x = .slice (some ⟨w.heap.size, 0, none⟩) 1 1) (hn : n < 1000000000) (hbase : base ≤ w.heap.size)
    (hK : ∀ v' w', w'.ownsRow base E 1 v' (n + 1) (vs ++ [.slice xa xn xc]) → Below base w w' → wpList P ops Q rest (a.put o.dst v') w') :
    wpList P ops Q (o :: rest) a (w.alloc (.cells #[.slice xa xn xc] E)) := by
  obtain ⟨sl, info⟩ := he
  cases hi : P.info? E with
  | none => rw [hi] at info; cases info
  | some i0 =>
    rw [hi] at info
    simp only [Option.map_some, Option.some.injEq, Prod.mk.injEq] at info
    obtain ⟨hz0, hz1, hz2⟩ := info
    refine wpList_append_own (w.alloc (.cells #[.slice xa xn xc] E)) hg s x T hop base E i0 (.slice none 0 0) 1 24 sl hi hz0 hz1 hz2 rfl (by decide) v n vs hs (hown.alloc _) ⟨w.heap.size, 0, none⟩ 1 1 [.slice xa xn xc] hx (by simp) (fun j u hj => ?_) (fun u hu => ?_) (by unfold maxLen; omega) (by omega) (by simp; omega) fun v' w' h1 h2 _ => hK v' w' h1 ?_
    · have hj0 : j = 0 := by
        apply Classical.byContradiction; intro h
        rw [List.getElem?_eq_none (by simp; omega)] at hj; cases hj
      subst hj0
      simp only [List.getElem?_cons_zero, Option.some.injEq] at hj
      subst hj
      have e : (⟨w.heap.size, 0, none⟩ : Addr).add 0 = ⟨w.heap.size, 0, none⟩ := by simp [Addr.add]
      rw [e]
      unfold World.cell?
      rw [heap_alloc_new]
      rfl
    · rw [List.mem_singleton] at hu; subst hu; rfl
    · exact ((Below.refl base w).alloc hbase _).grown h2 (by simp; omega) fun g hgg => by
        have := ((hown.alloc (.cells #[.slice xa xn xc] E)).lt g hgg).1
        exact this
end
theorem Pieces.snoc {w : World} {vs : List Value} {ps : List (List Nat)} (h : Pieces w vs ps) {a : Option Addr} {n c : Nat} {p : List Nat} (hn : p.length = n) (hr : Row .u8 w a n c (p.map Int.ofNat)) (h256 : ∀ x ∈ p, x < 256) : Pieces w (vs ++ [.slice a n c]) (ps ++ [p]) := by
  subst hn
  refine ⟨by simp [h.len], fun i hi => ?_⟩
  by_cases hlt : i < ps.length
  · obtain ⟨a', c', h1, h2, h3⟩ := h.at_ i hlt
    have e1 : (vs ++ [Value.slice a p.length c]).getD i undef = vs.getD i undef := by simp [List.getD, List.getElem?_append_left (show i < vs.length by rw [h.len]; exact hlt)]
    have e2 : (ps ++ [p]).getD i [] = ps.getD i [] := by simp [List.getD, List.getElem?_append_left hlt]
    rw [e1, e2]
    exact ⟨a', c', h1, h2, h3⟩
  · have hi' : i = ps.length := by simp at hi; omega
    have e1 : (vs ++ [Value.slice a p.length c]).getD i undef = .slice a p.length c := by rw [hi', ← h.len]; simp [List.getD]
    have e2 : (ps ++ [p]).getD i [] = p := by rw [hi']; simp [List.getD]
    rw [e1, e2]
    exact ⟨a, c, rfl, hr, h256⟩

theorem isRow_form {k : IntKind} {w : World} {a : Option Addr} {len cap : Nat} {zs : List Int} (h : IsRow k w a len cap zs) : a = none ∨ (∃ pb po, a = some ⟨pb, po, none⟩) ∨ cap = 0 := by
  rcases h with ⟨rfl, -, -, -⟩ | ⟨x, rfl, h1, h2, h3, h4, h5⟩
  · exact .inl rfl
  · by_cases h0 : cap = 0
    · exact .inr (.inr h0)
    · obtain ⟨b, off, spot⟩ := x
      have hc := h4 0 (by omega)
      have hspot : spot = none := by simpa [Addr.add] using World.cell?_spot hc
      subst hspot
      exact .inr (.inl ⟨b, off, rfl⟩)
theorem row_some (k : IntKind) (w : World) (b o cap : Nat) (h : cap ≤ maxLen) : Row k w (some ⟨b, o, none⟩) 0 cap [] := ⟨rfl, Nat.zero_le _, h, by simp, fun h => absurd h (by omega), fun h => by cases h⟩
theorem row_zero (k : IntKind) (w : World) (a : Option Addr) : Row k w a 0 0 [] := ⟨rfl, Nat.le_refl _, by unfold maxLen; omega, by simp, fun h => absurd h (by omega), fun _ => rfl⟩

set_option maxRecDepth 100000 in
set_option maxHeartbeats 4000000 in
theorem cut_ok (W : World) (ab : Option Addr) (nb cb : Nat) (bl : List Nat) (sa : Option Addr) (ns cs : Nat) (zs : List Int) (hab : ab = none ∨ (∃ pb po, ab = some ⟨pb, po, none⟩) ∨ cb = 0) (hb : Row .u8 W ab nb cb (bl.map Int.ofNat)) (hbl : bl.length = nb) (h256 : ∀ x ∈ bl, x < 256) (hnb : nb ≤ 41000) (hs : Row .i64 W sa ns cs zs) (hns : ns ≤ 1000000) :
    Calls Try.prog 21 #[.slice ab nb cb, .slice sa ns cs] W fun e W' => ∃ a c vs ps, e = .returned (.slice a (ns + 1) c) ∧ SRow W' a (ns + 1) c vs ∧ Pieces W' vs ps ∧ ps.flatten = bl ∧ (∀ p ∈ ps, p.length ≤ nb) ∧ Below W.heap.size W W' := by
  have hs' := Go.Lib.hid hs
  have hab' := Go.Lib.hid hab
  have hb' := Go.Lib.hid hb
  have h256' := Go.Lib.hid h256
  have hbl' := Go.Lib.hid hbl
  have hnI : (ns : Int) ≤ 1000000 := by omega
  clear hs hb h256 hbl hab
  go_enter Try.func21, Try.ntmps21
  go_wp2
  go_loopg [0, 5, 6] ns (fun g b out i wr => ∃ (k n' c' : Nat) (a' : Option Addr) (v : Value) (vs : List Value) (ps : List (List Nat)) (rest : List Nat), k ≤ ns ∧ g = ns - k ∧ i = .int .i64 k ∧ b = .slice a' n' c' ∧ out = v ∧ (a' = none ∨ (∃ pb po, a' = some ⟨pb, po, none⟩) ∨ c' = 0) ∧ Row .u8 W a' n' c' (rest.map Int.ofNat) ∧ rest.length = n' ∧ n' ≤ nb ∧ ps.flatten ++ rest = bl ∧ (∀ p ∈ ps, p.length ≤ nb) ∧ (∀ x ∈ rest, x < 256) ∧ Pieces W vs ps ∧
    wr.ownsRow W.heap.size 25 1 v k vs ∧ Below W.heap.size W wr)
  case atStart => exact ⟨0, nb, cb, ab, .slice none 0 0, [], [], bl, Nat.zero_le _, rfl, rfl, rfl, rfl, hab'.out, hb'.out, hbl'.out, Nat.le_refl _, by simp, fun p hp => (by cases hp), h256'.out, ⟨rfl, fun i hi => (by simp at hi)⟩, World.ownsRow_nil _ _ _ _, Below.refl _ _⟩
  case round =>
  obtain ⟨k, n', c', a', v, vs, ps, rest, hk, hg, rfl, rfl, rfl, hptr, hr, hrl, hnn, hfl, hpl, hr256, hP, ho, hB⟩ := hrel
  obtain ⟨av, cv, rfl⟩ := own_form ho
  have hgo := Go.Lib.hid hg
  have hr' := Go.Lib.hid hr
  have hrl' := Go.Lib.hid hrl
  have hfl' := Go.Lib.hid hfl
  have hpl' := Go.Lib.hid hpl
  have h2' := Go.Lib.hid hr256
  have hP' := Go.Lib.hid hP
  have hB' := Go.Lib.hid hB
  have ho' := Go.Lib.hid ho
  have hcap := hr.hcap
  have hmx := hr.hmax
  clear hg hr hrl hfl hpl hr256 hP hB ho
  have hnI' : (n' : Int) ≤ 41000 := by omega
  by_cases hlt : k < ns
  · have hlt' : (k : Int) < ns := by omega
    obtain ⟨sb, so, rfl, hsl, hc⟩ := (hs'.out.below hB'.out (Nat.le_refl _)).cells (by omega)
    have hcell := hc k hlt
    obtain ⟨z, hz⟩ : ∃ z, z = zs.getD k 0 := ⟨_, rfl⟩
    rw [← hz] at hcell
    clear hc hz
    by_cases hn0 : n' = 0
    · -- nothing is left
      replace hptr : a' = none ∨ (∃ pb po, a' = some ⟨pb, po, none⟩ ∧ c' ≠ 0) ∨ (∃ xa, a' = some xa ∧ c' = 0) := by
        cases a' with
        | none => exact .inl rfl
        | some xa =>
          by_cases h0 : c' = 0
          · exact .inr (.inr ⟨xa, rfl, h0⟩)
          · rcases hptr with h | ⟨pb, po, h⟩ | h
            · cases h
            · exact .inr (.inl ⟨pb, po, h, h0⟩)
            · exact absurd h h0
      have hr0 : rest = [] := List.length_eq_zero_iff.1 (hrl'.out.trans hn0)
      have hr1 := Go.Lib.hid hr0
      clear hr0
      subst hn0
      have e1 : ¬ (0 : Int) < ((0 : Nat) : Int) := by simp
      by_cases hzn : z < ((0 : Nat) : Int)
      · have hz0 : ¬ (0 : Int) < z := by omega
        have hz1 : z < 0 := by simpa using hzn
        rcases hptr with rfl | ⟨pb, po, rfl, hcn⟩ | ⟨xa, rfl, hc0⟩
        · have hc0 : c' = 0 := hr'.out.nil rfl
          subst hc0
          go_wp2_with (at_builtin; refine law_appendS1 elBB _ rfl _ _ rfl W.heap.size _ k vs rfl ho'.out none 0 0 rfl (by omega) hB'.out.size ?_; intro v5 q5 o5 hb5; obtain ⟨a5, c5, rfl⟩ := own_form o5; have B5 := Go.Lib.hid (hB'.out.trans hb5); have o5' := Go.Lib.hid o5; clear o5 hb5)
          go_roundg (ns - (k + 1))
          case measure => (have hgk := hgo.out; omega)
          case rel =>
            have hrl2 := hrl'.out
            have hj : 0 ≤ rest.length := by omega
            refine ⟨k + 1, _, _, _, _, vs ++ [.slice none 0 0], ps ++ [rest.take (0)], rest.drop (0), by omega, rfl, by go_num, rfl, rfl, by first | exact .inl rfl | exact .inr (.inl ⟨_, _, rfl⟩) | exact .inr (.inr rfl), ?_, ?_, ?_, ?_, ?_, ?_, ?_, o5'.out, B5.out⟩
            · simpa using hr'.out
            · rw [List.length_drop]; omega
            · (try simp); (try omega)
            · rw [List.flatten_append, List.flatten_singleton, List.append_assoc, List.take_append_drop]; exact hfl'.out
            · intro p hp; rcases List.mem_append.1 hp with hp | hp; (· exact hpl'.out p hp); (· rw [List.mem_singleton] at hp; rw [hp, List.length_take]; omega)
            · exact fun x hx => h2'.out x (List.mem_of_mem_drop hx)
            · exact hP'.out.snoc (by rw [List.length_take]; omega) (by have h := hr'.out.take (0) (by omega); rw [map_take] at h; exact h) fun x hx => h2'.out x (List.mem_of_mem_take hx)
        · have hc1 : 0 < c' := by omega
          go_wp2_with (at_builtin; refine law_appendS1 elBB _ rfl _ _ rfl W.heap.size _ k vs rfl ho'.out (some ⟨pb, po, none⟩) 0 c' rfl (by omega) hB'.out.size ?_; intro v5 q5 o5 hb5; obtain ⟨a5, c5, rfl⟩ := own_form o5; have B5 := Go.Lib.hid (hB'.out.trans hb5); have o5' := Go.Lib.hid o5; clear o5 hb5)
          go_roundg (ns - (k + 1))
          case measure => (have hgk := hgo.out; omega)
          case rel =>
            have hrl2 := hrl'.out
            have hj : 0 ≤ rest.length := by omega
            refine ⟨k + 1, _, _, _, _, vs ++ [.slice (some ⟨pb, po, none⟩) 0 c'], ps ++ [rest.take (0)], rest.drop (0), by omega, rfl, by go_num, rfl, rfl, by first | exact .inl rfl | exact .inr (.inl ⟨_, _, rfl⟩) | exact .inr (.inr rfl), ?_, ?_, ?_, ?_, ?_, ?_, ?_, o5'.out, B5.out⟩
            · simpa using hr'.out
            · rw [List.length_drop]; omega
            · (try simp); (try omega)
            · rw [List.flatten_append, List.flatten_singleton, List.append_assoc, List.take_append_drop]; exact hfl'.out
            · intro p hp; rcases List.mem_append.1 hp with hp | hp; (· exact hpl'.out p hp); (· rw [List.mem_singleton] at hp; rw [hp, List.length_take]; omega)
            · exact fun x hx => h2'.out x (List.mem_of_mem_drop hx)
            · exact hP'.out.snoc (by rw [List.length_take]; omega) (by have h := hr'.out.take (0) (by omega); rw [map_take] at h; exact h) fun x hx => h2'.out x (List.mem_of_mem_take hx)
        · subst hc0
          go_wp2_with (at_builtin; refine law_appendS1 elBB _ rfl _ _ rfl W.heap.size _ k vs rfl ho'.out (some xa) 0 0 rfl (by omega) hB'.out.size ?_; intro v5 q5 o5 hb5; obtain ⟨a5, c5, rfl⟩ := own_form o5; have B5 := Go.Lib.hid (hB'.out.trans hb5); have o5' := Go.Lib.hid o5; clear o5 hb5)
          go_roundg (ns - (k + 1))
          case measure => (have hgk := hgo.out; omega)
          case rel =>
            have hrl2 := hrl'.out
            have hj : 0 ≤ rest.length := by omega
            refine ⟨k + 1, _, _, _, _, vs ++ [.slice (some xa) 0 0], ps ++ [rest.take (0)], rest.drop (0), by omega, rfl, by go_num, rfl, rfl, by first | exact .inl rfl | exact .inr (.inl ⟨_, _, rfl⟩) | exact .inr (.inr rfl), ?_, ?_, ?_, ?_, ?_, ?_, ?_, o5'.out, B5.out⟩
            · simpa using hr'.out
            · rw [List.length_drop]; omega
            · (try simp); (try omega)
            · rw [List.flatten_append, List.flatten_singleton, List.append_assoc, List.take_append_drop]; exact hfl'.out
            · intro p hp; rcases List.mem_append.1 hp with hp | hp; (· exact hpl'.out p hp); (· rw [List.mem_singleton] at hp; rw [hp, List.length_take]; omega)
            · exact fun x hx => h2'.out x (List.mem_of_mem_drop hx)
            · exact hP'.out.snoc (by rw [List.length_take]; omega) (by have h := hr'.out.take (0) (by omega); rw [map_take] at h; exact h) fun x hx => h2'.out x (List.mem_of_mem_take hx)
      · have hz1 : ¬ z < 0 := by simpa using hzn
        rcases hptr with rfl | ⟨pb, po, rfl, hcn⟩ | ⟨xa, rfl, hc0⟩
        · have hc0 : c' = 0 := hr'.out.nil rfl
          subst hc0
          go_wp2_with (at_builtin; refine law_appendS1 elBB _ rfl _ _ rfl W.heap.size _ k vs rfl ho'.out none 0 0 rfl (by omega) hB'.out.size ?_; intro v5 q5 o5 hb5; obtain ⟨a5, c5, rfl⟩ := own_form o5; have B5 := Go.Lib.hid (hB'.out.trans hb5); have o5' := Go.Lib.hid o5; clear o5 hb5)
          go_roundg (ns - (k + 1))
          case measure => (have hgk := hgo.out; omega)
          case rel =>
            have hrl2 := hrl'.out
            have hj : 0 ≤ rest.length := by omega
            refine ⟨k + 1, _, _, _, _, vs ++ [.slice none 0 0], ps ++ [rest.take (0)], rest.drop (0), by omega, rfl, by go_num, rfl, rfl, by first | exact .inl rfl | exact .inr (.inl ⟨_, _, rfl⟩) | exact .inr (.inr rfl), ?_, ?_, ?_, ?_, ?_, ?_, ?_, o5'.out, B5.out⟩
            · simpa using hr'.out
            · rw [List.length_drop]; omega
            · (try simp); (try omega)
            · rw [List.flatten_append, List.flatten_singleton, List.append_assoc, List.take_append_drop]; exact hfl'.out
            · intro p hp; rcases List.mem_append.1 hp with hp | hp; (· exact hpl'.out p hp); (· rw [List.mem_singleton] at hp; rw [hp, List.length_take]; omega)
            · exact fun x hx => h2'.out x (List.mem_of_mem_drop hx)
            · exact hP'.out.snoc (by rw [List.length_take]; omega) (by have h := hr'.out.take (0) (by omega); rw [map_take] at h; exact h) fun x hx => h2'.out x (List.mem_of_mem_take hx)
        · have hc1 : 0 < c' := by omega
          go_wp2_with (at_builtin; refine law_appendS1 elBB _ rfl _ _ rfl W.heap.size _ k vs rfl ho'.out (some ⟨pb, po, none⟩) 0 c' rfl (by omega) hB'.out.size ?_; intro v5 q5 o5 hb5; obtain ⟨a5, c5, rfl⟩ := own_form o5; have B5 := Go.Lib.hid (hB'.out.trans hb5); have o5' := Go.Lib.hid o5; clear o5 hb5)
          go_roundg (ns - (k + 1))
          case measure => (have hgk := hgo.out; omega)
          case rel =>
            have hrl2 := hrl'.out
            have hj : 0 ≤ rest.length := by omega
            refine ⟨k + 1, _, _, _, _, vs ++ [.slice (some ⟨pb, po, none⟩) 0 c'], ps ++ [rest.take (0)], rest.drop (0), by omega, rfl, by go_num, rfl, rfl, by first | exact .inl rfl | exact .inr (.inl ⟨_, _, rfl⟩) | exact .inr (.inr rfl), ?_, ?_, ?_, ?_, ?_, ?_, ?_, o5'.out, B5.out⟩
            · simpa using hr'.out
            · rw [List.length_drop]; omega
            · (try simp); (try omega)
            · rw [List.flatten_append, List.flatten_singleton, List.append_assoc, List.take_append_drop]; exact hfl'.out
            · intro p hp; rcases List.mem_append.1 hp with hp | hp; (· exact hpl'.out p hp); (· rw [List.mem_singleton] at hp; rw [hp, List.length_take]; omega)
            · exact fun x hx => h2'.out x (List.mem_of_mem_drop hx)
            · exact hP'.out.snoc (by rw [List.length_take]; omega) (by have h := hr'.out.take (0) (by omega); rw [map_take] at h; exact h) fun x hx => h2'.out x (List.mem_of_mem_take hx)
        · subst hc0
          go_wp2_with (at_builtin; refine law_appendS1 elBB _ rfl _ _ rfl W.heap.size _ k vs rfl ho'.out (some xa) 0 0 rfl (by omega) hB'.out.size ?_; intro v5 q5 o5 hb5; obtain ⟨a5, c5, rfl⟩ := own_form o5; have B5 := Go.Lib.hid (hB'.out.trans hb5); have o5' := Go.Lib.hid o5; clear o5 hb5)
          go_roundg (ns - (k + 1))
          case measure => (have hgk := hgo.out; omega)
          case rel =>
            have hrl2 := hrl'.out
            have hj : 0 ≤ rest.length := by omega
            refine ⟨k + 1, _, _, _, _, vs ++ [.slice (some xa) 0 0], ps ++ [rest.take (0)], rest.drop (0), by omega, rfl, by go_num, rfl, rfl, by first | exact .inl rfl | exact .inr (.inl ⟨_, _, rfl⟩) | exact .inr (.inr rfl), ?_, ?_, ?_, ?_, ?_, ?_, ?_, o5'.out, B5.out⟩
            · simpa using hr'.out
            · rw [List.length_drop]; omega
            · (try simp); (try omega)
            · rw [List.flatten_append, List.flatten_singleton, List.append_assoc, List.take_append_drop]; exact hfl'.out
            · intro p hp; rcases List.mem_append.1 hp with hp | hp; (· exact hpl'.out p hp); (· rw [List.mem_singleton] at hp; rw [hp, List.length_take]; omega)
            · exact fun x hx => h2'.out x (List.mem_of_mem_drop hx)
            · exact hP'.out.snoc (by rw [List.length_take]; omega) (by have h := hr'.out.take (0) (by omega); rw [map_take] at h; exact h) fun x hx => h2'.out x (List.mem_of_mem_take hx)
    · have hpos : 0 < n' := by omega
      clear hptr
      obtain ⟨pb, po, rfl, hpl2, -⟩ := hr'.out.cells hpos
      by_cases hzn : z < n'
      · by_cases hz0 : 0 < z
        · obtain ⟨j, rfl⟩ : ∃ j : Nat, z = j := ⟨z.toNat, by omega⟩
          have hjc : j < c' := by omega
          have hjn : j ≤ n' := by omega
          go_wp2_with (at_builtin; refine law_appendS1 elBB _ rfl _ _ rfl W.heap.size _ k vs rfl ho'.out (some ⟨pb, po, none⟩) j c' rfl (by omega) hB'.out.size ?_; intro v5 q5 o5 hb5; obtain ⟨a5, c5, rfl⟩ := own_form o5; have B5 := Go.Lib.hid (hB'.out.trans hb5); have o5' := Go.Lib.hid o5; clear o5 hb5)
          go_roundg (ns - (k + 1))
          case measure => (have hgk := hgo.out; omega)
          case rel =>
            have hrl2 := hrl'.out
            have hj : j ≤ rest.length := by omega
            refine ⟨k + 1, _, _, _, _, vs ++ [.slice (some ⟨pb, po, none⟩) j c'], ps ++ [rest.take (j)], rest.drop (j), by omega, rfl, by go_num, rfl, rfl, by first | exact .inl rfl | exact .inr (.inl ⟨_, _, rfl⟩) | exact .inr (.inr rfl), ?_, ?_, ?_, ?_, ?_, ?_, ?_, o5'.out, B5.out⟩
            · have h := hr'.out.sub (j) (n' - (j)) (by omega); rw [map_drop, List.take_of_length_le (by simp; omega)] at h; simpa using h
            · rw [List.length_drop]; omega
            · (try simp); (try omega)
            · rw [List.flatten_append, List.flatten_singleton, List.append_assoc, List.take_append_drop]; exact hfl'.out
            · intro p hp; rcases List.mem_append.1 hp with hp | hp; (· exact hpl'.out p hp); (· rw [List.mem_singleton] at hp; rw [hp, List.length_take]; omega)
            · exact fun x hx => h2'.out x (List.mem_of_mem_drop hx)
            · exact hP'.out.snoc (by rw [List.length_take]; omega) (by have h := hr'.out.take (j) (by omega); rw [map_take] at h; exact h) fun x hx => h2'.out x (List.mem_of_mem_take hx)
        · have hc0 : 0 < c' := by omega
          go_wp2_with (at_builtin; refine law_appendS1 elBB _ rfl _ _ rfl W.heap.size _ k vs rfl ho'.out (some ⟨pb, po, none⟩) 0 c' rfl (by omega) hB'.out.size ?_; intro v5 q5 o5 hb5; obtain ⟨a5, c5, rfl⟩ := own_form o5; have B5 := Go.Lib.hid (hB'.out.trans hb5); have o5' := Go.Lib.hid o5; clear o5 hb5)
          go_roundg (ns - (k + 1))
          case measure => (have hgk := hgo.out; omega)
          case rel =>
            have hrl2 := hrl'.out
            have hj : 0 ≤ rest.length := by omega
            refine ⟨k + 1, _, _, _, _, vs ++ [.slice (some ⟨pb, po, none⟩) 0 c'], ps ++ [rest.take (0)], rest.drop (0), by omega, rfl, by go_num, rfl, rfl, by first | exact .inl rfl | exact .inr (.inl ⟨_, _, rfl⟩) | exact .inr (.inr rfl), ?_, ?_, ?_, ?_, ?_, ?_, ?_, o5'.out, B5.out⟩
            · have h := hr'.out.sub (0) (n' - (0)) (by omega); rw [map_drop, List.take_of_length_le (by simp; omega)] at h; simpa using h
            · rw [List.length_drop]; omega
            · (try simp); (try omega)
            · rw [List.flatten_append, List.flatten_singleton, List.append_assoc, List.take_append_drop]; exact hfl'.out
            · intro p hp; rcases List.mem_append.1 hp with hp | hp; (· exact hpl'.out p hp); (· rw [List.mem_singleton] at hp; rw [hp, List.length_take]; omega)
            · exact fun x hx => h2'.out x (List.mem_of_mem_drop hx)
            · exact hP'.out.snoc (by rw [List.length_take]; omega) (by have h := hr'.out.take (0) (by omega); rw [map_take] at h; exact h) fun x hx => h2'.out x (List.mem_of_mem_take hx)
      · have hnp : (0 : Int) < n' := by omega
        by_cases hcc : c' = n'
        · subst hcc
          go_wp2_with (at_builtin; refine law_appendS1 elBB _ rfl _ _ rfl W.heap.size _ k vs rfl ho'.out (some ⟨pb, po, none⟩) c' c' rfl (by omega) hB'.out.size ?_; intro v5 q5 o5 hb5; obtain ⟨a5, c5, rfl⟩ := own_form o5; have B5 := Go.Lib.hid (hB'.out.trans hb5); have o5' := Go.Lib.hid o5; clear o5 hb5)
          go_roundg (ns - (k + 1))
          case measure => (have hgk := hgo.out; omega)
          case rel =>
            have hrl2 := hrl'.out
            have hj : c' ≤ rest.length := by omega
            refine ⟨k + 1, _, _, _, _, vs ++ [.slice (some ⟨pb, po, none⟩) c' c'], ps ++ [rest.take (c')], rest.drop (c'), by omega, rfl, by go_num, rfl, rfl, by first | exact .inl rfl | exact .inr (.inl ⟨_, _, rfl⟩) | exact .inr (.inr rfl), ?_, ?_, ?_, ?_, ?_, ?_, ?_, o5'.out, B5.out⟩
            · have e : rest.drop (c') = [] := List.drop_eq_nil_of_le (by omega); rw [e]; simpa using row_zero _ _ _
            · rw [List.length_drop]; omega
            · (try simp); (try omega)
            · rw [List.flatten_append, List.flatten_singleton, List.append_assoc, List.take_append_drop]; exact hfl'.out
            · intro p hp; rcases List.mem_append.1 hp with hp | hp; (· exact hpl'.out p hp); (· rw [List.mem_singleton] at hp; rw [hp, List.length_take]; omega)
            · exact fun x hx => h2'.out x (List.mem_of_mem_drop hx)
            · exact hP'.out.snoc (by rw [List.length_take]; omega) (by have h := hr'.out.take (c') (by omega); rw [map_take] at h; exact h) fun x hx => h2'.out x (List.mem_of_mem_take hx)
        · have hjc : n' < c' := by omega
          go_wp2_with (at_builtin; refine law_appendS1 elBB _ rfl _ _ rfl W.heap.size _ k vs rfl ho'.out (some ⟨pb, po, none⟩) n' c' rfl (by omega) hB'.out.size ?_; intro v5 q5 o5 hb5; obtain ⟨a5, c5, rfl⟩ := own_form o5; have B5 := Go.Lib.hid (hB'.out.trans hb5); have o5' := Go.Lib.hid o5; clear o5 hb5)
          go_roundg (ns - (k + 1))
          case measure => (have hgk := hgo.out; omega)
          case rel =>
            have hrl2 := hrl'.out
            have hj : n' ≤ rest.length := by omega
            refine ⟨k + 1, _, _, _, _, vs ++ [.slice (some ⟨pb, po, none⟩) n' c'], ps ++ [rest.take (n')], rest.drop (n'), by omega, rfl, by go_num, rfl, rfl, by first | exact .inl rfl | exact .inr (.inl ⟨_, _, rfl⟩) | exact .inr (.inr rfl), ?_, ?_, ?_, ?_, ?_, ?_, ?_, o5'.out, B5.out⟩
            · have e : rest.drop (n') = [] := List.drop_eq_nil_of_le (by omega); rw [e]; simpa using row_some .u8 W pb (po + n') (c' - n') (Nat.le_trans (Nat.sub_le _ _) hmx)
            · rw [List.length_drop]; omega
            · (try simp); (try omega)
            · rw [List.flatten_append, List.flatten_singleton, List.append_assoc, List.take_append_drop]; exact hfl'.out
            · intro p hp; rcases List.mem_append.1 hp with hp | hp; (· exact hpl'.out p hp); (· rw [List.mem_singleton] at hp; rw [hp, List.length_take]; omega)
            · exact fun x hx => h2'.out x (List.mem_of_mem_drop hx)
            · exact hP'.out.snoc (by rw [List.length_take]; omega) (by have h := hr'.out.take (n') (by omega); rw [map_take] at h; exact h) fun x hx => h2'.out x (List.mem_of_mem_take hx)
  · obtain rfl : k = ns := by omega
    have hlt' : ¬ (k : Int) < k := by omega
    go_wp2_with (at_builtin; refine law_appendS1 elBB _ rfl _ _ rfl W.heap.size _ k vs rfl ho'.out a' n' c' rfl (by omega) hB'.out.size ?_; intro v5 q5 o5 hb5; obtain ⟨a5, c5, rfl⟩ := own_form o5; have B5 := Go.Lib.hid (hB'.out.trans hb5); have o5' := Go.Lib.hid o5; clear o5 hb5)
    go_ret
    refine ⟨_, _, rfl, vs ++ [.slice a' n' c'], SRow.of_own o5'.out (by omega), ps ++ [rest], (hP'.out.snoc hrl'.out hr'.out h2'.out).below B5.out (Nat.le_refl _), ?_, ?_, B5.out⟩
    · rw [List.flatten_append, List.flatten_singleton]; exact hfl'.out
    · intro p hp; rcases List.mem_append.1 hp with hp | hp; (· exact hpl'.out p hp); (· rw [List.mem_singleton] at hp; rw [hp, hrl'.out]; exact hnn)
end Go.Proofs.Ytcodofmghbgoeaa

/- Contracts of the statements' helpers: feeds. -/
namespace Go.Proofs.Ytcodofmghbgoeaa
open Go.RowKit Cad

/-- what Feed says of valid states and not too many bytes; its Rest is new -/
def FeedSays : Prop := ∀ (w : World) (aa : Option Addr) (cap n : Nat) (D : Du) (R : List Bool) (ab : Option Addr) (nb cb : Nat) (bl : List Nat), Row .u8 w aa ((R.length + 7) / 8) cap (pack R) → ResOkN n D R → Row .u8 w ab nb cb (bl.map Int.ofNat) → bl.length = nb → (∀ x ∈ bl, x < 256) → nb ≤ 41000 →
    Calls Try.prog 10 #[.agg #[.int .i64 n, .int .i64 D.k0, .int .i64 D.k1, .int .u64 D.s0, .int .u64 D.s1, .slice aa ((R.length + 7) / 8) cap, .int .i64 R.length], .slice ab nb cb] w fun r W' => ∃ bb cc a m c, r = .returned (.tuple #[.agg #[.int .i64 (fed n (R ++ bytesB bl) D).n, .int .i64 (fed n (R ++ bytesB bl) D).d.k0, .int .i64 (fed n (R ++ bytesB bl) D).d.k1, .int .u64 (fed n (R ++ bytesB bl) D).d.s0, .int .u64 (fed n (R ++ bytesB bl) D).d.s1, .slice bb (((fed n (R ++ bytesB bl) D).r.length + 7) / 8) cc, .int .i64 (fed n (R ++ bytesB bl) D).r.length], .slice a m c, .int .i64 (fed n (R ++ bytesB bl) D).e]) ∧
    Row .u8 W' bb (((fed n (R ++ bytesB bl) D).r.length + 7) / 8) cc (pack (fed n (R ++ bytesB bl) D).r) ∧ Row .u32 W' a m c ((fed n (R ++ bytesB bl) D).l.map Int.ofNat) ∧ Below w.heap.size w W' ∧ (((fed n (R ++ bytesB bl) D).r.length + 7) / 8 = 0 ∨ ∃ g o, bb = some ⟨g, o, none⟩ ∧ w.heap.size ≤ g)

set_option maxRecDepth 100000 in
set_option maxHeartbeats 2000000 in
theorem feeds_of (hfeed : FeedSays) (W : World) (aa : Option Addr) (cap n : Nat) (D : Du) (R : List Bool) (ap : Option Addr) (np cp : Nat) (vs : List Value) (ps : List (List Nat)) (hr : Row .u8 W aa ((R.length + 7) / 8) cap (pack R)) (hok : ResOkN n D R) (hs : SRow W ap np cp vs) (hp : Pieces W vs ps) (hlen : ∀ p ∈ ps, p.length ≤ 41000) :
    ResF 20 #[.agg #[.int .i64 n, .int .i64 D.k0, .int .i64 D.k1, .int .u64 D.s0, .int .u64 D.s1, .slice aa ((R.length + 7) / 8) cap, .int .i64 R.length], .slice ap np cp] W (feedS n R D ps) := by
  have hnp : ps.length = np := by rw [← hp.len, hs.hlen]
  have hnpm := hs.hmax
  have hnI : (np : Int) ≤ 17592186044416 := by omega
  have hok' := Go.Lib.hid hok
  have hr' := Go.Lib.hid hr
  have hs' := Go.Lib.hid hs
  have hp' := Go.Lib.hid hp
  have hln := Go.Lib.hid hlen
  have hnp' := Go.Lib.hid hnp
  have hfd := Go.Lib.hid hfeed
  obtain ⟨F, hF⟩ : ∃ F, F = feedS n R D ps := ⟨_, rfl⟩
  rw [← hF]
  have hF' := Go.Lib.hid hF
  obtain ⟨RL, hRL⟩ : ∃ x, x = (R.length + 7) / 8 := ⟨_, rfl⟩
  obtain ⟨RN, hRN⟩ : ∃ x, x = R.length := ⟨_, rfl⟩
  have hRL' := Go.Lib.hid hRL
  have hRN' := Go.Lib.hid hRN
  rw [← hRL] at hr' ⊢
  rw [← hRN]
  obtain ⟨W0, hW0, hbE, hsz0, hx0, hz0⟩ := rr_boxes W n D.k0 D.k1 D.s0 D.s1 (.slice aa RL cap) RN
  have r0 := Go.Lib.hid (hr'.out.below hbE (Nat.le_refl _))
  have hx0' := Go.Lib.hid hx0
  have hz0' := Go.Lib.hid hz0
  have hbE' := Go.Lib.hid hbE
  clear hr hok hs hp hlen hF hx0 hz0 hbE hRL hRN hfeed hnp
  unfold ResF
  go_enter Try.func20, Try.ntmps20
  go_wp2
  rw [← hW0]
  clear hW0
  go_loopg [7, 8] np (fun g all i wr => ∃ (k m : Nat) (Q : List Bool) (E : Du) (l : List Nat) (v : Value) (bb : Option Addr) (cc QL QN : Nat), k ≤ np ∧ g = np - k ∧ i = .int .i64 k ∧ all = v ∧ F = glueF l (feedS m Q E (ps.drop k)) ∧ ResOkN m E Q ∧ QL = (Q.length + 7) / 8 ∧ QN = Q.length ∧ m + l.length = n ∧ (∀ x ∈ l, x < 4294967296) ∧
    wr.ownsRow (W.heap.size + 1 + 1) 40 1 v l.length (nums .u32 (l.map Int.ofNat)) ∧ Row .u8 wr bb QL cc (pack Q) ∧ ResAt wr W.heap.size m E.k0 E.k1 E.s0 E.s1 (.slice bb QL cc) QN ∧ ResAt wr (W.heap.size + 1) 0 0 0 0 0 (.slice none 0 0) 0 ∧ Below W.heap.size W wr ∧ W.heap.size + 1 + 1 ≤ wr.heap.size)
  case atStart =>
    refine ⟨0, n, R, D, [], .slice none 0 0, aa, cap, RL, RN, Nat.zero_le _, rfl, rfl, rfl, ?_, hok'.out, hRL'.out, hRN'.out, by simp, fun x hx => (by cases hx), World.ownsRow_nil _ _ _ _, r0.out, hx0'.out, hz0'.out, hbE'.out, by omega⟩
    rw [hF'.out, List.drop_zero]
    by_cases hc : (feedS n R D ps).e = 0
    · rw [glueF_nil hc]
    · rw [feedS_fed ps n R D hok'.out] at hc ⊢
      rcases fed_no _ _ _ hok'.out.d hc with h | h <;> rw [h, glueF_E _ (by decide)]
  case round =>
  obtain ⟨k, m, Q, E, l, v, bb, cc, QL, QN, hk, hg, rfl, rfl, hFl, hQ, hQL, hQN, hml, hl32, ho, hrq, hx, hz, hB, hsz⟩ := hrel
  obtain ⟨av, cv, rfl⟩ := own_form ho
  have hgo := Go.Lib.hid hg
  have hFl' := Go.Lib.hid hFl
  have hQ' := Go.Lib.hid hQ
  have hl' := Go.Lib.hid hl32
  have hQL' := Go.Lib.hid hQL
  have hQN' := Go.Lib.hid hQN
  have hml' := Go.Lib.hid hml
  have hxl := hx.lt
  have hS1 := Go.Lib.hid hx
  have hZ1 := Go.Lib.hid hz
  have hB1 := Go.Lib.hid hB
  have hR1 := Go.Lib.hid hrq
  have hO1 := Go.Lib.hid ho
  have hn4 := hok'.out.n4
  clear hg hFl hQ hl32 hrq hz hB ho hQL hQN r0 hx0' hz0' hbE' hml
  by_cases hlt : k < np
  · have hlt' : (k : Int) < np := by omega
    obtain ⟨w9, hw⟩ : ∃ w, w = wr := ⟨_, rfl⟩
    subst hw
    have hkp : k < ps.length := by rw [hnp'.out]; exact hlt
    obtain ⟨p, hpe⟩ : ∃ p, p = ps.getD k [] := ⟨_, rfl⟩
    obtain ⟨pa, pc, e1, e2, e3⟩ := hp'.out.at_ k hkp
    rw [← hpe] at e1 e2 e3
    have hpl := hln.out p (by rw [hpe, show ps.getD k [] = ps[k] by simp [List.getD, hkp]]; exact List.getElem_mem _)
    have hdrop : ps.drop k = p :: ps.drop (k + 1) := by rw [List.drop_eq_getElem_cons hkp, hpe]; simp [List.getD, hkp]
    obtain ⟨pb, po, rfl, hblt, hc⟩ := (hs'.out.below hB1.out (Nat.le_refl _)).cells (by omega)
    have hcell := hc k hlt
    rw [e1] at hcell
    obtain ⟨pl, hple⟩ : ∃ x, x = p.length := ⟨_, rfl⟩
    rw [← hple] at hcell e2 hpl
    have hpr := Go.Lib.hid (e2.below hB1.out (Nat.le_refl _))
    obtain ⟨G, hG⟩ : ∃ G, G = fed m (Q ++ bytesB p) E := ⟨_, rfl⟩
    obtain ⟨GN, hGN⟩ : ∃ x, x = G.r.length := ⟨_, rfl⟩
    obtain ⟨GL, hGL⟩ : ∃ x, x = (GN + 7) / 8 := ⟨_, rfl⟩
    have fd : Hid (∀ w, Row .u8 w bb QL cc (pack Q) → Row .u8 w pa pl pc (p.map Int.ofNat) → Calls Try.prog 10 #[.agg #[.int .i64 m, .int .i64 E.k0, .int .i64 E.k1, .int .u64 E.s0, .int .u64 E.s1, .slice bb QL cc, .int .i64 QN], .slice pa pl pc] w fun r W' => ∃ b2 c2 a2 m2 d2, r = .returned (.tuple #[.agg #[.int .i64 G.n, .int .i64 G.d.k0, .int .i64 G.d.k1, .int .u64 G.d.s0, .int .u64 G.d.s1, .slice b2 GL c2, .int .i64 GN], .slice a2 m2 d2, .int .i64 G.e]) ∧ Row .u8 W' b2 GL c2 (pack G.r) ∧ Row .u32 W' a2 m2 d2 (G.l.map Int.ofNat) ∧ Below w.heap.size w W' ∧ (GL = 0 ∨ ∃ g o, b2 = some ⟨g, o, none⟩ ∧ w.heap.size ≤ g)) := Go.Lib.hid fun w h h' => by
      have := hfd.out w bb cc m E Q pa pl pc p (by rw [← hQL'.out]; exact h) hQ'.out h' hple.symm e3 hpl
      rw [← hG, ← hGN, ← hGL, ← hQL'.out, ← hQN'.out] at this
      exact this
    have hG' := Go.Lib.hid hG
    have hGN' := Go.Lib.hid hGN
    have hGL' := Go.Lib.hid hGL
    clear hc e1 e2 e3 hpe hple hG hGN hGL hpl hkp hx
    go_upto_region 5 with (fail)
    go_cut [9, 10, 11] (fun s9 s10 s11 wx => ∃ (x9 : Nat) (b2 : Option Addr) (c2 : Nat) (a2 : Option Addr) (m2 d2 : Nat), s9 = .pointer (some ⟨x9, 0, none⟩) ∧ s10 = .slice a2 m2 d2 ∧ s11 = .int .i64 G.e ∧ w9.heap.size ≤ x9 ∧ ResAt wx x9 G.n G.d.k0 G.d.k1 G.d.s0 G.d.s1 (.slice b2 GL c2) GN ∧ Row .u8 wx b2 GL c2 (pack G.r) ∧ Row .u32 wx a2 m2 d2 (G.l.map Int.ofNat) ∧ Below w9.heap.size w9 wx ∧ (GL = 0 ∨ ∃ g o, b2 = some ⟨g, o, none⟩ ∧ w9.heap.size ≤ g))
    case first =>
      refine wp_region_ord2 (fun w' => Below w9.heap.size w9 w') 5 10 [(1, 0), (2, 0), (3, 0), (0, 2), (4, 2), (5, 4), (6, 0), (7, 0), (8, 0), (9, 0), (10, 4), (11, 4), (12, 0), (13, 0)] [(1, 0), (2, 0), (3, 0), (0, 2), (4, 2), (10, 3), (5, 4), (6, 0), (7, 0), (8, 0), (9, 0), (11, 4), (12, 0), (13, 0)] (by kernel_rfl) (by decide) (by kernel_rfl) (by kernel_rfl) ?hC0 ?_ ?_
      case hC0 => exact (Below.refl _ _).drew
      · simp only [pick, nth]
        refine wpW_name ?_
        intro q0 hq0
        have H0 : Below w9.heap.size w9 q0 := by rw [hq0]; exact (Below.refl _ _).drew
        clear hq0
        (repeat (first | (apply wpW_light; (case h => (intro wa; (first | (go_big_quiet_skip; exact wpQuiet_nil rfl) | (go_big_quiet_want; go_big_quiet_op; go_big_quiet_on; exact wpQuiet_nil rfl))))) | (apply wpW_here; (case h => (first | (go_big_quiet_skip; exact wpQuiet_nil rfl) | (go_big_quiet_want; go_big_quiet_op; go_big_quiet_on; exact wpQuiet_nil rfl)))) | (apply wpW_held; (case hC => assumption); (case h => (intro wa hCa; (obtain ⟨u0, u1, u2, u3, u4, u5, u6, u7, u8, u9, u10, u11, u12, u13⟩ := (hS1.out.below hCa hxl).cells; have hcl := (Below.cell hCa (p := ⟨pb, po + k, none⟩) hblt).trans hcell; clear hCa); (first | (go_big_quiet_skip; exact wpQuiet_nil rfl) | (go_big_quiet_want; go_big_quiet_op; go_big_quiet_on; exact wpQuiet_nil rfl)))))))
        refine wpW_last (fun QQ hQQ => ?_) (by rfl)
        go_wp2_with (go_at_call 10; with_reducible refine (fd.out _ (hR1.out.below H0 (Nat.le_refl _)) (hpr.out.below H0 (Nat.le_refl _))).mono ?_; rintro e q1 ⟨b2, c2, a2, m2, d2, rfl, g1, g2, hs, g3⟩)
        (refine hQQ.out _ _ ?_; clear hQQ QQ)
        have H1 := H0.trans (hs.mono H0.size)
        have gf : GL = 0 ∨ ∃ g o, b2 = some ⟨g, o, none⟩ ∧ w9.heap.size ≤ g := g3.imp id fun ⟨g, o, e1, e2⟩ => ⟨g, o, e1, Nat.le_trans H0.size e2⟩
        clear hs g3
        (repeat (first | (apply wpW_light; (case h => (intro wa; (first | (go_big_quiet_skip; exact wpQuiet_nil rfl) | (go_big_quiet_want; go_big_quiet_op; go_big_quiet_on; exact wpQuiet_nil rfl))))) | (apply wpW_here; (case h => (first | (go_big_quiet_skip; exact wpQuiet_nil rfl) | (go_big_quiet_want; go_big_quiet_op; go_big_quiet_on; exact wpQuiet_nil rfl)))) | (apply wpW_held; (case hC => assumption); (case h => (intro wa hCa; simp only [] at hCa; (first | (go_big_quiet_skip; exact wpQuiet_nil rfl) | (go_big_quiet_want; go_big_quiet_op; go_big_quiet_on; exact wpQuiet_nil rfl)))))))
        refine wpW_last (fun QQ hQQ => ?_) (by rfl)
        go_wp2
        (refine hQQ.out _ _ ?_; clear hQQ QQ)
        (repeat (first | (apply wpW_light; (case h => (intro wa; (first | (go_big_quiet_skip; exact wpQuiet_nil rfl) | (go_big_quiet_want; go_big_quiet_op; go_big_quiet_on; exact wpQuiet_nil rfl))))) | (apply wpW_here; (case h => (first | (go_big_quiet_skip; exact wpQuiet_nil rfl) | (go_big_quiet_want; go_big_quiet_op; go_big_quiet_on; exact wpQuiet_nil rfl)))) | (apply wpW_held; (case hC => assumption); (case h => (intro wa hCa; simp only [] at hCa; (first | (go_big_quiet_skip; exact wpQuiet_nil rfl) | (go_big_quiet_want; go_big_quiet_op; go_big_quiet_on; exact wpQuiet_nil rfl)))))))
        refine wpW_name ?_
        intro q2 hq
        have H2 : Below w9.heap.size w9 q2 := by rw [hq]; exact H1.alloc H1.size _
        have hs : Below q1.heap.size q1 q2 := by rw [hq]; exact below1 q1 _
        have g1 := g1.below hs (Nat.le_refl _)
        have g2 := g2.below hs (Nat.le_refl _)
        have x2 : ResAt q2 q1.heap.size 0 0 0 0 0 (.slice none 0 0) 0 := by rw [hq]; exact resat1 q1 0 0 0 0 0 _ 0
        have gx : w9.heap.size ≤ q1.heap.size := H1.size
        obtain ⟨x9, hx9⟩ : ∃ x, x = q1.heap.size := ⟨_, rfl⟩
        rw [← hx9] at x2 gx ⊢
        clear hq hs hx9
        obtain ⟨y0, y1, y2, y3, y4, y5, y6, y7, y8, y9, y10, y11, y12, y13⟩ := x2.cells
        refine wpW_last (fun QQ hQQ => ?_) (by rfl)
        go_wp2
        (refine hQQ.out _ _ ?_; clear hQQ QQ)
        (repeat (first | (apply wpW_light; (case h => (intro wa; (first | (go_big_quiet_skip; exact wpQuiet_nil rfl) | (go_big_quiet_want; go_big_quiet_op; go_big_quiet_on; exact wpQuiet_nil rfl))))) | (apply wpW_here; (case h => (first | (go_big_quiet_skip; exact wpQuiet_nil rfl) | (go_big_quiet_want; go_big_quiet_op; go_big_quiet_on; exact wpQuiet_nil rfl)))) | (apply wpW_held; (case hC => assumption); (case h => (intro wa hCa; simp only [] at hCa; (first | (go_big_quiet_skip; exact wpQuiet_nil rfl) | (go_big_quiet_want; go_big_quiet_op; go_big_quiet_on; exact wpQuiet_nil rfl)))))))
        refine wpW_nil ?_
        go_wp2_with (fail)
        go_meet
        exact ⟨x9, b2, c2, a2, m2, d2, rfl, rfl, rfl, gx, x2.set G.n G.d.k0 G.d.k1 G.d.s0 G.d.s1 (.slice b2 GL c2) GN, rows7 (.inl rfl) g1 x2, rows7 (.inr rfl) g2 x2, below7 H2 gx, gf⟩
      · simp only [pick, nth]
        refine wpW_name ?_
        intro q0 hq0
        have H0 : Below w9.heap.size w9 q0 := by rw [hq0]; exact (Below.refl _ _).drew
        clear hq0
        (repeat (first | (apply wpW_light; (case h => (intro wa; (first | (go_big_quiet_skip; exact wpQuiet_nil rfl) | (go_big_quiet_want; go_big_quiet_op; go_big_quiet_on; exact wpQuiet_nil rfl))))) | (apply wpW_here; (case h => (first | (go_big_quiet_skip; exact wpQuiet_nil rfl) | (go_big_quiet_want; go_big_quiet_op; go_big_quiet_on; exact wpQuiet_nil rfl)))) | (apply wpW_held; (case hC => assumption); (case h => (intro wa hCa; (obtain ⟨u0, u1, u2, u3, u4, u5, u6, u7, u8, u9, u10, u11, u12, u13⟩ := (hS1.out.below hCa hxl).cells; have hcl := (Below.cell hCa (p := ⟨pb, po + k, none⟩) hblt).trans hcell; clear hCa); (first | (go_big_quiet_skip; exact wpQuiet_nil rfl) | (go_big_quiet_want; go_big_quiet_op; go_big_quiet_on; exact wpQuiet_nil rfl)))))))
        refine wpW_act (fun QQ hQQ => ?_) (by rfl)
        go_wp2
        (refine hQQ _ _ ?hCn ?_; (case hCn => exact H0.alloc H0.size _); clear hQQ QQ)
        (repeat (first | (apply wpW_light; (case h => (intro wa; (first | (go_big_quiet_skip; exact wpQuiet_nil rfl) | (go_big_quiet_want; go_big_quiet_op; go_big_quiet_on; exact wpQuiet_nil rfl))))) | (apply wpW_here; (case h => (first | (go_big_quiet_skip; exact wpQuiet_nil rfl) | (go_big_quiet_want; go_big_quiet_op; go_big_quiet_on; exact wpQuiet_nil rfl)))) | (apply wpW_held; (case hC => assumption); (case h => (intro wa hCa; simp only [] at hCa; (first | (go_big_quiet_skip; exact wpQuiet_nil rfl) | (go_big_quiet_want; go_big_quiet_op; go_big_quiet_on; exact wpQuiet_nil rfl)))))))
        refine wpW_name ?_
        intro q1 hq
        have H1 : Below w9.heap.size w9 q1 := by rw [hq]; exact H0.alloc H0.size _
        have hs : Below q0.heap.size q0 q1 := by rw [hq]; exact below1 q0 _
        have x1 : ResAt q1 q0.heap.size 0 0 0 0 0 (.slice none 0 0) 0 := by rw [hq]; exact resat1 q0 0 0 0 0 0 _ 0
        have gx : w9.heap.size ≤ q0.heap.size := H0.size
        obtain ⟨x9, hx9⟩ : ∃ x, x = q0.heap.size := ⟨_, rfl⟩
        rw [← hx9] at x1 gx ⊢
        clear hq hs hx9
        refine wpW_last (fun QQ hQQ => ?_) (by rfl)
        go_wp2_with (go_at_call 10; with_reducible refine (fd.out _ (hR1.out.below H1 (Nat.le_refl _)) (hpr.out.below H1 (Nat.le_refl _))).mono ?_; rintro e q2 ⟨b2, c2, a2, m2, d2, rfl, g1, g2, hs, g3⟩)
        (refine hQQ.out _ _ ?_; clear hQQ QQ)
        have H2 := H1.trans (hs.mono H1.size)
        have gf : GL = 0 ∨ ∃ g o, b2 = some ⟨g, o, none⟩ ∧ w9.heap.size ≤ g := g3.imp id fun ⟨g, o, e1, e2⟩ => ⟨g, o, e1, Nat.le_trans H1.size e2⟩
        have x2 := x1.below hs x1.lt
        clear hs g3
        (repeat (first | (apply wpW_light; (case h => (intro wa; (first | (go_big_quiet_skip; exact wpQuiet_nil rfl) | (go_big_quiet_want; go_big_quiet_op; go_big_quiet_on; exact wpQuiet_nil rfl))))) | (apply wpW_here; (case h => (first | (go_big_quiet_skip; exact wpQuiet_nil rfl) | (go_big_quiet_want; go_big_quiet_op; go_big_quiet_on; exact wpQuiet_nil rfl)))) | (apply wpW_held; (case hC => assumption); (case h => (intro wa hCa; simp only [] at hCa; (first | (go_big_quiet_skip; exact wpQuiet_nil rfl) | (go_big_quiet_want; go_big_quiet_op; go_big_quiet_on; exact wpQuiet_nil rfl)))))))
        obtain ⟨y0, y1, y2, y3, y4, y5, y6, y7, y8, y9, y10, y11, y12, y13⟩ := x2.cells
        refine wpW_last (fun QQ hQQ => ?_) (by rfl)
        go_wp2
        (refine hQQ.out _ _ ?_; clear hQQ QQ)
        (repeat (first | (apply wpW_light; (case h => (intro wa; (first | (go_big_quiet_skip; exact wpQuiet_nil rfl) | (go_big_quiet_want; go_big_quiet_op; go_big_quiet_on; exact wpQuiet_nil rfl))))) | (apply wpW_here; (case h => (first | (go_big_quiet_skip; exact wpQuiet_nil rfl) | (go_big_quiet_want; go_big_quiet_op; go_big_quiet_on; exact wpQuiet_nil rfl)))) | (apply wpW_held; (case hC => assumption); (case h => (intro wa hCa; simp only [] at hCa; (first | (go_big_quiet_skip; exact wpQuiet_nil rfl) | (go_big_quiet_want; go_big_quiet_op; go_big_quiet_on; exact wpQuiet_nil rfl)))))))
        refine wpW_nil ?_
        go_wp2_with (fail)
        go_meet
        exact ⟨x9, b2, c2, a2, m2, d2, rfl, rfl, rfl, gx, x2.set G.n G.d.k0 G.d.k1 G.d.s0 G.d.s1 (.slice b2 GL c2) GN, rows7 (.inl rfl) g1 x2, rows7 (.inr rfl) g2 x2, below7 H2 gx, gf⟩
    case rest =>
    obtain ⟨x9, b2, c2, a2, m2, d2, rfl, rfl, rfl, gx, hx9, g1, g2, H9, gf⟩ := hcut
    obtain ⟨w10, hw⟩ : ∃ w, w = wc := ⟨_, rfl⟩
    subst hw
    have s10 := hS1.out.below H9 hxl
    have z10 := hZ1.out.below H9 hZ1.out.lt
    have B10 := hB1.out.trans (H9.mono hB1.out.size)
    have o10 := own_below hO1.out H9 (Nat.le_refl _)
    have ns : x9 ≠ W.heap.size := by omega
    have nz : x9 ≠ W.heap.size + 1 := by omega
    have s10' := Go.Lib.hid s10
    have z10' := Go.Lib.hid z10
    have B10' := Go.Lib.hid B10
    have g1' := Go.Lib.hid g1
    have g2' := Go.Lib.hid g2
    have gf' := Go.Lib.hid gf
    obtain ⟨i0, i1, i2, i3, i4, i5, i6, i7, i8, i9, i10, i11, i12, i13⟩ := s10.cells
    obtain ⟨j0, j1, j2, j3, j4, j5, j6, j7, j8, j9, j10, j11, j12, j13⟩ := z10.cells
    obtain ⟨n0, n1, n2, n3, n4, n5, n6, n7, n8, n9, n10, n11, n12, n13⟩ := hx9.cells
    clear s10 z10 B10 g1 g2 gf hcell hblt hS1 hZ1 hB1 hR1 hpr fd
    by_cases he : G.e = 0
    · obtain ⟨l1, r1, k1, h1, h2, h3, h4, h5, h6⟩ := fed_is m (Q ++ bytesB p) E hQ'.out.d (by rw [← hG'.out]; exact he)
      obtain ⟨hv, hv2, hv3⟩ := fed_valid hQ'.out.d hQ'.out.n4 h1
      have hG2 : G = ⟨l1, r1, k1, after E l1, 0⟩ := by rw [hG'.out, h1]
      have hst := Go.Lib.hid (show F = glueF (l ++ l1) (feedS k1 r1 (after E l1) (ps.drop (k + 1))) by
        rw [hFl'.out, hdrop, feedS_ok h1, glueF_glue])
      have hv' := Go.Lib.hid hv
      have hv3' := Go.Lib.hid hv3
      have hlen1 : (l ++ l1).length = l.length + l1.length := List.length_append
      have m2e : m2 = l1.length := by have := g2'.out.hlen; rw [List.length_map, hG2] at this; exact this.symm
      have heI : (G.e : Int) = 0 := by omega
      clear h2 h3 h4 h5 h6 hv hv3
      have ap : ∀ g, (Value.slice av l.length cv).ownBlock = some g → g ≠ W.heap.size := fun g e => by have := (o10.lt g e).1; omega
      have hlb : l.length + m2 ≤ 4000 := by have := hml'.out; omega
      go_wp2_with (at_builtin; refine law_appendRowK elU32 _ rfl _ _ rfl (W.heap.size + 1 + 1) _ l.length (l.map Int.ofNat) rfl (own_setG (own_setG (own_setG (own_setG (own_setG (own_setG (own_setG o10 ap _ _) ap _ _) ap _ _) ap _ _) ap _ _) ap _ _) ap _ _) a2 m2 d2 (G.l.map Int.ofNat) rfl (rows7 (.inr rfl) g2'.out s10'.out) (by omega) (by have := H9.size; simp; omega) ?_)
      intro v5 q5 o5 hg5
      have e5 : (l.map Int.ofNat) ++ (l1.map Int.ofNat) = (l ++ l1).map Int.ofNat := by rw [List.map_append]
      rw [e5, ← hlen1] at o5
      obtain ⟨a5, c5, rfl⟩ := own_form o5
      have apz : ∀ g, (Value.slice av l.length cv).ownBlock = some g → g ≠ W.heap.size + 1 := fun g e => by have := (o10.lt g e).1; omega
      have s5 := Go.Lib.hid ((s10'.out.set k1 (after E l1).k0 (after E l1).k1 (after E l1).s0 (after E l1).s1 (.slice b2 GL c2) GN).grown hg5 (fun e => ap _ e.symm rfl))
      have z5 := Go.Lib.hid (((((((((z10'.out.other (by simp) _).other (by simp) _).other (by simp) _).other (by simp) _).other (by simp) _).other (by simp) _).other (by simp) _)).grown hg5 (fun e => apz _ e.symm rfl))
      have r5 := Go.Lib.hid (Row.grown (rows7 (.inl rfl) g1'.out s10'.out) hg5 (gf'.out.imp id fun ⟨g, o, e1, e2⟩ => ⟨g, o, e1, fun e => by have := (hO1.out.lt g e.symm).2; omega⟩))
      have B5 := Go.Lib.hid ((below7 B10'.out (Nat.le_refl _)).grown hg5 (by have := B10'.out.size; simp; omega) (fun g e => by have := (o10.lt g e).1; omega))
      have z5s : W.heap.size + 1 + 1 ≤ q5.heap.size := Nat.le_trans (by have := H9.size; simp; omega) hg5.size
      have o5' := Go.Lib.hid o5
      clear o5 hg5 apz ap e5 hO1 o10 s10' z10' B10' g1' g2' gf' H9 i0 i1 i2 i3 i4 i5 i6 i7 i8 i9 i10 i11 i12 i13 j0 j1 j2 j3 j4 j5 j6 j7 j8 j9 j10 j11 j12 j13 n0 n1 n2 n3 n4 n5 n6 n7 n8 n9 n10 n11 n12 n13
      go_wp2
      go_roundg (np - (k + 1))
      case measure => (have hgk := hgo.out; omega)
      case rel =>
        have hml2 := hml'.out
        have hGN2 := hGN'.out
        have hGL2 := hGL'.out
        subst hG2
        refine ⟨k + 1, k1, r1, after E l1, l ++ l1, _, b2, c2, GL, GN, by omega, rfl, by go_num, rfl, hst.out, hv'.out, by rw [hGL2, hGN2], hGN2, by rw [hlen1]; omega, fun x hx => ?_, o5'.out, r5.out, s5.out, z5.out, B5.out, z5s⟩
        rcases List.mem_append.1 hx with hx | hx
        · exact hl'.out x hx
        · exact hv3'.out x hx
    · have hGE : G = fedE 12 ∨ G = fedE 38 := by rw [hG'.out]; exact fed_no m _ E hQ'.out.d (by rw [← hG'.out]; exact he)
      have hfin : Hid (F = fedE G.e) := Go.Lib.hid (by
        rw [hFl'.out, hdrop, feedS_er (by rw [← hG'.out]; exact he), ← hG'.out]
        rcases hGE with h | h <;> rw [h, glueF_E _ (by decide)] <;> rfl)
      have heI : ¬ (G.e : Int) = 0 := by omega
      go_wp2
      (try simp only [Exit.inBlock, Exit.then])
      refine bodyPost_ret (results_res_two (by rfl) _ _ (W.heap.size + 1) _ _ _ _ _ _ _ rfl (z10'.out.set 0 0 0 0 0 (.slice none 0 0) 0)) rfl ?_
      rw [hfin.out]
      exact ⟨none, 0, none, 0, 0, by simp [fedE], row_fedE _ _, Row.nil_row _ _, below7 B10'.out (by omega)⟩
  · obtain rfl : k = np := by omega
    have hfin : Hid (F = ⟨l, Q, m, E, 0⟩) := Go.Lib.hid (by
      rw [hFl'.out, List.drop_eq_nil_of_le (by rw [hnp'.out]; exact Nat.le_refl _)]
      show glueF l ⟨[], Q, m, E, 0⟩ = _
      rw [glueF_ok, List.append_nil])
    have hlt' : ¬ (k : Int) < k := by omega
    obtain ⟨i0, i1, i2, i3, i4, i5, i6, i7, i8, i9, i10, i11, i12, i13⟩ := hS1.out.cells
    obtain ⟨j0, j1, j2, j3, j4, j5, j6, j7, j8, j9, j10, j11, j12, j13⟩ := hZ1.out.cells
    clear hx
    go_wp2
    (try simp only [Exit.inBlock, Exit.then])
    refine bodyPost_ret (results_res_two (by rfl) _ _ (W.heap.size + 1) _ _ _ _ _ _ _ rfl (hZ1.out.set m E.k0 E.k1 E.s0 E.s1 (.slice bb QL cc) QN)) rfl ?_
    rw [hfin.out]
    have h1 := hQL'.out
    have h2 := hQN'.out
    subst h1 h2
    exact ⟨bb, cc, av, l.length, cv, by simp, rows7 (.inl rfl) hR1.out hZ1.out, rows7 (.inr rfl) (Row.of_own hO1.out (natsU _ hl'.out)) hZ1.out, below7 hB1.out (by omega)⟩
end Go.Proofs.Ytcodofmghbgoeaa

/- What Feed says of valid states, its Rest being new. -/
namespace Go.Proofs.Ytcodofmghbgoeaa
open Go.RowKit Cad
theorem PsFeed_says : FeedSays := fun w aa cap n D R ab nb cb bl hr hok hbr hbl h256 hnb => by
  have := PsFeed_new w aa _ cap n D R ab nb cb bl hr hok hbr hbl h256 hnb
  unfold ResG at this
  exact this
end Go.Proofs.Ytcodofmghbgoeaa
