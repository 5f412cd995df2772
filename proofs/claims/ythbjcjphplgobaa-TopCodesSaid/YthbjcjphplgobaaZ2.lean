/- Texts of the proof, one behind the other: BitN, BitO, BitF, BitA, BitB, MyBitA, RegT, MyBitB, MyBitC. -/
import Derived.Test.YthbjcjphplgobaaZ1
import Derived.Deep.RegionLaw
import Derived.Deep.RegionWith
import Derived.Deep.QuietTactic
import Derived.BigQuiet
import Derived.Laws.CopyOwn
/- Contracts of the reference's functions on bits: numbers put. -/
namespace Go.Proofs.Ythbjcjphplgobaa
open Go.RowKit Cad

theorem Kept.setCell {base : Nat} {W w : World} (h : Kept base W w) (hb : base ≤ W.heap.size) {p : Addr} (hp : W.heap.size ≤ p.block) (u : Value) : Kept base W (w.setCell p u) :=
  ⟨h.bel.setCell (by omega) u, fun k hk hn => by rw [Below.heap_setCell _ _ _ _ (by omega)]; exact h.oth k hk hn⟩
theorem Kept.alloc {base : Nat} {W w : World} (h : Kept base W w) (hb : base ≤ W.heap.size) (o : Obj) : Kept base W (w.alloc o) :=
  ⟨h.bel.alloc (Nat.le_trans hb h.bel.size) o, fun k hk hn => by rw [Below.heap_alloc _ _ _ (Nat.lt_of_lt_of_le hk h.bel.size)]; exact h.oth k hk hn⟩
/-- a variable that holds bits: its block -/
def BoxAt (w : World) (x : Nat) (v : Value) (N : Int) : Prop := w.heap[x]? = some (.cells #[v, .int .i64 N] 45)
theorem BoxAt.cells {w : World} {x : Nat} {v : Value} {N : Int} (h : BoxAt w x v N) : w.cell? ⟨x, 0, none⟩ = some v ∧ w.cell? ⟨x, 1, none⟩ = some (.int .i64 N) ∧ w.frozen? ⟨x, 0, none⟩ = false ∧ w.frozen? ⟨x, 1, none⟩ = false := by
  unfold BoxAt at h
  refine ⟨?_, ?_, ?_, ?_⟩
  · unfold World.cell?; rw [h]; rfl
  · unfold World.cell?; rw [h]; rfl
  · unfold World.frozen?; rw [h]; simp
  · unfold World.frozen?; rw [h]; simp
theorem BoxAt.kept {w w' : World} {base x : Nat} {v : Value} {N : Int} (h : BoxAt w x v N) (k : Kept base w w') : BoxAt w' x v N := by
  unfold BoxAt at h ⊢
  have hx : x < w.heap.size := by
    apply Classical.byContradiction; intro hx; rw [Array.getElem?_eq_none (by omega)] at h; cases h
  rw [k.oth x hx (fun cur fr e => by rw [h] at e; simp at e), h]
theorem BoxAt.set {w : World} {x : Nat} {v : Value} {N : Int} (h : BoxAt w x v N) (v' : Value) (N' : Int) : BoxAt ((w.setCell ⟨x, 0, none⟩ v').setCell ⟨x, 1, none⟩ (.int .i64 N')) x v' N' := by
  have := heap_setCell_same _ _ 1 _ _ (.int .i64 N') (heap_setCell_same _ _ 0 _ _ v' h)
  unfold BoxAt
  rw [this]; simp
theorem BoxAt.other {w : World} {x : Nat} {v : Value} {N : Int} (h : BoxAt w x v N) {p : Addr} (hp : x ≠ p.block) (u : Value) : BoxAt (w.setCell p u) x v N := by
  unfold BoxAt at h ⊢
  rw [Below.heap_setCell _ _ _ _ hp, h]
theorem BoxAt.apart {w : World} {x : Nat} {v : Value} {N : Int} (h : BoxAt w x v N) {base n : Nat} {v' : Value} {xs : List Value} (ho : w.ownsRow base 5 1 v' n xs) : ∀ g, v'.ownBlock = some g → g ≠ x := by
  intro g e
  rcases ho.2 with ⟨rfl, _⟩ | ⟨g', cap, cur, rfl, _, hh, _⟩
  · cases e
  · cases e
    rintro rfl
    unfold BoxAt at h
    rw [h] at hh; simp at hh
theorem own_set {w : World} {x : Nat} {base n : Nat} {v' : Value} {xs : List Value} (ho : w.ownsRow base 5 1 v' n xs) (ha : ∀ g, v'.ownBlock = some g → g ≠ x) (o : Nat) (u : Value) : (w.setCell ⟨x, o, none⟩ u).ownsRow base 5 1 v' n xs :=
  own_congr ho fun g e => by rw [Below.heap_setCell _ _ _ _ (ha g e)]

end Go.Proofs.Ythbjcjphplgobaa

/- Contracts of the reference's functions on bits: bits of bytes. -/
namespace Go.Proofs.Ythbjcjphplgobaa
open Go.RowKit Cad

/-- a struct result in a cell, and a number beside it -/
theorem results_box_tmp {fn : Func} {p u : Tmp} (h : fn.results = #[.cell p 45, .tmp u]) (tmps : Array Value) (w : World) (x : Nat) (v : Value) (N : Int) (hp : tmps.getD p undef = .pointer (some ⟨x, 0, none⟩)) (hx : BoxAt w x v N) :
    (results fn tmps).run Try.prog w = .ok (.tuple #[.agg #[v, .int .i64 N], tmps.getD u undef]) w := by
  rw [results_cell_tmp h, hp]
  have := run_loadVar_row (P := Try.prog) w x _ 45 _ _ _ hx Try.underlying45 rfl (by kernel_rfl)
  simp [asAddr, Sem.run_pure, this]

end Go.Proofs.Ythbjcjphplgobaa

/- Contracts of the reference's functions on bits: filled up. -/
namespace Go.Proofs.Ythbjcjphplgobaa
open Go.RowKit Cad

theorem BoxAt.below {w w' : World} {B x : Nat} {v : Value} {N : Int} (h : BoxAt w x v N) (hb : Below B w w') (hx : x < B) : BoxAt w' x v N := by
  unfold BoxAt at h ⊢
  rw [hb.block x hx, h]
theorem BoxAt.alloc {w : World} {x : Nat} {v : Value} {N : Int} (h : BoxAt w x v N) (o : Obj) : BoxAt (w.alloc o) x v N := by
  have hx : x < w.heap.size := by
    apply Classical.byContradiction; intro hx; unfold BoxAt at h; rw [Array.getElem?_eq_none (by omega)] at h; cases h
  unfold BoxAt at h ⊢
  rw [Below.heap_alloc _ _ _ hx, h]
end Go.Proofs.Ythbjcjphplgobaa

/- Contracts of the reference's functions on bits: aligned. -/
namespace Go.Proofs.Ythbjcjphplgobaa
open Go.RowKit Cad

end Go.Proofs.Ythbjcjphplgobaa

/- Contracts of the reference's functions on bits: parts. -/
namespace Go.Proofs.Ythbjcjphplgobaa
open Go.RowKit Cad

/-- the bits from i up to k -/
def midB (B : List Bool) (i k : Nat) : List Bool := (B.drop i).take (k - i)
theorem midB_len (B : List Bool) {i k : Nat} (h : i ≤ k) (hk : k ≤ B.length) : (midB B i k).length = k - i := by simp [midB]; omega
theorem midB_snoc (B : List Bool) {i k : Nat} (h : i ≤ k) (hk : k < B.length) : midB B i (k + 1) = midB B i k ++ [B.getD k false] := by
  unfold midB
  rw [show k + 1 - i = (k - i) + 1 by omega, List.take_add_one, List.getElem?_drop, show i + (k - i) = k by omega]
  simp [List.getD, hk]
theorem BoxAt.drew {w : World} {x : Nat} {v : Value} {N : Int} (h : BoxAt w x v N) : BoxAt w.drew x v N := h
theorem BoxAt.lt {w : World} {x : Nat} {v : Value} {N : Int} (h : BoxAt w x v N) : x < w.heap.size := by
  apply Classical.byContradiction; intro hx; unfold BoxAt at h; rw [Array.getElem?_eq_none (by omega)] at h; cases h
theorem Kept.drew {base : Nat} {W w : World} (h : Kept base W w) : Kept base W w.drew := ⟨h.bel.drew, h.oth⟩
theorem Kept.below {base B : Nat} {w w' : World} (h : Below B w w') (hb : base ≤ B) (hs : w.heap.size ≤ B) : Kept base w w' := ⟨h.mono hb, fun k hk _ => h.block k (Nat.lt_of_lt_of_le hk hs)⟩

/-- behind 'out = Add(out, At(b, i))' -/
theorem added {W wr wA wB : World} {z x y : Nat} {vx vy vz v1 : Value} {Nx Ny Nz N1 : Int} {n : Nat} {xs : List Value} (hk : Kept W.heap.size W wr) (hbA : Below wr.drew.heap.size wr.drew wA) (hkB : Kept W.heap.size wA wB)
    (ho : wB.ownsRow W.heap.size 5 1 v1 n xs) (hx : BoxAt wr x vx Nx) (hy : BoxAt wr y vy Ny) (hz : BoxAt wr z vz Nz) (hxz : x ≠ z) (hyz : y ≠ z) (hW : W.heap.size ≤ z) :
    ((wB.setCell ⟨z, 0, none⟩ v1).setCell ⟨z, 1, none⟩ (.int .i64 N1)).ownsRow W.heap.size 5 1 v1 n xs ∧ BoxAt ((wB.setCell ⟨z, 0, none⟩ v1).setCell ⟨z, 1, none⟩ (.int .i64 N1)) x vx Nx ∧
    BoxAt ((wB.setCell ⟨z, 0, none⟩ v1).setCell ⟨z, 1, none⟩ (.int .i64 N1)) y vy Ny ∧ BoxAt ((wB.setCell ⟨z, 0, none⟩ v1).setCell ⟨z, 1, none⟩ (.int .i64 N1)) z v1 N1 ∧
    Kept W.heap.size W ((wB.setCell ⟨z, 0, none⟩ v1).setCell ⟨z, 1, none⟩ (.int .i64 N1)) := by
  have hxB := (hx.drew.below hbA hx.lt).kept hkB
  have hyB := (hy.drew.below hbA hy.lt).kept hkB
  have hzB := (hz.drew.below hbA hz.lt).kept hkB
  have ap := hzB.apart ho
  refine ⟨own_set (own_set ho ap _ _) ap _ _, (hxB.other hxz _).other hxz _, (hyB.other hyz _).other hyz _, hzB.set _ _, ?_⟩
  exact (((hk.drew.trans (Kept.below hbA (Nat.le_trans hk.bel.size (Nat.le_refl _)) (Nat.le_refl _))).trans hkB).setCell (Nat.le_refl _) hW _).setCell (Nat.le_refl _) hW _

end Go.Proofs.Ythbjcjphplgobaa

/- Contracts of the package bits: sizes, spare bits, checks. -/
namespace Go.Proofs.Ythbjcjphplgobaa
open Go.RowKit Cad

theorem spare_iff {l : List Int} {n : Nat} (hl : ∀ x ∈ l, 0 ≤ x ∧ x ≤ 255) (hlen : l.length = (n + 7) / 8) (hn : n ≤ 330000) : Valid l n ↔ n % 8 = 0 ∨ l.getD (l.length - 1) 0 / 2 ^ (n % 8) = 0 := by
  constructor
  · rintro ⟨B, hB, _, rfl⟩
    have hB : B.length = n := by omega
    by_cases h8 : n % 8 = 0
    · exact .inl h8
    · refine .inr ?_
      rw [pack_getD _ _ (by omega), hlen]
      have hb := byteN_lt B ((n + 7) / 8 - 1)
      have hz : byteN B ((n + 7) / 8 - 1) / 2 ^ (n % 8) = 0 := by
        apply Nat.div_eq_of_lt
        apply Nat.lt_pow_two_of_testBit
        intro i hi
        rw [Nat.testBit_eq_decide_div_mod_eq]
        by_cases h : i < 8
        · have := byteN_bit B ((n + 7) / 8 - 1) i h
          rw [getD_ge B _ (by omega)] at this
          simpa using this
        · have : byteN B ((n + 7) / 8 - 1) / 2 ^ i = 0 := Nat.div_eq_of_lt (Nat.lt_of_lt_of_le hb (Nat.pow_le_pow_right (n := 2) (by decide) (show 8 ≤ i by omega)))
          rw [this]; rfl
      generalize byteN B ((n + 7) / 8 - 1) = c at *
      rw [show ((c : Int) / 2 ^ (n % 8)) = ((c / 2 ^ (n % 8) : Nat) : Int) by simp, hz]; rfl
  · intro h
    refine Valid_of hl (by omega) (by omega) (by omega) fun i hi hj => ?_
    rcases h with h | h
    · omega
    · have hj' : i / 8 = l.length - 1 := by omega
      unfold bit
      rw [hj']
      have hb := getD_bd hl (l.length - 1)
      obtain ⟨c, hc⟩ : ∃ c : Nat, l.getD (l.length - 1) 0 = c := ⟨(l.getD (l.length - 1) 0).toNat, by omega⟩
      rw [hc] at h ⊢
      have h0 : c / 2 ^ (n % 8) = 0 := by
        have : ((c : Int) / 2 ^ (n % 8)) = ((c / 2 ^ (n % 8) : Nat) : Int) := by simp
        omega
      have h1 : c / 2 ^ (i % 8) = 0 := by
        have : i % 8 = n % 8 + (i % 8 - n % 8) := by omega
        rw [this, Nat.pow_add, ← Nat.div_div_eq_div_mul, h0]; simp
      rw [Int.toNat_natCast, h1]; rfl

theorem Bsize_ok (W : World) (n : Nat) (h1 : n ≤ 1000000000) :
    Calls Try.prog 81 #[.int .i64 n] W fun e W' => e = .returned (.int .i64 (((n + 7) / 8 : Nat) : Int)) ∧ W = W' := by
  go_enter Try.func81, Try.ntmps81
  go_wp2
  go_ret
  exact ⟨by go_num, rfl⟩

/-- what spare says of the last byte -/
def spareV (l : List Int) (n : Nat) : Int := if n % 8 = 0 then 0 else l.getD (l.length - 1) 0 / 2 ^ (n % 8)
theorem Bspare_ok (W : World) (a : Option Addr) (len cap : Nat) (n : Nat) (l : List Int) (hr : Row .u8 W a len cap l) (hn : n ≤ 330000) (hl : len = (n + 7) / 8) :
    Calls Try.prog 82 #[.agg #[.slice a len cap, .int .i64 n]] W fun e W' => e = .returned (.int .u8 (spareV l n)) ∧ Below W.heap.size W W' := by
  have hbE := (Below.refl W.heap.size W).alloc (Nat.le_refl _) (.cells #[.slice a len cap, .int .i64 n] 45)
  have hmax := hr.hmax
  have hcap := hr.hcap
  have hlen := hr.hlen
  unfold maxLen at hmax
  unfold spareV
  by_cases h8 : n % 8 = 0
  · rw [if_pos h8]
    clear hl hlen
    go_enter Try.func82, Try.ntmps82
    go_wp2
    go_ret
    exact ⟨rfl, hbE⟩
  · rw [if_neg h8]
    obtain ⟨b, off, rfl, hlt, hc⟩ := hr.cells (by omega)
    have hcell := hc (len - 1) (by omega)
    have hb := getD_bd (u8_bd hr.wf) (len - 1)
    have hp : 1 ≤ len := by omega
    rw [hlen]
    obtain ⟨c, hcc⟩ : ∃ c, c = l.getD (len - 1) 0 := ⟨_, rfl⟩
    rw [← hcc] at hcell hb ⊢
    clear hcc hc hr hl hlen
    go_enter Try.func82, Try.ntmps82
    go_wp2
    go_ret
    exact ⟨by go_num, hbE⟩
end Go.Proofs.Ythbjcjphplgobaa

/- A region that draws its order: a head that leaves the world alone, walked by the cheap steps, and a tail in one forced order. No Go function in sight. -/
namespace Go.Proofs.Ythbjcjphplgobaa
open Go.RowKit

theorem still_of_quiet {P : Program} {ops : Array Oper} {w : World} {Q : Act → Prop} : ∀ (l : List Oper) (a : Act), wpQuiet P ops (fun w' => w' = w) Q l a → wpStill P ops w Q l a
  | [], _, h => h
  | o :: l, a, h => by
    unfold wpQuiet at h
    unfold wpStill
    by_cases hw : Region.wanted o (yielded ops a.tmps) = true
    · rw [if_pos hw] at h ⊢
      obtain ⟨v, h1, h2⟩ := h
      have h3 := h1 w rfl
      have h4 := still_of_quiet l _ h2
      unfold Oper.quietAt at h3
      unfold Oper.still Oper.stillUpon
      generalize (execOp a.eval o).run P w = r at *
      cases r with
      | ok n w' =>
        cases n <;> simp only [Oper.quietUpon] at h3 ⊢
        case value u => exact ⟨h3.1, by rw [h3.2]; exact h4⟩
        case skip => exact ⟨h3.1, by rw [← h3.2]; exact h4⟩
        case enter f args => exact ⟨h3.1, v, h3.2, h4⟩
      | halt x w' => simp only [Oper.quietUpon] at h3
    · rw [if_neg hw] at h ⊢
      exact still_of_quiet l _ h

theorem wp_region_quiet_tail {P : Program} {id : Nat} {Q : Exit → Act → World → Prop} {a : Act} {w : World} {l : List Oper} (n : Nat) (hm : P.follows .mixedOrders = true) (hB : Region.lexTailB .any l.toArray n = true)
    (h : wpQuiet P l.toArray (fun w' => w' = w.drew) (fun a' => wpList P l.toArray Q (l.drop n) a' w.drew) (l.take n) a) : (Code.region id l.toArray true).wp P Q a w :=
  wp_region_still_tail n hm hB (still_of_quiet _ _ h)
end Go.Proofs.Ythbjcjphplgobaa

/- Contracts of the package bits: Check. -/
namespace Go.Proofs.Ythbjcjphplgobaa
open Go.RowKit Cad

theorem BCheck_neg (W : World) (a : Option Addr) (len cap : Nat) (N : Int) (h0 : N < 0) (_bN : -9223372036854775808 ≤ N) :
    Calls Try.prog 55 #[.agg #[.slice a len cap, .int .i64 N]] W fun e W' => e = .returned (.int .i64 8) ∧ Below W.heap.size W W' := by
  have hbel := ((Below.refl W.heap.size W).alloc (Nat.le_refl _) (.cells #[.slice a len cap, .int .i64 N] 45))
  go_enter Try.func55, Try.ntmps55
  go_wp2
  go_quiet (fail)
  all_goals go_wp2
  all_goals go_ret
  all_goals exact ⟨rfl, Below.drewN hbel _⟩

theorem BCheck_great (W : World) (a : Option Addr) (len cap : Nat) (N : Int) (h0 : ¬ N < 0) (h1 : N > 330000) (_bN : N ≤ 9223372036854775807) :
    Calls Try.prog 55 #[.agg #[.slice a len cap, .int .i64 N]] W fun e W' => e = .returned (.int .i64 8) ∧ Below W.heap.size W W' := by
  have hbel := ((Below.refl W.heap.size W).alloc (Nat.le_refl _) (.cells #[.slice a len cap, .int .i64 N] 45))
  have c0 : decide (N < 0) = false := decide_eq_false h0
  have c1 : (330000 : Int) < N := h1
  clear h0
  go_enter Try.func55, Try.ntmps55
  go_wp2
  go_quiet (fail)
  all_goals go_wp2
  all_goals go_ret
  all_goals exact ⟨rfl, Below.drewN hbel _⟩

theorem BCheck_len (W : World) (a : Option Addr) (len cap n : Nat) (h1 : (n : Int) ≤ 330000) (h2 : len ≠ (n + 7) / 8) (_hl : len ≤ 9223372036854775807) :
    Calls Try.prog 55 #[.agg #[.slice a len cap, .int .i64 n]] W fun e W' => e = .returned (.int .i64 8) ∧ Below W.heap.size W W' := by
  have hbel := ((Below.refl W.heap.size W).alloc (Nat.le_refl _) (.cells #[.slice a len cap, .int .i64 n] 45))
  have h3 : ¬ ((len : Int) = (((n + 7) / 8 : Nat) : Int)) := by omega
  have hsz := Go.Lib.hid (fun w => Bsize_ok w n (by omega))
  obtain ⟨m, hm⟩ : ∃ m, m = (n + 7) / 8 := ⟨_, rfl⟩
  rw [← hm] at h3 hsz
  clear h2 hm
  have c0 : decide ((n : Int) < 0) = false := decide_eq_false (by omega)
  have c1 : decide ((330000 : Int) < n) = false := decide_eq_false (by omega)
  go_enter Try.func55, Try.ntmps55
  go_wp2
  go_quiet ((go_at_call 81; refine (hsz.out _).mono ?_; rintro e w1 ⟨rfl, rfl⟩; exact ⟨rfl, _, rfl⟩))
  all_goals go_wp2
  all_goals go_ret
  all_goals exact ⟨rfl, Below.drewN hbel _⟩

theorem BCheck_in (W : World) (a : Option Addr) (len cap n : Nat) (s : Int) (_hs0 : 0 ≤ s ∧ s ≤ 255) (h1 : (n : Int) ≤ 330000) (h2 : len = (n + 7) / 8) (_hl : len ≤ 9223372036854775807)
    (hsp : Hid (∀ w, Below W.heap.size W w → Calls Try.prog 82 #[.agg #[.slice a len cap, .int .i64 n]] w fun e W' => e = .returned (.int .u8 s) ∧ Below w.heap.size w W')) :
    Calls Try.prog 55 #[.agg #[.slice a len cap, .int .i64 n]] W fun e W' => e = .returned (.int .i64 (if s = 0 then 0 else 8)) ∧ Below W.heap.size W W' := by
  have hbel := ((Below.refl W.heap.size W).alloc (Nat.le_refl _) (.cells #[.slice a len cap, .int .i64 n] 45)).drew
  have hbel' := Go.Lib.hid hbel
  have hsz := Go.Lib.hid (fun w => Bsize_ok w n (by omega))
  rw [← h2] at hsz
  clear h2 hbel
  have c0 : decide ((n : Int) < 0) = false := decide_eq_false (by omega)
  have c1 : decide ((330000 : Int) < n) = false := decide_eq_false (by omega)
  by_cases h4 : s = 0
  all_goals
    go_enter Try.func55, Try.ntmps55
    go_wp2
    refine wp_region_quiet_tail 18 (by kernel_rfl) (by kernel_rfl) ?_
    simp only [List.take_succ_cons, List.take_zero, List.drop_succ_cons, List.drop_zero]
    repeat (first
      | go_big_quiet_skip
      | (go_big_quiet_want; go_big_quiet_op; first | go_big_quiet_on | (apply Exists.intro; refine ⟨?_, ?_⟩; (focus (go_at_call 81; refine (hsz.out _).mono ?_; rintro e w1 ⟨rfl, rfl⟩; exact ⟨rfl, rfl⟩)); go_big_quiet_on)))
    refine wpQuiet_nil ?_
    go_wp2_with (go_at_call 82; refine (hsp.out _ hbel'.out).mono ?_; rintro e w1 ⟨rfl, hb1⟩)
    go_ret
    exact ⟨ret_int (by simp ), hbel'.out.trans (hb1.mono (by simp))⟩

theorem BCheck_any (W : World) (a : Option Addr) (len cap : Nat) (N : Int) (l : List Int) (hr : Row .u8 W a len cap l) (hN : (Lit.int .i64 N).wf = true) (r : Int) (hr0 : chk l N r) :
    Calls Try.prog 55 #[.agg #[.slice a len cap, .int .i64 N]] W fun e W' => e = .returned (.int .i64 r) ∧ Below W.heap.size W W' := by
  have hmax := hr.hmax
  have hcap := hr.hcap
  have hlen := hr.hlen
  have bN := bounds_i64 hN
  unfold maxLen at hmax
  by_cases h0 : N < 0
  · obtain rfl := hr0.no fun h => by have := h.n; omega
    exact BCheck_neg W a len cap N h0 bN.1
  by_cases h1 : N > 330000
  · obtain rfl := hr0.no fun h => by have := h.n; omega
    exact BCheck_great W a len cap N h0 h1 bN.2
  obtain ⟨n, rfl⟩ : ∃ n : Nat, N = n := ⟨N.toNat, by omega⟩
  by_cases h2 : len = (n + 7) / 8
  · have key : Valid l n ↔ spareV l n = 0 := by
      rw [spare_iff (u8_bd hr.wf) (by omega) (by omega)]
      unfold spareV
      split <;> simp_all
    have hr1 : r = if spareV l n = 0 then 0 else 8 := by
      by_cases hv : spareV l n = 0
      · rw [if_pos hv]; exact hr0.yes (key.2 hv)
      · rw [if_neg hv]; exact hr0.no fun h => hv (key.1 h)
    have hb := getD_bd (u8_bd hr.wf) (l.length - 1)
    have hsb : 0 ≤ spareV l n ∧ spareV l n ≤ 255 := by
      unfold spareV
      split
      · exact ⟨by decide, by decide⟩
      · exact ⟨Int.ediv_nonneg hb.1 (Int.pow_nonneg (by decide)), Int.le_trans (Int.ediv_le_self _ hb.1) hb.2⟩
    rw [hr1]
    exact BCheck_in W a len cap n _ hsb (by omega) h2 (by omega) (Go.Lib.hid fun w hw => Bspare_ok w a len cap n l (hr.below hw (Nat.le_refl _)) (by omega) h2)
  · obtain rfl := hr0.no fun h => by have := h.n; omega
    exact BCheck_len W a len cap n (by omega) h2 (by omega)
end Go.Proofs.Ythbjcjphplgobaa

/- Contracts of the package bits: copies, bits of bytes, aligned bits. -/
namespace Go.Proofs.Ythbjcjphplgobaa
open Go.RowKit Cad

theorem Bcopied_ok (W : World) (a : Option Addr) (len cap : Nat) (l : List Int) (hr : Row .u8 W a len cap l) (hlen : len ≤ 1000000000) :
    Calls Try.prog 70 #[.slice a len cap] W fun e W' => ∃ v', e = .returned v' ∧
      W'.ownsRow W.heap.size 5 1 v' len (nums .u8 l) ∧ Below W.heap.size W W' := by
  have hr' := Go.Lib.hid hr
  clear hr
  go_enter Try.func70, Try.ntmps70
  go_wp2_with (first
    | (refine law_make elU8 _ rfl _ _ rfl .i64 .i64 _ _ len rfl rfl (by omega) (by omega) (by omega) ?_; intro w1 hown1 hb1 hs1; have hr1 := (hr'.out.below hb1 (Nat.le_refl _)); have hown1' := Go.Lib.hid hown1; have hb1' := Go.Lib.hid hb1; clear hown1 hb1)
    | (with_reducible show wpList _ _ _ _ _ _; refine law_copyRow elU8 _ rfl _ _ _ rfl W.heap.size W.heap.size len len (List.replicate len 0) rfl hown1'.out a len cap l rfl hr1 (Nat.le_refl _) ?_; intro w2 hown2 hb2; have hown2' := Go.Lib.hid hown2; have hb2' := Go.Lib.hid hb2; clear hown2 hb2))
  go_ret
  refine ⟨_, rfl, by simpa using hown2'.out, hb1'.out.trans hb2'.out⟩

theorem BOf_many (W : World) (a : Option Addr) (len cap : Nat) (h : (41250 : Int) < len) (_hl : len ≤ 9223372036854775807) :
    Calls Try.prog 54 #[.slice a len cap] W fun e W' => e = .returned (.tuple #[.agg #[.slice none 0 0, .int .i64 0], .int .i64 4]) ∧ Below W.heap.size W W' := by
  go_enter Try.func54, Try.ntmps54
  go_wp2
  go_returns
  exact ⟨rfl, (Below.refl _ _).alloc (Nat.le_refl _) _⟩

theorem BOf_ok (W : World) (a : Option Addr) (len cap : Nat) (l : List Int) (hr : Row .u8 W a len cap l) (h : (len : Int) ≤ 41250) :
    Calls Try.prog 54 #[.slice a len cap] W fun e W' => ∃ v', e = .returned (.tuple #[.agg #[v', .int .i64 (8 * (len : Int))], .int .i64 0]) ∧
      W'.ownsRow W.heap.size 5 1 v' len (nums .u8 l) ∧ Below W.heap.size W W' := by
  have hbE := ((Below.refl W.heap.size W).alloc (Nat.le_refl _) (.cells #[.slice none 0 0, .int .i64 0] 45))
  have hcp := Go.Lib.hid (Bcopied_ok _ a len cap l (hr.below hbE (Nat.le_refl _)) (by omega))
  have hy0 : BoxAt (W.alloc (.cells #[.slice none 0 0, .int .i64 0] 45)) W.heap.size (.slice none 0 0) 0 := by
    unfold BoxAt; rw [heap_alloc_new]
  have hbE' := Go.Lib.hid hbE
  have hy0' := Go.Lib.hid hy0
  clear hr hbE hy0
  go_enter Try.func54, Try.ntmps54
  go_wp2_with (go_at_call 70; refine hcp.out.mono ?_; rintro e w1 ⟨v1, rfl, hown1, hb1⟩; obtain ⟨a1, c1, rfl⟩ := own_form hown1; obtain ⟨d0, d1, g0, g1⟩ := (hy0'.out.below hb1 (by simp)).cells; have hb1' := Go.Lib.hid hb1; have ho1' := Go.Lib.hid hown1; clear hb1 hown1)
  (try simp only [Exit.inBlock, Exit.then])
  have hy1 := hy0'.out.below hb1'.out (by simp)
  have ap := hy1.apart ho1'.out
  refine bodyPost_ret (results_box_tmp (by rfl) _ _ W.heap.size _ _ rfl (hy1.set _ _)) rfl ?_
  refine ⟨.slice a1 len c1, by simp [Int.mul_comm], own_set (own_set (own_base ho1'.out (by simp)) ap _ _) ap _ _, ?_⟩
  exact ((hbE'.out.trans (hb1'.out.mono (by simp))).setCell (Nat.le_refl _) _).setCell (Nat.le_refl _) _

theorem BAlign_bad (W : World) (a : Option Addr) (len cap : Nat) (N : Int) (l : List Int) (hr : Row .u8 W a len cap l) (hN : (Lit.int .i64 N).wf = true) (hv : ¬ Valid l N) :
    Calls Try.prog 44 #[.agg #[.slice a len cap, .int .i64 N]] W fun e W' => e = .returned (.tuple #[.agg #[.slice none 0 0, .int .i64 0], .int .i64 8]) ∧ Below W.heap.size W W' := by
  have hbE := ((Below.refl W.heap.size W).alloc (Nat.le_refl _) (.cells #[.slice a len cap, .int .i64 N] 45)).alloc (by simp) (.cells #[.slice none 0 0, .int .i64 0] 45)
  have hrE := hr.below hbE (Nat.le_refl _)
  have hy0 : BoxAt ((W.alloc (.cells #[.slice a len cap, .int .i64 N] 45)).alloc (.cells #[.slice none 0 0, .int .i64 0] 45)) (W.heap.size + 1) (.slice none 0 0) 0 := by
    unfold BoxAt; rw [heap_alloc2_new]
  have hck := Go.Lib.hid (BCheck_any _ a len cap N l hrE hN 8 (.inr ⟨hv, rfl⟩))
  have hy0' := Go.Lib.hid hy0
  have hbE' := Go.Lib.hid hbE
  clear hr hrE hy0 hbE hN
  go_enter Try.func44, Try.ntmps44
  go_wp2_with (go_at_call 55; refine hck.out.mono ?_; rintro e w1 ⟨rfl, hb1⟩; simp only [World.size_alloc] at hb1; obtain ⟨e0, e1, f0, f1⟩ := (hy0'.out.below hb1 (by omega)).cells; have hb1' := Go.Lib.hid hb1; clear hb1)
  (try simp only [Exit.inBlock, Exit.then])
  refine bodyPost_ret (results_box_tmp (by rfl) _ _ (W.heap.size + 1) _ _ rfl ((hy0'.out.below hb1'.out (by omega)).set _ _)) rfl ?_
  exact ⟨rfl, ((hbE'.out.trans (hb1'.out.mono (by omega))).setCell (by simp) _).setCell (by simp) _⟩

theorem BAlign_ok (W : World) (a : Option Addr) (len cap : Nat) (N : Int) (l : List Int) (hr : Row .u8 W a len cap l) (hN : (Lit.int .i64 N).wf = true) (hv : Valid l N) :
    Calls Try.prog 44 #[.agg #[.slice a len cap, .int .i64 N]] W fun e W' => ∃ v', e = .returned (.tuple #[.agg #[v', .int .i64 (8 * (len : Int))], .int .i64 0]) ∧
      W'.ownsRow W.heap.size 5 1 v' len (nums .u8 l) ∧ Below W.heap.size W W' := by
  have hlen : len ≤ 1000000000 := by have := hv.n; have := hr.hlen; omega
  have hbE := ((Below.refl W.heap.size W).alloc (Nat.le_refl _) (.cells #[.slice a len cap, .int .i64 N] 45)).alloc (by simp) (.cells #[.slice none 0 0, .int .i64 0] 45)
  have hrE := hr.below hbE (Nat.le_refl _)
  have hx0 : BoxAt ((W.alloc (.cells #[.slice a len cap, .int .i64 N] 45)).alloc (.cells #[.slice none 0 0, .int .i64 0] 45)) W.heap.size (.slice a len cap) N := by
    unfold BoxAt; rw [Below.heap_alloc _ _ _ (by simp), heap_alloc_new]
  have hy0 : BoxAt ((W.alloc (.cells #[.slice a len cap, .int .i64 N] 45)).alloc (.cells #[.slice none 0 0, .int .i64 0] 45)) (W.heap.size + 1) (.slice none 0 0) 0 := by
    unfold BoxAt; rw [heap_alloc2_new]
  have hck := Go.Lib.hid (BCheck_any _ a len cap N l hrE hN 0 (.inl ⟨hv, rfl⟩))
  have hcp : Hid (∀ w, Below ((W.alloc (.cells #[.slice a len cap, .int .i64 N] 45)).alloc (.cells #[.slice none 0 0, .int .i64 0] 45)).heap.size ((W.alloc (.cells #[.slice a len cap, .int .i64 N] 45)).alloc (.cells #[.slice none 0 0, .int .i64 0] 45)) w → Calls Try.prog 70 #[.slice a len cap] w fun e W' => ∃ v', e = .returned v' ∧
      W'.ownsRow w.heap.size 5 1 v' len (nums .u8 l) ∧ Below w.heap.size w W') := Go.Lib.hid fun w hw => Bcopied_ok w a len cap l (hrE.below hw (Nat.le_refl _)) hlen
  have hx0' := Go.Lib.hid hx0
  have hy0' := Go.Lib.hid hy0
  have hbE' := Go.Lib.hid hbE
  clear hr hrE hy0 hbE hN hx0
  go_enter Try.func44, Try.ntmps44
  go_wp2_with (go_at_call 55; refine hck.out.mono ?_; rintro e w1 ⟨rfl, hb1⟩; obtain ⟨c0, c1, c2, c3⟩ := (hx0'.out.below hb1 (by simp; omega)).cells; have hb1' := Go.Lib.hid hb1; clear hb1)
  go_region_held3 (fun w' => w'.cell? ⟨W.heap.size, 0, none⟩ = some (.slice a len cap) ∧ w'.cell? ⟨W.heap.size, 1, none⟩ = some (.int .i64 N))
    (first
      | go_keep
      | (go_split_ands
         refine ⟨?_, ?_⟩
         · exact ((hx0'.out.below hb12 (by simp; omega)).cells).1
         · exact ((hx0'.out.below hb12 (by simp; omega)).cells).2.1))
    ((go_loud (go_at_call 70; refine (hcp.out _ hb1'.out.drew).mono ?_; rintro e w2 ⟨v2, rfl, hown2, hb2⟩; obtain ⟨a2, c2, rfl⟩ := own_form hown2; have hb12 := hb1'.out.drew.trans (hb2.mono hb1'.out.drew.size); obtain ⟨e0, e1, f0, f1⟩ := (hy0'.out.below hb12 (by simp)).cells)))
  all_goals go_wp2
  all_goals
    (try simp only [Exit.inBlock, Exit.then])
    have hy2 := hy0'.out.below hb12 (by simp)
    have ap := hy2.apart hown2
    have hs := hb1'.out.size
    simp only [World.size_alloc] at hs
    refine bodyPost_ret (results_box_tmp (by rfl) _ _ (W.heap.size + 1) _ _ rfl (hy2.set _ _)) rfl ?_
    have hwr : IntKind.i64.wrap ((len : Int) * 8) = 8 * (len : Int) := by rw [IntWalk.i64_in _ (by omega)]; omega
    refine ⟨.slice a2 len c2, by simp [hwr], own_set (own_set (own_base hown2 (by show W.heap.size ≤ w1.heap.size; omega)) ap _ _) ap _ _, ?_⟩
    exact ((hbE'.out.trans (hb12.mono (by simp only [World.size_alloc]; omega))).setCell (by simp) _).setCell (by simp) _
end Go.Proofs.Ythbjcjphplgobaa
