/- Contracts of the reference's functions on bits: parts. -/
import Derived.Test.YtogkiopdcmeddaaBitA
import Derived.Deep.RegionLaw
import Derived.Deep.RegionWith
namespace Go.Proofs.Ytogkiopdcmeddaa
open Go.RowKit Cad

/-- the bits from i up to k -/
def midB (B : List Bool) (i k : Nat) : List Bool := (B.drop i).take (k - i)
theorem midB_len (B : List Bool) {i k : Nat} (h : i ≤ k) (hk : k ≤ B.length) : (midB B i k).length = k - i := by simp [midB]; omega
theorem midB_snoc (B : List Bool) {i k : Nat} (h : i ≤ k) (hk : k < B.length) : midB B i (k + 1) = midB B i k ++ [B.getD k false] := by
  unfold midB
  rw [show k + 1 - i = (k - i) + 1 by omega, List.take_add_one, List.getElem?_drop, show i + (k - i) = k by omega]
  simp [List.getD, hk]
theorem BoxAt.drew {w : World} {x : Nat} {v : Value} {N : Int} (h : BoxAt w x v N) : BoxAt w.drew x v N := h
theorem own_below {w w' : World} {base e n B : Nat} {v : Value} {xs : List Value} (h : w.ownsRow base e 1 v n xs) (hb : Below B w w') (hB : w.heap.size ≤ B) : w'.ownsRow base e 1 v n xs :=
  own_congr h fun g e => hb.block g (Nat.lt_of_lt_of_le (h.lt g e).2 hB)

theorem BoxAt.lt {w : World} {x : Nat} {v : Value} {N : Int} (h : BoxAt w x v N) : x < w.heap.size := by
  apply Classical.byContradiction; intro hx; unfold BoxAt at h; rw [Array.getElem?_eq_none (by omega)] at h; cases h
theorem Kept.drew {base : Nat} {W w : World} (h : Kept base W w) : Kept base W w.drew := ⟨h.bel.drew, h.oth⟩
theorem Kept.below {base B : Nat} {w w' : World} (h : Below B w w') (hb : base ≤ B) (hs : w.heap.size ≤ B) : Kept base w w' := ⟨h.mono hb, fun k hk _ => h.block k (Nat.lt_of_lt_of_le hk hs)⟩

/-- behind 'out = Add(out, At(b, i))' -/
theorem added {W wr wA wB : World} {z x y : Nat} {vx vy vz v1 : Value} {Nx Ny Nz N1 : Int} {n : Nat} {xs : List Value} (hk : Kept W.heap.size W wr) (hbA : Below wr.drew.heap.size wr.drew wA) (hkB : Kept W.heap.size wA wB)
    (ho : wB.ownsRow W.heap.size 5 1 v1 n xs) (hx : BoxAt wr x vx Nx) (hy : BoxAt wr y vy Ny) (hz : BoxAt wr z vz Nz) (hxz : x ≠ z) (hyz : y ≠ z) (hW : W.heap.size ≤ z) :
    ((wB.setCell ⟨z, 0, none⟩ v1).setCell ⟨z, 1, none⟩ (.int .i64 N1)).ownsRow W.heap.size 5 1 v1 n xs ∧ BoxAt ((wB.setCell ⟨z, 0, none⟩ v1).setCell ⟨z, 1, none⟩ (.int .i64 N1)) x vx Nx ∧
    BoxAt ((wB.setCell ⟨z, 0, none⟩ v1).setCell ⟨z, 1, none⟩ (.int .i64 N1)) y vy Ny ∧ BoxAt ((wB.setCell ⟨z, 0, none⟩ v1).setCell ⟨z, 1, none⟩ (.int .i64 N1)) z v1 N1 ∧
    Kept W.heap.size W ((wB.setCell ⟨z, 0, none⟩ v1).setCell ⟨z, 1, none⟩ (.int .i64 N1)) := by
  have hxB := (hx.drew.below hbA hx.lt).kept hkB
  have hyB := (hy.drew.below hbA hy.lt).kept hkB
  have hzB := (hz.drew.below hbA hz.lt).kept hkB
  have ap := hzB.apart ho
  refine ⟨own_set (own_set ho ap _ _) ap _ _, (hxB.other hxz _).other hxz _, (hyB.other hyz _).other hyz _, hzB.set _ _, ?_⟩
  exact (((hk.drew.trans (Kept.below hbA (Nat.le_trans hk.bel.size (Nat.le_refl _)) (Nat.le_refl _))).trans hkB).setCell (Nat.le_refl _) hW _).setCell (Nat.le_refl _) hW _

theorem RBetween_ok (W : World) (a : Option Addr) (len cap : Nat) (B : List Bool) (hr : Row .u8 W a len cap (pack B)) (hB : B.length ≤ 330000) (i0 t0 : Nat) (h1 : i0 ≤ t0) (h2 : t0 ≤ B.length) :
    Calls Try.prog 29 #[.agg #[.slice a len cap, .int .i64 B.length], .int .i64 i0, .int .i64 t0] W fun e W' => ∃ v', e = .returned (.agg #[v', .int .i64 ((t0 - i0 : Nat) : Int)]) ∧
      W'.ownsRow W.heap.size 5 1 v' (((midB B i0 t0).length + 7) / 8) (nums .u8 (pack (midB B i0 t0))) ∧ Below W.heap.size W W' := by
  have hlen := hr.hlen
  rw [pack_len] at hlen
  have hlen' := Go.Lib.hid hlen
  let W0 : World := ((W.alloc (.cells #[.slice a len cap, .int .i64 B.length] 24)).alloc (.cells #[.slice none 0 0, .int .i64 0] 24)).alloc (.cells #[.slice none 0 0, .int .i64 0] 24)
  have hx0 : BoxAt W0 W.heap.size (.slice a len cap) B.length := by
    unfold BoxAt; rw [Below.heap_alloc _ _ _ (by simp; omega), Below.heap_alloc _ _ _ (by simp), heap_alloc_new]
  have hy0 : BoxAt W0 (W.heap.size + 1) (.slice none 0 0) 0 := by
    unfold BoxAt; rw [Below.heap_alloc _ _ _ (by simp), heap_alloc2_new]
  have hz0 : BoxAt W0 (W.heap.size + 1 + 1) (.slice none 0 0) 0 := by
    have := heap_alloc_new ((W.alloc (.cells #[.slice a len cap, .int .i64 B.length] 24)).alloc (.cells #[.slice none 0 0, .int .i64 0] 24)) (.cells #[.slice none 0 0, .int .i64 0] 24)
    rw [show ((W.alloc (.cells #[.slice a len cap, .int .i64 B.length] 24)).alloc (.cells #[.slice none 0 0, .int .i64 0] 24)).heap.size = W.heap.size + 1 + 1 by simp] at this
    exact this
  have hk0 : Kept W.heap.size W W0 := (((Kept.refl _ W).alloc (Nat.le_refl _) _).alloc (Nat.le_refl _) _).alloc (Nat.le_refl _) _
  have ho0 : W0.ownsRow W.heap.size 5 1 (.slice none 0 0) 0 (nums .u8 []) := ⟨rfl, .inl ⟨rfl, rfl⟩⟩
  clear hlen
  go_enter Try.func29, Try.ntmps29
  go_wp2
  go_loopw [8] (fun i wr => ∃ (k : Nat) (vk : Value), i0 ≤ k ∧ k ≤ t0 ∧ i = .int .i64 k ∧ wr.ownsRow W.heap.size 5 1 vk (((midB B i0 k).length + 7) / 8) (nums .u8 (pack (midB B i0 k))) ∧
    BoxAt wr W.heap.size (.slice a len cap) B.length ∧ BoxAt wr (W.heap.size + 1) (.slice none 0 0) 0 ∧ BoxAt wr (W.heap.size + 1 + 1) vk ((midB B i0 k).length : Int) ∧ Kept W.heap.size W wr) (fun i _ => t0 - (intOf i).toNat)
  case atStart => exact ⟨i0, _, Nat.le_refl _, h1, rfl, by simpa [midB, pack] using ho0, hx0, hy0, by simpa [midB] using hz0, hk0⟩
  case round =>
    obtain ⟨k, vk, hk1, hk2, rfl, hok, hxk, hyk, hzk, hkk⟩ := hrel
    clear hx0 hy0 hz0 hk0 ho0 W0
    obtain ⟨ak, ck, rfl⟩ := own_form hok
    by_cases hlt : k < t0
    · obtain ⟨C, hC⟩ : ∃ C, C = midB B i0 k := ⟨_, rfl⟩
      have hCl := midB_len B hk1 (by omega : k ≤ B.length)
      have hsn := Go.Lib.hid (midB_snoc B hk1 (by omega : k < B.length))
      rw [← hC] at hok hzk hCl hsn
      obtain ⟨b, hb⟩ : ∃ b, b = B.getD k false := ⟨_, rfl⟩
      rw [← hb] at hsn
      have hbit := Go.Lib.hid ((bit_pack B k).trans hb.symm)
      obtain ⟨mk, hmk⟩ : ∃ mk, mk = (C.length + 7) / 8 := ⟨_, rfl⟩
      have hadd : Hid (∀ wA, wA.ownsRow W.heap.size 5 1 (.slice ak mk ck) mk (nums .u8 (pack C)) → W.heap.size ≤ wA.heap.size → Calls Try.prog 26 #[.agg #[.slice ak mk ck, .int .i64 C.length], .int .i64 (bI b)] wA fun e W' => ∃ v', e = .returned (.agg #[v', .int .i64 ((C.length + 1 : Nat) : Int)]) ∧
          W'.ownsRow W.heap.size 5 1 v' (((C ++ [b]).length + 7) / 8) (nums .u8 (pack (C ++ [b]))) ∧ Kept W.heap.size wA W') := Go.Lib.hid (fun wA h h' => RAdd_any wA W.heap.size (.slice ak mk ck) C b (by rw [← hmk]; exact h) h' (by omega))
      rw [← hmk] at hok hzk
      have hidx : k / 8 < len := by have := hlen'.out; omega
      obtain ⟨x0, x1, x2, x3⟩ := hxk.cells
      obtain ⟨z0, z1, z2, z3⟩ := hzk.cells
      have hrk := Go.Lib.hid (hr.below hkk.bel.drew (Nat.le_refl _))
      have hok' := Go.Lib.hid hok
      have hx' := Go.Lib.hid hxk
      have hy' := Go.Lib.hid hyk
      have hz' := Go.Lib.hid hzk
      have hk' := Go.Lib.hid hkk
      have hsz0 := hkk.bel.size
      have hzlt : W.heap.size + 1 + 1 < wr.heap.size := by
        apply Classical.byContradiction; intro hx; unfold BoxAt at hzk; rw [Array.getElem?_eq_none (by omega)] at hzk; cases hzk
      have hCl' := Go.Lib.hid hCl
      clear hC hb hmk hok hxk hyk hzk hkk hCl
      go_wp2
      go_region_law (first
        | (go_simp; go_at_call 27; refine (RAt_ok _ a len cap B.length (pack B) hrk.out k hidx).mono ?_; rintro e wA ⟨rfl, hbA⟩; rw [hbit.out]; have hbA' := Go.Lib.hid hbA; obtain ⟨y0, y1, y2, y3⟩ := (hz'.out.drew.below hbA hzlt).cells; obtain ⟨q0, q1, q2, q3⟩ := (hx'.out.drew.below hbA (by show W.heap.size < wr.heap.size; omega)).cells; clear hbA)
        | (go_simp; go_at_call 26; refine (hadd.out _ (own_below hok'.out.drew hbA'.out (Nat.le_refl _)) (Nat.le_trans hsz0 hbA'.out.size)).mono ?_; rintro e wB ⟨v1, rfl, hownB, hkB⟩; obtain ⟨a1, c1, rfl⟩ := own_form hownB; obtain ⟨p0, p1, p2, p3⟩ := ((hz'.out.drew.below hbA'.out hzlt).kept hkB).cells; have hkB' := Go.Lib.hid hkB; have hoB' := Go.Lib.hid hownB; clear hkB hownB))
      all_goals go_wp2
      all_goals
        have hf := added (N1 := (C.length : Int) + 1) hk'.out hbA'.out hkB'.out hoB'.out hx'.out hy'.out hz'.out (by omega) (by omega) (by omega)
        have hl1 : (C ++ [b]).length = C.length + 1 := by simp
        rw [hl1] at hf
        obtain ⟨f1, f2, f3, f4, f5⟩ := hf
        refine ⟨⟨k + 1, .slice a1 ((C.length + 1 + 7) / 8) c1, by omega, by omega, by go_num, ?_, f2, f3, ?_, f5⟩, by simp [intOf]; omega⟩
        · rw [hsn.out, hl1]; exact f1
        · rw [hsn.out, hl1]; exact f4
    · obtain rfl : k = t0 := by omega
      have hCl := midB_len B hk1 (by omega : k ≤ B.length)
      have hCl' := Go.Lib.hid hCl
      rw [hCl] at hok hzk
      obtain ⟨mk, hmk⟩ : ∃ mk, mk = (k - i0 + 7) / 8 := ⟨_, rfl⟩
      have hmk' := Go.Lib.hid hmk
      rw [← hmk] at hok hzk
      obtain ⟨x0, x1, x2, x3⟩ := hxk.cells
      obtain ⟨z0, z1, z2, z3⟩ := hzk.cells
      obtain ⟨y0, y1, y2, y3⟩ := hyk.cells
      have hok' := Go.Lib.hid hok
      have hy' := Go.Lib.hid hyk
      have hk' := Go.Lib.hid hkk
      obtain ⟨nn, hnn⟩ : ∃ nn, nn = k - i0 := ⟨_, rfl⟩
      have hnn' := Go.Lib.hid hnn
      rw [← hnn] at z1
      clear hok hxk hyk hzk hkk hCl hmk hnn
      go_wp2
      refine bodyPost_ret (results_cell_row (by rfl) _ _ (W.heap.size + 1) _ _ _ _ rfl (hy'.out.set _ _) Try.underlying24 rfl (by kernel_rfl)) rfl ?_
      have ap := hy'.out.apart hok'.out
      refine ⟨.slice ak mk ck, by rw [← hnn'.out], ?_, ((hk'.out.setCell (Nat.le_refl _) (by simp) _).setCell (Nat.le_refl _) (by simp) _).bel⟩
      rw [hCl'.out, ← hmk'.out]
      exact own_set (own_set hok'.out ap _ _) ap _ _
end Go.Proofs.Ytogkiopdcmeddaa
