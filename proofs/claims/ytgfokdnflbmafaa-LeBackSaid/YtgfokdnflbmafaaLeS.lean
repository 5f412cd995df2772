/- The contracts of le and of its reference, each by one plain function. -/
import Derived.Test.YtgfokdnflbmafaaLeC
namespace Go.Proofs.Ytgfokdnflbmafaa
open Go.RowKit Cad

def bytesS (n w : Int) : List Int × Int := if 1 ≤ w ∧ w ≤ 8 then (if n ≤ top w.toNat then (leB n w.toNat, 0) else ([], 16)) else ([], 2)
def valueS (l : List Int) : Int × Int := if 1 ≤ l.length ∧ l.length ≤ 8 then (ofB l, 0) else (0, 2)
def atS (l : List Int) (at_ w : Int) : Int × Int :=
  if 1 ≤ w ∧ w ≤ 8 ∧ 0 ≤ at_ then (if at_ + w ≤ l.length then (ofB ((l.drop at_.toNat).take w.toNat), 0) else (0, 24)) else (0, 2)

theorem wf_leB (n : Int) (w : Nat) : ∀ c ∈ leB n w, (Lit.int .u8 c).wf = true := by
  intro c hc
  have := leB_wf n w c hc
  simp [Lit.wf, IntKind.min, IntKind.max, IntKind.signed, IntKind.bits]; omega

theorem Bytes_any (n w : Int) (W : World) (h0 : 0 ≤ n) :
    Calls Try.prog 10 #[.int .u64 n, .int .i64 w] W fun e W' => ∃ a len cap, e = .returned (.tuple #[.slice a len cap, .int .i64 (bytesS n w).2]) ∧ Row .u8 W' a len cap (bytesS n w).1 ∧ Below W.heap.size W W' := by
  by_cases h : 1 ≤ w ∧ w ≤ 8
  · by_cases hn : n ≤ top w.toNat
    · obtain ⟨m, rfl⟩ := Int.eq_ofNat_of_zero_le (show 0 ≤ w by omega)
      simp only [Int.toNat_natCast] at hn
      refine (Bytes_ok n m W (by omega) (by omega) h0 hn).mono fun e W' ⟨he, ho, hb⟩ => ?_
      have hl := length_leB n m
      obtain ⟨a, cap, hv, hr⟩ := Row.own (l := leB n m) (by rw [hl]; exact ho) (wf_leB n m)
      refine ⟨a, (leB n m).length, cap, ?_, ?_, hb⟩
      · rw [he, hv]; simp [bytesS, h, hn]
      · simpa [bytesS, h, hn] using hr
    · refine (Bytes_range n w W h.1 h.2 (by omega)).mono fun e W' ⟨he, hw⟩ => ⟨none, 0, 0, by rw [he]; simp [bytesS, h, hn], ?_, by rw [← hw]; exact Below.refl _ _⟩
      simp only [bytesS, h, hn, and_self, if_true, if_false]; exact Row.nil_row _ _
  · refine (Bytes_no n w W h).mono fun e W' ⟨he, hw⟩ => ⟨none, 0, 0, by rw [he]; simp [bytesS, h], ?_, by rw [← hw]; exact Below.refl _ _⟩
    simp only [bytesS, h, if_false]; exact Row.nil_row _ _

theorem RBytes_any (n w : Int) (W : World) (h0 : 0 ≤ n) :
    Calls Try.prog 16 #[.int .u64 n, .int .i64 w] W fun e W' => ∃ a len cap, e = .returned (.tuple #[.slice a len cap, .int .i64 (bytesS n w).2]) ∧ Row .u8 W' a len cap (bytesS n w).1 ∧ Below W.heap.size W W' := by
  by_cases h : 1 ≤ w ∧ w ≤ 8
  · by_cases hn : n ≤ top w.toNat
    · obtain ⟨m, rfl⟩ := Int.eq_ofNat_of_zero_le (show 0 ≤ w by omega)
      simp only [Int.toNat_natCast] at hn
      refine (RBytes_ok n m W (by omega) (by omega) h0 hn).mono fun e W' ⟨v, he, ho, hb⟩ => ?_
      have hl := length_leB n m
      obtain ⟨a, cap, hv, hr⟩ := Row.own (l := leB n m) (by rw [hl]; exact ho) (wf_leB n m)
      refine ⟨a, (leB n m).length, cap, ?_, ?_, hb⟩
      · rw [he, hv]; simp [bytesS, h, hn]
      · simpa [bytesS, h, hn] using hr
    · refine (RBytes_range n w W h.1 h.2 (by omega)).mono fun e W' ⟨he, hw⟩ => ⟨none, 0, 0, by rw [he]; simp [bytesS, h, hn], ?_, by rw [← hw]; exact Below.refl _ _⟩
      simp only [bytesS, h, hn, and_self, if_true, if_false]; exact Row.nil_row _ _
  · refine (RBytes_no n w W h).mono fun e W' ⟨he, hw⟩ => ⟨none, 0, 0, by rw [he]; simp [bytesS, h], ?_, by rw [← hw]; exact Below.refl _ _⟩
    simp only [bytesS, h, if_false]; exact Row.nil_row _ _

theorem Value_any (W : World) (a : Option Addr) (len cap : Nat) (l : List Int) (h : Row .u8 W a len cap l) :
    Calls Try.prog 14 #[.slice a len cap] W fun e W' => e = .returned (.tuple #[.int .u64 (valueS l).1, .int .i64 (valueS l).2]) ∧ W = W' := by
  have hl := h.hlen
  by_cases h1 : 1 ≤ len ∧ len ≤ 8
  · refine (Value_ok W a len cap l h h1.1 h1.2).mono fun e W' ⟨he, hw⟩ => ⟨by rw [he]; simp [valueS, hl, h1], hw⟩
  · refine (Value_no W a len cap h1).mono fun e W' ⟨he, hw⟩ => ⟨by rw [he]; simp [valueS, hl, h1], hw⟩
theorem RValue_any (W : World) (a : Option Addr) (len cap : Nat) (l : List Int) (h : Row .u8 W a len cap l) :
    Calls Try.prog 17 #[.slice a len cap] W fun e W' => e = .returned (.tuple #[.int .u64 (valueS l).1, .int .i64 (valueS l).2]) ∧ W = W' := by
  have hl := h.hlen
  by_cases h1 : 1 ≤ len ∧ len ≤ 8
  · refine (RValue_ok W a len cap l h h1.1 h1.2).mono fun e W' ⟨he, hw⟩ => ⟨by rw [he]; simp [valueS, hl, h1], hw⟩
  · refine (RValue_no W a len cap h1).mono fun e W' ⟨he, hw⟩ => ⟨by rw [he]; simp [valueS, hl, h1], hw⟩
theorem At_any (W : World) (a : Option Addr) (len cap : Nat) (l : List Int) (at_ w : Int) (h : Row .u8 W a len cap l) (hm : len ≤ 9223372036854775807) :
    Calls Try.prog 11 #[.slice a len cap, .int .i64 at_, .int .i64 w] W fun e W' => e = .returned (.tuple #[.int .u64 (atS l at_ w).1, .int .i64 (atS l at_ w).2]) ∧ W = W' := by
  have hl := h.hlen
  by_cases h1 : 1 ≤ w ∧ w ≤ 8
  · by_cases h2 : 0 ≤ at_
    · by_cases h3 : at_ + w ≤ len
      · obtain ⟨m, rfl⟩ := Int.eq_ofNat_of_zero_le (show 0 ≤ w by omega)
        obtain ⟨j, rfl⟩ := Int.eq_ofNat_of_zero_le h2
        refine (At_ok W a len cap l j m h (by omega) hm (by omega)).mono fun e W' ⟨he, hw⟩ => ⟨by rw [he]; simp [atS, hl, h1, h3], hw⟩
      · refine (At_short W a len cap at_ w h1 h2 hm (by omega)).mono fun e W' ⟨he, hw⟩ => ⟨by rw [he]; simp [atS, hl, h1, h2, h3], hw⟩
    · refine (At_neg W a len cap at_ w h1 (by omega)).mono fun e W' ⟨he, hw⟩ => ⟨by rw [he]; simp [atS, h2], hw⟩
  · refine (At_no W a len cap at_ w h1).mono fun e W' ⟨he, hw⟩ => ⟨by rw [he, atS, if_neg (by omega)], hw⟩
theorem RAt_any (W : World) (a : Option Addr) (len cap : Nat) (l : List Int) (at_ w : Int) (h : Row .u8 W a len cap l) (hm : len ≤ 9223372036854775807) :
    Calls Try.prog 18 #[.slice a len cap, .int .i64 at_, .int .i64 w] W fun e W' => e = .returned (.tuple #[.int .u64 (atS l at_ w).1, .int .i64 (atS l at_ w).2]) ∧ W = W' := by
  have hl := h.hlen
  by_cases h1 : 1 ≤ w ∧ w ≤ 8
  · by_cases h2 : 0 ≤ at_
    · by_cases h3 : at_ + w ≤ len
      · obtain ⟨m, rfl⟩ := Int.eq_ofNat_of_zero_le (show 0 ≤ w by omega)
        obtain ⟨j, rfl⟩ := Int.eq_ofNat_of_zero_le h2
        refine (RAt_ok W a len cap l j m h (by omega) hm (by omega)).mono fun e W' ⟨he, hw⟩ => ⟨by rw [he]; simp [atS, hl, h1, h3], hw⟩
      · refine (RAt_short W a len cap at_ w h1 h2 hm (by omega)).mono fun e W' ⟨he, hw⟩ => ⟨by rw [he]; simp [atS, hl, h1, h2, h3], hw⟩
    · refine (RAt_neg W a len cap at_ w h1 (by omega)).mono fun e W' ⟨he, hw⟩ => ⟨by rw [he]; simp [atS, h2], hw⟩
  · refine (RAt_no W a len cap at_ w h1).mono fun e W' ⟨he, hw⟩ => ⟨by rw [he, atS, if_neg (by omega)], hw⟩

theorem uT : Try.prog.underlying 22 = some (.slice 5) := Try.underlying22
theorem leReads_walk (a0 : Int) (a1 : Int) (a2 : Option Addr) (len2 cap2 : Nat) (z2 : List Int) (a3 : Int) (W : World) (w0 : (Lit.int .u64 a0).wf = true) (_w1 : (Lit.int .i64 a1).wf = true) (w2 : IsRow .u8 W a2 len2 cap2 z2) (_w3 : (Lit.int .i64 a3).wf = true) :
    Calls Try.prog 4 #[.int .u64 a0, .int .i64 a1, .slice a2 len2 cap2, .int .i64 a3] W fun e w' => e = .returned (.bool true) ∧ Below W.heap.size W w' := by
  have b0 := (bounds_u64 w0).1
  have hr := Row.of_isRow w2
  obtain ⟨l, hl⟩ : ∃ l, l = z2.take len2 := ⟨_, rfl⟩
  rw [← hl] at hr
  clear hl w2 w0
  by_cases hlen : len2 ≤ 100
  · go_enter Try.func4, Try.ntmps4
    go_wp2_with (first | (go_at_call 10; refine (Bytes_any a0 a1 _ b0).mono ?_; rintro e w1 ⟨ax, lx, cx, rfl, hrx, hb1⟩) | (go_at_call 16; refine (RBytes_any a0 a1 _ b0).mono ?_; rintro e w2 ⟨ay, ly, cy, rfl, hry, hb2⟩; have hrx2 := hrx.below hb2 (Nat.le_refl _); have hr2 := (hr.below hb1 (Nat.le_refl _)).below hb2 (Nat.le_refl _); have hsx := hrx2.str (P := Try.prog) (S := 9) uT Try.underlying5 Try.underlying9; have hsy := hry.str (P := Try.prog) (S := 9) uT Try.underlying5 Try.underlying9) | (go_at_call 14; refine (Value_any _ _ _ _ l hr2).mono ?_; rintro e w1 ⟨rfl, rfl⟩) | (go_at_call 17; refine (RValue_any _ _ _ _ l hr2).mono ?_; rintro e w1 ⟨rfl, rfl⟩) | (go_at_call 11; refine (At_any _ _ _ _ l _ _ hr2 (by omega)).mono ?_; rintro e w1 ⟨rfl, rfl⟩) | (go_at_call 18; refine (RAt_any _ _ _ _ l _ _ hr2 (by omega)).mono ?_; rintro e w1 ⟨rfl, rfl⟩))
    go_ret
    exact ⟨rfl, hb1.trans (hb2.mono hb1.size)⟩
  · go_enter Try.func4, Try.ntmps4
    go_wp2
    go_ret
    exact ⟨rfl, Below.refl _ _⟩
end Go.Proofs.Ytgfokdnflbmafaa
