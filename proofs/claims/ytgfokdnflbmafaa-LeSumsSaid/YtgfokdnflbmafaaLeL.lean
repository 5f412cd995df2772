/- The walks of the other laws of layer 1. -/
import Derived.Test.YtgfokdnflbmafaaLeS
namespace Go.Proofs.Ytgfokdnflbmafaa
open Go.RowKit Cad

theorem uU8 : Try.prog.underlying 5 = some (.int .u8) := Try.underlying5
theorem uS : Try.prog.underlying 9 = some .string := Try.underlying9

theorem bytes_at (n w : Int) (l : List Int) (m : Nat) (W : World) (h0 : 0 ≤ n ∧ l.length = m) (h : bytesS n w = (l, 0)) :
    Calls Try.prog 10 #[.int .u64 n, .int .i64 w] W fun e W' => ∃ a cap, e = .returned (.tuple #[.slice a m cap, .int .i64 0]) ∧ Row .u8 W' a m cap l ∧ Below W.heap.size W W' :=
  (Bytes_any n w W h0.1).mono fun e W' ⟨a, len, cap, he, hr, hb⟩ => by
    rw [h] at he hr
    have hl := hr.hlen
    rw [show (l, (0 : Int)).1 = l from rfl, h0.2] at hl
    subst hl
    exact ⟨a, cap, he, hr, hb⟩

theorem uns_at (x w u : Int) (W : World) (h : (1 ≤ w ∧ w ≤ 8) ∧ Fits x w) (hu : uns x w = u) :
    Calls Try.prog 13 #[.int .i64 x, .int .i64 w] W fun e W' => e = .returned (.tuple #[.int .u64 u, .int .i64 0]) ∧ W = W' := by
  rw [← hu]; exact Unsigned_ok x w W h.1.1 h.1.2 h.2

theorem alive_any (W : World) :
    Calls Try.prog 15 #[] W fun e W' => e = .returned (.bool true) ∧ Below W.heap.size W W' := by
  go_enter Try.func15, Try.ntmps15
  go_wp2_with fail
  refine (bytes_at 258 2 [2, 1] 2 _ (by decide) (by decide)).mono ?_
  rintro e w1 ⟨ax, cx, rfl, hrx, hb1⟩
  go_wp2_with fail
  refine (bytes_at 258 3 [2, 1, 0] 3 _ (by decide) (by decide)).mono ?_
  rintro e w2 ⟨ay, cy, rfl, hry, hb2⟩
  have hrx2 := hrx.below hb2 (Nat.le_refl _)
  have hsx := hrx2.str (P := Try.prog) (S := 9) uT uU8 uS
  have hsy := hry.str (P := Try.prog) (S := 9) uT uU8 uS
  rw [show strOfNums [2, 1] = ⟨#[2, 1]⟩ from rfl] at hsx
  rw [show strOfNums [2, 1, 0] = ⟨#[2, 1, 0]⟩ from rfl] at hsy
  have hb := hb1.trans (hb2.mono hb1.size)
  clear hrx hb1 hb2 hrx2 hry
  go_wp2_with fail
  refine (uns_at (-2) 1 254 _ (by decide) (by decide)).mono ?_
  rintro e w3 ⟨rfl, rfl⟩
  go_wp2_with fail
  refine (uns_at (-2) 3 16777214 _ (by decide) (by decide)).mono ?_
  rintro e w3 ⟨rfl, rfl⟩
  go_wp2
  go_ret
  exact ⟨rfl, hb⟩

def unsS (x w : Int) : Int × Int := if 1 ≤ w ∧ w ≤ 8 then (if Fits x w then (uns x w, 0) else (0, 16)) else (0, 2)
theorem Unsigned_any (x w : Int) (W : World) :
    Calls Try.prog 13 #[.int .i64 x, .int .i64 w] W fun e W' => e = .returned (.tuple #[.int .u64 (unsS x w).1, .int .i64 (unsS x w).2]) ∧ W = W' := by
  by_cases h : 1 ≤ w ∧ w ≤ 8
  · by_cases hx : Fits x w
    · exact (Unsigned_ok x w W h.1 h.2 hx).mono fun e W' ⟨he, hw⟩ => ⟨by rw [he, unsS, if_pos h, if_pos hx], hw⟩
    · exact (Unsigned_range x w W h.1 h.2 hx).mono fun e W' ⟨he, hw⟩ => ⟨by rw [he, unsS, if_pos h, if_neg hx], hw⟩
  · exact (Unsigned_no x w W h).mono fun e W' ⟨he, hw⟩ => ⟨by rw [he, unsS, if_neg h], hw⟩

theorem uns_add (x y w : Int) : (uns x w + uns y w) % (top w.toNat + 1) = uns (x + y) w := by
  unfold uns; exact (Int.add_emod x y _).symm

theorem leSums_walk (a0 : Int) (a1 : Int) (a2 : Int) (w0 : (Lit.int .i64 a0).wf = true) (w1 : (Lit.int .i64 a1).wf = true) (_w2 : (Lit.int .i64 a2).wf = true) (W : World) :
    Calls Try.prog 9 #[.int .i64 a0, .int .i64 a1, .int .i64 a2] W fun e w' => e = .returned (.bool true) ∧ Below W.heap.size W w' := by
  have b0 := bounds_i64 w0
  have b1 := bounds_i64 w1
  clear w0 w1 _w2
  by_cases h : 1 ≤ a2 ∧ a2 ≤ 8
  · obtain ⟨h, h'⟩ := h
    by_cases h8 : a2 = 8
    · subst h8
      go_enter Try.func9, Try.ntmps9
      go_wp2_with (first | (go_at_call 21; refine (Width_yes _ _ h h').mono ?_; rintro e w1 ⟨rfl, rfl⟩) | (go_at_call 15; refine (alive_any _).mono ?_; rintro e w1 ⟨rfl, hb⟩))
      go_ret
      exact ⟨rfl, hb⟩
    · have e8 : (a2 == 8) = false := by simpa using h8
      by_cases hx : Fits a0 a2
      · by_cases hy : Fits a1 a2
        · have ht := top_bd a2.toNat (by omega)
          have hz : -9223372036854775808 ≤ a0 + a1 ∧ a0 + a1 ≤ 9223372036854775807 := by unfold Fits at hx hy; omega
          have ux := uns_bd a0 a2 h h'
          have uy := uns_bd a1 a2 h h'
          by_cases hxy : Fits (a0 + a1) a2
          · have hfin : ((uns a0 a2 + uns a1 a2) % (top a2.toNat + 1) == uns (a0 + a1) a2) = true := by rw [uns_add]; simp
            go_enter Try.func9, Try.ntmps9
            go_wp2_with (first | (go_at_call 21; refine (Width_yes _ _ h h').mono ?_; rintro e w1 ⟨rfl, rfl⟩) | (go_at_call 22; refine (top_any _ _ h h').mono ?_; rintro e w1 ⟨rfl, rfl⟩) | (go_at_call 15; refine (alive_any _).mono ?_; rintro e w1 ⟨rfl, hb⟩) | (go_at_call 13; ((with_reducible refine (Unsigned_ok a0 a2 _ h h' hx).mono ?_); rintro e w1 ⟨rfl, rfl⟩)) | (go_at_call 13; ((with_reducible refine (Unsigned_ok a1 a2 _ h h' hy).mono ?_); rintro e w1 ⟨rfl, rfl⟩)) | (go_at_call 13; ((with_reducible refine (Unsigned_ok (a0 + a1) a2 _ h h' hxy).mono ?_); rintro e w1 ⟨rfl, rfl⟩)))
            go_ret
            exact ⟨rfl, hb⟩
          · go_enter Try.func9, Try.ntmps9
            go_wp2_with (first | (go_at_call 21; refine (Width_yes _ _ h h').mono ?_; rintro e w1 ⟨rfl, rfl⟩) | (go_at_call 22; refine (top_any _ _ h h').mono ?_; rintro e w1 ⟨rfl, rfl⟩) | (go_at_call 15; refine (alive_any _).mono ?_; rintro e w1 ⟨rfl, hb⟩) | (go_at_call 13; ((with_reducible refine (Unsigned_ok a0 a2 _ h h' hx).mono ?_); rintro e w1 ⟨rfl, rfl⟩)) | (go_at_call 13; ((with_reducible refine (Unsigned_ok a1 a2 _ h h' hy).mono ?_); rintro e w1 ⟨rfl, rfl⟩)) | (go_at_call 13; ((with_reducible refine (Unsigned_range (a0 + a1) a2 _ h h' hxy).mono ?_); rintro e w1 ⟨rfl, rfl⟩)))
            go_ret
            exact ⟨rfl, hb⟩
        · go_enter Try.func9, Try.ntmps9
          go_wp2_with (first | (go_at_call 21; refine (Width_yes _ _ h h').mono ?_; rintro e w1 ⟨rfl, rfl⟩) | (go_at_call 22; refine (top_any _ _ h h').mono ?_; rintro e w1 ⟨rfl, rfl⟩) | (go_at_call 15; refine (alive_any _).mono ?_; rintro e w1 ⟨rfl, hb⟩) | (go_at_call 13; ((with_reducible refine (Unsigned_ok a0 a2 _ h h' hx).mono ?_); rintro e w1 ⟨rfl, rfl⟩)) | (go_at_call 13; ((with_reducible refine (Unsigned_range a1 a2 _ h h' hy).mono ?_); rintro e w1 ⟨rfl, rfl⟩)) | (go_at_call 13; ((with_reducible refine (Unsigned_any _ a2 _).mono ?_); rintro e w1 ⟨rfl, rfl⟩)))
          go_ret
          exact ⟨rfl, hb⟩
      · go_enter Try.func9, Try.ntmps9
        go_wp2_with (first | (go_at_call 21; refine (Width_yes _ _ h h').mono ?_; rintro e w1 ⟨rfl, rfl⟩) | (go_at_call 22; refine (top_any _ _ h h').mono ?_; rintro e w1 ⟨rfl, rfl⟩) | (go_at_call 15; refine (alive_any _).mono ?_; rintro e w1 ⟨rfl, hb⟩) | (go_at_call 13; ((with_reducible refine (Unsigned_range a0 a2 _ h h' hx).mono ?_); rintro e w1 ⟨rfl, rfl⟩)) | (go_at_call 13; ((with_reducible refine (Unsigned_any _ a2 _).mono ?_); rintro e w1 ⟨rfl, rfl⟩)))
        go_ret
        exact ⟨rfl, hb⟩
  · go_enter Try.func9, Try.ntmps9
    go_wp2_with (first | (go_at_call 21; refine (Width_no _ _ h).mono ?_; rintro e w1 ⟨rfl, rfl⟩) | (go_at_call 15; refine (alive_any _).mono ?_; rintro e w1 ⟨rfl, hb⟩))
    go_ret
    exact ⟨rfl, hb⟩
end Go.Proofs.Ytgfokdnflbmafaa
