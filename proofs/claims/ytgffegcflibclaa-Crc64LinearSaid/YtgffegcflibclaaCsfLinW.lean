/- Crc64Linear: the changes of two changed strings together. -/
import Derived.Test.YtgffegcflibclaaCsfLawA
import Derived.Deep.RegionLaw
namespace Go.Proofs.Ytgffegcflibclaa
open Go.RowKit Cad

/-- two lists of bytes, changed by each other -/
def xorL (a b : List Int) : List Int := List.zipWith (fun p q => ((p.toNat ^^^ q.toNat : Nat) : Int)) a b
theorem xorL_len {a b : List Int} (h : a.length = b.length) : (xorL a b).length = a.length := by simp [xorL, h]
theorem xorL_wf {a b : List Int} (ha : ∀ x ∈ a, 0 ≤ x ∧ x ≤ 255) (hb : ∀ x ∈ b, 0 ≤ x ∧ x ≤ 255) : ∀ x ∈ xorL a b, 0 ≤ x ∧ x ≤ 255 := by
  intro x hx
  unfold xorL at hx
  rw [List.mem_iff_getElem] at hx
  obtain ⟨i, hi, rfl⟩ := hx
  rw [List.getElem_zipWith]
  have i1 : i < a.length := by simp at hi; omega
  have i2 : i < b.length := by simp at hi; omega
  have h1 := ha _ (List.getElem_mem i1)
  have h2 := hb _ (List.getElem_mem i2)
  have := Nat.xor_lt_two_pow (n := 8) (show a[i].toNat < 2 ^ 8 by omega) (show b[i].toNat < 2 ^ 8 by omega)
  omega
theorem xorL_snoc {a b : List Int} {k : Nat} (ha : k < a.length) (hb : k < b.length) : (xorL a b).take (k + 1) = (xorL a b).take k ++ [(((a.getD k 0).toNat ^^^ (b.getD k 0).toNat : Nat) : Int)] := by
  rw [List.take_add_one, List.getElem?_eq_getElem (by simp [xorL]; omega)]
  simp [xorL, List.getD, ha, hb]
theorem xorL_zero : ∀ (a : List Int), (∀ x ∈ a, 0 ≤ x ∧ x ≤ 255) → xorL (List.replicate a.length 0) a = a
  | [], _ => rfl
  | p :: a, h => by
    have h1 := h p (by simp)
    show ((((0 : Int).toNat ^^^ p.toNat : Nat) : Int)) :: xorL (List.replicate a.length 0) a = p :: a
    rw [xorL_zero a fun x hx => h x (by simp [hx]), show (0 : Int).toNat = 0 from rfl, Nat.zero_xor]
    congr 1
    omega
theorem csfLin_out (W : World) (st : Int) (a1 : Option Addr) (la ca : Nat) (a2 : Option Addr) (lb cb : Nat) (ha : la ≤ 9223372036854775807) (hb : lb ≤ 9223372036854775807) (h : la ≠ lb ∨ 500 < la) :
    Calls Try.prog 5 #[.int .u64 st, .slice a1 la ca, .slice a2 lb cb] W fun e w' => e = .returned (.bool true) ∧ Below W.heap.size W w' := by
  by_cases h1 : la = lb
  · subst h1
    have h2 : (500 : Int) < la := by omega
    clear h
    go_enter Try.func5, Try.ntmps5
    go_wp2_with (go_at_call 12; refine (alive4_ok _).mono ?_; rintro e w1 ⟨rfl, hb1⟩)
    go_ret
    exact ⟨rfl, hb1⟩
  · have h2 : ((la : Int) != (lb : Int)) = true := by simp; omega
    clear h h1
    go_enter Try.func5, Try.ntmps5
    go_wp2_with (go_at_call 12; refine (alive4_ok _).mono ?_; rintro e w1 ⟨rfl, hb1⟩)
    go_ret
    exact ⟨rfl, hb1⟩

set_option maxHeartbeats 1000000 in
theorem csfLin_in (W : World) (st : Nat) (hst : st < 18446744073709551616) (a1 : Option Addr) (n ca : Nat) (l1 : List Int) (a2 : Option Addr) (cb : Nat) (l2 : List Int) (hr1 : Row .u8 W a1 n ca l1) (hr2 : Row .u8 W a2 n cb l2) (hn : n ≤ 500) :
    Calls Try.prog 5 #[.int .u64 st, .slice a1 n ca, .slice a2 n cb] W fun e w' => e = .returned (.bool true) ∧ Below W.heap.size W w' := by
  have hl1 := hr1.hlen
  have hl2 := hr2.hlen
  have q1 := u8_bd hr1.wf
  have q2 := u8_bd hr2.wf
  have hX := xorL_wf q1 q2
  have hXl : (xorL l1 l2).length = n := by rw [xorL_len (by omega), hl1]
  have hlin := csfB_xorL l1 l2 0 0 (by decide) (by decide) (by omega) q1 q2
  have hlin2 := csfB_xorL (List.replicate l1.length 0) l1 st 0 hst (by decide) (by simp) (fun x hx => by rw [List.eq_of_mem_replicate hx]; decide) q1
  rw [show List.zipWith (fun p q : Int => ((p.toNat ^^^ q.toNat : Nat) : Int)) (List.replicate l1.length 0) l1 = l1 from xorL_zero l1 q1, Nat.xor_zero, hl1] at hlin2
  obtain ⟨x, hx⟩ : ∃ x, x = csfB 0 l1 := ⟨_, rfl⟩
  obtain ⟨y, hy⟩ : ∃ y, y = csfB 0 l2 := ⟨_, rfl⟩
  obtain ⟨z, hz⟩ : ∃ z, z = csfB 0 (xorL l1 l2) := ⟨_, rfl⟩
  obtain ⟨u, hu⟩ : ∃ u, u = csfB st l1 := ⟨_, rfl⟩
  obtain ⟨v, hv⟩ : ∃ v, v = csfB st (List.replicate n 0) := ⟨_, rfl⟩
  rw [Nat.xor_self, show List.zipWith (fun p q : Int => ((p.toNat ^^^ q.toNat : Nat) : Int)) l1 l2 = xorL l1 l2 from rfl, ← hz, ← hx, ← hy] at hlin
  rw [← hu, ← hv, ← hx, Nat.xor_comm] at hlin2
  have hul : u < 18446744073709551616 := by rw [hu]; exact csfB_lt _ hst
  have hvl : v < 18446744073709551616 := by rw [hv]; exact csfB_lt _ hst
  have hxl : x < 18446744073709551616 := by rw [hx]; exact csfB_lt _ (by decide)
  have hyl : y < 18446744073709551616 := by rw [hy]; exact csfB_lt _ (by decide)
  have hzl : z < 18446744073709551616 := by rw [hz]; exact csfB_lt _ (by decide)
  have o1 := Go.u64_xor_nat x y hxl hyl
  rw [← hlin] at o1
  have o3 := Go.u64_xor_nat x v hxl hvl
  rw [← hlin2] at o3
  have hr1' := Go.Lib.hid hr1
  have hr2' := Go.Lib.hid hr2
  have hX' := Go.Lib.hid (u8_wf hX)
  have hXl' := Go.Lib.hid hXl
  have n1 : Hid (∀ w, Row .u8 w a1 n ca l1 → Calls Try.prog 10 #[.slice a1 n ca] w fun r W' => r = .returned (.tuple #[.int .u64 x, .int .i64 0]) ∧ Below w.heap.size w W') := Go.Lib.hid fun w h => by
    rw [hx]; exact SSum_ok w a1 n ca l1 h (by omega)
  have n2 : Hid (∀ w, Row .u8 w a2 n cb l2 → Calls Try.prog 10 #[.slice a2 n cb] w fun r W' => r = .returned (.tuple #[.int .u64 y, .int .i64 0]) ∧ Below w.heap.size w W') := Go.Lib.hid fun w h => by
    rw [hy]; exact SSum_ok w a2 n cb l2 h (by omega)
  have n3 : Hid (∀ w a c, Row .u8 w a n c (xorL l1 l2) → Calls Try.prog 10 #[.slice a n c] w fun r W' => r = .returned (.tuple #[.int .u64 z, .int .i64 0]) ∧ Below w.heap.size w W') := Go.Lib.hid fun w a c h => by
    rw [hz]; exact SSum_ok w a n c _ h (by omega)
  have n4 : Hid (∀ w, Row .u8 w a1 n ca l1 → Calls Try.prog 11 #[.int .u64 st, .slice a1 n ca] w fun r W' => r = .returned (.tuple #[.int .u64 u, .int .i64 0]) ∧ Below w.heap.size w W') := Go.Lib.hid fun w h => by
    rw [hu]; exact SNext_ok w st a1 n ca l1 h hst (by omega)
  have n5 : Hid (∀ w a c, Row .u8 w a n c (List.replicate n 0) → Calls Try.prog 11 #[.int .u64 st, .slice a n c] w fun r W' => r = .returned (.tuple #[.int .u64 v, .int .i64 0]) ∧ Below w.heap.size w W') := Go.Lib.hid fun w a c h => by
    rw [hv]; exact SNext_ok w st a n c _ h hst (by omega)
  have u8m : Hid (∀ x ∈ List.replicate n (0 : Int), (Lit.int .u8 x).wf = true) := Go.Lib.hid fun x hx => by rw [List.eq_of_mem_replicate hx]; decide
  have hl1' := Go.Lib.hid hl1
  have hl2' := Go.Lib.hid hl2
  have q1' := Go.Lib.hid q1
  have q2' := Go.Lib.hid q2
  clear hr1 hr2 q1 q2 hX hXl hlin hlin2 hx hy hz hu hv hl1 hl2
  go_enter Try.func5, Try.ntmps5
  go_wp2
  go_loopw [7, 8] (fun v i wr => ∃ k : Nat, k ≤ n ∧ i = .int .i64 k ∧ wr.ownsRow W.heap.size 5 1 v k (nums .u8 ((xorL l1 l2).take k)) ∧ Below W.heap.size W wr) (fun _ i _ => n - (intOf i).toNat)
  case atStart => exact ⟨0, by omega, rfl, World.ownsRow_nil _ _ _ _, Below.refl _ _⟩
  case round =>
    obtain ⟨k, hk, rfl, hown, hb⟩ := hrel
    by_cases hlt : k < n
    · have hs := hb.size
      have hsn := Go.Lib.hid (xorL_snoc (a := l1) (b := l2) (k := k) (by rw [hl1'.out]; exact hlt) (by rw [hl2'.out]; exact hlt))
      obtain ⟨b1, off1, e1, _, hc1⟩ := (hr1'.out.below hb (Nat.le_refl _)).cells (by omega)
      obtain ⟨b2, off2, e2, _, hc2⟩ := (hr2'.out.below hb (Nat.le_refl _)).cells (by omega)
      subst e1
      subst e2
      have hcell1 := hc1 k hlt
      have hcell2 := hc2 k hlt
      have hb1 := getD_bd q1'.out k
      have hb2 := getD_bd q2'.out k
      obtain ⟨c, hcc⟩ : ∃ c : Nat, l1.getD k 0 = c := ⟨(l1.getD k 0).toNat, by omega⟩
      obtain ⟨d, hdd⟩ : ∃ d : Nat, l2.getD k 0 = d := ⟨(l2.getD k 0).toNat, by omega⟩
      rw [hcc] at hcell1 hsn hb1
      rw [hdd] at hcell2 hsn hb2
      rw [Int.toNat_natCast, Int.toNat_natCast] at hsn
      have o2 := Go.u8_xor_nat c d (by omega) (by omega)
      have hkn : (k : Int) < (n : Int) := by omega
      have n1c := Nat.le_trans hr1'.out.hcap hr1'.out.hmax
      have n2c := Nat.le_trans hr2'.out.hcap hr2'.out.hmax
      have hxb : ∀ z ∈ [((c ^^^ d : Nat) : Int)], 0 ≤ z ∧ z ≤ 255 := by
        intro z hz
        have := Nat.xor_lt_two_pow (n := 8) (show c < 2 ^ 8 by omega) (show d < 2 ^ 8 by omega)
        simp at hz
        omega
      have hsz : W.heap.size ≤ (wr.drew.alloc (.cells (nums .u8 [((c ^^^ d : Nat) : Int)]).toArray 5 (0, 0))).heap.size := by simp; omega
      clear hcc hdd hc1 hc2
      go_wp2
      go_region_law (refine step_appendRow elU8 _ (by rfl) _ _ (by rfl) W.heap.size _ k ((xorL l1 l2).take k) (by rfl) ((hown.drew).alloc _) (some ⟨wr.heap.size, 0, none⟩) 1 1 [((c ^^^ d : Nat) : Int)] (by rfl) (lit_row wr.drew [((c ^^^ d : Nat) : Int)] 1 (0, 0) rfl (by omega) hxb) (by omega) hsz ?_; intro v' w1 hown' hgrow)
      all_goals
        have hown1 := hown'
        rw [← hsn.out] at hown1
        have hb1' := ((hb.drew).alloc (show W.heap.size ≤ wr.drew.heap.size from hs) _).grown hgrow hsz (fun g hg => (hown.lt g hg).1)
        clear hown' hgrow hown hb hxb hsz
      all_goals go_wp2
      all_goals exact ⟨⟨k + 1, by omega, by go_num, hown1, hb1'⟩, by simp [intOf]; omega⟩
    · obtain rfl : k = n := by omega
      rw [List.take_of_length_le (by rw [hXl'.out]; omega)] at hown
      obtain ⟨oa, oc, rfl⟩ := own_form hown
      have hWE0 := Go.Lib.hid hb
      have RE0_a := Go.Lib.hid (hr1'.out.below hb (Nat.le_refl _))
      have RE0_b := Go.Lib.hid (hr2'.out.below hb (Nat.le_refl _))
      have RE0_c := Go.Lib.hid (Row.of_own hown hX'.out)
      clear hown hb
      go_wp2_with (first
        | (go_at_call 10; ((with_reducible refine (n1.out _ ?h1).mono ?_)); (case h1 => exact RE0_a.out); rintro e w1 ⟨rfl, hb1⟩; have hWE1 := Go.Lib.hid hWE0.out; have hW1 := Go.Lib.hid (hWE1.out.trans (hb1.mono hWE1.out.size)); have R1_a := Go.Lib.hid (RE0_a.out.below hb1 (Nat.le_refl _)); have R1_b := Go.Lib.hid (RE0_b.out.below hb1 (Nat.le_refl _)); have R1_c := Go.Lib.hid (RE0_c.out.below hb1 (Nat.le_refl _)); clear hb1)
        | (go_at_call 10; ((with_reducible refine (n2.out _ ?h1).mono ?_)); (case h1 => exact R1_b.out); rintro e w2 ⟨rfl, hb2⟩; have hWE2 := Go.Lib.hid hW1.out; have hW2 := Go.Lib.hid (hWE2.out.trans (hb2.mono hWE2.out.size)); have R2_a := Go.Lib.hid (R1_a.out.below hb2 (Nat.le_refl _)); have R2_b := Go.Lib.hid (R1_b.out.below hb2 (Nat.le_refl _)); have R2_c := Go.Lib.hid (R1_c.out.below hb2 (Nat.le_refl _)); clear hb2)
        | (go_at_call 10; ((with_reducible refine (n3.out _ _ _ ?h1).mono ?_)); (case h1 => exact R2_c.out); rintro e w3 ⟨rfl, hb3⟩; have hWE3 := Go.Lib.hid hW2.out; have hW3 := Go.Lib.hid (hWE3.out.trans (hb3.mono hWE3.out.size)); have R3_a := Go.Lib.hid (R2_a.out.below hb3 (Nat.le_refl _)); have R3_b := Go.Lib.hid (R2_b.out.below hb3 (Nat.le_refl _)); have R3_c := Go.Lib.hid (R2_c.out.below hb3 (Nat.le_refl _)); clear hb3)
        | (go_at_call 11; ((with_reducible refine (n4.out _ ?h1).mono ?_)); (case h1 => exact R3_a.out); rintro e w4 ⟨rfl, hb4⟩; have hWE4 := Go.Lib.hid hW3.out; have hW4 := Go.Lib.hid (hWE4.out.trans (hb4.mono hWE4.out.size)); have R4_a := Go.Lib.hid (R3_a.out.below hb4 (Nat.le_refl _)); have R4_b := Go.Lib.hid (R3_b.out.below hb4 (Nat.le_refl _)); have R4_c := Go.Lib.hid (R3_c.out.below hb4 (Nat.le_refl _)); clear hb4)
        | (at_make; refine law_make elU8 w4 rfl _ _ rfl .i64 .i64 (k : Int) (k : Int) k rfl rfl rfl rfl (by omega) ?_; intro w5 hown5 hb5 hs5; have hW5 := Go.Lib.hid (hW4.out.trans (hb5.mono hW4.out.size)); have R5_a := Go.Lib.hid (R4_a.out.below hb5 (Nat.le_refl _)); have R5_b := Go.Lib.hid (R4_b.out.below hb5 (Nat.le_refl _)); have R5_c := Go.Lib.hid (R4_c.out.below hb5 (Nat.le_refl _)); have R5_m := Go.Lib.hid (Row.of_own hown5 u8m.out); clear hown5 hb5 hs5)
        | (go_at_call 11; ((with_reducible refine (n5.out _ _ _ ?h1).mono ?_)); (case h1 => exact R5_m.out); rintro e w6 ⟨rfl, hb6⟩; have hWE6 := Go.Lib.hid hW5.out; have hW6 := Go.Lib.hid (hWE6.out.trans (hb6.mono hWE6.out.size)); have R6_a := Go.Lib.hid (R5_a.out.below hb6 (Nat.le_refl _)); have R6_b := Go.Lib.hid (R5_b.out.below hb6 (Nat.le_refl _)); have R6_c := Go.Lib.hid (R5_c.out.below hb6 (Nat.le_refl _)); have R6_m := Go.Lib.hid (R5_m.out.below hb6 (Nat.le_refl _)); clear hb6)
        | (go_at_call 12; refine (alive4_ok _).mono ?_; rintro e w7 ⟨rfl, hb7⟩; have hWE7 := Go.Lib.hid hW6.out; have hW7 := Go.Lib.hid (hWE7.out.trans (hb7.mono hWE7.out.size)); clear hb7))
      go_ret
      exact ⟨rfl, hW7.out⟩

theorem crc64Linear_walk (x0 : Int) (ax1 : Option Addr) (lenx1 capx1 : Nat) (zx1 : List Int) (ax2 : Option Addr) (lenx2 capx2 : Nat) (zx2 : List Int) (W : World) (wx0 : (Lit.int .u64 x0).wf = true) (wx1 : IsRow .u8 W ax1 lenx1 capx1 zx1) (wx2 : IsRow .u8 W ax2 lenx2 capx2 zx2) :
    Calls Try.prog 5 #[.int .u64 x0, .slice ax1 lenx1 capx1, .slice ax2 lenx2 capx2] W fun e w' => e = .returned (.bool true) ∧ Below W.heap.size W w' := by
  have hr1 := Row.of_isRow wx1
  have hr2 := Row.of_isRow wx2
  have b0 := bounds_u64 wx0
  obtain ⟨st, rfl⟩ : ∃ n : Nat, x0 = n := ⟨x0.toNat, by omega⟩
  have m1 := Nat.le_trans hr1.hcap hr1.hmax
  have m2 := Nat.le_trans hr2.hcap hr2.hmax
  unfold maxLen at m1 m2
  by_cases h : lenx1 ≠ lenx2 ∨ 500 < lenx1
  · exact csfLin_out W _ _ _ _ _ _ _ (by omega) (by omega) h
  · obtain rfl : lenx1 = lenx2 := by omega
    exact csfLin_in W st (by omega) _ _ _ _ _ _ _ hr1 hr2 (by omega)
end Go.Proofs.Ytgffegcflibclaa
