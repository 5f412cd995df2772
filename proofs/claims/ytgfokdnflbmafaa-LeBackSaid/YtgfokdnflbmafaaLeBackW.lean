/- The walk of LeBack. -/
import Derived.Test.YtgfokdnflbmafaaLeL
namespace Go.Proofs.Ytgfokdnflbmafaa
open Go.RowKit Cad


theorem leBack_main (n m : Int) (w : Nat) (af : Option Addr) (lf cf : Nat) (zf : List Int) (ab : Option Addr) (lb cb : Nat) (zb : List Int) (W : World) (h : 1 ≤ (w : Int)) (h' : (w : Int) ≤ 8)
    (n0 : 0 ≤ n) (n1 : n ≤ top w) (m0 : 0 ≤ m) (m1 : m ≤ top w) (hf : Row .u8 W af lf cf zf) (hbh : Row .u8 W ab lb cb zb) (l1 : lf ≤ 50) (l2 : lb ≤ 50) :
    Calls Try.prog 6 #[.int .u64 n, .int .u64 m, .int .i64 w, .slice af lf cf, .slice ab lb cb] W fun e w' => e = .returned (.bool true) ∧ Below W.heap.size W w' := by
  have n1' : n ≤ top (w : Int).toNat := by simpa using n1
  have m1' : m ≤ top (w : Int).toNat := by simpa using m1
  have HB1 : bytesS n w = (leB n w, 0) := by unfold bytesS; rw [if_pos ⟨h, h'⟩, if_pos n1']; simp
  have HB2 : bytesS m w = (leB m w, 0) := by unfold bytesS; rw [if_pos ⟨h, h'⟩, if_pos m1']; simp
  have hw1 : 1 ≤ w := by omega
  have hw8 : w ≤ 8 := by omega
  have hN : ofB (leB n w) = n := ofB_leB n w n0 (by have := top_pow w; omega)
  have hM : ofB (leB m w) = m := ofB_leB m w m0 (by have := top_pow w; omega)
  have hEq : ((strOfNums (leB n w)).toList == (strOfNums (leB m w)).toList) = (n == m) := by
    rw [str_beq (leB_wf n w) (leB_wf m w)]
    by_cases e : n = m
    · subst e; simp
    · have : leB n w ≠ leB m w := fun e' => e (by rw [← hN, ← hM, e'])
      rw [beq_eq_false_iff_ne.2 e, beq_eq_false_iff_ne.2 this]
  have HN := Go.Lib.hid hN
  have HV : Go.RowKit.Hid (valueS (leB n w) = (n, 0)) := by show _ = _; simp [valueS, length_leB, hw1, hw8, hN]
  have HA : Go.RowKit.Hid (atS ([] ++ zf ++ leB n w ++ zb) lf w = (n, 0)) := by
    have hfl := hf.hlen
    show _ = _
    unfold atS
    rw [if_pos ⟨h, h', by omega⟩, if_pos (by simp [length_leB]; omega)]
    have e : (([] ++ zf ++ leB n w ++ zb).drop (lf : Int).toNat).take (w : Int).toNat = leB n w := by
      simp only [Int.toNat_natCast, List.nil_append, List.append_assoc]
      rw [← hfl, List.drop_left, List.take_left' (length_leB n w)]
    rw [e, hN]
  have hB1 := Go.Lib.hid HB1
  have hB2 := Go.Lib.hid HB2
  clear HB1 HB2 hN hM n1 m1
  go_enter Try.func6, Try.ntmps6
  go_wp2_with (first | (go_at_call 21; refine (Width_yes _ _ h h').mono ?_; rintro e w1 ⟨rfl, rfl⟩) | (go_at_call 22; refine (top_any _ _ h h').mono ?_; rintro e w1 ⟨rfl, rfl⟩))
  refine (bytes_at n w (leB n w) w _ ⟨n0, length_leB n w⟩ hB1.out).mono ?_
  rintro e w1 ⟨ax, cx, rfl, hrx, hb1⟩
  go_wp2_with fail
  refine (bytes_at m w (leB m w) w _ ⟨m0, length_leB m w⟩ hB2.out).mono ?_
  rintro e w2 ⟨ay, cy, rfl, hry, hb2⟩
  have hrx2 := hrx.below hb2 (Nat.le_refl _)
  have hb12 := hb1.trans (hb2.mono hb1.size)
  have hf2 := hf.below hb12 (Nat.le_refl _)
  have hbh2 := hbh.below hb12 (Nat.le_refl _)
  clear hrx hb1 hb2 hf hbh
  have hA0 : Below w2.heap.size w2 (w2.alloc (.cells #[] 5)) := (Below.refl _ _).alloc (Nat.le_refl _) _
  have hf3 := hf2.below hA0 (Nat.le_refl _)
  go_wp2_with (first | (go_at_call 14; ((with_reducible refine (Value_any _ _ _ _ (leB n w) hrx2).mono ?_); rintro e w3 ⟨rfl, rfl⟩); rw [HV.out]) | (at_builtin; refine law_appendRow elU8 _ rfl (.tmp 63) (.tmp 64) rfl w2.heap.size _ 0 [] rfl (own_empty _ _ _) af lf cf zf rfl hf3 (by omega) (by simp) ?_; intro v1 w3 ho1 hc1; have hd1 := hA0.trans hc1; have hrx3 := hrx2.below hd1 (Nat.le_refl _); clear hc1 hf3) | (at_builtin; refine law_appendRow elU8 _ rfl (.tmp 65) (.tmp 66) rfl w2.heap.size _ _ _ rfl ho1 ax w cx _ rfl hrx3 (by omega) hd1.size ?_; intro v2 w4 ho2 hc2; have hd2 := hd1.trans hc2; have hbh4 := hbh2.below hd2 (Nat.le_refl _); clear hc2 hd1 ho1 hrx3) | (at_builtin; refine law_appendRow elU8 _ rfl (.tmp 67) (.tmp 68) rfl w2.heap.size _ _ _ rfl ho2 ab lb cb _ rfl hbh4 (by omega) hd2.size ?_; intro v3 w5 ho3 hc3; have hd3 := hd2.trans hc3; clear hc3 hd2 ho2 hbh4) | (go_at_call 11; fail))
  have hrx5 := hrx2.below hd3 (Nat.le_refl _)
  have hry5 := hry.below hd3 (Nat.le_refl _)
  have hall : ∀ c ∈ [] ++ zf ++ leB n w ++ zb, (Lit.int .u8 c).wf = true := by
    intro c hc
    simp only [List.nil_append, List.append_assoc, List.mem_append] at hc
    rcases hc with hc | hc | hc
    · exact hf2.wf c hc
    · exact wf_leB n w c hc
    · exact hbh2.wf c hc
  have hlen : ([] ++ zf ++ leB n w ++ zb).length = 0 + lf + w + lb := by
    have := hf2.hlen; have := hbh2.hlen; simp [length_leB]; omega
  obtain ⟨aa, ca, hv3, hra⟩ := Row.own (l := [] ++ zf ++ leB n w ++ zb) (by rw [hlen]; exact ho3) hall
  rw [hv3, hlen]
  rw [hlen] at hra
  have hsx := hrx5.str (P := Try.prog) (S := 9) uT uU8 uS
  have hsy := hry5.str (P := Try.prog) (S := 9) uT uU8 uS
  have hb := hb12.trans (hd3.mono hb12.size)
  clear hd3 ho3 hrx5 hry5 hrx2 hry hf2 hbh2 hv3 hall hlen
  go_wp2_with (first | (go_at_call 11; ((with_reducible refine (At_any _ _ _ _ _ _ _ hra (by omega)).mono ?_); rintro e w6 ⟨rfl, rfl⟩); rw [HA.out]) | (go_at_call 15; refine (alive_any _).mono ?_; rintro e w7 ⟨rfl, hb7⟩))
  go_ret
  exact ⟨rfl, hb.trans (hb7.mono hb.size)⟩

theorem leBack_walk (a0 : Int) (a1 : Int) (a2 : Int) (a3 : Option Addr) (len3 cap3 : Nat) (z3 : List Int) (a4 : Option Addr) (len4 cap4 : Nat) (z4 : List Int) (W : World) (w0 : (Lit.int .u64 a0).wf = true) (w1 : (Lit.int .u64 a1).wf = true) (_w2 : (Lit.int .i64 a2).wf = true) (w3 : IsRow .u8 W a3 len3 cap3 z3) (w4 : IsRow .u8 W a4 len4 cap4 z4) :
    Calls Try.prog 6 #[.int .u64 a0, .int .u64 a1, .int .i64 a2, .slice a3 len3 cap3, .slice a4 len4 cap4] W fun e w' => e = .returned (.bool true) ∧ Below W.heap.size W w' := by
  have b0 := bounds_u64 w0
  have b1 := bounds_u64 w1
  have hr3 := Row.of_isRow w3
  have hr4 := Row.of_isRow w4
  clear w0 w1 _w2 w3 w4
  by_cases h : 1 ≤ a2 ∧ a2 ≤ 8
  · obtain ⟨w, rfl⟩ := Int.eq_ofNat_of_zero_le (show 0 ≤ a2 by omega)
    obtain ⟨h, h'⟩ := h
    by_cases n1 : a0 ≤ top w
    · by_cases m1 : a1 ≤ top w
      · by_cases l1 : len3 ≤ 50
        · by_cases l2 : len4 ≤ 50
          · exact leBack_main a0 a1 w a3 len3 cap3 _ a4 len4 cap4 _ W h h' b0.1 n1 b1.1 m1 hr3 hr4 l1 l2
          · clear hr3 hr4
            go_enter Try.func6, Try.ntmps6
            go_wp2_with (first | (go_at_call 21; refine (Width_yes _ _ h h').mono ?_; rintro e w1 ⟨rfl, rfl⟩) | (go_at_call 22; refine (top_any _ _ h h').mono ?_; rintro e w1 ⟨rfl, rfl⟩) | (go_at_call 15; refine (alive_any _).mono ?_; rintro e w1 ⟨rfl, hb⟩))
            go_ret
            exact ⟨rfl, hb⟩
        · clear hr3 hr4
          go_enter Try.func6, Try.ntmps6
          go_wp2_with (first | (go_at_call 21; refine (Width_yes _ _ h h').mono ?_; rintro e w1 ⟨rfl, rfl⟩) | (go_at_call 22; refine (top_any _ _ h h').mono ?_; rintro e w1 ⟨rfl, rfl⟩) | (go_at_call 15; refine (alive_any _).mono ?_; rintro e w1 ⟨rfl, hb⟩))
          go_ret
          exact ⟨rfl, hb⟩
      · clear hr3 hr4
        go_enter Try.func6, Try.ntmps6
        go_wp2_with (first | (go_at_call 21; refine (Width_yes _ _ h h').mono ?_; rintro e w1 ⟨rfl, rfl⟩) | (go_at_call 22; refine (top_any _ _ h h').mono ?_; rintro e w1 ⟨rfl, rfl⟩) | (go_at_call 15; refine (alive_any _).mono ?_; rintro e w1 ⟨rfl, hb⟩))
        go_ret
        exact ⟨rfl, hb⟩
    · clear hr3 hr4
      go_enter Try.func6, Try.ntmps6
      go_wp2_with (first | (go_at_call 21; refine (Width_yes _ _ h h').mono ?_; rintro e w1 ⟨rfl, rfl⟩) | (go_at_call 22; refine (top_any _ _ h h').mono ?_; rintro e w1 ⟨rfl, rfl⟩) | (go_at_call 15; refine (alive_any _).mono ?_; rintro e w1 ⟨rfl, hb⟩))
      go_ret
      exact ⟨rfl, hb⟩
  · clear hr3 hr4
    go_enter Try.func6, Try.ntmps6
    go_wp2_with (first | (go_at_call 21; refine (Width_no _ _ h).mono ?_; rintro e w1 ⟨rfl, rfl⟩) | (go_at_call 15; refine (alive_any _).mono ?_; rintro e w1 ⟨rfl, hb⟩))
    go_ret
    exact ⟨rfl, hb⟩
end Go.Proofs.Ytgfokdnflbmafaa
