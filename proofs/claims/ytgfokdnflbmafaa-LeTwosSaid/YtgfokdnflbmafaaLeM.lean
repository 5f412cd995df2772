/- Contracts of the functions of le and of its reference that read or make bytes. -/
import Derived.Test.YtgfokdnflbmafaaLe
import Derived.Test.YtgfokdnflbmafaaKit
namespace Go.Proofs.Ytgfokdnflbmafaa
open Go.RowKit Cad

theorem u8_bd {l : List Int} (h : ∀ n ∈ l, (Lit.int .u8 n).wf = true) : ∀ n ∈ l, 0 ≤ n ∧ n ≤ 255 := fun n hn => bounds_u8 (h n hn)
theorem getD_bd {l : List Int} (h : ∀ n ∈ l, 0 ≤ n ∧ n ≤ 255) (i : Nat) : 0 ≤ l.getD i 0 ∧ l.getD i 0 ≤ 255 := by
  by_cases hi : i < l.length
  · simpa [List.getD, hi] using h _ (List.getElem_mem hi)
  · simp [List.getD, Nat.not_lt.1 hi]

theorem join_pos (W : World) (b off len cap : Nat) (l : List Int) (hlen : l.length = len) (hl : len ≤ 8) (hwf : ∀ n ∈ l, 0 ≤ n ∧ n ≤ 255)
    (hc : ∀ i, i < len → W.cell? ⟨b, off + i, none⟩ = some (.int .u8 (l.getD i 0))) :
    Calls Try.prog 25 #[.slice (some ⟨b, off, none⟩) len cap] W fun e W' => e = .returned (.int .u64 (ofB l)) ∧ W = W' := by
  go_enter Try.func25, Try.ntmps25
  go_wp2
  go_loop [3, 8] (fun n i => ∃ k : Nat, k ≤ len ∧ i = .int .i64 k ∧ n = .int .u64 (ofB (l.take k))) (fun _ i => len - (intOf i).toNat)
  case atStart => exact ⟨0, Nat.zero_le _, rfl, rfl⟩
  case round =>
    obtain ⟨k, hk, rfl, rfl⟩ := hrel
    by_cases hlt : k < len
    · have hcell := hc k hlt
      have hb := getD_bd hwf k
      have hn := ofB_bd (l.take k) (fun c hc => hwf c (List.mem_of_mem_take hc))
      rw [List.length_take, Nat.min_eq_left (by omega)] at hn
      have H := Go.Lib.hid ((or_byte _ (l.getD k 0) k hn.1 hn.2 hb.1 hb.2 (by omega)).trans (ofB_take l k (by omega)).symm)
      obtain ⟨c, hcc⟩ : ∃ c, c = l.getD k 0 := ⟨_, rfl⟩
      rw [← hcc] at hcell hb H
      clear hn hcc hc hwf
      go_wp2
      go_round
      case rel => exact ⟨k + 1, by omega, by go_num, by rw [← H.out]⟩
      case measure => (simp [intOf] <;> omega)
    · go_wp2
      go_ret
      exact ⟨by rw [show k = l.length from by omega, List.take_length]; rfl, rfl⟩

theorem join_any (W : World) (a : Option Addr) (len cap : Nat) (l : List Int) (h : Row .u8 W a len cap l) (h1 : 1 ≤ len) (hl : len ≤ 8) :
    Calls Try.prog 25 #[.slice a len cap] W fun e W' => e = .returned (.int .u64 (ofB l)) ∧ W = W' := by
  obtain ⟨b, off, rfl, _, hc⟩ := h.cells (by omega)
  exact join_pos W b off len cap l h.hlen hl (u8_bd h.wf) hc

theorem Of_pos (W : World) (b off len cap : Nat) (l : List Int) (hlen : l.length = len) (hl : len ≤ 8) (hwf : ∀ n ∈ l, 0 ≤ n ∧ n ≤ 255)
    (hc : ∀ i, i < len → W.cell? ⟨b, off + i, none⟩ = some (.int .u8 (l.getD i 0))) :
    Calls Try.prog 29 #[.slice (some ⟨b, off, none⟩) len cap] W fun e W' => e = .returned (.int .u64 (ofB l)) ∧ W = W' := by
  go_enter Try.func29, Try.ntmps29
  go_wp2
  go_loop [3, 4] (fun n i => ∃ k : Nat, k ≤ len ∧ i = .int .i64 ((k : Int) - 1) ∧ n = .int .u64 (ofB (l.drop k))) (fun _ i => (intOf i + 1).toNat)
  case atStart => exact ⟨len, by omega, rfl, by rw [← hlen, List.drop_length]; rfl⟩
  case round =>
    obtain ⟨k, hk, rfl, rfl⟩ := hrel
    by_cases hlt : 0 < k
    · obtain ⟨j, rfl⟩ : ∃ j, k = j + 1 := ⟨k - 1, by omega⟩
      have hcell := hc j (by omega)
      have hb := getD_bd hwf j
      have hn := ofB_bd (l.drop (j + 1)) (fun c hc => hwf c (List.mem_of_mem_drop hc))
      have hp : (256 : Int) ^ (l.drop (j + 1)).length ≤ 72057594037927936 := by
        have : (l.drop (j + 1)).length ≤ 7 := by rw [List.length_drop]; omega
        generalize (l.drop (j + 1)).length = m at this
        have : m = 0 ∨ m = 1 ∨ m = 2 ∨ m = 3 ∨ m = 4 ∨ m = 5 ∨ m = 6 ∨ m = 7 := by omega
        rcases this with rfl | rfl | rfl | rfl | rfl | rfl | rfl | rfl <;> decide
      have hn2 : 0 ≤ ofB (l.drop (j + 1)) ∧ ofB (l.drop (j + 1)) < 72057594037927936 := ⟨hn.1, by omega⟩
      have H := Go.Lib.hid (ofB_drop l j (by omega))
      have hj : (j + 1 : Nat) - (1 : Int) = (j : Int) := by omega
      rw [hj]
      clear hj
      obtain ⟨c, hcc⟩ : ∃ c, c = l.getD j 0 := ⟨_, rfl⟩
      rw [← hcc] at hcell hb H
      obtain ⟨m, hm⟩ : ∃ m, m = ofB (l.drop (j + 1)) := ⟨_, rfl⟩
      rw [← hm] at hn2 H ⊢
      clear hn hcc hc hwf hp hm
      go_wp2
      go_round
      case rel => exact ⟨j, by omega, by go_num, by rw [H.out]; go_num⟩
      case measure => (simp [intOf] <;> omega)
    · go_wp2
      go_ret
      exact ⟨by rw [show k = 0 from by omega, List.drop_zero]; rfl, rfl⟩

theorem Of_any (W : World) (a : Option Addr) (len cap : Nat) (l : List Int) (h : Row .u8 W a len cap l) (h1 : 1 ≤ len) (hl : len ≤ 8) :
    Calls Try.prog 29 #[.slice a len cap] W fun e W' => e = .returned (.int .u64 (ofB l)) ∧ W = W' := by
  obtain ⟨b, off, rfl, _, hc⟩ := h.cells (by omega)
  exact Of_pos W b off len cap l h.hlen hl (u8_bd h.wf) hc

theorem Value_no (W : World) (a : Option Addr) (len cap : Nat) (h : ¬ (1 ≤ len ∧ len ≤ 8)) :
    Calls Try.prog 14 #[.slice a len cap] W fun e W' => e = .returned (.tuple #[.int .u64 0, .int .i64 2]) ∧ W = W' := by
  go_enter Try.func14, Try.ntmps14
  go_wp2_with (go_at_call 23; refine (isWidth_no _ _ (by omega)).mono ?_; rintro e w1 ⟨rfl, rfl⟩)
  go_ret2
  exact ⟨rfl, rfl⟩
theorem Value_ok (W : World) (a : Option Addr) (len cap : Nat) (l : List Int) (h : Row .u8 W a len cap l) (h1 : 1 ≤ len) (hl : len ≤ 8) :
    Calls Try.prog 14 #[.slice a len cap] W fun e W' => e = .returned (.tuple #[.int .u64 (ofB l), .int .i64 0]) ∧ W = W' := by
  go_enter Try.func14, Try.ntmps14
  go_wp2_with (first | (go_at_call 23; refine (isWidth_yes _ _ (by omega) (by omega)).mono ?_; rintro e w1 ⟨rfl, rfl⟩) | (go_at_call 25; refine (join_any _ _ _ _ _ h h1 hl).mono ?_; rintro e w1 ⟨rfl, rfl⟩))
  go_ret2
  exact ⟨rfl, rfl⟩
theorem RValue_no (W : World) (a : Option Addr) (len cap : Nat) (h : ¬ (1 ≤ len ∧ len ≤ 8)) :
    Calls Try.prog 17 #[.slice a len cap] W fun e W' => e = .returned (.tuple #[.int .u64 0, .int .i64 2]) ∧ W = W' := by
  go_enter Try.func17, Try.ntmps17
  go_wp2_with (go_at_call 21; refine (Width_no _ _ (by omega)).mono ?_; rintro e w1 ⟨rfl, rfl⟩)
  go_ret2
  exact ⟨rfl, rfl⟩
theorem RValue_ok (W : World) (a : Option Addr) (len cap : Nat) (l : List Int) (h : Row .u8 W a len cap l) (h1 : 1 ≤ len) (hl : len ≤ 8) :
    Calls Try.prog 17 #[.slice a len cap] W fun e W' => e = .returned (.tuple #[.int .u64 (ofB l), .int .i64 0]) ∧ W = W' := by
  go_enter Try.func17, Try.ntmps17
  go_wp2_with (first | (go_at_call 21; refine (Width_yes _ _ (by omega) (by omega)).mono ?_; rintro e w1 ⟨rfl, rfl⟩) | (go_at_call 29; refine (Of_any _ _ _ _ _ h h1 hl).mono ?_; rintro e w1 ⟨rfl, rfl⟩))
  go_ret2
  exact ⟨rfl, rfl⟩
end Go.Proofs.Ytgfokdnflbmafaa
