/- Contracts of the reference's functions on numbers as bits: seats that reach fits, Value, Number. -/
import Derived.Test.YtahefkjgcdchlaaBitN
namespace Go.Proofs.Ytahefkjgcdchlaa
open Go.RowKit Cad

theorem RValue_ok (W : World) (a : Option Addr) (len cap : Nat) (B : List Bool) (hr : Row .u8 W a len cap (pack B)) (hB : B.length ≤ 330000) (at_ n : Nat) (hn : n ≤ 64) (hat : at_ + n ≤ B.length) :
    Calls Try.prog 51 #[.agg #[.slice a len cap, .int .i64 B.length], .int .i64 at_, .int .i64 n] W fun e W' => e = .returned (.int .u64 (getN B at_ n : Nat)) ∧ Below W.heap.size W W' := by
  have hlen := hr.hlen
  rw [pack_len] at hlen
  have hbel := (Below.refl W.heap.size W).alloc (Nat.le_refl _) (.cells #[.slice a len cap, .int .i64 B.length] 28)
  have hlen' := Go.Lib.hid hlen
  clear hlen
  go_enter Try.func51, Try.ntmps51
  go_wp2
  have hA : (∀ o, (W.alloc (.cells #[.slice a len cap, .int .i64 B.length] 28)).cell? ⟨W.heap.size, o, none⟩ = #[Value.slice a len cap, .int .i64 B.length][o]?) ∧ W.heap.size < (W.alloc (.cells #[.slice a len cap, .int .i64 B.length] 28)).heap.size := by
    exact ⟨fun o => box_cell _ _ _ o, by simp⟩
  go_loopw [7, 8] (fun y i wr => ∃ k : Nat, k ≤ n ∧ i = .int .i64 ((k : Int) - 1) ∧ y = .int .u64 (getN B (at_ + k) (n - k) : Nat) ∧ Below W.heap.size W wr ∧ (∀ o, wr.cell? ⟨W.heap.size, o, none⟩ = #[Value.slice a len cap, .int .i64 B.length][o]?) ∧ W.heap.size < wr.heap.size) (fun _ i _ => (intOf i + 1).toNat)
  case atStart => exact ⟨n, Nat.le_refl _, rfl, by rw [Nat.sub_self, getN_zero]; rfl, hbel, hA⟩
  case round =>
    obtain ⟨k, hk, rfl, rfl, hb, hcell, hsz⟩ := hrel
    have c0 := hcell 0
    have c1 := hcell 1
    simp only [List.getElem?_toArray, List.getElem?_cons_zero, List.getElem?_cons_succ] at c0 c1
    have hr' := hr.below hb (Nat.le_refl _)
    by_cases hlt : 0 < k
    · obtain ⟨j, rfl⟩ : ∃ j, k = j + 1 := ⟨k - 1, by omega⟩
      have hj : (j + 1 : Nat) - (1 : Int) = (j : Int) := by omega
      rw [hj]
      clear hj
      have hs := Go.Lib.hid (getN_succ B (at_ + j) (n - (j + 1)) (by omega))
      have hm := getN_lt B (at_ + j + 1) (n - (j + 1))
      have hp : 2 ^ (n - (j + 1)) ≤ 2 ^ 63 := Nat.pow_le_pow_right (by decide) (by omega)
      have hm2 : getN B (at_ + (j + 1)) (n - (j + 1)) < 9223372036854775808 := by rw [show at_ + (j + 1) = at_ + j + 1 by omega]; omega
      obtain ⟨m, hmm⟩ : ∃ m, m = getN B (at_ + (j + 1)) (n - (j + 1)) := ⟨_, rfl⟩
      have hbit := Go.Lib.hid (bit_pack B (at_ + j))
      have hmm' := Go.Lib.hid hmm
      rw [← hmm] at hm2 ⊢
      have hcell' := Go.Lib.hid hcell
      have hidx : (at_ + j) / 8 < len := by have := hlen'.out; omega
      have hbI' : ∀ b : Bool, 0 ≤ bI b ∧ bI b ≤ 1 := fun b => by cases b <;> decide
      have hbI2 := hbI' (bit (pack B) (at_ + j))
      obtain ⟨z, hz⟩ : ∃ z, z = bI (bit (pack B) (at_ + j)) := ⟨_, rfl⟩
      have hz' := Go.Lib.hid hz
      rw [← hz] at hbI2
      clear hm hp hmm hcell hbI'
      go_wp2_with (go_at_call 40; refine (RAt_ok _ a len cap B.length (pack B) hr' (at_ + j) hidx).mono ?_; rintro e w1 ⟨rfl, hb1⟩; rw [← hz'.out])
      go_roundw
      case rel => exact ⟨j, by omega, by go_num, by
          have e := hs.out
          rw [show n - j = (n - (j + 1)) + 1 by omega, e, show at_ + j + 1 = at_ + (j + 1) by omega, ← hmm'.out, ← hbit.out]
          have e2 := hz'.out
          unfold bI at e2
          congr 1
          push_cast
          omega, hb.trans (hb1.mono hb.size), fun o => by rw [hb1.cell (p := ⟨W.heap.size, o, none⟩) (by simpa using hsz)]; exact hcell'.out o, Nat.lt_of_lt_of_le hsz hb1.size⟩
      case measure => (simp [intOf] <;> omega)
    · obtain rfl : k = 0 := by omega
      clear hcell
      go_wp2
      go_ret
      exact ⟨rfl, hb⟩
theorem RNumber_ok (W : World) (base : Nat) (v : Value) (B : List Bool) (num n : Nat) (hown : W.ownsRow base 5 1 v ((B.length + 7) / 8) (nums .u8 (pack B))) (hbase : base ≤ W.heap.size) (hB : B.length ≤ 500000000) (hn : n ≤ 64) (hnum : num ≤ 18446744073709551615) :
    Calls Try.prog 48 #[.agg #[v, .int .i64 B.length], .int .u64 num, .int .i64 n] W fun e W' => ∃ v', e = .returned (.agg #[v', .int .i64 ((B.length + n : Nat) : Int)]) ∧
      W'.ownsRow base 5 1 v' (((B ++ numB num n).length + 7) / 8) (nums .u8 (pack (B ++ numB num n))) ∧ Kept base W W' := by
  obtain ⟨a0, c0, rfl⟩ := own_form hown
  obtain ⟨m0, hm0⟩ : ∃ m0, m0 = (B.length + 7) / 8 := ⟨_, rfl⟩
  rw [← hm0] at hown ⊢
  have hx0 : BoxAt ((W.alloc (.cells #[.slice a0 m0 c0, .int .i64 B.length] 28)).alloc (.cells #[.slice none 0 0, .int .i64 0] 28)) W.heap.size (.slice a0 m0 c0) B.length := by
    unfold BoxAt; rw [Below.heap_alloc _ _ _ (by simp), heap_alloc_new]
  have hy0 : BoxAt ((W.alloc (.cells #[.slice a0 m0 c0, .int .i64 B.length] 28)).alloc (.cells #[.slice none 0 0, .int .i64 0] 28)) (W.heap.size + 1) (.slice none 0 0) 0 := by
    unfold BoxAt; rw [heap_alloc2_new]
  have hk0 := ((Kept.refl base W).alloc hbase (.cells #[.slice a0 m0 c0, .int .i64 B.length] 28)).alloc hbase (.cells #[.slice none 0 0, .int .i64 0] 28)
  have ho0 := (hown.alloc (.cells #[.slice a0 m0 c0, .int .i64 B.length] 28)).alloc (.cells #[.slice none 0 0, .int .i64 0] 28)
  have hm0' := Go.Lib.hid hm0
  clear hm0 hown
  go_enter Try.func48, Try.ntmps48
  go_wp2
  go_loopw [1, 7] (fun y i wr => ∃ (k : Nat) (vk : Value), k ≤ n ∧ i = .int .i64 k ∧ y = .int .u64 ((num / 2 ^ k : Nat) : Int) ∧ wr.ownsRow base 5 1 vk (((B ++ numB num k).length + 7) / 8) (nums .u8 (pack (B ++ numB num k))) ∧
    BoxAt wr W.heap.size vk ((B.length + k : Nat) : Int) ∧ BoxAt wr (W.heap.size + 1) (.slice none 0 0) 0 ∧ Kept base W wr) (fun _ i _ => n - (intOf i).toNat)
  case atStart => exact ⟨0, _, Nat.zero_le _, rfl, by simp, by rw [numB_zero, List.append_nil, ← hm0'.out]; exact ho0, hx0, hy0, hk0⟩
  case round =>
    obtain ⟨k, vk, hk, rfl, rfl, hok, hxk, hyk, hkk⟩ := hrel
    have hd : num / 2 ^ k ≤ num := Nat.div_le_self _ _
    have hLlen : (B ++ numB num k).length = B.length + k := by rw [List.length_append, numB_len]
    rw [← hLlen] at hxk
    obtain ⟨ak, ck, rfl⟩ := own_form hok
    by_cases hlt : k < n
    · have hsn := Go.Lib.hid (numB_snoc num k)
      have H2 := Go.Lib.hid (show num / 2 ^ k / 2 = num / 2 ^ (k + 1) by rw [Nat.div_div_eq_div_mul, Nat.pow_succ])
      obtain ⟨d, hdd⟩ : ∃ d, d = num / 2 ^ k := ⟨_, rfl⟩
      rw [← hdd] at hd H2 hsn ⊢
      obtain ⟨L, hL⟩ : ∃ L, L = B ++ numB num k := ⟨_, rfl⟩
      rw [← hL] at hok hxk hLlen
      obtain ⟨b, hb⟩ : ∃ b, b = (d % 2 == 1) := ⟨_, rfl⟩
      have hz : (d : Int) % 2 = bI b := by
        rw [hb]; unfold bI
        have : d % 2 = 0 ∨ d % 2 = 1 := by omega
        rcases this with h | h
        · rw [h]; simp; omega
        · rw [h]; simp; omega
      have hbI' : 0 ≤ bI b ∧ bI b ≤ 1 := by cases b <;> decide
      have hsn' := Go.Lib.hid (show B ++ numB num (k + 1) = L ++ [b] by rw [hsn.out, ← List.append_assoc, ← hL, hb])
      obtain ⟨mk, hmk⟩ : ∃ mk, mk = (L.length + 7) / 8 := ⟨_, rfl⟩
      have hadd := Go.Lib.hid (RAdd_any wr base (.slice ak mk ck) L b (by rw [hmk]; rw [hmk] at *; exact hok) (Nat.le_trans hbase hkk.bel.size) (by omega))
      rw [← hmk] at hok hxk
      obtain ⟨c0', c1', f0', f1'⟩ := hxk.cells
      have hy' := Go.Lib.hid hyk
      have hx' := Go.Lib.hid hxk
      have hk' := Go.Lib.hid hkk
      have hLl := Go.Lib.hid hLlen
      clear hL hdd hb hmk hok hyk hxk hkk hLlen
      go_wp2_with (go_at_call 54; refine hadd.out.mono ?_; rintro e w1 ⟨v1, rfl, hown1, hkept1⟩; obtain ⟨a1, c1, rfl⟩ := own_form hown1; obtain ⟨d0, d1, g0, g1⟩ := (hx'.out.kept hkept1).cells)
      have hx1 := hx'.out.kept hkept1
      have hy1 := hy'.out.kept hkept1
      have ap := hx1.apart hown1
      have hl1 : (L ++ [b]).length = L.length + 1 := by simp
      rw [hl1] at hown1 ap
      refine ⟨⟨k + 1, .slice a1 ((L.length + 1 + 7) / 8) c1, by omega, by go_num, by rw [← H2.out]; simp, ?_, ?_, ?_, ?_⟩, by simp [intOf]; omega⟩
      · rw [hsn'.out, hl1]
        exact own_set (own_set hown1 ap _ _) ap _ _
      · have := hx1.set (.slice a1 ((L.length + 1 + 7) / 8) c1) (((L.length : Nat) : Int) + 1)
        rw [show (((B.length + (k + 1) : Nat)) : Int) = (L.length : Int) + 1 by have := hLl.out; omega]
        exact this
      · exact (hy1.other (by simp) _).other (by simp) _
      · exact ((hk'.out.trans hkept1).setCell hbase (Nat.le_refl _) _).setCell hbase (Nat.le_refl _) _
    · obtain rfl : k = n := by omega
      obtain ⟨c0', c1', f0', f1'⟩ := hxk.cells
      obtain ⟨d0', d1', g0', g1'⟩ := hyk.cells
      obtain ⟨L, hL⟩ : ∃ L, L = B ++ numB num k := ⟨_, rfl⟩
      have hL' := Go.Lib.hid hL
      rw [← hL] at hok hxk hLlen c0' c1'
      obtain ⟨mk, hmk⟩ : ∃ mk, mk = (L.length + 7) / 8 := ⟨_, rfl⟩
      have hmk' := Go.Lib.hid hmk
      rw [← hmk] at hok hxk c0'
      have hy' := Go.Lib.hid hyk
      have hx' := Go.Lib.hid hxk
      have hk' := Go.Lib.hid hkk
      have ho' := Go.Lib.hid hok
      have hLl := Go.Lib.hid hLlen
      clear hL hmk hok hyk hxk hkk hLlen
      go_wp2
      refine bodyPost_ret (results_cell_row (by rfl) _ _ (W.heap.size + 1) _ _ _ _ rfl (hy'.out.set _ _) Try.underlying28 rfl (by kernel_rfl)) rfl ?_
      refine ⟨_, by rw [← hLl.out], ?_, ?_⟩
      · rw [← hL'.out, ← hmk'.out]
        have ap := hy'.out.apart ho'.out
        exact own_set (own_set ho'.out ap _ _) ap _ _
      · exact (hk'.out.setCell hbase (by simp) _).setCell hbase (by simp) _
end Go.Proofs.Ytahefkjgcdchlaa
