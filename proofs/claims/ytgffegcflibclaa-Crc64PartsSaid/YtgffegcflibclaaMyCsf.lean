/- Contracts of the package crc64 (the true code). -/
import Derived.Test.YtgffegcflibclaaMyCsfH
namespace Go.Proofs.Ytgffegcflibclaa
open Go.RowKit Cad

theorem elU64 : Elem Try.prog 22 24 .u64 := ⟨Try.underlying22, 8, by decide, by kernel_rfl⟩
def csfTab : List Int := (List.range 256).map fun i => (csfByte 0 i : Int)
theorem csfTab_len : csfTab.length = 256 := by simp [csfTab]
theorem csfTab_getD {i : Nat} (h : i < 256) : csfTab.getD i 0 = (csfByte 0 i : Nat) := by simp [csfTab, List.getD, h]
theorem csfTab_snoc {k : Nat} (h : k < 256) : csfTab.take (k + 1) = csfTab.take k ++ [(csfByte 0 k : Int)] := by
  rw [List.take_add_one, List.getElem?_eq_getElem (by rw [csfTab_len]; exact h)]
  simp [csfTab]
attribute [irreducible] csfTab

/-- what the walk over half a byte reckons -/
theorem half_facts {s h : Nat} (hs : s < 18446744073709551616) (hh : h < 16) : ∃ m d x v r : Nat, IntKind.u64.wrap ((s : Int) * 16) = (m : Int) ∧ (s : Int) / 1152921504606846976 = (d : Int) ∧ bits .xor .u64 (d : Int) (h : Int) = (x : Int) ∧ x < 16 ∧ v = nib x ∧ v < 18446744073709551616 ∧ bits .xor .u64 (m : Int) (v : Int) = (r : Int) ∧ r = csfBits s (upN h) := by
  have hx : (s / 1152921504606846976) ^^^ h < 16 := Nat.xor_lt_two_pow (n := 4) (by omega) hh
  refine ⟨(s * 16) % 18446744073709551616, s / 1152921504606846976, (s / 1152921504606846976) ^^^ h, _, _, ?_, by simp, ?_, hx, rfl, nib_lt _, Go.u64_xor_nat _ _ (by omega) (nib_lt _), (half_step hs hh).symm⟩
  · rw [IntKind.wrap_u64]; omega
  · exact Go.u64_xor_nat _ _ (by omega) (by omega)

/-- the states within a byte -/
def midSt (s c j : Nat) : Nat := if j = 0 then s else if j = 1 then csfBits s (upN (c / 16)) else csfByte s c

set_option maxRecDepth 100000 in
theorem CBehind_ok (W : World) (s : Nat) (a : Option Addr) (len cap : Nat) (l : List Int) (hr : Row .u8 W a len cap l) (hs : s < 18446744073709551616) :
    Calls Try.prog 16 #[.int .u64 s, .slice a len cap] W fun e W' => e = .returned (.int .u64 (csfB s l : Nat)) ∧ Below W.heap.size W W' := by
  have hmx := Nat.le_trans hr.hcap hr.hmax
  unfold maxLen at hmx
  have hlen := Go.Lib.hid hr.hlen
  have hr' := Go.Lib.hid hr
  have hsz : (nums .u64 nibTab).toArray.size = 16 := by simp [nums, nibTab_len]
  have hinf := Go.Lib.hid (show (Try.prog.info? 43).map (·.size) = some (nums .u64 nibTab).toArray.size by rw [hsz]; kernel_rfl)
  have hall := Go.Lib.hid (show (nums .u64 nibTab).toArray.all (·.oneCell') = true by simp [nums]; exact fun _ _ => rfl)
  have hszh := Go.Lib.hid hsz
  clear hr hsz
  go_enter Try.func16, Try.ntmps16
  go_wp2_with (first
    | (go_at_call 18; refine (CHalves_ok _).mono ?_; rintro e w1 ⟨rfl, hb1⟩)
    | (refine wpList_store_row rfl 43 _ _ rfl w1.heap.size _ rfl rfl _ _ (heap_alloc_new _ _) hinf.out hszh.out.symm hall.out ?_))
  have hrow := setRow_heap _ w1.heap.size _ (nums .u64 nibTab).toArray _ _ (heap_alloc_new w1 (.cells #[Value.int IntKind.u64 0, Value.int IntKind.u64 0, Value.int IntKind.u64 0, Value.int IntKind.u64 0, Value.int IntKind.u64 0, Value.int IntKind.u64 0, Value.int IntKind.u64 0, Value.int IntKind.u64 0, Value.int IntKind.u64 0, Value.int IntKind.u64 0, Value.int IntKind.u64 0, Value.int IntKind.u64 0, Value.int IntKind.u64 0, Value.int IntKind.u64 0, Value.int IntKind.u64 0, Value.int IntKind.u64 0] 43))
  have hb2 := below_setRow (hb1.alloc hb1.size (.cells #[Value.int IntKind.u64 0, Value.int IntKind.u64 0, Value.int IntKind.u64 0, Value.int IntKind.u64 0, Value.int IntKind.u64 0, Value.int IntKind.u64 0, Value.int IntKind.u64 0, Value.int IntKind.u64 0, Value.int IntKind.u64 0, Value.int IntKind.u64 0, Value.int IntKind.u64 0, Value.int IntKind.u64 0, Value.int IntKind.u64 0, Value.int IntKind.u64 0, Value.int IntKind.u64 0, Value.int IntKind.u64 0] 43)) hb1.size (nums .u64 nibTab).toArray
  obtain ⟨w2, hw2⟩ : ∃ w2, w2 = (w1.alloc (.cells #[Value.int IntKind.u64 0, Value.int IntKind.u64 0, Value.int IntKind.u64 0, Value.int IntKind.u64 0, Value.int IntKind.u64 0, Value.int IntKind.u64 0, Value.int IntKind.u64 0, Value.int IntKind.u64 0, Value.int IntKind.u64 0, Value.int IntKind.u64 0, Value.int IntKind.u64 0, Value.int IntKind.u64 0, Value.int IntKind.u64 0, Value.int IntKind.u64 0, Value.int IntKind.u64 0, Value.int IntKind.u64 0] 43)).setRow w1.heap.size (nums .u64 nibTab).toArray := ⟨_, rfl⟩
  rw [← hw2] at hrow hb2 ⊢
  clear hw2 hb1
  obtain ⟨bk, hbk⟩ : ∃ bk, bk = w1.heap.size := ⟨_, rfl⟩
  rw [← hbk] at hrow ⊢
  clear hbk
  have hr2 := Go.Lib.hid (hr'.out.below hb2 (Nat.le_refl _))
  have hb2 := Go.Lib.hid hb2
  have hcells : Hid (∀ x < 16, w2.cell? ⟨bk, x, none⟩ = some (.int .u64 (nib x : Nat))) := Go.Lib.hid fun x hx => cells_at hrow (by
    rw [← nibTo_16]; exact nibTo_get hx (by decide))
  clear hrow hr' hinf hall hszh
  go_loop [0, 13] (fun st i => ∃ k : Nat, k ≤ len ∧ i = .int .i64 k ∧ st = .int .u64 (csfB s (l.take k) : Nat)) (fun _ i => len - (intOf i).toNat)
  case atStart => exact ⟨0, by omega, rfl, rfl⟩
  case round =>
    obtain ⟨k, hk, rfl, rfl⟩ := hrel
    by_cases hlt : k < len
    · obtain ⟨b, off, rfl, _, hc⟩ := hr2.out.cells (by omega)
      have hcell := hc k hlt
      have hn := Go.Lib.hid (csfB_snoc s l (k := k) (by rw [hlen.out]; exact hlt))
      have hst := csfB_lt (l.take k) hs
      have hb : 0 ≤ l.getD k 0 ∧ l.getD k 0 ≤ 255 := by
        have := bounds_u8 (hr2.out.wf _ (show l.getD k 0 ∈ l by rw [show l.getD k 0 = l[k]'(by rw [hlen.out]; exact hlt) by simp [List.getD, hlen.out, hlt]]; exact List.getElem_mem _))
        exact this
      obtain ⟨st, hs'⟩ : ∃ x, x = csfB s (l.take k) := ⟨_, rfl⟩
      obtain ⟨c, hcc⟩ : ∃ c : Nat, l.getD k 0 = c := ⟨(l.getD k 0).toNat, by omega⟩
      rw [hcc] at hcell hn hb
      rw [← hs'] at hst hn ⊢
      have hc8 : c < 256 := by omega
      obtain ⟨h0, hh0, hq0⟩ : ∃ h0 : Nat, h0 < 16 ∧ (c : Int) / 16 = (h0 : Int) := ⟨c / 16, by omega, by simp⟩
      obtain ⟨h1, hh1, hq1⟩ : ∃ h1 : Nat, h1 < 16 ∧ (c : Int) % 16 = (h1 : Int) := ⟨c % 16, by omega, by simp⟩
      have hbt := Go.Lib.hid (byte_half (s := st) hc8)
      rw [show c / 16 = h0 by omega, show c % 16 = h1 by omega] at hbt
      have hout := Go.Lib.hid hn
      clear hs' hcc hc hb hn
      have i0 : ∀ w, (Instr.index 45 (.agg #[.int .u8 (h0 : Int), .int .u8 (h1 : Int)]) (.int .i64 0)).run Try.prog w = .ok (.int .u8 (h0 : Int)) w := fun _ => by kernel_rfl
      have i1 : ∀ w, (Instr.index 45 (.agg #[.int .u8 (h0 : Int), .int .u8 (h1 : Int)]) (.int .i64 1)).run Try.prog w = .ok (.int .u8 (h1 : Int)) w := fun _ => by kernel_rfl
      go_wp2
      go_loop [0, 22] (fun st' j => (j = .int .i64 0 ∧ st' = .int .u64 (st : Nat)) ∨ (j = .int .i64 1 ∧ st' = .int .u64 (csfBits st (upN h0) : Nat)) ∨ (j = .int .i64 2 ∧ st' = .int .u64 (csfBits (csfBits st (upN h0)) (upN h1) : Nat))) (fun _ j => 2 - (intOf j).toNat)
      case atStart => exact .inl ⟨rfl, rfl⟩
      case round =>
        rcases hrel with ⟨rfl, rfl⟩ | ⟨rfl, rfl⟩ | ⟨rfl, rfl⟩
        · obtain ⟨m, d, x, v, r, e1, e2, e3, hx16, ev, hv, e4, er⟩ := half_facts hst hh0
          have hcx := hcells.out x hx16
          rw [← ev] at hcx
          have erh := Go.Lib.hid er
          clear er ev hcell hq0 hq1
          go_wp2
          go_round
          case rel => exact .inr (.inl ⟨rfl, by rw [erh.out]⟩)
          case measure => (simp [intOf] <;> omega)
        · have hst1 : csfBits st (upN h0) < 18446744073709551616 := csfBits_lt _ hst
          obtain ⟨s1, hs1⟩ : ∃ s1, s1 = csfBits st (upN h0) := ⟨_, rfl⟩
          rw [← hs1] at hst1 ⊢
          obtain ⟨m, d, x, v, r, e1, e2, e3, hx16, ev, hv, e4, er⟩ := half_facts hst1 hh1
          have hcx := hcells.out x hx16
          rw [← ev] at hcx
          have erh := Go.Lib.hid er
          have hs1h := Go.Lib.hid hs1
          clear er ev hcell hq0 hq1 hs1
          go_wp2
          go_round
          case rel => exact .inr (.inr ⟨rfl, by rw [erh.out, hs1h.out]⟩)
          case measure => (simp [intOf] <;> omega)
        · rw [← hbt.out]
          clear hcell hq0 hq1
          go_wp2
          go_round
          case rel => exact ⟨k + 1, by omega, by go_num, by rw [hout.out.out]; simp⟩
          case measure => (simp [intOf] <;> omega)
    · obtain rfl : k = len := by omega
      rw [List.take_of_length_le (by rw [hlen.out]; omega)]
      go_wp2
      go_ret
      exact ⟨rfl, hb2.out⟩

theorem CByte_ok (W : World) (s c : Nat) (hs : s < 18446744073709551616) (hc : c < 256) (a : Addr) (hr : Row .u8 W (some a) 1 1 [(c : Int)]) :
    Calls Try.prog 16 #[.int .u64 s, .slice (some a) 1 1] W fun e W' => e = .returned (.int .u64 (csfByte s c : Nat)) ∧ Below W.heap.size W W' := CBehind_ok W s (some a) 1 1 [(c : Int)] hr hs

def tabTo (k : Nat) : List Int := csfTab.take k ++ List.replicate (256 - k) 0
theorem tabTo_0 : tabTo 0 = List.replicate 256 0 := by unfold tabTo; rw [List.take_zero, List.nil_append]
theorem tabTo_256 : tabTo 256 = csfTab := by unfold tabTo; rw [List.take_of_length_le (by rw [csfTab_len]; exact Nat.le_refl _), Nat.sub_self, List.replicate_zero, List.append_nil]
theorem tabTo_len {k : Nat} (h : k ≤ 256) : (tabTo k).length = 256 := by unfold tabTo; rw [List.length_append, List.length_take, csfTab_len, List.length_replicate]; omega
theorem tabTo_set {k : Nat} (h : k < 256) : (tabTo k).set k (csfByte 0 k : Nat) = tabTo (k + 1) := by
  unfold tabTo
  rw [csfTab_snoc h, show 256 - k = (256 - (k + 1)) + 1 by omega, List.replicate_succ, List.set_append_right _ _ (by rw [List.length_take, csfTab_len]; omega)]
  rw [show k - (List.take k csfTab).length = 0 by rw [List.length_take, csfTab_len]; omega]
  simp
attribute [irreducible] tabTo

theorem tab_facts {W wr w2 : World} {n k x : Nat} (hn : n = 256) (hlt : k < 256) (hown : wr.ownsRow W.heap.size 24 1 (.slice (some ⟨W.heap.size, 0, none⟩) n n) n (nums .u64 (tabTo k))) (hsw : W.heap.size < wr.heap.size) (hb : Below W.heap.size W wr)
    (hset : (tabTo k).set k (x : Int) = tabTo (k + 1)) (o : Obj) (hb2 : Below (wr.heap.size + 1) (wr.alloc o) w2) :
    (∃ v0, w2.cell? ⟨W.heap.size, k, none⟩ = some v0) ∧ w2.frozen? ⟨W.heap.size, k, none⟩ = false ∧ Hid ((w2.setCell ⟨W.heap.size, k, none⟩ (.int .u64 (x : Nat))).ownsRow W.heap.size 24 1 (.slice (some ⟨W.heap.size, 0, none⟩) n n) n (nums .u64 (tabTo (k + 1))) ∧ W.heap.size < w2.heap.size ∧ Below W.heap.size W (w2.setCell ⟨W.heap.size, k, none⟩ (.int .u64 (x : Nat)))) := by
  have hown2 := own_below (hown.alloc o) hb2 (by simp)
  have hc1 := hown2.cellAt k (by omega)
  have hf1 := hown2.frozenAt k
  have hsz := hb2.size
  simp only [World.size_alloc] at hsz
  refine ⟨⟨_, hc1.trans (List.getElem?_eq_getElem (by rw [show (nums .u64 (tabTo k)).length = 256 by simp [nums, tabTo_len (Nat.le_of_lt hlt)]]; exact hlt))⟩, hf1, ⟨?_, by omega, ((hb.alloc (Nat.le_of_lt hsw) _).trans (hb2.mono (by omega))).setCell (p := ⟨W.heap.size, k, none⟩) (Nat.le_refl _) _⟩⟩
  have := (hown2.stored k (.int .u64 (x : Nat))).1
  rwa [show (nums .u64 (tabTo k)).set k (.int .u64 (x : Nat)) = nums .u64 (tabTo (k + 1)) by rw [← hset]; simp [nums, List.map_set]] at this

set_option maxRecDepth 100000 in
theorem STable_ok (W : World) : Calls Try.prog 9 #[] W fun e W' => ∃ v', e = .returned v' ∧ W'.ownsRow W.heap.size 24 1 v' 256 (nums .u64 csfTab) ∧ Below W.heap.size W W' := by
  obtain ⟨n, hn⟩ : ∃ n : Nat, n = 256 := ⟨_, rfl⟩
  have hnI : (256 : Int) = (n : Int) := by omega
  have h0 := Go.Lib.hid tabTo_0
  rw [← hn] at h0
  have hn' := Go.Lib.hid hnI
  have hnb : n ≤ 17592186044416 := by omega
  have hne := Go.Lib.hid hn
  clear hn hnI
  go_enter Try.func9, Try.ntmps9
  go_wp2_with (at_make; refine law_make elU64 _ rfl _ _ rfl .i64 .i64 256 256 n rfl rfl hn'.out hn'.out hnb ?_; intro w1 hown1 hb1 hs1; rw [← h0.out] at hown1)
  go_loopw [2, 4] (fun d i wr => ∃ k : Nat, k ≤ 256 ∧ i = .int .i64 k ∧ wr.ownsRow W.heap.size 24 1 (.slice (some ⟨W.heap.size, 0, none⟩) n n) n (nums .u64 (tabTo k)) ∧ W.heap.size < wr.heap.size ∧ Below W.heap.size W wr) (fun _ i _ => 256 - (intOf i).toNat)
  case atStart => exact ⟨0, by omega, rfl, hown1, hs1, hb1⟩
  case round =>
    obtain ⟨k, hk, rfl, hown, hsw, hb⟩ := hrel
    by_cases hlt : k < 256
    · have hkn : (k : Int) < n := by have := hne.out; omega
      have hset := Go.Lib.hid (tabTo_set hlt)
      have hbt := csfByte_lt (s := 0) (by decide) k
      have hcall : Hid (Calls Try.prog 16 #[.int .u64 0, .slice (some ⟨wr.heap.size, 0, none⟩) 1 1] (wr.alloc (.cells #[.int .u8 (k : Int)] 5)) fun e W' => e = .returned (.int .u64 (csfByte 0 k : Nat)) ∧ Below (wr.heap.size + 1) (wr.alloc (.cells #[.int .u8 (k : Int)] 5)) W') := Go.Lib.hid (by
        have := CByte_ok (wr.alloc (.cells #[.int .u8 (k : Int)] 5)) 0 k (by decide) hlt ⟨wr.heap.size, 0, none⟩ (lit_row wr [(k : Int)] 1 (0, 0) rfl (by decide) (by intro x hx; simp at hx; omega))
        simpa using this)
      obtain ⟨x, hx⟩ : ∃ x, x = csfByte 0 k := ⟨_, rfl⟩
      rw [← hx] at hset hbt hcall
      have hownh := Go.Lib.hid hown
      have hbh := Go.Lib.hid hb
      clear hx hown hb hown1 hb1 hs1
      have hf := Go.Lib.hid (fun w2 => tab_facts (w2 := w2) (x := x) hne.out hlt hownh.out hsw hbh.out hset.out (.cells #[.int .u8 (k : Int)] 5))
      go_wp2_with (go_at_call 16; refine hcall.out.mono ?_; rintro e w2 ⟨rfl, hb2⟩; obtain ⟨⟨v0, hc1⟩, hf1, hrest⟩ := hf.out w2 hb2; clear hb2)
      go_roundw
      case rel => exact ⟨k + 1, by omega, by go_num, hrest.out.1, by simpa using hrest.out.2.1, hrest.out.2.2⟩
      case measure => (simp [intOf] <;> omega)
    · obtain rfl : k = 256 := by omega
      have hnk : ¬ (256 : Int) < n := by have := hne.out; omega
      rw [tabTo_256] at hown
      have hown' := Go.Lib.hid hown
      clear hown hown1 hb1 hs1
      go_wp2
      go_ret
      have h := hown'.out
      have e := hne.out
      subst e
      exact ⟨_, rfl, h, hb⟩

theorem SNext_many (W : World) (s : Int) (a : Option Addr) (len cap : Nat) (h : (100000 : Int) < len) (hm : len ≤ 9223372036854775807) :
    Calls Try.prog 11 #[.int .u64 s, .slice a len cap] W fun e W' => e = .returned (.tuple #[.int .u64 0, .int .i64 4]) ∧ Below W.heap.size W W' := by
  go_enter Try.func11, Try.ntmps11
  go_wp2
  go_ret2
  exact ⟨rfl, Below.refl _ _⟩
theorem SNext_ok (W : World) (s : Nat) (a : Option Addr) (len cap : Nat) (l : List Int) (hr : Row .u8 W a len cap l) (hs : s < 18446744073709551616) (h : (len : Int) ≤ 100000) :
    Calls Try.prog 11 #[.int .u64 s, .slice a len cap] W fun e W' => e = .returned (.tuple #[.int .u64 (csfB s l : Nat), .int .i64 0]) ∧ Below W.heap.size W W' := by
  have hc := Go.Lib.hid (CBehind_ok W s a len cap l hr hs)
  clear hr
  go_enter Try.func11, Try.ntmps11
  go_wp2_with (go_at_call 16; refine hc.out.mono ?_; rintro e w1 ⟨rfl, hb1⟩)
  go_ret2
  exact ⟨rfl, hb1⟩
theorem SSum_many (W : World) (a : Option Addr) (len cap : Nat) (h : (100000 : Int) < len) (hm : len ≤ 9223372036854775807) :
    Calls Try.prog 10 #[.slice a len cap] W fun e W' => e = .returned (.tuple #[.int .u64 0, .int .i64 4]) ∧ Below W.heap.size W W' := by
  go_enter Try.func10, Try.ntmps10
  go_wp2_with (go_at_call 11; refine (SNext_many _ 0 a len cap h hm).mono ?_; rintro e w1 ⟨rfl, hb1⟩)
  go_ret2
  exact ⟨rfl, hb1⟩
theorem SSum_ok (W : World) (a : Option Addr) (len cap : Nat) (l : List Int) (hr : Row .u8 W a len cap l) (h : (len : Int) ≤ 100000) :
    Calls Try.prog 10 #[.slice a len cap] W fun e W' => e = .returned (.tuple #[.int .u64 (csfB 0 l : Nat), .int .i64 0]) ∧ Below W.heap.size W W' := by
  have hc := Go.Lib.hid (SNext_ok W 0 a len cap l hr (by decide) h)
  clear hr
  go_enter Try.func10, Try.ntmps10
  go_wp2_with (go_at_call 11; refine hc.out.mono ?_; rintro e w1 ⟨rfl, hb1⟩)
  go_ret2
  exact ⟨rfl, hb1⟩
end Go.Proofs.Ytgffegcflibclaa
