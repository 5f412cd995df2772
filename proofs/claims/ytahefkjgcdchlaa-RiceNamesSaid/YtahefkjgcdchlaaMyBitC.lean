/- Contracts of the package bits: copies, bits of bytes, aligned bits. -/
import Derived.Test.YtahefkjgcdchlaaMyBitB
import Derived.Laws.CopyOwn
namespace Go.Proofs.Ytahefkjgcdchlaa
open Go.RowKit Cad

theorem Bcopied_ok (W : World) (a : Option Addr) (len cap : Nat) (l : List Int) (hr : Row .u8 W a len cap l) (hlen : len ≤ 1000000000) :
    Calls Try.prog 35 #[.slice a len cap] W fun e W' => ∃ v', e = .returned v' ∧
      W'.ownsRow W.heap.size 5 1 v' len (nums .u8 l) ∧ Below W.heap.size W W' := by
  have hr' := Go.Lib.hid hr
  clear hr
  go_enter Try.func35, Try.ntmps35
  go_wp2_with (first
    | (refine law_make elU8 _ rfl _ _ rfl .i64 .i64 _ _ len rfl rfl (by omega) (by omega) (by omega) ?_; intro w1 hown1 hb1 hs1; have hr1 := (hr'.out.below hb1 (Nat.le_refl _)); have hown1' := Go.Lib.hid hown1; have hb1' := Go.Lib.hid hb1; clear hown1 hb1)
    | (with_reducible show wpList _ _ _ _ _ _; refine law_copyRow elU8 _ rfl _ _ _ rfl W.heap.size W.heap.size len len (List.replicate len 0) rfl hown1'.out a len cap l rfl hr1 (Nat.le_refl _) ?_; intro w2 hown2 hb2; have hown2' := Go.Lib.hid hown2; have hb2' := Go.Lib.hid hb2; clear hown2 hb2))
  go_ret
  refine ⟨_, rfl, by simpa using hown2'.out, hb1'.out.trans hb2'.out⟩

theorem BOf_many (W : World) (a : Option Addr) (len cap : Nat) (h : (41250 : Int) < len) (_hl : len ≤ 9223372036854775807) :
    Calls Try.prog 13 #[.slice a len cap] W fun e W' => e = .returned (.tuple #[.agg #[.slice none 0 0, .int .i64 0], .int .i64 4]) ∧ Below W.heap.size W W' := by
  go_enter Try.func13, Try.ntmps13
  go_wp2
  go_returns
  exact ⟨rfl, (Below.refl _ _).alloc (Nat.le_refl _) _⟩

theorem BOf_ok (W : World) (a : Option Addr) (len cap : Nat) (l : List Int) (hr : Row .u8 W a len cap l) (h : (len : Int) ≤ 41250) :
    Calls Try.prog 13 #[.slice a len cap] W fun e W' => ∃ v', e = .returned (.tuple #[.agg #[v', .int .i64 (8 * (len : Int))], .int .i64 0]) ∧
      W'.ownsRow W.heap.size 5 1 v' len (nums .u8 l) ∧ Below W.heap.size W W' := by
  have hbE := ((Below.refl W.heap.size W).alloc (Nat.le_refl _) (.cells #[.slice none 0 0, .int .i64 0] 28))
  have hcp := Go.Lib.hid (Bcopied_ok _ a len cap l (hr.below hbE (Nat.le_refl _)) (by omega))
  have hy0 : BoxAt (W.alloc (.cells #[.slice none 0 0, .int .i64 0] 28)) W.heap.size (.slice none 0 0) 0 := by
    unfold BoxAt; rw [heap_alloc_new]
  have hbE' := Go.Lib.hid hbE
  have hy0' := Go.Lib.hid hy0
  clear hr hbE hy0
  go_enter Try.func13, Try.ntmps13
  go_wp2_with (go_at_call 35; refine hcp.out.mono ?_; rintro e w1 ⟨v1, rfl, hown1, hb1⟩; obtain ⟨a1, c1, rfl⟩ := own_form hown1; obtain ⟨d0, d1, g0, g1⟩ := (hy0'.out.below hb1 (by simp)).cells; have hb1' := Go.Lib.hid hb1; have ho1' := Go.Lib.hid hown1; clear hb1 hown1)
  (try simp only [Exit.inBlock, Exit.then])
  have hy1 := hy0'.out.below hb1'.out (by simp)
  have ap := hy1.apart ho1'.out
  refine bodyPost_ret (results_box_tmp (by rfl) _ _ W.heap.size _ _ rfl (hy1.set _ _)) rfl ?_
  refine ⟨.slice a1 len c1, by simp [Int.mul_comm], own_set (own_set (own_base ho1'.out (by simp)) ap _ _) ap _ _, ?_⟩
  exact ((hbE'.out.trans (hb1'.out.mono (by simp))).setCell (Nat.le_refl _) _).setCell (Nat.le_refl _) _

end Go.Proofs.Ytahefkjgcdchlaa
