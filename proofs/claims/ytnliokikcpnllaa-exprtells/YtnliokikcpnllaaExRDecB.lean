/-
  The page's Decode. (Printed by wip/make/mkexrdec.py.)
-/
import Derived.Test.YtnliokikcpnllaaExRDec
namespace Go.Proofs.Ytnliokikcpnllaa
open Go.ChangeShapes Go.WideShapes Go.ChangeAt Go.RowKit
open Fl

set_option maxRecDepth 100000 in
set_option maxHeartbeats 3200000 in
theorem rdecX_fine (a : Option Addr) (c : Nat) (l : List UInt8) (w : World) (ho : Oct w a c l) (v : X 8) (s' : SX) (hrd : rdX 8 (l, 0) = .ok (v, s')) (h0 : ¬ 0 < s'.1.length) (h64 : ¬ 64 < s'.2) :
    Calls Try.prog 16 #[.slice a l.length c] w (RDecPost (.ok v) w) := by
  have hR : ((w.alloc (.cells #[.int .i64 0, .int .u64 0, .string ⟨#[]⟩, .slice none 0 0] 25)).alloc (.cells #[.slice a l.length c, .int .i64 0, .int .i64 0, .int .i64 0] 73)).heap[w.heap.size + 1]? = some (.cells #[.slice a l.length c, .int .i64 0, .int .i64 0, .int .i64 0] 73 (0, 0)) := heap_new2 _ _ _
  have HB2 : Hid (Below w.heap.size w ((w.alloc (.cells #[.int .i64 0, .int .u64 0, .string ⟨#[]⟩, .slice none 0 0] 25)).alloc (.cells #[.slice a l.length c, .int .i64 0, .int .i64 0, .int .i64 0] 73))) := nxt (below_one _ _) (below_one _ _)
  have HZ2 : Hid (((w.alloc (.cells #[.int .i64 0, .int .u64 0, .string ⟨#[]⟩, .slice none 0 0] 25)).alloc (.cells #[.slice a l.length c, .int .i64 0, .int .i64 0, .int .i64 0] 73)).heap[w.heap.size]? = some (.cells #[.int .i64 0, .int .u64 0, .string ⟨#[]⟩, .slice none 0 0] 25 (0, 0))) := (Below.heap_alloc _ _ _ (by simp)).trans (heap_alloc_new _ _)
  have hlen : l.length ≤ 200000000000000 := ho.2.2.2.1
  have HC := rexprX_any 8 1 (l, 0) (w.heap.size + 1) a c l ((w.alloc (.cells #[.int .i64 0, .int .u64 0, .string ⟨#[]⟩, .slice none 0 0] 25)).alloc (.cells #[.slice a l.length c, .int .i64 0, .int .i64 0, .int .i64 0] 73)) (by decide) (by decide) ⟨0, by omega, rfl, hR⟩ (ho.below HB2.out) (by simp only; omega)
  have HSZ : Hid (((w.alloc (.cells #[.int .i64 0, .int .u64 0, .string ⟨#[]⟩, .slice none 0 0] 25)).alloc (.cells #[.slice a l.length c, .int .i64 0, .int .i64 0, .int .i64 0] 73)).heap.size = w.heap.size + 2) := by show _ = _; simp
  clear hR hlen ho
  rw [hrd] at HC
  clear hrd
  go_enter Try.func16, Try.ntmps16
  go_wp2_with fail
  generalize (w.alloc (.cells #[.int .i64 0, .int .u64 0, .string ⟨#[]⟩, .slice none 0 0] 25)).alloc (.cells #[.slice a l.length c, .int .i64 0, .int .i64 0, .int .i64 0] 73) = W2 at *
  have below3 : ∀ w3 : World, W2.grownBy w3 (some (w.heap.size + 1)) → Below w.heap.size w w3 := fun w3 hg => ⟨hg.os.trans HB2.out.os, hg.tape.trans HB2.out.tape, hg.output.trans HB2.out.output, Nat.le_trans HB2.out.size hg.size, fun j hj => (hg.block j (by have := HB2.out.size; omega) (by simp; omega)).trans (HB2.out.block j hj)⟩
  have HBL : Hid (∀ w3 : World, W2.grownBy w3 (some (w.heap.size + 1)) → Below w.heap.size w w3) := below3
  have HZQ : Hid (∀ w3 : World, W2.grownBy w3 (some (w.heap.size + 1)) → w3.heap[w.heap.size]? = some (.cells #[.int .i64 0, .int .u64 0, .string ⟨#[]⟩, .slice none 0 0] 25 (0, 0))) := fun w3 hg => (hg.block _ (lt_of_block HZ2.out) (by simp)).trans HZ2.out
  clear below3
  refine HC.mono ?_
  rintro e w3 ⟨hg3, ⟨er', K, k, b, t, ia, il, ic, h1, -⟩ | ⟨v', s5, k, b, t, ia, il, ic, F, h1, rfl, hO, hF, hr3⟩⟩
  · cases h1
  cases h1
  have hp3 : (w.heap.size + 1) < w3.heap.size := by obtain ⟨i, -, -, h⟩ := hr3; exact lt_of_block h
  have HR : Hid (RAtX (w3.alloc (.cells #[.int .i64 k, .int .u64 b, .string t, .slice ia il ic] 25)) (w.heap.size + 1) a c l s') := hr3.same ((below_one _ _).block _ hp3)
  have HB : Hid (Below w.heap.size w (w3.alloc (.cells #[.int .i64 k, .int .u64 b, .string t, .slice ia il ic] 25))) := nxt (HBL.out w3 hg3) (below_one _ _)
  have HZ : Hid ((w3.alloc (.cells #[.int .i64 k, .int .u64 b, .string t, .slice ia il ic] 25)).heap[w.heap.size]? = some (.cells #[.int .i64 0, .int .u64 0, .string ⟨#[]⟩, .slice none 0 0] 25 (0, 0))) := ((below_one _ _).block _ (by omega)).trans (HZQ.out w3 hg3)
  have HX : Hid ((w3.alloc (.cells #[.int .i64 k, .int .u64 b, .string t, .slice ia il ic] 25)).heap[w3.heap.size]? = some (.cells #[.int .i64 k, .int .u64 b, .string t, .slice ia il ic] 25 (0, 0))) := heap_alloc_new _ _
  have HO : Hid (OwnX 25 (w3.alloc (.cells #[.int .i64 k, .int .u64 b, .string t, .slice ia il ic] 25)) 8 (mkX k b t ia il ic) v F) := hO.same 8 fun g hg => (below_one _ _).block g (hF g hg).2
  have HF : Hid (∀ g, F g → g ≠ w.heap.size) := fun g hg => by have := (hF g hg).1; have := HSZ.out; omega
  obtain ⟨i3, hi3, hd3, hb3⟩ := HR.out
  have hsl : s'.1.length = l.length - i3 := by rw [hd3, List.length_drop]
  obtain ⟨x0, x1, x2, x3, -⟩ := rd4X_cells hb3
  have HB3 : Hid ((w3.alloc (.cells #[.int .i64 k, .int .u64 b, .string t, .slice ia il ic] 25)).heap[(w.heap.size + 1)]? = _) := hb3
  have hsz : w.heap.size < w3.heap.size := by omega
  clear hb3 hd3 hg3 hr3 hO hF HBL HZQ HC HB2 HZ2 HSZ
  have hlt : decide ((i3 : Int) < (l.length : Int)) = false := by simp; omega
  have hltN : decide (i3 < l.length) = false := by simp; omega
  clear h0 hsl
  have h64' : decide ((64 : Int) < (s'.2 : Int)) = false := by simp; omega
  have h64N : decide (64 < s'.2) = false := by simp; omega
  have H99 : Hid (¬ 64 < s'.2) := h64
  clear h64
  go_wp2_with fail
  generalize w3.alloc (.cells #[.int .i64 k, .int .u64 b, .string t, .slice ia il ic] 25) = W4 at *
  refine (rfailX_no (w.heap.size + 1) 23 W4 HB3.out).mono ?_
  rintro e w4 ⟨rfl, hw4⟩
  subst hw4
  go_wp2_with fail
  refine (rfailX_no (w.heap.size + 1) 3 w4 HB3.out).mono ?_
  rintro e w5 ⟨rfl, hw5⟩
  subst hw5
  obtain ⟨v0, v1, v2, v3, -⟩ := box4 HX.out
  obtain ⟨z0, z1, z2, z3, zf0, zf1, zf2, zf3⟩ := box4 HZ.out
  go_wp2_with fail
  refine bodyPost_ret (v := .tuple #[mkX k b t ia il ic, .int .i64 0]) (by simp [results, Try.results16, go_sem, z0, z1, z2, z3]) rfl ?_
  obtain ⟨T2, O2, S2⟩ := set4 HZ.out (.int .i64 k) (.int .u64 b) (.string t) (.slice ia il ic)
  have HB7 : Below w.heap.size w ((((w5.setCell ⟨w.heap.size, 0, none⟩ (.int .i64 k)).setCell ⟨w.heap.size, 1, none⟩ (.int .u64 b)).setCell ⟨w.heap.size, 2, none⟩ (.string t)).setCell ⟨w.heap.size, 3, none⟩ (.slice ia il ic)) := (((HB.out.setCell (by simp) _).setCell (by simp) _).setCell (by simp) _).setCell (by simp) _
  exact ⟨HB7, Or.inr ⟨v, k, b, t, ia, il, ic, rfl, rfl, OwnX.lay 8 (HO.out.same 8 fun g hg => O2 g (HF.out g hg))⟩⟩

/-- The page's Decode answers as the reading as mathematics. -/
theorem rdecX_any (a : Option Addr) (c : Nat) (l : List UInt8) (w : World) (ho : Oct w a c l) :
    Calls Try.prog 16 #[.slice a l.length c] w (RDecPost (decR (l, 0)) w) := by
  unfold decR
  cases hrd : rdX 8 (l, 0) with
  | error er => exact rdecX_err a c l w ho er hrd
  | ok vs =>
    obtain ⟨v, s'⟩ := vs
    simp only
    by_cases h0 : 0 < s'.1.length
    · rw [if_pos h0]; exact rdecX_tail a c l w ho v s' hrd h0
    · rw [if_neg h0]
      by_cases h64 : 64 < s'.2
      · rw [if_pos h64]; exact rdecX_many a c l w ho v s' hrd h0 h64
      · rw [if_neg h64]; exact rdecX_fine a c l w ho v s' hrd h0 h64
end Go.Proofs.Ytnliokikcpnllaa
