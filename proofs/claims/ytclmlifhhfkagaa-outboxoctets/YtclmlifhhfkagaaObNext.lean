/-
  The program's New and Next.
-/
import Derived.Test.YtclmlifhhfkagaaObAdd
namespace Go.Proofs.Ytclmlifhhfkagaa
open Go.ChangeShapes Go.WideShapes Go.ChangeAt Go.RowKit

set_option maxRecDepth 100000 in
theorem new_any (w : World) : Calls Try.prog 27 #[] w fun e w' => e = .returned (.agg #[.int .i64 0, .slice none 0 0]) ∧ Below w.heap.size w w' := by
  go_enter Try.func27, Try.ntmps27
  go_wp2_with fail
  refine bodyPost_ret (v := .agg #[.int .i64 0, .slice none 0 0]) (by simp [results, Try.results27, go_sem]) rfl ?_
  exact ⟨rfl, below_one _ _⟩

/-- What a call tells that answers a list. -/
def ListPost {n : Nat} (w : World) (R : Int × List (Tm n)) (e : Ending) (w' : World) : Prop := ∃ v H, e = .returned (.tuple #[v, .int .i64 R.1]) ∧ CopyInv (shT n) w w' v R.2 H

theorem CopyInv.none {α : Type} {n : Nat} (S : Sh α n) {w w1 : World} (hb : Below w.heap.size w w1) : CopyInv S w w1 (.slice none 0 0) [] (fun _ => False) := ⟨OwnR.nil S _, fun _ hb => hb.elim, hb⟩
theorem CopyInv.from {α : Type} {n : Nat} {S : Sh α n} {w w1 w2 : World} {v : Value} {its : List α} {H : Nat → Prop} (h : CopyInv S w1 w2 v its H) (hb : Below w.heap.size w w1) : CopyInv S w w2 v its H :=
  ⟨h.1, fun b hb' => ⟨by have := (h.2.1 b hb').1; have := hb.size; omega, (h.2.1 b hb').2⟩, nxt hb h.2.2⟩

set_option maxRecDepth 100000 in
set_option maxHeartbeats 3200000 in
theorem next_box {n : Nat} (L k : Int) (its : List (Tm n)) (ia : Option Addr) (ic : Nat) (w : World) (hT : TIs w n ia ic its) (hk : k ≤ 9223372036854775807) :
    Calls Try.prog 28 #[.agg #[.int .i64 L, .slice ia its.length ic], .int .i64 k] w (ListPost w (nextR L its k)) := by
  have HT : Hid (TIs w n ia ic its) := hT
  have hlT := hT.2.2.1
  have hc1 := hT.1
  have hc2 := hT.2.1
  have C1 : Hid (∀ w', Below w.heap.size w w' → Calls Try.prog 15 #[.agg #[.int .i64 L, .slice ia its.length ic]] w' fun e w'' => e = .returned (.int .i64 (chkB L its)) ∧ Below w'.heap.size w' w'') := fun w' hb => bcheck_any L its ia ic w' (hT.below hb)
  have X0 : Hid ((w.alloc (.cells #[.int .i64 L, .slice ia its.length ic] 26)).heap[w.heap.size]? = some (.cells #[.int .i64 L, .slice ia its.length ic] 26 (0, 0))) := heap_alloc_new _ _
  have B0 : Hid (Below w.heap.size w (w.alloc (.cells #[.int .i64 L, .slice ia its.length ic] 26))) := below_one _ _
  clear hT
  by_cases h0 : chkB L its = 0
  · by_cases h1 : 0 ≤ k
    · have E : Hid (nextR L its k = (0, its.take k.toNat)) := by show _ = _; unfold nextR; rw [if_pos h0, if_pos h1]
      obtain ⟨e1, e2, e3, e4⟩ := chkB_ok h0
      have HC1 : Hid (∀ u ∈ its, chk u.2.2 = 0) := fun u hu => (effE_chk (okT_mem e4 u hu).2.2).1
      rw [h0] at C1
      clear h0 e4
      by_cases h2 : k ≤ its.length
      · obtain ⟨j, rfl⟩ : ∃ j : Nat, k = j := ⟨k.toNat, by omega⟩
        have hj : j ≤ its.length := by omega
        have ET : Hid ((its.take ((j : Int)).toNat).length = j) := by show _ = _; simp; omega
        have C5 : Hid (∀ w', Below w.heap.size w w' → Calls Try.prog 45 #[.slice ia (its.take ((j : Int)).toNat).length ic] w' _) := fun w' hb => bcopy_any _ ia ic w' ((HT.out.below hb).take _) (fun u hu => HC1.out u (List.mem_of_mem_take hu))
        rw [ET.out] at C5
        have hmin : min (j : Int) (its.length : Int) = j := by omega
        generalize its.take ((j : Int)).toNat = acc at *
        go_enter Try.func28, Try.ntmps28
        go_wp2_with fail
        refine (C1.out _ B0.out).mono ?_
        rintro e w1 ⟨rfl, hb1⟩
        have X1 : Hid (w1.heap[w.heap.size]? = some (.cells #[.int .i64 L, .slice ia its.length ic] 26 (0, 0))) := (hb1.block _ (lt_of_block X0.out)).trans X0.out
        have B1 : Hid (Below w.heap.size w w1) := nxt B0.out hb1
        clear hb1
        obtain ⟨x0, -⟩ := cell_of X1.out 0
        obtain ⟨x1, -⟩ := cell_of X1.out 1
        simp only [List.getElem?_toArray, List.getElem?_cons_zero, List.getElem?_cons_succ] at x0 x1
        go_wp2_with fail
        refine (C5.out _ B1.out).mono ?_
        rintro e w2 ⟨v2, H2, rfl, h2⟩
        have HR : Hid _ := h2
        clear h2
        go_wp2_with fail
        go_ret2
        rw [E.out]
        exact ⟨v2, H2, rfl, CopyInv.from HR.out B1.out⟩
      · have ET : Hid (its.take k.toNat = its) := by show _ = _; rw [List.take_of_length_le (by omega)]
        rw [ET.out] at E
        have C5 : Hid (∀ w', Below w.heap.size w w' → Calls Try.prog 45 #[.slice ia its.length ic] w' _) := fun w' hb => bcopy_any _ ia ic w' (HT.out.below hb) (fun u hu => HC1.out u hu)
        have hmin : min k (its.length : Int) = its.length := by omega
        go_enter Try.func28, Try.ntmps28
        go_wp2_with fail
        refine (C1.out _ B0.out).mono ?_
        rintro e w1 ⟨rfl, hb1⟩
        have X1 : Hid (w1.heap[w.heap.size]? = some (.cells #[.int .i64 L, .slice ia its.length ic] 26 (0, 0))) := (hb1.block _ (lt_of_block X0.out)).trans X0.out
        have B1 : Hid (Below w.heap.size w w1) := nxt B0.out hb1
        clear hb1
        obtain ⟨x0, -⟩ := cell_of X1.out 0
        obtain ⟨x1, -⟩ := cell_of X1.out 1
        simp only [List.getElem?_toArray, List.getElem?_cons_zero, List.getElem?_cons_succ] at x0 x1
        go_wp2_with fail
        refine (C5.out _ B1.out).mono ?_
        rintro e w2 ⟨v2, H2, rfl, h2⟩
        have HR : Hid _ := h2
        clear h2
        go_wp2_with fail
        go_ret2
        rw [E.out]
        exact ⟨v2, H2, rfl, CopyInv.from HR.out B1.out⟩
    · have E : Hid (nextR L its k = (4, [])) := by show _ = _; unfold nextR; rw [if_pos h0, if_neg h1]
      rw [h0] at C1
      clear h0
      go_enter Try.func28, Try.ntmps28
      go_wp2_with fail
      refine (C1.out _ B0.out).mono ?_
      rintro e w1 ⟨rfl, hb1⟩
      go_wp2_with fail
      go_ret2
      rw [E.out]
      exact ⟨_, _, rfl, CopyInv.none _ (nxt B0.out hb1)⟩
  · have E : Hid (nextR L its k = (9, [])) := by show _ = _; unfold nextR; rw [if_neg h0]
    have h9 : chkB L its = 9 := (chkB_cases L its).resolve_left h0
    rw [h9] at C1
    clear h0 h9
    go_enter Try.func28, Try.ntmps28
    go_wp2_with fail
    refine (C1.out _ B0.out).mono ?_
    rintro e w1 ⟨rfl, hb1⟩
    go_wp2_with fail
    go_ret2
    rw [E.out]
    exact ⟨_, _, rfl, CopyInv.none _ (nxt B0.out hb1)⟩
end Go.Proofs.Ytclmlifhhfkagaa
