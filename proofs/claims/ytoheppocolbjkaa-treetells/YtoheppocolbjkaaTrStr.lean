/-
  The builder's String; newPrinter.
-/
import Derived.Test.YtoheppocolbjkaaTrPut
namespace Go.Proofs.Ytoheppocolbjkaa
open Go.ChangeShapes Go.WideShapes Go.ChangeAt Go.RowKit

theorem Kp.freeze {w : World} {g : Nat} {cur : Array Value} (hg : w.heap[g]? = some (.cells cur 5 (0, 0))) (n : Nat) : Kp w (w.drew.freeze ⟨g, 0, none⟩ n) := by
  intro j o hf hj
  have hne : ¬ g = j := by
    rintro rfl
    rw [hg] at hj
    cases hj
    simp [free] at hf
  unfold World.freeze
  split
  · exact hj
  · show (Array.modify _ _ _)[j]? = _
    rw [Array.getElem?_modify, if_neg hne]
    exact hj

set_option maxRecDepth 100000 in
set_option maxHeartbeats 3200000 in
theorem string_any (B P q : Nat) (l : List UInt8) (w : World) (h : Pr w B P q l) (hB : B ≤ w.heap.size) :
    Calls Try.prog 29 #[.pointer (some ⟨P, 0, none⟩)] w fun e w' => e = .returned (.string ⟨l.toArray⟩) ∧ Below B w w' ∧ Kp w w' := by
  obtain ⟨p, v, -, hv⟩ := h
  obtain ⟨-, -, hbk, hown⟩ := hv
  have hlt := lt_of_block hbk
  by_cases h0 : l = []
  · subst h0
    have hUS : ∀ (W : World) (q : Option Addr), (Builtin.unsafeString_ #[76, 3] 9 #[.pointer q, .int .i64 0]).run Try.prog W = .ok (.string .empty) W := fun W q => Lib.run_unsafeString_none W _ _ _ q
    obtain ⟨-, hcase⟩ := hown
    rcases hcase with ⟨rfl, -⟩ | ⟨g, cap, cur, rfl, hbg, hg, -⟩
    · obtain ⟨-, c1, -⟩ := three_cells (show w.drew.heap[P]? = _ from hbk)
      have hSD : (Builtin.unsafeSliceData_ #[54] 76 #[.slice none 0 0]).run Try.prog w.drew = .ok (.pointer none) w.drew := rfl
      go_enter Try.func29, Try.ntmps29
      go_wp2_with fail
      go_region
      all_goals (go_wp2_with fail; go_ret; exact ⟨rfl, (Below.refl B w).drew, fun _ _ _ h => h⟩)
    · by_cases hc0 : cap = 0
      · subst hc0
        obtain ⟨-, c1, -⟩ := three_cells (show w.drew.heap[P]? = _ from hbk)
        have hSD : (Builtin.unsafeSliceData_ #[54] 76 #[.slice (some ⟨g, 0, none⟩) 0 0]).run Try.prog w.drew = .ok (.pointer (some ⟨w.drew.heap.size, 0, none⟩)) (w.drew.alloc (.view ⟨g, 0, none⟩ 5)) :=
          Lib.run_unsafeSliceData_zero w.drew _ _ 5 Try.underlying76 ⟨g, 0, none⟩ 0 (5, cur.size) (by have hg' : w.drew.heap[g]? = some (.cells cur 5 (0, 0)) := hg; simp [World.shape?, hg'])
        have c2 : (w.drew.alloc (.view ⟨g, 0, none⟩ 5)).cell? ⟨P, 1, none⟩ = some (.slice (some ⟨g, 0, none⟩) 0 0) := by
          have : (w.drew.alloc (.view ⟨g, 0, none⟩ 5)).heap[P]? = _ := (Below.heap_alloc w.drew _ P hlt).trans hbk
          exact (cell_of this 1).1
        have c3 : (w.alloc (.view ⟨g, 0, none⟩ 5)).drew.cell? ⟨P, 1, none⟩ = some (.slice (some ⟨g, 0, none⟩) 0 0) := c2
        have c0 : w.cell? ⟨P, 1, none⟩ = some (.slice (some ⟨g, 0, none⟩) 0 0) := c1
        go_enter Try.func29, Try.ntmps29
        go_wp2_with fail
        go_region
        all_goals (go_wp2_with fail; go_ret; exact ⟨rfl, ((Below.refl B w).drew).alloc hB _, Kp.of_below (((Below.refl _ w).drew).alloc (Nat.le_refl _) _)⟩)
      · obtain ⟨-, c1, -⟩ := three_cells (show w.drew.heap[P]? = _ from hbk)
        have hSD : (Builtin.unsafeSliceData_ #[54] 76 #[.slice (some ⟨g, 0, none⟩) 0 cap]).run Try.prog w.drew = .ok (.pointer (some ⟨g, 0, none⟩)) w.drew :=
          Lib.run_unsafeSliceData_row _ _ _ _ _ _ hc0
        clear hc0
        go_enter Try.func29, Try.ntmps29
        go_wp2_with fail
        go_region
        all_goals (go_wp2_with fail; go_ret; exact ⟨rfl, (Below.refl B w).drew, fun _ _ _ h => h⟩)
  · have hl0 : l.length ≠ 0 := by simpa using h0
    obtain ⟨g, cap, cur, rfl, hbg, hg, hnc, hcm, hcs, htake⟩ : ∃ g cap cur, v = .slice (some ⟨g, 0, none⟩) l.length cap ∧ B ≤ g ∧ w.heap[g]? = some (.cells cur 5 (0, 0)) ∧ l.length ≤ cap ∧ cap ≤ maxLen ∧ cur.size = cap * 1 ∧ cur.toList.take (l.length * 1) = cellsO l := by
      rcases hown.2 with ⟨_, hz⟩ | ⟨g, cap, cur, hv, r⟩
      · exact absurd hz hl0
      · exact ⟨g, cap, cur, hv, r⟩
    obtain ⟨-, c1, -⟩ := three_cells (show w.drew.heap[P]? = _ from hbk)
    have hSD : (Builtin.unsafeSliceData_ #[54] 76 #[.slice (some ⟨g, 0, none⟩) l.length cap]).run Try.prog w.drew = .ok (.pointer (some ⟨g, 0, none⟩)) w.drew :=
      Lib.run_unsafeSliceData_row _ _ _ _ _ _ (by omega)
    have hUS : (Builtin.unsafeString_ #[76, 3] 9 #[.pointer (some ⟨g, 0, none⟩), .int .i64 l.length]).run Try.prog w.drew = .ok (.string ⟨l.toArray⟩) (w.drew.freeze ⟨g, 0, none⟩ l.length) := by
      refine Lib.run_unsafeString_row w.drew 76 3 9 5 Try.underlying76 Try.cellsByte g cur.size (by have hg' : w.drew.heap[g]? = some (.cells cur 5 (0, 0)) := hg; simp [World.shape?, hg']) l h0 (by omega) (by unfold maxLen at hcm; omega) ?_
      intro j x hx
      have := hown.cells (g := g) rfl j (.int .u8 x.toNat) (by simp [cellsO, hx])
      exact this
    have HKF : Hid (Kp w (w.drew.freeze ⟨g, 0, none⟩ l.length)) := Kp.freeze hg _
    clear hown htake hcm hcs hnc hg hbk h0 hl0
    go_enter Try.func29, Try.ntmps29
    go_wp2_with fail
    go_region
    all_goals (go_wp2_with fail; go_ret; exact ⟨rfl, Lib.below_freeze (Below.drew (Below.refl B w)) (p := ⟨g, 0, none⟩) hbg _, HKF.out⟩)

set_option maxRecDepth 100000 in
set_option maxHeartbeats 1600000 in
theorem newPrinter_any (w : World) : Calls Try.prog 27 #[] w fun e w' => ∃ P q, e = .returned (.pointer (some ⟨P, 0, none⟩)) ∧ Pr w' w.heap.size P q [] ∧ Below w.heap.size w w' := by
  go_enter Try.func27, Try.ntmps27
  go_wp2_with fail
  go_ret
  refine ⟨_, w.heap.size, rfl, ⟨_, _, Or.inl rfl, ?_, ?_, ?_, Bs.nil _ _⟩, below2 _ _ _⟩
  · simp
  · exact (Below.heap_alloc _ _ _ (by simp)).trans (heap_alloc_new _ _)
  · exact heap_new2 _ _ _
end Go.Proofs.Ytoheppocolbjkaa
