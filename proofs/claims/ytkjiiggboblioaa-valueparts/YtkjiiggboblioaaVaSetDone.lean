/-
  Set: what is stored at the path's end, the whole then holds.
-/
import Derived.Test.YtkjiiggboblioaaVaSetRel
namespace Go.Proofs.Ytkjiiggboblioaa
open Go.ChangeShapes Go.WideShapes Go.ChangeAt Go.RowKit
open Fl

/-- Five cells stored from o on. -/
abbrev put5 (w : World) (g o : Nat) (c0 c1 c2 c3 c4 : Value) : World := ((((w.setCell ⟨g, o, none⟩ c0).setCell ⟨g, o + 1, none⟩ c1).setCell ⟨g, o + 2, none⟩ c2).setCell ⟨g, o + 3, none⟩ c3).setCell ⟨g, o + 4, none⟩ c4

theorem put5_at {w : World} {g o : Nat} {cur : Array Value} (h : w.heap[g]? = some (.cells cur 26 (0, 0))) (ho : o + 4 < cur.size) (c0 c1 c2 c3 c4 : Value) : At (put5 w g o c0 c1 c2 c3 c4) g o (.agg #[c0, c1, c2, c3, c4]) := by
  refine ⟨_, c0, c1, c2, c3, c4, set_one_cell (set_one_cell (set_one_cell (set_one_cell (set_one_cell h c0) c1) c2) c3) c4, rfl, ?_, ?_, ?_, ?_, ?_⟩
  · rw [Array.getElem?_setIfInBounds_ne (by omega), Array.getElem?_setIfInBounds_ne (by omega), Array.getElem?_setIfInBounds_ne (by omega), Array.getElem?_setIfInBounds_ne (by omega)]
    exact set_here _ (by omega)
  · rw [Array.getElem?_setIfInBounds_ne (by omega), Array.getElem?_setIfInBounds_ne (by omega), Array.getElem?_setIfInBounds_ne (by omega)]
    exact set_here _ (by simp only [Array.size_setIfInBounds]; omega)
  · rw [Array.getElem?_setIfInBounds_ne (by omega), Array.getElem?_setIfInBounds_ne (by omega)]
    exact set_here _ (by simp only [Array.size_setIfInBounds]; omega)
  · rw [Array.getElem?_setIfInBounds_ne (by omega)]
    exact set_here _ (by simp only [Array.size_setIfInBounds]; omega)
  · exact set_here _ (by simp only [Array.size_setIfInBounds]; omega)

theorem put5_other (w : World) (g o : Nat) (c0 c1 c2 c3 c4 : Value) (j : Nat) (hj : j ≠ g) : (put5 w g o c0 c1 c2 c3 c4).heap[j]? = w.heap[j]? := by
  unfold put5
  rw [set_other _ j hj, set_other _ j hj, set_other _ j hj, set_other _ j hj, set_other _ j hj]

theorem put5_size (w : World) (g o : Nat) (c0 c1 c2 c3 c4 : Value) : (put5 w g o c0 c1 c2 c3 c4).heap.size = w.heap.size := by simp [put5, World.setCell]

theorem put5_ch {F : Nat → Prop} {w : World} {g o : Nat} (c0 c1 c2 c3 c4 : Value) : Ch F g o w (put5 w g o c0 c1 c2 c3 c4) := by
  refine ⟨by simp [put5, World.setCell], by simp [put5, World.setCell], by simp [put5, World.setCell], by rw [put5_size]; exact Nat.le_refl _, fun j _ _ hj => put5_other _ _ _ _ _ _ _ _ j hj, fun cur hc => ?_⟩
  refine ⟨_, set_one_cell (set_one_cell (set_one_cell (set_one_cell (set_one_cell hc c0) c1) c2) c3) c4, by simp, fun j hj => ?_⟩
  rw [Array.getElem?_setIfInBounds_ne (by omega), Array.getElem?_setIfInBounds_ne (by omega), Array.getElem?_setIfInBounds_ne (by omega), Array.getElem?_setIfInBounds_ne (by omega), Array.getElem?_setIfInBounds_ne (by omega)]

theorem SetRel.done {n : Nat} {ps : List St} {v : V (n + ps.length)} {x : V n} {A gw g o : Nat} {wr w2 : World} {c0 c1 c2 c3 c4 : Value} {E : Nat → Prop} (h : SetRel ps v x A gw ps.length g o wr) (hb : Below wr.heap.size wr w2) (ho : Own w2 n (.agg #[c0, c1, c2, c3, c4]) x E)
    (hE : ∀ b, E b → wr.heap.size ≤ b ∧ b < w2.heap.size) :
    (setV x ps v).1 = 0 ∧ A ≤ g ∧ (∃ cur : Array Value, w2.heap[g]? = some (.cells cur 26 (0, 0)) ∧ o + 4 < cur.size) ∧
      ∃ y0 E0, At (put5 w2 g o c0 c1 c2 c3 c4) gw 0 y0 ∧ Own (put5 w2 g o c0 c1 c2 c3 c4) (n + ps.length) y0 (setV x ps v).2 E0 ∧ (∀ b, E0 b → A ≤ b ∧ b < w2.heap.size) ∧ ¬ E0 gw := by
  obtain ⟨rest, u, y, F, hole, h1, h2, h3, h4, h5, h6, h7, h8, h9, h10⟩ := h
  have hr : rest = [] := by rw [h1]; simp
  subst hr
  obtain ⟨cur, d0, d1, d2, d3, d4, hgw, _, _, _, _, _, p4⟩ := h2
  have hgl := lt_of_block hgw
  have hg2 := (hb.block g hgl).trans hgw
  have lt5 : o + 4 < cur.size := (Array.getElem?_eq_some_iff.1 p4).1
  refine ⟨by rw [h9]; rfl, h6, ⟨cur, hg2, lt5⟩, ?_⟩
  have hEg : ∀ b, E b → b ≠ g := fun b hb' e => by have := (hE b hb').1; omega
  obtain ⟨y0, E0, q1, q2, q3, q4⟩ := h8 (put5 w2 g o c0 c1 c2 c3 c4) (.agg #[c0, c1, c2, c3, c4]) x E ((Ch.of_below hb).trans (put5_ch (F := F) c0 c1 c2 c3 c4) (fun j hj => Or.inl hj)) (put5_at hg2 lt5 ..)
    (Own.same n ho fun b hb' => put5_other _ _ _ _ _ _ _ _ b (hEg b hb')) (fun b hb' => ⟨Or.inr (hE b hb').1, by rw [put5_size]; exact (hE b hb').2⟩) (fun e => hEg g e rfl)
  rw [put5_size] at q3
  rw [h10 rfl]
  exact ⟨y0, E0, q1, q2, q3, q4⟩
end Go.Proofs.Ytkjiiggboblioaa
