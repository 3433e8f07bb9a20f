/-
  The page's Own, Next, Ack, Add.
-/
import Derived.Test.YtclmlifhhfkagaaObOwn
namespace Go.Proofs.Ytclmlifhhfkagaa
open Go.ChangeShapes Go.WideShapes Go.ChangeAt Go.RowKit

theorem PgInv.start {n : Nat} (W0 : World) (T : Nat) (L : Int) (h : W0.heap[T]? = some (.cells #[.int .i64 L, .slice none 0 0] 24 (0, 0))) : PgInv (n := n) W0 W0 T L (.slice none 0 0) [] (fun _ => False) :=
  ⟨OwnR.nil _ _, fun _ hb => hb.elim, Kept.refl _ _, h⟩

/-- The box's row, read out into the result's box. -/
theorem PgInv.out2 {n : Nat} {w W0 wr : World} {T R : Nat} {L : Int} {v : Value} {its : List (Tm n)} {H : Nat → Prop} (h : PgInv W0 wr T L v its H) (hb : Below w.heap.size w W0) (hT : w.heap.size ≤ T) (hR : w.heap.size ≤ R) (hR0 : R < W0.heap.size) (v0 v1 : Value) :
    CopyInv (shT n) w ((wr.setCell ⟨R, 0, none⟩ v0).setCell ⟨R, 1, none⟩ v1) v its H := by
  obtain ⟨a1, a2, a3, a4⟩ := h
  have hs := hb.size
  refine ⟨a1.same fun b hb => set2_other _ _ (by have := (a2 b hb).1; omega), fun b hb => ⟨by have := (a2 b hb).1; omega, by have := (a2 b hb).2; simpa [World.setCell] using this⟩, ?_⟩
  exact ((kept_below hb hT a3).setCell (p := ⟨R, 0, none⟩) hR v0).setCell (p := ⟨R, 1, none⟩) hR v1

theorem three24 (w : World) (x0 x1 y0 y1 z0 z1 : Value) (t : TypeId) : let W := ((w.alloc (.cells #[x0, x1] t)).alloc (.cells #[y0, y1] t)).alloc (.cells #[z0, z1] t)
    W.heap[w.heap.size]? = some (.cells #[x0, x1] t (0, 0)) ∧ W.heap[w.heap.size + 1]? = some (.cells #[y0, y1] t (0, 0)) ∧ W.heap[w.heap.size + 1 + 1]? = some (.cells #[z0, z1] t (0, 0)) ∧ Below w.heap.size w W := by
  refine ⟨?_, ?_, ?_, below_three _ _ _ _⟩
  · rw [Below.heap_alloc _ _ _ (by simp; omega), Below.heap_alloc _ _ _ (by simp)]
    exact heap_alloc_new _ _
  · rw [Below.heap_alloc _ _ _ (by simp)]
    exact heap_new2 _ _ _
  · have h := heap_alloc_new ((w.alloc (.cells #[x0, x1] t)).alloc (.cells #[y0, y1] t)) (.cells #[z0, z1] t)
    rw [show ((w.alloc (.cells #[x0, x1] t)).alloc (.cells #[y0, y1] t)).heap.size = w.heap.size + 1 + 1 by simp] at h
    exact h

/-- What the page's Own tells. -/
def ROwnPost {n : Nat} (w : World) (L : Int) (its : List (Tm n)) (e : Ending) (w' : World) : Prop := ∃ v H, e = .returned (.agg #[.int .i64 L, v]) ∧ CopyInv (shT n) w w' v its H

end Go.Proofs.Ytclmlifhhfkagaa
