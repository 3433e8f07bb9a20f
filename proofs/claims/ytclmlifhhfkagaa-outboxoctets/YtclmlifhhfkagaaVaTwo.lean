/-
  Two variables, and what stands in them.
-/
import Derived.Test.YtclmlifhhfkagaaVaCopy
namespace Go.Proofs.Ytclmlifhhfkagaa
open Go.ChangeShapes Go.WideShapes Go.ChangeAt Go.RowKit

/-- Two boxes, and what stands in them. -/
def Two (w w' : World) (a b : Obj) : Prop := w'.heap[w.heap.size]? = some a ∧ w'.heap[w.heap.size + 1]? = some b
theorem Two.below {w w' w'' : World} {a b : Obj} (h : Two w w' a b) (hb : Below w'.heap.size w' w'') : Two w w'' a b :=
  ⟨(hb.block _ (lt_of_block h.1)).trans h.1, (hb.block _ (lt_of_block h.2)).trans h.2⟩
theorem Two.new (w : World) (o o' : Obj) {w1 : World} (hb : Below ((w.alloc o).alloc o').heap.size ((w.alloc o).alloc o') w1) : Two w w1 o o' := by
  refine ⟨?_, ?_⟩
  · rw [hb.block _ (by simp; omega), Below.heap_alloc _ _ _ (by simp)]
    exact heap_alloc_new _ _
  · rw [hb.block _ (by simp)]
    exact heap_new2 _ _ _
end Go.Proofs.Ytclmlifhhfkagaa
