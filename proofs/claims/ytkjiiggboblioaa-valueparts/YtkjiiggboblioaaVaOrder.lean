/-
  The order of values: what the program's order, Compare and Same answer.
-/
import Derived.Test.YtkjiiggboblioaaVaCmp
import Derived.Test.YtkjiiggboblioaaVaFrame
namespace Go.Proofs.Ytkjiiggboblioaa
open Go.ChangeShapes Go.WideShapes Go.ChangeAt Go.RowKit
open Fl

/-- The order of two trees. -/
def vcmp : (n : Nat) → V n → V n → Int
  | 0, _, _ => 0
  | n + 1, (k, b, t, ks, its), (k', b', t', ks', its') => or5 (icmp k k') (icmp (rnk k b) (rnk k' b')) (scmp t t') (lcmp scmp ks ks') (lcmp (vcmp n) its its')

theorem two_boxes (w : World) (a0 a1 a2 a3 a4 b0 b1 b2 b3 b4 : Value) (t t' : TypeId) :
    ((w.alloc (.cells #[a0, a1, a2, a3, a4] t)).alloc (.cells #[b0, b1, b2, b3, b4] t')).heap[w.heap.size]? = some (.cells #[a0, a1, a2, a3, a4] t (0, 0)) ∧
    ((w.alloc (.cells #[a0, a1, a2, a3, a4] t)).alloc (.cells #[b0, b1, b2, b3, b4] t')).heap[w.heap.size + 1]? = some (.cells #[b0, b1, b2, b3, b4] t' (0, 0)) :=
  ⟨(Below.heap_alloc _ _ _ (by simp)).trans (heap_alloc_new _ _), heap_new2 _ _ _⟩

end Go.Proofs.Ytkjiiggboblioaa
