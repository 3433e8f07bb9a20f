/-
  Small calls: a search in a list of no text and of one, an insertion into an empty list, a copy of a value without lists.
-/
import Derived.Test.YtihncekjbmepoabVaMeasure
namespace Go.Proofs.Ytihncekjbmepoab
open Go.ChangeShapes Go.WideShapes Go.ChangeAt Go.RowKit
open Fl

theorem num_any (n : Int) (w : World) : Calls Try.prog 18 #[.int .i64 n] w fun e w' => e = .returned (.int .i64 n) ∧ w' = w := by
  go_enter Try.func18, Try.ntmps18
  go_wp2_with fail
  go_ret
  exact ⟨rfl, rfl⟩

theorem less_self : ∀ l : List UInt8, Op.bytesLess l l = false
  | [] => rfl
  | a :: r => by simp [Op.bytesLess, less_self r]

/-- Check's number. -/
def chk {n : Nat} (v : V n) : Int := (msr (wk n v 1 (0, 0))).2.2

theorem below_one (w : World) (o : Obj) : Below w.heap.size w (w.alloc o) := (Below.refl _ _).alloc (Nat.le_refl _) _

end Go.Proofs.Ytihncekjbmepoab
