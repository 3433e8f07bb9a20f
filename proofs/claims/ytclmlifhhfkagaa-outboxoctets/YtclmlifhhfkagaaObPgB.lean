/-
  The page's Add.
-/
import Derived.Test.YtclmlifhhfkagaaObPgA
namespace Go.Proofs.Ytclmlifhhfkagaa
open Go.ChangeShapes Go.WideShapes Go.ChangeAt Go.RowKit

theorem effE_bad {n : Nat} {nm : ByteArray} {u : V n} (h : nmB nm = false) : effE nm u = 31 := by
  unfold effE
  rw [if_pos]
  unfold nmB at h
  by_cases h1 : 1 ≤ nm.size
  · simp [h1] at h; omega
  · omega
theorem effE_good {n : Nat} {nm : ByteArray} {u : V n} (h : nmB nm = true) : effE nm u = chk u := by
  unfold effE
  unfold nmB at h
  simp at h
  rw [if_neg (by omega)]

end Go.Proofs.Ytclmlifhhfkagaa
