/-
  Numbers in octets; rows just laid.
-/
import Derived.Test.YtndclldicdfmeaaGreatOcCopy
import Derived.Laws.BitsAllLaws
import Derived.Laws.BitsAll
import Derived.Laws.Shifts
namespace Go.Proofs.YtndclldicdfmeaaGreat.Xp
open Go.ChangeShapes Go.WideShapes Go.ChangeAt Go.RowKit Go.Deep

/-- A number of octets, the highest first. -/
def numO (l : List UInt8) : Int := l.foldl (fun n o => n * 256 + (o.toNat : Int)) 0

theorem numO_snoc (l : List UInt8) (o : UInt8) : numO (l ++ [o]) = numO l * 256 + (o.toNat : Int) := by simp [numO, List.foldl_append]

theorem numO_bound : ∀ (k : Nat) (l : List UInt8), l.length = k → 0 ≤ numO l ∧ numO l < (256 : Int) ^ k
  | 0, l, h => by
    have := List.eq_nil_of_length_eq_zero h
    subst this
    simp [numO]
  | k + 1, l, h => by
    obtain ⟨l', o, rfl⟩ : ∃ l' o, l = l' ++ [o] := ⟨l.dropLast, l.getLast (by intro e; rw [e] at h; simp at h), (List.dropLast_concat_getLast _).symm⟩
    have h1 := numO_bound k l' (by simpa using h)
    have h2 := o.toNat_lt
    rw [numO_snoc, Int.pow_succ]
    omega

theorem or_octet {x : Int} (o : UInt8) (h0 : 0 ≤ x) (h1 : x < 72057594037927936) : bits .or .u64 (IntKind.u64.wrap (x * 256)) (IntKind.u64.wrap (o.toNat : Int)) = x * 256 + (o.toNat : Int) := by
  have h2 := o.toNat_lt
  have e1 : IntKind.u64.wrap (x * 256) = x * 256 := by rw [IntKind.wrap_u64]; omega
  have e2 : IntKind.u64.wrap (o.toNat : Int) = (o.toNat : Int) := by rw [IntKind.wrap_u64]; omega
  rw [e1, e2, u64_or _ _ (by omega) (by omega) (by omega) (by omega)]
  obtain ⟨n, rfl⟩ : ∃ n : Nat, x = n := ⟨x.toNat, by omega⟩
  have e3 : ((n : Int) * 256).toNat = 2 ^ 8 * n := by omega
  rw [e3, Int.toNat_natCast, ← Nat.two_pow_add_eq_or_of_lt h2]
  omega

/-- Octets just laid are a row of one's own. -/
theorem Bs.made (w : World) (m : List UInt8) (cs : Array Value) (h : cs.toList = cellsO m) (B : Nat) (hB : B ≤ w.heap.size) (hm : m.length ≤ 1000) : Bs (w.alloc (.cells cs 5)) B (.slice (some ⟨w.heap.size, 0, none⟩) m.length m.length) m := by
  have hl : cs.size = m.length := by rw [← Array.length_toList, h, cellsO_length]
  refine ⟨by rw [cellsO_length]; omega, Or.inr ⟨w.heap.size, m.length, cs, rfl, hB, heap_alloc_new _ _, Nat.le_refl _, by unfold maxLen; omega, by omega, ?_⟩⟩
  rw [List.take_of_length_le (by rw [Array.length_toList]; omega)]
  exact h

end Go.Proofs.YtndclldicdfmeaaGreat.Xp
