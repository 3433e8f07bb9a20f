/-
  Octets of one's own, one by one (as in SeFind).
-/
import Derived.Test.YtocodkoanjcmkabSeRfO
import Derived.Test.YtocodkoanjcmkabOcStep
namespace Go.Proofs.Ytocodkoanjcmkab
open Go.ChangeShapes Go.WideShapes Go.ChangeAt Go.RowKit Go.Deep
open Se

theorem Bs.set {w : World} {B g n c : Nat} {l : List UInt8} (h : Bs w B (.slice (some ⟨g, 0, none⟩) n c) l) (j : Nat) (o : UInt8) :
    Bs (w.setCell ⟨g, j, none⟩ (.int .u8 (o.toNat : Int))) B (.slice (some ⟨g, 0, none⟩) n c) (l.set j o) := by
  obtain ⟨h1, h2⟩ := h
  rcases h2 with ⟨h3, -⟩ | ⟨g', cap, cur, h3, h4, h5, h6, h7, h8, h9⟩
  · simp at h3
  · simp only [Value.slice.injEq, Option.some.injEq, Addr.mk.injEq, and_true] at h3
    obtain ⟨rfl, rfl, rfl⟩ := h3
    refine ⟨by simp [cellsO], Or.inr ⟨g, c, _, by simp, h4, set_one_cell h5 _, by simpa using h6, h7, by simpa using h8, ?_⟩⟩
    have hc : cellsO (l.set j o) = (cellsO l).set j (.int .u8 (o.toNat : Int)) := by simp [cellsO, List.map_set]
    rw [hc, ← h9]
    simp [List.take_set]

theorem Bs.cell {w : World} {B g n c : Nat} {l : List UInt8} (h : Bs w B (.slice (some ⟨g, 0, none⟩) n c) l) {j : Nat} {o : UInt8} (hj : l[j]? = some o) : w.cell? ⟨g, j, none⟩ = some (.int .u8 (o.toNat : Int)) ∧ w.frozen? ⟨g, j, none⟩ = false := by
  have hc : (cellsO l)[j]? = some (.int .u8 (o.toNat : Int)) := by simp [cellsO, hj]
  obtain ⟨h1, h2⟩ := h
  rcases h2 with ⟨h3, -⟩ | ⟨g', cap, cur, h3, h4, h5, h6, h7, h8, h9⟩
  · simp at h3
  · simp only [Value.slice.injEq, Option.some.injEq, Addr.mk.injEq, and_true] at h3
    obtain ⟨rfl, rfl, rfl⟩ := h3
    have hlt : j < l.length := (List.getElem?_eq_some_iff.1 hj).1
    obtain ⟨q1, q2⟩ := cell_of h5 j
    refine ⟨q1.trans ?_, q2⟩
    rw [← hc, ← h9, List.getElem?_take_of_lt (by omega), Array.getElem?_toList]
theorem Bs.spot {w : World} {B : Nat} {a : Option Addr} {n c : Nat} {l : List UInt8} (h : Bs w B (.slice a n c) l) (hl : 0 < l.length) : ∃ g, a = some ⟨g, 0, none⟩ ∧ B ≤ g := by
  obtain ⟨h1, h2⟩ := h
  rcases h2 with ⟨h3, h4⟩ | ⟨g', cap, cur, h3, h4, h5⟩
  · omega
  · simp only [Value.slice.injEq] at h3
    exact ⟨g', h3.1, h4⟩

theorem of_cells {w w1 : World} {g : Nat} {x y : Value} {t : TypeId} (h : w1.heap[g]? = w.drew.heap[g]?) (hx : w.heap[g]? = some (.cells #[x, y] t (0, 0))) : w1.cell? ⟨g, 0, none⟩ = some x ∧ w1.cell? ⟨g, 1, none⟩ = some y ∧ w1.frozen? ⟨g, 0, none⟩ = false ∧ w1.frozen? ⟨g, 1, none⟩ = false := by
  have h2 : w1.heap[g]? = some (.cells #[x, y] t (0, 0)) := h.trans hx
  simp [World.cell?, World.frozen?, h2]
end Go.Proofs.Ytocodkoanjcmkab
