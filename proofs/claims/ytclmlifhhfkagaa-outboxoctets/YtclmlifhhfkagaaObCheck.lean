/-
  The program's checkEffect, idOf and Check: they answer what the mathematics does, and make only new memory.
-/
import Derived.Test.YtclmlifhhfkagaaObMath
import Derived.Test.YtclmlifhhfkagaaVaSpoil
namespace Go.Proofs.Ytclmlifhhfkagaa
open Go.ChangeShapes Go.WideShapes Go.ChangeAt Go.RowKit

set_option maxRecDepth 100000 in
theorem idOf_any (a b : Int) (w : World) (h1 : 0 ≤ a) (h2 : a ≤ 2199023255552) (h3 : 0 ≤ b) (h4 : b ≤ 1000000) : Calls Try.prog 31 #[.int .i64 a, .int .i64 b] w fun e w' => e = .returned (.int .i64 (32 * a + b)) ∧ w' = w := by
  go_enter Try.func31, Try.ntmps31
  go_wp2_with fail
  go_ret
  exact ⟨rfl, rfl⟩

theorem empty_of {nm : ByteArray} (h : nm.size = 0) : nm.toList = [] ∧ nm.toList.isEmpty = true := by
  have e : nm.toList = [] := List.eq_nil_of_length_eq_zero (by rw [ByteArray.toList_eq]; exact h)
  rw [e]; exact ⟨rfl, rfl⟩
theorem empty_not {nm : ByteArray} (h : ¬ nm.size = 0) : ¬ nm.toList = [] ∧ nm.toList.isEmpty = false := by
  have e : ¬ nm.toList = [] := fun e => h (by have := congrArg List.length e; rw [ByteArray.toList_eq] at this; exact this)
  refine ⟨e, ?_⟩
  cases hl : nm.toList with
  | nil => exact absurd hl e
  | cons => rfl

theorem box6 {w : World} {g : Nat} {d0 c0 c1 c2 c3 c4 : Value} {t : TypeId} (h : w.heap[g]? = some (.cells #[d0, c0, c1, c2, c3, c4] t (0, 0))) :
    w.cell? ⟨g, 0, none⟩ = some d0 ∧ w.cell? ⟨g, 1, none⟩ = some c0 ∧ w.cell? ⟨g, 2, none⟩ = some c1 ∧ w.cell? ⟨g, 3, none⟩ = some c2 ∧ w.cell? ⟨g, 4, none⟩ = some c3 ∧ w.cell? ⟨g, 5, none⟩ = some c4 := by
  simp [World.cell?, h]
theorem box7 {w : World} {g : Nat} {d0 d1 c0 c1 c2 c3 c4 : Value} {t : TypeId} (h : w.heap[g]? = some (.cells #[d0, d1, c0, c1, c2, c3, c4] t (0, 0))) :
    w.cell? ⟨g, 0, none⟩ = some d0 ∧ w.cell? ⟨g, 1, none⟩ = some d1 ∧ w.cell? ⟨g, 2, none⟩ = some c0 ∧ w.cell? ⟨g, 3, none⟩ = some c1 ∧ w.cell? ⟨g, 4, none⟩ = some c2 ∧ w.cell? ⟨g, 5, none⟩ = some c3 ∧ w.cell? ⟨g, 6, none⟩ = some c4 := by
  simp [World.cell?, h]

set_option maxRecDepth 100000 in
set_option maxHeartbeats 1600000 in
theorem checkEffect_any {n : Nat} (nm : ByteArray) (u : V n) (k bb : Int) (t : ByteArray) (ka : Option Addr) (kl kc : Nat) (ja : Option Addr) (jl jc : Nat) (w : World) (hl : Lay w n (mk k bb t ka kl kc ja jl jc) u) (hn : nm.size ≤ 140737488351232) :
    Calls Try.prog 32 #[.agg #[.string nm, .int .i64 k, .int .u64 bb, .string t, .slice ka kl kc, .slice ja jl jc]] w fun e w' => e = .returned (.int .i64 (effE nm u)) ∧ Below w.heap.size w w' := by
  have B0 : Hid (Below w.heap.size w (w.alloc (.cells #[.string nm, .int .i64 k, .int .u64 bb, .string t, .slice ka kl kc, .slice ja jl jc] 52))) := below_one _ _
  have C1 : Hid (∀ w', Below w.heap.size w w' → Calls Try.prog 33 #[mk k bb t ka kl kc ja jl jc] w' fun e w'' => e = .returned (.int .i64 (chk u)) ∧ Below w'.heap.size w' w'') := fun w' hb => check_any n _ _ _ (Lay.below n hl hb)
  clear hl
  by_cases h0 : nm.size = 0
  · have E : Hid (effE nm u = 31) := by show _ = _; unfold effE; rw [if_pos (Or.inl h0)]
    obtain ⟨z1, z2⟩ := empty_of h0
    clear h0
    go_enter Try.func32, Try.ntmps32
    go_wp2_with fail
    go_ret
    exact ⟨by rw [E.out]; rfl, B0.out⟩
  · obtain ⟨z1, z2⟩ := empty_not h0
    by_cases h1 : 16 < nm.size
    · have E : Hid (effE nm u = 31) := by show _ = _; unfold effE; rw [if_pos (Or.inr h1)]
      go_enter Try.func32, Try.ntmps32
      go_wp2_with fail
      go_ret
      exact ⟨by rw [E.out]; rfl, B0.out⟩
    · have E : Hid (effE nm u = chk u) := by show _ = _; unfold effE; rw [if_neg (by omega)]
      have hle : nm.size ≤ 16 := by omega
      clear h1 h0
      generalize chk u = cu at *
      go_enter Try.func32, Try.ntmps32
      go_wp2_with fail
      refine (C1.out _ B0.out).mono ?_
      rintro e w1 ⟨rfl, hb1⟩
      go_wp2_with fail
      go_ret
      exact ⟨by rw [E.out]; rfl, nxt B0.out hb1⟩
end Go.Proofs.Ytclmlifhhfkagaa
