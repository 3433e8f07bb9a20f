/-
  makeRoom where there is no room to make: its error.
-/
import Derived.Test.YtocodkoanjcmkaaVaMakeK
namespace Go.Proofs.Ytocodkoanjcmkaa
open Go.ChangeShapes Go.WideShapes Go.ChangeAt Go.RowKit
open Fl

/-- makeRoom's error. -/
def roomE (il : Nat) (s : St) : Int := if s.1 = true then if keyB s.2.1 = true then if il = 32 then 3 else 0 else 31 else if s.2.2 = il then if il = 32 then 3 else 0 else 82

set_option maxRecDepth 100000 in
set_option maxHeartbeats 3200000 in
theorem room_err (g o il ic : Nat) (ia : Option Addr) (cur : Array Value) (s : St) (w : World) (hg : w.heap[g]? = some (.cells cur 26 (0, 0))) (h4 : cur[o + 4]? = some (.slice ia il ic)) (hks : s.2.1.size ≤ 140737488351232) (hil : il ≤ 32)
    (he : roomE il s ≠ 0) :
    Calls Try.prog 36 #[.pointer (some ⟨g, o, none⟩), .agg #[.bool s.1, .string s.2.1, .int .i64 s.2.2]] w fun e w' => e = .returned (.tuple #[.int .i64 0, .int .i64 (roomE il s)]) ∧ Below w.heap.size w w' := by
  obtain ⟨q, key, idx⟩ := s
  have p4 := (cell_of hg (o + 4)).1.trans h4
  have hp : g < w.heap.size := lt_of_block hg
  have hne : ¬ g = w.heap.size := by omega
  have P4 : ∀ ob, (w.alloc ob).cell? ⟨g, o + 4, none⟩ = some (.slice ia il ic) := fun ob => keepc (below_one _ _) _ _ p4
  have P4' : ∀ ob n, ((w.alloc ob).drewN n).cell? ⟨g, o + 4, none⟩ = some (.slice ia il ic) := fun ob n => P4 ob
  clear hg h4
  simp only at hks
  cases q with
  | true =>
    cases hk : keyB key with
    | true =>
      have h32 : il = 32 := by
        simp only [roomE, if_true, hk] at he
        by_cases h : il = 32
        · exact h
        · rw [if_neg h] at he; exact absurd rfl he
      subst h32
      have e1 : roomE 32 (true, key, idx) = 3 := by simp [roomE, hk]
      rw [e1]
      clear e1 he
      go_enter Try.func36, Try.ntmps36
      go_wp2_with (go_at_call 52; refine (key_any _ _ hks).mono ?_; rw [hk]; rintro e w' ⟨rfl, rfl⟩)
      go_quiet (fail)
      go_wp2_with fail
      go_ret2
      exact ⟨rfl, below_draw _ _ _⟩
    | false =>
      have e1 : roomE il (true, key, idx) = 31 := by simp [roomE, hk]
      rw [e1]
      clear e1 he
      go_enter Try.func36, Try.ntmps36
      go_wp2_with (go_at_call 52; refine (key_any _ _ hks).mono ?_; rw [hk]; rintro e w' ⟨rfl, rfl⟩)
      go_ret2
      exact ⟨rfl, below_one _ _⟩
  | false =>
    by_cases hx : idx = il
    · have h32 : il = 32 := by
        simp only [roomE, hx] at he
        by_cases h : il = 32
        · exact h
        · simp [h] at he
      subst h32
      subst hx
      have e1 : roomE 32 (false, key, ((32 : Nat) : Int)) = 3 := by simp [roomE]
      rw [e1]
      clear e1 he
      go_enter Try.func36, Try.ntmps36
      go_wp2_with fail
      go_quiet (fail)
      go_wp2_with fail
      go_ret2
      exact ⟨rfl, below_draw _ _ _⟩
    · have e1 : roomE il (false, key, idx) = 82 := by simp [roomE, hx]
      rw [e1]
      have hx' : (idx == (il : Int)) = false := by simpa using hx
      clear e1 he hx
      go_enter Try.func36, Try.ntmps36
      go_wp2_with fail
      go_quiet (fail)
      go_wp2_with fail
      go_ret2
      exact ⟨rfl, below_draw _ _ _⟩
end Go.Proofs.Ytocodkoanjcmkaa
