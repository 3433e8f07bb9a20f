/-
  The program's isName.
-/
import Derived.Test.YtbadehbnpneepaaDoText
namespace Go.Proofs.Ytbadehbnpneepaa
open Go.ChangeShapes Go.WideShapes Go.ChangeAt Go.RowKit Go.Deep
open Do

/-- May it be a name. -/
def nmD (g : ByteArray) : Bool := if g.size = 0 then false else plainB g eB eB []

theorem wk_leaf1 (g k t : ByteArray) (ats : List Atr) : wk (leaf g k t ats) 1 0 = if plainB g k t ats = true then (0, 1, 1) else (9, 0, 1) := by
  have h := wk_node (n := 0) g k t ats ([] : List (T 0)) 1 0
  rw [if_neg (by decide), if_neg (by decide), List.length_nil, nodeB_zero] at h
  have e4 : ¬ twB (keysT ([] : List (T 0))) = true := by simp [twB, keysT]
  rw [if_neg e4] at h
  refine h.trans ?_
  cases plainB g k t ats with
  | true => rfl
  | false => rfl

theorem leaf_size (g : ByteArray) : (sizeT (leaf g eB eB [])).1 = if nmD g = true then 0 else 9 := by
  have e7 : sizeT (leaf g eB eB []) = if g.size = 0 then (9, 0, 0) else if (wk (leaf g eB eB []) 1 0).1 = 0 then wk (leaf g eB eB []) 1 0 else ((wk (leaf g eB eB []) 1 0).1, 0, 0) := rfl
  rw [e7, wk_leaf1]
  unfold nmD
  by_cases h : g.size = 0
  · rw [if_pos h, if_pos h]
    simp
  · rw [if_neg h, if_neg h]
    cases plainB g eB eB [] <;> simp

set_option maxRecDepth 100000 in
set_option maxHeartbeats 800000 in
theorem isNameD_any (g : ByteArray) (w : World) (hg : g.size ≤ 140737488351232) :
    Calls Try.prog 81 #[.string g] w fun e w' => e = .returned (.bool (nmD g)) ∧ Below w.heap.size w w' := by
  have HC : Hid (Calls Try.prog 20 #[mkT g eB eB none 0 0 none 0 0] w fun e w' => e = .returned (.int .i64 (if nmD g = true then 0 else 9)) ∧ Below w.heap.size w w') := by
    have h := check_any 1 (leaf g eB eB []) (mkT g eB eB none 0 0 none 0 0) w ⟨none, 0, none, 0, rfl, ⟨hg, by decide, by decide, Nat.le_refl _, Nat.zero_le _, Nat.zero_le _, Nat.le_refl _, Nat.zero_le _, Nat.zero_le _⟩, fun _ => ⟨rfl, rfl⟩, fun _ => ⟨rfl, rfl⟩, fun i s hi => (by cases i <;> cases hi), fun i u hi => (by cases i <;> cases hi)⟩
    rw [leaf_size] at h
    exact h
  go_enter Try.func81, Try.ntmps81
  go_wp2_with fail
  refine HC.out.mono ?_
  rintro e w2 ⟨rfl, hb2⟩
  have HB2 : Hid (Below w.heap.size w w2) := hb2
  cases hn : nmD g with
  | true =>
    rw [if_pos rfl]
    have HN : Hid (nmD g = true) := hn
    clear hb2 hn
    go_wp2_with fail
    go_ret
    rw [HN.out]
    exact ⟨rfl, HB2.out⟩
  | false =>
    rw [if_neg (by simp)]
    have HN : Hid (nmD g = false) := hn
    clear hb2 hn
    go_wp2_with fail
    go_ret
    rw [HN.out]
    exact ⟨rfl, HB2.out⟩
end Go.Proofs.Ytbadehbnpneepaa
