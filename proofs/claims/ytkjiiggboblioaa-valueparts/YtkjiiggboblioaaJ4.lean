/-
  makeRoom where there is no room to make: its error.
-/
import Derived.Test.YtkjiiggboblioaaVaMakeK
import Derived.Test.YtkjiiggboblioaaVaGet
namespace Go.Proofs.Ytkjiiggboblioaa
open Go.ChangeShapes Go.WideShapes Go.ChangeAt Go.RowKit
open Fl

/-- makeRoom's error. -/
def roomE (il : Nat) (s : St) : Int := if s.1 = true then if keyB s.2.1 = true then if il = 32 then 3 else 0 else 31 else if s.2.2 = il then if il = 32 then 3 else 0 else 82

set_option maxRecDepth 100000 in
set_option maxHeartbeats 3200000 in
theorem room_err (g o il ic : Nat) (ia : Option Addr) (cur : Array Value) (s : St) (w : World) (hg : w.heap[g]? = some (.cells cur 26 (0, 0))) (h4 : cur[o + 4]? = some (.slice ia il ic)) (hks : s.2.1.size ≤ 140737488351232) (hil : il ≤ 32)
    (he : roomE il s ≠ 0) :
    Calls Try.prog 19 #[.pointer (some ⟨g, o, none⟩), .agg #[.bool s.1, .string s.2.1, .int .i64 s.2.2]] w fun e w' => e = .returned (.tuple #[.int .i64 0, .int .i64 (roomE il s)]) ∧ Below w.heap.size w w' := by
  obtain ⟨q, key, idx⟩ := s
  have p4 := (cell_of hg (o + 4)).1.trans h4
  have hp : g < w.heap.size := lt_of_block hg
  have hne : ¬ g = w.heap.size := by omega
  have P4 : ∀ ob, (w.alloc ob).cell? ⟨g, o + 4, none⟩ = some (.slice ia il ic) := fun ob => keepc (below_one _ _) _ _ p4
  have P4' : ∀ ob n, ((w.alloc ob).drewN n).cell? ⟨g, o + 4, none⟩ = some (.slice ia il ic) := fun ob n => P4 ob
  clear hg h4
  simp only at hks
  cases q with
  | true =>
    cases hk : keyB key with
    | true =>
      have h32 : il = 32 := by
        simp only [roomE, if_true, hk] at he
        by_cases h : il = 32
        · exact h
        · rw [if_neg h] at he; exact absurd rfl he
      subst h32
      have e1 : roomE 32 (true, key, idx) = 3 := by simp [roomE, hk]
      rw [e1]
      clear e1 he
      go_enter Try.func19, Try.ntmps19
      go_wp2_with (go_at_call 26; refine (key_any _ _ hks).mono ?_; rw [hk]; rintro e w' ⟨rfl, rfl⟩)
      go_quiet (fail)
      go_wp2_with fail
      go_ret2
      exact ⟨rfl, below_draw _ _ _⟩
    | false =>
      have e1 : roomE il (true, key, idx) = 31 := by simp [roomE, hk]
      rw [e1]
      clear e1 he
      go_enter Try.func19, Try.ntmps19
      go_wp2_with (go_at_call 26; refine (key_any _ _ hks).mono ?_; rw [hk]; rintro e w' ⟨rfl, rfl⟩)
      go_ret2
      exact ⟨rfl, below_one _ _⟩
  | false =>
    by_cases hx : idx = il
    · have h32 : il = 32 := by
        simp only [roomE, hx] at he
        by_cases h : il = 32
        · exact h
        · simp [h] at he
      subst h32
      subst hx
      have e1 : roomE 32 (false, key, ((32 : Nat) : Int)) = 3 := by simp [roomE]
      rw [e1]
      clear e1 he
      go_enter Try.func19, Try.ntmps19
      go_wp2_with fail
      go_quiet (fail)
      go_wp2_with fail
      go_ret2
      exact ⟨rfl, below_draw _ _ _⟩
    · have e1 : roomE il (false, key, idx) = 82 := by simp [roomE, hx]
      rw [e1]
      have hx' : (idx == (il : Int)) = false := by simpa using hx
      clear e1 he hx
      go_enter Try.func19, Try.ntmps19
      go_wp2_with fail
      go_quiet (fail)
      go_wp2_with fail
      go_ret2
      exact ⟨rfl, below_draw _ _ _⟩
end Go.Proofs.Ytkjiiggboblioaa

/-
  Setting a part of a tree: plain mathematics; a tree among deeper ones.
-/
namespace Go.Proofs.Ytkjiiggboblioaa
open Go.ChangeShapes Go.WideShapes Go.ChangeAt Go.RowKit
open Fl

/-- A tree among those one deeper. -/
def up : (n : Nat) → V n → V (n + 1)
  | 0, v => v.elim
  | n + 1, (k, b, t, ks, its) => (k, b, t, ks, its.map (up n))

/-- A tree among those p deeper. -/
def ups {n : Nat} (v : V n) : (p : Nat) → V (n + p)
  | 0 => v
  | p + 1 => up (n + p) (ups v p)

theorem Lay.up (n : Nat) : ∀ {w : World} {x : Value} {v : V n}, Lay w n x v → Lay w (n + 1) x (up n v) := by
  induction n with
  | zero => intro w x v; exact v.elim
  | succ n ih =>
    rintro w x ⟨k, b, t, ks, its⟩ ⟨ka, kc, ia, ic, hx, hfit, nk, ni, hS, hI⟩
    refine ⟨ka, kc, ia, ic, by simpa using hx, by simpa using hfit, nk, by simpa using ni, hS, ?_⟩
    intro i u hu
    simp only [List.getElem?_map, Option.map_eq_some_iff] at hu
    obtain ⟨u', hu', rfl⟩ := hu
    obtain ⟨b, o, c0, c1, c2, c3, c4, e, q0, q1, q2, q3, q4, hl⟩ := hI i u' hu'
    exact ⟨b, o, c0, c1, c2, c3, c4, e, q0, q1, q2, q3, q4, ih hl⟩

theorem Lay.ups {n : Nat} {w : World} {x : Value} {v : V n} (h : Lay w n x v) : ∀ p, Lay w (n + p) x (ups v p)
  | 0 => h
  | p + 1 => Lay.up (n + p) (Lay.ups h p)

/-- An item ahead of the i-th. -/
def ins {α : Type} (l : List α) (i : Nat) (a : α) : List α := l.take i ++ a :: l.drop i

/-- The new item's place. -/
def roomAt (ks : List ByteArray) (il : Nat) (s : St) : Nat := if s.1 = true then lb ks s.2.1 else il

/-- A part is set: the error, and the tree. -/
def setV {n : Nat} (x : V n) : (p : List St) → V (n + p.length) → Int × V (n + p.length)
  | [], _ => (0, x)
  | [s], v =>
    let (k, b, t, ks, its) := (v : Int × Int × ByteArray × List ByteArray × List (V n))
    if (plc k ks its.length s).1 = 0 then (0, ((k, b, t, ks, its.set (plc k ks its.length s).2 x) : V (n + 1)))
    else if (plc k ks its.length s).1 = 71 ∨ (plc k ks its.length s).1 = 82 then
      if roomE its.length s = 0 then (0, ((k, b, t, (if s.1 = true then ins ks (roomAt ks its.length s) s.2.1 else ks), ins its (roomAt ks its.length s) x) : V (n + 1))) else (roomE its.length s, v)
    else ((plc k ks its.length s).1, v)
  | s :: s' :: p, v =>
    let (k, b, t, ks, its) := (v : Int × Int × ByteArray × List ByteArray × List (V (n + (s' :: p).length)))
    if (plc k ks its.length s).1 = 0 then
      match its[(plc k ks its.length s).2]? with
      | some u => ((setV x (s' :: p) u).1, ((k, b, t, ks, its.set (plc k ks its.length s).2 (setV x (s' :: p) u).2) : V (n + (s' :: p).length + 1)))
      | none => (0, v)
    else ((plc k ks its.length s).1, v)
end Go.Proofs.Ytkjiiggboblioaa
