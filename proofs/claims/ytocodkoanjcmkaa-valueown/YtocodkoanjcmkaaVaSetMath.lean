/-
  Setting a part of a tree: plain mathematics; a tree among deeper ones.
-/
import Derived.Test.YtocodkoanjcmkaaVaGet
import Derived.Test.YtocodkoanjcmkaaVaMakeE
namespace Go.Proofs.Ytocodkoanjcmkaa
open Go.ChangeShapes Go.WideShapes Go.ChangeAt Go.RowKit
open Fl

/-- A tree among those one deeper. -/
def up : (n : Nat) → V n → V (n + 1)
  | 0, v => v.elim
  | n + 1, (k, b, t, ks, its) => (k, b, t, ks, its.map (up n))

/-- A tree among those p deeper. -/
def ups {n : Nat} (v : V n) : (p : Nat) → V (n + p)
  | 0 => v
  | p + 1 => up (n + p) (ups v p)

theorem Lay.up (n : Nat) : ∀ {w : World} {x : Value} {v : V n}, Lay w n x v → Lay w (n + 1) x (up n v) := by
  induction n with
  | zero => intro w x v; exact v.elim
  | succ n ih =>
    rintro w x ⟨k, b, t, ks, its⟩ ⟨ka, kc, ia, ic, hx, hfit, nk, ni, hS, hI⟩
    refine ⟨ka, kc, ia, ic, by simpa using hx, by simpa using hfit, nk, by simpa using ni, hS, ?_⟩
    intro i u hu
    simp only [List.getElem?_map, Option.map_eq_some_iff] at hu
    obtain ⟨u', hu', rfl⟩ := hu
    obtain ⟨b, o, c0, c1, c2, c3, c4, e, q0, q1, q2, q3, q4, hl⟩ := hI i u' hu'
    exact ⟨b, o, c0, c1, c2, c3, c4, e, q0, q1, q2, q3, q4, ih hl⟩

theorem Lay.ups {n : Nat} {w : World} {x : Value} {v : V n} (h : Lay w n x v) : ∀ p, Lay w (n + p) x (ups v p)
  | 0 => h
  | p + 1 => Lay.up (n + p) (Lay.ups h p)

/-- An item ahead of the i-th. -/
def ins {α : Type} (l : List α) (i : Nat) (a : α) : List α := l.take i ++ a :: l.drop i

/-- The new item's place. -/
def roomAt (ks : List ByteArray) (il : Nat) (s : St) : Nat := if s.1 = true then lb ks s.2.1 else il

/-- A part is set: the error, and the tree. -/
def setV {n : Nat} (x : V n) : (p : List St) → V (n + p.length) → Int × V (n + p.length)
  | [], _ => (0, x)
  | [s], v =>
    let (k, b, t, ks, its) := (v : Int × Int × ByteArray × List ByteArray × List (V n))
    if (plc k ks its.length s).1 = 0 then (0, ((k, b, t, ks, its.set (plc k ks its.length s).2 x) : V (n + 1)))
    else if (plc k ks its.length s).1 = 71 ∨ (plc k ks its.length s).1 = 82 then
      if roomE its.length s = 0 then (0, ((k, b, t, (if s.1 = true then ins ks (roomAt ks its.length s) s.2.1 else ks), ins its (roomAt ks its.length s) x) : V (n + 1))) else (roomE its.length s, v)
    else ((plc k ks its.length s).1, v)
  | s :: s' :: p, v =>
    let (k, b, t, ks, its) := (v : Int × Int × ByteArray × List ByteArray × List (V (n + (s' :: p).length)))
    if (plc k ks its.length s).1 = 0 then
      match its[(plc k ks its.length s).2]? with
      | some u => ((setV x (s' :: p) u).1, ((k, b, t, ks, its.set (plc k ks its.length s).2 (setV x (s' :: p) u).2) : V (n + (s' :: p).length + 1)))
      | none => (0, v)
    else ((plc k ks its.length s).1, v)
end Go.Proofs.Ytocodkoanjcmkaa
