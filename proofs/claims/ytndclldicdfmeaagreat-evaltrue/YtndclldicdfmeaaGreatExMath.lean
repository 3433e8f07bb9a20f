/-
  What an expression may be, as plain mathematics: the bounds of an op, a part, the walk through the parts.
-/
import Derived.Test.YtndclldicdfmeaaGreatExBase
import Derived.Test.YtndclldicdfmeaaGreatFlMath
namespace Go.Proofs.YtndclldicdfmeaaGreat.Xp
open Go.ChangeShapes Go.WideShapes Go.ChangeAt Go.RowKit
open Fl

/-- How many octets an op's text has, at least and at most. -/
def texB (k : Int) : Int × Int := if k = 4 then (0, 128) else if k = 8 ∨ k = 25 then (1, 16) else (0, 0)

/-- How many parts an op has, at least and at most. -/
def argB (k : Int) : Int × Int :=
  if k = 8 ∨ k = 10 ∨ k = 15 ∨ k = 20 ∨ k = 26 then (1, 1)
  else if k = 9 ∨ k = 11 ∨ k = 12 ∨ k = 13 ∨ k = 14 ∨ k = 16 ∨ k = 17 ∨ k = 18 ∨ k = 19 ∨ k = 22 ∨ k = 24 ∨ k = 25 ∨ k = 27 ∨ k = 28 ∨ k = 29 then (2, 2)
  else if k = 21 then (3, 3) else if k = 23 then (0, 8) else (0, 0)

/-- Are a number's bits such as may be? -/
def bitB (k b : Int) : Bool := if k = 3 then can b == b else b == 0

def withinB (n l m : Int) : Bool := decide (l ≤ n) && decide (n ≤ m)

/-- May a part be, but for its own parts? -/
def mayX (k b : Int) (t : ByteArray) (n : Nat) : Bool :=
  withinB k 0 29 && bitB k b && withinB (t.size : Int) (texB k).1 (texB k).2 && withinB (n : Int) (argB k).1 (argB k).2

/-- One after another, as far as no error comes. -/
def foldX {α S : Type} (f : α → S → Except Int S) : List α → S → Except Int S
  | [], s => .ok s
  | a :: r, s => match f a s with
    | .error e => .error e
    | .ok s' => foldX f r s'

/-- A part, but for its own parts: op, bits, text, how many. -/
abbrev Nd4 := Int × Int × ByteArray × Nat

/-- All parts, each ahead of its own, by a step. -/
def pre {S : Type} (st : Int → Nd4 → S → Except Int S) : (n : Nat) → X n → Int → S → Except Int S
  | 0, _, _, s => .ok s
  | n + 1, (k, b, t, its), d, s => match st d (k, b, t, its.length) s with
    | .error e => .error e
    | .ok s' => foldX (fun u s => pre st n u (d + 1) s) its s'

theorem pre_err {S : Type} {st : Int → Nd4 → S → Except Int S} {n : Nat} {k b d : Int} {t : ByteArray} {its : List (X n)} {s : S} {e : Int} (h : st d (k, b, t, its.length) s = .error e) : pre st (n + 1) (k, b, t, its) d s = .error e := by
  simp only [pre, h]

theorem pre_ok {S : Type} {st : Int → Nd4 → S → Except Int S} {n : Nat} {k b d : Int} {t : ByteArray} {its : List (X n)} {s s' : S} (h : st d (k, b, t, its.length) s = .ok s') : pre st (n + 1) (k, b, t, its) d s = foldX (fun u s => pre st n u (d + 1) s) its s' := by
  simp only [pre, h]

theorem foldX_append {α S : Type} (f : α → S → Except Int S) : ∀ (l r : List α) (s : S), foldX f (l ++ r) s = match foldX f l s with | .error e => .error e | .ok s' => foldX f r s'
  | [], r, s => rfl
  | a :: l, r, s => by
    simp only [List.cons_append, foldX]
    cases f a s with
    | error e => rfl
    | ok s' => exact foldX_append f l r s'

theorem foldX_next {α S : Type} {f : α → S → Except Int S} {l : List α} {m : Nat} {s s' : S} (hm : m < l.length) (h : foldX f (l.take m) s = .ok s') : foldX f (l.take (m + 1)) s = f l[m] s' := by
  rw [List.take_succ_eq_append_getElem hm, foldX_append, h]
  simp only [foldX]
  cases f l[m] s' <;> rfl

theorem foldX_stop {α S : Type} {f : α → S → Except Int S} {l : List α} {m : Nat} {s : S} {e : Int} (h : foldX f (l.take m) s = .error e) : foldX f l s = .error e := by
  have := foldX_append f (l.take m) (l.drop m) s
  rw [List.take_append_drop, h] at this
  exact this

theorem foldX_all {α S : Type} {f : α → S → Except Int S} {l : List α} {m : Nat} {s : S} (h : l.length ≤ m) : foldX f (l.take m) s = foldX f l s := by rw [List.take_of_length_le h]

/-- What a count of parts meets: the first error, or one more, and how deep. -/
def stM (d : Int) (p : Nd4) (s : Nat × Int) : Except Int (Nat × Int) :=
  if 8 < d then .error 10 else if 64 ≤ s.1 then .error 3 else if mayX p.1 p.2.1 p.2.2.1 p.2.2.2 = true then .ok (s.1 + 1, max d s.2) else .error 9

/-- What was met so far. -/
def MetX (s : Nat × Int) : Prop := s.1 ≤ 64 ∧ 0 ≤ s.2 ∧ s.2 ≤ 8

theorem stM_met {d : Int} {p : Nd4} {s s' : Nat × Int} (hm : MetX s) (h : stM d p s = .ok s') : MetX s' ∧ d ≤ 8 := by
  obtain ⟨h1, h2, h3⟩ := hm
  unfold stM at h
  split at h
  · cases h
  split at h
  · cases h
  split at h
  · cases h
    refine ⟨⟨by show s.1 + 1 ≤ 64; omega, by show 0 ≤ max d s.2; omega, by show max d s.2 ≤ 8; omega⟩, by omega⟩
  · cases h

theorem stM_deep (d : Int) (p : Nd4) (s s' : Nat × Int) (h : stM d p s = .ok s') : d ≤ 1000 := by
  unfold stM at h
  by_cases h8 : 8 < d
  · rw [if_pos h8] at h
    cases h
  · omega

/-- Parts, depth, error. -/
def msrX : Except Int (Nat × Int) → Int × Int × Int
  | .ok (c, d) => (c, d, 0)
  | .error e => (0, 0, e)

end Go.Proofs.YtndclldicdfmeaaGreat.Xp
