/-
  Comparisons: of numbers, texts, lists of texts; the first that is not 0.
-/
import Derived.Test.YtkjiiggboblioaaVaSmall
import Derived.Test.YtkjiiggboblioaaVaRefPart
namespace Go.Proofs.Ytkjiiggboblioaa
open Go.ChangeShapes Go.WideShapes Go.ChangeAt Go.RowKit
open Fl

def icmp (a b : Int) : Int := if a < b then -1 else if b < a then 1 else 0
def scmp (s t : ByteArray) : Int := if Op.bytesLess s.toList t.toList = true then -1 else if Op.bytesLess t.toList s.toList = true then 1 else 0
/-- Item by item; one that begins another one first. -/
def lcmp {α : Type} (f : α → α → Int) : List α → List α → Int
  | [], [] => 0
  | [], _ :: _ => -1
  | _ :: _, [] => 1
  | a :: x, b :: y => if f a b = 0 then lcmp f x y else f a b
/-- The first that is not 0. -/
def or5 (a b c d e : Int) : Int := if a = 0 then if b = 0 then if c = 0 then if d = 0 then e else d else c else b else a
def rnk (k b : Int) : Int := if k = 2 then ord b else b

theorem lcmp_drop {α : Type} {f : α → α → Int} {x y : List α} {m : Nat} (hx : m < x.length) (hy : m < y.length) : lcmp f (x.drop m) (y.drop m) = if f x[m] y[m] = 0 then lcmp f (x.drop (m + 1)) (y.drop (m + 1)) else f x[m] y[m] := by
  rw [List.drop_eq_getElem_cons hx, List.drop_eq_getElem_cons hy]
  rfl

theorem lcmp_left {α : Type} {f : α → α → Int} {x y : List α} {m : Nat} (hx : m < x.length) (hy : y.length ≤ m) : lcmp f (x.drop m) (y.drop m) = 1 := by
  rw [List.drop_eq_getElem_cons hx, List.drop_eq_nil_of_le hy]
  rfl

theorem lcmp_right {α : Type} {f : α → α → Int} {x y : List α} {m : Nat} (hx : x.length ≤ m) (hy : m < y.length) : lcmp f (x.drop m) (y.drop m) = -1 := by
  rw [List.drop_eq_getElem_cons hy, List.drop_eq_nil_of_le hx]
  rfl

theorem lcmp_none {α : Type} {f : α → α → Int} {x y : List α} {m : Nat} (hx : x.length ≤ m) (hy : y.length ≤ m) : lcmp f (x.drop m) (y.drop m) = 0 := by
  rw [List.drop_eq_nil_of_le hy, List.drop_eq_nil_of_le hx]
  rfl

end Go.Proofs.Ytkjiiggboblioaa
