/-
  Values as octets: plain mathematics.
-/
import Derived.Test.YtclmlifhhfkagaaPkOk
namespace Go.Proofs.Ytclmlifhhfkagaa
open Go.ChangeShapes Go.WideShapes Go.ChangeAt Go.RowKit
open Fl

/-- An octet of a number, the highest first. -/
def oct (b : Int) (i : Nat) : UInt8 := UInt8.ofNat (b.toNat / 2 ^ (8 * (7 - i)))
def octs (b : Int) : List UInt8 := (List.range 8).map (oct b)

/-- A text's octets. -/
def txt (t : ByteArray) : List UInt8 := UInt8.ofNat t.size :: t.toList

/-- The octets of items, each with its key if there are keys. -/
def pcs (k : Int) (ks : List ByteArray) (es : List (List UInt8)) : List (List UInt8) := if k = 5 then List.zipWith (fun s e => txt s ++ e) ks es else es

/-- A value's octets. -/
def enc : (n : Nat) → V n → List UInt8
  | 0, v => v.elim
  | n + 1, (k, b, t, ks, its) =>
    if k = 0 then [0] else if k = 1 then [UInt8.ofNat (1 + b.toNat)] else if k = 2 then 3 :: octs b else if k = 3 then 4 :: txt t
    else (if k = 4 then 5 else 6) :: UInt8.ofNat its.length :: (pcs k ks (its.map (enc n))).flatten

/-- So many octets. -/
def nxtN (m : Nat) (l : List UInt8) : Except Int (List UInt8 × List UInt8) := if l.length < m then .error 8 else .ok (l.take m, l.drop m)

/-- A number of octets, the highest first. -/
def numO (l : List UInt8) : Int := l.foldl (fun n o => n * 256 + (o.toNat : Int)) 0

def rdBits (l : List UInt8) : Except Int (Int × List UInt8) := match nxtN 8 l with
  | .error e => .error e
  | .ok (a, r) => if can (numO a) = numO a then .ok (numO a, r) else .error 1

def rdText (lo hi : Nat) (l : List UInt8) : Except Int (ByteArray × List UInt8) := match l with
  | [] => .error 8
  | o :: r => if o.toNat < lo ∨ hi < o.toNat then .error 5 else match nxtN o.toNat r with
    | .error e => .error e
    | .ok (a, r') => .ok (⟨a.toArray⟩, r')

def rdCount (l : List UInt8) : Except Int (Nat × List UInt8) := match l with
  | [] => .error 8
  | o :: r => if 32 < o.toNat then .error 3 else .ok (o.toNat, r)

/-- A step, so many times. -/
def iterE {S : Type} (f : S → Except Int S) : Nat → S → Except Int S
  | 0, s => .ok s
  | m + 1, s => match f s with
    | .error e => .error e
    | .ok s' => iterE f m s'

/-- What is left, and how many parts were begun. -/
abbrev RS := List UInt8 × Nat

def stepI {α : Type} (f : RS → Except Int (α × RS)) (s : List α × RS) : Except Int (List α × RS) := match f s.2 with
  | .error e => .error e
  | .ok (a, r) => .ok (s.1 ++ [a], r)

/-- A key above the one ahead. -/
def okNext (last : Option ByteArray) (key : ByteArray) : Bool := match last with
  | none => true
  | some l => Op.bytesLess l.toList key.toList

def stepF {α : Type} (f : RS → Except Int (α × RS)) (s : List ByteArray × List α × RS) : Except Int (List ByteArray × List α × RS) := match rdText 1 16 s.2.2.1 with
  | .error e => .error e
  | .ok (key, r) => if okNext s.1.getLast? key = false then .error 32 else match f (r, s.2.2.2) with
    | .error e => .error e
    | .ok (a, r') => .ok (s.1 ++ [key], s.2.1 ++ [a], r')

/-- A part is read. -/
def rd : (n : Nat) → RS → Except Int (V n × RS)
  | 0, _ => .error 10
  | n + 1, (l, p) => match l with
    | [] => .error 8
    | o :: r =>
      if o.toNat = 0 then .ok ((0, 0, ⟨#[]⟩, [], []), (r, p + 1))
      else if o.toNat = 1 ∨ o.toNat = 2 then .ok ((1, (o.toNat : Int) - 1, ⟨#[]⟩, [], []), (r, p + 1))
      else if o.toNat = 3 then match rdBits r with
        | .error e => .error e
        | .ok (b, r') => .ok ((2, b, ⟨#[]⟩, [], []), (r', p + 1))
      else if o.toNat = 4 then match rdText 0 128 r with
        | .error e => .error e
        | .ok (t, r') => .ok ((3, 0, t, [], []), (r', p + 1))
      else if o.toNat = 5 then match rdCount r with
        | .error e => .error e
        | .ok (m, r') => match iterE (stepI (rd n)) m ([], (r', p + 1)) with
          | .error e => .error e
          | .ok (its, s) => .ok ((4, 0, ⟨#[]⟩, [], its), s)
      else if o.toNat = 6 then match rdCount r with
        | .error e => .error e
        | .ok (m, r') => match iterE (stepF (rd n)) m ([], [], (r', p + 1)) with
          | .error e => .error e
          | .ok (ks, its, s) => .ok ((5, 0, ⟨#[]⟩, ks, its), s)
      else .error 22

/-- Bits that are bits. -/
def bitsV : (n : Nat) → V n → Prop
  | 0, _ => False
  | n + 1, (_, b, _, _, its) => U b ∧ ∀ u ∈ its, bitsV n u

theorem iterE_add {S : Type} (f : S → Except Int S) : ∀ (m m' : Nat) (s : S), iterE f (m + m') s = match iterE f m s with | .error e => .error e | .ok s' => iterE f m' s'
  | 0, m', s => by simp [iterE]
  | m + 1, m', s => by
    rw [show m + 1 + m' = (m + m') + 1 by omega]
    simp only [iterE]
    cases f s with
    | error e => rfl
    | ok s' => exact iterE_add f m m' s'

/-- The octets of a number tell it. -/
theorem numO_octs {b : Int} (h : U b) : numO (octs b) = b := by
  unfold U at h
  obtain ⟨n, rfl⟩ : ∃ n : Nat, b = n := ⟨b.toNat, by omega⟩
  simp only [octs, numO, List.range, List.range.loop, List.map_cons, List.map_nil, List.foldl_cons, List.foldl_nil, oct, UInt8.toNat_ofNat', Int.toNat_natCast]
  simp only [show 8 * (7 - 0) = 56 by rfl, show 8 * (7 - 1) = 48 by rfl, show 8 * (7 - 2) = 40 by rfl, show 8 * (7 - 3) = 32 by rfl, show 8 * (7 - 4) = 24 by rfl, show 8 * (7 - 5) = 16 by rfl, show 8 * (7 - 6) = 8 by rfl, show 8 * (7 - 7) = 0 by rfl]
  omega

theorem octs_length (b : Int) : (octs b).length = 8 := by simp [octs]
end Go.Proofs.Ytclmlifhhfkagaa
