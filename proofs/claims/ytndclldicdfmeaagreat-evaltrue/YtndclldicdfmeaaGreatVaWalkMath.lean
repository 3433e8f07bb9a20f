/-
  The walk through a value's parts, as plain mathematics: the first error, or how many parts and how deep.
-/
import Derived.Test.YtndclldicdfmeaaGreatVaPart
namespace Go.Proofs.YtndclldicdfmeaaGreat
open Go.ChangeShapes Go.WideShapes Go.ChangeAt Go.RowKit
open Fl

/-- One after another, as far as no error comes. -/
def foldE {α S : Type} (f : α → S → Except Int S) : List α → S → Except Int S
  | [], s => .ok s
  | a :: r, s => match f a s with
    | .error e => .error e
    | .ok s' => foldE f r s'

/-- The walk: level, and what was met so far (parts, depth). -/
def wk : (n : Nat) → V n → Int → Nat × Int → Except Int (Nat × Int)
  | 0, _, _, _ => .error 0
  | n + 1, (k, b, t, ks, its), l, (c, d) =>
    if 8 < l then .error 10 else if 512 ≤ c then .error 3 else if mayB k b t ks its.length = true then foldE (fun u s => wk n u (l + 1) s) its (c + 1, max d l) else .error 9

theorem foldE_append {α S : Type} (f : α → S → Except Int S) : ∀ (l r : List α) (s : S), foldE f (l ++ r) s = match foldE f l s with | .error e => .error e | .ok s' => foldE f r s'
  | [], _, _ => rfl
  | a :: l, r, s => by
    simp only [List.cons_append, foldE]
    cases f a s with
    | error e => rfl
    | ok s' => exact foldE_append f l r s'

theorem foldE_next {α S : Type} {f : α → S → Except Int S} {l : List α} {m : Nat} {s s' : S} (hm : m < l.length) (h : foldE f (l.take m) s = .ok s') : foldE f (l.take (m + 1)) s = f l[m] s' := by
  rw [List.take_succ_eq_append_getElem hm, foldE_append, h]
  simp only [foldE]
  cases f l[m] s' <;> rfl

theorem foldE_stop {α S : Type} {f : α → S → Except Int S} {l : List α} {m : Nat} {s : S} {e : Int} (h : foldE f (l.take m) s = .error e) : foldE f l s = .error e := by
  have := foldE_append f (l.take m) (l.drop m) s
  rw [List.take_append_drop, h] at this
  exact this

theorem foldE_all {α S : Type} {f : α → S → Except Int S} {l : List α} {m : Nat} {s : S} (h : l.length ≤ m) : foldE f (l.take m) s = foldE f l s := by rw [List.take_of_length_le h]

theorem foldE_keeps {α S : Type} {f : α → S → Except Int S} {p : S → Prop} (hf : ∀ a s s', p s → f a s = .ok s' → p s') : ∀ (l : List α) (s s' : S), p s → foldE f l s = .ok s' → p s'
  | [], s, s', hp, h => by simp only [foldE, Except.ok.injEq] at h; rw [← h]; exact hp
  | a :: l, s, s', hp, h => by
    simp only [foldE] at h
    cases hfa : f a s with
    | error e => rw [hfa] at h; cases h
    | ok s1 => rw [hfa] at h; exact foldE_keeps hf l s1 s' (hf a s s1 hp hfa) h

/-- What is met stays within its limits. -/
def Met (s : Nat × Int) : Prop := s.1 ≤ 512 ∧ 0 ≤ s.2 ∧ s.2 ≤ 8

theorem wk_met (n : Nat) : ∀ (v : V n) (l : Int) (s s' : Nat × Int), 0 ≤ l → Met s → wk n v l s = .ok s' → Met s' := by
  induction n with
  | zero => intro v; exact v.elim
  | succ n ih =>
    rintro ⟨k, b, t, ks, its⟩ l ⟨c, d⟩ s' hl hm h
    simp only [wk] at h
    split at h
    · cases h
    · split at h
      · cases h
      · split at h
        · refine foldE_keeps (p := Met) (fun u s s' hs hu => ih u (l + 1) s s' (by omega) hs hu) its _ s' ?_ h
          obtain ⟨h1, h2, h3⟩ := hm
          simp only at h1 h2 h3
          unfold Met
          simp only
          omega
        · cases h

end Go.Proofs.YtndclldicdfmeaaGreat
