/-
  Trees that may be: plain mathematics.
-/
import Derived.Test.YtclmlifhhfkagaaVaRefWalk
import Derived.Test.YtclmlifhhfkagaaVaFrame
import Derived.Test.YtclmlifhhfkagaaVaSmall
namespace Go.Proofs.Ytclmlifhhfkagaa
open Go.ChangeShapes Go.WideShapes Go.ChangeAt Go.RowKit
open Fl

theorem less_trans : ∀ x y z : List UInt8, Op.bytesLess x y = true → Op.bytesLess y z = true → Op.bytesLess x z = true
  | _, _, [], _, h => by simp [Op.bytesLess] at h
  | [], _, c :: z, _, _ => rfl
  | _ :: _, [], _ :: _, h, _ => by simp [Op.bytesLess] at h
  | a :: x, b :: y, c :: z, h1, h2 => by
    simp only [Op.bytesLess, Bool.or_eq_true, Bool.and_eq_true, decide_eq_true_eq, beq_iff_eq] at h1 h2 ⊢
    rcases h1 with h1 | ⟨rfl, h1⟩
    · rcases h2 with h2 | ⟨rfl, h2⟩
      · exact Or.inl (UInt8.lt_trans h1 h2)
      · exact Or.inl h1
    · rcases h2 with h2 | ⟨rfl, h2⟩
      · exact Or.inl h2
      · exact Or.inr ⟨rfl, less_trans x y z h1 h2⟩

theorem less_eq {x y : List UInt8} (h1 : Op.bytesLess x y = false) (h2 : Op.bytesLess y x = false) : x = y := by
  have := less_turn x y
  rw [h1, h2] at this
  simp at this
  exact this.symm

theorem less_asymm {x y : List UInt8} (h : Op.bytesLess x y = true) : Op.bytesLess y x = false := by
  cases e : Op.bytesLess y x with
  | false => rfl
  | true => have := less_trans x y x h e; rw [less_self] at this; cases this

def okV : (n : Nat) → V n → Prop
  | 0, _ => False
  | n + 1, (k, b, t, ks, its) => mayB k b t ks its.length = true ∧ ∀ u ∈ its, okV n u

theorem foldE_mem {α S : Type} {f : α → S → Except Int S} : ∀ (l : List α) (s s' : S), foldE f l s = .ok s' → ∀ a ∈ l, ∃ s1 s2, f a s1 = .ok s2
  | [], _, _, _, _, h => by cases h
  | x :: l, s, s', h, a, ha => by
    simp only [foldE] at h
    cases hfx : f x s with
    | error e => rw [hfx] at h; cases h
    | ok s1 =>
      rw [hfx] at h
      rcases List.mem_cons.1 ha with rfl | ha
      · exact ⟨s, s1, hfx⟩
      · exact foldE_mem l s1 s' h a ha

theorem ok_of_wk (n : Nat) : ∀ (v : V n) (l : Int) (s s' : Nat × Int), wk n v l s = .ok s' → okV n v := by
  induction n with
  | zero => intro v; exact v.elim
  | succ n ih =>
    rintro ⟨k, b, t, ks, its⟩ l ⟨c, d⟩ s' h
    simp only [wk] at h
    split at h
    · cases h
    · split at h
      · cases h
      · split at h
        · rename_i hm
          refine ⟨hm, fun u hu => ?_⟩
          obtain ⟨s1, s2, h1⟩ := foldE_mem its _ s' h u hu
          exact ih u (l + 1) s1 s2 h1
        · cases h

theorem ok_of_chk {n : Nat} {v : V n} (h : chk v = 0) : okV n v := by
  unfold chk at h
  cases hw : wk n v 1 (0, 0) with
  | error e =>
    rw [hw] at h
    simp only [msr] at h
    rcases wk_err n _ _ _ _ hw with e1 | e1 | e1 <;> omega
  | ok s => exact ok_of_wk n v 1 _ s hw

theorem chk_pos {n : Nat} (v : V n) : 0 ≤ chk v := by
  unfold chk
  cases hw : wk n v 1 (0, 0) with
  | error e =>
    simp only [msr]
    rcases wk_err n _ _ _ _ hw with e1 | e1 | e1 <;> omega
  | ok s => obtain ⟨c, d⟩ := s; simp [msr]
end Go.Proofs.Ytclmlifhhfkagaa
