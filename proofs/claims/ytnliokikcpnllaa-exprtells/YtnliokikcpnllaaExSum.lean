/-
  An expression's size by its parts' sizes.
-/
import Derived.Test.YtnliokikcpnllaaExArg
namespace Go.Proofs.Ytnliokikcpnllaa
open Go.ChangeShapes Go.WideShapes Go.ChangeAt Go.RowKit
open Fl

theorem ret_boolX {a b : Bool} (h : a = b) : Ending.returned (.bool a) = .returned (.bool b) := by rw [h]

theorem fold_shift {α : Type} {f g : α → Nat × Int → Except Int (Nat × Int)} {a : Nat} {j D : Int}
    (h : ∀ u c e s', f u (a + c, max D (e + j)) = .ok s' → ∃ c' e', g u (c, e) = .ok (c', e') ∧ s' = (a + c', max D (e' + j))) :
    ∀ (l : List α) (c : Nat) (e : Int) (s' : Nat × Int), foldX f l (a + c, max D (e + j)) = .ok s' → ∃ c' e', foldX g l (c, e) = .ok (c', e') ∧ s' = (a + c', max D (e' + j)) := by
  intro l
  induction l with
  | nil =>
    intro c e s' hs
    simp only [foldX] at hs ⊢
    cases hs
    exact ⟨c, e, rfl, rfl⟩
  | cons u r ih =>
    intro c e s' hs
    simp only [foldX] at hs ⊢
    cases h1 : f u (a + c, max D (e + j)) with
    | error er => rw [h1] at hs; cases hs
    | ok s1 =>
      rw [h1] at hs
      obtain ⟨c1, e1, h2, rfl⟩ := h u c e s1 h1
      obtain ⟨c2, e2, h3, h4⟩ := ih c1 e1 s' hs
      rw [h2]
      exact ⟨c2, e2, h3, h4⟩

/-- A walk begun deeper, with more met: the walk begun anew. -/
theorem pre_shift (n : Nat) (j : Int) (hj : 0 ≤ j) (a : Nat) (D : Int) : ∀ (u : X n) (d : Int) (c : Nat) (e : Int) (s' : Nat × Int), pre stM n u (d + j) (a + c, max D (e + j)) = .ok s' →
    ∃ c' e', pre stM n u d (c, e) = .ok (c', e') ∧ s' = (a + c', max D (e' + j)) := by
  induction n with
  | zero => intro u; exact u.elim
  | succ n ih =>
    rintro ⟨k, b, t, its⟩ d c e s' h
    obtain ⟨s1, h1, h2⟩ := pre_inv h
    obtain ⟨hd, hc, hmay, rfl⟩ := stM_ok h1
    have hM : stM d (k, b, t, its.length) (c, e) = .ok (c + 1, max d e) := by
      unfold stM
      simp only at hc hmay ⊢
      rw [if_neg (by omega), if_neg (by omega), if_pos hmay]
    rw [pre_ok hM]
    have e1 : ((a + c, max D (e + j)).1 + 1, max (d + j) (a + c, max D (e + j)).2) = (a + (c + 1), max D (max d e + j)) := by
      simp only [Prod.mk.injEq]
      exact ⟨by omega, by omega⟩
    rw [e1] at h2
    have e2 : d + j + 1 = d + 1 + j := by omega
    rw [e2] at h2
    exact fold_shift (fun u c e s' hs => ih u (d + 1) c e s' hs) its (c + 1) (max d e) s' h2

theorem fold_up {α : Type} {f : α → Nat × Int → Except Int (Nat × Int)} (h : ∀ u s s', f u s = .ok s' → s.2 ≤ s'.2) : ∀ (l : List α) (s s' : Nat × Int), foldX f l s = .ok s' → s.2 ≤ s'.2 := by
  intro l
  induction l with
  | nil => intro s s' hs; simp only [foldX] at hs; cases hs; exact Int.le_refl _
  | cons u r ih =>
    intro s s' hs
    simp only [foldX] at hs
    cases h1 : f u s with
    | error er => rw [h1] at hs; cases hs
    | ok s1 =>
      rw [h1] at hs
      exact Int.le_trans (h u s s1 h1) (ih s1 s' hs)

theorem pre_up (n : Nat) : ∀ (u : X n) (d : Int) (s s' : Nat × Int), pre stM n u d s = .ok s' → s.2 ≤ s'.2 := by
  induction n with
  | zero => intro u; exact u.elim
  | succ n ih =>
    rintro ⟨k, b, t, its⟩ d s s' h
    obtain ⟨s1, h1, h2⟩ := pre_inv h
    obtain ⟨hd, hc, hmay, rfl⟩ := stM_ok h1
    have := fold_up (fun u s s' => ih u (d + 1) s s') its _ s' h2
    simp only at this
    omega

/-- The parts of an expression that may be, one by one. -/
theorem parts_next {n : Nat} {k b : Int} {t : ByteArray} {its : List (X n)} {c : Nat} {d : Int} (h : pre stM (n + 1) (k, b, t, its) 1 (0, 0) = .ok (c, d)) {m : Nat} (hm : m < its.length) {sum : Nat} {e : Int} (hs : foldX (fun u s => pre stM n u 2 s) (its.take m) (1, 1) = .ok (sum, e)) :
    ∃ c' e', pre stM n its[m] 1 (0, 0) = .ok (c', e') ∧ e' < d ∧ sum + c' ≤ 64 ∧ foldX (fun u s => pre stM n u 2 s) (its.take (m + 1)) (1, 1) = .ok (sum + c', max e (e' + 1)) := by
  obtain ⟨s1, h1, h2⟩ := pre_inv h
  obtain ⟨hd, hc, hmay, rfl⟩ := stM_ok h1
  have e0 : ((0, 0) : Nat × Int).1 + 1 = 1 := rfl
  have h2' : foldX (fun u s => pre stM n u 2 s) its (1, 1) = .ok (c, d) := h2
  have he : (1 : Int) ≤ e := fold_up (fun u s s' => pre_up n u 2 s s') _ _ _ hs
  obtain ⟨s3, h3⟩ := fold_ok hm h2' hs
  have h3' : pre stM n its[m] (1 + 1) (sum + 0, max e (0 + 1)) = .ok s3 := by
    rw [show max e (0 + 1) = e by omega]
    exact h3
  obtain ⟨c', e', h4, rfl⟩ := pre_shift n 1 (by decide) sum e its[m] 1 0 0 s3 h3'
  have h5 : foldX (fun u s => pre stM n u 2 s) (its.take (m + 1)) (1, 1) = .ok (sum + c', max e (e' + 1)) := (foldX_next hm hs).trans h3
  have hmet : ∀ (l : List (X n)) (s s' : Nat × Int), MetX s → foldX (fun u s => pre stM n u 2 s) l s = .ok s' → MetX s' := by
    have hp : ∀ (n : Nat) (u : X n) (d : Int) (s s' : Nat × Int), MetX s → pre stM n u d s = .ok s' → MetX s' := by
      intro n
      induction n with
      | zero => intro u; exact u.elim
      | succ n ih =>
        rintro ⟨k, b, t, its⟩ d s s' hm h
        obtain ⟨s1, h1, h2⟩ := pre_inv h
        have hm1 := (stM_met hm h1).1
        clear h h1 hm
        revert s1
        induction its with
        | nil => intro s1 h2 hm1; simp only [foldX] at h2; cases h2; exact hm1
        | cons a r ihr =>
          intro s1 h2 hm1
          simp only [foldX] at h2
          cases h3 : pre stM n a (d + 1) s1 with
          | error er => rw [h3] at h2; cases h2
          | ok s2 => rw [h3] at h2; exact ihr s2 h2 (ih a _ _ _ hm1 h3)
    intro l
    induction l with
    | nil => intro s s' hm h; simp only [foldX] at h; cases h; exact hm
    | cons a r ihr =>
      intro s s' hm h
      simp only [foldX] at h
      cases h3 : pre stM n a 2 s with
      | error er => rw [h3] at h; cases h
      | ok s2 => rw [h3] at h; exact ihr s2 s' (hp n a 2 s s2 hm h3) h
  have hmt := hmet _ _ _ ⟨by decide, by decide, by decide⟩ h5
  refine ⟨c', e', h4, ?_, hmt.1, h5⟩
  have h6 := foldX_append (fun u s => pre stM n u 2 s) (its.take (m + 1)) (its.drop (m + 1)) (1, 1)
  rw [List.take_append_drop, h5, h2'] at h6
  have := fold_up (fun u s s' => pre_up n u 2 s s') _ _ _ h6.symm
  simp only at this
  omega
end Go.Proofs.Ytnliokikcpnllaa
