/-
  A walk without an error, begun elsewhere; kid by kid.
-/
import Derived.Test.YtoheppocolbjkaaTrFrame
namespace Go.Proofs.Ytoheppocolbjkaa
open Go.ChangeShapes Go.WideShapes Go.ChangeAt Go.RowKit

theorem wkK_shift {α : Type} {f f' : α → Nat → Int × Nat × Nat} {δ γ : Nat} (hf : ∀ u c a b, f u (c + γ) = (0, a, b) → ∃ c' d', a = c' + γ ∧ b = d' + δ ∧ f' u c = (0, c', d')) : ∀ (l : List α) (c d a b : Nat), wkK f l (c + γ) (d + δ) = (0, a, b) → ∃ c' d', a = c' + γ ∧ b = d' + δ ∧ wkK f' l c d = (0, c', d')
  | [], c, d, a, b, h => by
    simp only [wkK, Prod.mk.injEq, true_and] at h
    exact ⟨c, d, h.1.symm, h.2.symm, rfl⟩
  | u :: r, c, d, a, b, h => by
    unfold wkK at h ⊢
    by_cases h0 : (f u (c + γ)).1 = 0
    · rw [if_pos h0] at h
      obtain ⟨⟨e1, e2, e3⟩, he⟩ : ∃ x, f u (c + γ) = x := ⟨_, rfl⟩
      rw [he] at h h0
      simp only at h0
      subst h0
      obtain ⟨c1, d1, rfl, rfl, h1⟩ := hf u c e2 e3 he
      rw [h1, if_pos rfl]
      simp only at h ⊢
      rw [show max (d + δ) (d1 + δ) = max d d1 + δ by omega] at h
      exact wkK_shift hf r _ _ _ _ h
    · rw [if_neg h0] at h
      rw [h] at h0
      exact absurd rfl h0

theorem wk_shift : ∀ (n : Nat) (v : T n) (L c δ γ a b : Nat), wk v (L + δ) (c + γ) = (0, a, b) → ∃ c' d', a = c' + γ ∧ b = d' + δ ∧ wk v L c = (0, c', d')
  | 0, v, _, _, _, _, _, _, _ => v.elim
  | n + 1, v, L, c, δ, γ, a, b, h => by
    obtain ⟨g, k, t, ats, its⟩ := v
    rw [wk_node] at h ⊢
    by_cases h1 : 8 < L + δ
    · rw [if_pos h1] at h; simp at h
    · rw [if_neg h1] at h
      by_cases h2 : 256 ≤ c + γ
      · rw [if_pos h2] at h; simp at h
      · rw [if_neg h2] at h
        by_cases h3 : nodeB g k t ats its.length = false
        · rw [if_pos h3] at h; simp at h
        · rw [if_neg h3] at h
          by_cases h4 : twB (keysT its) = true
          · rw [if_pos h4] at h; simp at h
          · rw [if_neg h4] at h
            rw [if_neg (by omega), if_neg (by omega), if_neg h3, if_neg h4]
            rw [show c + γ + 1 = (c + 1) + γ by omega] at h
            refine wkK_shift (f := fun u c' => wk u (L + δ + 1) c') (f' := fun u c' => wk u (L + 1) c') (fun u c' a' b' h' => ?_) its (c + 1) L a b h
            rw [show L + δ + 1 = (L + 1) + δ by omega] at h'
            exact wk_shift n u (L + 1) c' δ γ a' b' h'

theorem wkK_append {α : Type} {f : α → Nat → Int × Nat × Nat} : ∀ (x y : List α) (c d : Nat), (wkK f x c d).1 = 0 → wkK f (x ++ y) c d = wkK f y (wkK f x c d).2.1 (wkK f x c d).2.2
  | [], y, c, d, _ => rfl
  | u :: r, y, c, d, h => by
    simp only [List.cons_append, wkK] at h ⊢
    by_cases h0 : (f u c).1 = 0
    · simp only [if_pos h0] at h ⊢
      exact wkK_append r y _ _ h
    · rw [if_neg h0] at h; exact absurd h h0

/-- A beginning of kids without an error. -/
theorem wkK_pre {α : Type} {f : α → Nat → Int × Nat × Nat} {l : List α} {c d a b : Nat} (h : wkK f l c d = (0, a, b)) (m : Nat) : ∃ a' b', wkK f (l.take m) c d = (0, a', b') := by
  obtain ⟨⟨e, a', b'⟩, he⟩ : ∃ x, wkK f (l.take m) c d = x := ⟨_, rfl⟩
  by_cases h0 : e = 0
  · subst h0; exact ⟨a', b', he⟩
  · have := wkK_err l m c d (f := f) (by rw [he]; exact h0)
    rw [h, he] at this
    simp only [Prod.mk.injEq] at this
    exact absurd this.1.symm h0

theorem wkK_le {α : Type} {f : α → Nat → Int × Nat × Nat} (hf : ∀ u c, c ≤ 256 → (f u c).2.1 ≤ 256 ∧ c ≤ (f u c).2.1 ∧ (f u c).2.2 ≤ 9) {l : List α} {c d a b m a' b' : Nat} (h : wkK f l c d = (0, a, b)) (h' : wkK f (l.take m) c d = (0, a', b')) (hc : c ≤ 256) (hd : d ≤ 9) : a' ≤ a ∧ b' ≤ b := by
  have h1 := wkK_ok hf (l.take m) c d hc hd
  rw [h'] at h1
  have h2 := wkK_append (f := f) (l.take m) (l.drop m) c d (by rw [h'])
  rw [List.take_append_drop, h, h'] at h2
  have h3 := wkK_ok hf (l.drop m) a' b' h1.1 h1.2.2.1
  simp only at h2
  rw [← h2] at h3
  exact ⟨h3.2.1, h3.2.2.2 rfl⟩

/-- A kid that is a text is one node. -/
theorem wk_text : ∀ {n : Nat} {v : T n} {L c a b : Nat}, (tagT v).size = 0 → wk v L c = (0, a, b) → a = c + 1 ∧ b = L
  | 0, v, _, _, _, _, _, _ => v.elim
  | n + 1, v, L, c, a, b, hg, h => by
    obtain ⟨g, k, t, ats, its⟩ := v
    replace hg : g.size = 0 := hg
    rw [wk_node] at h
    by_cases h1 : 8 < L
    · rw [if_pos h1] at h; simp at h
    · rw [if_neg h1] at h
      by_cases h2 : 256 ≤ c
      · rw [if_pos h2] at h; simp at h
      · rw [if_neg h2] at h
        by_cases h3 : nodeB g k t ats its.length = false
        · rw [if_pos h3] at h; simp at h
        · rw [if_neg h3] at h
          by_cases h4 : twB (keysT its) = true
          · rw [if_pos h4] at h; simp at h
          · rw [if_neg h4] at h
            have h3' : nodeB g k t ats its.length = true := by simpa using h3
            rcases node_ok h3' with ⟨-, -, -, -, e⟩ | ⟨e, -⟩
            · have : its = [] := List.eq_nil_of_length_eq_zero e
              subst this
              simp only [wkK, Prod.mk.injEq, true_and] at h
              omega
            · exact absurd hg e

/-- A kid that is an element, by itself. -/
theorem wk_elem {n : Nat} {v : T n} {L c a b : Nat} (hg : ¬ (tagT v).size = 0) (h : wk v (1 + L) c = (0, a, b)) : ∃ m d, a = m + c ∧ b = d + L ∧ sizeT v = (0, m, d) := by
  obtain ⟨m, d, h1, h2, h3⟩ := wk_shift n v 1 0 L c a b (by rw [Nat.zero_add]; exact h)
  refine ⟨m, d, h1, h2, ?_⟩
  cases n with
  | zero => exact v.elim
  | succ n =>
    have e : sizeT v = if (tagT v).size = 0 then (9, 0, 0) else if (wk v 1 0).1 = 0 then wk v 1 0 else ((wk v 1 0).1, 0, 0) := rfl
    rw [e, if_neg hg, h3, if_pos rfl]

/-- A tree that may be: its walk is its kids'. -/
theorem wk_kids {n : Nat} {g k t : ByteArray} {ats : List Atr} {its : List (T n)} {L c a b : Nat} (h : wk (n := n + 1) (g, k, t, ats, its) L c = (0, a, b)) : wkK (fun u c' => wk u (L + 1) c') its (c + 1) L = (0, a, b) ∧ nodeB g k t ats its.length = true ∧ L ≤ 8 ∧ c < 256 ∧ ¬ twB (keysT its) = true := by
  rw [wk_node] at h
  by_cases h1 : 8 < L
  · rw [if_pos h1] at h; simp at h
  · rw [if_neg h1] at h
    by_cases h2 : 256 ≤ c
    · rw [if_pos h2] at h; simp at h
    · rw [if_neg h2] at h
      by_cases h3 : nodeB g k t ats its.length = false
      · rw [if_pos h3] at h; simp at h
      · rw [if_neg h3] at h
        by_cases h4 : twB (keysT its) = true
        · rw [if_pos h4] at h; simp at h
        · rw [if_neg h4] at h
          exact ⟨h, by simpa using h3, by omega, by omega, h4⟩

/-- One kid of a tree that may be. -/
theorem kid_at {n : Nat} {its : List (T n)} {L c d a b m a' b' : Nat} (h : wkK (fun u c' => wk u (L + 1) c') its c d = (0, a, b)) (hm : m < its.length) (h' : wkK (fun u c' => wk u (L + 1) c') (its.take m) c d = (0, a', b')) (hL : L ≤ 8) (hc : c ≤ 256) (hd : d ≤ 9) :
    ∃ a2 b2, wk its[m] (L + 1) a' = (0, a2, b2) ∧ wkK (fun u c' => wk u (L + 1) c') (its.take (m + 1)) c d = (0, a2, max b' b2) ∧ a2 ≤ a ∧ max b' b2 ≤ b ∧ a' < a2 ∧ L + 1 ≤ b2 ∧ c ≤ a' := by
  have hf : ∀ (u : T n) (c : Nat), c ≤ 256 → (wk u (L + 1) c).2.1 ≤ 256 ∧ c ≤ (wk u (L + 1) c).2.1 ∧ (wk u (L + 1) c).2.2 ≤ 9 := fun u c hc => by have := wk_ok n u (L + 1) c (by omega) hc; exact ⟨this.1, this.2.1, this.2.2.1⟩
  have h1 := wkK_take (f := fun u c' => wk u (L + 1) c') its m c d hm (by rw [h'])
  rw [h'] at h1
  obtain ⟨a2, b2, h2⟩ := wkK_pre h (m + 1)
  rw [h2] at h1
  simp only at h1
  obtain ⟨⟨e, a3, b3⟩, he⟩ : ∃ x, wk its[m] (L + 1) a' = x := ⟨_, rfl⟩
  rw [he] at h1
  have hp := wkK_ok hf (its.take m) c d hc hd
  rw [h'] at hp
  by_cases h0 : e = 0
  · subst h0
    rw [if_pos rfl] at h1
    simp only [Prod.mk.injEq, true_and] at h1
    obtain ⟨rfl, rfl⟩ := h1
    have hle := wkK_le hf h h2 hc hd
    have hk := wk_ok n its[m] (L + 1) a' (by omega) hp.1
    rw [he] at hk
    have hk2 := hk.2.2.2 rfl
    exact ⟨a2, b3, he, h2, hle.1, hle.2, hk2.2.2, hk2.1, hp.2.1⟩
  · rw [if_neg h0] at h1
    simp only [Prod.mk.injEq] at h1
    exact absurd h1.1.symm h0
end Go.Proofs.Ytoheppocolbjkaa
