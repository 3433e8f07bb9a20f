/-
  A walk without an error, begun deeper and later; an element put around a tree.
-/
import Derived.Test.YtoheppocolbjkaaTrShift
import Derived.Test.YtoheppocolbjkaaTrTexts
namespace Go.Proofs.Ytoheppocolbjkaa
open Go.ChangeShapes Go.WideShapes Go.ChangeAt Go.RowKit

theorem wkK_up {α : Type} {f f' : α → Nat → Int × Nat × Nat} {δ γ : Nat} (hm : ∀ u c, c ≤ 256 → (f' u c).2.1 ≤ 256 ∧ c ≤ (f' u c).2.1 ∧ (f' u c).2.2 ≤ 9) (hf : ∀ u c a b, c ≤ 256 → f' u c = (0, a, b) → a + γ ≤ 256 → b + δ ≤ 8 → f u (c + γ) = (0, a + γ, b + δ)) :
    ∀ (l : List α) (c d a b : Nat), c ≤ 256 → d ≤ 9 → wkK f' l c d = (0, a, b) → a + γ ≤ 256 → b + δ ≤ 8 → wkK f l (c + γ) (d + δ) = (0, a + γ, b + δ)
  | [], c, d, a, b, _, _, h, _, _ => by
    simp only [wkK, Prod.mk.injEq, true_and] at h ⊢
    omega
  | u :: r, c, d, a, b, hc, hd, h, ha, hb => by
    unfold wkK at h ⊢
    by_cases h0 : (f' u c).1 = 0
    · rw [if_pos h0] at h
      have hmu := hm u c hc
      have hok := wkK_ok hm r (f' u c).2.1 (max d (f' u c).2.2) hmu.1 (by omega)
      have hd0 := hok.2.2.2 (by rw [h])
      rw [h] at hok hd0
      simp only at hok hd0
      obtain ⟨⟨e1, e2, e3⟩, he⟩ : ∃ x, f' u c = x := ⟨_, rfl⟩
      rw [he] at h h0 hmu hok hd0
      simp only at h0 hmu hok hd0 h
      subst h0
      have h1 := hf u c e2 e3 hc he (by omega) (by omega)
      rw [h1, if_pos rfl]
      simp only
      rw [show max (d + δ) (e3 + δ) = max d e3 + δ by omega]
      exact wkK_up hm hf r _ _ _ _ hmu.1 (by omega) h ha hb
    · rw [if_neg h0] at h
      rw [h] at h0
      exact absurd rfl h0

theorem wk_up : ∀ (n : Nat) (v : T n) (L c δ γ a b : Nat), L ≤ 9 → c ≤ 256 → wk v L c = (0, a, b) → a + γ ≤ 256 → b + δ ≤ 8 → wk v (L + δ) (c + γ) = (0, a + γ, b + δ)
  | 0, v, _, _, _, _, _, _, _, _, _, _, _ => v.elim
  | n + 1, v, L, c, δ, γ, a, b, hL, hc, h, ha, hb => by
    have hok := wk_ok (n + 1) v L c hL hc
    rw [h] at hok
    simp only at hok
    have hok2 := hok.2.2.2 trivial
    obtain ⟨g, k, t, ats, its⟩ := v
    rw [wk_node] at h ⊢
    by_cases h1 : 8 < L
    · omega
    · rw [if_neg h1] at h
      by_cases h2 : 256 ≤ c
      · rw [if_pos h2] at h; simp at h
      · rw [if_neg h2] at h
        by_cases h3 : nodeB g k t ats its.length = false
        · rw [if_pos h3] at h; simp at h
        · rw [if_neg h3] at h
          by_cases h4 : twB (keysT its) = true
          · rw [if_pos h4] at h; simp at h
          · rw [if_neg h4] at h
            rw [if_neg (by omega), if_neg (by omega), if_neg h3, if_neg h4]
            rw [show c + γ + 1 = (c + 1) + γ by omega]
            refine wkK_up (f := fun u c' => wk u (L + δ + 1) c') (f' := fun u c' => wk u (L + 1) c') (fun u c' hc' => by have := wk_ok n u (L + 1) c' (by omega) hc'; exact ⟨this.1, this.2.1, this.2.2.1⟩) (fun u c' a' b' hc' h' ha' hb' => ?_) its (c + 1) L a b (by omega) hL h ha hb
            have := wk_up n u (L + 1) c' δ γ a' b' (by omega) hc' h' ha' hb'
            rwa [show L + 1 + δ = L + δ + 1 by omega] at this

theorem wkK_deep {α : Type} {f : α → Nat → Int × Nat × Nat} (hf : ∀ u c, (f u c).1 = 0 → (f u c).2.2 ≤ 8) : ∀ (l : List α) (c d : Nat), d ≤ 8 → (wkK f l c d).1 = 0 → (wkK f l c d).2.2 ≤ 8
  | [], c, d, hd, _ => hd
  | u :: r, c, d, hd, h => by
    unfold wkK at h ⊢
    by_cases h0 : (f u c).1 = 0
    · rw [if_pos h0] at h ⊢
      have := hf u c h0
      exact wkK_deep hf r _ _ (by omega) h
    · rw [if_neg h0] at h
      exact absurd h h0

theorem wk_deep : ∀ (n : Nat) (v : T n) (L c : Nat), (wk v L c).1 = 0 → (wk v L c).2.2 ≤ 8
  | 0, v, _, _, _ => v.elim
  | n + 1, v, L, c, h => by
    obtain ⟨g, k, t, ats, its⟩ := v
    rw [wk_node] at h ⊢
    by_cases h1 : 8 < L
    · rw [if_pos h1] at h; simp at h
    · rw [if_neg h1] at h ⊢
      by_cases h2 : 256 ≤ c
      · rw [if_pos h2] at h; simp at h
      · rw [if_neg h2] at h ⊢
        by_cases h3 : nodeB g k t ats its.length = false
        · rw [if_pos h3] at h; simp at h
        · rw [if_neg h3] at h ⊢
          by_cases h4 : twB (keysT its) = true
          · rw [if_pos h4] at h; simp at h
          · rw [if_neg h4] at h ⊢
            exact wkK_deep (f := fun u c' => wk u (L + 1) c') (fun u c' h' => wk_deep n u (L + 1) c' h') its (c + 1) L (by omega) h

/-- An element b around a tree. -/
def arT {n : Nat} (v : T n) : T (n + 1) := (⟨#[98]⟩, ⟨#[]⟩, ⟨#[]⟩, [], [v])
theorem arT_txt {n : Nat} (v : T n) : txt (arT v) = txt v := by
  unfold arT
  rw [txt_node, if_neg (by decide)]
  simp [cat]

theorem ar_walk {n : Nat} (v : T n) : sizeT (arT v) = if (wk v 2 1).1 = 0 then (0, (wk v 2 1).2.1, max 1 (wk v 2 1).2.2) else ((wk v 2 1).1, 0, 0) := by
  have hp : nodeB ⟨#[98]⟩ ⟨#[]⟩ ⟨#[]⟩ [] 1 = true := by decide
  have ht : twB [keyT v] = false := by
    refine any_range.2 fun i hi => ?_
    have : i = 0 := by simpa using hi
    subst this
    simp [twAt]
  have hw : wk (arT v) 1 0 = if (wk v 2 1).1 = 0 then (0, (wk v 2 1).2.1, max 1 (wk v 2 1).2.2) else wk v 2 1 := by
    unfold arT
    rw [wk_node, if_neg (by omega), if_neg (by omega), if_neg (by show ¬ nodeB ⟨#[98]⟩ ⟨#[]⟩ ⟨#[]⟩ [] 1 = false; rw [hp]; decide), if_neg (by show ¬ twB [keyT v] = true; rw [ht]; decide)]
    unfold wkK
    simp only [Nat.zero_add, Nat.reduceAdd]
    rfl
  have : sizeT (arT v) = if (⟨#[98]⟩ : ByteArray).size = 0 then (9, 0, 0) else if (wk (arT v) 1 0).1 = 0 then wk (arT v) 1 0 else ((wk (arT v) 1 0).1, 0, 0) := rfl
  rw [this, if_neg (by decide), hw]
  by_cases h : (wk v 2 1).1 = 0
  · rw [if_pos h, if_pos h, if_pos rfl]
  · rw [if_neg h, if_neg h, if_neg h]

/-- What the size of a tree says of the element around it. -/
theorem ar_size {n : Nat} {v : T n} {c d : Nat} (h : sizeT v = (0, c, d)) : if 256 ≤ c ∨ 8 ≤ d then ¬ (sizeT (arT v)).1 = 0 else (sizeT (arT v)).1 = 0 := by
  have hw : wk v 1 0 = (0, c, d) := (size_ok (by rw [h])).2.2.symm.trans h
  rw [ar_walk]
  split
  · rename_i hcd
    by_cases h0 : (wk v 2 1).1 = 0
    · exfalso
      obtain ⟨⟨e1, e2, e3⟩, he⟩ : ∃ x, wk v 2 1 = x := ⟨_, rfl⟩
      have h8 := wk_deep n v 2 1 h0
      have hok := wk_ok n v 2 1 (by omega) (by omega)
      rw [he] at h0 h8 hok
      simp only at h0 h8 hok
      subst h0
      obtain ⟨c', d', rfl, rfl, h3⟩ := wk_shift n v 1 0 1 1 e2 e3 (by rw [Nat.zero_add]; exact he)
      rw [hw] at h3
      simp only [Prod.mk.injEq, true_and] at h3
      omega
    · rw [if_neg h0]
      exact h0
  · rename_i hcd
    have h1 := wk_up n v 1 0 1 1 c d (by omega) (by omega) hw (by omega) (by omega)
    simp only [Nat.zero_add, Nat.reduceAdd] at h1
    rw [h1]
    rfl
end Go.Proofs.Ytoheppocolbjkaa
