/-
  makeRoom on a part of a value in memory of its own.
-/
import Derived.Test.YtocodkoanjcmkaaVaPlug
namespace Go.Proofs.Ytocodkoanjcmkaa
open Go.ChangeShapes Go.WideShapes Go.ChangeAt Go.RowKit
open Fl

theorem one_of_own {w : World} {n l : Nat} {its : List (V n)} {xs : List Value} {G : Nat → Nat → Prop} (hl : its.length = l) (hx : xs.length = l * 5) (h : Items (Own w n) its l xs G) : ∀ v ∈ xs, v.oneCell' = true := by
  intro v hv
  obtain ⟨j, hj⟩ := List.getElem?_of_mem hv
  have hjl : j < l * 5 := by have := (List.getElem?_eq_some_iff.1 hj).1; omega
  obtain ⟨c0, c1, c2, c3, c4, e0, e1, e2, e3, e4, hO⟩ := h (j / 5) (its[j / 5]'(by omega)) (by omega) (by simp)
  obtain ⟨k5, b5, t5, ka5, kl5, kc5, ia5, il5, ic5, rfl, rfl, rfl, rfl, rfl⟩ := Lay.five n (Own.lay n hO)
  have hm : j % 5 = 0 ∨ j % 5 = 1 ∨ j % 5 = 2 ∨ j % 5 = 3 ∨ j % 5 = 4 := by omega
  rcases hm with hm | hm | hm | hm | hm
  · have : j = j / 5 * 5 := by omega
    rw [← this, hj] at e0; cases e0; rfl
  · have : j = j / 5 * 5 + 1 := by omega
    rw [← this, hj] at e1; cases e1; rfl
  · have : j = j / 5 * 5 + 2 := by omega
    rw [← this, hj] at e2; cases e2; rfl
  · have : j = j / 5 * 5 + 3 := by omega
    rw [← this, hj] at e3; cases e3; rfl
  · have : j = j / 5 * 5 + 4 := by omega
    rw [← this, hj] at e4; cases e4; rfl

/-- Nothing, among deeper trees. -/
def nil5 (n : Nat) : V (n + 1) := (0, 0, ⟨#[]⟩, [], [])

theorem own_nil5 (w : World) (n : Nat) : Own w (n + 1) (mk 0 0 ⟨#[]⟩ none 0 0 none 0 0) (nil5 n) (fun _ => False) := by
  refine ⟨none, 0, none, 0, [], fun _ _ => False, rfl, ?_, by simp, World.ownsRow_nil _ _ _ _, World.ownsRow_nil _ _ _ _, by simp [Value.ownBlock], by simp [Value.ownBlock], fun i u hi => by simp at hi, fun i b hi => by simp at hi, fun i j b hi => by simp at hi⟩
  refine ⟨by omega, by omega, ?_, by simp, by simp, by simp, by simp, by simp, by simp⟩
  exact Nat.zero_le _

theorem ins_get {α : Type} (l : List α) (i : Nat) (a : α) (hi : i ≤ l.length) (j : Nat) : (ins l i a)[j]? = if j < i then l[j]? else if j = i then some a else l[j - 1]? := by
  unfold ins
  have hA : (l.take i).length = i := by rw [List.length_take]; omega
  by_cases h1 : j < i
  · rw [if_pos h1, List.getElem?_append_left (by omega), List.getElem?_take, if_pos h1]
  · rw [if_neg h1, List.getElem?_append_right (by omega), hA]
    by_cases h2 : j = i
    · subst h2; simp
    · rw [if_neg h2]
      obtain ⟨d, rfl⟩ : ∃ d, j = i + d + 1 := ⟨j - i - 1, by omega⟩
      have : i + d + 1 - i = d + 1 := by omega
      rw [this, List.getElem?_cons_succ, List.getElem?_drop]
      rfl

theorem ins_length {α : Type} (l : List α) (i : Nat) (a : α) (hi : i ≤ l.length) : (ins l i a).length = l.length + 1 := by
  unfold ins
  simp only [List.length_append, List.length_take, List.length_cons, List.length_drop]
  omega

theorem xs_ins (xs zs : List Value) (a m : Nat) (ha : a ≤ xs.length) (hz : zs.length = 5) : (xs.take a ++ zs ++ xs.drop a)[m]? = if m < a then xs[m]? else if m < a + 5 then zs[m - a]? else xs[m - 5]? := by
  have hA : (xs.take a).length = a := by rw [List.length_take]; omega
  by_cases h1 : m < a
  · rw [if_pos h1, List.append_assoc, List.getElem?_append_left (by omega), List.getElem?_take, if_pos h1]
  · rw [if_neg h1]
    by_cases h2 : m < a + 5
    · rw [if_pos h2, List.getElem?_append_left (by rw [List.length_append]; omega), List.getElem?_append_right (by omega), hA]
    · rw [if_neg h2, List.getElem?_append_right (by rw [List.length_append]; omega), List.length_append, hA, hz, List.getElem?_drop]
      congr 1
      omega

theorem items_ins {w w2 : World} {n a : Nat} {its : List (V (n + 1))} {xs : List Value} {G : Nat → Nat → Prop} (ha : a ≤ its.length) (hx : xs.length = its.length * 5) (h : Items (Own w (n + 1)) its its.length xs G) (hk : ∀ j b, j < its.length → G j b → w2.heap[b]? = w.heap[b]?) :
    Items (Own w2 (n + 1)) (ins its a (nil5 n)) (its.length + 1) (xs.take (a * 5) ++ zcells ++ xs.drop (a * 5)) (fun j b => if j < a then G j b else if j = a then False else G (j - 1) b) := by
  intro j u hj hu
  rw [ins_get _ _ _ ha] at hu
  have xi := fun m => xs_ins xs zcells (a * 5) m (by omega) rfl
  by_cases h1 : j < a
  · rw [if_pos h1] at hu
    obtain ⟨c0, c1, c2, c3, c4, e0, e1, e2, e3, e4, hO⟩ := h j u (by omega) hu
    refine ⟨c0, c1, c2, c3, c4, ?_, ?_, ?_, ?_, ?_, ?_⟩
    · rw [xi, if_pos (by omega)]; exact e0
    · rw [xi, if_pos (by omega)]; exact e1
    · rw [xi, if_pos (by omega)]; exact e2
    · rw [xi, if_pos (by omega)]; exact e3
    · rw [xi, if_pos (by omega)]; exact e4
    · simp only [if_pos h1]
      exact hO.same _ fun b hb => hk j b (by omega) hb
  · rw [if_neg h1] at hu
    by_cases h2 : j = a
    · subst h2
      rw [if_pos rfl] at hu
      cases hu
      refine ⟨.int .i64 0, .int .u64 0, .string ⟨#[]⟩, .slice none 0 0, .slice none 0 0, ?_, ?_, ?_, ?_, ?_, ?_⟩
      · rw [xi, if_neg (by omega), if_pos (by omega), show j * 5 - j * 5 = 0 by omega]; rfl
      · rw [xi, if_neg (by omega), if_pos (by omega), show j * 5 + 1 - j * 5 = 1 by omega]; rfl
      · rw [xi, if_neg (by omega), if_pos (by omega), show j * 5 + 2 - j * 5 = 2 by omega]; rfl
      · rw [xi, if_neg (by omega), if_pos (by omega), show j * 5 + 3 - j * 5 = 3 by omega]; rfl
      · rw [xi, if_neg (by omega), if_pos (by omega), show j * 5 + 4 - j * 5 = 4 by omega]; rfl
      · simp only [Nat.lt_irrefl, if_false, if_true]
        exact own_nil5 w2 n
    · rw [if_neg h2] at hu
      obtain ⟨c0, c1, c2, c3, c4, e0, e1, e2, e3, e4, hO⟩ := h (j - 1) u (by omega) hu
      refine ⟨c0, c1, c2, c3, c4, ?_, ?_, ?_, ?_, ?_, ?_⟩
      · rw [xi, if_neg (by omega), if_neg (by omega), show j * 5 - 5 = (j - 1) * 5 by omega]; exact e0
      · rw [xi, if_neg (by omega), if_neg (by omega), show j * 5 + 1 - 5 = (j - 1) * 5 + 1 by omega]; exact e1
      · rw [xi, if_neg (by omega), if_neg (by omega), show j * 5 + 2 - 5 = (j - 1) * 5 + 2 by omega]; exact e2
      · rw [xi, if_neg (by omega), if_neg (by omega), show j * 5 + 3 - 5 = (j - 1) * 5 + 3 by omega]; exact e3
      · rw [xi, if_neg (by omega), if_neg (by omega), show j * 5 + 4 - 5 = (j - 1) * 5 + 4 by omega]; exact e4
      · simp only [if_neg h1, if_neg h2]
        exact hO.same _ fun b hb => hk (j - 1) b (by omega) hb
end Go.Proofs.Ytocodkoanjcmkaa
