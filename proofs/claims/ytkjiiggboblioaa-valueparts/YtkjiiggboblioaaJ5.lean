/-
  One item of a value in memory of its own is another: what the value then is.
-/
import Derived.Test.YtkjiiggboblioaaVaPlug
namespace Go.Proofs.Ytkjiiggboblioaa
open Go.ChangeShapes Go.WideShapes Go.ChangeAt Go.RowKit

theorem own_item {wr : World} {n : Nat} {F : Nat → Prop} {x : Value} {k b : Int} {t : ByteArray} {ks : List ByteArray} {its : List (V n)} {i : Nat} (ho : Own wr (n + 1) x (k, b, t, ks, its) F) (hi : i < its.length) :
    ∃ ka kc gi ic y G u, x = mk k b t ka ks.length kc (some ⟨gi, 0, none⟩) its.length ic ∧ its[i]? = some u ∧ At wr gi (i * 5) y ∧ Own wr n y u G ∧ (∀ b, G b → F b) ∧ F gi ∧ ¬ G gi ∧
      ∀ (w' : World) (y' : Value) (u' : V n) (E : Nat → Prop), (∀ j, F j → ¬ G j → j ≠ gi → w'.heap[j]? = wr.heap[j]?) →
        (∀ cur, wr.heap[gi]? = some (.cells cur 26 (0, 0)) → ∃ cur' : Array Value, w'.heap[gi]? = some (.cells cur' 26 (0, 0)) ∧ cur'.size = cur.size ∧ ∀ j, j < i * 5 ∨ i * 5 + 5 ≤ j → cur'[j]? = cur[j]?) →
        At w' gi (i * 5) y' → Own w' n y' u' E → (∀ b, E b → G b ∨ ¬ F b) → Own w' (n + 1) x (k, b, t, ks, its.set i u') (fun b => F b ∨ E b) := by
  obtain ⟨ka, kc, ia, ic, xs, G, rfl, hfit, hs, hK, hI, fK, fI, hit, hG, hd⟩ := ho
  have hI0 := hI
  obtain ⟨hlx, hcase⟩ := hI
  rcases hcase with ⟨h1, h2⟩ | ⟨gi, cap, cur, h1, _, hcur, hnc, hcm, hcs, hxs⟩
  · omega
  · simp only [Value.slice.injEq] at h1
    obtain ⟨rfl, _, rfl⟩ := h1
    obtain ⟨c0, c1, c2, c3, c4, e0, e1, e2, e3, e4, hO⟩ := hit i its[i] hi (by simp)
    obtain ⟨a0, a1, a2, a3, a4⟩ := five_at hxs hi e0 e1 e2 e3 e4
    have hgiF : F gi := fI gi rfl
    have hgG : ∀ j, j < its.length → ¬ G j gi := fun j hj e => (hG j gi hj e).2.2 rfl
    refine ⟨ka, kc, gi, ic, .agg #[c0, c1, c2, c3, c4], G i, its[i], rfl, by simp, ⟨cur, c0, c1, c2, c3, c4, hcur, rfl, a0, a1, a2, a3, a4⟩, hO, fun b' hb' => (hG i b' hi hb').1, hgiF, hgG i hi, ?_⟩
    intro w' y u E hbl hhere hat hown hE
    obtain ⟨cur', r1, r2, r3⟩ := hhere cur hcur
    obtain ⟨cur2, b0, b1, b2, b3, b4, s1, rfl, t0, t1, t2, t3, t4⟩ := hat
    rw [r1] at s1
    have e2 : cur' = cur2 := by simpa using s1
    subst e2
    have hEk : ∀ b', (Value.slice ka ks.length kc).ownBlock = some b' → ¬ E b' := fun b' hb' e => by
      rcases hE b' e with e' | e'
      · exact (hG i b' hi e').2.1 hb'
      · exact e' (fK b' hb')
    have hgE : ¬ E gi := fun e => by
      rcases hE gi e with e' | e'
      · exact hgG i hi e'
      · exact e' hgiF
    have tk : ∀ j c, j < its.length * 5 → cur'[j]? = some c → (cur'.toList.take (its.length * 5))[j]? = some c := fun j c hj h => by
      rw [List.getElem?_take, if_pos hj]
      simpa using h
    have hlc : cur'.toList.length = ic * 5 := by rw [Array.length_toList, r2, hcs]
    refine ⟨ka, kc, some ⟨gi, 0, none⟩, ic, cur'.toList.take (its.length * 5), fun j b' => if j = i then E b' else G j b', by simp, by simpa using hfit, hs, ?_, ?_, fun b' hb' => Or.inl (fK b' hb'), fun b' hb' => Or.inl (fI b' (by simpa [Value.ownBlock] using hb')), ?_, ?_, ?_⟩
    · exact ownsRow_same hK fun b' hb' => hbl b' (fK b' hb') (fun e => (hG i b' hi e).2.1 hb') (fun e => ne_blocks hK hI0 b' hb' (by rw [e]; rfl))
    · rw [List.length_set]
      exact ⟨by rw [List.length_take, hlc]; omega, Or.inr ⟨gi, ic, cur', rfl, Nat.zero_le _, r1, hnc, hcm, by rw [r2]; exact hcs, rfl⟩⟩
    · intro j u' hj hu'
      rw [List.length_set] at hj
      by_cases hji : j = i
      · subst hji
        rw [List.getElem?_set_self (by omega)] at hu'
        cases hu'
        refine ⟨b0, b1, b2, b3, b4, tk _ _ (by omega) t0, tk _ _ (by omega) t1, tk _ _ (by omega) t2, tk _ _ (by omega) t3, tk _ _ (by omega) t4, ?_⟩
        simp only [if_true]
        exact hown
      · rw [List.getElem?_set_ne (fun e => hji e.symm)] at hu'
        obtain ⟨f0, f1, f2, f3, f4, z0, z1, z2, z3, z4, hOj⟩ := hit j u' hj hu'
        obtain ⟨y0, y1, y2, y3, y4⟩ := five_at hxs hj z0 z1 z2 z3 z4
        refine ⟨f0, f1, f2, f3, f4, tk _ _ (by omega) ((r3 _ (by omega)).trans y0), tk _ _ (by omega) ((r3 _ (by omega)).trans y1), tk _ _ (by omega) ((r3 _ (by omega)).trans y2), tk _ _ (by omega) ((r3 _ (by omega)).trans y3), tk _ _ (by omega) ((r3 _ (by omega)).trans y4), ?_⟩
        simp only [hji, if_false]
        exact hOj.same n fun b' hb' => hbl b' (hG j b' hj hb').1 (fun e => hji (hd j i b' hj hi hb' e)) (fun e => (hG j b' hj hb').2.2 (by rw [e]; rfl))
    · intro j b' hj hGj
      rw [List.length_set] at hj ⊢
      by_cases hji : j = i
      · simp only [hji, if_true] at hGj
        refine ⟨Or.inr hGj, fun e => hEk b' e hGj, fun e => ?_⟩
        simp only [Value.ownBlock, Option.some.injEq] at e
        exact hgE (by rw [e]; exact hGj)
      · simp only [hji, if_false] at hGj
        have := hG j b' hj hGj
        exact ⟨Or.inl this.1, this.2⟩
    · intro j1 j2 b' h1 h2 g1 g2
      rw [List.length_set] at h1 h2
      have mix : ∀ j, j < its.length → E b' → G j b' → i = j := fun j hj e1 e2 => by
        rcases hE b' e1 with e' | e'
        · exact hd i j b' hi hj e' e2
        · exact absurd (hG j b' hj e2).1 e'
      by_cases hj1 : j1 = i <;> by_cases hj2 : j2 = i
      · omega
      · simp only [hj1, if_true] at g1
        simp only [hj2, if_false] at g2
        have := mix j2 h2 g1 g2
        omega
      · simp only [hj1, if_false] at g1
        simp only [hj2, if_true] at g2
        have := mix j1 h1 g2 g1
        omega
      · simp only [hj1, if_false] at g1
        simp only [hj2, if_false] at g2
        exact hd j1 j2 b' h1 h2 g1 g2
end Go.Proofs.Ytkjiiggboblioaa

/-
  makeRoom on a part of a value in memory of its own.
-/
namespace Go.Proofs.Ytkjiiggboblioaa
open Go.ChangeShapes Go.WideShapes Go.ChangeAt Go.RowKit
open Fl

theorem one_of_own {w : World} {n l : Nat} {its : List (V n)} {xs : List Value} {G : Nat → Nat → Prop} (hl : its.length = l) (hx : xs.length = l * 5) (h : Items (Own w n) its l xs G) : ∀ v ∈ xs, v.oneCell' = true := by
  intro v hv
  obtain ⟨j, hj⟩ := List.getElem?_of_mem hv
  have hjl : j < l * 5 := by have := (List.getElem?_eq_some_iff.1 hj).1; omega
  obtain ⟨c0, c1, c2, c3, c4, e0, e1, e2, e3, e4, hO⟩ := h (j / 5) (its[j / 5]'(by omega)) (by omega) (by simp)
  obtain ⟨k5, b5, t5, ka5, kl5, kc5, ia5, il5, ic5, rfl, rfl, rfl, rfl, rfl⟩ := Lay.five n (Own.lay n hO)
  have hm : j % 5 = 0 ∨ j % 5 = 1 ∨ j % 5 = 2 ∨ j % 5 = 3 ∨ j % 5 = 4 := by omega
  rcases hm with hm | hm | hm | hm | hm
  · have : j = j / 5 * 5 := by omega
    rw [← this, hj] at e0; cases e0; rfl
  · have : j = j / 5 * 5 + 1 := by omega
    rw [← this, hj] at e1; cases e1; rfl
  · have : j = j / 5 * 5 + 2 := by omega
    rw [← this, hj] at e2; cases e2; rfl
  · have : j = j / 5 * 5 + 3 := by omega
    rw [← this, hj] at e3; cases e3; rfl
  · have : j = j / 5 * 5 + 4 := by omega
    rw [← this, hj] at e4; cases e4; rfl

/-- Nothing, among deeper trees. -/
def nil5 (n : Nat) : V (n + 1) := (0, 0, ⟨#[]⟩, [], [])

theorem own_nil5 (w : World) (n : Nat) : Own w (n + 1) (mk 0 0 ⟨#[]⟩ none 0 0 none 0 0) (nil5 n) (fun _ => False) := by
  refine ⟨none, 0, none, 0, [], fun _ _ => False, rfl, ?_, by simp, World.ownsRow_nil _ _ _ _, World.ownsRow_nil _ _ _ _, by simp [Value.ownBlock], by simp [Value.ownBlock], fun i u hi => by simp at hi, fun i b hi => by simp at hi, fun i j b hi => by simp at hi⟩
  refine ⟨by omega, by omega, ?_, by simp, by simp, by simp, by simp, by simp, by simp⟩
  exact Nat.zero_le _

theorem ins_get {α : Type} (l : List α) (i : Nat) (a : α) (hi : i ≤ l.length) (j : Nat) : (ins l i a)[j]? = if j < i then l[j]? else if j = i then some a else l[j - 1]? := by
  unfold ins
  have hA : (l.take i).length = i := by rw [List.length_take]; omega
  by_cases h1 : j < i
  · rw [if_pos h1, List.getElem?_append_left (by omega), List.getElem?_take, if_pos h1]
  · rw [if_neg h1, List.getElem?_append_right (by omega), hA]
    by_cases h2 : j = i
    · subst h2; simp
    · rw [if_neg h2]
      obtain ⟨d, rfl⟩ : ∃ d, j = i + d + 1 := ⟨j - i - 1, by omega⟩
      have : i + d + 1 - i = d + 1 := by omega
      rw [this, List.getElem?_cons_succ, List.getElem?_drop]
      rfl

theorem ins_length {α : Type} (l : List α) (i : Nat) (a : α) (hi : i ≤ l.length) : (ins l i a).length = l.length + 1 := by
  unfold ins
  simp only [List.length_append, List.length_take, List.length_cons, List.length_drop]
  omega

theorem xs_ins (xs zs : List Value) (a m : Nat) (ha : a ≤ xs.length) (hz : zs.length = 5) : (xs.take a ++ zs ++ xs.drop a)[m]? = if m < a then xs[m]? else if m < a + 5 then zs[m - a]? else xs[m - 5]? := by
  have hA : (xs.take a).length = a := by rw [List.length_take]; omega
  by_cases h1 : m < a
  · rw [if_pos h1, List.append_assoc, List.getElem?_append_left (by omega), List.getElem?_take, if_pos h1]
  · rw [if_neg h1]
    by_cases h2 : m < a + 5
    · rw [if_pos h2, List.getElem?_append_left (by rw [List.length_append]; omega), List.getElem?_append_right (by omega), hA]
    · rw [if_neg h2, List.getElem?_append_right (by rw [List.length_append]; omega), List.length_append, hA, hz, List.getElem?_drop]
      congr 1
      omega

theorem items_ins {w w2 : World} {n a : Nat} {its : List (V (n + 1))} {xs : List Value} {G : Nat → Nat → Prop} (ha : a ≤ its.length) (hx : xs.length = its.length * 5) (h : Items (Own w (n + 1)) its its.length xs G) (hk : ∀ j b, j < its.length → G j b → w2.heap[b]? = w.heap[b]?) :
    Items (Own w2 (n + 1)) (ins its a (nil5 n)) (its.length + 1) (xs.take (a * 5) ++ zcells ++ xs.drop (a * 5)) (fun j b => if j < a then G j b else if j = a then False else G (j - 1) b) := by
  intro j u hj hu
  rw [ins_get _ _ _ ha] at hu
  have xi := fun m => xs_ins xs zcells (a * 5) m (by omega) rfl
  by_cases h1 : j < a
  · rw [if_pos h1] at hu
    obtain ⟨c0, c1, c2, c3, c4, e0, e1, e2, e3, e4, hO⟩ := h j u (by omega) hu
    refine ⟨c0, c1, c2, c3, c4, ?_, ?_, ?_, ?_, ?_, ?_⟩
    · rw [xi, if_pos (by omega)]; exact e0
    · rw [xi, if_pos (by omega)]; exact e1
    · rw [xi, if_pos (by omega)]; exact e2
    · rw [xi, if_pos (by omega)]; exact e3
    · rw [xi, if_pos (by omega)]; exact e4
    · simp only [if_pos h1]
      exact hO.same _ fun b hb => hk j b (by omega) hb
  · rw [if_neg h1] at hu
    by_cases h2 : j = a
    · subst h2
      rw [if_pos rfl] at hu
      cases hu
      refine ⟨.int .i64 0, .int .u64 0, .string ⟨#[]⟩, .slice none 0 0, .slice none 0 0, ?_, ?_, ?_, ?_, ?_, ?_⟩
      · rw [xi, if_neg (by omega), if_pos (by omega), show j * 5 - j * 5 = 0 by omega]; rfl
      · rw [xi, if_neg (by omega), if_pos (by omega), show j * 5 + 1 - j * 5 = 1 by omega]; rfl
      · rw [xi, if_neg (by omega), if_pos (by omega), show j * 5 + 2 - j * 5 = 2 by omega]; rfl
      · rw [xi, if_neg (by omega), if_pos (by omega), show j * 5 + 3 - j * 5 = 3 by omega]; rfl
      · rw [xi, if_neg (by omega), if_pos (by omega), show j * 5 + 4 - j * 5 = 4 by omega]; rfl
      · simp only [Nat.lt_irrefl, if_false, if_true]
        exact own_nil5 w2 n
    · rw [if_neg h2] at hu
      obtain ⟨c0, c1, c2, c3, c4, e0, e1, e2, e3, e4, hO⟩ := h (j - 1) u (by omega) hu
      refine ⟨c0, c1, c2, c3, c4, ?_, ?_, ?_, ?_, ?_, ?_⟩
      · rw [xi, if_neg (by omega), if_neg (by omega), show j * 5 - 5 = (j - 1) * 5 by omega]; exact e0
      · rw [xi, if_neg (by omega), if_neg (by omega), show j * 5 + 1 - 5 = (j - 1) * 5 + 1 by omega]; exact e1
      · rw [xi, if_neg (by omega), if_neg (by omega), show j * 5 + 2 - 5 = (j - 1) * 5 + 2 by omega]; exact e2
      · rw [xi, if_neg (by omega), if_neg (by omega), show j * 5 + 3 - 5 = (j - 1) * 5 + 3 by omega]; exact e3
      · rw [xi, if_neg (by omega), if_neg (by omega), show j * 5 + 4 - 5 = (j - 1) * 5 + 4 by omega]; exact e4
      · simp only [if_neg h1, if_neg h2]
        exact hO.same _ fun b hb => hk (j - 1) b (by omega) hb
end Go.Proofs.Ytkjiiggboblioaa
