/-
  A row of values, each in memory of its own: what is appended to it; a part made of it.
-/
import Derived.Test.YtndclldicdfmeaaGreatVaCopy
import Derived.Test.YtndclldicdfmeaaGreatVaStep
namespace Go.Proofs.YtndclldicdfmeaaGreat
open Go.ChangeShapes Go.WideShapes Go.ChangeAt Go.RowKit

/-- A row of values of one's own, in the blocks H. -/
def OwnL (w : World) (n : Nat) (v : Value) (its : List (V n)) (H : Nat → Prop) : Prop :=
  ∃ xs G, w.ownsRow 0 29 5 v its.length xs ∧ Items (Own w n) its its.length xs G ∧ (∀ b, v.ownBlock = some b → H b) ∧ (∀ i b, i < its.length → G i b → H b ∧ v.ownBlock ≠ some b) ∧ (∀ i j b, i < its.length → j < its.length → G i b → G j b → i = j)

theorem OwnL.nil (w : World) (n : Nat) : OwnL w n (.slice none 0 0) [] (fun _ => False) :=
  ⟨[], fun _ _ => False, World.ownsRow_nil _ _ _ _, fun i _ hi => by simp at hi, fun b hb => by simp [Value.ownBlock] at hb, fun i b hi => by simp at hi, fun i j b hi => by simp at hi⟩

theorem OwnL.same {w w' : World} {n : Nat} {v : Value} {its : List (V n)} {H : Nat → Prop} (h : OwnL w n v its H) (hk : ∀ b, H b → w'.heap[b]? = w.heap[b]?) : OwnL w' n v its H := by
  obtain ⟨xs, G, h1, h2, h3, h4, h5⟩ := h
  refine ⟨xs, G, ownsRow_same h1 fun g hg => hk g (h3 g hg), ?_, h3, h4, h5⟩
  intro i u hi hu
  obtain ⟨c0, c1, c2, c3, c4, e0, e1, e2, e3, e4, ho⟩ := h2 i u hi hu
  exact ⟨c0, c1, c2, c3, c4, e0, e1, e2, e3, e4, ho.same n fun b hb => hk b (h4 i b hi hb).1⟩

theorem OwnL.more {w : World} {n : Nat} {v : Value} {its : List (V n)} {H H' : Nat → Prop} (h : OwnL w n v its H) (hH : ∀ b, H b → H' b) : OwnL w n v its H' := by
  obtain ⟨xs, G, h1, h2, h3, h4, h5⟩ := h
  exact ⟨xs, G, h1, h2, fun b hb => hH b (h3 b hb), fun i b hi hb => ⟨hH b (h4 i b hi hb).1, (h4 i b hi hb).2⟩, h5⟩

theorem OwnL.shape {w : World} {n : Nat} {v : Value} {its : List (V n)} {H : Nat → Prop} (h : OwnL w n v its H) : ∃ a c, v = .slice a its.length c := by
  obtain ⟨xs, G, h1, _⟩ := h
  exact slice_of_own h1

theorem OwnL.lt {w : World} {n : Nat} {v : Value} {its : List (V n)} {H : Nat → Prop} (h : OwnL w n v its H) : ∀ b, v.ownBlock = some b → H b ∧ b < w.heap.size := by
  obtain ⟨xs, G, h1, h2, h3, _⟩ := h
  exact fun b hb => ⟨h3 b hb, (h1.lt b hb).2⟩

/-- One more item. -/
theorem OwnL.push {w w2 : World} {n : Nat} {v v' : Value} {its : List (V n)} {H F : Nat → Prop} {u : V n} {c0 c1 c2 c3 c4 : Value} {xs : List Value} {G : Nat → Nat → Prop}
    (h1 : w.ownsRow 0 29 5 v its.length xs) (h2 : Items (Own w n) its its.length xs G) (h3 : ∀ b, v.ownBlock = some b → H b) (h4 : ∀ i b, i < its.length → G i b → H b ∧ v.ownBlock ≠ some b) (h5 : ∀ i j b, i < its.length → j < its.length → G i b → G j b → i = j)
    (ho : Own w n (.agg #[c0, c1, c2, c3, c4]) u F) (hF : ∀ b, F b → ¬ H b) (hH : ∀ b, H b → b < w.heap.size) (hFl : ∀ b, F b → b < w.heap.size)
    (hown : w2.ownsRow 0 29 5 v' (its.length + 1) (xs ++ [c0, c1, c2, c3, c4])) (hg : w.grownBy w2 v.ownBlock) (hv' : v'.ownBlock = v.ownBlock ∨ ∀ g, v'.ownBlock = some g → w.heap.size ≤ g) :
    OwnL w2 n v' (its ++ [u]) (fun b => H b ∨ F b ∨ v'.ownBlock = some b) := by
  have hl : (its ++ [u]).length = its.length + 1 := by simp
  have q := getElem?_five (c0 := c0) (c1 := c1) (c2 := c2) (c3 := c3) (c4 := c4) h1.1
  have hxl := h1.1
  have nv : ∀ b, b < w.heap.size → v.ownBlock ≠ some b → v'.ownBlock ≠ some b := fun b hb hn e => by
    rcases hv' with e' | e'
    · exact hn (by rw [← e']; exact e)
    · have := e' b e; omega
  refine ⟨xs ++ [c0, c1, c2, c3, c4], fun i b => if i = its.length then F b else G i b, by rw [hl]; exact hown, ?_, fun b hb => Or.inr (Or.inr hb), ?_, ?_⟩
  · intro i u' hi hu'
    rw [hl] at hi
    by_cases him : i = its.length
    · subst him
      have e : u = u' := by simpa using hu'
      subst e
      refine ⟨c0, c1, c2, c3, c4, q.1, q.2.1, q.2.2.1, q.2.2.2.1, q.2.2.2.2, ?_⟩
      simp only [if_true]
      exact ho.same n fun b hb => hg.block b (hFl b hb) fun e => hF b hb (h3 b e.symm)
    · rw [List.getElem?_append_left (by omega)] at hu'
      obtain ⟨d0, d1, d2, d3, d4, e0, e1, e2, e3, e4, hO⟩ := h2 i u' (by omega) hu'
      refine ⟨d0, d1, d2, d3, d4, ?_, ?_, ?_, ?_, ?_, ?_⟩
      · rw [List.getElem?_append_left (by omega)]; exact e0
      · rw [List.getElem?_append_left (by omega)]; exact e1
      · rw [List.getElem?_append_left (by omega)]; exact e2
      · rw [List.getElem?_append_left (by omega)]; exact e3
      · rw [List.getElem?_append_left (by omega)]; exact e4
      · simp only [him, if_false]
        exact hO.same n fun b hb => hg.block b (hH b (h4 i b (by omega) hb).1) fun e => (h4 i b (by omega) hb).2 e.symm
  · intro i b hi hGi
    rw [hl] at hi
    by_cases him : i = its.length
    · simp only [him, if_true] at hGi
      exact ⟨Or.inr (Or.inl hGi), nv b (hFl b hGi) fun e => hF b hGi (h3 b e)⟩
    · simp only [him, if_false] at hGi
      have := h4 i b (by omega) hGi
      exact ⟨Or.inl this.1, nv b (hH b this.1) this.2⟩
  · intro i j b hi hj hGi hGj
    rw [hl] at hi hj
    by_cases him : i = its.length <;> by_cases hjm : j = its.length
    · omega
    · simp only [him, if_true] at hGi
      simp only [hjm, if_false] at hGj
      exact absurd (h4 j b (by omega) hGj).1 (hF b hGi)
    · simp only [him, if_false] at hGi
      simp only [hjm, if_true] at hGj
      exact absurd (h4 i b (by omega) hGi).1 (hF b hGj)
    · simp only [him, if_false] at hGi
      simp only [hjm, if_false] at hGj
      exact h5 i j b (by omega) (by omega) hGi hGj

theorem Own.ones (n : Nat) {w : World} {c0 c1 c2 c3 c4 : Value} {u : V n} {F : Nat → Prop} (h : Own w n (.agg #[c0, c1, c2, c3, c4]) u F) : ∀ v ∈ [c0, c1, c2, c3, c4], v.oneCell' = true := by
  obtain ⟨k, b, t, ka, kl, kc, ia, il, ic, ex⟩ := Lay.shape n (Own.lay n h)
  simp only [mk, Value.agg.injEq, Array.mk.injEq, List.cons.injEq] at ex
  obtain ⟨rfl, rfl, rfl, rfl, rfl, -⟩ := ex
  intro v hv
  simp at hv
  rcases hv with rfl | rfl | rfl | rfl | rfl <;> rfl

/-- append of an item of one's own to a row of one's own. -/
theorem wpList_push (w : World) {ops : Array Oper} {rest : List Oper} {o : Oper} {a : Act} {Q : Exit → Act → World → Prop} (hgd : o.guard = none) (s x : Operand)
    (hop : o.op = .call { callee := .builtin .append, args := #[s, x], argTypes := #[27, 27] })
    {n : Nat} (v : Value) (its : List (V n)) (H : Nat → Prop) (hs : a.eval s = v) (hL : OwnL w n v its H) (u : V n) (F : Nat → Prop) (c0 c1 c2 c3 c4 : Value) (ho : Own w n (.agg #[c0, c1, c2, c3, c4]) u F) (hF : ∀ b, F b → ¬ H b) (hH : ∀ b, H b → b < w.heap.size) (hFl : ∀ b, F b → b < w.heap.size)
    (ad : Addr) (c : Nat) (hx : a.eval x = .slice (some ad) 1 c) (hnews : ∀ j u, ([c0, c1, c2, c3, c4] : List Value)[j]? = some u → w.cell? (ad.add j) = some u) (hlen : (its.length + 1) * 80 ≤ 140737488355328)
    (h : ∀ v' w', OwnL w' n v' (its ++ [u]) (fun b => H b ∨ F b ∨ v'.ownBlock = some b) → w.grownBy w' v.ownBlock → (v'.ownBlock = v.ownBlock ∨ ∀ g, v'.ownBlock = some g → w.heap.size ≤ g) → wpList Tryz.prog ops Q rest (a.put o.dst v') w') : wpList Tryz.prog ops Q (o :: rest) a w := by
  obtain ⟨xs, G, h1, h2, h3, h4, h5⟩ := hL
  obtain ⟨i0, hi, hz0, hz1, hz2⟩ := info_parts Tryz.infoVal
  refine wpList_append_apart w hgd s x 27 hop 0 29 i0 _ 5 80 Tryz.underlying27 hi hz0 hz1 hz2 rfl (by decide) v its.length xs hs h1 (some ad) 1 c [c0, c1, c2, c3, c4] hx (by simp) rfl ?_ (Own.ones n ho) (by unfold maxLen; omega) hlen (Nat.zero_le _) ?_
  · intro ad' e
    cases e
    exact hnews
  · intro v' w' q1 q2 q3
    exact h v' w' (OwnL.push h1 h2 h3 h4 h5 ho hF hH hFl q1 q2 q3) q2 q3

/-- The same, as one step of a region whose order is open. -/
theorem step_push {ops : Array Oper} {o : Oper} {a : Act} {w : World} {K : Act → World → Prop} {Q : Exit → Act → World → Prop} {E : Prop} (hgd : o.guard = none) (s x : Operand)
    (hop : o.op = .call { callee := .builtin .append, args := #[s, x], argTypes := #[27, 27] })
    {n : Nat} (v : Value) (its : List (V n)) (H : Nat → Prop) (hs : a.eval s = v) (hL : OwnL w n v its H) (u : V n) (F : Nat → Prop) (c0 c1 c2 c3 c4 : Value) (ho : Own w n (.agg #[c0, c1, c2, c3, c4]) u F) (hF : ∀ b, F b → ¬ H b) (hH : ∀ b, H b → b < w.heap.size) (hFl : ∀ b, F b → b < w.heap.size)
    (ad : Addr) (c : Nat) (hx : a.eval x = .slice (some ad) 1 c) (hnews : ∀ j u, ([c0, c1, c2, c3, c4] : List Value)[j]? = some u → w.cell? (ad.add j) = some u) (hlen : (its.length + 1) * 80 ≤ 140737488355328)
    (h : ∀ v' w', OwnL w' n v' (its ++ [u]) (fun b => H b ∨ F b ∨ v'.ownBlock = some b) → w.grownBy w' v.ownBlock → (v'.ownBlock = v.ownBlock ∨ ∀ g, v'.ownBlock = some g → w.heap.size ≤ g) → K (a.put o.dst v') w') :
    if Region.wanted o (yielded ops a.tmps) = true then Oper.wp Tryz.prog o a w K Q else E := by
  obtain ⟨xs, G, h1, h2, h3, h4, h5⟩ := hL
  obtain ⟨i0, hi, hz0, hz1, hz2⟩ := info_parts Tryz.infoVal
  refine step_append hgd s x 27 hop 0 29 i0 _ 5 80 Tryz.underlying27 hi hz0 hz1 hz2 rfl (by decide) v its.length xs hs h1 ad 1 c [c0, c1, c2, c3, c4] hx rfl hnews (Own.ones n ho) (by unfold maxLen; omega) hlen (Nat.zero_le _) ?_
  intro v' w' q1 q2 q3
  exact h v' w' (OwnL.push h1 h2 h3 h4 h5 ho hF hH hFl q1 q2 q3) q2 q3

/-- Keys of one's own. -/
def OwnK (w : World) (v : Value) (ks : List ByteArray) : Prop := w.ownsRow 0 9 1 v ks.length (ks.map Value.string)

theorem OwnK.nil (w : World) : OwnK w (.slice none 0 0) [] := World.ownsRow_nil _ _ _ _
theorem OwnK.same {w w' : World} {v : Value} {ks : List ByteArray} (h : OwnK w v ks) (hk : ∀ b, v.ownBlock = some b → w'.heap[b]? = w.heap[b]?) : OwnK w' v ks := ownsRow_same h hk
theorem OwnK.shape {w : World} {v : Value} {ks : List ByteArray} (h : OwnK w v ks) : ∃ a c, v = .slice a ks.length c := slice_of_own h

/-- A part of keys and items of one's own. -/
theorem OwnL.part {w : World} {n : Nat} {k b : Int} {t : ByteArray} {ka ia : Option Addr} {kc ic : Nat} {ks : List ByteArray} {its : List (V n)} {H : Nat → Prop} (hL : OwnL w n (.slice ia its.length ic) its H) (hK : OwnK w (.slice ka ks.length kc) ks)
    (hk : ∀ b, (Value.slice ka ks.length kc).ownBlock = some b → ¬ H b) (h1 : -9223372036854775808 ≤ k ∧ k ≤ 9223372036854775807) (h2 : 0 ≤ b ∧ b < 18446744073709551616) (h3 : t.size ≤ 140737488351232) (h4 : ks.length * 16 ≤ 140737488351232) (h5 : its.length * 80 ≤ 140737488351232) (h6 : ∀ s ∈ ks, s.size ≤ 140737488351232) :
    Own w (n + 1) (mk k b t ka ks.length kc ia its.length ic) (k, b, t, ks, its) (fun g => H g ∨ (Value.slice ka ks.length kc).ownBlock = some g) := by
  obtain ⟨xs, G, g1, g2, g3, g4, g5⟩ := hL
  have cK := cap_of_own hK
  have cI := cap_of_own g1
  refine ⟨ka, kc, ia, ic, xs, G, rfl, ⟨h1, h2, h3, cK.1, cK.2, h4, cI.1, cI.2, h5⟩, h6, hK, g1, fun b hb => Or.inr hb, fun b hb => Or.inl (g3 b hb), g2, ?_, g5⟩
  intro i g hi hg
  have := g4 i g hi hg
  exact ⟨Or.inl this.1, fun e => hk g e this.1, this.2⟩
end Go.Proofs.YtndclldicdfmeaaGreat
