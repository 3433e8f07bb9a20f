/-
  A row of keys of one's own: what is appended to it. A value of one's own: its rows.
-/
import Derived.Test.YtkjiiggboblioaaVaRow
import Derived.Test.YtkjiiggboblioaaVaMakeK
namespace Go.Proofs.Ytkjiiggboblioaa
open Go.ChangeShapes Go.WideShapes Go.ChangeAt Go.RowKit

/-- append of a key to keys of one's own. -/
theorem wpList_addK (w : World) {ops : Array Oper} {rest : List Oper} {o : Oper} {a : Act} {Q : Exit → Act → World → Prop} (hgd : o.guard = none) (s x : Operand)
    (hop : o.op = .call { callee := .builtin .append, args := #[s, x], argTypes := #[23, 23] })
    (v : Value) (ks : List ByteArray) (hs : a.eval s = v) (hK : OwnK w v ks) (key : ByteArray) (ad : Addr) (c : Nat) (hx : a.eval x = .slice (some ad) 1 c) (hnew : w.cell? (ad.add 0) = some (.string key)) (hlen : (ks.length + 1) * 16 ≤ 140737488355328)
    (h : ∀ v' w', OwnK w' v' (ks ++ [key]) → w.grownBy w' v.ownBlock → (v'.ownBlock = v.ownBlock ∨ ∀ g, v'.ownBlock = some g → w.heap.size ≤ g) → wpList Try.prog ops Q rest (a.put o.dst v') w') : wpList Try.prog ops Q (o :: rest) a w := by
  obtain ⟨i0, hi, hz0, hz1, hz2⟩ := info_parts Try.infoStr
  refine wpList_append_apart w hgd s x 23 hop 0 9 i0 _ 1 16 Try.underlying23 hi hz0 hz1 hz2 rfl (by decide) v ks.length (ks.map Value.string) hs hK (some ad) 1 c [.string key] hx (by simp) rfl ?_ ?_ (by unfold maxLen; omega) hlen (Nat.zero_le _) ?_
  · intro ad' e j u hj
    cases e
    match j, hj with
    | 0, hj => simp at hj; subst hj; exact hnew
    | j + 1, hj => simp at hj
  · intro u hu
    simp at hu
    subst hu
    rfl
  · intro v' w' q1 q2 q3
    refine h v' w' ?_ q2 q3
    unfold OwnK
    simpa using q1

/-- The same, as one step of a region whose order is open. -/
theorem step_addK {ops : Array Oper} {o : Oper} {a : Act} {w : World} {K : Act → World → Prop} {Q : Exit → Act → World → Prop} {E : Prop} (hgd : o.guard = none) (s x : Operand)
    (hop : o.op = .call { callee := .builtin .append, args := #[s, x], argTypes := #[23, 23] })
    (v : Value) (ks : List ByteArray) (hs : a.eval s = v) (hK : OwnK w v ks) (key : ByteArray) (ad : Addr) (c : Nat) (hx : a.eval x = .slice (some ad) 1 c) (hnew : w.cell? (ad.add 0) = some (.string key)) (hlen : (ks.length + 1) * 16 ≤ 140737488355328)
    (h : ∀ v' w', OwnK w' v' (ks ++ [key]) → w.grownBy w' v.ownBlock → (v'.ownBlock = v.ownBlock ∨ ∀ g, v'.ownBlock = some g → w.heap.size ≤ g) → K (a.put o.dst v') w') :
    if Region.wanted o (yielded ops a.tmps) = true then Oper.wp Try.prog o a w K Q else E := by
  obtain ⟨i0, hi, hz0, hz1, hz2⟩ := info_parts Try.infoStr
  refine step_append hgd s x 23 hop 0 9 i0 _ 1 16 Try.underlying23 hi hz0 hz1 hz2 rfl (by decide) v ks.length (ks.map Value.string) hs hK ad 1 c [.string key] hx rfl ?_ ?_ (by unfold maxLen; omega) hlen (Nat.zero_le _) ?_
  · intro j u hj
    match j, hj with
    | 0, hj => simp at hj; subst hj; exact hnew
    | j + 1, hj => simp at hj
  · intro u hu
    simp at hu
    subst hu
    rfl
  · intro v' w' q1 q2 q3
    refine h v' w' ?_ q2 q3
    unfold OwnK
    simpa using q1

/-- A new row's cells. -/
theorem cells_new (w : World) (cs : Array Value) (t : TypeId) (j : Nat) (v : Value) (h : cs[j]? = some v) : (w.alloc (.cells cs t)).cell? ((⟨w.heap.size, 0, none⟩ : Addr).add j) = some v := by
  rw [add_plain]
  have := heap_alloc_new w (.cells cs t)
  simp only [World.cell?, this]
  simpa using h

/-- The rows of a value of one's own. -/
theorem Own.split {w : World} {n : Nat} {k b : Int} {t : ByteArray} {ks : List ByteArray} {its : List (V n)} {x : Value} {F : Nat → Prop} (ho : Own w (n + 1) x (k, b, t, ks, its) F) :
    ∃ ka kc ia ic H, x = mk k b t ka ks.length kc ia its.length ic ∧ Fit k b t ks.length kc its.length ic ∧ (∀ s ∈ ks, s.size ≤ 140737488351232) ∧ OwnK w (.slice ka ks.length kc) ks ∧ OwnL w n (.slice ia its.length ic) its H ∧ (∀ b, H b → F b) ∧
      ∀ b, (Value.slice ka ks.length kc).ownBlock = some b → F b ∧ ¬ H b := by
  obtain ⟨ka, kc, ia, ic, xs, G, rfl, hfit, hs, hK, hI, fK, fI, hit, hG, hd⟩ := ho
  refine ⟨ka, kc, ia, ic, fun b => (Value.slice ia its.length ic).ownBlock = some b ∨ ∃ i, i < its.length ∧ G i b, rfl, hfit, hs, hK, ⟨xs, G, hI, hit, fun b hb => Or.inl hb, fun i b hi hb => ⟨Or.inr ⟨i, hi, hb⟩, (hG i b hi hb).2.2⟩, hd⟩, ?_, ?_⟩
  · rintro b (h | ⟨i, hi, h⟩)
    · exact fI b h
    · exact (hG i b hi h).1
  · intro b hb
    refine ⟨fK b hb, ?_⟩
    rintro (h | ⟨i, hi, h⟩)
    · exact ne_blocks hK hI b hb h
    · exact (hG i b hi h).2.1 hb
end Go.Proofs.Ytkjiiggboblioaa
