/-
  One attribute's value, one attribute more, among the attributes of a node of one's own.
-/
import Derived.Test.YtbadehbnpneepaaDoInsA
namespace Go.Proofs.Ytbadehbnpneepaa
open Go.ChangeShapes Go.WideShapes Go.ChangeAt Go.RowKit Go.Deep
open Do

theorem cellsA_set : ∀ (l : List Atr) (j : Nat) (s : Atr) (x : ByteArray), l[j]? = some s → (cellsA l).set (j * 2 + 1) (.string x) = cellsA (l.set j (s.1, x))
  | [], _, _, _, h => by simp at h
  | a :: r, 0, s, x, h => by
    simp only [List.getElem?_cons_zero, Option.some.injEq] at h
    subst h
    simp [cellsA]
  | a :: r, j + 1, s, x, h => by
    have ih := cellsA_set r j s x (by simpa using h)
    have e : (j + 1) * 2 = (j * 2 + 1) + 1 := by omega
    simp only [cellsA, List.set_cons_succ] at ih ⊢
    rw [← ih, e]
    simp

theorem OwnA.setV {w : World} {B g l c : Nat} {ats : List Atr} (h : OwnA w B (.slice (some ⟨g, 0, none⟩) l c) ats) {j : Nat} {s : Atr} (hj : ats[j]? = some s) (x : ByteArray) : OwnA (w.setCell ⟨g, j * 2 + 1, none⟩ (.string x)) B (.slice (some ⟨g, 0, none⟩) l c) (ats.set j (s.1, x)) := by
  unfold OwnA at h ⊢
  rw [List.length_set, ← cellsA_set ats j s x hj]
  exact ownsRow_set h _ _

/-- What stands beside the attributes of one node. -/
theorem OwnN.atsAt {w w' : World} {B g c l : Nat} {ns : List Nd} {ab kb : Nat → Value} (h : OwnN w B (.slice (some ⟨g, 0, none⟩) l c) ns ab kb) {q : Nat} (hq : q < ns.length) (hk : ∀ b, b < w.heap.size → (ab q).ownBlock ≠ some b → w'.heap[b]? = w.heap[b]?) :
    w'.ownsRow B 54 7 (.slice (some ⟨g, 0, none⟩) l c) ns.length (rowN ns ab kb) ∧ (∀ (i : Nat) (m : Nd), i ≠ q → ns[i]? = some m → OwnA w' B (ab i) m.ats) ∧ (∀ (i : Nat) (m : Nd), ns[i]? = some m → OwnZ w' B (kb i) m.kids) := by
  obtain ⟨cur, hcur⟩ := h.rowBlock
  have hA : ∀ b, (ab q).ownBlock = some b → ∃ cu : Array Value, w.heap[b]? = some (.cells cu 90 (0, 0)) := by
    intro b hb
    obtain ⟨cu, hc, -⟩ := (h.ats q ns[q] (List.getElem?_eq_getElem hq)).block hb
    exact ⟨cu, hc⟩
  refine ⟨?_, ?_, ?_⟩
  · refine ownsRow_same h.row fun b hb => hk b (h.foot (Or.inl hb)).2 ?_
    intro he
    obtain ⟨cu, hc⟩ := hA b he
    simp only [Value.ownBlock, Option.some.injEq] at hb
    subst hb
    rw [hcur] at hc
    simp at hc
  · intro i m hi hm
    have hlt : i < ns.length := (List.getElem?_eq_some_iff.1 hm).1
    exact (h.ats i m hm).same fun b hb => hk b (OwnA.rng (h.ats i m hm) hb).2 fun he => h.apa i q b hlt hq hi hb he
  · intro i m hm
    refine (h.kids i m hm).same fun b hb => hk b ((h.kids i m hm).lt b hb).2 ?_
    intro he
    obtain ⟨cu, hc⟩ := hA b he
    obtain ⟨cu', hc', -⟩ := (h.kids i m hm).block hb
    rw [hc] at hc'
    simp at hc'

theorem withAts_fit {n : Nd} {ats : List Atr} (hf : NdFit n) (hk : ∀ s ∈ ats, s.1.size ≤ 140737488351232 ∧ s.2.size ≤ 140737488351232) (hkl : ats.length * 32 ≤ 140737488351232) : NdFit (n.withAts ats) := by
  obtain ⟨n1, n2, n3, -, n5⟩ := hf.node
  exact ⟨hf.id, hf.par, ⟨n1, n2, n3, hkl, n5⟩, hk, hf.kids⟩

theorem upd_self (f : Nat → Value) (q : Nat) : upd f q (f q) = f := by
  funext i
  by_cases e : i = q
  · rw [e, upd_same]
  · exact upd_other _ _ e

theorem set_same {l : List Value} {i : Nat} {v : Value} (h : l[i]? = some v) : l.set i v = l := by
  obtain ⟨hlt, rfl⟩ := List.getElem?_eq_some_iff.1 h
  exact List.set_getElem_self hlt

/-- One value of one attribute set. -/
theorem OwnN.setVal {w : World} {B g c l a al ac : Nat} {ns : List Nd} {ab kb : Nat → Value} (h : OwnN w B (.slice (some ⟨g, 0, none⟩) l c) ns ab kb) {q : Nat} {n : Nd} (hq : ns[q]? = some n) (hab : ab q = .slice (some ⟨a, 0, none⟩) al ac) {j : Nat} {s : Atr} (hj : n.ats[j]? = some s) {x : ByteArray} (hx : x.size ≤ 140737488351232) :
    OwnN (w.setCell ⟨a, j * 2 + 1, none⟩ (.string x)) B (.slice (some ⟨g, 0, none⟩) l c) (ns.set q (n.withAts (n.ats.set j (s.1, x)))) ab kb := by
  have hql : q < ns.length := (List.getElem?_eq_some_iff.1 hq).1
  obtain ⟨h1, h2, h3⟩ := h.atsAt (w' := w.setCell ⟨a, j * 2 + 1, none⟩ (.string x)) hql (fun b _ hne => heap_set_other _ (fun e => hne (by rw [hab, e]; rfl)))
  have hO := h.ats q n hq
  rw [hab] at hO
  have hV := hO.setV hj x
  have hf := h.fit n (List.mem_of_getElem? hq)
  have hlen : (ns.set q (n.withAts (n.ats.set j (s.1, x)))).length = ns.length := by simp
  have hrow : rowN (ns.set q (n.withAts (n.ats.set j (s.1, x)))) ab kb = rowN ns ab kb := by
    have e := rowN_setA ns ab kb q n (n.ats.set j (s.1, x)) (ab q) hq
    rw [upd_self] at e
    rw [← e]
    exact set_same (by rw [rowN_at hq (by omega)]; rfl)
  refine ⟨by rw [hlen, hrow]; exact h1, ?_, ?_, by rw [hlen]; exact h.apa, by rw [hlen]; exact h.apk, ?_⟩
  · intro i m hm
    rcases get_set_cases hm with ⟨rfl, rfl⟩ | ⟨hi, hm⟩
    · rw [hab]; exact hV
    · exact h2 i m hi hm
  · intro i m hm
    rcases get_set_cases hm with ⟨rfl, rfl⟩ | ⟨hi, hm⟩
    · exact h3 i n hq
    · exact h3 i m hm
  · intro m hm
    rcases List.mem_or_eq_of_mem_set hm with hm | rfl
    · exact h.fit m hm
    · refine withAts_fit hf ?_ (by rw [List.length_set]; exact hf.node.2.2.2.1)
      intro y hy
      rcases List.mem_or_eq_of_mem_set hy with hy | rfl
      · exact hf.atr y hy
      · exact ⟨(hf.atr s (List.mem_of_getElem? hj)).1, hx⟩

/-- One attribute more, by a row that stays in its block or is new. -/
theorem OwnN.insA {w w' : World} {B g c l : Nat} {ns : List Nd} {ab kb : Nat → Value} (h : OwnN w B (.slice (some ⟨g, 0, none⟩) l c) ns ab kb) {q : Nat} {n : Nd} (hq : ns[q]? = some n) (hg : w.grownBy w' (ab q).ownBlock) {v' : Value} {ats : List Atr} (hv : v'.ownBlock = (ab q).ownBlock ∨ ∀ b, v'.ownBlock = some b → w.heap.size ≤ b) (hA : OwnA w' B v' ats) (hk : ∀ s ∈ ats, s.1.size ≤ 140737488351232 ∧ s.2.size ≤ 140737488351232) (hkl : ats.length * 32 ≤ 140737488351232) :
    w'.ownsRow B 54 7 (.slice (some ⟨g, 0, none⟩) l c) ns.length (rowN ns ab kb) ∧ OwnN (w'.setCell ⟨g, q * 7 + 5, none⟩ v') B (.slice (some ⟨g, 0, none⟩) l c) (ns.set q (n.withAts ats)) (upd ab q v') kb := by
  have hql : q < ns.length := (List.getElem?_eq_some_iff.1 hq).1
  obtain ⟨h1, h2, h3⟩ := h.atsAt (w' := w') hql (fun b hb hne => hg.block b hb (fun e => hne e.symm))
  have hf := h.fit n (List.mem_of_getElem? hq)
  have hlen : (ns.set q (n.withAts ats)).length = ns.length := by simp
  obtain ⟨cur, hcur⟩ : ∃ cur, w'.heap[g]? = some (.cells cur 54 (0, 0)) := by
    rcases h1.2 with ⟨e, -⟩ | ⟨g', cap, cur, e, _, e2, -⟩
    · simp at e
    · simp only [Value.slice.injEq, Option.some.injEq, Addr.mk.injEq, and_true] at e
      obtain ⟨rfl, -, -⟩ := e
      exact ⟨cur, e2⟩
  have neA : ∀ {v : Value} {l : List Atr} {D : Nat}, OwnA w' D v l → ∀ b, v.ownBlock = some b → b ≠ g := by
    rintro v l D hv b hb rfl
    obtain ⟨cu, hc, -⟩ := hv.block hb
    rw [hcur] at hc
    simp at hc
  have neK : ∀ {v : Value} {l : List Int} {D : Nat}, OwnZ w' D v l → ∀ b, v.ownBlock = some b → b ≠ g := by
    rintro v l D hv b hb rfl
    obtain ⟨cu, hc, -⟩ := hv.block hb
    rw [hcur] at hc
    simp at hc
  have hap : ∀ j b, j < ns.length → j ≠ q → v'.ownBlock = some b → (ab j).ownBlock ≠ some b := by
    intro j b hj hjq hb1 hb2
    rcases hv with e | e
    · rw [e] at hb1
      exact h.apa j q b hj hql hjq hb2 hb1
    · have h4 := e b hb1
      have h5 := (OwnA.rng (h.ats j ns[j] (List.getElem?_eq_getElem hj)) hb2).2
      omega
  refine ⟨h1, ⟨?_, ?_, ?_, ?_, ?_, ?_⟩⟩
  · rw [hlen, ← rowN_setA ns ab kb q n ats v' hq]
    exact ownsRow_set h1 _ _
  · intro i m hm
    rcases get_set_cases hm with ⟨rfl, rfl⟩ | ⟨hi, hm⟩
    · rw [upd_same]
      exact hA.same fun b hb => heap_set_other _ (neA hA b hb)
    · rw [upd_other _ _ hi]
      exact (h2 i m hi hm).same fun b hb => heap_set_other _ (neA (h2 i m hi hm) b hb)
  · intro i m hm
    rcases get_set_cases hm with ⟨rfl, rfl⟩ | ⟨hi, hm⟩
    · exact (h3 i n hq).same fun b hb => heap_set_other _ (neK (h3 i n hq) b hb)
    · exact (h3 i m hm).same fun b hb => heap_set_other _ (neK (h3 i m hm) b hb)
  · rw [hlen]
    intro i j b hi hj hij hb1 hb2
    by_cases e : i = q
    · subst e
      rw [upd_same] at hb1
      rw [upd_other _ _ (by omega)] at hb2
      exact hap j b hj (by omega) hb1 hb2
    · rw [upd_other _ _ e] at hb1
      by_cases e' : j = q
      · subst e'
        rw [upd_same] at hb2
        exact hap i b hi e hb2 hb1
      · rw [upd_other _ _ e'] at hb2
        exact h.apa i j b hi hj hij hb1 hb2
  · rw [hlen]; exact h.apk
  · intro m hm
    rcases List.mem_or_eq_of_mem_set hm with hm | rfl
    · exact h.fit m hm
    · exact withAts_fit hf hk hkl
end Go.Proofs.Ytbadehbnpneepaa
