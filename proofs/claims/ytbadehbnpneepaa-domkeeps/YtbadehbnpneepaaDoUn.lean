/-
  A node's attributes laid anew in a row of one's own; the program's unset (what a patch 5 does).
-/
import Derived.Test.YtbadehbnpneepaaDoLess
namespace Go.Proofs.Ytbadehbnpneepaa
open Go.ChangeShapes Go.WideShapes Go.ChangeAt Go.RowKit Go.Deep
open Do

/-- A node with other attributes. -/
def Do.Nd.withAts (n : Nd) (l : List Atr) : Nd := { n with ats := l }

/-- What 5 does. -/
def Do.unsetD (s : Ds) (p : Pt) : Int × Ds := match pl s.nodes p.id with
  | none => (71, s)
  | some q => match s.nodes[q]? with
    | none => (71, s)
    | some n => if n.tag.size = 0 then (81, s) else if hasA n.ats p.name = true then (0, ⟨s.nodes.set q (n.withAts (lessA n.ats p.name)), s.root, s.next⟩) else (31, s)

theorem rowN_setA : ∀ (ns : List Nd) (ab kb : Nat → Value) (q : Nat) (n : Nd) (l : List Atr) (av : Value), ns[q]? = some n → (rowN ns ab kb).set (q * 7 + 5) av = rowN (ns.set q (n.withAts l)) (upd ab q av) kb
  | [], _, _, _, _, _, _, h => by simp at h
  | m :: r, ab, kb, 0, n, l, av, h => by
    simp only [List.getElem?_cons_zero, Option.some.injEq] at h
    subst h
    simp only [rowN, List.set_cons_zero, Nat.zero_mul, Nat.zero_add, upd_same]
    have e : rowN r (fun i => upd ab 0 av (i + 1)) (fun i => kb (i + 1)) = rowN r (fun i => ab (i + 1)) (fun i => kb (i + 1)) := rowN_congr r fun i _ => ⟨upd_other _ _ (by omega), rfl⟩
    rw [e, List.set_append_left _ _ (by rw [cellsN_length]; omega)]
    simp [cellsN, Nd.withAts]
  | m :: r, ab, kb, q + 1, n, l, av, h => by
    have ih := rowN_setA r (fun j => ab (j + 1)) (fun j => kb (j + 1)) q n l av (by simpa using h)
    simp only [rowN, List.set_cons_succ]
    have e1 : (q + 1) * 7 + 5 - 7 = q * 7 + 5 := by omega
    rw [List.set_append_right _ _ (by rw [cellsN_length]; omega), cellsN_length, e1, ih, upd_other _ _ (show (0 : Nat) ≠ q + 1 by omega)]
    congr 1
    refine rowN_congr _ fun j _ => ⟨?_, rfl⟩
    simp [upd]

theorem OwnN.setAts {w : World} {B g c l : Nat} {ns : List Nd} {ab kb : Nat → Value} (h : OwnN w B (.slice (some ⟨g, 0, none⟩) l c) ns ab kb) {q : Nat} {n : Nd} (hq : ns[q]? = some n) {av : Value} {ats : List Atr} (hA : OwnA w B av ats) (hk : ∀ s ∈ ats, s.1.size ≤ 140737488351232 ∧ s.2.size ≤ 140737488351232) (hkl : ats.length * 32 ≤ 140737488351232) (hap : ∀ j b, j < ns.length → av.ownBlock = some b → (ab j).ownBlock ≠ some b) :
    OwnN (w.setCell ⟨g, q * 7 + 5, none⟩ av) B (.slice (some ⟨g, 0, none⟩) l c) (ns.set q (n.withAts ats)) (upd ab q av) kb := by
  obtain ⟨cur, hcur⟩ := h.rowBlock
  have neA : ∀ {v : Value} {l : List Atr} {D : Nat}, OwnA w D v l → ∀ b, v.ownBlock = some b → b ≠ g := by
    rintro v l D hv b hb rfl
    obtain ⟨cu, hc, -⟩ := hv.block hb
    rw [hcur] at hc
    simp at hc
  have neK : ∀ {v : Value} {l : List Int} {D : Nat}, OwnZ w D v l → ∀ b, v.ownBlock = some b → b ≠ g := by
    rintro v l D hv b hb rfl
    obtain ⟨cu, hc, -⟩ := hv.block hb
    rw [hcur] at hc
    simp at hc
  have hlen : (ns.set q (n.withAts ats)).length = ns.length := by simp
  refine ⟨?_, ?_, ?_, ?_, ?_, ?_⟩
  · rw [hlen, ← rowN_setA ns ab kb q n ats av hq]
    exact ownsRow_set h.row _ _
  · intro i m hm
    rcases get_set_cases hm with ⟨rfl, rfl⟩ | ⟨hi, hm⟩
    · rw [upd_same]
      exact hA.same fun b hb => heap_set_other _ (neA hA b hb)
    · rw [upd_other _ _ hi]
      have ho := h.ats i m hm
      exact ho.same fun b hb => heap_set_other _ (neA ho b hb)
  · intro i m hm
    rcases get_set_cases hm with ⟨rfl, rfl⟩ | ⟨hi, hm⟩
    · have ho := h.kids i n hq
      exact ho.same fun b hb => heap_set_other _ (neK ho b hb)
    · have ho := h.kids i m hm
      exact ho.same fun b hb => heap_set_other _ (neK ho b hb)
  · rw [hlen]
    intro i j b hi hj hij hb1 hb2
    by_cases e : i = q
    · subst e
      rw [upd_same] at hb1
      rw [upd_other _ _ (by omega)] at hb2
      exact hap j b hj hb1 hb2
    · rw [upd_other _ _ e] at hb1
      by_cases e' : j = q
      · subst e'
        rw [upd_same] at hb2
        exact hap i b hi hb2 hb1
      · rw [upd_other _ _ e'] at hb2
        exact h.apa i j b hi hj hij hb1 hb2
  · rw [hlen]; exact h.apk
  · intro m hm
    rcases List.mem_or_eq_of_mem_set hm with hm | rfl
    · exact h.fit m hm
    · have hf := h.fit n (List.mem_of_getElem? hq)
      obtain ⟨n1, n2, n3, -, n5⟩ := hf.node
      exact ⟨hf.id, hf.par, ⟨n1, n2, n3, hkl, n5⟩, hk, hf.kids⟩

end Go.Proofs.Ytbadehbnpneepaa
