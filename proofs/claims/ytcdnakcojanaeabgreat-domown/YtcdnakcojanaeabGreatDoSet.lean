/-
  A node's kids, a node's parent laid anew in a row of one's own; the program's takeOff.
-/
import Derived.Test.YtcdnakcojanaeabGreatDoRoot
namespace Go.Proofs.YtcdnakcojanaeabGreat
open Go.ChangeShapes Go.WideShapes Go.ChangeAt Go.RowKit Go.Deep
open Do

/-- A node with other kids; with another parent. -/
def Do.Nd.withKids (n : Nd) (ks : List Int) : Nd := { n with kids := ks }
def Do.Nd.withPar (n : Nd) (x : Int) : Nd := { n with par := x }

theorem rowN_setK : ∀ (ns : List Nd) (ab kb : Nat → Value) (q : Nat) (n : Nd) (ks : List Int) (kv : Value), ns[q]? = some n → (rowN ns ab kb).set (q * 7 + 6) kv = rowN (ns.set q (n.withKids ks)) ab (upd kb q kv)
  | [], _, _, _, _, _, _, h => by simp at h
  | m :: r, ab, kb, 0, n, ks, kv, h => by
    simp only [List.getElem?_cons_zero, Option.some.injEq] at h
    subst h
    simp only [rowN, List.set_cons_zero, Nat.zero_mul, Nat.zero_add, upd_same]
    have e : rowN r (fun i => ab (i + 1)) (fun i => upd kb 0 kv (i + 1)) = rowN r (fun i => ab (i + 1)) (fun i => kb (i + 1)) := rowN_congr r fun i _ => ⟨rfl, upd_other _ _ (by omega)⟩
    rw [e, List.set_append_left _ _ (by rw [cellsN_length]; omega)]
    simp [cellsN, Nd.withKids]
  | m :: r, ab, kb, q + 1, n, ks, kv, h => by
    have ih := rowN_setK r (fun j => ab (j + 1)) (fun j => kb (j + 1)) q n ks kv (by simpa using h)
    simp only [rowN, List.set_cons_succ]
    have e1 : (q + 1) * 7 + 6 - 7 = q * 7 + 6 := by omega
    rw [List.set_append_right _ _ (by rw [cellsN_length]; omega), cellsN_length, e1, ih, upd_other _ _ (show (0 : Nat) ≠ q + 1 by omega)]
    congr 1
    refine rowN_congr _ fun j _ => ⟨rfl, ?_⟩
    simp [upd]

theorem rowN_setP : ∀ (ns : List Nd) (ab kb : Nat → Value) (q : Nat) (n : Nd) (x : Int), ns[q]? = some n → (rowN ns ab kb).set (q * 7 + 1) (.int .i64 x) = rowN (ns.set q (n.withPar x)) ab kb
  | [], _, _, _, _, _, h => by simp at h
  | m :: r, ab, kb, 0, n, x, h => by
    simp only [List.getElem?_cons_zero, Option.some.injEq] at h
    subst h
    simp only [rowN, List.set_cons_zero, Nat.zero_mul, Nat.zero_add]
    rw [List.set_append_left _ _ (by rw [cellsN_length]; omega)]
    simp [cellsN, Nd.withPar]
  | m :: r, ab, kb, q + 1, n, x, h => by
    have ih := rowN_setP r (fun j => ab (j + 1)) (fun j => kb (j + 1)) q n x (by simpa using h)
    simp only [rowN, List.set_cons_succ]
    have e1 : (q + 1) * 7 + 1 - 7 = q * 7 + 1 := by omega
    rw [List.set_append_right _ _ (by rw [cellsN_length]; omega), cellsN_length, e1, ih]

/-- The row's block. -/
theorem OwnN.rowBlock {w : World} {B g l c : Nat} {ns : List Nd} {ab kb : Nat → Value} (h : OwnN w B (.slice (some ⟨g, 0, none⟩) l c) ns ab kb) : ∃ cur, w.heap[g]? = some (.cells cur 41 (0, 0)) := by
  rcases h.row.2 with ⟨q, -⟩ | ⟨g', cap, cur, q, _, q2, -⟩
  · simp at q
  · simp only [Value.slice.injEq, Option.some.injEq, Addr.mk.injEq, and_true] at q
    obtain ⟨rfl, -, -⟩ := q
    exact ⟨cur, q2⟩

theorem get_set_cases {α : Type} {l : List α} {q i : Nat} {x m : α} (h : (l.set q x)[i]? = some m) : (i = q ∧ m = x) ∨ (i ≠ q ∧ l[i]? = some m) := by
  by_cases e : i = q
  · subst e
    have hlt : i < l.length := by
      have := (List.getElem?_eq_some_iff.1 h).1
      simpa using this
    rw [List.getElem?_set_self hlt] at h
    exact Or.inl ⟨rfl, (Option.some.inj h).symm⟩
  · rw [List.getElem?_set_ne (fun e' => e e'.symm)] at h
    exact Or.inr ⟨e, h⟩

theorem OwnN.setK {w w2 : World} {B g c l : Nat} {ns : List Nd} {ab kb : Nat → Value} (h : OwnN w B (.slice (some ⟨g, 0, none⟩) l c) ns ab kb) (hb : Below w.heap.size w w2) (hB : B ≤ w.heap.size) {q : Nat} {n : Nd} (hq : ns[q]? = some n) {kv : Value} {ks : List Int} (hK : OwnZ w2 w.heap.size kv ks) (hk : I64 ks ∧ ks.length * 8 ≤ 140737488351232) :
    OwnN (w2.setCell ⟨g, q * 7 + 6, none⟩ kv) B (.slice (some ⟨g, 0, none⟩) l c) (ns.set q (n.withKids ks)) ab (upd kb q kv) := by
  have h' := h.below hb
  obtain ⟨cur, hcur⟩ := h'.rowBlock
  have neA : ∀ {v : Value} {l : List Atr} {D : Nat}, OwnA w2 D v l → ∀ b, v.ownBlock = some b → b ≠ g := by
    rintro v l D hv b hb rfl
    obtain ⟨cu, hc, -⟩ := hv.block hb
    rw [hcur] at hc
    simp at hc
  have neK : ∀ {v : Value} {l : List Int} {D : Nat}, OwnZ w2 D v l → ∀ b, v.ownBlock = some b → b ≠ g := by
    rintro v l D hv b hb rfl
    obtain ⟨cu, hc, -⟩ := hv.block hb
    rw [hcur] at hc
    simp at hc
  have hK' : OwnZ w2 B kv ks := hK.less hB
  have hlen : (ns.set q (n.withKids ks)).length = ns.length := by simp
  refine ⟨?_, ?_, ?_, ?_, ?_, ?_⟩
  · rw [hlen, ← rowN_setK ns ab kb q n ks kv hq]
    exact ownsRow_set h'.row _ _
  · intro i m hm
    rcases get_set_cases hm with ⟨rfl, rfl⟩ | ⟨hi, hm⟩
    · have ho := h'.ats i n hq
      exact ho.same fun b hb => heap_set_other _ (neA ho b hb)
    · have ho := h'.ats i m hm
      exact ho.same fun b hb => heap_set_other _ (neA ho b hb)
  · intro i m hm
    rcases get_set_cases hm with ⟨rfl, rfl⟩ | ⟨hi, hm⟩
    · rw [upd_same]
      exact hK'.same fun b hb => heap_set_other _ (neK hK' b hb)
    · rw [upd_other _ _ hi]
      have ho := h'.kids i m hm
      exact ho.same fun b hb => heap_set_other _ (neK ho b hb)
  · rw [hlen]; exact h.apa
  · rw [hlen]
    intro i j b hi hj hij hb1 hb2
    have old : ∀ m, m < ns.length → (kb m).ownBlock = some b → b < w.heap.size := fun m hm h1 => ((h.kids m ns[m] (List.getElem?_eq_getElem hm)).lt b h1).2
    by_cases e : i = q
    · subst e
      rw [upd_same] at hb1
      rw [upd_other _ _ (by omega)] at hb2
      have h1 := (hK.lt b hb1).1
      have h2 := old j hj hb2
      omega
    · rw [upd_other _ _ e] at hb1
      by_cases e' : j = q
      · subst e'
        rw [upd_same] at hb2
        have h1 := (hK.lt b hb2).1
        have h2 := old i hi hb1
        omega
      · rw [upd_other _ _ e'] at hb2
        exact h.apk i j b hi hj hij hb1 hb2
  · intro m hm
    rcases List.mem_or_eq_of_mem_set hm with hm | rfl
    · exact h.fit m hm
    · have hf := h.fit n (List.mem_of_getElem? hq)
      exact ⟨hf.id, hf.par, hf.node, hf.atr, hk⟩

theorem OwnN.setKids {w : World} {B g c l : Nat} {ns : List Nd} {ab kb : Nat → Value} (h : OwnN w B (.slice (some ⟨g, 0, none⟩) l c) ns ab kb) {q : Nat} {n : Nd} (hq : ns[q]? = some n) {kv : Value} {ks : List Int} (hK : OwnZ w B kv ks) (hk : I64 ks ∧ ks.length * 8 ≤ 140737488351232) (hap : ∀ j b, j < ns.length → kv.ownBlock = some b → (kb j).ownBlock ≠ some b) :
    OwnN (w.setCell ⟨g, q * 7 + 6, none⟩ kv) B (.slice (some ⟨g, 0, none⟩) l c) (ns.set q (n.withKids ks)) ab (upd kb q kv) := by
  obtain ⟨cur, hcur⟩ := h.rowBlock
  have neA : ∀ {v : Value} {l : List Atr} {D : Nat}, OwnA w D v l → ∀ b, v.ownBlock = some b → b ≠ g := by
    rintro v l D hv b hb rfl
    obtain ⟨cu, hc, -⟩ := hv.block hb
    rw [hcur] at hc
    simp at hc
  have neK : ∀ {v : Value} {l : List Int} {D : Nat}, OwnZ w D v l → ∀ b, v.ownBlock = some b → b ≠ g := by
    rintro v l D hv b hb rfl
    obtain ⟨cu, hc, -⟩ := hv.block hb
    rw [hcur] at hc
    simp at hc
  have hlen : (ns.set q (n.withKids ks)).length = ns.length := by simp
  refine ⟨?_, ?_, ?_, ?_, ?_, ?_⟩
  · rw [hlen, ← rowN_setK ns ab kb q n ks kv hq]
    exact ownsRow_set h.row _ _
  · intro i m hm
    rcases get_set_cases hm with ⟨rfl, rfl⟩ | ⟨hi, hm⟩
    · have ho := h.ats i n hq
      exact ho.same fun b hb => heap_set_other _ (neA ho b hb)
    · have ho := h.ats i m hm
      exact ho.same fun b hb => heap_set_other _ (neA ho b hb)
  · intro i m hm
    rcases get_set_cases hm with ⟨rfl, rfl⟩ | ⟨hi, hm⟩
    · rw [upd_same]
      exact hK.same fun b hb => heap_set_other _ (neK hK b hb)
    · rw [upd_other _ _ hi]
      have ho := h.kids i m hm
      exact ho.same fun b hb => heap_set_other _ (neK ho b hb)
  · rw [hlen]; exact h.apa
  · rw [hlen]
    intro i j b hi hj hij hb1 hb2
    by_cases e : i = q
    · subst e
      rw [upd_same] at hb1
      rw [upd_other _ _ (by omega)] at hb2
      exact hap j b hj hb1 hb2
    · rw [upd_other _ _ e] at hb1
      by_cases e' : j = q
      · subst e'
        rw [upd_same] at hb2
        exact hap i b hi hb2 hb1
      · rw [upd_other _ _ e'] at hb2
        exact h.apk i j b hi hj hij hb1 hb2
  · intro m hm
    rcases List.mem_or_eq_of_mem_set hm with hm | rfl
    · exact h.fit m hm
    · have hf := h.fit n (List.mem_of_getElem? hq)
      exact ⟨hf.id, hf.par, hf.node, hf.atr, hk⟩

theorem OwnN.setP {w : World} {B g c l : Nat} {ns : List Nd} {ab kb : Nat → Value} (h : OwnN w B (.slice (some ⟨g, 0, none⟩) l c) ns ab kb) {q : Nat} {n : Nd} (hq : ns[q]? = some n) {x : Int} (hx : -9223372036854775808 ≤ x ∧ x ≤ 9223372036854775807) :
    OwnN (w.setCell ⟨g, q * 7 + 1, none⟩ (.int .i64 x)) B (.slice (some ⟨g, 0, none⟩) l c) (ns.set q (n.withPar x)) ab kb := by
  obtain ⟨cur, hcur⟩ := h.rowBlock
  have hlen : (ns.set q (n.withPar x)).length = ns.length := by simp
  refine ⟨?_, ?_, ?_, by rw [hlen]; exact h.apa, by rw [hlen]; exact h.apk, ?_⟩
  · rw [hlen, ← rowN_setP ns ab kb q n x hq]
    exact ownsRow_set h.row _ _
  · intro i m hm
    have ho : OwnA w B (ab i) m.ats := by
      rcases get_set_cases hm with ⟨rfl, rfl⟩ | ⟨hi, hm⟩
      · exact h.ats i n hq
      · exact h.ats i m hm
    refine ho.same fun b hb => heap_set_other _ ?_
    rintro rfl
    obtain ⟨cu, hc, -⟩ := ho.block hb
    rw [hcur] at hc
    simp at hc
  · intro i m hm
    have ho : OwnZ w B (kb i) m.kids := by
      rcases get_set_cases hm with ⟨rfl, rfl⟩ | ⟨hi, hm⟩
      · exact h.kids i n hq
      · exact h.kids i m hm
    refine ho.same fun b hb => heap_set_other _ ?_
    rintro rfl
    obtain ⟨cu, hc, -⟩ := ho.block hb
    rw [hcur] at hc
    simp at hc
  · intro m hm
    rcases List.mem_or_eq_of_mem_set hm with hm | rfl
    · exact h.fit m hm
    · have hf := h.fit n (List.mem_of_getElem? hq)
      exact ⟨hf.id, hx, hf.node, hf.atr, hf.kids⟩
end Go.Proofs.YtcdnakcojanaeabGreat
