/-
  Append of attributes that lie somewhere; a node's attributes or text set in the page's rows; the page's attr as mathematics. (Printed by wip/make/mkdtat.py.)
-/
import Derived.Test.YtcdnakcojanaeabGreatDuPgJ
import Derived.Test.YtcdnakcojanaeabGreatDbPageJ
import Derived.Test.YtcdnakcojanaeabGreatDoKeepMJ
namespace Go.Proofs.YtcdnakcojanaeabGreat
open Go.ChangeShapes Go.WideShapes Go.ChangeAt Go.RowKit Go.Deep
open Do

namespace Pg

theorem OwnN.setAts {w : World} {B g c l : Nat} {ns : List Nd} {ab kb : Nat → Value} (h : OwnN w B (.slice (some ⟨g, 0, none⟩) l c) ns ab kb) {q : Nat} {n : Nd} (hq : ns[q]? = some n) {av : Value} {ats : List Atr} (hA : OwnA w B av ats) (hk : ∀ s ∈ ats, s.1.size ≤ 140737488351232 ∧ s.2.size ≤ 140737488351232) (hkl : ats.length * 32 ≤ 140737488351232) (hap : ∀ j b, j < ns.length → av.ownBlock = some b → (ab j).ownBlock ≠ some b) :
    OwnN (w.setCell ⟨g, q * 7 + 5, none⟩ av) B (.slice (some ⟨g, 0, none⟩) l c) (ns.set q (n.withAts ats)) (upd ab q av) kb := by
  obtain ⟨cur, hcur⟩ := h.rowBlock
  have neA : ∀ {v : Value} {l : List Atr} {D : Nat}, OwnA w D v l → ∀ b, v.ownBlock = some b → b ≠ g := by
    rintro v l D hv b hb rfl
    obtain ⟨cu, hc, -⟩ := hv.block hb
    rw [hcur] at hc
    simp at hc
  have neK : ∀ {v : Value} {l : List Int} {D : Nat}, OwnZ w D v l → ∀ b, v.ownBlock = some b → b ≠ g := by
    rintro v l D hv b hb rfl
    obtain ⟨cu, hc, -⟩ := hv.block hb
    rw [hcur] at hc
    simp at hc
  have hlen : (ns.set q (n.withAts ats)).length = ns.length := by simp
  refine ⟨?_, ?_, ?_, ?_, ?_, ?_⟩
  · rw [hlen, ← rowN_setA ns ab kb q n ats av hq]
    exact ownsRow_set h.row _ _
  · intro i m hm
    rcases get_set_cases hm with ⟨rfl, rfl⟩ | ⟨hi, hm⟩
    · rw [upd_same]
      exact hA.same fun b hb => heap_set_other _ (neA hA b hb)
    · rw [upd_other _ _ hi]
      have ho := h.ats i m hm
      exact ho.same fun b hb => heap_set_other _ (neA ho b hb)
  · intro i m hm
    rcases get_set_cases hm with ⟨rfl, rfl⟩ | ⟨hi, hm⟩
    · have ho := h.kids i n hq
      exact ho.same fun b hb => heap_set_other _ (neK ho b hb)
    · have ho := h.kids i m hm
      exact ho.same fun b hb => heap_set_other _ (neK ho b hb)
  · rw [hlen]
    intro i j b hi hj hij hb1 hb2
    by_cases e : i = q
    · subst e
      rw [upd_same] at hb1
      rw [upd_other _ _ (by omega)] at hb2
      exact hap j b hj hb1 hb2
    · rw [upd_other _ _ e] at hb1
      by_cases e' : j = q
      · subst e'
        rw [upd_same] at hb2
        exact hap i b hi hb2 hb1
      · rw [upd_other _ _ e'] at hb2
        exact h.apa i j b hi hj hij hb1 hb2
  · rw [hlen]; exact h.apk
  · intro m hm
    rcases List.mem_or_eq_of_mem_set hm with hm | rfl
    · exact h.fit m hm
    · have hf := h.fit n (List.mem_of_getElem? hq)
      obtain ⟨n1, n2, n3, -, n5⟩ := hf.node
      exact ⟨hf.id, hf.par, ⟨n1, n2, n3, hkl, n5⟩, hk, hf.kids⟩

theorem OwnN.setT {w : World} {B g c l : Nat} {ns : List Nd} {ab kb : Nat → Value} (h : OwnN w B (.slice (some ⟨g, 0, none⟩) l c) ns ab kb) {q : Nat} {n : Nd} (hq : ns[q]? = some n) {x : ByteArray} (hx : x.size ≤ 140737488351232) :
    OwnN (w.setCell ⟨g, q * 7 + 4, none⟩ (.string x)) B (.slice (some ⟨g, 0, none⟩) l c) (ns.set q (n.withTxt x)) ab kb := by
  obtain ⟨cur, hcur⟩ := h.rowBlock
  have hlen : (ns.set q (n.withTxt x)).length = ns.length := by simp
  refine ⟨?_, ?_, ?_, by rw [hlen]; exact h.apa, by rw [hlen]; exact h.apk, ?_⟩
  · rw [hlen, ← rowN_setT ns ab kb q n x hq]
    exact ownsRow_set h.row _ _
  · intro i m hm
    have ho : OwnA w B (ab i) m.ats := by
      rcases get_set_cases hm with ⟨rfl, rfl⟩ | ⟨hi, hm⟩
      · exact h.ats i n hq
      · exact h.ats i m hm
    refine ho.same fun b hb => heap_set_other _ ?_
    rintro rfl
    obtain ⟨cu, hc, -⟩ := ho.block hb
    rw [hcur] at hc
    simp at hc
  · intro i m hm
    have ho : OwnZ w B (kb i) m.kids := by
      rcases get_set_cases hm with ⟨rfl, rfl⟩ | ⟨hi, hm⟩
      · exact h.kids i n hq
      · exact h.kids i m hm
    refine ho.same fun b hb => heap_set_other _ ?_
    rintro rfl
    obtain ⟨cu, hc, -⟩ := ho.block hb
    rw [hcur] at hc
    simp at hc
  · intro m hm
    rcases List.mem_or_eq_of_mem_set hm with hm | rfl
    · exact h.fit m hm
    · have hf := h.fit n (List.mem_of_getElem? hq)
      obtain ⟨n1, n2, n3, n4, n5⟩ := hf.node
      exact ⟨hf.id, hf.par, ⟨n1, n2, hx, n4, n5⟩, hf.atr, hf.kids⟩

end Pg

theorem attrCells {w : World} {ia : Option Addr} {ks : List Atr} (hL : LayA w ia ks) : ∀ ad, ia = some ad → ∀ j u, (cellsA ks)[j]? = some u → w.cell? (ad.add j) = some u := by
  rintro ad rfl j u hj
  have hj2 := (List.getElem?_eq_some_iff.1 hj).1
  have hlen : (cellsA ks).length = ks.length * 2 := cellsA_length ks
  rw [hlen] at hj2
  obtain ⟨i, r, hr, e⟩ : ∃ i r, r < 2 ∧ j = i * 2 + r := ⟨j / 2, j % 2, by omega, by omega⟩
  subst e
  have hi : i < ks.length := by omega
  obtain ⟨b2, o2, ea, q0, q1, -⟩ := hL i ks[i] (List.getElem?_eq_getElem hi)
  obtain ⟨h1, h2⟩ := cellsA_at ks i ks[i] (List.getElem?_eq_getElem hi)
  cases ea
  rw [add_plain]
  match r, hr with
  | 0, _ =>
    rw [Nat.add_zero] at hj ⊢
    rw [h1] at hj
    cases hj
    exact q0
  | 1, _ =>
    rw [h2] at hj
    cases hj
    rw [← Nat.add_assoc]
    exact q1

theorem cellsA_one' : ∀ (l : List Atr), ∀ v ∈ cellsA l, v.oneCell' = true
  | [], v, h => by simp [cellsA] at h
  | a :: r, v, h => by
    simp only [cellsA, List.mem_cons] at h
    rcases h with rfl | rfl | h
    · rfl
    · rfl
    · exact cellsA_one' r v h

theorem cellsA_both : ∀ (l m : List Atr), cellsA (l ++ m) = cellsA l ++ cellsA m
  | [], _ => rfl
  | a :: r, m => by simp only [List.cons_append, cellsA, cellsA_both r m]

theorem wpList_appA (w : World) {ops : Array Oper} {rest : List Oper} {o : Oper} {a : Act} {Q : Exit → Act → World → Prop} (hgd : o.guard = none) (s x : Operand)
    (hop : o.op = .call { callee := .builtin .append, args := #[s, x], argTypes := #[38, 38] })
    (B : Nat) (v : Value) (k0 : List Atr) (hs : a.eval s = v) (hv : OwnA w B v k0) (ia : Option Addr) (l ic : Nat) (ks : List Atr) (hx : a.eval x = .slice ia l ic) (hl : ks.length = l) (hnone : ia = none → l = 0 ∧ ic = 0) (hL : LayA w ia ks) (hlen : (k0.length + l) * 32 ≤ 140737488355328) (hB : B ≤ w.heap.size)
    (h : ∀ v' w', OwnA w' B v' (k0 ++ ks) → w.grownBy w' v.ownBlock → (v'.ownBlock = v.ownBlock ∨ ∀ g, v'.ownBlock = some g → w.heap.size ≤ g) → wpList Tryz.prog ops Q rest (a.put o.dst v') w') : wpList Tryz.prog ops Q (o :: rest) a w := by
  subst hl
  obtain ⟨i0, hi, hz0, hz1, hz2⟩ := info_parts Tryz.infoAtr
  refine wpList_append_apart w hgd s x 38 hop B 43 i0 _ 2 32 Tryz.underlying38 hi hz0 hz1 hz2 rfl (by decide) v k0.length _ hs hv ia ks.length ic (cellsA ks) hx hnone (cellsA_length ks) (attrCells hL) (cellsA_one' ks) (by unfold maxLen; omega) hlen hB ?_
  intro v' w' h1 h2 h3
  refine h v' w' ?_ h2 h3
  unfold OwnA
  rw [cellsA_both, List.length_append]
  exact h1

theorem op_appA {o : Oper} {d : Option Tmp} (hd : o.dst = d) {a : Act} {w : World} {K : Act → World → Prop} {Q : Exit → Act → World → Prop} (s x : Operand)
    (hop : o.op = .call { callee := .builtin .append, args := #[s, x], argTypes := #[38, 38] })
    (B : Nat) (v : Value) (k0 : List Atr) (hs : a.eval s = v) (hv : OwnA w B v k0) (ia : Option Addr) (l ic : Nat) (ks : List Atr) (hx : a.eval x = .slice ia l ic) (hl : ks.length = l) (hnone : ia = none → l = 0 ∧ ic = 0) (hL : LayA w ia ks) (hlen : (k0.length + l) * 32 ≤ 140737488355328) (hB : B ≤ w.heap.size)
    (h : ∀ v' w', OwnA w' B v' (k0 ++ ks) → w.grownBy w' v.ownBlock → (v'.ownBlock = v.ownBlock ∨ ∀ g, v'.ownBlock = some g → w.heap.size ≤ g) → K (a.put d v') w') : Oper.wp Tryz.prog o a w K Q := by
  subst hd
  subst hl
  obtain ⟨i0, hi, hz0, hz1, hz2⟩ := info_parts Tryz.infoAtr
  cases ia with
  | none =>
    obtain ⟨h0, rfl⟩ := hnone rfl
    have : ks = [] := List.eq_nil_of_length_eq_zero h0
    subst this
    have hr := run_append_owned_none (P := Tryz.prog) (w := w) B 38 o.type 43 i0 2 Tryz.underlying38 hi v k0.length _ hv
    unfold Oper.wp execOp
    simp only [hop, resolve, invoke, builtin, Sem.run_bind, Sem.run_pure, Result.andThen_ok, List.map_toArray, List.map_cons, List.map_nil, hs, hx, hr, List.length_nil]
    exact h _ _ (by rw [List.append_nil]; exact hv) (World.grownBy.refl _ _) (Or.inl rfl)
  | some ad =>
    obtain ⟨v', w', hr, h2, h3, h4⟩ := run_append_apart (P := Tryz.prog) w B 38 o.type 43 i0 _ 2 32 Tryz.underlying38 hi hz0 hz1 hz2 rfl (by decide) v k0.length _ hv ad ks.length ic (cellsA ks) (cellsA_length ks) (attrCells hL ad rfl) (cellsA_one' ks) (by unfold maxLen; omega) hlen hB
    unfold Oper.wp execOp
    simp only [hop, resolve, invoke, builtin, Sem.run_bind, Sem.run_pure, Result.andThen_ok, List.map_toArray, List.map_cons, List.map_nil, hs, hx, hr]
    refine h v' w' ?_ h3 h4
    unfold OwnA
    rw [cellsA_both, List.length_append]
    exact h2

/-- Attributes from a place on, and up to a place. -/
theorem LayA.upto {w : World} {a : Option Addr} {ks : List Atr} (h : LayA w a ks) (i : Nat) : LayA w a (ks.take i) := by
  intro j k hj
  rw [List.getElem?_take] at hj
  split at hj
  · exact h j k hj
  · cases hj

theorem LayA.fromN {w : World} {kad : Addr} {ks : List Atr} (h : LayA w (some kad) ks) (i : Nat) : LayA w (some (kad.add (i * 2))) (ks.drop i) := by
  intro j k hj
  rw [List.getElem?_drop] at hj
  obtain ⟨b, o, e, hc, hr⟩ := h (i + j) k hj
  cases e
  refine ⟨b, o + i * 2, by rw [add_plain], ?_⟩
  have e1 : o + (i + j) * 2 = o + i * 2 + j * 2 := by omega
  rw [e1] at hc hr
  exact ⟨hc, hr⟩

namespace Do
/-- What the page's attr makes of attributes: those of the name left out, one put where it belongs. -/
def putP (l : List Atr) (t x : ByteArray) : List Atr := insAt (lessA l t) (lwA (lessA l t) t) (t, x)

/-- Has one of them the name? -/
def anyA (l : List Atr) (t : ByteArray) : Bool := l.any fun s => s.1.toList == t.toList

/-- What the page's attr answers for the node at a place. -/
def attrP (s : Ds) (q : Nat) (n : Nd) (p : Pt) : Int × Ds :=
  if p.what = 5 then (if anyA n.ats p.name = true then (0, ⟨s.nodes.set q (n.withAts (lessA n.ats p.name)), s.root, s.next⟩) else (31, noD))
  else if nameB p.name = false then (31, noD) else if 128 < p.val.size then (5, noD) else if 16 ≤ (lessA n.ats p.name).length then (3, noD)
  else (0, ⟨s.nodes.set q (n.withAts (putP n.ats p.name p.val)), s.root, s.next⟩)

theorem toList_inj' {a b : ByteArray} (h : a.toList = b.toList) : a = b := by
  rw [ByteArray.toList_eq, ByteArray.toList_eq] at h
  cases a; cases b
  simp only [ByteArray.mk.injEq]
  exact Array.toList_inj.1 h

theorem name_eq {a b : ByteArray} : (a.toList == b.toList) = true ↔ a = b := by
  rw [beq_iff_eq]
  exact ⟨toList_inj', fun h => by rw [h]⟩

theorem name_ne {a b : ByteArray} : (a.toList == b.toList) = false ↔ a ≠ b := by
  rw [← Bool.not_eq_true, name_eq]

theorem UpA.head {a : Atr} {l : List Atr} (h : UpA (a :: l)) {s : Atr} (hs : s ∈ l) : cmB a.1 s.1 < 0 := by
  have := upA_pw.1 h
  exact (List.pairwise_cons.1 this).1 s hs

theorem cmB_self (a : ByteArray) : cmB a a = 0 := cmB_eq.2 rfl

theorem anyA_iff {l : List Atr} {t : ByteArray} : anyA l t = true ↔ ∃ s ∈ l, s.1 = t := by
  unfold anyA
  rw [List.any_eq_true]
  constructor
  · rintro ⟨s, h1, h2⟩; exact ⟨s, h1, name_eq.1 h2⟩
  · rintro ⟨s, h1, h2⟩; exact ⟨s, h1, name_eq.2 h2⟩

theorem less_none {l : List Atr} {t : ByteArray} (h : ∀ s ∈ l, s.1 ≠ t) : lessA l t = l := by
  unfold lessA
  rw [List.filter_eq_self]
  intro s hs
  rw [name_ne.2 (h s hs)]
  rfl

theorem lwA_zero {l : List Atr} {t : ByteArray} (h : ∀ s ∈ l, ¬ cmB s.1 t < 0) : lwA l t = 0 := by
  cases l with
  | nil => rfl
  | cons a r => simp only [lwA]; rw [if_neg (h a (by simp))]

theorem has_any {t : ByteArray} : ∀ {l : List Atr}, UpA l → hasA l t = anyA l t
  | [], _ => rfl
  | a :: r, h => by
    have ih := has_any (t := t) (UpA.tail h)
    by_cases h1 : cmB a.1 t < 0
    · have e1 : lwA (a :: r) t = lwA r t + 1 := by simp only [lwA]; rw [if_pos h1]
      have e2 : hasA (a :: r) t = hasA r t := by unfold hasA; rw [e1]; rfl
      have ne : (a.1.toList == t.toList) = false := name_ne.2 (by rintro rfl; exact cmB_irr _ h1)
      rw [e2, ih]
      unfold anyA
      rw [List.any_cons, ne, Bool.false_or]
    · have e1 : lwA (a :: r) t = 0 := by simp only [lwA]; rw [if_neg h1]
      have e2 : hasA (a :: r) t = (cmB a.1 t == 0) := by unfold hasA; rw [e1]; rfl
      rw [e2, Bool.eq_iff_iff, anyA_iff, beq_iff_eq, cmB_eq]
      constructor
      · intro e; exact ⟨a, by simp, e⟩
      · rintro ⟨s, hs, rfl⟩
        rcases List.mem_cons.1 hs with rfl | hs
        · rfl
        · exact absurd (UpA.head h hs) h1

theorem insAt_cons (a : Atr) (l : List Atr) (k : Nat) (y : Atr) : insAt (a :: l) (k + 1) y = a :: insAt l k y := rfl

theorem putV_cons (a : Atr) (l : List Atr) (k : Nat) (x : ByteArray) : putV (a :: l) (k + 1) x = a :: putV l k x := by
  unfold putV
  rw [List.getElem?_cons_succ]
  split <;> rfl

theorem put_is {t x : ByteArray} : ∀ {l : List Atr}, UpA l → anyA l t = true → putP l t x = putV l (lwA l t) x
  | [], _, h => by cases h
  | a :: r, hu, h => by
    by_cases h1 : cmB a.1 t < 0
    · have e1 : lwA (a :: r) t = lwA r t + 1 := by simp only [lwA]; rw [if_pos h1]
      have ne : (a.1.toList == t.toList) = false := name_ne.2 (by rintro rfl; exact cmB_irr _ h1)
      have e2 : lessA (a :: r) t = a :: lessA r t := by unfold lessA; rw [List.filter_cons, ne]; rfl
      have e3 : lwA (a :: lessA r t) t = lwA (lessA r t) t + 1 := by simp only [lwA]; rw [if_pos h1]
      have h2 : anyA r t = true := by unfold anyA at h ⊢; rw [List.any_cons, ne, Bool.false_or] at h; exact h
      have ih := put_is (x := x) (UpA.tail hu) h2
      unfold putP at ih ⊢
      rw [e2, e3, insAt_cons, e1, putV_cons, ih]
    · have e1 : lwA (a :: r) t = 0 := by simp only [lwA]; rw [if_neg h1]
      have ha : a.1 = t := by
        obtain ⟨s, hs, rfl⟩ := anyA_iff.1 h
        rcases List.mem_cons.1 hs with rfl | hs
        · rfl
        · exact absurd (UpA.head hu hs) h1
      have hr : ∀ s ∈ r, s.1 ≠ t := by
        rintro s hs e
        have := UpA.head hu hs
        rw [e, ha] at this
        exact cmB_irr _ this
      have e2 : lessA (a :: r) t = r := by
        unfold lessA
        rw [List.filter_cons, name_eq.2 ha]
        exact less_none hr
      have e3 : lwA r t = 0 := lwA_zero fun s hs h2 => by
        have h3 := UpA.head hu hs
        rw [ha] at h3
        exact cmB_irr _ (cmB_trans h3 h2)
      unfold putP
      rw [e2, e3, e1]
      show [(t, x)] ++ r = (a :: r).set 0 (a.1, x)
      rw [ha]
      rfl

theorem nm_is (g : ByteArray) : nmD g = nameB g := by
  rw [Bool.eq_iff_iff]
  constructor
  · exact nmD_name
  · intro h
    have h0 : ¬ g.size = 0 := by unfold nameB at h; simp only [Bool.and_eq_true, decide_eq_true_eq] at h; omega
    unfold nmD
    rw [if_neg h0, plainB_elem h0, h]
    have e1 : attrsB [] = true := attrsB_iff.2 ⟨by simp, by simp, fun i j a b _ h => by simp at h⟩
    have e2 : eB.toList.isEmpty = true := empty_true rfl
    rw [e1, e2]
    simp [eB, ByteArray.size]

theorem attr_unset {s : Ds} (h : OkD s) {p : Pt} {q : Nat} {n : Nd} (hq : pl s.nodes p.id = some q) (hn : s.nodes[q]? = some n) (ht : ¬ n.tag.size = 0) (hw : p.what = 5) : attrP s q n p = errD (unsetD s p) := by
  have hu := (alone_upA (h.good.alone n (List.mem_of_getElem? hn))).1
  unfold attrP unsetD
  rw [if_pos hw, hq]
  simp only
  rw [hn]
  simp only
  rw [if_neg ht, has_any hu]
  by_cases ha : anyA n.ats p.name = true
  · rw [if_pos ha, if_pos ha, errD_zero]
  · rw [if_neg ha, if_neg ha, errD_err (by decide)]

theorem attr_set {s : Ds} (h : OkD s) {p : Pt} {q : Nat} {n : Nd} (hq : pl s.nodes p.id = some q) (hn : s.nodes[q]? = some n) (ht : ¬ n.tag.size = 0) (hw : p.what ≠ 5) : attrP s q n p = errD (setD s p) := by
  obtain ⟨hu, h16⟩ := alone_upA (h.good.alone n (List.mem_of_getElem? hn))
  unfold attrP setD
  rw [if_neg hw, hq]
  simp only
  rw [hn]
  simp only
  rw [if_neg ht, has_any hu, nm_is]
  by_cases c1 : nameB p.name = false
  · rw [if_pos c1, if_pos c1, errD_err (by decide)]
  rw [if_neg c1, if_neg c1]
  by_cases c2 : 128 < p.val.size
  · rw [if_pos c2, if_pos c2, errD_err (by decide)]
  rw [if_neg c2, if_neg c2]
  by_cases ha : anyA n.ats p.name = true
  · rw [if_pos ha, errD_zero, put_is hu ha, if_neg]
    obtain ⟨s0, hs0, e0⟩ := anyA_iff.1 ha
    have : (lessA n.ats p.name).length < n.ats.length := by
      unfold lessA
      rw [List.length_filter_lt_length_iff_exists]
      exact ⟨s0, hs0, by rw [name_eq.2 e0]; simp⟩
    omega
  · have hl : lessA n.ats p.name = n.ats := less_none fun s0 hs0 e0 => ha (anyA_iff.2 ⟨s0, hs0, e0⟩)
    have hp : putP n.ats p.name p.val = insAt n.ats (lwA n.ats p.name) (p.name, p.val) := by unfold putP; rw [hl]
    rw [if_neg ha, hl, hp]
    by_cases c3 : n.ats.length = 16
    · rw [if_pos c3, if_pos (by omega), errD_err (by decide)]
    · rw [if_neg c3, if_neg (by omega), errD_zero]
end Do
end Go.Proofs.YtcdnakcojanaeabGreat
