/-
  Rows of the page's nodes: what is known of rows of the program's, with the page's type. (Printed by wip/make/mkdupg.py.)
-/
import Derived.Test.YtomhfndjnbhliaaDbMathJ
import Derived.Test.YtomhfndjnbhliaaDuGrowJ
namespace Go.Proofs.Ytomhfndjnbhliaa.Pg
open Go.ChangeShapes Go.WideShapes Go.ChangeAt Go.RowKit Go.Deep
open Do

theorem infoNodeP : (Try.prog.info? 57).map (fun i => (i.zero, i.size, i.bytes)) = some (some (mkN 0 0 ⟨#[]⟩ ⟨#[]⟩ ⟨#[]⟩ none 0 0 none 0 0), 7, 112) := by kernel_rfl

theorem rowN_cells {w : World} {B : Nat} {a : Option Addr} {l c : Nat} {ns : List Nd} {ab kb : Nat → Value} (h : w.ownsRow B 57 7 (.slice a l c) ns.length (rowN ns ab kb)) {i : Nat} {n : Nd} (hi : ns[i]? = some n) :
    ∃ g, a = some ⟨g, 0, none⟩ ∧ w.cell? ⟨g, i * 7, none⟩ = some (.int .i64 n.id) ∧ w.cell? ⟨g, i * 7 + 1, none⟩ = some (.int .i64 n.par) ∧ w.cell? ⟨g, i * 7 + 2, none⟩ = some (.string n.tag) ∧ w.cell? ⟨g, i * 7 + 3, none⟩ = some (.string n.key) ∧ w.cell? ⟨g, i * 7 + 4, none⟩ = some (.string n.txt) ∧ w.cell? ⟨g, i * 7 + 5, none⟩ = some (ab i) ∧ w.cell? ⟨g, i * 7 + 6, none⟩ = some (kb i) := by
  have e : ∀ (j : Nat) (v : Value), j < 7 → (cellsN n (ab i) (kb i))[j]? = some v → ∃ g, a = some ⟨g, 0, none⟩ ∧ w.cell? ⟨g, i * 7 + j, none⟩ = some v := by
    intro j v hj hv
    obtain ⟨g, h1, h2⟩ := cells_of_own h (i * 7 + j) v (by rw [rowN_at hi hj]; exact hv)
    rw [Nat.zero_add] at h2
    exact ⟨g, h1, h2⟩
  obtain ⟨g, ha, q0⟩ := e 0 _ (by omega) rfl
  subst ha
  have f : ∀ (j : Nat) (v : Value), j < 7 → (cellsN n (ab i) (kb i))[j]? = some v → w.cell? ⟨g, i * 7 + j, none⟩ = some v := by
    intro j v hj hv
    obtain ⟨g', h1, h2⟩ := e j v hj hv
    cases h1
    exact h2
  exact ⟨g, rfl, q0, f 1 _ (by omega) rfl, f 2 _ (by omega) rfl, f 3 _ (by omega) rfl, f 4 _ (by omega) rfl, f 5 _ (by omega) rfl, f 6 _ (by omega) rfl⟩

structure OwnN (w : World) (B : Nat) (v : Value) (ns : List Nd) (ab kb : Nat → Value) : Prop where
  row : w.ownsRow B 57 7 v ns.length (rowN ns ab kb)
  ats : ∀ (i : Nat) (n : Nd), ns[i]? = some n → OwnA w B (ab i) n.ats
  kids : ∀ (i : Nat) (n : Nd), ns[i]? = some n → OwnZ w B (kb i) n.kids
  apa : ApartF ns.length ab
  apk : ApartF ns.length kb
  fit : ∀ n ∈ ns, NdFit n

theorem OwnN.nil (w : World) (B : Nat) : OwnN w B (.slice none 0 0) [] (fun _ => .slice none 0 0) (fun _ => .slice none 0 0) :=
  ⟨World.ownsRow_nil _ _ _ _, fun i n h => by simp at h, fun i n h => by simp at h, fun i j g h => by simp at h, fun i j g h => by simp at h, fun n h => by cases h⟩

theorem OwnN.same {w w' : World} {B : Nat} {v : Value} {ns : List Nd} {ab kb : Nat → Value} (h : OwnN w B v ns ab kb) (hk : ∀ b, footN v ns.length ab kb b → w'.heap[b]? = w.heap[b]?) : OwnN w' B v ns ab kb :=
  ⟨ownsRow_same h.row fun g hg => hk g (Or.inl hg), fun i n hi => (h.ats i n hi).same fun b hb => hk b (Or.inr (Or.inl ⟨i, (List.getElem?_eq_some_iff.1 hi).1, hb⟩)), fun i n hi => (h.kids i n hi).same fun b hb => hk b (Or.inr (Or.inr ⟨i, (List.getElem?_eq_some_iff.1 hi).1, hb⟩)), h.apa, h.apk, h.fit⟩

theorem OwnN.foot {w : World} {B : Nat} {v : Value} {ns : List Nd} {ab kb : Nat → Value} (h : OwnN w B v ns ab kb) {b : Nat} (hb : footN v ns.length ab kb b) : B ≤ b ∧ b < w.heap.size := by
  rcases hb with hb | ⟨i, hi, hb⟩ | ⟨i, hi, hb⟩
  · exact h.row.lt b hb
  · exact (h.ats i ns[i] (List.getElem?_eq_getElem hi)).lt b hb
  · exact (h.kids i ns[i] (List.getElem?_eq_getElem hi)).lt b hb

theorem OwnN.below {w w' : World} {B : Nat} {v : Value} {ns : List Nd} {ab kb : Nat → Value} (h : OwnN w B v ns ab kb) (hb : Below w.heap.size w w') : OwnN w' B v ns ab kb := h.same fun b hb' => hb.block b (h.foot hb').2

theorem OwnN.shape {w : World} {B : Nat} {v : Value} {ns : List Nd} {ab kb : Nat → Value} (h : OwnN w B v ns ab kb) : ∃ a c, v = .slice a ns.length c := slice_of_own h.row

theorem OwnN.lay {w : World} {B : Nat} {a : Option Addr} {l c : Nat} {ns : List Nd} {ab kb : Nat → Value} (h : OwnN w B (.slice a l c) ns ab kb) : LayN w a ns := by
  intro i n hi
  obtain ⟨g, rfl, q0, q1, q2, q3, q4, q5, q6⟩ := rowN_cells h.row hi
  have hA := h.ats i n hi
  have hK := h.kids i n hi
  obtain ⟨aa, ac, ea⟩ := hA.shape
  obtain ⟨ka, kc, ek⟩ := hK.shape
  have hf := h.fit n (List.mem_of_getElem? hi)
  rw [ea] at q5 hA
  rw [ek] at q6 hK
  have hnm := hK.nm hf.kids.1 hf.kids.2
  refine ⟨g, 0, aa, ac, ka, kc, rfl, ?_⟩
  rw [Nat.zero_add]
  refine ⟨q0, q1, q2, q3, q4, q5, q6, ⟨hf.id, hf.par, hf.node, ⟨(cap_of_own hA).1, (cap_of_own hA).2, hf.node.2.2.2.1, none_of_own hA⟩, hnm.2.1, hnm.2.2.1, hnm.2.2.2.1, hnm.2.2.2.2.1, hnm.2.2.2.2.2⟩, hA.lay hf.atr, hnm.1⟩

theorem OwnN.rowBlock {w : World} {B g l c : Nat} {ns : List Nd} {ab kb : Nat → Value} (h : OwnN w B (.slice (some ⟨g, 0, none⟩) l c) ns ab kb) : ∃ cur, w.heap[g]? = some (.cells cur 57 (0, 0)) := by
  rcases h.row.2 with ⟨q, -⟩ | ⟨g', cap, cur, q, _, q2, -⟩
  · simp at q
  · simp only [Value.slice.injEq, Option.some.injEq, Addr.mk.injEq, and_true] at q
    obtain ⟨rfl, -, -⟩ := q
    exact ⟨cur, q2⟩

theorem OwnN.setKids {w : World} {B g c l : Nat} {ns : List Nd} {ab kb : Nat → Value} (h : OwnN w B (.slice (some ⟨g, 0, none⟩) l c) ns ab kb) {q : Nat} {n : Nd} (hq : ns[q]? = some n) {kv : Value} {ks : List Int} (hK : OwnZ w B kv ks) (hk : I64 ks ∧ ks.length * 8 ≤ 140737488351232) (hap : ∀ j b, j < ns.length → kv.ownBlock = some b → (kb j).ownBlock ≠ some b) :
    OwnN (w.setCell ⟨g, q * 7 + 6, none⟩ kv) B (.slice (some ⟨g, 0, none⟩) l c) (ns.set q (n.withKids ks)) ab (upd kb q kv) := by
  obtain ⟨cur, hcur⟩ := h.rowBlock
  have neA : ∀ {v : Value} {l : List Atr} {D : Nat}, OwnA w D v l → ∀ b, v.ownBlock = some b → b ≠ g := by
    rintro v l D hv b hb rfl
    obtain ⟨cu, hc, -⟩ := hv.block hb
    rw [hcur] at hc
    simp at hc
  have neK : ∀ {v : Value} {l : List Int} {D : Nat}, OwnZ w D v l → ∀ b, v.ownBlock = some b → b ≠ g := by
    rintro v l D hv b hb rfl
    obtain ⟨cu, hc, -⟩ := hv.block hb
    rw [hcur] at hc
    simp at hc
  have hlen : (ns.set q (n.withKids ks)).length = ns.length := by simp
  refine ⟨?_, ?_, ?_, ?_, ?_, ?_⟩
  · rw [hlen, ← rowN_setK ns ab kb q n ks kv hq]
    exact ownsRow_set h.row _ _
  · intro i m hm
    rcases get_set_cases hm with ⟨rfl, rfl⟩ | ⟨hi, hm⟩
    · have ho := h.ats i n hq
      exact ho.same fun b hb => heap_set_other _ (neA ho b hb)
    · have ho := h.ats i m hm
      exact ho.same fun b hb => heap_set_other _ (neA ho b hb)
  · intro i m hm
    rcases get_set_cases hm with ⟨rfl, rfl⟩ | ⟨hi, hm⟩
    · rw [upd_same]
      exact hK.same fun b hb => heap_set_other _ (neK hK b hb)
    · rw [upd_other _ _ hi]
      have ho := h.kids i m hm
      exact ho.same fun b hb => heap_set_other _ (neK ho b hb)
  · rw [hlen]; exact h.apa
  · rw [hlen]
    intro i j b hi hj hij hb1 hb2
    by_cases e : i = q
    · subst e
      rw [upd_same] at hb1
      rw [upd_other _ _ (by omega)] at hb2
      exact hap j b hj hb1 hb2
    · rw [upd_other _ _ e] at hb1
      by_cases e' : j = q
      · subst e'
        rw [upd_same] at hb2
        exact hap i b hi hb2 hb1
      · rw [upd_other _ _ e'] at hb2
        exact h.apk i j b hi hj hij hb1 hb2
  · intro m hm
    rcases List.mem_or_eq_of_mem_set hm with hm | rfl
    · exact h.fit m hm
    · have hf := h.fit n (List.mem_of_getElem? hq)
      exact ⟨hf.id, hf.par, hf.node, hf.atr, hk⟩

theorem wpList_pushN (w : World) {ops : Array Oper} {rest : List Oper} {o : Oper} {a : Act} {Q : Exit → Act → World → Prop} (hgd : o.guard = none) (s x : Operand)
    (hop : o.op = .call { callee := .builtin .append, args := #[s, x], argTypes := #[33, 33] })
    (B : Nat) (v : Value) (m : Nat) (cs : List Value) (hs : a.eval s = v) (hL : w.ownsRow B 57 7 v m cs) (n : Nd) (aa : Option Addr) (al ac : Nat) (ka : Option Addr) (kl kc : Nat) (ad : Addr) (c : Nat) (hx : a.eval x = .slice (some ad) 1 c)
    (hnews : ∀ j u, (cellsN n (.slice aa al ac) (.slice ka kl kc))[j]? = some u → w.cell? (ad.add j) = some u) (hlen : (m + 1) * 112 ≤ 140737488355328) (hB : B ≤ w.heap.size)
    (h : ∀ v' w', w'.ownsRow B 57 7 v' (m + 1) (cs ++ cellsN n (.slice aa al ac) (.slice ka kl kc)) → w.grownBy w' v.ownBlock → (v'.ownBlock = v.ownBlock ∨ ∀ g, v'.ownBlock = some g → w.heap.size ≤ g) → wpList Try.prog ops Q rest (a.put o.dst v') w') : wpList Try.prog ops Q (o :: rest) a w := by
  obtain ⟨i0, hi, hz0, hz1, hz2⟩ := info_parts infoNodeP
  refine wpList_append_apart w hgd s x 33 hop B 57 i0 _ 7 112 Try.underlying33 hi hz0 hz1 hz2 rfl (by decide) v m _ hs hL (some ad) 1 c (cellsN n (.slice aa al ac) (.slice ka kl kc)) hx (by simp) rfl ?_ ?_ (by unfold maxLen; omega) hlen hB h
  · intro ad' e j u hj
    cases e
    exact hnews j u hj
  · intro y hy
    simp [cellsN] at hy
    rcases hy with rfl | rfl | rfl | rfl | rfl | rfl | rfl <;> rfl

theorem OwnN.notState {w : World} {B : Nat} {v : Value} {ns : List Nd} {ab kb : Nat → Value} (h : OwnN w B v ns ab kb) {P : Nat} {cs : Array Value} (hP : w.heap[P]? = some (.cells cs 35 (0, 0))) {b : Nat} (hb : footN v ns.length ab kb b) : b ≠ P := by
  rintro rfl
  rcases hb with hb | ⟨i, hi, hb⟩ | ⟨i, hi, hb⟩
  · rcases h.row.2 with ⟨rfl, -⟩ | ⟨g', cap, cur, rfl, _, q2, -⟩
    · cases hb
    · simp only [Value.ownBlock, Option.some.injEq] at hb
      subst hb
      rw [hP] at q2
      simp at q2
  · obtain ⟨cu, hc, -⟩ := (h.ats i ns[i] (List.getElem?_eq_getElem hi)).block hb
    rw [hP] at hc
    simp at hc
  · obtain ⟨cu, hc, -⟩ := (h.kids i ns[i] (List.getElem?_eq_getElem hi)).block hb
    rw [hP] at hc
    simp at hc

theorem OwnN.notTy {w : World} {B : Nat} {v : Value} {ns : List Nd} {ab kb : Nat → Value} (h : OwnN w B v ns ab kb) {P : Nat} {cs : Array Value} {ty : TypeId} (hP : w.heap[P]? = some (.cells cs ty (0, 0))) (t1 : ty ≠ 57) (t2 : ty ≠ 90) (t3 : ty ≠ 3) {b : Nat} (hb : footN v ns.length ab kb b) : b ≠ P := by
  rintro rfl
  rcases hb with hb | ⟨i, hi, hb⟩ | ⟨i, hi, hb⟩
  · rcases h.row.2 with ⟨rfl, -⟩ | ⟨g', cap, cur, rfl, _, q2, -⟩
    · cases hb
    · simp only [Value.ownBlock, Option.some.injEq] at hb
      subst hb
      rw [hP] at q2
      simp at q2
      exact t1 q2.2
  · obtain ⟨cu, hc, -⟩ := (h.ats i ns[i] (List.getElem?_eq_getElem hi)).block hb
    rw [hP] at hc
    simp at hc
    exact t2 hc.2
  · obtain ⟨cu, hc, -⟩ := (h.kids i ns[i] (List.getElem?_eq_getElem hi)).block hb
    rw [hP] at hc
    simp at hc
    exact t3 hc.2

theorem OwnN.pushA {w w' : World} {B : Nat} {v v' : Value} {ns : List Nd} {ab kb : Nat → Value} (h : OwnN w B v ns ab kb) {n : Nd} (hn : NdFit n) (hk : n.kids = []) {av : Value} (hA : OwnA w B av n.ats) (hap : ∀ b, av.ownBlock = some b → ¬ footN v ns.length ab kb b)
    (hr : w'.ownsRow B 57 7 v' (ns.length + 1) (rowN ns ab kb ++ cellsN n av (.slice none 0 0))) (hg : w.grownBy w' v.ownBlock) (hv : v'.ownBlock = v.ownBlock ∨ ∀ g, v'.ownBlock = some g → w.heap.size ≤ g) :
    OwnN w' B v' (ns ++ [n]) (upd ab ns.length av) (upd kb ns.length (.slice none 0 0)) ∧
      ∀ b, footN v' (ns ++ [n]).length (upd ab ns.length av) (upd kb ns.length (.slice none 0 0)) b → footN v ns.length ab kb b ∨ av.ownBlock = some b ∨ w.heap.size ≤ b := by
  have isRow : ∀ b, v.ownBlock = some b → ∃ cur, w.heap[b]? = some (.cells cur 57 (0, 0)) := by
    intro b e
    rcases h.row.2 with ⟨rfl, -⟩ | ⟨g', cap, cur, rfl, _, q2, -⟩
    · cases e
    · simp only [Value.ownBlock, Option.some.injEq] at e
      subst e
      exact ⟨cur, q2⟩
  have notRow : ∀ b, (∃ i, i < ns.length ∧ ((ab i).ownBlock = some b ∨ (kb i).ownBlock = some b)) → some b ≠ v.ownBlock := by
    rintro b ⟨i, hi, hb⟩ e
    obtain ⟨cur, hcur⟩ := isRow b e.symm
    rcases hb with hb | hb
    · obtain ⟨cu, hc, -⟩ := (h.ats i ns[i] (List.getElem?_eq_getElem hi)).block hb
      rw [hcur] at hc
      simp at hc
    · obtain ⟨cu, hc, -⟩ := (h.kids i ns[i] (List.getElem?_eq_getElem hi)).block hb
      rw [hcur] at hc
      simp at hc
  have avRow : ∀ b, av.ownBlock = some b → some b ≠ v.ownBlock := fun b hb e => hap b hb (Or.inl e.symm)
  have e1 : rowN (ns ++ [n]) (upd ab ns.length av) (upd kb ns.length (.slice none 0 0)) = rowN ns ab kb ++ cellsN n av (.slice none 0 0) := by
    rw [rowN_snoc, upd_same, upd_same, rowN_congr ns fun i hi => ⟨upd_other _ _ (by omega), upd_other _ _ (by omega)⟩]
  have split : ∀ (i : Nat) (m : Nd), (ns ++ [n])[i]? = some m → (i < ns.length ∧ ns[i]? = some m) ∨ (i = ns.length ∧ m = n) := by
    intro i m hm
    by_cases hi : i < ns.length
    · rw [List.getElem?_append_left hi] at hm
      exact Or.inl ⟨hi, hm⟩
    · rw [List.getElem?_append_right (by omega)] at hm
      have hz : i - ns.length = 0 := by
        have := (List.getElem?_eq_some_iff.1 hm).1
        simp at this
        omega
      rw [hz] at hm
      simp at hm
      exact Or.inr ⟨by omega, hm.symm⟩
  have hlen : (ns ++ [n]).length = ns.length + 1 := by simp
  refine ⟨⟨by rw [hlen, e1]; exact hr, ?_, ?_, ?_, ?_, ?_⟩, ?_⟩
  · intro i m hm
    rcases split i m hm with ⟨hi, hm⟩ | ⟨rfl, rfl⟩
    · rw [upd_other _ _ (by omega)]
      have ho := h.ats i m hm
      exact ho.same fun b hb => hg.block b (ho.lt b hb).2 (notRow b ⟨i, hi, Or.inl hb⟩)
    · rw [upd_same]
      exact hA.same fun b hb => hg.block b (hA.lt b hb).2 (avRow b hb)
  · intro i m hm
    rcases split i m hm with ⟨hi, hm⟩ | ⟨rfl, rfl⟩
    · rw [upd_other _ _ (by omega)]
      have ho := h.kids i m hm
      exact ho.same fun b hb => hg.block b (ho.lt b hb).2 (notRow b ⟨i, hi, Or.inr hb⟩)
    · rw [upd_same, hk]
      exact OwnZ.nil _ _
  · intro i j b hi hj hij hb hb'
    rw [hlen] at hi hj
    by_cases e : i = ns.length
    · subst e
      rw [upd_same] at hb
      rw [upd_other _ _ (by omega)] at hb'
      exact hap b hb (Or.inr (Or.inl ⟨j, by omega, hb'⟩))
    · by_cases e' : j = ns.length
      · subst e'
        rw [upd_same] at hb'
        rw [upd_other _ _ e] at hb
        exact hap b hb' (Or.inr (Or.inl ⟨i, by omega, hb⟩))
      · rw [upd_other _ _ e] at hb
        rw [upd_other _ _ e'] at hb'
        exact h.apa i j b (by omega) (by omega) hij hb hb'
  · intro i j b hi hj hij hb hb'
    rw [hlen] at hi hj
    by_cases e : i = ns.length
    · subst e; rw [upd_same] at hb; cases hb
    · by_cases e' : j = ns.length
      · subst e'; rw [upd_same] at hb'; cases hb'
      · rw [upd_other _ _ e] at hb
        rw [upd_other _ _ e'] at hb'
        exact h.apk i j b (by omega) (by omega) hij hb hb'
  · intro m hm
    rcases List.mem_append.1 hm with hm | hm
    · exact h.fit m hm
    · rw [List.mem_singleton] at hm
      subst hm
      exact hn
  · rw [hlen]
    rintro b (hb | ⟨i, hi, hb⟩ | ⟨i, hi, hb⟩)
    · rcases hv with hv | hv
      · rw [hv] at hb
        exact Or.inl (Or.inl hb)
      · exact Or.inr (Or.inr (hv b hb))
    · by_cases e : i = ns.length
      · subst e
        rw [upd_same] at hb
        exact Or.inr (Or.inl hb)
      · rw [upd_other _ _ e] at hb
        exact Or.inl (Or.inr (Or.inl ⟨i, by omega, hb⟩))
    · by_cases e : i = ns.length
      · subst e
        rw [upd_same] at hb
        cases hb
      · rw [upd_other _ _ e] at hb
        exact Or.inl (Or.inr (Or.inr ⟨i, by omega, hb⟩))

structure Dg (w0 w : World) (B P : Nat) (F0 : Nat → Prop) (ns : List Nd) (v : Value) (ab kb : Nat → Value) : Prop where
  own : OwnN w B v ns ab kb
  foot : ∀ b, footN v ns.length ab kb b → F0 b ∨ w0.heap.size ≤ b
  kept : Kept (fun b => b = P ∨ F0 b) w0 w

theorem Dg.start {w : World} {B P : Nat} {ns : List Nd} {v : Value} {ab kb : Nat → Value} (h : OwnN w B v ns ab kb) : Dg w w B P (footN v ns.length ab kb) ns v ab kb := ⟨h, fun _ hb => Or.inl hb, Kept.refl _ _⟩

theorem Dg.on {w0 w w' : World} {B P : Nat} {F0 : Nat → Prop} {ns : List Nd} {v : Value} {ab kb : Nat → Value} (h : Dg w0 w B P F0 ns v ab kb) (hk : Kept (fun b => b = P ∨ F0 b ∨ w0.heap.size ≤ b) w w') (hf : ∀ b, footN v ns.length ab kb b → w'.heap[b]? = w.heap[b]?) : Dg w0 w' B P F0 ns v ab kb :=
  ⟨h.own.same hf, h.foot, ⟨hk.os.trans h.kept.os, hk.tape.trans h.kept.tape, hk.output.trans h.kept.output, Nat.le_trans h.kept.size hk.size, fun b hb hn => (hk.block b (Nat.lt_of_lt_of_le hb h.kept.size) (by
    rintro (e | e | e)
    · exact hn (Or.inl e)
    · exact hn (Or.inr e)
    · omega)).trans (h.kept.block b hb hn)⟩⟩

theorem Dg.below {w0 w w' : World} {B P : Nat} {F0 : Nat → Prop} {ns : List Nd} {v : Value} {ab kb : Nat → Value} (h : Dg w0 w B P F0 ns v ab kb) (hb : Below w.heap.size w w') : Dg w0 w' B P F0 ns v ab kb :=
  h.on (Kept.of_below hb) fun b hf => hb.block b (h.own.foot hf).2

theorem Dg.trans {w0 w w' : World} {B P : Nat} {F0 : Nat → Prop} {ns ns' : List Nd} {v v' : Value} {ab kb ab' kb' : Nat → Value} (h : Dg w0 w B P F0 ns v ab kb) (k : Dg w w' B P (footN v ns.length ab kb) ns' v' ab' kb') : Dg w0 w' B P F0 ns' v' ab' kb' := by
  refine ⟨k.own, fun b hb => ?_, ⟨k.kept.os.trans h.kept.os, k.kept.tape.trans h.kept.tape, k.kept.output.trans h.kept.output, Nat.le_trans h.kept.size k.kept.size, fun b hb hn => (k.kept.block b (Nat.lt_of_lt_of_le hb h.kept.size) ?_).trans (h.kept.block b hb hn)⟩⟩
  · rcases k.foot b hb with h1 | h1
    · exact h.foot b h1
    · exact Or.inr (Nat.le_trans h.kept.size h1)
  · rintro (e | e)
    · exact hn (Or.inl e)
    · rcases h.foot b e with h1 | h1
      · exact hn (Or.inr h1)
      · omega

theorem Dg.under {w0 w : World} {B P : Nat} {F0 : Nat → Prop} {ns : List Nd} {v : Value} {ab kb : Nat → Value} (h : Dg w0 w B P F0 ns v ab kb) (hP : B ≤ P) (hF : ∀ b, F0 b → B ≤ b) (hB : B ≤ w0.heap.size) : Below B w0 w :=
  ⟨h.kept.os, h.kept.tape, h.kept.output, h.kept.size, fun b hb => h.kept.block b (by omega) (by
    rintro (e | e)
    · omega
    · have := hF b e; omega)⟩

end Go.Proofs.Ytomhfndjnbhliaa.Pg

/-
  The page's built: a tree's nodes, put behind those that there are. (Printed by wip/make/mkdubuilt.py.)
-/
namespace Go.Proofs.Ytomhfndjnbhliaa
open Go.ChangeShapes Go.WideShapes Go.ChangeAt Go.RowKit Go.Deep
open Do

/-- append of one number, at the operation itself. -/
theorem op_pushI {o : Oper} {d : Option Tmp} (hd : o.dst = d) {a : Act} {w : World} {K : Act → World → Prop} {Q : Exit → Act → World → Prop} (s x : Operand)
    (hop : o.op = .call { callee := .builtin .append, args := #[s, x], argTypes := #[52, 52] })
    (B : Nat) (v : Value) (ks : List Int) (hs : a.eval s = v) (hL : OwnZ w B v ks) (k : Int) (ad : Addr) (c : Nat) (hx : a.eval x = .slice (some ad) 1 c) (hnews : w.cell? (ad.add 0) = some (.int .i64 k)) (hlen : (ks.length + 1) * 8 ≤ 140737488355328) (hB : B ≤ w.heap.size)
    (h : ∀ v' w', OwnZ w' B v' (ks ++ [k]) → w.grownBy w' v.ownBlock → (v'.ownBlock = v.ownBlock ∨ ∀ g, v'.ownBlock = some g → w.heap.size ≤ g) → K (a.put d v') w') : Oper.wp Try.prog o a w K Q := by
  subst hd
  obtain ⟨i0, hi, hz0, hz1, hz2⟩ := info_parts Try.infoInt
  have hn : ∀ j u, ([Value.int .i64 k] : List Value)[j]? = some u → w.cell? (ad.add j) = some u := by
    intro j u hj
    cases j with
    | zero => cases hj; exact hnews
    | succ j => simp at hj
  have h1 : ∀ y ∈ ([Value.int .i64 k] : List Value), y.oneCell' = true := by
    intro y hy
    rw [List.mem_singleton] at hy
    subst hy
    rfl
  obtain ⟨v', w', hr, h2, h3, h4⟩ := run_append_apart (P := Try.prog) w B 52 o.type 3 i0 _ 1 8 Try.underlying52 hi hz0 hz1 hz2 rfl (by decide) v ks.length _ hL ad 1 c [.int .i64 k] rfl hn h1 (by unfold maxLen; omega) hlen hB
  unfold Oper.wp execOp
  simp only [hop, resolve, invoke, builtin, Sem.run_bind, Sem.run_pure, Result.andThen_ok, List.map_toArray, List.map_cons, List.map_nil, hs, hx, hr]
  refine h v' w' ?_ h3 h4
  unfold OwnZ
  rw [List.length_append, List.map_append]
  exact h2

/-- A call of three arguments, at the operation itself. -/
theorem op_call3 {o : Oper} {d : Option Tmp} {a : Act} {w : World} {K : Act → World → Prop} {Q : Exit → Act → World → Prop} (hd : o.dst = d) (f : FuncId) (hf : ∀ x1 x2 x3 w, Sem.run Try.prog (callFunc f #[x1, x2, x3]) w = .ok (.enter f #[x1, x2, x3]) w) (s1 s2 s3 : Operand) (ts : Array TypeId)
    (ho : o.op = .call { callee := .value (.func f), args := #[s1, s2, s3], argTypes := ts }) (x1 x2 x3 : Value) (h1 : a.eval s1 = x1) (h2 : a.eval s2 = x2) (h3 : a.eval s3 = x3) (hc : Calls Try.prog f #[x1, x2, x3] w fun e w' => ∃ y, e = .returned y ∧ K (a.put d y) w') : Oper.wp Try.prog o a w K Q := by
  subst hd
  have hrun : (execOp a.eval o).run Try.prog w = .ok (.enter f #[x1, x2, x3]) w := by
    unfold execOp
    simp only [ho, resolve, invoke, List.map_toArray, List.map_cons, List.map_nil, h1, h2, h3]
    exact hf x1 x2 x3 w
  unfold Oper.wp
  rw [hrun, Oper.upon_enter]
  refine hc.mono fun e w' he => ?_
  obtain ⟨y, rfl, hy⟩ := he
  exact hy

namespace Pg
theorem Dg.anyP {w w' : World} {B P P' : Nat} {F : Nat → Prop} {ns : List Nd} {v : Value} {ab kb : Nat → Value} (h : Dg w w' B P F ns v ab kb) (hP : w.heap.size ≤ P) : Dg w w' B P' F ns v ab kb :=
  ⟨h.own, h.foot, ⟨h.kept.os, h.kept.tape, h.kept.output, h.kept.size, fun b hb hn => h.kept.block b hb (by
    rintro (e | e)
    · omega
    · exact hn (Or.inr e))⟩⟩

/-- A node's row of kids grows. -/
theorem OwnN.growKids {w w' : World} {B g c l : Nat} {ns : List Nd} {ab kb : Nat → Value} (h : OwnN w B (.slice (some ⟨g, 0, none⟩) l c) ns ab kb) {q : Nat} {n : Nd} (hq : ns[q]? = some n) (hg : w.grownBy w' (kb q).ownBlock) {kv : Value} {ks : List Int} (hK : OwnZ w' B kv ks) (hv : kv.ownBlock = (kb q).ownBlock ∨ ∀ b, kv.ownBlock = some b → w.heap.size ≤ b) (hk : I64 ks ∧ ks.length * 8 ≤ 140737488351232) :
    OwnN (w'.setCell ⟨g, q * 7 + 6, none⟩ kv) B (.slice (some ⟨g, 0, none⟩) l c) (ns.set q (n.withKids ks)) ab (upd kb q kv) ∧
      (∀ b, footN (.slice (some ⟨g, 0, none⟩) l c) (ns.set q (n.withKids ks)).length ab (upd kb q kv) b → footN (.slice (some ⟨g, 0, none⟩) l c) ns.length ab kb b ∨ w.heap.size ≤ b) := by
  obtain ⟨cur, hcur⟩ := h.rowBlock
  have hql : q < ns.length := (List.getElem?_eq_some_iff.1 hq).1
  have tyK : ∀ b, (kb q).ownBlock = some b → ∃ cu, w.heap[b]? = some (.cells cu 3 (0, 0)) := fun b hb => by
    obtain ⟨cu, hc, -⟩ := (h.kids q n hq).block hb
    exact ⟨cu, hc⟩
  have keep : ∀ b, b < w.heap.size → (∀ cu, w.heap[b]? ≠ some (.cells cu 3 (0, 0))) → w'.heap[b]? = w.heap[b]? := fun b hb hn => hg.block b hb (fun e => by
    obtain ⟨cu, hc⟩ := tyK b e.symm
    exact hn cu hc)
  have hcur' : w'.heap[g]? = some (.cells cur 57 (0, 0)) := (keep g (lt_of_block hcur) (fun cu e => by rw [hcur] at e; simp at e)).trans hcur
  have neK : ∀ {v : Value} {l : List Int} {D : Nat}, OwnZ w' D v l → ∀ b, v.ownBlock = some b → b ≠ g := by
    rintro v l D hv b hb rfl
    obtain ⟨cu, hc, -⟩ := hv.block hb
    rw [hcur'] at hc
    simp at hc
  have atsK : ∀ (i : Nat) (m : Nd), ns[i]? = some m → OwnA (w'.setCell ⟨g, q * 7 + 6, none⟩ kv) B (ab i) m.ats := fun i m hm => (h.ats i m hm).same fun b hb => by
    obtain ⟨cu, hc, -⟩ := (h.ats i m hm).block hb
    have h1 : b ≠ g := by rintro rfl; rw [hcur] at hc; simp at hc
    exact (heap_set_other _ h1).trans (keep b ((h.ats i m hm).lt b hb).2 (fun cu' e => by rw [hc] at e; simp at e))
  have hlen : (ns.set q (n.withKids ks)).length = ns.length := by simp
  refine ⟨⟨?_, ?_, ?_, ?_, ?_, ?_⟩, ?_⟩
  · rw [hlen, ← rowN_setK ns ab kb q n ks kv hq]
    exact ownsRow_set (ownsRow_same h.row fun b hb => by
      have : b = g := by simpa [Value.ownBlock] using hb.symm
      subst this
      exact hcur'.trans hcur.symm) _ _
  · intro i m hm
    rcases get_set_cases hm with ⟨rfl, rfl⟩ | ⟨hi, hm⟩
    · exact atsK i n hq
    · exact atsK i m hm
  · intro i m hm
    rcases get_set_cases hm with ⟨rfl, rfl⟩ | ⟨hi, hm⟩
    · rw [upd_same]
      exact hK.same fun b hb => heap_set_other _ (neK hK b hb)
    · rw [upd_other _ _ hi]
      have ho := h.kids i m hm
      have ho' : OwnZ w' B (kb i) m.kids := ho.same fun b hb => hg.block b (ho.lt b hb).2 (fun e => h.apk i q b (List.getElem?_eq_some_iff.1 hm).1 hql hi hb e.symm)
      exact ho'.same fun b hb => heap_set_other _ (neK ho' b hb)
  · rw [hlen]; exact h.apa
  · rw [hlen]
    intro i j b hi hj hij hb1 hb2
    have other : ∀ m, m < ns.length → m ≠ q → (kb m).ownBlock = some b → kv.ownBlock = some b → False := fun m hm hmq h1 h2 => by
      rcases hv with h3 | h3
      · rw [h3] at h2
        exact h.apk m q b hm hql hmq h1 h2
      · have := ((h.kids m ns[m] (List.getElem?_eq_getElem hm)).lt b h1).2
        have := h3 b h2
        omega
    by_cases e : i = q
    · subst e
      rw [upd_same] at hb1
      rw [upd_other _ _ (by omega)] at hb2
      exact other j hj (by omega) hb2 hb1
    · rw [upd_other _ _ e] at hb1
      by_cases e' : j = q
      · subst e'
        rw [upd_same] at hb2
        exact other i hi e hb1 hb2
      · rw [upd_other _ _ e'] at hb2
        exact h.apk i j b hi hj hij hb1 hb2
  · intro m hm
    rcases List.mem_or_eq_of_mem_set hm with hm | rfl
    · exact h.fit m hm
    · have hf := h.fit n (List.mem_of_getElem? hq)
      exact ⟨hf.id, hf.par, hf.node, hf.atr, hk⟩
  · rw [hlen]
    rintro b (hb | hb | ⟨i, hi, hb⟩)
    · exact Or.inl (Or.inl hb)
    · exact Or.inl (Or.inr (Or.inl hb))
    · by_cases e : i = q
      · subst e
        rw [upd_same] at hb
        rcases hv with h3 | h3
        · rw [h3] at hb
          exact Or.inl (Or.inr (Or.inr ⟨i, hql, hb⟩))
        · exact Or.inr (h3 b hb)
      · rw [upd_other _ _ e] at hb
        exact Or.inl (Or.inr (Or.inr ⟨i, hi, hb⟩))
end Pg

/-- What built answers. -/
def BuiltPost (w w' : World) (B : Nat) (e : Ending) (root : Int) (F : Nat → Prop) (ns : List Nd) (next : Int) : Prop :=
  ∃ v' ab' kb', e = .returned (.agg #[v', .int .i64 root, .int .i64 next]) ∧ Pg.Dg w w' B w.heap.size F ns v' ab' kb'

/-- What built does with trees of depth up to n. -/
def Builds (wt : World) (B : Nat) (root : Int) (n : Nat) : Prop := ∀ (v : T n) (y : Value) (ns : List Nd) (x par : Int) (w : World) (sv : Value) (ab kb : Nat → Value), LayT wt n y v → AllT few32 v → Below wt.heap.size wt w → B ≤ w.heap.size →
    Pg.OwnN w B sv ns ab kb → ns.length + ct v ≤ 1024 → 0 ≤ x → x + (ct v : Int) ≤ 2147483647 → (-9223372036854775808 ≤ par ∧ par ≤ 9223372036854775807) →
    Calls Try.prog 24 #[.agg #[sv, .int .i64 root, .int .i64 x], y, .int .i64 par] w fun e w' => BuiltPost w w' B e root (footN sv ns.length ab kb) (ns ++ bl par x v) (x + (ct v : Int))

theorem set_kids {ns l : List Nd} {x par : Int} {g k t : ByteArray} {ats : List Atr} {ks ks' : List Int} : (ns ++ [(⟨x, par, g, k, t, ats, ks⟩ : Nd)] ++ l).set ns.length ((⟨x, par, g, k, t, ats, ks⟩ : Nd).withKids ks') = ns ++ [(⟨x, par, g, k, t, ats, ks'⟩ : Nd)] ++ l := by
  rw [List.append_assoc, List.set_append_right _ _ (Nat.le_refl _), Nat.sub_self, List.append_assoc]
  rfl

/-- What stands ahead of the node's append. -/
structure Pre5 (w W5 : World) (B : Nat) (svr : Option Addr) (svc : Nat) (ns : List Nd) (ab kb : Nat → Value) (g5 : Nat) (nd : Nd) (av : Value) (cS cT cZ : Array Value) : Prop where
  own : Pg.OwnN W5 B (.slice svr ns.length svc) ns ab kb
  ats : OwnA W5 (w.heap.size + 4) av nd.ats
  bel : Below w.heap.size w W5
  new : ∀ j u, (cellsN nd av (.slice none 0 0))[j]? = some u → W5.cell? ((⟨g5, 0, none⟩ : Addr).add j) = some u
  b0 : W5.heap[w.heap.size]? = some (.cells cS 35 (0, 0))
  b1 : W5.heap[w.heap.size + 1]? = some (.cells cT 25 (0, 0))
  b2 : W5.heap[w.heap.size + 2]? = some (.cells cZ 35 (0, 0))
  ft : ∀ b, footN (.slice svr ns.length svc) ns.length ab kb b → b < w.heap.size

theorem pre5 {w WN w1 : World} {B : Nat} {svr : Option Addr} {svc : Nat} {ns : List Nd} {ab kb : Nat → Value} {x par : Int} {g k t : ByteArray} {ats : List Atr} {aa2 : Option Addr} {ac2 : Nat} {cS cT cZ : Array Value} (hO : Pg.OwnN w B (.slice svr ns.length svc) ns ab kb) (hN : Below w.heap.size w WN) (h1 : Below WN.heap.size WN w1) (hA : OwnA w1 WN.heap.size (.slice aa2 ats.length ac2) ats)
    (e0 : w1.heap[w.heap.size]? = some (.cells cS 35 (0, 0))) (e1 : w1.heap[w.heap.size + 1]? = some (.cells cT 25 (0, 0))) (e2 : w1.heap[w.heap.size + 2]? = some (.cells cZ 35 (0, 0))) (hs : WN.heap.size = w.heap.size + 4) :
    Hid (Pre5 w ((w1.setCell ⟨w.heap.size + 3, 5, none⟩ (.slice aa2 ats.length ac2)).alloc (.cells #[.int .i64 x, .int .i64 par, .string g, .string k, .string t, .slice aa2 ats.length ac2, .slice none 0 0] 57)) B svr svc ns ab kb w1.heap.size ⟨x, par, g, k, t, ats, []⟩ (.slice aa2 ats.length ac2) cS cT cZ) := by
  have hsz : (w1.setCell ⟨w.heap.size + 3, 5, none⟩ (.slice aa2 ats.length ac2)).heap.size = w1.heap.size := by simp [World.setCell]
  have b1 := below_one (w1.setCell ⟨w.heap.size + 3, 5, none⟩ (.slice aa2 ats.length ac2)) (.cells #[.int .i64 x, .int .i64 par, .string g, .string k, .string t, .slice aa2 ats.length ac2, .slice none 0 0] 57)
  have hb : Below w.heap.size w w1 := nxt hN h1
  have hbS : Below w.heap.size w (w1.setCell ⟨w.heap.size + 3, 5, none⟩ (.slice aa2 ats.length ac2)) := ⟨hb.os, hb.tape, hb.output, by rw [hsz]; exact hb.size, fun j hj => (heap_set_other _ (by omega)).trans (hb.block j hj)⟩
  have k1 : ∀ {j : Nat} {o : Obj}, j ≠ w.heap.size + 3 → w1.heap[j]? = some o → ((w1.setCell ⟨w.heap.size + 3, 5, none⟩ (.slice aa2 ats.length ac2)).alloc (.cells #[.int .i64 x, .int .i64 par, .string g, .string k, .string t, .slice aa2 ats.length ac2, .slice none 0 0] 57)).heap[j]? = some o := fun hj ho => (b1.block _ (by rw [hsz]; exact lt_of_block ho)).trans ((heap_set_other _ hj).trans ho)
  refine ⟨(hO.below hbS).below b1, ?_, nxt hbS b1, ?_, k1 (by omega) e0, k1 (by omega) e1, k1 (by omega) e2, fun b hb => (hO.foot hb).2⟩
  · rw [hs] at hA
    have hA' : OwnA (w1.setCell ⟨w.heap.size + 3, 5, none⟩ (.slice aa2 ats.length ac2)) (w.heap.size + 4) (.slice aa2 ats.length ac2) ats := OwnA.same hA fun b hb => heap_set_other _ (by have := (OwnA.rng hA hb).1; omega)
    exact OwnA.below hA' b1
  · intro j u hj
    have := newCells (w1.setCell ⟨w.heap.size + 3, 5, none⟩ (.slice aa2 ats.length ac2)) #[.int .i64 x, .int .i64 par, .string g, .string k, .string t, .slice aa2 ats.length ac2, .slice none 0 0] 57 j u (by rw [← Array.getElem?_toList]; exact hj)
    rwa [hsz] at this

theorem post6 {w W5 w6 : World} {B : Nat} {svr : Option Addr} {svc g5 : Nat} {ns : List Nd} {ab kb : Nat → Value} {nd : Nd} {av v6 : Value} {cS cT cZ : Array Value} (h : Pre5 w W5 B svr svc ns ab kb g5 nd av cS cT cZ) (hn : NdFit nd) (hk : nd.kids = []) (hB : B ≤ w.heap.size)
    (r1 : w6.ownsRow B 57 7 v6 (ns.length + 1) (rowN ns ab kb ++ cellsN nd av (.slice none 0 0))) (r2 : W5.grownBy w6 (Value.slice svr ns.length svc).ownBlock) (r3 : v6.ownBlock = (Value.slice svr ns.length svc).ownBlock ∨ ∀ b, v6.ownBlock = some b → W5.heap.size ≤ b) :
    Hid (w6.heap[w.heap.size]? = some (.cells cS 35 (0, 0)) ∧ w6.heap[w.heap.size + 1]? = some (.cells cT 25 (0, 0)) ∧ w6.heap[w.heap.size + 2]? = some (.cells cZ 35 (0, 0)) ∧
      ∃ ab' kb', Pg.Dg w w6 B w.heap.size (footN (.slice svr ns.length svc) ns.length ab kb) (ns ++ [nd]) v6 ab' kb') := by
  have kp : ∀ {j : Nat} {o : Obj}, w.heap.size ≤ j → W5.heap[j]? = some o → w6.heap[j]? = some o := fun hj ho => (r2.block _ (lt_of_block ho) (fun e => by
    have := h.ft _ (Or.inl e.symm)
    omega)).trans ho
  obtain ⟨o6, f6⟩ := h.own.pushA hn hk (OwnA.less h.ats (by omega)) (fun b hb hf => by
    have h1 := (OwnA.rng h.ats hb).1
    have h2 := h.ft b hf
    omega) r1 r2 r3
  have hsz := h.bel.size
  refine ⟨kp (Nat.le_refl _) h.b0, kp (by omega) h.b1, kp (by omega) h.b2, _, _, o6, fun b hb => ?_, ⟨r2.os.trans h.bel.os, r2.tape.trans h.bel.tape, r2.output.trans h.bel.output, Nat.le_trans hsz r2.size, fun b hb hn => (r2.block b (by omega) (fun e => hn (Or.inr (Or.inl e.symm)))).trans (h.bel.block b hb)⟩⟩
  rcases f6 b hb with h1 | h1 | h1
  · exact Or.inl h1
  · have := (OwnA.rng h.ats h1).1
    exact Or.inr (by omega)
  · exact Or.inr (by omega)

set_option maxRecDepth 100000 in
set_option maxHeartbeats 6400000 in
theorem built_node (wt : World) (B : Nat) (root : Int) (hBt : wt.heap.size ≤ B) (n : Nat) (ih : Builds wt B root n) (g k t : ByteArray) (ats : List Atr) (its : List (T n)) (aa : Option Addr) (ac : Nat) (ia : Option Addr) (ic : Nat) (ns : List Nd) (x par : Int) (w : World) (sv : Value) (ab kb : Nat → Value)
    (hf : FitT g k t ats.length ac its.length ic) (hna : aa = none → ats.length = 0 ∧ ac = 0) (hA : LayA wt aa ats) (hI : LayI wt (LayT wt n) ia its) (hall : its.length ≤ 32 ∧ ∀ u ∈ its, AllT few32 u) (hwt : Below wt.heap.size wt w) (hB : B ≤ w.heap.size)
    (hO : Pg.OwnN w B sv ns ab kb) (hlen : ns.length + (1 + sumK ct its) ≤ 1024) (hx0 : 0 ≤ x) (hx1 : x + ((1 + sumK ct its : Nat) : Int) ≤ 2147483647) (hpar : -9223372036854775808 ≤ par ∧ par ≤ 9223372036854775807) :
    Calls Try.prog 24 #[.agg #[sv, .int .i64 root, .int .i64 x], mkT g k t aa ats.length ac ia its.length ic, .int .i64 par] w fun e w' => BuiltPost w w' B e root (footN sv ns.length ab kb) (ns ++ ⟨x, par, g, k, t, ats, idK ct (x + 1) its⟩ :: blK ct (fun y u => bl x y u) (x + 1) its) (x + ((1 + sumK ct its : Nat) : Int)) := by
  obtain ⟨svr, svc, hsv⟩ := hO.shape
  subst hsv
  have IH : Hid (Builds wt B root n) := ih
  have HLI : Hid (LayI wt (LayT wt n) ia its) := hI
  have HLA : Hid (LayA wt aa ats) := hA
  have HAL : Hid (its.length ≤ 32 ∧ ∀ u ∈ its, AllT few32 u) := hall
  have HF : Hid (FitT g k t ats.length ac its.length ic) := hf
  have HNA : Hid (aa = none → ats.length = 0 ∧ ac = 0) := hna
  have HWT : Hid (Below wt.heap.size wt w) := hwt
  have HBT : Hid (wt.heap.size ≤ B ∧ B ≤ w.heap.size) := ⟨hBt, hB⟩
  have HO : Hid (Pg.OwnN w B (.slice svr ns.length svc) ns ab kb) := hO
  have HCT : Hid (ns.length + (1 + sumK ct its) ≤ 1024 ∧ 0 ≤ x ∧ x + ((1 + sumK ct its : Nat) : Int) ≤ 2147483647) := ⟨hlen, hx0, hx1⟩
  have HPR : Hid (-9223372036854775808 ≤ par ∧ par ≤ 9223372036854775807) := hpar
  have hnl : ns.length ≤ 1023 := by have := HCT.out.1; omega
  have hxb : 0 ≤ x ∧ x ≤ 2147483646 := by have := HCT.out; omega
  have hic : its.length ≤ ic ∧ ic ≤ 9223372036854775807 ∧ its.length ≤ 32 := ⟨HF.out.2.2.2.2.2.2.1, HF.out.2.2.2.2.2.2.2.1, HAL.out.1⟩
  clear hf hna hI hA hall hwt hBt hB hO hlen hx0 hx1 hpar ih
  obtain ⟨F, hF⟩ : ∃ F, F = footN (.slice svr ns.length svc) ns.length ab kb := ⟨_, rfl⟩
  rw [← hF]
  have HFF : Hid (F = footN (.slice svr ns.length svc) ns.length ab kb) := hF
  clear hF
  have HFO : Hid (∀ b, footN (.slice svr ns.length svc) ns.length ab kb b → B ≤ b ∧ b < w.heap.size) := fun b hb => HO.out.foot hb
  have BZ : Below w.heap.size w (((w.alloc (.cells #[.slice svr ns.length svc, .int .i64 root, .int .i64 x] 35)).alloc (.cells #[.string g, .string k, .string t, .slice aa ats.length ac, .slice ia its.length ic] 25)).alloc (.cells #[.slice none 0 0, .int .i64 0, .int .i64 0] 35)) := nxt (two_new _ _ _) (below_one _ _)
  have BN : Hid (Below w.heap.size w ((((w.alloc (.cells #[.slice svr ns.length svc, .int .i64 root, .int .i64 x] 35)).alloc (.cells #[.string g, .string k, .string t, .slice aa ats.length ac, .slice ia its.length ic] 25)).alloc (.cells #[.slice none 0 0, .int .i64 0, .int .i64 0] 35)).alloc (.cells #[.int .i64 x, .int .i64 par, .string g, .string k, .string t, .slice none 0 0, .slice none 0 0] 57))) := nxt BZ (below_one _ _)
  have SZ : (((w.alloc (.cells #[.slice svr ns.length svc, .int .i64 root, .int .i64 x] 35)).alloc (.cells #[.string g, .string k, .string t, .slice aa ats.length ac, .slice ia its.length ic] 25)).alloc (.cells #[.slice none 0 0, .int .i64 0, .int .i64 0] 35)).heap.size = w.heap.size + 3 := by simp
  have HBK : Hid (((((w.alloc (.cells #[.slice svr ns.length svc, .int .i64 root, .int .i64 x] 35)).alloc (.cells #[.string g, .string k, .string t, .slice aa ats.length ac, .slice ia its.length ic] 25)).alloc (.cells #[.slice none 0 0, .int .i64 0, .int .i64 0] 35)).alloc (.cells #[.int .i64 x, .int .i64 par, .string g, .string k, .string t, .slice none 0 0, .slice none 0 0] 57)).heap[w.heap.size]? = some (.cells #[.slice svr ns.length svc, .int .i64 root, .int .i64 x] 35 (0, 0)) ∧ ((((w.alloc (.cells #[.slice svr ns.length svc, .int .i64 root, .int .i64 x] 35)).alloc (.cells #[.string g, .string k, .string t, .slice aa ats.length ac, .slice ia its.length ic] 25)).alloc (.cells #[.slice none 0 0, .int .i64 0, .int .i64 0] 35)).alloc (.cells #[.int .i64 x, .int .i64 par, .string g, .string k, .string t, .slice none 0 0, .slice none 0 0] 57)).heap[w.heap.size + 1]? = some (.cells #[.string g, .string k, .string t, .slice aa ats.length ac, .slice ia its.length ic] 25 (0, 0)) ∧ ((((w.alloc (.cells #[.slice svr ns.length svc, .int .i64 root, .int .i64 x] 35)).alloc (.cells #[.string g, .string k, .string t, .slice aa ats.length ac, .slice ia its.length ic] 25)).alloc (.cells #[.slice none 0 0, .int .i64 0, .int .i64 0] 35)).alloc (.cells #[.int .i64 x, .int .i64 par, .string g, .string k, .string t, .slice none 0 0, .slice none 0 0] 57)).heap[w.heap.size + 2]? = some (.cells #[.slice none 0 0, .int .i64 0, .int .i64 0] 35 (0, 0)) ∧ ((((w.alloc (.cells #[.slice svr ns.length svc, .int .i64 root, .int .i64 x] 35)).alloc (.cells #[.string g, .string k, .string t, .slice aa ats.length ac, .slice ia its.length ic] 25)).alloc (.cells #[.slice none 0 0, .int .i64 0, .int .i64 0] 35)).alloc (.cells #[.int .i64 x, .int .i64 par, .string g, .string k, .string t, .slice none 0 0, .slice none 0 0] 57)).heap[w.heap.size + 3]? = some (.cells #[.int .i64 x, .int .i64 par, .string g, .string k, .string t, .slice none 0 0, .slice none 0 0] 57 (0, 0))) := by
    have b0 : ∀ (W : World) (o1 o2 o3 o4 : Obj), ((((W.alloc o1).alloc o2).alloc o3).alloc o4).heap[W.heap.size]? = some o1 ∧ ((((W.alloc o1).alloc o2).alloc o3).alloc o4).heap[W.heap.size + 1]? = some o2 ∧ ((((W.alloc o1).alloc o2).alloc o3).alloc o4).heap[W.heap.size + 2]? = some o3 ∧ ((((W.alloc o1).alloc o2).alloc o3).alloc o4).heap[W.heap.size + 3]? = some o4 := by
      intro W o1 o2 o3 o4
      have k1 : ∀ (V : World) (o : Obj) (j : Nat), j < V.heap.size → (V.alloc o).heap[j]? = V.heap[j]? := fun V o j hj => (below_one V o).block j hj
      have h2 := heap_new2 W o1 o2
      have h3 := heap_new2 (W.alloc o1) o2 o3
      have h4 := heap_new2 ((W.alloc o1).alloc o2) o3 o4
      have s1 : (W.alloc o1).heap.size = W.heap.size + 1 := by simp
      have s2 : ((W.alloc o1).alloc o2).heap.size = W.heap.size + 2 := by simp
      have s3 : (((W.alloc o1).alloc o2).alloc o3).heap.size = W.heap.size + 3 := by simp
      rw [s1] at h3
      rw [s2] at h4
      exact ⟨(k1 _ _ _ (by omega)).trans ((k1 _ _ _ (by omega)).trans ((k1 _ _ _ (by omega)).trans (heap_alloc_new _ _))), (k1 _ _ _ (by omega)).trans ((k1 _ _ _ (by omega)).trans h2), (k1 _ _ _ (by omega)).trans h3, h4⟩
    exact b0 w _ _ _ _
  have HSN : Hid (((((w.alloc (.cells #[.slice svr ns.length svc, .int .i64 root, .int .i64 x] 35)).alloc (.cells #[.string g, .string k, .string t, .slice aa ats.length ac, .slice ia its.length ic] 25)).alloc (.cells #[.slice none 0 0, .int .i64 0, .int .i64 0] 35)).alloc (.cells #[.int .i64 x, .int .i64 par, .string g, .string k, .string t, .slice none 0 0, .slice none 0 0] 57)).heap.size = w.heap.size + 4) := by show _ = _; simp
  have HLN : Hid (LayA ((((w.alloc (.cells #[.slice svr ns.length svc, .int .i64 root, .int .i64 x] 35)).alloc (.cells #[.string g, .string k, .string t, .slice aa ats.length ac, .slice ia its.length ic] 25)).alloc (.cells #[.slice none 0 0, .int .i64 0, .int .i64 0] 35)).alloc (.cells #[.int .i64 x, .int .i64 par, .string g, .string k, .string t, .slice none 0 0, .slice none 0 0] 57)) aa ats) := HLA.out.below (HWT.out.trans (BN.out.mono (by have := HBT.out; omega)))
  have HAB : Hid (ats.length * 32 ≤ 140737488351232) := HF.out.2.2.2.2.2.1
  have HNF : Hid (NdFit ⟨x, par, g, k, t, ats, []⟩) := by
    have hf := HF.out
    exact ⟨by show _ ≤ x ∧ x ≤ _; omega, HPR.out, ⟨hf.1, hf.2.1, hf.2.2.1, hf.2.2.2.2.2.1, by decide⟩, lay_atr HLA.out, (fun z hz => by cases hz), show 0 * 8 ≤ 140737488351232 by decide⟩
  clear BZ SZ
  go_enter Try.func24, Try.ntmps24
  obtain ⟨x0, x1, x2⟩ := three HBK.out.1
  obtain ⟨z0, z1, z2, z3, z4⟩ := (five HBK.out.2.1).1
  obtain ⟨n0, n1, n2, n3, n4, n5, n6⟩ := seven HBK.out.2.2.2
  have hn112 : (ns.length + 1) * 112 ≤ 140737488355328 := by omega
  go_wp2_with (first | (refine wpList_plain rfl fun K hK => op_copyA (d := some 26) rfl rfl (.tmp 23) (.tmp 25) rfl aa ac ats rfl rfl HNA.out HLN.out HAB.out ?_; intro av w1 q1 q2; obtain ⟨aa2, ac2, rfl⟩ := q1.shape; have A1 : Hid (OwnA w1 ((((w.alloc (.cells #[.slice svr ns.length svc, .int .i64 root, .int .i64 x] 35)).alloc (.cells #[.string g, .string k, .string t, .slice aa ats.length ac, .slice ia its.length ic] 25)).alloc (.cells #[.slice none 0 0, .int .i64 0, .int .i64 0] 35)).alloc (.cells #[.int .i64 x, .int .i64 par, .string g, .string k, .string t, .slice none 0 0, .slice none 0 0] 57)).heap.size (.slice aa2 ats.length ac2) ats) := q1; have B1 : Hid (Below ((((w.alloc (.cells #[.slice svr ns.length svc, .int .i64 root, .int .i64 x] 35)).alloc (.cells #[.string g, .string k, .string t, .slice aa ats.length ac, .slice ia its.length ic] 25)).alloc (.cells #[.slice none 0 0, .int .i64 0, .int .i64 0] 35)).alloc (.cells #[.int .i64 x, .int .i64 par, .string g, .string k, .string t, .slice none 0 0, .slice none 0 0] 57)).heap.size ((((w.alloc (.cells #[.slice svr ns.length svc, .int .i64 root, .int .i64 x] 35)).alloc (.cells #[.string g, .string k, .string t, .slice aa ats.length ac, .slice ia its.length ic] 25)).alloc (.cells #[.slice none 0 0, .int .i64 0, .int .i64 0] 35)).alloc (.cells #[.int .i64 x, .int .i64 par, .string g, .string k, .string t, .slice none 0 0, .slice none 0 0] 57)) w1) := q2; have E0 : Hid (w1.heap[w.heap.size]? = some (.cells #[.slice svr ns.length svc, .int .i64 root, .int .i64 x] 35 (0, 0))) := (q2.block _ (lt_of_block HBK.out.1)).trans HBK.out.1; have E1 : Hid (w1.heap[w.heap.size + 1]? = some (.cells #[.string g, .string k, .string t, .slice aa ats.length ac, .slice ia its.length ic] 25 (0, 0))) := (q2.block _ (lt_of_block HBK.out.2.1)).trans HBK.out.2.1; have E2 : Hid (w1.heap[w.heap.size + 2]? = some (.cells #[.slice none 0 0, .int .i64 0, .int .i64 0] 35 (0, 0))) := (q2.block _ (lt_of_block HBK.out.2.2.1)).trans HBK.out.2.2.1; have E3 : Hid (w1.heap[w.heap.size + 3]? = some (.cells #[.int .i64 x, .int .i64 par, .string g, .string k, .string t, .slice none 0 0, .slice none 0 0] 57 (0, 0))) := (q2.block _ (lt_of_block HBK.out.2.2.2)).trans HBK.out.2.2.2; obtain ⟨x0, x1, x2⟩ := three E0.out; obtain ⟨z0, z1, z2, z3, z4⟩ := (five E1.out).1; obtain ⟨n0, n1, n2, n3, n4, n5, n6⟩ := seven E3.out; have nf5 := (cell_of E3.out 5).2; have C5 := pre5 (x := x) (par := par) (g := g) (k := k) (t := t) HO.out BN.out B1.out A1.out E0.out E1.out E2.out HSN.out; clear q1 q2; refine hK _ _ ?_; clear hK K) | (refine Pg.wpList_pushN _ rfl (.tmp 29) (.tmp 31) rfl B (.slice svr ns.length svc) ns.length (rowN ns ab kb) rfl C5.out.own.row ⟨x, par, g, k, t, ats, []⟩ aa2 ats.length ac2 none 0 0 ⟨w1.heap.size, 0, none⟩ 1 rfl C5.out.new hn112 (Nat.le_trans HBT.out.2 C5.out.bel.size) ?_; intro v6 w6 r1 r2 r3; obtain ⟨va6, vc6, rfl⟩ := slice_of_own r1; have D6 := post6 C5.out HNF.out rfl HBT.out.2 r1 r2 r3; obtain ⟨p0, p1, p2⟩ := three D6.out.1; have pf0 := (cell_of D6.out.1 0).2; have pf2 := (cell_of D6.out.1 2).2; clear r1 r2 r3))
  obtain ⟨b6, b61, b62, ab6, kb6, d6⟩ := D6.out
  have hXT : w.heap.size ≠ w.heap.size + 1 := by omega
  have S8 : Hid (((w6.setCell ⟨w.heap.size, 0, none⟩ (.slice va6 (ns.length + 1) vc6)).setCell ⟨w.heap.size, 2, none⟩ (.int .i64 (x + 1))).heap[w.heap.size]? = some (.cells #[.slice va6 (ns.length + 1) vc6, .int .i64 root, .int .i64 (x + 1)] 35 (0, 0))) := by
    show _ = _
    rw [set_one_cell (set_one_cell b6 _) _]
    simp
  have T8 : Hid (((w6.setCell ⟨w.heap.size, 0, none⟩ (.slice va6 (ns.length + 1) vc6)).setCell ⟨w.heap.size, 2, none⟩ (.int .i64 (x + 1))).heap[w.heap.size + 1]? = some (.cells #[.string g, .string k, .string t, .slice aa ats.length ac, .slice ia its.length ic] 25 (0, 0))) := (heap_set_other _ (by omega)).trans ((heap_set_other _ (by omega)).trans b61)
  have R8 : Hid (((w6.setCell ⟨w.heap.size, 0, none⟩ (.slice va6 (ns.length + 1) vc6)).setCell ⟨w.heap.size, 2, none⟩ (.int .i64 (x + 1))).heap[w.heap.size + 2]? = some (.cells #[.slice none 0 0, .int .i64 0, .int .i64 0] 35 (0, 0))) := (heap_set_other _ (by omega)).trans ((heap_set_other _ (by omega)).trans b62)
  have D8 : Hid (∃ ab kb, Pg.Dg w ((w6.setCell ⟨w.heap.size, 0, none⟩ (.slice va6 (ns.length + 1) vc6)).setCell ⟨w.heap.size, 2, none⟩ (.int .i64 (x + 1))) B w.heap.size F (ns ++ [(⟨x, par, g, k, t, ats, []⟩ : Nd)]) (.slice va6 (ns.length + 1) vc6) ab kb) := by
    rw [HFF.out]
    refine ⟨ab6, kb6, d6.on (((Kept.refl _ _).setCell _ (Or.inl rfl)).setCell _ (Or.inl rfl)) fun b hb => ?_⟩
    have hne := d6.own.notState b6 hb
    exact (heap_set_other _ hne).trans (heap_set_other _ hne)
  clear D6 b6 b61 b62 d6 p0 p1 p2 pf0 pf2 C5 x0 x1 x2 z0 z1 z2 z3 z4 n0 n1 n2 n3 n4 n5 n6 nf5 E0 E1 E2 E3 A1 B1 HBK HSN HLN HNF HNA BN hn112 HO hXT
  generalize (w6.setCell ⟨w.heap.size, 0, none⟩ (.slice va6 (ns.length + 1) vc6)).setCell ⟨w.heap.size, 2, none⟩ (.int .i64 (x + 1)) = W8 at *
  go_loopw [10] (fun v10 wr => ∃ m : Nat, m ≤ its.length ∧ v10 = .int .i64 (m : Int) ∧ Hid (wr.heap[w.heap.size + 1]? = some (.cells #[.string g, .string k, .string t, .slice aa ats.length ac, .slice ia its.length ic] 25 (0, 0))) ∧ Hid (wr.heap[w.heap.size + 2]? = some (.cells #[.slice none 0 0, .int .i64 0, .int .i64 0] 35 (0, 0))) ∧
    Hid (∃ v a b, wr.heap[w.heap.size]? = some (.cells #[v, .int .i64 root, .int .i64 (x + 1 + (sumK ct (its.take m) : Int))] 35 (0, 0)) ∧ Pg.Dg w wr B w.heap.size F (ns ++ [(⟨x, par, g, k, t, ats, idK ct (x + 1) (its.take m)⟩ : Nd)] ++ blK ct (fun y u => bl x y u) (x + 1) (its.take m)) v a b)) (fun v10 _ => its.length - (intOf v10).toNat)
  case atStart =>
    obtain ⟨a7, b7, d7⟩ := D8.out
    refine ⟨0, Nat.zero_le _, rfl, T8.out, R8.out, ⟨.slice va6 (ns.length + 1) vc6, a7, b7, ?_, ?_⟩⟩
    · have e0 : x + 1 + ((sumK ct (its.take 0) : Nat) : Int) = x + 1 := by show x + 1 + ((0 : Nat) : Int) = x + 1; omega
      rw [e0]
      exact S8.out
    · show Pg.Dg w W8 B w.heap.size F (ns ++ [(⟨x, par, g, k, t, ats, []⟩ : Nd)] ++ []) _ _ _
      rw [List.append_nil]
      exact d7
  case round =>
    obtain ⟨m, hm, rfl, HX, HZ, HD⟩ := hrel
    by_cases hlt : m < its.length
    · obtain ⟨v7, a7, b7, hp7, hd7⟩ := HD.out
      have hbt : Below wt.heap.size wt wr := by
        have h1 := hd7.under HBT.out.2 (by rw [HFF.out]; exact fun b hb => (HFO.out b hb).1) HBT.out.2
        exact HWT.out.trans (h1.mono HBT.out.1)
      obtain ⟨kb0, ko, c0, c1, c2, c3, c4, hia, y0, y1, y2, y3, y4, hlt0⟩ := HLI.out m its[m] (List.getElem?_eq_getElem hlt)
      have HLK : Hid (LayT wt n (.agg #[c0, c1, c2, c3, c4]) its[m] ∧ AllT few32 its[m]) := ⟨hlt0, HAL.out.2 _ (List.getElem_mem hlt)⟩
      subst hia
      obtain ⟨kg, kk, kt, kaa, kal, kac, kia, kil, kic, hke⟩ := lay_shape n hlt0
      simp only [Value.agg.injEq, Array.mk.injEq, List.cons.injEq, and_true] at hke
      obtain ⟨rfl, rfl, rfl, rfl, rfl⟩ := hke
      have HSM : Hid (sumK ct (its.take m) + ct its[m] ≤ sumK ct its) := by
        show _ ≤ _
        have h1 := sumK_take ct its (m + 1)
        rw [take_snoc hlt, sumK_snoc] at h1
        exact h1
      obtain ⟨vr, vc, hv⟩ := hd7.own.shape
      subst hv
      have hat : (ns ++ [(⟨x, par, g, k, t, ats, idK ct (x + 1) (its.take m)⟩ : Nd)] ++ blK ct (fun y u => bl x y u) (x + 1) (its.take m))[ns.length]? = some (⟨x, par, g, k, t, ats, idK ct (x + 1) (its.take m)⟩ : Nd) := by simp
      obtain ⟨gr, hgr, -, -, -, -, -, -, r6⟩ := Pg.rowN_cells hd7.own.row hat
      subst hgr
      obtain ⟨cur, hcur⟩ := hd7.own.rowBlock
      obtain ⟨zr, zc, hzv⟩ := (hd7.own.kids _ _ hat).shape
      have HZ7 : Hid (OwnZ wr B (.slice zr (idK ct (x + 1) (its.take m)).length zc) (idK ct (x + 1) (its.take m)) ∧ b7 ns.length = .slice zr (idK ct (x + 1) (its.take m)).length zc) := ⟨by have := hd7.own.kids _ _ hat; rw [hzv] at this; exact this, hzv⟩
      rw [hzv] at r6
      have hLL : ns.length < (ns ++ [(⟨x, par, g, k, t, ats, idK ct (x + 1) (its.take m)⟩ : Nd)] ++ blK ct (fun y u => bl x y u) (x + 1) (its.take m)).length := (List.getElem?_eq_some_iff.1 hat).1
      have hLM : (ns ++ [(⟨x, par, g, k, t, ats, idK ct (x + 1) (its.take m)⟩ : Nd)] ++ blK ct (fun y u => bl x y u) (x + 1) (its.take m)).length ≤ 1024 := by
        rw [List.length_append, List.length_append, blK_len fun y u => bl_len n u x y]
        have := HCT.out.1
        have := sumK_take ct its m
        simp
        omega
      have hxs : -9223372036854775808 ≤ x + 1 + (sumK ct (its.take m) : Int) ∧ x + 1 + (sumK ct (its.take m) : Int) ≤ 2147483647 := by
        have h1 := HCT.out.2
        have h2 := HSM.out
        omega
      have HIL : Hid ((idK ct (x + 1) (its.take m)).length = m) := by show _ = _; rw [idK_length]; simp; omega
      have HTS : Hid (its.take (m + 1) = its.take m ++ [its[m]]) := take_snoc hlt
      have HII : Hid (I64 (idK ct (x + 1) (its.take m) ++ [x + 1 + (sumK ct (its.take m) : Int)])) := by
        rw [← idK_snoc ct (its.take m) (x + 1) its[m], ← take_snoc hlt]
        exact idK_i64 (by have := HCT.out.2; omega) (by have h1 := HCT.out.2; have h2 := sumK_take ct its (m + 1); omega)
      have HD7 : Hid (Pg.Dg w wr B w.heap.size F (ns ++ [(⟨x, par, g, k, t, ats, idK ct (x + 1) (its.take m)⟩ : Nd)] ++ blK ct (fun y u => bl x y u) (x + 1) (its.take m)) (.slice (some ⟨gr, 0, none⟩) (ns ++ [(⟨x, par, g, k, t, ats, idK ct (x + 1) (its.take m)⟩ : Nd)] ++ blK ct (fun y u => bl x y u) (x + 1) (its.take m)).length vc) a7 b7) := hd7
      have HAT : Hid ((ns ++ [(⟨x, par, g, k, t, ats, idK ct (x + 1) (its.take m)⟩ : Nd)] ++ blK ct (fun y u => bl x y u) (x + 1) (its.take m))[ns.length]? = some (⟨x, par, g, k, t, ats, idK ct (x + 1) (its.take m)⟩ : Nd)) := hat
      have HCU : Hid (wr.heap[gr]? = some (.cells cur 57 (0, 0))) := hcur
      have HP7 : Hid (wr.heap[w.heap.size]? = some (.cells #[.slice (some ⟨gr, 0, none⟩) (ns ++ [(⟨x, par, g, k, t, ats, idK ct (x + 1) (its.take m)⟩ : Nd)] ++ blK ct (fun y u => bl x y u) (x + 1) (its.take m)).length vc, .int .i64 root, .int .i64 (x + 1 + (sumK ct (its.take m) : Int))] 35 (0, 0))) := hp7
      have HKC : Hid (∀ w', Below wt.heap.size wt w' → w'.cell? ⟨kb0, ko + m * 5, none⟩ = some (.string kg) ∧ w'.cell? ⟨kb0, ko + m * 5 + 1, none⟩ = some (.string kk) ∧ w'.cell? ⟨kb0, ko + m * 5 + 2, none⟩ = some (.string kt) ∧ w'.cell? ⟨kb0, ko + m * 5 + 3, none⟩ = some (.slice kaa kal kac) ∧ w'.cell? ⟨kb0, ko + m * 5 + 4, none⟩ = some (.slice kia kil kic)) := fun w' hb => ⟨keepc hb _ _ y0, keepc hb _ _ y1, keepc hb _ _ y2, keepc hb _ _ y3, keepc hb _ _ y4⟩
      have HBW : Hid (Below wt.heap.size wt wr) := hbt
      clear HD hp7 hd7 hbt hlt0 y0 y1 y2 y3 y4 hat hcur hzv
      generalize hids : idK ct (x + 1) (its.take m) = ids at *
      have HIDS : Hid (ids = idK ct (x + 1) (its.take m)) := hids.symm
      clear hids
      generalize hx8 : x + 1 + (sumK ct (its.take m) : Int) = x8 at *
      have HX8I : Hid (x8 = x + 1 + (sumK ct (its.take m) : Int)) := hx8.symm
      clear hx8
      obtain ⟨NS, hNS⟩ : ∃ z, z = (ns ++ [(⟨x, par, g, k, t, ats, ids⟩ : Nd)] ++ blK ct (fun y u => bl x y u) (x + 1) (its.take m)) := ⟨_, rfl⟩
      have HNS : Hid (NS = (ns ++ [(⟨x, par, g, k, t, ats, ids⟩ : Nd)] ++ blK ct (fun y u => bl x y u) (x + 1) (its.take m))) := hNS
      rw [← hNS] at HD7 HAT HP7 hLL hLM
      have r6 : wr.cell? ⟨gr, ns.length * 7 + 6, none⟩ = some (.slice zr ids.length zc) := r6
      clear hNS
      have X4 : wr.cell? ⟨w.heap.size + 1, 4, none⟩ = some (.slice (some ⟨kb0, ko, none⟩) its.length ic) := (five HX.out).1.2.2.2.2
      go_wp2_with fail
      clear X4
      have HST : Hid (∀ W W', Below W.heap.size W W' → (fun w' : World => w'.heap[w.heap.size]? = some (.cells #[.slice (some ⟨gr, 0, none⟩) NS.length vc, .int .i64 root, .int .i64 x8] 35 (0, 0)) ∧ w'.heap[w.heap.size + 1]? = some (.cells #[.string g, .string k, .string t, .slice aa ats.length ac, .slice (some ⟨kb0, ko, none⟩) its.length ic] 25 (0, 0)) ∧ w'.cell? ⟨gr, ns.length * 7 + 6, none⟩ = some (.slice zr ids.length zc) ∧ Below wt.heap.size wt w') W → (fun w' : World => w'.heap[w.heap.size]? = some (.cells #[.slice (some ⟨gr, 0, none⟩) NS.length vc, .int .i64 root, .int .i64 x8] 35 (0, 0)) ∧ w'.heap[w.heap.size + 1]? = some (.cells #[.string g, .string k, .string t, .slice aa ats.length ac, .slice (some ⟨kb0, ko, none⟩) its.length ic] 25 (0, 0)) ∧ w'.cell? ⟨gr, ns.length * 7 + 6, none⟩ = some (.slice zr ids.length zc) ∧ Below wt.heap.size wt w') W') := fun W W' hb ⟨y0, y1, y2, y3⟩ => ⟨(hb.block _ (lt_of_block y0)).trans y0, (hb.block _ (lt_of_block y1)).trans y1, keepc hb _ _ y2, nxt y3 hb⟩
      have HS0 : (fun w' : World => w'.heap[w.heap.size]? = some (.cells #[.slice (some ⟨gr, 0, none⟩) NS.length vc, .int .i64 root, .int .i64 x8] 35 (0, 0)) ∧ w'.heap[w.heap.size + 1]? = some (.cells #[.string g, .string k, .string t, .slice aa ats.length ac, .slice (some ⟨kb0, ko, none⟩) its.length ic] 25 (0, 0)) ∧ w'.cell? ⟨gr, ns.length * 7 + 6, none⟩ = some (.slice zr ids.length zc) ∧ Below wt.heap.size wt w') wr.drew := ⟨HP7.out, HX.out, r6, HBW.out.drew⟩
      refine Rg.Till.region (fun w' : World => w'.heap[w.heap.size]? = some (.cells #[.slice (some ⟨gr, 0, none⟩) NS.length vc, .int .i64 root, .int .i64 x8] 35 (0, 0)) ∧ w'.heap[w.heap.size + 1]? = some (.cells #[.string g, .string k, .string t, .slice aa ats.length ac, .slice (some ⟨kb0, ko, none⟩) its.length ic] 25 (0, 0)) ∧ w'.cell? ⟨gr, ns.length * 7 + 6, none⟩ = some (.slice zr ids.length zc) ∧ Below wt.heap.size wt w') 15 (by kernel_rfl) ?_
      show Rg.Till _ _ _ _ _ 16 (Array.replicate 16 false) _ _
      refine Rg.Till.take (i := 0) (v := .pointer (some ⟨w.heap.size, 0, none⟩)) (some 49) rfl rfl (by kernel_rfl) (by kernel_rfl) (fun _ _ _ h => h) (by kernel_rfl) (by kernel_rfl) (Or.inl ⟨rfl, fun w' hS => ?_⟩) HS0 ?_
      · obtain ⟨y0, y1, y2⟩ := three hS.1; have y3 := hS.2.2.1; go_simp
      simp only [Act.put, List.setIfInBounds_toArray, List.set_cons_zero, List.set_cons_succ]
      refine Rg.Till.take (i := 1) (v := .slice (some ⟨gr, 0, none⟩) NS.length vc) (some 50) rfl rfl (by kernel_rfl) (by kernel_rfl) (fun _ _ _ h => h) (by kernel_rfl) (by kernel_rfl) (Or.inl ⟨rfl, fun w' hS => ?_⟩) HS0 ?_
      · obtain ⟨y0, y1, y2⟩ := three hS.1; have y3 := hS.2.2.1; go_simp
      simp only [Act.put, List.setIfInBounds_toArray, List.set_cons_zero, List.set_cons_succ]
      refine Rg.Till.take (i := 2) (v := .int .i64 (ns.length : Int)) (some 51) rfl rfl (by kernel_rfl) (by kernel_rfl) (fun _ _ _ h => h) (by kernel_rfl) (by kernel_rfl) (Or.inl ⟨rfl, fun w' hS => ?_⟩) HS0 ?_
      · obtain ⟨y0, y1, y2⟩ := three hS.1; have y3 := hS.2.2.1; go_simp
      simp only [Act.put, List.setIfInBounds_toArray, List.set_cons_zero, List.set_cons_succ]
      refine Rg.Till.take (i := 3) (v := .pointer (some ⟨w.heap.size, 0, none⟩)) (some 52) rfl rfl (by kernel_rfl) (by kernel_rfl) (fun _ _ _ h => h) (by kernel_rfl) (by kernel_rfl) (Or.inl ⟨rfl, fun w' hS => ?_⟩) HS0 ?_
      · obtain ⟨y0, y1, y2⟩ := three hS.1; have y3 := hS.2.2.1; go_simp
      simp only [Act.put, List.setIfInBounds_toArray, List.set_cons_zero, List.set_cons_succ]
      refine Rg.Till.take (i := 4) (v := .slice (some ⟨gr, 0, none⟩) NS.length vc) (some 53) rfl rfl (by kernel_rfl) (by kernel_rfl) (fun _ _ _ h => h) (by kernel_rfl) (by kernel_rfl) (Or.inl ⟨rfl, fun w' hS => ?_⟩) HS0 ?_
      · obtain ⟨y0, y1, y2⟩ := three hS.1; have y3 := hS.2.2.1; go_simp
      simp only [Act.put, List.setIfInBounds_toArray, List.set_cons_zero, List.set_cons_succ]
      refine Rg.Till.take (i := 5) (v := .int .i64 (ns.length : Int)) (some 54) rfl rfl (by kernel_rfl) (by kernel_rfl) (fun _ _ _ h => h) (by kernel_rfl) (by kernel_rfl) (Or.inl ⟨rfl, fun w' hS => ?_⟩) HS0 ?_
      · obtain ⟨y0, y1, y2⟩ := three hS.1; have y3 := hS.2.2.1; go_simp
      simp only [Act.put, List.setIfInBounds_toArray, List.set_cons_zero, List.set_cons_succ]
      refine Rg.Till.take (i := 6) (v := .pointer (some ⟨gr, ns.length * 7, none⟩)) (some 55) rfl rfl (by kernel_rfl) (by kernel_rfl) (fun _ _ _ h => h) (by kernel_rfl) (by kernel_rfl) (Or.inl ⟨rfl, fun w' hS => ?_⟩) HS0 ?_
      · obtain ⟨y0, y1, y2⟩ := three hS.1; have y3 := hS.2.2.1; go_simp
      simp only [Act.put, List.setIfInBounds_toArray, List.set_cons_zero, List.set_cons_succ]
      refine Rg.Till.take (i := 7) (v := .pointer (some ⟨gr, ns.length * 7 + 6, none⟩)) (some 56) rfl rfl (by kernel_rfl) (by kernel_rfl) (fun _ _ _ h => h) (by kernel_rfl) (by kernel_rfl) (Or.inl ⟨rfl, fun w' hS => ?_⟩) HS0 ?_
      · obtain ⟨y0, y1, y2⟩ := three hS.1; have y3 := hS.2.2.1; go_simp
      simp only [Act.put, List.setIfInBounds_toArray, List.set_cons_zero, List.set_cons_succ]
      refine Rg.Till.take (i := 8) (v := .slice zr ids.length zc) (some 57) rfl rfl (by kernel_rfl) (by kernel_rfl) (fun _ _ _ h => h) (by kernel_rfl) (by kernel_rfl) (Or.inl ⟨rfl, fun w' hS => ?_⟩) HS0 ?_
      · obtain ⟨y0, y1, y2⟩ := three hS.1; have y3 := hS.2.2.1; go_simp
      simp only [Act.put, List.setIfInBounds_toArray, List.set_cons_zero, List.set_cons_succ]
      refine Rg.Till.take (i := 9) (v := .pointer (some ⟨w.heap.size, 2, none⟩)) (some 58) rfl rfl (by kernel_rfl) (by kernel_rfl) (fun _ _ _ h => h) (by kernel_rfl) (by kernel_rfl) (Or.inl ⟨rfl, fun w' hS => ?_⟩) HS0 ?_
      · obtain ⟨y0, y1, y2⟩ := three hS.1; have y3 := hS.2.2.1; go_simp
      simp only [Act.put, List.setIfInBounds_toArray, List.set_cons_zero, List.set_cons_succ]
      refine Rg.Till.take (i := 10) (v := .int .i64 x8) (some 59) rfl rfl (by kernel_rfl) (by kernel_rfl) (fun _ _ _ h => h) (by kernel_rfl) (by kernel_rfl) (Or.inl ⟨rfl, fun w' hS => ?_⟩) HS0 ?_
      · obtain ⟨y0, y1, y2⟩ := three hS.1; have y3 := hS.2.2.1; go_simp
      simp only [Act.put, List.setIfInBounds_toArray, List.set_cons_zero, List.set_cons_succ]
      refine Rg.Till.oneK (i := 11) (by kernel_rfl) rfl rfl ?_
      intro K hK
      go_simp
      have hb1 : Below wr.heap.size wr (wr.alloc (.cells #[.int .i64 x8] 3)).drew := (below_one _ _).drew
      have HS1 : (fun w' : World => w'.heap[w.heap.size]? = some (.cells #[.slice (some ⟨gr, 0, none⟩) NS.length vc, .int .i64 root, .int .i64 x8] 35 (0, 0)) ∧ w'.heap[w.heap.size + 1]? = some (.cells #[.string g, .string k, .string t, .slice aa ats.length ac, .slice (some ⟨kb0, ko, none⟩) its.length ic] 25 (0, 0)) ∧ w'.cell? ⟨gr, ns.length * 7 + 6, none⟩ = some (.slice zr ids.length zc) ∧ Below wt.heap.size wt w') (wr.alloc (.cells #[.int .i64 x8] 3)).drew := HST.out _ _ (show Below wr.drew.heap.size wr.drew (wr.alloc (.cells #[.int .i64 x8] 3)).drew from below_one wr.drew _) HS0
      refine hK.out _ _ (fun _ => HS1) ?_
      clear hK K
      have Z1 : OwnZ (wr.alloc (.cells #[.int .i64 x8] 3)).drew B (.slice zr ids.length zc) ids := HZ7.out.1.below hb1
      have D1 := HD7.out.below hb1
      have N1 : (wr.alloc (.cells #[.int .i64 x8] 3)).drew.cell? ((⟨wr.heap.size, 0, none⟩ : Addr).add 0) = some (.int .i64 x8) := newCells wr _ _ 0 _ rfl
      have C1 : (wr.alloc (.cells #[.int .i64 x8] 3)).drew.heap[gr]? = some (.cells cur 57 (0, 0)) := (hb1.block _ (lt_of_block HCU.out)).trans HCU.out
      have R1 : (wr.alloc (.cells #[.int .i64 x8] 3)).drew.heap[w.heap.size + 2]? = some (.cells #[.slice none 0 0, .int .i64 0, .int .i64 0] 35 (0, 0)) := (hb1.block _ (lt_of_block HZ.out)).trans HZ.out
      have hil : ids.length ≤ 32 := by have := HIL.out; omega
      generalize (wr.alloc (.cells #[.int .i64 x8] 3)).drew = w1 at *
      refine Rg.Till.oneK (i := 12) (by kernel_rfl) rfl rfl ?_
      intro K hK
      refine op_pushI (d := some 61) rfl _ _ rfl B (.slice zr ids.length zc) ids rfl Z1 x8 ⟨wr.heap.size, 0, none⟩ 1 rfl N1 (by omega) (Nat.le_trans HBT.out.2 D1.kept.size) ?_
      intro v2 w2 q1 q2 q3
      have notZ : ∀ {j : Nat} {cs : Array Value} {ty : TypeId}, w1.heap[j]? = some (.cells cs ty (0, 0)) → ty ≠ 3 → w2.heap[j]? = some (.cells cs ty (0, 0)) := fun hj ht => (q2.block _ (lt_of_block hj) (fun e => by
        obtain ⟨cu, hc, -⟩ := OwnZ.block Z1 e.symm
        rw [hj] at hc
        simp at hc
        exact ht hc.2)).trans hj
      have HS2 : (fun w' : World => w'.heap[w.heap.size]? = some (.cells #[.slice (some ⟨gr, 0, none⟩) NS.length vc, .int .i64 root, .int .i64 x8] 35 (0, 0)) ∧ w'.heap[w.heap.size + 1]? = some (.cells #[.string g, .string k, .string t, .slice aa ats.length ac, .slice (some ⟨kb0, ko, none⟩) its.length ic] 25 (0, 0)) ∧ w'.cell? ⟨gr, ns.length * 7 + 6, none⟩ = some (.slice zr ids.length zc) ∧ Below wt.heap.size wt w') w2 := ⟨notZ HS1.1 (by decide), notZ HS1.2.1 (by decide), (World.cell?_of_block ((notZ C1 (by decide)).trans C1.symm)).trans HS1.2.2.1, HS1.2.2.2.trans ⟨q2.os, q2.tape, q2.output, q2.size, fun j hj => q2.block j (Nat.lt_of_lt_of_le hj HS1.2.2.2.size) (fun e => by
        have h1 := (Z1.lt j e.symm).1
        have h2 := HBT.out.1
        omega)⟩⟩
      refine hK.out _ _ (fun _ => HS2) ?_
      clear hK K
      simp only [Act.put, List.setIfInBounds_toArray, List.set_cons_zero, List.set_cons_succ]
      obtain ⟨z2r, z2c, rfl⟩ := q1.shape
      have C2 := notZ C1 (by decide)
      have s6 := HS2.2.2.1
      have sf := (cell_of C2 (ns.length * 7 + 6)).2
      refine Rg.Till.oneK (i := 13) (by kernel_rfl) rfl rfl ?_
      intro K hK
      go_simp
      refine hK.out _ _ (fun _ => HS2) ?_
      clear hK K
      refine Rg.Till.take (i := 14) (v := .pointer (some ⟨gr, ns.length * 7 + 6, none⟩)) (some 63) rfl rfl (by kernel_rfl) (by kernel_rfl) (fun _ _ _ h => h) (by kernel_rfl) (by kernel_rfl) (Or.inl ⟨rfl, fun w' hS => ?_⟩) HS2 ?_
      · obtain ⟨y0, y1, y2⟩ := three hS.1; have y3 := hS.2.2.1; go_simp
      simp only [Act.put, List.setIfInBounds_toArray, List.set_cons_zero, List.set_cons_succ]
      refine Rg.Till.oneK (i := 15) (by kernel_rfl) rfl rfl ?_
      intro K hK
      go_simp
      refine hK.out _ _ (fun h => absurd rfl h) ?_
      clear hK K
      refine Rg.Till.done (by kernel_rfl) ?_
      have hq1 : OwnZ w2 B (.slice z2r (ids ++ [x8]).length z2c) (ids ++ [x8]) := q1
      obtain ⟨o3, f3⟩ := D1.own.growKids (kv := .slice z2r (ids ++ [x8]).length z2c) (ks := ids ++ [x8]) HAT.out (by rw [HZ7.out.2]; exact q2) hq1 (by rw [HZ7.out.2]; exact q3) ⟨HII.out, by simp; omega⟩
      have hgS : w.heap.size ≠ gr := fun e => by
        have h1 := HP7.out
        rw [e, HCU.out] at h1
        simp at h1
      have hgT : w.heap.size + 1 ≠ gr := fun e => by
        have h1 := HX.out
        rw [e, HCU.out] at h1
        simp at h1
      have hgZ : w.heap.size + 2 ≠ gr := fun e => by
        have h1 := HZ.out
        rw [e, HCU.out] at h1
        simp at h1
      have D3 : Hid (Pg.Dg w (w2.setCell ⟨gr, ns.length * 7 + 6, none⟩ (.slice z2r (ids ++ [x8]).length z2c)) B w.heap.size F (ns ++ [(⟨x, par, g, k, t, ats, ids ++ [x8]⟩ : Nd)] ++ blK ct (fun y u => bl x y u) (x + 1) (its.take m)) (.slice (some ⟨gr, 0, none⟩) NS.length vc) a7 (upd b7 ns.length (.slice z2r (ids ++ [x8]).length z2c))) := by
        have e1 : NS.set ns.length ((⟨x, par, g, k, t, ats, ids⟩ : Nd).withKids (ids ++ [x8])) = ns ++ [(⟨x, par, g, k, t, ats, ids ++ [x8]⟩ : Nd)] ++ blK ct (fun y u => bl x y u) (x + 1) (its.take m) := by rw [HNS.out]; exact set_kids
        rw [e1] at o3 f3
        have hk1 := D1.kept
        refine ⟨o3, fun b hb => ?_, ?_⟩
        · rcases f3 b hb with h | h
          · exact D1.foot b h
          · exact Or.inr (Nat.le_trans hk1.size h)
        · refine ⟨q2.os.trans hk1.os, q2.tape.trans hk1.tape, q2.output.trans hk1.output, Nat.le_trans hk1.size (Nat.le_trans q2.size (by simp [World.setCell])), fun b hb hn => ?_⟩
          have hne : b ≠ gr := by
            rintro rfl
            rcases D1.foot b (Or.inl rfl) with h | h
            · exact hn (Or.inr h)
            · omega
          refine (heap_set_other _ hne).trans ((q2.block b (Nat.lt_of_lt_of_le hb hk1.size) (fun e => ?_)).trans (hk1.block b hb hn))
          rcases D1.foot b (Or.inr (Or.inr ⟨ns.length, hLL, by rw [HZ7.out.2]; exact e.symm⟩)) with h | h
          · exact hn (Or.inr h)
          · omega
      have S3 : Hid ((w2.setCell ⟨gr, ns.length * 7 + 6, none⟩ (.slice z2r (ids ++ [x8]).length z2c)).heap[w.heap.size]? = some (.cells #[.slice (some ⟨gr, 0, none⟩) NS.length vc, .int .i64 root, .int .i64 x8] 35 (0, 0))) := (heap_set_other _ hgS).trans HS2.1
      have T3 : Hid ((w2.setCell ⟨gr, ns.length * 7 + 6, none⟩ (.slice z2r (ids ++ [x8]).length z2c)).heap[w.heap.size + 1]? = some (.cells #[.string g, .string k, .string t, .slice aa ats.length ac, .slice (some ⟨kb0, ko, none⟩) its.length ic] 25 (0, 0))) := (heap_set_other _ hgT).trans HS2.2.1
      have R3 : Hid ((w2.setCell ⟨gr, ns.length * 7 + 6, none⟩ (.slice z2r (ids ++ [x8]).length z2c)).heap[w.heap.size + 2]? = some (.cells #[.slice none 0 0, .int .i64 0, .int .i64 0] 35 (0, 0))) := (heap_set_other _ hgZ).trans (notZ R1 (by decide))
      have BW3 : Hid (Below wt.heap.size wt (w2.setCell ⟨gr, ns.length * 7 + 6, none⟩ (.slice z2r (ids ++ [x8]).length z2c))) := by
        have h1 := D3.out.under HBT.out.2 (by rw [HFF.out]; exact fun b hb => (HFO.out b hb).1) HBT.out.2
        exact HWT.out.trans (h1.mono HBT.out.1)
      have hNL : (ns ++ [(⟨x, par, g, k, t, ats, ids ++ [x8]⟩ : Nd)] ++ blK ct (fun y u => bl x y u) (x + 1) (its.take m)).length = NS.length := by rw [HNS.out]; simp
      have hlen3 : ids.length + 1 = (ids ++ [x8]).length := by simp
      rw [hlen3] at *
      clear o3 f3 hq1 q1 q2 q3 notZ HS2 HS1 HS0 C2 s6 sf D1 Z1 C1 R1 N1 hb1 HD7 HAT HP7 HCU HX HZ HZ7 HST r6 hgS hgT hgZ HBW HII
      generalize w2.setCell ⟨gr, ns.length * 7 + 6, none⟩ (.slice z2r (ids ++ [x8]).length z2c) = w3 at *
      go_wp2_with fail
      have HS3 : (fun w' : World => w'.heap[w.heap.size]? = some (.cells #[.slice (some ⟨gr, 0, none⟩) NS.length vc, .int .i64 root, .int .i64 x8] 35 (0, 0)) ∧ w'.heap[w.heap.size + 1]? = some (.cells #[.string g, .string k, .string t, .slice aa ats.length ac, .slice (some ⟨kb0, ko, none⟩) its.length ic] 25 (0, 0)) ∧ Below wt.heap.size wt w') w3.drew := ⟨S3.out, T3.out, BW3.out.drew⟩
      refine Rg.Till.region (fun w' : World => w'.heap[w.heap.size]? = some (.cells #[.slice (some ⟨gr, 0, none⟩) NS.length vc, .int .i64 root, .int .i64 x8] 35 (0, 0)) ∧ w'.heap[w.heap.size + 1]? = some (.cells #[.string g, .string k, .string t, .slice aa ats.length ac, .slice (some ⟨kb0, ko, none⟩) its.length ic] 25 (0, 0)) ∧ Below wt.heap.size wt w') 8 (by kernel_rfl) ?_
      show Rg.Till _ _ _ _ _ 9 (Array.replicate 9 false) _ _
      refine Rg.Till.take (i := 0) (v := .agg #[.slice (some ⟨gr, 0, none⟩) NS.length vc, .int .i64 root, .int .i64 x8]) (some 64) rfl rfl (by kernel_rfl) (by kernel_rfl) (fun _ _ _ h => h) (by kernel_rfl) (by kernel_rfl) (Or.inl ⟨rfl, fun w' hS => ?_⟩) HS3 ?_
      · obtain ⟨y0, y1, y2⟩ := three hS.1; obtain ⟨t0, t1, t2, t3, t4⟩ := (five hS.2.1).1; obtain ⟨k0, k1, k2, k3, k4⟩ := HKC.out _ hS.2.2; go_simp
      simp only [Act.put, List.setIfInBounds_toArray, List.set_cons_zero, List.set_cons_succ]
      refine Rg.Till.take (i := 1) (v := .pointer (some ⟨w.heap.size + 1, 4, none⟩)) (some 65) rfl rfl (by kernel_rfl) (by kernel_rfl) (fun _ _ _ h => h) (by kernel_rfl) (by kernel_rfl) (Or.inl ⟨rfl, fun w' hS => ?_⟩) HS3 ?_
      · obtain ⟨y0, y1, y2⟩ := three hS.1; obtain ⟨t0, t1, t2, t3, t4⟩ := (five hS.2.1).1; obtain ⟨k0, k1, k2, k3, k4⟩ := HKC.out _ hS.2.2; go_simp
      simp only [Act.put, List.setIfInBounds_toArray, List.set_cons_zero, List.set_cons_succ]
      refine Rg.Till.take (i := 2) (v := .slice (some ⟨kb0, ko, none⟩) its.length ic) (some 66) rfl rfl (by kernel_rfl) (by kernel_rfl) (fun _ _ _ h => h) (by kernel_rfl) (by kernel_rfl) (Or.inl ⟨rfl, fun w' hS => ?_⟩) HS3 ?_
      · obtain ⟨y0, y1, y2⟩ := three hS.1; obtain ⟨t0, t1, t2, t3, t4⟩ := (five hS.2.1).1; obtain ⟨k0, k1, k2, k3, k4⟩ := HKC.out _ hS.2.2; go_simp
      simp only [Act.put, List.setIfInBounds_toArray, List.set_cons_zero, List.set_cons_succ]
      refine Rg.Till.take (i := 3) (v := .int .i64 (m : Int)) (some 67) rfl rfl (by kernel_rfl) (by kernel_rfl) (fun _ _ _ h => h) (by kernel_rfl) (by kernel_rfl) (Or.inl ⟨rfl, fun w' hS => ?_⟩) HS3 ?_
      · obtain ⟨y0, y1, y2⟩ := three hS.1; obtain ⟨t0, t1, t2, t3, t4⟩ := (five hS.2.1).1; obtain ⟨k0, k1, k2, k3, k4⟩ := HKC.out _ hS.2.2; go_simp
      simp only [Act.put, List.setIfInBounds_toArray, List.set_cons_zero, List.set_cons_succ]
      refine Rg.Till.take (i := 4) (v := .pointer (some ⟨kb0, ko + m * 5, none⟩)) (some 68) rfl rfl (by kernel_rfl) (by kernel_rfl) (fun _ _ _ h => h) (by kernel_rfl) (by kernel_rfl) (Or.inl ⟨rfl, fun w' hS => ?_⟩) HS3 ?_
      · obtain ⟨y0, y1, y2⟩ := three hS.1; obtain ⟨t0, t1, t2, t3, t4⟩ := (five hS.2.1).1; obtain ⟨k0, k1, k2, k3, k4⟩ := HKC.out _ hS.2.2; go_simp
      simp only [Act.put, List.setIfInBounds_toArray, List.set_cons_zero, List.set_cons_succ]
      refine Rg.Till.take (i := 5) (v := .agg #[.string kg, .string kk, .string kt, .slice kaa kal kac, .slice kia kil kic]) (some 69) rfl rfl (by kernel_rfl) (by kernel_rfl) (fun _ _ _ h => h) (by kernel_rfl) (by kernel_rfl) (Or.inl ⟨rfl, fun w' hS => ?_⟩) HS3 ?_
      · obtain ⟨y0, y1, y2⟩ := three hS.1; obtain ⟨t0, t1, t2, t3, t4⟩ := (five hS.2.1).1; obtain ⟨k0, k1, k2, k3, k4⟩ := HKC.out _ hS.2.2; go_simp
      simp only [Act.put, List.setIfInBounds_toArray, List.set_cons_zero, List.set_cons_succ]
      refine Rg.Till.take (i := 6) (v := .int .i64 x) (some 70) rfl rfl (by kernel_rfl) (by kernel_rfl) (fun _ _ _ h => h) (by kernel_rfl) (by kernel_rfl) (Or.inl ⟨rfl, fun w' hS => ?_⟩) HS3 ?_
      · obtain ⟨y0, y1, y2⟩ := three hS.1; obtain ⟨t0, t1, t2, t3, t4⟩ := (five hS.2.1).1; obtain ⟨k0, k1, k2, k3, k4⟩ := HKC.out _ hS.2.2; go_simp
      simp only [Act.put, List.setIfInBounds_toArray, List.set_cons_zero, List.set_cons_succ]
      have HC : Calls Try.prog 24 #[.agg #[.slice (some ⟨gr, 0, none⟩) NS.length vc, .int .i64 root, .int .i64 x8], .agg #[.string kg, .string kk, .string kt, .slice kaa kal kac, .slice kia kil kic], .int .i64 x] w3.drew fun e w' => BuiltPost w3.drew w' B e root (footN (.slice (some ⟨gr, 0, none⟩) NS.length vc) (ns ++ [(⟨x, par, g, k, t, ats, ids ++ [x8]⟩ : Nd)] ++ blK ct (fun y u => bl x y u) (x + 1) (its.take m)).length a7 (upd b7 ns.length (.slice z2r (ids ++ [x8]).length z2c))) ((ns ++ [(⟨x, par, g, k, t, ats, ids ++ [x8]⟩ : Nd)] ++ blK ct (fun y u => bl x y u) (x + 1) (its.take m)) ++ bl x x8 its[m]) (x8 + (ct its[m] : Int)) := by
        have h3 : Pg.OwnN w3.drew B (.slice (some ⟨gr, 0, none⟩) NS.length vc) (ns ++ [(⟨x, par, g, k, t, ats, ids ++ [x8]⟩ : Nd)] ++ blK ct (fun y u => bl x y u) (x + 1) (its.take m)) a7 (upd b7 ns.length (.slice z2r (ids ++ [x8]).length z2c)) := D3.out.own.below (Below.refl _ w3).drew
        refine IH.out its[m] _ _ _ x w3.drew (.slice (some ⟨gr, 0, none⟩) NS.length vc) a7 _ HLK.out.1 HLK.out.2 BW3.out.drew (Nat.le_trans HBT.out.2 D3.out.kept.size) h3 ?_ ?_ ?_ ⟨by omega, by omega⟩
        · have h1 := HCT.out.1
          have h2 := HSM.out
          rw [List.length_append, List.length_append, blK_len fun y u => bl_len n u x y]
          simp
          omega
        · have := HCT.out.2.1; have := HX8I.out; omega
        · have h1 := HCT.out.2.2
          have h2 := HSM.out
          have := HX8I.out
          omega
      refine Rg.Till.oneK (i := 7) (by kernel_rfl) rfl rfl ?_
      intro K hK
      refine op_call3 (d := some 71) rfl 24 (by intros; go_simp) _ _ _ _ rfl _ _ _ rfl rfl rfl (HC.mono ?_)
      rintro e w4 ⟨v9, a9, b9, rfl, hd9⟩
      have D4 : Hid (Pg.Dg w w4 B w.heap.size F ((ns ++ [(⟨x, par, g, k, t, ats, ids ++ [x8]⟩ : Nd)] ++ blK ct (fun y u => bl x y u) (x + 1) (its.take m)) ++ bl x x8 its[m]) v9 a9 b9) := (D3.out.below (Below.refl _ w3).drew).trans (Pg.Dg.anyP hd9 (Nat.le_refl _))
      have k4 : ∀ {j : Nat} {cs : Array Value} {ty : TypeId}, w3.drew.heap[j]? = some (.cells cs ty (0, 0)) → ty ≠ 57 → ty ≠ 90 → ty ≠ 3 → w4.heap[j]? = some (.cells cs ty (0, 0)) := fun hj h1 h2 h3 => (hd9.kept.block _ (lt_of_block hj) (by
        rintro (e | e)
        · have := lt_of_block hj
          omega
        · exact (D3.out.own.below (Below.refl _ w3).drew).notTy hj h1 h2 h3 e rfl)).trans hj
      have HS4 : (fun w' : World => w'.heap[w.heap.size]? = some (.cells #[.slice (some ⟨gr, 0, none⟩) NS.length vc, .int .i64 root, .int .i64 x8] 35 (0, 0)) ∧ w'.heap[w.heap.size + 1]? = some (.cells #[.string g, .string k, .string t, .slice aa ats.length ac, .slice (some ⟨kb0, ko, none⟩) its.length ic] 25 (0, 0)) ∧ Below wt.heap.size wt w') w4 := ⟨k4 HS3.1 (by decide) (by decide) (by decide), k4 HS3.2.1 (by decide) (by decide) (by decide), by
        have h1 := D4.out.under HBT.out.2 (by rw [HFF.out]; exact fun b hb => (HFO.out b hb).1) HBT.out.2
        exact HWT.out.trans (h1.mono HBT.out.1)⟩
      have R4 : w4.heap[w.heap.size + 2]? = some (.cells #[.slice none 0 0, .int .i64 0, .int .i64 0] 35 (0, 0)) := k4 R3.out (by decide) (by decide) (by decide)
      refine ⟨_, rfl, hK.out _ _ (fun _ => HS4) ?_⟩
      clear hK K HC
      simp only [Act.put, List.setIfInBounds_toArray, List.set_cons_zero, List.set_cons_succ]
      refine Rg.Till.oneK (i := 8) (by kernel_rfl) rfl rfl ?_
      intro K hK
      obtain ⟨v9r, v9c, hv9⟩ := D4.out.own.shape
      subst hv9
      refine Rg.op_storeF rfl 35 (.tmp 3) (.tmp 71) rfl w.heap.size _ 35 [.slice v9r ((ns ++ [(⟨x, par, g, k, t, ats, ids ++ [x8]⟩ : Nd)] ++ blK ct (fun y u => bl x y u) (x + 1) (its.take m)) ++ bl x x8 its[m]).length v9c, .int .i64 root, .int .i64 (x8 + (ct its[m] : Int))] rfl rfl HS4.1 rfl (by kernel_rfl) (by simp [Value.oneCell']) ?_
      intro w5 f1 f2 f3
      refine hK.out _ _ (fun h => absurd rfl h) ?_
      clear hK K
      refine Rg.Till.done (by kernel_rfl) ?_
      have D5 : Hid (Pg.Dg w w5 B w.heap.size F ((ns ++ [(⟨x, par, g, k, t, ats, ids ++ [x8]⟩ : Nd)] ++ blK ct (fun y u => bl x y u) (x + 1) (its.take m)) ++ bl x x8 its[m]) (.slice v9r ((ns ++ [(⟨x, par, g, k, t, ats, ids ++ [x8]⟩ : Nd)] ++ blK ct (fun y u => bl x y u) (x + 1) (its.take m)) ++ bl x x8 its[m]).length v9c) a9 b9) := by
        have h1 := f3 w.heap.size w (Nat.le_refl _)
        refine D4.out.on ?_ fun b hb => f2 b (D4.out.own.notState HS4.1 hb)
        have h2 := f3 w.heap.size w4 (Nat.le_refl _) ⟨rfl, rfl, rfl, Nat.le_refl _, fun _ _ => rfl⟩
        exact ⟨h2.os, h2.tape, h2.output, h2.size, fun b hb hn => f2 b (fun e => hn (Or.inl e))⟩
      have S5 : Hid (w5.heap[w.heap.size]? = _) := f1
      have T5 : Hid (w5.heap[w.heap.size + 1]? = _) := (f2 _ (by omega)).trans HS4.2.1
      have R5 : Hid (w5.heap[w.heap.size + 2]? = _) := (f2 _ (by omega)).trans R4
      clear f1 f2 f3 HS4 R4 k4 hd9 D4 HS3 S3 T3 R3 D3 BW3 HKC
      go_wp2_with fail
      go_roundw
      case rel =>
        refine ⟨m + 1, by omega, by go_num, T5.out, R5.out, ⟨.slice v9r ((ns ++ [(⟨x, par, g, k, t, ats, ids ++ [x8]⟩ : Nd)] ++ blK ct (fun y u => bl x y u) (x + 1) (its.take m)) ++ bl x x8 its[m]).length v9c, a9, b9, ?_, ?_⟩⟩
        · have e : x8 + (ct its[m] : Int) = x + 1 + ((sumK ct (its.take (m + 1)) : Nat) : Int) := by
            rw [HTS.out, sumK_snoc, HX8I.out]
            omega
          rw [← e]
          exact S5.out
        · rw [HTS.out, blK_snoc, ← List.append_assoc, idK_snoc, ← HIDS.out, ← HX8I.out]
          exact D5.out
      case measure => simp [intOf]; omega
    · obtain ⟨v7, a7, b7, hp7, hd7⟩ := HD.out
      have et : its.take m = its := List.take_of_length_le (by omega)
      rw [et] at hp7 hd7
      obtain ⟨vr, vc, hv⟩ := hd7.own.shape
      subst hv
      have HP7 : Hid (wr.heap[w.heap.size]? = _) := hp7
      have HD7 : Hid (Pg.Dg w wr B w.heap.size F _ _ a7 b7) := hd7
      obtain ⟨s0, s1, s2⟩ := three hp7
      obtain ⟨x0, x0f⟩ := cell_of HZ.out 0
      obtain ⟨x1, x1f⟩ := cell_of HZ.out 1
      obtain ⟨x2, x2f⟩ := cell_of HZ.out 2
      simp at x0 x1 x2
      have X4 : wr.cell? ⟨w.heap.size + 1, 4, none⟩ = some (.slice ia its.length ic) := (five HX.out).1.2.2.2.2
      clear hp7 hd7 HD
      generalize hLL : (ns ++ [(⟨x, par, g, k, t, ats, idK ct (x + 1) its⟩ : Nd)] ++ blK ct (fun y u => bl x y u) (x + 1) its).length = LL at *
      go_wp2_with fail
      have HZ' : wr.heap[w.heap.size + 1 + 1]? = some (.cells #[.slice none 0 0, .int .i64 0, .int .i64 0] 35 (0, 0)) := HZ.out
      obtain ⟨f1, f2, f3⟩ := state_fin (v := .slice vr LL vc) (r := .int .i64 root) (n := .int .i64 (x + 1 + (sumK ct its : Int))) HZ'
      have f4 := f3 (w.heap.size + 1 + 1) wr (Nat.le_refl _) ⟨rfl, rfl, rfl, Nat.le_refl _, fun _ _ => rfl⟩
      clear x0 x0f x1 x1f x2 x2f s0 s1 s2 X4 f3
      generalize ((wr.setCell ⟨w.heap.size + 1 + 1, 0, none⟩ (.slice vr LL vc)).setCell ⟨w.heap.size + 1 + 1, 1, none⟩ (.int .i64 root)).setCell ⟨w.heap.size + 1 + 1, 2, none⟩ (.int .i64 (x + 1 + (sumK ct its : Int))) = W9 at *
      obtain ⟨c0, c1, c2⟩ := three f1
      refine bodyPost_ret (v := .agg #[.slice vr LL vc, .int .i64 root, .int .i64 (x + 1 + (sumK ct its : Int))]) (by simp [results, Try.results24, go_sem, c0, c1, c2]) rfl ?_
      refine ⟨.slice vr LL vc, a7, b7, ?_, ?_⟩
      · have e : x + 1 + ((sumK ct its : Nat) : Int) = x + ((1 + sumK ct its : Nat) : Int) := by omega
        rw [e]
      · have h7 := HD7.out
        rw [List.append_assoc] at h7
        refine h7.on ⟨f4.os, f4.tape, f4.output, f4.size, fun b hb hn => f2 b (fun e => hn (Or.inr (Or.inr (by omega))))⟩ fun b hb => f2 b (fun e => h7.own.notState HZ' hb e)

theorem built_any (wt : World) (B : Nat) (root : Int) (hBt : wt.heap.size ≤ B) : ∀ n, Builds wt B root n
  | 0 => fun v => v.elim
  | n + 1 => fun (g, k, t, ats, its) _ ns x par w sv ab kb ⟨aa, ac, ia, ic, hy, hf, hna, _, hA, hI⟩ hall hwt hB hO hlen hx0 hx1 hpar => by
    subst hy
    exact built_node wt B root hBt n (built_any wt B root hBt n) g k t ats its aa ac ia ic ns x par w sv ab kb hf hna hA hI hall hwt hB hO hlen hx0 hx1 hpar
end Go.Proofs.Ytomhfndjnbhliaa
