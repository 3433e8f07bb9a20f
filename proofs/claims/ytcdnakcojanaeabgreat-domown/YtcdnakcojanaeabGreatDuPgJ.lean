/-
  Rows of the page's nodes: what is known of rows of the program's, with the page's type. (Printed by wip/make/mkdupg.py.)
-/
import Derived.Test.YtcdnakcojanaeabGreatDbMathJ
import Derived.Test.YtcdnakcojanaeabGreatDoArgJ
import Derived.Test.YtcdnakcojanaeabGreatRgStoreM
namespace Go.Proofs.YtcdnakcojanaeabGreat.Pg
open Go.ChangeShapes Go.WideShapes Go.ChangeAt Go.RowKit Go.Deep
open Do

theorem infoNodeP : (Tryz.prog.info? 56).map (fun i => (i.zero, i.size, i.bytes)) = some (some (mkN 0 0 ⟨#[]⟩ ⟨#[]⟩ ⟨#[]⟩ none 0 0 none 0 0), 7, 112) := by kernel_rfl

theorem rowN_cells {w : World} {B : Nat} {a : Option Addr} {l c : Nat} {ns : List Nd} {ab kb : Nat → Value} (h : w.ownsRow B 56 7 (.slice a l c) ns.length (rowN ns ab kb)) {i : Nat} {n : Nd} (hi : ns[i]? = some n) :
    ∃ g, a = some ⟨g, 0, none⟩ ∧ w.cell? ⟨g, i * 7, none⟩ = some (.int .i64 n.id) ∧ w.cell? ⟨g, i * 7 + 1, none⟩ = some (.int .i64 n.par) ∧ w.cell? ⟨g, i * 7 + 2, none⟩ = some (.string n.tag) ∧ w.cell? ⟨g, i * 7 + 3, none⟩ = some (.string n.key) ∧ w.cell? ⟨g, i * 7 + 4, none⟩ = some (.string n.txt) ∧ w.cell? ⟨g, i * 7 + 5, none⟩ = some (ab i) ∧ w.cell? ⟨g, i * 7 + 6, none⟩ = some (kb i) := by
  have e : ∀ (j : Nat) (v : Value), j < 7 → (cellsN n (ab i) (kb i))[j]? = some v → ∃ g, a = some ⟨g, 0, none⟩ ∧ w.cell? ⟨g, i * 7 + j, none⟩ = some v := by
    intro j v hj hv
    obtain ⟨g, h1, h2⟩ := cells_of_own h (i * 7 + j) v (by rw [rowN_at hi hj]; exact hv)
    rw [Nat.zero_add] at h2
    exact ⟨g, h1, h2⟩
  obtain ⟨g, ha, q0⟩ := e 0 _ (by omega) rfl
  subst ha
  have f : ∀ (j : Nat) (v : Value), j < 7 → (cellsN n (ab i) (kb i))[j]? = some v → w.cell? ⟨g, i * 7 + j, none⟩ = some v := by
    intro j v hj hv
    obtain ⟨g', h1, h2⟩ := e j v hj hv
    cases h1
    exact h2
  exact ⟨g, rfl, q0, f 1 _ (by omega) rfl, f 2 _ (by omega) rfl, f 3 _ (by omega) rfl, f 4 _ (by omega) rfl, f 5 _ (by omega) rfl, f 6 _ (by omega) rfl⟩

structure OwnN (w : World) (B : Nat) (v : Value) (ns : List Nd) (ab kb : Nat → Value) : Prop where
  row : w.ownsRow B 56 7 v ns.length (rowN ns ab kb)
  ats : ∀ (i : Nat) (n : Nd), ns[i]? = some n → OwnA w B (ab i) n.ats
  kids : ∀ (i : Nat) (n : Nd), ns[i]? = some n → OwnZ w B (kb i) n.kids
  apa : ApartF ns.length ab
  apk : ApartF ns.length kb
  fit : ∀ n ∈ ns, NdFit n

theorem OwnN.nil (w : World) (B : Nat) : OwnN w B (.slice none 0 0) [] (fun _ => .slice none 0 0) (fun _ => .slice none 0 0) :=
  ⟨World.ownsRow_nil _ _ _ _, fun i n h => by simp at h, fun i n h => by simp at h, fun i j g h => by simp at h, fun i j g h => by simp at h, fun n h => by cases h⟩

theorem OwnN.same {w w' : World} {B : Nat} {v : Value} {ns : List Nd} {ab kb : Nat → Value} (h : OwnN w B v ns ab kb) (hk : ∀ b, footN v ns.length ab kb b → w'.heap[b]? = w.heap[b]?) : OwnN w' B v ns ab kb :=
  ⟨ownsRow_same h.row fun g hg => hk g (Or.inl hg), fun i n hi => (h.ats i n hi).same fun b hb => hk b (Or.inr (Or.inl ⟨i, (List.getElem?_eq_some_iff.1 hi).1, hb⟩)), fun i n hi => (h.kids i n hi).same fun b hb => hk b (Or.inr (Or.inr ⟨i, (List.getElem?_eq_some_iff.1 hi).1, hb⟩)), h.apa, h.apk, h.fit⟩

theorem OwnN.foot {w : World} {B : Nat} {v : Value} {ns : List Nd} {ab kb : Nat → Value} (h : OwnN w B v ns ab kb) {b : Nat} (hb : footN v ns.length ab kb b) : B ≤ b ∧ b < w.heap.size := by
  rcases hb with hb | ⟨i, hi, hb⟩ | ⟨i, hi, hb⟩
  · exact h.row.lt b hb
  · exact (h.ats i ns[i] (List.getElem?_eq_getElem hi)).lt b hb
  · exact (h.kids i ns[i] (List.getElem?_eq_getElem hi)).lt b hb

theorem OwnN.below {w w' : World} {B : Nat} {v : Value} {ns : List Nd} {ab kb : Nat → Value} (h : OwnN w B v ns ab kb) (hb : Below w.heap.size w w') : OwnN w' B v ns ab kb := h.same fun b hb' => hb.block b (h.foot hb').2

theorem OwnN.shape {w : World} {B : Nat} {v : Value} {ns : List Nd} {ab kb : Nat → Value} (h : OwnN w B v ns ab kb) : ∃ a c, v = .slice a ns.length c := slice_of_own h.row

theorem OwnN.lay {w : World} {B : Nat} {a : Option Addr} {l c : Nat} {ns : List Nd} {ab kb : Nat → Value} (h : OwnN w B (.slice a l c) ns ab kb) : LayN w a ns := by
  intro i n hi
  obtain ⟨g, rfl, q0, q1, q2, q3, q4, q5, q6⟩ := rowN_cells h.row hi
  have hA := h.ats i n hi
  have hK := h.kids i n hi
  obtain ⟨aa, ac, ea⟩ := hA.shape
  obtain ⟨ka, kc, ek⟩ := hK.shape
  have hf := h.fit n (List.mem_of_getElem? hi)
  rw [ea] at q5 hA
  rw [ek] at q6 hK
  have hnm := hK.nm hf.kids.1 hf.kids.2
  refine ⟨g, 0, aa, ac, ka, kc, rfl, ?_⟩
  rw [Nat.zero_add]
  refine ⟨q0, q1, q2, q3, q4, q5, q6, ⟨hf.id, hf.par, hf.node, ⟨(cap_of_own hA).1, (cap_of_own hA).2, hf.node.2.2.2.1, none_of_own hA⟩, hnm.2.1, hnm.2.2.1, hnm.2.2.2.1, hnm.2.2.2.2.1, hnm.2.2.2.2.2⟩, hA.lay hf.atr, hnm.1⟩

theorem OwnN.rowBlock {w : World} {B g l c : Nat} {ns : List Nd} {ab kb : Nat → Value} (h : OwnN w B (.slice (some ⟨g, 0, none⟩) l c) ns ab kb) : ∃ cur, w.heap[g]? = some (.cells cur 56 (0, 0)) := by
  rcases h.row.2 with ⟨q, -⟩ | ⟨g', cap, cur, q, _, q2, -⟩
  · simp at q
  · simp only [Value.slice.injEq, Option.some.injEq, Addr.mk.injEq, and_true] at q
    obtain ⟨rfl, -, -⟩ := q
    exact ⟨cur, q2⟩

theorem OwnN.setKids {w : World} {B g c l : Nat} {ns : List Nd} {ab kb : Nat → Value} (h : OwnN w B (.slice (some ⟨g, 0, none⟩) l c) ns ab kb) {q : Nat} {n : Nd} (hq : ns[q]? = some n) {kv : Value} {ks : List Int} (hK : OwnZ w B kv ks) (hk : I64 ks ∧ ks.length * 8 ≤ 140737488351232) (hap : ∀ j b, j < ns.length → kv.ownBlock = some b → (kb j).ownBlock ≠ some b) :
    OwnN (w.setCell ⟨g, q * 7 + 6, none⟩ kv) B (.slice (some ⟨g, 0, none⟩) l c) (ns.set q (n.withKids ks)) ab (upd kb q kv) := by
  obtain ⟨cur, hcur⟩ := h.rowBlock
  have neA : ∀ {v : Value} {l : List Atr} {D : Nat}, OwnA w D v l → ∀ b, v.ownBlock = some b → b ≠ g := by
    rintro v l D hv b hb rfl
    obtain ⟨cu, hc, -⟩ := hv.block hb
    rw [hcur] at hc
    simp at hc
  have neK : ∀ {v : Value} {l : List Int} {D : Nat}, OwnZ w D v l → ∀ b, v.ownBlock = some b → b ≠ g := by
    rintro v l D hv b hb rfl
    obtain ⟨cu, hc, -⟩ := hv.block hb
    rw [hcur] at hc
    simp at hc
  have hlen : (ns.set q (n.withKids ks)).length = ns.length := by simp
  refine ⟨?_, ?_, ?_, ?_, ?_, ?_⟩
  · rw [hlen, ← rowN_setK ns ab kb q n ks kv hq]
    exact ownsRow_set h.row _ _
  · intro i m hm
    rcases get_set_cases hm with ⟨rfl, rfl⟩ | ⟨hi, hm⟩
    · have ho := h.ats i n hq
      exact ho.same fun b hb => heap_set_other _ (neA ho b hb)
    · have ho := h.ats i m hm
      exact ho.same fun b hb => heap_set_other _ (neA ho b hb)
  · intro i m hm
    rcases get_set_cases hm with ⟨rfl, rfl⟩ | ⟨hi, hm⟩
    · rw [upd_same]
      exact hK.same fun b hb => heap_set_other _ (neK hK b hb)
    · rw [upd_other _ _ hi]
      have ho := h.kids i m hm
      exact ho.same fun b hb => heap_set_other _ (neK ho b hb)
  · rw [hlen]; exact h.apa
  · rw [hlen]
    intro i j b hi hj hij hb1 hb2
    by_cases e : i = q
    · subst e
      rw [upd_same] at hb1
      rw [upd_other _ _ (by omega)] at hb2
      exact hap j b hj hb1 hb2
    · rw [upd_other _ _ e] at hb1
      by_cases e' : j = q
      · subst e'
        rw [upd_same] at hb2
        exact hap i b hi hb2 hb1
      · rw [upd_other _ _ e'] at hb2
        exact h.apk i j b hi hj hij hb1 hb2
  · intro m hm
    rcases List.mem_or_eq_of_mem_set hm with hm | rfl
    · exact h.fit m hm
    · have hf := h.fit n (List.mem_of_getElem? hq)
      exact ⟨hf.id, hf.par, hf.node, hf.atr, hk⟩

theorem wpList_pushN (w : World) {ops : Array Oper} {rest : List Oper} {o : Oper} {a : Act} {Q : Exit → Act → World → Prop} (hgd : o.guard = none) (s x : Operand)
    (hop : o.op = .call { callee := .builtin .append, args := #[s, x], argTypes := #[22, 22] })
    (B : Nat) (v : Value) (m : Nat) (cs : List Value) (hs : a.eval s = v) (hL : w.ownsRow B 56 7 v m cs) (n : Nd) (aa : Option Addr) (al ac : Nat) (ka : Option Addr) (kl kc : Nat) (ad : Addr) (c : Nat) (hx : a.eval x = .slice (some ad) 1 c)
    (hnews : ∀ j u, (cellsN n (.slice aa al ac) (.slice ka kl kc))[j]? = some u → w.cell? (ad.add j) = some u) (hlen : (m + 1) * 112 ≤ 140737488355328) (hB : B ≤ w.heap.size)
    (h : ∀ v' w', w'.ownsRow B 56 7 v' (m + 1) (cs ++ cellsN n (.slice aa al ac) (.slice ka kl kc)) → w.grownBy w' v.ownBlock → (v'.ownBlock = v.ownBlock ∨ ∀ g, v'.ownBlock = some g → w.heap.size ≤ g) → wpList Tryz.prog ops Q rest (a.put o.dst v') w') : wpList Tryz.prog ops Q (o :: rest) a w := by
  obtain ⟨i0, hi, hz0, hz1, hz2⟩ := info_parts infoNodeP
  refine wpList_append_apart w hgd s x 22 hop B 56 i0 _ 7 112 Tryz.underlying22 hi hz0 hz1 hz2 rfl (by decide) v m _ hs hL (some ad) 1 c (cellsN n (.slice aa al ac) (.slice ka kl kc)) hx (by simp) rfl ?_ ?_ (by unfold maxLen; omega) hlen hB h
  · intro ad' e j u hj
    cases e
    exact hnews j u hj
  · intro y hy
    simp [cellsN] at hy
    rcases hy with rfl | rfl | rfl | rfl | rfl | rfl | rfl <;> rfl

theorem OwnN.notState {w : World} {B : Nat} {v : Value} {ns : List Nd} {ab kb : Nat → Value} (h : OwnN w B v ns ab kb) {P : Nat} {cs : Array Value} (hP : w.heap[P]? = some (.cells cs 24 (0, 0))) {b : Nat} (hb : footN v ns.length ab kb b) : b ≠ P := by
  rintro rfl
  rcases hb with hb | ⟨i, hi, hb⟩ | ⟨i, hi, hb⟩
  · rcases h.row.2 with ⟨rfl, -⟩ | ⟨g', cap, cur, rfl, _, q2, -⟩
    · cases hb
    · simp only [Value.ownBlock, Option.some.injEq] at hb
      subst hb
      rw [hP] at q2
      simp at q2
  · obtain ⟨cu, hc, -⟩ := (h.ats i ns[i] (List.getElem?_eq_getElem hi)).block hb
    rw [hP] at hc
    simp at hc
  · obtain ⟨cu, hc, -⟩ := (h.kids i ns[i] (List.getElem?_eq_getElem hi)).block hb
    rw [hP] at hc
    simp at hc

theorem OwnN.notTy {w : World} {B : Nat} {v : Value} {ns : List Nd} {ab kb : Nat → Value} (h : OwnN w B v ns ab kb) {P : Nat} {cs : Array Value} {ty : TypeId} (hP : w.heap[P]? = some (.cells cs ty (0, 0))) (t1 : ty ≠ 56) (t2 : ty ≠ 43) (t3 : ty ≠ 3) {b : Nat} (hb : footN v ns.length ab kb b) : b ≠ P := by
  rintro rfl
  rcases hb with hb | ⟨i, hi, hb⟩ | ⟨i, hi, hb⟩
  · rcases h.row.2 with ⟨rfl, -⟩ | ⟨g', cap, cur, rfl, _, q2, -⟩
    · cases hb
    · simp only [Value.ownBlock, Option.some.injEq] at hb
      subst hb
      rw [hP] at q2
      simp at q2
      exact t1 q2.2
  · obtain ⟨cu, hc, -⟩ := (h.ats i ns[i] (List.getElem?_eq_getElem hi)).block hb
    rw [hP] at hc
    simp at hc
    exact t2 hc.2
  · obtain ⟨cu, hc, -⟩ := (h.kids i ns[i] (List.getElem?_eq_getElem hi)).block hb
    rw [hP] at hc
    simp at hc
    exact t3 hc.2

theorem OwnN.pushA {w w' : World} {B : Nat} {v v' : Value} {ns : List Nd} {ab kb : Nat → Value} (h : OwnN w B v ns ab kb) {n : Nd} (hn : NdFit n) (hk : n.kids = []) {av : Value} (hA : OwnA w B av n.ats) (hap : ∀ b, av.ownBlock = some b → ¬ footN v ns.length ab kb b)
    (hr : w'.ownsRow B 56 7 v' (ns.length + 1) (rowN ns ab kb ++ cellsN n av (.slice none 0 0))) (hg : w.grownBy w' v.ownBlock) (hv : v'.ownBlock = v.ownBlock ∨ ∀ g, v'.ownBlock = some g → w.heap.size ≤ g) :
    OwnN w' B v' (ns ++ [n]) (upd ab ns.length av) (upd kb ns.length (.slice none 0 0)) ∧
      ∀ b, footN v' (ns ++ [n]).length (upd ab ns.length av) (upd kb ns.length (.slice none 0 0)) b → footN v ns.length ab kb b ∨ av.ownBlock = some b ∨ w.heap.size ≤ b := by
  have isRow : ∀ b, v.ownBlock = some b → ∃ cur, w.heap[b]? = some (.cells cur 56 (0, 0)) := by
    intro b e
    rcases h.row.2 with ⟨rfl, -⟩ | ⟨g', cap, cur, rfl, _, q2, -⟩
    · cases e
    · simp only [Value.ownBlock, Option.some.injEq] at e
      subst e
      exact ⟨cur, q2⟩
  have notRow : ∀ b, (∃ i, i < ns.length ∧ ((ab i).ownBlock = some b ∨ (kb i).ownBlock = some b)) → some b ≠ v.ownBlock := by
    rintro b ⟨i, hi, hb⟩ e
    obtain ⟨cur, hcur⟩ := isRow b e.symm
    rcases hb with hb | hb
    · obtain ⟨cu, hc, -⟩ := (h.ats i ns[i] (List.getElem?_eq_getElem hi)).block hb
      rw [hcur] at hc
      simp at hc
    · obtain ⟨cu, hc, -⟩ := (h.kids i ns[i] (List.getElem?_eq_getElem hi)).block hb
      rw [hcur] at hc
      simp at hc
  have avRow : ∀ b, av.ownBlock = some b → some b ≠ v.ownBlock := fun b hb e => hap b hb (Or.inl e.symm)
  have e1 : rowN (ns ++ [n]) (upd ab ns.length av) (upd kb ns.length (.slice none 0 0)) = rowN ns ab kb ++ cellsN n av (.slice none 0 0) := by
    rw [rowN_snoc, upd_same, upd_same, rowN_congr ns fun i hi => ⟨upd_other _ _ (by omega), upd_other _ _ (by omega)⟩]
  have split : ∀ (i : Nat) (m : Nd), (ns ++ [n])[i]? = some m → (i < ns.length ∧ ns[i]? = some m) ∨ (i = ns.length ∧ m = n) := by
    intro i m hm
    by_cases hi : i < ns.length
    · rw [List.getElem?_append_left hi] at hm
      exact Or.inl ⟨hi, hm⟩
    · rw [List.getElem?_append_right (by omega)] at hm
      have hz : i - ns.length = 0 := by
        have := (List.getElem?_eq_some_iff.1 hm).1
        simp at this
        omega
      rw [hz] at hm
      simp at hm
      exact Or.inr ⟨by omega, hm.symm⟩
  have hlen : (ns ++ [n]).length = ns.length + 1 := by simp
  refine ⟨⟨by rw [hlen, e1]; exact hr, ?_, ?_, ?_, ?_, ?_⟩, ?_⟩
  · intro i m hm
    rcases split i m hm with ⟨hi, hm⟩ | ⟨rfl, rfl⟩
    · rw [upd_other _ _ (by omega)]
      have ho := h.ats i m hm
      exact ho.same fun b hb => hg.block b (ho.lt b hb).2 (notRow b ⟨i, hi, Or.inl hb⟩)
    · rw [upd_same]
      exact hA.same fun b hb => hg.block b (hA.lt b hb).2 (avRow b hb)
  · intro i m hm
    rcases split i m hm with ⟨hi, hm⟩ | ⟨rfl, rfl⟩
    · rw [upd_other _ _ (by omega)]
      have ho := h.kids i m hm
      exact ho.same fun b hb => hg.block b (ho.lt b hb).2 (notRow b ⟨i, hi, Or.inr hb⟩)
    · rw [upd_same, hk]
      exact OwnZ.nil _ _
  · intro i j b hi hj hij hb hb'
    rw [hlen] at hi hj
    by_cases e : i = ns.length
    · subst e
      rw [upd_same] at hb
      rw [upd_other _ _ (by omega)] at hb'
      exact hap b hb (Or.inr (Or.inl ⟨j, by omega, hb'⟩))
    · by_cases e' : j = ns.length
      · subst e'
        rw [upd_same] at hb'
        rw [upd_other _ _ e] at hb
        exact hap b hb' (Or.inr (Or.inl ⟨i, by omega, hb⟩))
      · rw [upd_other _ _ e] at hb
        rw [upd_other _ _ e'] at hb'
        exact h.apa i j b (by omega) (by omega) hij hb hb'
  · intro i j b hi hj hij hb hb'
    rw [hlen] at hi hj
    by_cases e : i = ns.length
    · subst e; rw [upd_same] at hb; cases hb
    · by_cases e' : j = ns.length
      · subst e'; rw [upd_same] at hb'; cases hb'
      · rw [upd_other _ _ e] at hb
        rw [upd_other _ _ e'] at hb'
        exact h.apk i j b (by omega) (by omega) hij hb hb'
  · intro m hm
    rcases List.mem_append.1 hm with hm | hm
    · exact h.fit m hm
    · rw [List.mem_singleton] at hm
      subst hm
      exact hn
  · rw [hlen]
    rintro b (hb | ⟨i, hi, hb⟩ | ⟨i, hi, hb⟩)
    · rcases hv with hv | hv
      · rw [hv] at hb
        exact Or.inl (Or.inl hb)
      · exact Or.inr (Or.inr (hv b hb))
    · by_cases e : i = ns.length
      · subst e
        rw [upd_same] at hb
        exact Or.inr (Or.inl hb)
      · rw [upd_other _ _ e] at hb
        exact Or.inl (Or.inr (Or.inl ⟨i, by omega, hb⟩))
    · by_cases e : i = ns.length
      · subst e
        rw [upd_same] at hb
        cases hb
      · rw [upd_other _ _ e] at hb
        exact Or.inl (Or.inr (Or.inr ⟨i, by omega, hb⟩))

structure Dg (w0 w : World) (B P : Nat) (F0 : Nat → Prop) (ns : List Nd) (v : Value) (ab kb : Nat → Value) : Prop where
  own : OwnN w B v ns ab kb
  foot : ∀ b, footN v ns.length ab kb b → F0 b ∨ w0.heap.size ≤ b
  kept : Kept (fun b => b = P ∨ F0 b) w0 w

theorem Dg.start {w : World} {B P : Nat} {ns : List Nd} {v : Value} {ab kb : Nat → Value} (h : OwnN w B v ns ab kb) : Dg w w B P (footN v ns.length ab kb) ns v ab kb := ⟨h, fun _ hb => Or.inl hb, Kept.refl _ _⟩

theorem Dg.on {w0 w w' : World} {B P : Nat} {F0 : Nat → Prop} {ns : List Nd} {v : Value} {ab kb : Nat → Value} (h : Dg w0 w B P F0 ns v ab kb) (hk : Kept (fun b => b = P ∨ F0 b ∨ w0.heap.size ≤ b) w w') (hf : ∀ b, footN v ns.length ab kb b → w'.heap[b]? = w.heap[b]?) : Dg w0 w' B P F0 ns v ab kb :=
  ⟨h.own.same hf, h.foot, ⟨hk.os.trans h.kept.os, hk.tape.trans h.kept.tape, hk.output.trans h.kept.output, Nat.le_trans h.kept.size hk.size, fun b hb hn => (hk.block b (Nat.lt_of_lt_of_le hb h.kept.size) (by
    rintro (e | e | e)
    · exact hn (Or.inl e)
    · exact hn (Or.inr e)
    · omega)).trans (h.kept.block b hb hn)⟩⟩

theorem Dg.below {w0 w w' : World} {B P : Nat} {F0 : Nat → Prop} {ns : List Nd} {v : Value} {ab kb : Nat → Value} (h : Dg w0 w B P F0 ns v ab kb) (hb : Below w.heap.size w w') : Dg w0 w' B P F0 ns v ab kb :=
  h.on (Kept.of_below hb) fun b hf => hb.block b (h.own.foot hf).2

theorem Dg.trans {w0 w w' : World} {B P : Nat} {F0 : Nat → Prop} {ns ns' : List Nd} {v v' : Value} {ab kb ab' kb' : Nat → Value} (h : Dg w0 w B P F0 ns v ab kb) (k : Dg w w' B P (footN v ns.length ab kb) ns' v' ab' kb') : Dg w0 w' B P F0 ns' v' ab' kb' := by
  refine ⟨k.own, fun b hb => ?_, ⟨k.kept.os.trans h.kept.os, k.kept.tape.trans h.kept.tape, k.kept.output.trans h.kept.output, Nat.le_trans h.kept.size k.kept.size, fun b hb hn => (k.kept.block b (Nat.lt_of_lt_of_le hb h.kept.size) ?_).trans (h.kept.block b hb hn)⟩⟩
  · rcases k.foot b hb with h1 | h1
    · exact h.foot b h1
    · exact Or.inr (Nat.le_trans h.kept.size h1)
  · rintro (e | e)
    · exact hn (Or.inl e)
    · rcases h.foot b e with h1 | h1
      · exact hn (Or.inr h1)
      · omega

theorem Dg.under {w0 w : World} {B P : Nat} {F0 : Nat → Prop} {ns : List Nd} {v : Value} {ab kb : Nat → Value} (h : Dg w0 w B P F0 ns v ab kb) (hP : B ≤ P) (hF : ∀ b, F0 b → B ≤ b) (hB : B ≤ w0.heap.size) : Below B w0 w :=
  ⟨h.kept.os, h.kept.tape, h.kept.output, h.kept.size, fun b hb => h.kept.block b (by omega) (by
    rintro (e | e)
    · omega
    · have := hF b e; omega)⟩

end Go.Proofs.YtcdnakcojanaeabGreat.Pg

/-
  The page's less.
-/
namespace Go.Proofs.YtcdnakcojanaeabGreat
open Go.ChangeShapes Go.WideShapes Go.ChangeAt Go.RowKit Go.Deep
open Do

set_option maxRecDepth 100000 in
set_option maxHeartbeats 1600000 in
theorem rless_any (ks : List Int) (x0 : Int) (a : Option Addr) (c : Nat) (w : World) (hl : NmZ w a c ks) :
    Calls Tryz.prog 51 #[.slice a ks.length c, .int .i64 x0] w fun e w' => ∃ v, e = .returned v ∧ OwnZ w' w.heap.size v (lessZ ks x0) ∧ Below w.heap.size w w' := by
  have HL : Hid (NmZ w a c ks) := hl
  have hln : ks.length * 8 ≤ 140737488351232 := hl.2.2.2.1
  clear hl
  go_enter Tryz.func51, Tryz.ntmps51
  go_wp2_with fail
  go_loopw [5, 6] (fun v5 v6 wr => ∃ i : Nat, i ≤ ks.length ∧ v6 = .int .i64 (i : Int) ∧ Hid (OwnZ wr w.heap.size v5 ((ks.take i).filter fun y => !(y == x0))) ∧ Hid (Below w.heap.size w wr)) (fun _ v6 _ => ks.length - (intOf v6).toNat)
  case atStart => exact ⟨0, Nat.zero_le _, rfl, OwnZ.nil _ _, Below.refl _ _⟩
  case round =>
    obtain ⟨i, hi, rfl, HO, HB⟩ := hrel
    by_cases hlt : i < ks.length
    · obtain ⟨b, o, ha, r1, _⟩ := HL.out.1.below HB.out i ks[i] (List.getElem?_eq_getElem hlt)
      subst ha
      have HT : Hid ((ks.take (i + 1)).filter (fun y => !(y == x0)) = (ks.take i).filter (fun y => !(y == x0)) ++ (if (!(ks[i] == x0)) = true then [ks[i]] else [])) := filter_take hlt
      have HLE : Hid (((ks.take i).filter fun y => !(y == x0)).length ≤ i) := by show _ ≤ _; have h1 := List.length_filter_le (fun y => !(y == x0)) (ks.take i); simp only [List.length_take] at h1; omega
      obtain ⟨oa, oc, hov⟩ := HO.out.shape
      subst hov
      generalize (ks.take i).filter (fun y => !(y == x0)) = fl at *
      by_cases hp : ks[i] = x0
      · have g0 : (ks[i] != x0) = false := by simpa using hp
        rw [show (ks[i] == x0) = true by simpa using hp] at HT
        simp only [Bool.not_true, Bool.false_eq_true, if_false, List.append_nil] at HT
        clear hp
        generalize ks[i] = x at *
        go_wp2_with fail
        go_roundw
        case rel => exact ⟨i + 1, by omega, by go_num, by rw [HT.out]; exact HO.out, HB.out⟩
        case measure => simp [intOf]; omega
      · have g0 : (ks[i] != x0) = true := by simpa using hp
        rw [show (ks[i] == x0) = false by simpa using hp] at HT
        simp only [Bool.not_false, if_true] at HT
        clear hp
        generalize ks[i] = x at *
        have HOX : Hid (OwnZ (wr.alloc (.cells #[.int .i64 x] 3)) w.heap.size (.slice oa fl.length oc) fl) := HO.out.below (below_one _ _)
        have HBX : Hid (Below w.heap.size w (wr.alloc (.cells #[.int .i64 x] 3))) := nxt HB.out (below_one _ _)
        have HNW : Hid ((wr.alloc (.cells #[.int .i64 x] 3)).cell? ((⟨wr.heap.size, 0, none⟩ : Addr).add 0) = some (.int .i64 x)) := newCells wr _ _ 0 _ rfl
        have HSZ : Hid ((fl.length + 1) * 8 ≤ 140737488355328 ∧ w.heap.size ≤ (wr.alloc (.cells #[.int .i64 x] 3)).heap.size) := ⟨by have := HLE.out; omega, HBX.out.size⟩
        clear HO HB
        go_wp2_with (refine wpList_pushI _ rfl (.tmp 19) (.tmp 24) rfl w.heap.size _ fl rfl HOX.out x ⟨wr.heap.size, 0, none⟩ 1 rfl HNW.out HSZ.out.1 HSZ.out.2 ?_; intro v' w' q1 q2 q3; have OO : Hid (OwnZ w' w.heap.size v' (fl ++ [x])) := q1; have BB : Hid (Below w.heap.size w w') := HBX.out.trans (grownB HOX.out q2 HSZ.out.2); clear q1 q2 q3)
        go_roundw
        case rel => exact ⟨i + 1, by omega, by go_num, by rw [HT.out]; exact OO.out, BB.out⟩
        case measure => simp [intOf]; omega
    · have HE : Hid (ks.take i = ks) := List.take_of_length_le (by omega)
      rw [HE.out] at HO
      go_wp2_with fail
      go_ret
      exact ⟨_, rfl, HO.out, HB.out⟩
end Go.Proofs.YtcdnakcojanaeabGreat

/-
  The page's Own: a display in memory of its own. (Printed by wip/make/mkdtown.py.)
-/
namespace Go.Proofs.YtcdnakcojanaeabGreat
open Go.ChangeShapes Go.WideShapes Go.ChangeAt Go.RowKit Go.Deep
open Do

namespace Pg
/-- A node more, with attributes and kids in rows of their own. -/
theorem OwnN.pushAK {w w' : World} {B : Nat} {v v' : Value} {ns : List Nd} {ab kb : Nat → Value} (h : OwnN w B v ns ab kb) {n : Nd} (hn : NdFit n) {av kv : Value} (hA : OwnA w B av n.ats) (hK : OwnZ w B kv n.kids) (hap : ∀ b, av.ownBlock = some b ∨ kv.ownBlock = some b → ¬ footN v ns.length ab kb b)
    (hr : w'.ownsRow B 56 7 v' (ns.length + 1) (rowN ns ab kb ++ cellsN n av kv)) (hg : w.grownBy w' v.ownBlock) :
    OwnN w' B v' (ns ++ [n]) (upd ab ns.length av) (upd kb ns.length kv) := by
  have isRow : ∀ b, v.ownBlock = some b → ∃ cur, w.heap[b]? = some (.cells cur 56 (0, 0)) := by
    intro b e
    rcases h.row.2 with ⟨rfl, -⟩ | ⟨g', cap, cur, rfl, _, q2, -⟩
    · cases e
    · simp only [Value.ownBlock, Option.some.injEq] at e
      subst e
      exact ⟨cur, q2⟩
  have notRow : ∀ b, (∃ i, i < ns.length ∧ ((ab i).ownBlock = some b ∨ (kb i).ownBlock = some b)) → some b ≠ v.ownBlock := by
    rintro b ⟨i, hi, hb⟩ e
    obtain ⟨cur, hcur⟩ := isRow b e.symm
    rcases hb with hb | hb
    · obtain ⟨cu, hc, -⟩ := (h.ats i ns[i] (List.getElem?_eq_getElem hi)).block hb
      rw [hcur] at hc
      simp at hc
    · obtain ⟨cu, hc, -⟩ := (h.kids i ns[i] (List.getElem?_eq_getElem hi)).block hb
      rw [hcur] at hc
      simp at hc
  have newRow : ∀ b, av.ownBlock = some b ∨ kv.ownBlock = some b → some b ≠ v.ownBlock := fun b hb e => hap b hb (Or.inl e.symm)
  have e1 : rowN (ns ++ [n]) (upd ab ns.length av) (upd kb ns.length kv) = rowN ns ab kb ++ cellsN n av kv := by
    rw [rowN_snoc, upd_same, upd_same, rowN_congr ns fun i hi => ⟨upd_other _ _ (by omega), upd_other _ _ (by omega)⟩]
  have split : ∀ (i : Nat) (m : Nd), (ns ++ [n])[i]? = some m → (i < ns.length ∧ ns[i]? = some m) ∨ (i = ns.length ∧ m = n) := by
    intro i m hm
    by_cases hi : i < ns.length
    · rw [List.getElem?_append_left hi] at hm
      exact Or.inl ⟨hi, hm⟩
    · rw [List.getElem?_append_right (by omega)] at hm
      have hz : i - ns.length = 0 := by
        have := (List.getElem?_eq_some_iff.1 hm).1
        simp at this
        omega
      rw [hz] at hm
      simp at hm
      exact Or.inr ⟨by omega, hm.symm⟩
  have hlen : (ns ++ [n]).length = ns.length + 1 := by simp
  refine ⟨by rw [hlen, e1]; exact hr, ?_, ?_, ?_, ?_, ?_⟩
  · intro i m hm
    rcases split i m hm with ⟨hi, hm⟩ | ⟨rfl, rfl⟩
    · rw [upd_other _ _ (by omega)]
      have ho := h.ats i m hm
      exact ho.same fun b hb => hg.block b (ho.lt b hb).2 (notRow b ⟨i, hi, Or.inl hb⟩)
    · rw [upd_same]
      exact hA.same fun b hb => hg.block b (hA.lt b hb).2 (newRow b (Or.inl hb))
  · intro i m hm
    rcases split i m hm with ⟨hi, hm⟩ | ⟨rfl, rfl⟩
    · rw [upd_other _ _ (by omega)]
      have ho := h.kids i m hm
      exact ho.same fun b hb => hg.block b (ho.lt b hb).2 (notRow b ⟨i, hi, Or.inr hb⟩)
    · rw [upd_same]
      exact hK.same fun b hb => hg.block b (hK.lt b hb).2 (newRow b (Or.inr hb))
  · intro i j b hi hj hij hb hb'
    rw [hlen] at hi hj
    by_cases e : i = ns.length
    · subst e
      rw [upd_same] at hb
      rw [upd_other _ _ (by omega)] at hb'
      exact hap b (Or.inl hb) (Or.inr (Or.inl ⟨j, by omega, hb'⟩))
    · by_cases e' : j = ns.length
      · subst e'
        rw [upd_same] at hb'
        rw [upd_other _ _ e] at hb
        exact hap b (Or.inl hb') (Or.inr (Or.inl ⟨i, by omega, hb⟩))
      · rw [upd_other _ _ e] at hb
        rw [upd_other _ _ e'] at hb'
        exact h.apa i j b (by omega) (by omega) hij hb hb'
  · intro i j b hi hj hij hb hb'
    rw [hlen] at hi hj
    by_cases e : i = ns.length
    · subst e
      rw [upd_same] at hb
      rw [upd_other _ _ (by omega)] at hb'
      exact hap b (Or.inr hb) (Or.inr (Or.inr ⟨j, by omega, hb'⟩))
    · by_cases e' : j = ns.length
      · subst e'
        rw [upd_same] at hb'
        rw [upd_other _ _ e] at hb
        exact hap b (Or.inr hb') (Or.inr (Or.inr ⟨i, by omega, hb⟩))
      · rw [upd_other _ _ e] at hb
        rw [upd_other _ _ e'] at hb'
        exact h.apk i j b (by omega) (by omega) hij hb hb'
  · intro m hm
    rcases List.mem_append.1 hm with hm | hm
    · exact h.fit m hm
    · rw [List.mem_singleton] at hm
      subst hm
      exact hn
end Pg

/-- append of numbers to nothing, at the operation itself. -/
theorem op_copyZ {o : Oper} {d : Option Tmp} (hd : o.dst = d) {a : Act} {w : World} {K : Act → World → Prop} {Q : Exit → Act → World → Prop} (s x : Operand)
    (hop : o.op = .call { callee := .builtin .append, args := #[s, x], argTypes := #[39, 39] }) (ia : Option Addr) (ic : Nat) (ks : List Int) (hs : a.eval s = .slice none 0 0) (hx : a.eval x = .slice ia ks.length ic) (hnone : ia = none → ks.length = 0 ∧ ic = 0) (hL : LayZ w ia ks) (hlen : ks.length * 8 ≤ 140737488351232)
    (h : ∀ v' w', OwnZ w' w.heap.size v' ks → Below w.heap.size w w' → K (a.put d v') w') : Oper.wp Tryz.prog o a w K Q := by
  subst hd
  obtain ⟨i0, hi, hz0, hz1, hz2⟩ := info_parts Tryz.infoInt
  cases ia with
  | none =>
    obtain ⟨h0, rfl⟩ := hnone rfl
    have : ks = [] := List.eq_nil_of_length_eq_zero h0
    subst this
    have hr := run_append_owned_none (P := Tryz.prog) (w := w) w.heap.size 39 o.type 3 i0 1 Tryz.underlying39 hi (.slice none 0 0) 0 [] (World.ownsRow_nil _ _ _ _)
    unfold Oper.wp execOp
    simp only [hop, resolve, invoke, builtin, Sem.run_bind, Sem.run_pure, Result.andThen_ok, List.map_toArray, List.map_cons, List.map_nil, hs, hx, hr, List.length_nil]
    exact h _ _ (OwnZ.nil _ _) (Below.refl _ _)
  | some ad =>
    have hnews : ∀ j u, (ks.map fun k => Value.int .i64 k)[j]? = some u → w.cell? (ad.add j) = some u := by
      intro j u hj
      rw [List.getElem?_map, Option.map_eq_some_iff] at hj
      obtain ⟨k, hk, rfl⟩ := hj
      obtain ⟨b2, o2, e, hc, -⟩ := hL j k hk
      cases e
      rw [add_plain]
      exact hc
    have h1 : ∀ y ∈ (ks.map fun k => Value.int .i64 k), y.oneCell' = true := by
      intro y hy
      obtain ⟨k, -, rfl⟩ := List.mem_map.1 hy
      rfl
    obtain ⟨v', w', hr, h2, h3, h4⟩ := run_append_apart (P := Tryz.prog) w w.heap.size 39 o.type 3 i0 _ 1 8 Tryz.underlying39 hi hz0 hz1 hz2 rfl (by decide) (.slice none 0 0) 0 [] (World.ownsRow_nil _ _ _ _) ad ks.length ic (ks.map fun k => Value.int .i64 k) (by simp) hnews h1 (by unfold maxLen; omega) (by omega) (Nat.le_refl _)
    unfold Oper.wp execOp
    simp only [hop, resolve, invoke, builtin, Sem.run_bind, Sem.run_pure, Result.andThen_ok, List.map_toArray, List.map_cons, List.map_nil, hs, hx, hr]
    refine h v' w' ?_ ⟨h3.os, h3.tape, h3.output, h3.size, fun j hj => h3.block j hj (by simp [Value.ownBlock])⟩
    unfold OwnZ
    simpa using h2

set_option maxRecDepth 100000 in
set_option maxHeartbeats 3200000 in
theorem rown_any (s : Ds) (a : Option Addr) (c : Nat) (w : World) (hs : DsIs w s a c) (hl : s.nodes.length ≤ 1024) :
    Calls Tryz.prog 18 #[.agg #[.slice a s.nodes.length c, .int .i64 s.root, .int .i64 s.next]] w fun e w' => ∃ v ab kb, e = .returned (.agg #[v, .int .i64 s.root, .int .i64 s.next]) ∧ Pg.OwnN w' w.heap.size v s.nodes ab kb ∧ Below w.heap.size w w' := by
  have HL : Hid (LayN w a s.nodes) := hs.lay
  obtain ⟨ns, root, next⟩ := s
  simp only at *
  clear hs
  obtain ⟨W1, hW1⟩ : ∃ W : World, W = ((w.alloc (.cells #[.slice a ns.length c, .int .i64 root, .int .i64 next] 24)).alloc (.cells #[.slice none 0 0, .int .i64 0, .int .i64 0] 24)).alloc (.cells #[.slice none 0 0, .int .i64 root, .int .i64 next] 24) := ⟨_, rfl⟩
  have B1 : Hid (Below w.heap.size w W1) := by show Below _ _ _; rw [hW1]; exact nxt (two_new _ _ _) (below_one _ _)
  have X1 : Hid (W1.heap[w.heap.size]? = some (.cells #[.slice a ns.length c, .int .i64 root, .int .i64 next] 24 (0, 0)) ∧ W1.heap[w.heap.size + 1]? = some (.cells #[.slice none 0 0, .int .i64 0, .int .i64 0] 24 (0, 0)) ∧ W1.heap[w.heap.size + 2]? = some (.cells #[.slice none 0 0, .int .i64 root, .int .i64 next] 24 (0, 0))) := by
    have b0 : ∀ (W : World) (o1 o2 o3 : Obj), (((W.alloc o1).alloc o2).alloc o3).heap[W.heap.size]? = some o1 ∧ (((W.alloc o1).alloc o2).alloc o3).heap[W.heap.size + 1]? = some o2 ∧ (((W.alloc o1).alloc o2).alloc o3).heap[W.heap.size + 2]? = some o3 := by
      intro W o1 o2 o3
      have k1 : ∀ (V : World) (o : Obj) (j : Nat), j < V.heap.size → (V.alloc o).heap[j]? = V.heap[j]? := fun V o j hj => (below_one V o).block j hj
      have h2 := heap_new2 W o1 o2
      have h3 := heap_new2 (W.alloc o1) o2 o3
      have s1 : (W.alloc o1).heap.size = W.heap.size + 1 := by simp
      have s2 : ((W.alloc o1).alloc o2).heap.size = W.heap.size + 2 := by simp
      rw [s1] at h3
      exact ⟨(k1 _ _ _ (by omega)).trans ((k1 _ _ _ (by omega)).trans (heap_alloc_new _ _)), (k1 _ _ _ (by omega)).trans h2, h3⟩
    show _ ∧ _ ∧ _
    rw [hW1]
    exact b0 w _ _ _
  go_enter Tryz.func18, Tryz.ntmps18
  go_wp2_with fail
  rw [← hW1]
  clear hW1
  go_loopw [4, 5, 6, 7] (fun v4 _ _ _ wr => ∃ i : Nat, i ≤ ns.length ∧ v4 = .int .i64 (i : Int) ∧ Hid (wr.heap[w.heap.size]? = some (.cells #[.slice a ns.length c, .int .i64 root, .int .i64 next] 24 (0, 0)) ∧ wr.heap[w.heap.size + 1]? = some (.cells #[.slice none 0 0, .int .i64 0, .int .i64 0] 24 (0, 0))) ∧ Hid (Below w.heap.size w wr) ∧
    Hid (∃ v ab kb, wr.heap[w.heap.size + 2]? = some (.cells #[v, .int .i64 root, .int .i64 next] 24 (0, 0)) ∧ Pg.OwnN wr w.heap.size v (ns.take i) ab kb)) (fun v4 _ _ _ _ => ns.length - (intOf v4).toNat)
  case atStart => exact ⟨0, Nat.zero_le _, rfl, ⟨X1.out.1, X1.out.2.1⟩, B1.out, ⟨.slice none 0 0, _, _, X1.out.2.2, Pg.OwnN.nil _ _⟩⟩
  case round =>
    obtain ⟨i, hi, rfl, HX, HB, HO⟩ := hrel
    obtain ⟨x0, x1, x2⟩ := three HX.out.1
    by_cases hlt : i < ns.length
    · obtain ⟨m, hm⟩ : ∃ m, ns[i]? = some m := ⟨_, List.getElem?_eq_getElem hlt⟩
      obtain ⟨b, o, aa, ac, ka, kc, ha, hN⟩ := HL.out.below HB.out i m hm
      subst ha
      obtain ⟨p0, p1, p2, p3, p4, p5, p6, hf, hA, hK⟩ := hN
      have HF : Hid (FitN m aa ac ka kc ∧ LayA wr aa m.ats ∧ LayZ wr ka m.kids) := ⟨hf, hA, hK⟩
      have HTK : Hid (ns.take (i + 1) = ns.take i ++ [m]) := by
        show _ = _
        rw [List.take_add_one, hm]
        rfl
      have HTL : Hid ((ns.take i).length = i) := by show _ = _; simp; omega
      clear hf hA hK hm
      obtain ⟨W2, hW2⟩ : ∃ W : World, W = wr.alloc (.cells #[.int .i64 m.id, .int .i64 m.par, .string m.tag, .string m.key, .string m.txt, .slice aa m.ats.length ac, .slice ka m.kids.length kc] 56) := ⟨_, rfl⟩
      have B2 : Hid (Below wr.heap.size wr W2) := by show Below _ _ _; rw [hW2]; exact below_one _ _
      have N2 : Hid (W2.heap[wr.heap.size]? = some (.cells #[.int .i64 m.id, .int .i64 m.par, .string m.tag, .string m.key, .string m.txt, .slice aa m.ats.length ac, .slice ka m.kids.length kc] 56 (0, 0))) := by show _ = _; rw [hW2]; exact heap_alloc_new _ _
      go_wp2_with fail
      rw [← hW2]
      clear hW2 p0 p1 p2 p3 p4 p5 p6
      obtain ⟨v, ab, kb, ht, hO⟩ := HO.out
      obtain ⟨vr, vc, hvs⟩ := hO.shape
      rw [HTL.out] at hvs
      subst hvs
      have HOO : Hid (Pg.OwnN wr w.heap.size (.slice vr i vc) (ns.take i) ab kb) := hO
      have HTT : Hid (wr.heap[w.heap.size + 2]? = some (.cells #[.slice vr i vc, .int .i64 root, .int .i64 next] 24 (0, 0))) := ht
      clear ht hO HO x0 x1 x2
      obtain ⟨p0, p1, p2, p3, p4, p5, p6⟩ := seven N2.out
      have HS0 : (fun w' : World => w'.cell? ⟨wr.heap.size, 6, none⟩ = some (.slice ka m.kids.length kc)) W2.drew := p6
      refine Rg.Till.region (fun w' : World => w'.cell? ⟨wr.heap.size, 6, none⟩ = some (.slice ka m.kids.length kc)) 11 (by kernel_rfl) ?_
      show Rg.Till _ _ _ _ _ 12 (Array.replicate 12 false) _ _
      refine Rg.Till.take (i := 0) (v := .slice none 0 0) (some 25) rfl rfl (by kernel_rfl) (by kernel_rfl) (fun _ _ _ h => h) (by kernel_rfl) (by kernel_rfl) (Or.inl ⟨rfl, fun w' hS => ?_⟩) HS0 ?_
      · have hS : w'.cell? ⟨wr.heap.size, 6, none⟩ = some (.slice ka m.kids.length kc) := hS; go_simp
      simp only [Act.put, List.setIfInBounds_toArray, List.set_cons_zero, List.set_cons_succ]
      refine Rg.Till.take (i := 1) (v := .pointer (some ⟨wr.heap.size, 5, none⟩)) (some 26) rfl rfl (by kernel_rfl) (by kernel_rfl) (fun _ _ _ h => h) (by kernel_rfl) (by kernel_rfl) (Or.inl ⟨rfl, fun w' hS => ?_⟩) HS0 ?_
      · have hS : w'.cell? ⟨wr.heap.size, 6, none⟩ = some (.slice ka m.kids.length kc) := hS; go_simp
      simp only [Act.put, List.setIfInBounds_toArray, List.set_cons_zero, List.set_cons_succ]
      refine Rg.Till.take (i := 4) (v := .slice none 0 0) (some 29) rfl rfl (by kernel_rfl) (by kernel_rfl) (fun _ _ _ h => h) (by kernel_rfl) (by kernel_rfl) (Or.inl ⟨rfl, fun w' hS => ?_⟩) HS0 ?_
      · have hS : w'.cell? ⟨wr.heap.size, 6, none⟩ = some (.slice ka m.kids.length kc) := hS; go_simp
      simp only [Act.put, List.setIfInBounds_toArray, List.set_cons_zero, List.set_cons_succ]
      refine Rg.Till.take (i := 5) (v := .pointer (some ⟨wr.heap.size, 6, none⟩)) (some 30) rfl rfl (by kernel_rfl) (by kernel_rfl) (fun _ _ _ h => h) (by kernel_rfl) (by kernel_rfl) (Or.inl ⟨rfl, fun w' hS => ?_⟩) HS0 ?_
      · have hS : w'.cell? ⟨wr.heap.size, 6, none⟩ = some (.slice ka m.kids.length kc) := hS; go_simp
      simp only [Act.put, List.setIfInBounds_toArray, List.set_cons_zero, List.set_cons_succ]
      refine Rg.Till.take (i := 6) (v := .slice ka m.kids.length kc) (some 31) rfl rfl (by kernel_rfl) (by kernel_rfl) (fun _ _ _ h => h) (by kernel_rfl) (by kernel_rfl) (Or.inl ⟨rfl, fun w' hS => ?_⟩) HS0 ?_
      · have hS : w'.cell? ⟨wr.heap.size, 6, none⟩ = some (.slice ka m.kids.length kc) := hS; go_simp
      simp only [Act.put, List.setIfInBounds_toArray, List.set_cons_zero, List.set_cons_succ]
      refine Rg.Till.oneK (i := 2) (by kernel_rfl) rfl rfl ?_
      intro K hK
      have p5d : W2.drew.cell? ⟨wr.heap.size, 5, none⟩ = some (.slice aa m.ats.length ac) := p5
      go_simp
      refine hK.out _ _ (fun _ => HS0) ?_
      clear hK K
      have hBd : Below wr.heap.size wr W2.drew := B2.out.drew
      refine Rg.Till.oneK (i := 3) (by kernel_rfl) rfl rfl ?_
      intro K hK
      refine op_copyA (d := some 28) rfl rfl _ _ rfl aa ac m.ats rfl rfl HF.out.1.ats.2.2.2 (HF.out.2.1.below hBd) HF.out.1.ats.2.2.1 ?_
      intro v3 w3 q1 q2
      obtain ⟨aa3, ac3, rfl⟩ := q1.shape
      have HS3 : (fun w' : World => w'.cell? ⟨wr.heap.size, 6, none⟩ = some (.slice ka m.kids.length kc)) w3 := keepc q2 _ _ HS0
      refine hK.out _ _ (fun _ => HS3) ?_
      clear hK K
      simp only [Act.put, List.setIfInBounds_toArray, List.set_cons_zero, List.set_cons_succ]
      refine Rg.Till.take (i := 8) (v := .pointer (some ⟨wr.heap.size, 5, none⟩)) (some 33) rfl rfl (by kernel_rfl) (by kernel_rfl) (fun _ _ _ h => h) (by kernel_rfl) (by kernel_rfl) (Or.inl ⟨rfl, fun w' hS => ?_⟩) HS3 ?_
      · have hS : w'.cell? ⟨wr.heap.size, 6, none⟩ = some (.slice ka m.kids.length kc) := hS; go_simp
      simp only [Act.put, List.setIfInBounds_toArray, List.set_cons_zero, List.set_cons_succ]
      refine Rg.Till.oneK (i := 7) (by kernel_rfl) rfl rfl ?_
      intro K hK
      have hkn : ka = none → m.kids.length = 0 ∧ kc = 0 := fun h => by have h1 := HF.out.1.kids.2.2.2.1 h; have h2 := HF.out.1.kids.1; omega
      refine op_copyZ (d := some 32) rfl _ _ rfl ka kc m.kids rfl rfl hkn (HF.out.2.2.below (nxt hBd q2)) HF.out.1.kids.2.2.1 ?_
      intro v4 w4 r1 r2
      obtain ⟨ka4, kc4, rfl⟩ := r1.shape
      have HS4 : (fun w' : World => w'.cell? ⟨wr.heap.size, 6, none⟩ = some (.slice ka m.kids.length kc)) w4 := keepc r2 _ _ HS3
      refine hK.out _ _ (fun _ => HS4) ?_
      clear hK K
      simp only [Act.put, List.setIfInBounds_toArray, List.set_cons_zero, List.set_cons_succ]
      have N4 : w4.heap[wr.heap.size]? = some (.cells #[.int .i64 m.id, .int .i64 m.par, .string m.tag, .string m.key, .string m.txt, .slice aa m.ats.length ac, .slice ka m.kids.length kc] 56 (0, 0)) := (r2.block _ (Nat.lt_of_lt_of_le (lt_of_block N2.out) q2.size)).trans ((q2.block _ (lt_of_block N2.out)).trans N2.out)
      obtain ⟨-, -, -, -, -, n5, n6⟩ := seven N4
      have nf5 := (cell_of N4 5).2
      have N5 : (w4.setCell ⟨wr.heap.size, 5, none⟩ (.slice aa3 m.ats.length ac3)).heap[wr.heap.size]? = some (.cells #[.int .i64 m.id, .int .i64 m.par, .string m.tag, .string m.key, .string m.txt, .slice aa3 m.ats.length ac3, .slice ka m.kids.length kc] 56 (0, 0)) := by rw [set_one_cell N4]; simp
      have HS5 : (fun w' : World => w'.cell? ⟨wr.heap.size, 6, none⟩ = some (.slice ka m.kids.length kc)) (w4.setCell ⟨wr.heap.size, 5, none⟩ (.slice aa3 m.ats.length ac3)) := (seven N5).2.2.2.2.2.2
      refine Rg.Till.oneK (i := 9) (by kernel_rfl) rfl rfl ?_
      intro K hK
      go_simp
      refine hK.out _ _ (fun _ => HS5) ?_
      clear hK K
      refine Rg.Till.take (i := 10) (v := .pointer (some ⟨wr.heap.size, 6, none⟩)) (some 34) rfl rfl (by kernel_rfl) (by kernel_rfl) (fun _ _ _ h => h) (by kernel_rfl) (by kernel_rfl) (Or.inl ⟨rfl, fun w' hS => ?_⟩) HS5 ?_
      · have hS : w'.cell? ⟨wr.heap.size, 6, none⟩ = some (.slice ka m.kids.length kc) := hS; go_simp
      simp only [Act.put, List.setIfInBounds_toArray, List.set_cons_zero, List.set_cons_succ]
      have m6 := (seven N5).2.2.2.2.2.2
      have mf6 := (cell_of N5 6).2
      refine Rg.Till.oneK (i := 11) (by kernel_rfl) rfl rfl ?_
      intro K hK
      go_simp
      refine hK.out _ _ (fun h => absurd rfl h) ?_
      clear hK K
      refine Rg.Till.done (by kernel_rfl) ?_
      have N6 : Hid (((w4.setCell ⟨wr.heap.size, 5, none⟩ (.slice aa3 m.ats.length ac3)).setCell ⟨wr.heap.size, 6, none⟩ (.slice ka4 m.kids.length kc4)).heap[wr.heap.size]? = some (.cells #[.int .i64 m.id, .int .i64 m.par, .string m.tag, .string m.key, .string m.txt, .slice aa3 m.ats.length ac3, .slice ka4 m.kids.length kc4] 56 (0, 0))) := by show _ = _; rw [set_one_cell N5]; simp
      have hB4 : Below wr.heap.size wr w4 := nxt (nxt hBd q2) r2
      have hK6 : ∀ b, b ≠ wr.heap.size → ((w4.setCell ⟨wr.heap.size, 5, none⟩ (.slice aa3 m.ats.length ac3)).setCell ⟨wr.heap.size, 6, none⟩ (.slice ka4 m.kids.length kc4)).heap[b]? = w4.heap[b]? := fun b hb => (heap_set_other _ hb).trans (heap_set_other _ hb)
      have B6 : Hid (Below wr.heap.size wr ((w4.setCell ⟨wr.heap.size, 5, none⟩ (.slice aa3 m.ats.length ac3)).setCell ⟨wr.heap.size, 6, none⟩ (.slice ka4 m.kids.length kc4))) := ⟨hB4.os, hB4.tape, hB4.output, by have := hB4.size; simpa [World.setCell] using this, fun j hj => (hK6 j (by omega)).trans (hB4.block j hj)⟩
      have A6 : Hid (OwnA ((w4.setCell ⟨wr.heap.size, 5, none⟩ (.slice aa3 m.ats.length ac3)).setCell ⟨wr.heap.size, 6, none⟩ (.slice ka4 m.kids.length kc4)) (wr.heap.size + 1) (.slice aa3 m.ats.length ac3) m.ats) := by
        have h1 : OwnA w4 W2.drew.heap.size (.slice aa3 m.ats.length ac3) m.ats := OwnA.below q1 r2
        have h2 : wr.heap.size + 1 ≤ W2.drew.heap.size := lt_of_block N2.out
        exact OwnA.less (OwnA.same h1 fun b hb => hK6 b (by have := (OwnA.rng h1 hb).1; omega)) h2
      have Z6 : Hid (OwnZ ((w4.setCell ⟨wr.heap.size, 5, none⟩ (.slice aa3 m.ats.length ac3)).setCell ⟨wr.heap.size, 6, none⟩ (.slice ka4 m.kids.length kc4)) (wr.heap.size + 1) (.slice ka4 m.kids.length kc4) m.kids) := by
        have h2 : wr.heap.size + 1 ≤ w3.heap.size := Nat.le_trans (lt_of_block N2.out) q2.size
        exact (r1.same fun b hb => hK6 b (by have := (r1.lt b hb).1; omega)).less h2
      clear HS0 HS3 HS4 HS5 N4 N5 n5 n6 nf5 m6 mf6 p0 p1 p2 p3 p4 p5 p6 p5d hBd q1 q2 r1 r2 hB4 hK6 hkn N2 B2
      generalize ((w4.setCell ⟨wr.heap.size, 5, none⟩ (.slice aa3 m.ats.length ac3)).setCell ⟨wr.heap.size, 6, none⟩ (.slice ka4 m.kids.length kc4)) = W6 at *
      have X6 : Hid (W6.heap[w.heap.size]? = some (.cells #[.slice (some ⟨b, o, none⟩) ns.length c, .int .i64 root, .int .i64 next] 24 (0, 0)) ∧ W6.heap[w.heap.size + 1]? = some (.cells #[.slice none 0 0, .int .i64 0, .int .i64 0] 24 (0, 0))) := ⟨(B6.out.block _ (lt_of_block HX.out.1)).trans HX.out.1, (B6.out.block _ (lt_of_block HX.out.2)).trans HX.out.2⟩
      have T6 : Hid (W6.heap[w.heap.size + 2]? = some (.cells #[.slice vr i vc, .int .i64 root, .int .i64 next] 24 (0, 0))) := (B6.out.block _ (lt_of_block HTT.out)).trans HTT.out
      have O6 : Hid (Pg.OwnN W6 w.heap.size (.slice vr i vc) (ns.take i) ab kb) := HOO.out.below B6.out
      have BW6 : Hid (Below w.heap.size w W6) := nxt HB.out B6.out
      have ROW : Hid ((W6.alloc (.cells #[.int .i64 m.id, .int .i64 m.par, .string m.tag, .string m.key, .string m.txt, .slice aa3 m.ats.length ac3, .slice ka4 m.kids.length kc4] 56)).ownsRow w.heap.size 56 7 (.slice vr i vc) i (rowN (ns.take i) ab kb)) := by have := (O6.out.below (below_one W6 (.cells #[.int .i64 m.id, .int .i64 m.par, .string m.tag, .string m.key, .string m.txt, .slice aa3 m.ats.length ac3, .slice ka4 m.kids.length kc4] 56))).row; rwa [HTL.out] at this
      have NEW : Hid (∀ j u, (cellsN m (.slice aa3 m.ats.length ac3) (.slice ka4 m.kids.length kc4))[j]? = some u → (W6.alloc (.cells #[.int .i64 m.id, .int .i64 m.par, .string m.tag, .string m.key, .string m.txt, .slice aa3 m.ats.length ac3, .slice ka4 m.kids.length kc4] 56)).cell? ((⟨W6.heap.size, 0, none⟩ : Addr).add j) = some u) := fun j u hj => newCells W6 _ _ j u (by rw [← Array.getElem?_toList]; exact hj)
      have HSZ : Hid ((i + 1) * 112 ≤ 140737488355328 ∧ w.heap.size ≤ (W6.alloc (.cells #[.int .i64 m.id, .int .i64 m.par, .string m.tag, .string m.key, .string m.txt, .slice aa3 m.ats.length ac3, .slice ka4 m.kids.length kc4] 56)).heap.size) := ⟨by omega, Nat.le_trans BW6.out.size (below_one W6 _).size⟩
      have P7 : Hid ((W6.alloc (.cells #[.int .i64 m.id, .int .i64 m.par, .string m.tag, .string m.key, .string m.txt, .slice aa3 m.ats.length ac3, .slice ka4 m.kids.length kc4] 56)).heap[w.heap.size + 2]? = some (.cells #[.slice vr i vc, .int .i64 root, .int .i64 next] 24 (0, 0))) := ((below_one W6 _).block _ (lt_of_block T6.out)).trans T6.out
      obtain ⟨t0, t1, t2⟩ := three T6.out
      obtain ⟨p0, p1, p2, p3, p4, p5, p6⟩ := seven N6.out
      go_wp2_with (refine Pg.wpList_pushN _ rfl (.tmp 36) (.tmp 38) rfl w.heap.size (.slice vr i vc) i (rowN (ns.take i) ab kb) rfl ROW.out m aa3 m.ats.length ac3 ka4 m.kids.length kc4 ⟨W6.heap.size, 0, none⟩ 1 rfl NEW.out HSZ.out.1 HSZ.out.2 ?_; intro v7 w7 r1 r2 r3; obtain ⟨va7, vc7, rfl⟩ := slice_of_own r1; have R7 : Hid (w7.ownsRow w.heap.size 56 7 (.slice va7 (i + 1) vc7) (i + 1) (rowN (ns.take i) ab kb ++ cellsN m (.slice aa3 m.ats.length ac3) (.slice ka4 m.kids.length kc4)) ∧ (W6.alloc (.cells #[.int .i64 m.id, .int .i64 m.par, .string m.tag, .string m.key, .string m.txt, .slice aa3 m.ats.length ac3, .slice ka4 m.kids.length kc4] 56)).grownBy w7 (Value.slice vr i vc).ownBlock) := ⟨r1, r2⟩; have T7 : Hid (w7.heap[w.heap.size + 2]? = some (.cells #[.slice vr i vc, .int .i64 root, .int .i64 next] 24 (0, 0))) := (r2.block _ (lt_of_block P7.out) (fun e => (O6.out.below (below_one W6 _)).notState P7.out (Or.inl e.symm) rfl)).trans P7.out; obtain ⟨s0, -, -⟩ := three T7.out; have sf0 := (cell_of T7.out 0).2; clear r1 r2 r3)
      go_roundw
      case rel =>
        obtain ⟨r1, r2⟩ := R7.out
        have o7 := O6.out.below (below_one W6 (.cells #[.int .i64 m.id, .int .i64 m.par, .string m.tag, .string m.key, .string m.txt, .slice aa3 m.ats.length ac3, .slice ka4 m.kids.length kc4] 56))
        have a7 := OwnA.below A6.out (below_one W6 (.cells #[.int .i64 m.id, .int .i64 m.par, .string m.tag, .string m.key, .string m.txt, .slice aa3 m.ats.length ac3, .slice ka4 m.kids.length kc4] 56))
        have z7 := Z6.out.below (below_one W6 (.cells #[.int .i64 m.id, .int .i64 m.par, .string m.tag, .string m.key, .string m.txt, .slice aa3 m.ats.length ac3, .slice ka4 m.kids.length kc4] 56))
        have hft : ∀ b, footN (.slice vr i vc) (ns.take i).length ab kb b → b < wr.heap.size := fun b hb => (HOO.out.foot hb).2
        have o8 := o7.pushAK (fit_of HF.out.1 HF.out.2.1 HF.out.2.2) (OwnA.less a7 (by have := HB.out.size; omega)) (z7.less (by have := HB.out.size; omega)) (fun b hb hf => by
          have h2 := hft b hf
          rcases hb with hb | hb
          · have := (OwnA.rng a7 hb).1; omega
          · have := (z7.lt b hb).1; omega) (by rw [HTL.out]; exact r1) r2
        rw [← HTK.out] at o8
        have kp : ∀ {j : Nat} {cs : Array Value}, W6.heap[j]? = some (.cells cs 24 (0, 0)) → j ≠ w.heap.size + 2 → (w7.setCell ⟨w.heap.size + 2, 0, none⟩ (.slice va7 (i + 1) vc7)).heap[j]? = some (.cells cs 24 (0, 0)) := fun hj hne => (heap_set_other _ hne).trans ((r2.block _ (Nat.lt_of_lt_of_le (lt_of_block hj) (below_one W6 _).size) (fun e => o7.notState (((below_one W6 _).block _ (lt_of_block hj)).trans hj) (Or.inl e.symm) rfl)).trans (((below_one W6 _).block _ (lt_of_block hj)).trans hj))
        have hb7 : Below w.heap.size w w7 := (nxt BW6.out (below_one W6 (.cells #[.int .i64 m.id, .int .i64 m.par, .string m.tag, .string m.key, .string m.txt, .slice aa3 m.ats.length ac3, .slice ka4 m.kids.length kc4] 56))).trans (grownB ROW.out r2 HSZ.out.2)
        refine ⟨i + 1, by omega, by go_num, ⟨kp X6.out.1 (by omega), kp X6.out.2 (by omega)⟩, ⟨hb7.os, hb7.tape, hb7.output, by have := hb7.size; simpa [World.setCell] using this, fun j hj => (heap_set_other _ (by omega)).trans (hb7.block j hj)⟩, ⟨.slice va7 (i + 1) vc7, _, _, ?_, o8.same fun b hb => heap_set_other _ (o8.notState T7.out hb)⟩⟩
        rw [set_one_cell T7.out]
        simp
      case measure => simp [intOf]; omega
    · obtain ⟨v, ab, kb, ht, hO⟩ := HO.out
      have et : ns.take i = ns := List.take_of_length_le (by omega)
      rw [et] at hO
      obtain ⟨vr, vc, hvs⟩ := hO.shape
      subst hvs
      have HOO : Hid (Pg.OwnN wr w.heap.size (.slice vr ns.length vc) ns ab kb) := hO
      have HTT : Hid (wr.heap[w.heap.size + 2]? = some (.cells #[.slice vr ns.length vc, .int .i64 root, .int .i64 next] 24 (0, 0))) := ht
      have HZ : Hid (wr.heap[w.heap.size + 1]? = some (.cells #[.slice none 0 0, .int .i64 0, .int .i64 0] 24 (0, 0))) := HX.out.2
      obtain ⟨t0, t1, t2⟩ := three ht
      obtain ⟨z0, z0f⟩ := cell_of HZ.out 0
      obtain ⟨z1, z1f⟩ := cell_of HZ.out 1
      obtain ⟨z2, z2f⟩ := cell_of HZ.out 2
      simp at z0 z1 z2
      clear ht hO HO
      go_wp2_with fail
      obtain ⟨f1, f2, f3⟩ := state_fin (v := .slice vr ns.length vc) (r := .int .i64 root) (n := .int .i64 next) HZ.out
      have f3 := f3 w.heap.size w (by omega) HB.out
      clear z0 z0f z1 z1f z2 z2f t0 t1 t2 x0 x1 x2
      generalize ((wr.setCell ⟨w.heap.size + 1, 0, none⟩ (.slice vr ns.length vc)).setCell ⟨w.heap.size + 1, 1, none⟩ (.int .i64 root)).setCell ⟨w.heap.size + 1, 2, none⟩ (.int .i64 next) = W9 at *
      obtain ⟨c0, c1, c2⟩ := three f1
      refine bodyPost_ret (v := .agg #[.slice vr ns.length vc, .int .i64 root, .int .i64 next]) (by simp [results, Tryz.results18, go_sem, c0, c1, c2]) rfl ?_
      exact ⟨_, ab, kb, rfl, HOO.out.same fun b hb => f2 b (HOO.out.notState HZ.out hb), f3⟩
end Go.Proofs.YtcdnakcojanaeabGreat

/-
  append of numbers that lie somewhere to a row of numbers of one's own.
-/
namespace Go.Proofs.YtcdnakcojanaeabGreat
open Go.ChangeShapes Go.WideShapes Go.ChangeAt Go.RowKit Go.Deep
open Do

theorem numCells {w : World} {ia : Option Addr} {ks : List Int} (hL : LayZ w ia ks) : ∀ ad, ia = some ad → ∀ j u, (ks.map fun k => Value.int .i64 k)[j]? = some u → w.cell? (ad.add j) = some u := by
  rintro ad rfl j u hj
  rw [List.getElem?_map, Option.map_eq_some_iff] at hj
  obtain ⟨k, hk, rfl⟩ := hj
  obtain ⟨b2, o2, e, hc, -⟩ := hL j k hk
  cases e
  rw [add_plain]
  exact hc

theorem wpList_appZ (w : World) {ops : Array Oper} {rest : List Oper} {o : Oper} {a : Act} {Q : Exit → Act → World → Prop} (hgd : o.guard = none) (s x : Operand)
    (hop : o.op = .call { callee := .builtin .append, args := #[s, x], argTypes := #[39, 39] })
    (B : Nat) (v : Value) (k0 : List Int) (hs : a.eval s = v) (hv : OwnZ w B v k0) (ia : Option Addr) (l ic : Nat) (ks : List Int) (hx : a.eval x = .slice ia l ic) (hl : ks.length = l) (hnone : ia = none → l = 0 ∧ ic = 0) (hL : LayZ w ia ks) (hlen : (k0.length + l) * 8 ≤ 140737488355328) (hB : B ≤ w.heap.size)
    (h : ∀ v' w', OwnZ w' B v' (k0 ++ ks) → w.grownBy w' v.ownBlock → (v'.ownBlock = v.ownBlock ∨ ∀ g, v'.ownBlock = some g → w.heap.size ≤ g) → wpList Tryz.prog ops Q rest (a.put o.dst v') w') : wpList Tryz.prog ops Q (o :: rest) a w := by
  subst hl
  obtain ⟨i0, hi, hz0, hz1, hz2⟩ := info_parts Tryz.infoInt
  refine wpList_append_apart w hgd s x 39 hop B 3 i0 _ 1 8 Tryz.underlying39 hi hz0 hz1 hz2 rfl (by decide) v k0.length _ hs hv ia ks.length ic (ks.map fun k => Value.int .i64 k) hx hnone (by simp) (numCells hL) ?_ (by unfold maxLen; omega) hlen hB ?_
  · intro y hy
    obtain ⟨k, -, rfl⟩ := List.mem_map.1 hy
    rfl
  · intro v' w' h1 h2 h3
    refine h v' w' ?_ h2 h3
    unfold OwnZ
    simpa using h1

theorem op_appZ {o : Oper} {d : Option Tmp} (hd : o.dst = d) {a : Act} {w : World} {K : Act → World → Prop} {Q : Exit → Act → World → Prop} (s x : Operand)
    (hop : o.op = .call { callee := .builtin .append, args := #[s, x], argTypes := #[39, 39] })
    (B : Nat) (v : Value) (k0 : List Int) (hs : a.eval s = v) (hv : OwnZ w B v k0) (ia : Option Addr) (l ic : Nat) (ks : List Int) (hx : a.eval x = .slice ia l ic) (hl : ks.length = l) (hnone : ia = none → l = 0 ∧ ic = 0) (hL : LayZ w ia ks) (hlen : (k0.length + l) * 8 ≤ 140737488355328) (hB : B ≤ w.heap.size)
    (h : ∀ v' w', OwnZ w' B v' (k0 ++ ks) → w.grownBy w' v.ownBlock → (v'.ownBlock = v.ownBlock ∨ ∀ g, v'.ownBlock = some g → w.heap.size ≤ g) → K (a.put d v') w') : Oper.wp Tryz.prog o a w K Q := by
  subst hd
  subst hl
  obtain ⟨i0, hi, hz0, hz1, hz2⟩ := info_parts Tryz.infoInt
  cases ia with
  | none =>
    obtain ⟨h0, rfl⟩ := hnone rfl
    have : ks = [] := List.eq_nil_of_length_eq_zero h0
    subst this
    have hr := run_append_owned_none (P := Tryz.prog) (w := w) B 39 o.type 3 i0 1 Tryz.underlying39 hi v k0.length _ hv
    unfold Oper.wp execOp
    simp only [hop, resolve, invoke, builtin, Sem.run_bind, Sem.run_pure, Result.andThen_ok, List.map_toArray, List.map_cons, List.map_nil, hs, hx, hr, List.length_nil]
    exact h _ _ (by rw [List.append_nil]; exact hv) (World.grownBy.refl _ _) (Or.inl rfl)
  | some ad =>
    have h1 : ∀ y ∈ (ks.map fun k => Value.int .i64 k), y.oneCell' = true := by
      intro y hy
      obtain ⟨k, -, rfl⟩ := List.mem_map.1 hy
      rfl
    obtain ⟨v', w', hr, h2, h3, h4⟩ := run_append_apart (P := Tryz.prog) w B 39 o.type 3 i0 _ 1 8 Tryz.underlying39 hi hz0 hz1 hz2 rfl (by decide) v k0.length _ hv ad ks.length ic (ks.map fun k => Value.int .i64 k) (by simp) (numCells hL ad rfl) h1 (by unfold maxLen; omega) hlen hB
    unfold Oper.wp execOp
    simp only [hop, resolve, invoke, builtin, Sem.run_bind, Sem.run_pure, Result.andThen_ok, List.map_toArray, List.map_cons, List.map_nil, hs, hx, hr]
    refine h v' w' ?_ h3 h4
    unfold OwnZ
    simpa using h2

/-- A row of numbers of one's own, from a place on, and up to a place. -/
theorem LayZ.upto {w : World} {a : Option Addr} {ks : List Int} (h : LayZ w a ks) (i : Nat) : LayZ w a (ks.take i) := by
  intro j k hj
  rw [List.getElem?_take] at hj
  split at hj
  · exact h j k hj
  · cases hj

theorem LayZ.fromN {w : World} {kad : Addr} {ks : List Int} (h : LayZ w (some kad) ks) (i : Nat) : LayZ w (some (kad.add i)) (ks.drop i) := by
  intro j k hj
  rw [List.getElem?_drop] at hj
  obtain ⟨b, o, e, hc, hr⟩ := h (i + j) k hj
  cases e
  exact ⟨b, o + i, by rw [add_plain], by rw [Nat.add_assoc]; exact hc, hr⟩
end Go.Proofs.YtcdnakcojanaeabGreat
