/-
  append as one step of a region whose order is open; what patches do, as mathematics; a display behind a pointer.
-/
import Derived.Test.YtcdnakcojanaeabGreatDoCopyD
import Derived.Deep.RegionLaw
namespace Go.Proofs.YtcdnakcojanaeabGreat
open Go.ChangeShapes Go.WideShapes Go.ChangeAt Go.RowKit Go.Deep
open Do

theorem run_append_apart {P : Program} (w : World) (base : Nat) (t ty e : TypeId) (i : TypeInfo) (z : Value) (size bytes : Nat) (ht : P.underlying t = some (.slice e)) (hi : P.info? e = some i) (hz : i.zero = some z)
    (hsize : i.size = size) (hby : i.bytes = bytes) (hzs : z.cells.size = size) (hsz : 0 < size)
    (v : Value) (n : Nat) (xs : List Value) (hown : w.ownsRow base e size v n xs)
    (a : Addr) (m c : Nat) (news : List Value) (hl : news.length = m * size) (hnews : ∀ j u, news[j]? = some u → w.cell? (a.add j) = some u) (h1 : ∀ u ∈ news, u.oneCell' = true)
    (h63 : n + m ≤ maxLen) (hbytes : (n + m) * bytes ≤ 140737488355328) (hbase : base ≤ w.heap.size) :
    ∃ v' w', (Builtin.append_ #[t, t] ty #[v, .slice (some a) m c]).run P w = .ok v' w' ∧ w'.ownsRow base e size v' (n + m) (xs ++ news) ∧ w.grownBy w' v.ownBlock ∧
      (v'.ownBlock = v.ownBlock ∨ ∀ g, v'.ownBlock = some g → w.heap.size ≤ g) := by
  obtain ⟨v', w', hr, h2, h3, -⟩ := run_append_own (P := P) w base t ty e i z size bytes ht hi hz hsize hby hzs hsz v n xs hown a m c news hl hnews h1 h63 hbytes hbase
  refine ⟨v', w', hr, h2, h3, ?_⟩
  have hown0 := hown
  obtain ⟨l0, hcase⟩ := hown
  rcases hcase with ⟨rfl, rfl⟩ | ⟨g, cap, cur, rfl, hg, hh, hnc, hcm, hcs, htake⟩
  · have : xs = [] := List.eq_nil_of_length_eq_zero (by simpa using l0)
    subst this
    obtain ⟨v2, w2, hr2, q2, -, -⟩ := run_append_own (P := P) w w.heap.size t ty e i z size bytes ht hi hz hsize hby hzs hsz _ 0 [] (World.ownsRow_nil _ _ _ _) a m c news hl hnews h1 h63 hbytes (Nat.le_refl _)
    rw [hr] at hr2
    simp only [Result.ok.injEq] at hr2
    obtain ⟨rfl, rfl⟩ := hr2
    exact Or.inr fun g hg => (q2.lt g hg).1
  · by_cases hroom : n + m ≤ cap
    · have hfit : n * i.size + news.length ≤ cur.size := by rw [hl, hcs, hsize, ← Nat.add_mul]; exact Nat.mul_le_mul_right _ hroom
      have hr2 := run_append_room (P := P) w t ty e i ht hi g n cap cur hh a m c news (by rw [hsize]; exact hl) hnews h1 hroom hfit
      rw [hr] at hr2
      simp only [Result.ok.injEq] at hr2
      rw [hr2.1]
      exact Or.inl rfl
    · have holds : ∀ j u, xs[j]? = some u → w.cell? ((⟨g, 0, none⟩ : Addr).add j) = some u := hown0.cells (g := g) rfl
      have hr2 := run_append_grow (P := P) w t ty e i z ht hi hz ⟨g, 0, none⟩ n cap xs (by rw [hsize]; exact l0) holds a m c news (by rw [hsize]; exact hl) hnews (by omega) (by unfold maxLen at h63; omega) (by rw [hby]; exact growslice_fits (by omega) hbytes)
      rw [hr] at hr2
      simp only [Result.ok.injEq] at hr2
      rw [hr2.1]
      exact Or.inr fun g' hg' => by simp only [Value.ownBlock, Option.some.injEq] at hg'; omega

/-- append, as one step. -/
theorem step_append {P : Program} {ops : Array Oper} {o : Oper} {a : Act} {w : World} {K : Act → World → Prop} {Q : Exit → Act → World → Prop} {E : Prop} (hg : o.guard = none) (s x : Operand) (t : TypeId)
    (ho : o.op = .call { callee := .builtin .append, args := #[s, x], argTypes := #[t, t] })
    (base : Nat) (e : TypeId) (i : TypeInfo) (z : Value) (size bytes : Nat) (ht : P.underlying t = some (.slice e)) (hi : P.info? e = some i) (hz : i.zero = some z)
    (hsize : i.size = size) (hby : i.bytes = bytes) (hzs : z.cells.size = size) (hsz : 0 < size)
    (v : Value) (n : Nat) (xs : List Value) (hs : a.eval s = v) (hown : w.ownsRow base e size v n xs)
    (ad : Addr) (m c : Nat) (news : List Value) (hx : a.eval x = .slice (some ad) m c) (hl : news.length = m * size) (hnews : ∀ j u, news[j]? = some u → w.cell? (ad.add j) = some u) (h1 : ∀ u ∈ news, u.oneCell' = true)
    (h63 : n + m ≤ maxLen) (hbytes : (n + m) * bytes ≤ 140737488355328) (hbase : base ≤ w.heap.size)
    (h : ∀ v' w', w'.ownsRow base e size v' (n + m) (xs ++ news) → w.grownBy w' v.ownBlock → (v'.ownBlock = v.ownBlock ∨ ∀ g, v'.ownBlock = some g → w.heap.size ≤ g) → K (a.put o.dst v') w') :
    if Region.wanted o (yielded ops a.tmps) = true then Oper.wp P o a w K Q else E := by
  have hw : Region.wanted o (yielded ops a.tmps) = true := by simp [Region.wanted, hg]
  rw [if_pos hw]
  obtain ⟨v', w', hr, h2, h3, h4⟩ := run_append_apart (P := P) w base t o.type e i z size bytes ht hi hz hsize hby hzs hsz v n xs hown ad m c news hl hnews h1 h63 hbytes hbase
  unfold Oper.wp execOp
  simp only [ho, resolve, invoke, builtin, Sem.run_bind, Sem.run_pure, Result.andThen_ok, List.map_toArray, List.map_cons, List.map_nil, hs, hx, hr]
  exact h v' w' h2 h3 h4

/-- append of one node, as one step. -/
theorem step_pushN {ops : Array Oper} {o : Oper} {a : Act} {w : World} {K : Act → World → Prop} {Q : Exit → Act → World → Prop} {E : Prop} (hgd : o.guard = none) (s x : Operand)
    (hop : o.op = .call { callee := .builtin .append, args := #[s, x], argTypes := #[28, 28] })
    (B : Nat) (v : Value) (m : Nat) (cs : List Value) (hs : a.eval s = v) (hL : w.ownsRow B 41 7 v m cs) (n : Nd) (aa : Option Addr) (al ac : Nat) (ka : Option Addr) (kl kc : Nat) (ad : Addr) (c : Nat) (hx : a.eval x = .slice (some ad) 1 c)
    (hnews : ∀ j u, (cellsN n (.slice aa al ac) (.slice ka kl kc))[j]? = some u → w.cell? (ad.add j) = some u) (hlen : (m + 1) * 112 ≤ 140737488355328) (hB : B ≤ w.heap.size)
    (h : ∀ v' w', w'.ownsRow B 41 7 v' (m + 1) (cs ++ cellsN n (.slice aa al ac) (.slice ka kl kc)) → w.grownBy w' v.ownBlock → (v'.ownBlock = v.ownBlock ∨ ∀ g, v'.ownBlock = some g → w.heap.size ≤ g) → K (a.put o.dst v') w') :
    if Region.wanted o (yielded ops a.tmps) = true then Oper.wp Tryz.prog o a w K Q else E := by
  obtain ⟨i0, hi, hz0, hz1, hz2⟩ := info_parts Tryz.infoNode
  refine step_append hgd s x 28 hop B 41 i0 _ 7 112 Tryz.underlying28 hi hz0 hz1 hz2 rfl (by decide) v m cs hs hL ad 1 c (cellsN n (.slice aa al ac) (.slice ka kl kc)) hx rfl hnews ?_ (by unfold maxLen; omega) hlen hB h
  intro y hy
  simp [cellsN] at hy
  rcases hy with rfl | rfl | rfl | rfl | rfl | rfl | rfl <;> rfl

namespace Do
/-- A patch. -/
structure Pt where
  what : Int
  id : Int
  par : Int
  at_ : Int
  tag : ByteArray
  key : ByteArray
  txt : ByteArray
  name : ByteArray
  val : ByteArray

/-- The node that a patch makes. -/
def newNd (p : Pt) : Nd := ⟨p.id, 0, p.tag, p.key, p.txt, [], []⟩

/-- What 1 does. -/
def createD (s : Ds) (p : Pt) : Int × Ds :=
  if p.id ≠ s.next then (32, s) else if aloneB (newNd p) = false then (9, s) else if s.nodes.length = 1024 ∨ s.next = 2147483647 then (51, s) else (0, ⟨s.nodes ++ [newNd p], s.root, s.next + 1⟩)

/-- What 7 does. -/
def rootD (s : Ds) (p : Pt) : Int × Ds :=
  if p.id = 0 then (0, ⟨s.nodes, 0, s.next⟩) else match pl s.nodes p.id with
    | none => (71, s)
    | some q => match s.nodes[q]? with
      | none => (71, s)
      | some m => if m.tag.size = 0 then (81, s) else if m.par ≠ 0 then (9, s) else (0, ⟨s.nodes, p.id, s.next⟩)
end Do

/-- A patch's value, and what it keeps to. -/
abbrev mkP (p : Pt) : Value := .agg #[.int .i64 p.what, .int .i64 p.id, .int .i64 p.par, .int .i64 p.at_, .string p.tag, .string p.key, .string p.txt, .string p.name, .string p.val]
structure PtOk (p : Pt) : Prop where
  id : -9223372036854775808 ≤ p.id ∧ p.id ≤ 9223372036854775807
  par : -9223372036854775808 ≤ p.par ∧ p.par ≤ 9223372036854775807
  at_ : -9223372036854775808 ≤ p.at_ ∧ p.at_ ≤ 9223372036854775807
  tag : p.tag.size ≤ 140737488351232
  key : p.key.size ≤ 140737488351232
  txt : p.txt.size ≤ 140737488351232
  name : p.name.size ≤ 140737488351232
  val : p.val.size ≤ 140737488351232

theorem newNd_fit {p : Pt} (h : PtOk p) : FitN (newNd p) none 0 none 0 ∧ NdFit (newNd p) := by
  have hn : NodeOk p.tag p.key p.txt 0 0 := ⟨h.tag, h.key, h.txt, by omega, by omega⟩
  exact ⟨⟨h.id, ⟨by simp [newNd], by simp [newNd]⟩, hn, ⟨Nat.le_refl _, Nat.zero_le _, Nat.zero_le _, fun _ => ⟨rfl, rfl⟩⟩, Nat.le_refl _, Nat.zero_le _, Nat.zero_le _, fun _ => rfl, (fun ad h => by cases h)⟩,
    ⟨h.id, ⟨by simp [newNd], by simp [newNd]⟩, hn, (fun s hs => by cases hs), (fun x hx => by cases hx), Nat.zero_le _⟩⟩

/-- A display of one's own behind a pointer. -/
def DsAt (w : World) (B P : Nat) (s : Ds) : Prop := ∃ v ab kb, w.heap[P]? = some (.cells #[v, .int .i64 s.root, .int .i64 s.next] 30 (0, 0)) ∧ OwnN w B v s.nodes ab kb ∧ B ≤ P

theorem DsAt.below {w w' : World} {B P : Nat} {s : Ds} (h : DsAt w B P s) (hb : Below w.heap.size w w') : DsAt w' B P s := by
  obtain ⟨v, ab, kb, h1, h2, h3⟩ := h
  exact ⟨v, ab, kb, (hb.block _ (lt_of_block h1)).trans h1, h2.below hb, h3⟩

/-- A box of the type State is no block of nodes, attributes, numbers. -/
theorem OwnN.notState {w : World} {B : Nat} {v : Value} {ns : List Nd} {ab kb : Nat → Value} (h : OwnN w B v ns ab kb) {P : Nat} {cs : Array Value} (hP : w.heap[P]? = some (.cells cs 30 (0, 0))) {b : Nat} (hb : footN v ns.length ab kb b) : b ≠ P := by
  rintro rfl
  rcases hb with hb | ⟨i, hi, hb⟩ | ⟨i, hi, hb⟩
  · rcases h.row.2 with ⟨rfl, -⟩ | ⟨g', cap, cur, rfl, _, q2, -⟩
    · cases hb
    · simp only [Value.ownBlock, Option.some.injEq] at hb
      subst hb
      rw [hP] at q2
      simp at q2
  · obtain ⟨cu, hc, -⟩ := (h.ats i ns[i] (List.getElem?_eq_getElem hi)).block hb
    rw [hP] at hc
    simp at hc
  · obtain ⟨cu, hc, -⟩ := (h.kids i ns[i] (List.getElem?_eq_getElem hi)).block hb
    rw [hP] at hc
    simp at hc

/-- A node more. -/
theorem OwnN.push {w w' : World} {B : Nat} {v v' : Value} {ns : List Nd} {ab kb : Nat → Value} (h : OwnN w B v ns ab kb) {n : Nd} (hn : NdFit n) (ha : n.ats = []) (hk : n.kids = [])
    (hr : w'.ownsRow B 41 7 v' (ns.length + 1) (rowN ns ab kb ++ cellsN n (.slice none 0 0) (.slice none 0 0))) (hg : w.grownBy w' v.ownBlock) :
    OwnN w' B v' (ns ++ [n]) (upd ab ns.length (.slice none 0 0)) (upd kb ns.length (.slice none 0 0)) := by
  have notRow : ∀ b, (∃ i, i < ns.length ∧ ((ab i).ownBlock = some b ∨ (kb i).ownBlock = some b)) → some b ≠ v.ownBlock := by
    rintro b ⟨i, hi, hb⟩ e
    have hrow : ∃ cur, w.heap[b]? = some (.cells cur 41 (0, 0)) := by
      rcases h.row.2 with ⟨rfl, -⟩ | ⟨g', cap, cur, rfl, _, q2, -⟩
      · cases e
      · simp only [Value.ownBlock, Option.some.injEq] at e
        subst e
        exact ⟨cur, q2⟩
    obtain ⟨cur, hcur⟩ := hrow
    rcases hb with hb | hb
    · obtain ⟨cu, hc, -⟩ := (h.ats i ns[i] (List.getElem?_eq_getElem hi)).block hb
      rw [hcur] at hc
      simp at hc
    · obtain ⟨cu, hc, -⟩ := (h.kids i ns[i] (List.getElem?_eq_getElem hi)).block hb
      rw [hcur] at hc
      simp at hc
  have e1 : rowN (ns ++ [n]) (upd ab ns.length (.slice none 0 0)) (upd kb ns.length (.slice none 0 0)) = rowN ns ab kb ++ cellsN n (.slice none 0 0) (.slice none 0 0) := by
    rw [rowN_snoc, upd_same, upd_same, rowN_congr ns fun i hi => ⟨upd_other _ _ (by omega), upd_other _ _ (by omega)⟩]
  have split : ∀ (i : Nat) (m : Nd), (ns ++ [n])[i]? = some m → (i < ns.length ∧ ns[i]? = some m) ∨ (i = ns.length ∧ m = n) := by
    intro i m hm
    by_cases hi : i < ns.length
    · rw [List.getElem?_append_left hi] at hm
      exact Or.inl ⟨hi, hm⟩
    · rw [List.getElem?_append_right (by omega)] at hm
      have hz : i - ns.length = 0 := by
        have := (List.getElem?_eq_some_iff.1 hm).1
        simp at this
        omega
      rw [hz] at hm
      simp at hm
      exact Or.inr ⟨by omega, hm.symm⟩
  have hlen : (ns ++ [n]).length = ns.length + 1 := by simp
  refine ⟨by rw [hlen, e1]; exact hr, ?_, ?_, ?_, ?_, ?_⟩
  · intro i m hm
    rcases split i m hm with ⟨hi, hm⟩ | ⟨rfl, rfl⟩
    · rw [upd_other _ _ (by omega)]
      have ho := h.ats i m hm
      exact ho.same fun b hb => hg.block b (ho.lt b hb).2 (notRow b ⟨i, hi, Or.inl hb⟩)
    · rw [upd_same, ha]
      exact OwnA.nil _ _
  · intro i m hm
    rcases split i m hm with ⟨hi, hm⟩ | ⟨rfl, rfl⟩
    · rw [upd_other _ _ (by omega)]
      have ho := h.kids i m hm
      exact ho.same fun b hb => hg.block b (ho.lt b hb).2 (notRow b ⟨i, hi, Or.inr hb⟩)
    · rw [upd_same, hk]
      exact OwnZ.nil _ _
  · intro i j b hi hj hij hb hb'
    rw [hlen] at hi hj
    by_cases e : i = ns.length
    · subst e; rw [upd_same] at hb; cases hb
    · by_cases e' : j = ns.length
      · subst e'; rw [upd_same] at hb'; cases hb'
      · rw [upd_other _ _ e] at hb
        rw [upd_other _ _ e'] at hb'
        exact h.apa i j b (by omega) (by omega) hij hb hb'
  · intro i j b hi hj hij hb hb'
    rw [hlen] at hi hj
    by_cases e : i = ns.length
    · subst e; rw [upd_same] at hb; cases hb
    · by_cases e' : j = ns.length
      · subst e'; rw [upd_same] at hb'; cases hb'
      · rw [upd_other _ _ e] at hb
        rw [upd_other _ _ e'] at hb'
        exact h.apk i j b (by omega) (by omega) hij hb hb'
  · intro m hm
    rcases List.mem_append.1 hm with hm | hm
    · exact h.fit m hm
    · have : m = n := by simpa using hm
      rw [this]
      exact hn
end Go.Proofs.YtcdnakcojanaeabGreat
