/-
  The tree of a display, as mathematics.
-/
import Derived.Test.YtbadehbnpneepaaJ1
import Derived.Test.YtbadehbnpneepaaTfCopy
namespace Go.Proofs.Ytbadehbnpneepaa
open Go.ChangeShapes Go.WideShapes Go.ChangeAt Go.RowKit Go.Deep
open Do

namespace Do
/-- All of them, or none. -/
def allO {α : Type} : List (Option α) → Option (List α)
  | [] => some []
  | none :: _ => none
  | some a :: r => match allO r with
    | none => none
    | some l => some (a :: l)

/-- The tree of a number's node, of at most k levels. -/
def trO (ns : List Nd) : (k : Nat) → Int → Option (T k)
  | 0, _ => none
  | k + 1, x => match nd ns x with
    | none => none
    | some n => match allO (n.kids.map (trO ns k)) with
      | none => none
      | some its => some (n.tag, n.key, n.txt, n.ats, its)

theorem allO_snoc {α : Type} : ∀ (l : List (Option α)) (a : Option α), allO (l ++ [a]) = match allO l, a with
    | some r, some y => some (r ++ [y])
    | _, _ => none
  | [], none => rfl
  | [], some _ => rfl
  | none :: _, _ => rfl
  | some b :: r, a => by
    have ih := allO_snoc r a
    simp only [List.cons_append, allO, ih]
    cases allO r with
    | none => rfl
    | some l => cases a <;> rfl

theorem allO_none {α : Type} : ∀ {l : List (Option α)}, none ∈ l → allO l = none
  | none :: _, _ => rfl
  | some b :: r, h => by
    have : none ∈ r := by simpa using h
    simp only [allO, allO_none this]

theorem allO_length {α : Type} : ∀ {l : List (Option α)} {r : List α}, allO l = some r → r.length = l.length
  | [], r, h => by simp [allO] at h; subst h; rfl
  | none :: _, r, h => by simp [allO] at h
  | some b :: l, r, h => by
    simp only [allO] at h
    cases e : allO l with
    | none => rw [e] at h; cases h
    | some q =>
      rw [e] at h
      simp only [Option.some.injEq] at h
      subst h
      simp [allO_length e]

theorem trO_node {ns : List Nd} {k : Nat} {x : Int} {n : Nd} (h : nd ns x = some n) : trO ns (k + 1) x = match allO (n.kids.map (trO ns k)) with
      | none => none
      | some its => some (n.tag, n.key, n.txt, n.ats, its) := by
  simp only [trO, h]

/-- What Tree answers. -/
def treeD (s : Ds) : Int × Option (T 8) := if okD s = true then (if s.root = 0 then (71, none) else match trO s.nodes 8 s.root with
    | none => (10, none)
    | some t => (0, some t)) else (9, none)
end Do
end Go.Proofs.Ytbadehbnpneepaa

/-
  The program's treeOf and Tree: the tree of a display, in memory of its own.
-/
namespace Go.Proofs.Ytbadehbnpneepaa
open Go.ChangeShapes Go.WideShapes Go.ChangeAt Go.RowKit Go.Deep
open Do

/-- No tree. -/
abbrev zT : Value := mkT ⟨#[]⟩ ⟨#[]⟩ ⟨#[]⟩ none 0 0 none 0 0

/-- A tree is answered, or none and an error. -/
def TrPost (k : Nat) (w w' : World) (e : Ending) (er : Int) (o : Option (T k)) : Prop := match o with
  | none => e = .returned (.tuple #[zT, .int .i64 er]) ∧ Below w.heap.size w w'
  | some t => ∃ y F, e = .returned (.tuple #[y, .int .i64 0]) ∧ OwnT w' k y t F ∧ (∀ b, F b → w.heap.size ≤ b ∧ b < w'.heap.size) ∧ Below w.heap.size w w'

theorem five {w : World} {B : Nat} {c0 c1 c2 c3 c4 : Value} {t : TypeId} (h : w.heap[B]? = some (.cells #[c0, c1, c2, c3, c4] t (0, 0))) :
    (w.cell? ⟨B, 0, none⟩ = some c0 ∧ w.cell? ⟨B, 1, none⟩ = some c1 ∧ w.cell? ⟨B, 2, none⟩ = some c2 ∧ w.cell? ⟨B, 3, none⟩ = some c3 ∧ w.cell? ⟨B, 4, none⟩ = some c4) ∧ ∀ j, w.frozen? ⟨B, j, none⟩ = false :=
  ⟨⟨(cell_of h 0).1, (cell_of h 1).1, (cell_of h 2).1, (cell_of h 3).1, (cell_of h 4).1⟩, fun j => (cell_of h j).2⟩

/-- The five cells of a tree's variable are set. -/
theorem tree_fin {W : World} {R : Nat} {z0 z1 z2 z3 z4 c0 c1 c2 c3 c4 : Value} {t : TypeId} (h : W.heap[R]? = some (.cells #[z0, z1, z2, z3, z4] t (0, 0))) :
    (((((W.setCell ⟨R, 0, none⟩ c0).setCell ⟨R, 1, none⟩ c1).setCell ⟨R, 2, none⟩ c2).setCell ⟨R, 3, none⟩ c3).setCell ⟨R, 4, none⟩ c4).heap[R]? = some (.cells #[c0, c1, c2, c3, c4] t (0, 0)) ∧
      (∀ b, b ≠ R → (((((W.setCell ⟨R, 0, none⟩ c0).setCell ⟨R, 1, none⟩ c1).setCell ⟨R, 2, none⟩ c2).setCell ⟨R, 3, none⟩ c3).setCell ⟨R, 4, none⟩ c4).heap[b]? = W.heap[b]?) ∧
      (∀ B w, B ≤ R → Below B w W → Below B w (((((W.setCell ⟨R, 0, none⟩ c0).setCell ⟨R, 1, none⟩ c1).setCell ⟨R, 2, none⟩ c2).setCell ⟨R, 3, none⟩ c3).setCell ⟨R, 4, none⟩ c4)) ∧
      (((((W.setCell ⟨R, 0, none⟩ c0).setCell ⟨R, 1, none⟩ c1).setCell ⟨R, 2, none⟩ c2).setCell ⟨R, 3, none⟩ c3).setCell ⟨R, 4, none⟩ c4).heap.size = W.heap.size := by
  have keep : ∀ b, b ≠ R → (((((W.setCell ⟨R, 0, none⟩ c0).setCell ⟨R, 1, none⟩ c1).setCell ⟨R, 2, none⟩ c2).setCell ⟨R, 3, none⟩ c3).setCell ⟨R, 4, none⟩ c4).heap[b]? = W.heap[b]? := fun b hb => (heap_set_other _ hb).trans ((heap_set_other _ hb).trans ((heap_set_other _ hb).trans ((heap_set_other _ hb).trans (heap_set_other _ hb))))
  refine ⟨?_, keep, fun B w hB hb => ⟨by simpa [World.setCell] using hb.os, by simpa [World.setCell] using hb.tape, by simpa [World.setCell] using hb.output, by have := hb.size; simpa [World.setCell] using this, fun j hj => (keep j (by omega)).trans (hb.block j hj)⟩, by simp [World.setCell]⟩
  rw [set_one_cell (set_one_cell (set_one_cell (set_one_cell (set_one_cell h _) _) _) _) _]
  simp

/-- What the loop over kids keeps. -/
structure TrI (k : Nat) (ns : List Nd) (n : Nd) (w wr : World) (B g9 : Nat) (av : Value) (m : Nat) (its : List (T k)) (xs : List Value) (G : Nat → Nat → Prop) (ra : Option Addr) (rc : Nat) : Prop where
  it : allO ((n.kids.take m).map (trO ns k)) = some its
  box : wr.heap[g9]? = some (.cells #[.string n.tag, .string n.key, .string n.txt, av, .slice ra m rc] 25 (0, 0))
  row : wr.ownsRow B 25 5 (.slice ra m rc) m xs
  items : Items (OwnT wr k) its m xs G
  lt : ∀ i b, i < m → G i b → B ≤ b ∧ b < wr.heap.size ∧ (Value.slice ra m rc).ownBlock ≠ some b
  apart : ∀ i j b, i < m → j < m → G i b → G j b → i = j
  ats : OwnA wr (w.heap.size + 1) av n.ats
  res : wr.heap[w.heap.size]? = some (.cells #[.string ⟨#[]⟩, .string ⟨#[]⟩, .string ⟨#[]⟩, .slice none 0 0, .slice none 0 0] 25 (0, 0))
  bel : Below w.heap.size w wr
  atb : ∀ b, av.ownBlock = some b → b < B
  order : w.heap.size < g9 ∧ g9 < B ∧ B ≤ wr.heap.size

theorem TrI.below {k : Nat} {ns : List Nd} {n : Nd} {w wr w' : World} {B g9 : Nat} {av : Value} {m : Nat} {its : List (T k)} {xs : List Value} {G : Nat → Nat → Prop} {ra : Option Addr} {rc : Nat} (h : TrI k ns n w wr B g9 av m its xs G ra rc) (hb : Below wr.heap.size wr w') : TrI k ns n w w' B g9 av m its xs G ra rc := by
  refine ⟨h.it, (hb.block _ (lt_of_block h.box)).trans h.box, ownsRow_same h.row fun g hg => hb.block g (h.row.lt g hg).2, ?_, fun i b hi hG => ⟨(h.lt i b hi hG).1, Nat.lt_of_lt_of_le (h.lt i b hi hG).2.1 hb.size, (h.lt i b hi hG).2.2⟩, h.apart, h.ats.below hb, (hb.block _ (lt_of_block h.res)).trans h.res, nxt h.bel hb, h.atb, h.order.1, h.order.2.1, Nat.le_trans h.order.2.2 hb.size⟩
  intro i u hi hu
  obtain ⟨c0, c1, c2, c3, c4, e0, e1, e2, e3, e4, ho⟩ := h.items i u hi hu
  exact ⟨c0, c1, c2, c3, c4, e0, e1, e2, e3, e4, ho.same k fun b hb' => hb.block b (h.lt i b hi hb').2.1⟩

/-- One kid more. -/
theorem TrI.push {k : Nat} {ns : List Nd} {n : Nd} {w wr w1 w2 : World} {B g9 : Nat} {av : Value} {m : Nat} {its : List (T k)} {xs : List Value} {G : Nat → Nat → Prop} {ra : Option Addr} {rc : Nat} (h : TrI k ns n w wr B g9 av m its xs G ra rc) {x : Int} (hx : n.kids[m]? = some x) {u : T k} (hu : trO ns k x = some u)
    {c0 c1 c2 c3 c4 : Value} {F : Nat → Prop} {o o' : Obj} (ho : OwnT w1 k (.agg #[c0, c1, c2, c3, c4]) u F) (hF : ∀ b, F b → wr.heap.size ≤ b ∧ b < w1.heap.size) (hb : Below wr.heap.size wr w1) {v' : Value}
    (hr : w2.ownsRow B 25 5 v' (m + 1) (xs ++ [c0, c1, c2, c3, c4])) (hg : ((w1.alloc o').alloc o).grownBy w2 (Value.slice ra m rc).ownBlock) (hv' : v'.ownBlock = (Value.slice ra m rc).ownBlock ∨ ∀ g, v'.ownBlock = some g → (w1.alloc o').heap.size + 1 ≤ g) :
    ∃ ra' rc', v' = .slice ra' (m + 1) rc' ∧ (∃ z, w2.cell? ⟨g9, 4, none⟩ = some z) ∧ w2.frozen? ⟨g9, 4, none⟩ = false ∧ ∃ G', TrI k ns n w (w2.setCell ⟨g9, 4, none⟩ v') B g9 av (m + 1) (its ++ [u]) (xs ++ [c0, c1, c2, c3, c4]) G' ra' rc' := by
  obtain ⟨ra', rc', hv⟩ := slice_of_own hr
  subst hv
  have hlen := allO_length h.it
  have hml : m < n.kids.length := (List.getElem?_eq_some_iff.1 hx).1
  have hil : its.length = m := by rw [hlen]; simp; omega
  have hord := h.order
  have hb' : Below wr.heap.size wr (w1.alloc o') := nxt hb (below_one _ _)
  have hits : (its ++ [u])[m]? = some u := by rw [List.getElem?_append_right (by omega), hil]; simp
  have hX : Items (OwnT wr k) (its ++ [u]) m xs G := fun i y hi hy => h.items i y hi (by rwa [List.getElem?_append_left (by omega)] at hy)
  obtain ⟨G', hX', hG', hD', hkeep, hsz, -⟩ := copy_step (B := B) hits h.row.1 hX h.lt h.apart (fun g hg => (h.row.lt g hg).2) (ho.same k fun b hb0 => (below_one w1 o').block b (hF b hb0).2) (fun b hb0 => ⟨(hF b hb0).1, Nat.lt_of_lt_of_le (hF b hb0).2 (below_one w1 o').size⟩) hord.2.2 hb' hg hv'
  have rowne : (Value.slice ra m rc).ownBlock ≠ some g9 := fun e => by have := (h.row.lt g9 e).1; omega
  have box2 : w2.heap[g9]? = _ := (hkeep g9 (lt_of_block h.box) rowne).trans h.box
  obtain ⟨⟨-, -, -, -, q4⟩, qf⟩ := five box2
  refine ⟨ra', rc', rfl, ⟨_, q4⟩, qf 4, G', ?_⟩
  have sset : ∀ b, b ≠ g9 → (w2.setCell ⟨g9, 4, none⟩ (.slice ra' (m + 1) rc')).heap[b]? = w2.heap[b]? := fun b hb0 => heap_set_other _ hb0
  have ssz : (w2.setCell ⟨g9, 4, none⟩ (.slice ra' (m + 1) rc')).heap.size = w2.heap.size := by simp [World.setCell]
  refine ⟨?_, ?_, ?_, ?_, ?_, hD', ?_, ?_, ?_, h.atb, hord.1, hord.2.1, by rw [ssz]; omega⟩
  · rw [List.take_add_one, hx, List.map_append, Option.toList_some, List.map_cons, List.map_nil, allO_snoc, h.it, hu]
  · rw [set_one_cell box2]
    simp
  · exact ownsRow_same hr fun g hg0 => sset g (by have := (hr.lt g hg0).1; omega)
  · intro i y hi hy
    obtain ⟨d0, d1, d2, d3, d4, e0, e1, e2, e3, e4, hO⟩ := hX' i y hi hy
    exact ⟨d0, d1, d2, d3, d4, e0, e1, e2, e3, e4, hO.same k fun b hb0 => sset b (by have := (hG' i b hi hb0).1; omega)⟩
  · intro i b hi hGi
    have := hG' i b hi hGi
    exact ⟨this.1, by rw [ssz]; exact this.2.1, this.2.2⟩
  · refine h.ats.same fun b hb0 => ?_
    have h1 := h.atb b hb0
    rw [sset b ?_, hkeep b (by omega) (fun e => by have := (h.row.lt b e).1; omega)]
    rintro rfl
    obtain ⟨cu, hc, -⟩ := h.ats.block hb0
    rw [h.box] at hc
    simp at hc
  · rw [sset _ (by omega), hkeep _ (lt_of_block h.res) (fun e => by have := (h.row.lt _ e).1; omega)]
    exact h.res
  · have hw2 : Below w.heap.size w w2 := by
      have h1 : Below w.heap.size w ((w1.alloc o').alloc o) := nxt (nxt h.bel hb') (below_one _ _)
      exact h1.grown hg (by have := h.bel.size; have := hb'.size; have := (below_one (w1.alloc o') o).size; omega) (fun g hg0 => by have := (h.row.lt g hg0).1; omega)
    exact ⟨hw2.os, hw2.tape, hw2.output, by rw [ssz]; exact hw2.size, fun j hj => (sset j (by omega)).trans (hw2.block j hj)⟩

/-- All kids are there: the tree is one's own. -/
theorem TrI.done {k : Nat} {ns : List Nd} {n : Nd} {w wr w' : World} {B g9 : Nat} {aa : Option Addr} {al ac : Nat} {m : Nat} {its : List (T k)} {xs : List Value} {G : Nat → Nat → Prop} {ra : Option Addr} {rc : Nat} (h : TrI k ns n w wr B g9 (.slice aa al ac) m its xs G ra rc) (hm : m = n.kids.length) (hf : NdFit n) (hk : n.kids.length ≤ 32) (hal : al = n.ats.length)
    (hsame : ∀ b, w.heap.size < b → w'.heap[b]? = wr.heap[b]?) (hsz : w'.heap.size = wr.heap.size) : OwnT w' (k + 1) (mkT n.tag n.key n.txt aa al ac ra m rc) (n.tag, n.key, n.txt, n.ats, its) (fun b => w.heap.size ≤ b ∧ b < w'.heap.size) := by
  subst hal
  have hil : its.length = m := by have := allO_length h.it; rw [this]; simp; omega
  subst hil
  have hord := h.order
  have cA := cap_of_own h.ats
  have cI := cap_of_own h.row
  refine ⟨aa, ac, ra, rc, xs, G, rfl, ⟨hf.node.1, hf.node.2.1, hf.node.2.2.1, cA.1, cA.2, hf.node.2.2.2.1, cI.1, cI.2, by omega⟩, hf.atr, ?_, ?_, ?_, ?_, ?_, ?_, h.apart⟩
  · exact ownsRow_same (ownsRow_base0 h.ats) fun b hb => hsame b (by have := (h.ats.lt b hb).1; omega)
  · exact ownsRow_same (ownsRow_base0 h.row) fun b hb => hsame b (by have := (h.row.lt b hb).1; omega)
  · intro b hb
    have := h.ats.lt b hb
    exact ⟨by omega, by omega⟩
  · intro b hb
    have := h.row.lt b hb
    exact ⟨by omega, by omega⟩
  · intro i u hi hu
    obtain ⟨c0, c1, c2, c3, c4, e0, e1, e2, e3, e4, ho⟩ := h.items i u hi hu
    exact ⟨c0, c1, c2, c3, c4, e0, e1, e2, e3, e4, ho.same k fun b hb => hsame b (by have := (h.lt i b hi hb).1; omega)⟩
  · intro i b hi hb
    have h1 := h.lt i b hi hb
    exact ⟨⟨by omega, by omega⟩, fun e => by have := h.atb b e; omega, h1.2.2⟩
end Go.Proofs.Ytbadehbnpneepaa
