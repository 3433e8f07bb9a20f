/-
  The store of a whole struct into a block of its own, at the operation itself: what is known of the world behind it.
-/
import Derived.Test.YtcdnakcojanaeabGreatDoInts
import Derived.Test.YtcdnakcojanaeabGreatDoArgJ
import Derived.Deep.MidRow
namespace Go.Proofs.YtcdnakcojanaeabGreat.Rg
open Go.ChangeShapes Go.WideShapes Go.ChangeAt Go.RowKit Go.Deep

def setL : Array Value → Nat → List Value → Array Value
  | cur, _, [] => cur
  | cur, o, v :: r => setL (cur.setIfInBounds o v) (o + 1) r

theorem setL_all : ∀ (vs pre rest : List Value), rest.length = vs.length → setL (pre ++ rest).toArray pre.length vs = (pre ++ vs).toArray
  | [], pre, rest, h => by
    have : rest = [] := List.eq_nil_of_length_eq_zero h
    subst this
    rfl
  | v :: vs, pre, [], h => by simp at h
  | v :: vs, pre, u :: rest, h => by
    unfold setL
    have e : ((pre ++ u :: rest).toArray.setIfInBounds pre.length v) = ((pre ++ [v]) ++ rest).toArray := by
      simp [List.setIfInBounds_toArray]
    have := setL_all vs (pre ++ [v]) rest (by simpa using h)
    rw [e]
    simpa using this

theorem setCells_block {g : Nat} {t : TypeId} : ∀ (vs : List Value) (o : Nat) (w : World) (cur : Array Value), w.heap[g]? = some (.cells cur t (0, 0)) → (w.setCells g o vs).heap[g]? = some (.cells (setL cur o vs) t (0, 0))
  | [], _, _, _, h => h
  | v :: r, o, _, _, h => setCells_block r (o + 1) _ _ (set_one_cell h v)

theorem setCells_keep {g : Nat} : ∀ (vs : List Value) (o : Nat) (w : World) (b : Nat), b ≠ g → (w.setCells g o vs).heap[b]? = w.heap[b]?
  | [], _, _, _, _ => rfl
  | v :: r, o, w, b, h => by rw [World.setCells, setCells_keep r (o + 1) _ b h]; exact heap_set_other _ h

theorem setCells_below {g B : Nat} {w0 : World} (hg : B ≤ g) : ∀ (vs : List Value) (o : Nat) (w : World), Below B w0 w → Below B w0 (w.setCells g o vs)
  | [], _, _, h => h
  | v :: r, o, w, h => by
    rw [World.setCells]
    exact setCells_below hg r (o + 1) _ ⟨by simpa [World.setCell] using h.os, by simpa [World.setCell] using h.tape, by simpa [World.setCell] using h.output, by have := h.size; simpa [World.setCell] using this, fun j hj => (heap_set_other _ (by omega)).trans (h.block j hj)⟩

theorem op_storeF {o : Oper} {a : Act} {w : World} {K : Act → World → Prop} {Q : Exit → Act → World → Prop} (hd : o.dst = none) (ty : TypeId) (x y : Operand) (ho : o.op = .store ty x y) (g : Nat) (old : Array Value) (t : TypeId) (cells : List Value)
    (hx : a.eval x = .pointer (some ⟨g, 0, none⟩)) (hy : a.eval y = .agg cells.toArray) (hb : w.heap[g]? = some (.cells old t (0, 0))) (hs : old.size = cells.length) (hi : (Tryz.prog.info? ty).map (·.size) = some cells.length) (h1 : ∀ v ∈ cells, v.oneCell' = true)
    (h : ∀ w', w'.heap[g]? = some (.cells cells.toArray t (0, 0)) → (∀ b, b ≠ g → w'.heap[b]? = w.heap[b]?) → (∀ B w0, B ≤ g → Below B w0 w → Below B w0 w') → K (a.put none undef) w') : o.wp Tryz.prog a w K Q := by
  refine wp_store_mid ty x y ho g 0 cells.toArray hx hy ?_ (by simpa using hi) (all_oneCell_toArray h1) ?_
  · intro j hj
    have hj : j < cells.length := by simpa using hj
    obtain ⟨h2, h3⟩ := cell_of hb (0 + j)
    refine ⟨?_, h3⟩
    rw [h2, Array.getElem?_eq_getElem (by omega)]
    rfl
  · rw [hd]
    refine h _ ?_ (setCells_keep _ _ _) (fun B w0 hg hb' => setCells_below hg _ _ _ hb')
    have := setCells_block cells 0 w old hb
    have e := setL_all cells [] old.toList (by simpa using hs)
    simp only [List.nil_append, Array.toArray_toList, List.length_nil] at e
    rw [e] at this
    exact this
end Go.Proofs.YtcdnakcojanaeabGreat.Rg
