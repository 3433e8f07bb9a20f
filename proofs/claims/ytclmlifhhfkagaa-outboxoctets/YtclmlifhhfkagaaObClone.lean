/-
  slices.Clone, slices.Grow and slices.Concat of items: rows of one's own whose values are shared.
-/
import Derived.Test.YtclmlifhhfkagaaObEv
namespace Go.Proofs.Ytclmlifhhfkagaa
open Go.ChangeShapes Go.WideShapes Go.ChangeAt Go.RowKit

theorem layX_append {n : Nat} {w : World} {its its' : List (Tm n)} {xs ys : List Value} (h1 : ItemsR (shT n) (fun x u _ => Lay w n x u) its its.length xs (fun _ _ => False)) (hx : xs.length = its.length * 7) (h2 : ItemsR (shT n) (fun x u _ => Lay w n x u) its' its'.length ys (fun _ _ => False)) :
    ItemsR (shT n) (fun x u _ => Lay w n x u) (its ++ its') (its ++ its').length (xs ++ ys) (fun _ _ => False) := by
  intro i u hi hu
  have lt : ∀ j z, xs[j]? = some z → (xs ++ ys)[j]? = some z := fun j z hz => by
    rw [List.getElem?_append_left (List.getElem?_eq_some_iff.1 hz).1]; exact hz
  by_cases him : i < its.length
  · rw [List.getElem?_append_left him] at hu
    obtain ⟨q, d0, d1, d2, d3, d4, e0, e1, e2, e3, e4, ho⟩ := h1 i u him hu
    exact ⟨fun j c hj => lt _ _ (q j c hj), d0, d1, d2, d3, d4, lt _ _ e0, lt _ _ e1, lt _ _ e2, lt _ _ e3, lt _ _ e4, ho⟩
  · rw [List.getElem?_append_right (by omega)] at hu
    obtain ⟨q, d0, d1, d2, d3, d4, e0, e1, e2, e3, e4, ho⟩ := h2 (i - its.length) u (List.getElem?_eq_some_iff.1 hu).1 hu
    have up : ∀ j z, ys[(i - its.length) * 7 + j]? = some z → (xs ++ ys)[i * 7 + j]? = some z := fun j z hz => by
      rw [List.getElem?_append_right (by omega), hx, show i * 7 + j - its.length * 7 = (i - its.length) * 7 + j by omega]; exact hz
    exact ⟨fun j c hj => up _ _ (q j c hj), d0, d1, d2, d3, d4, up 2 _ e0, up 3 _ e1, up 4 _ e2, up 5 _ e3, up 6 _ e4, ho⟩

/-- append of a slice of items to a row that shares values. -/
theorem wpList_appSh {w0 : World} (w : World) {ops : Array Oper} {rest : List Oper} {o : Oper} {a : Act} {Q : Exit → Act → World → Prop} (hgd : o.guard = none) (s x : Operand)
    (hop : o.op = .call { callee := .builtin .append, args := #[s, x], argTypes := #[22, 22] })
    {n : Nat} (B : Nat) (v : Value) (its its' : List (Tm n)) (hs : a.eval s = v) (hL : ShRow w0 w B v its) (hw : Below w0.heap.size w0 w) (ia : Option Addr) (ic : Nat) (hx : a.eval x = .slice ia its'.length ic) (hT : TIs w0 n ia ic its') (hlen : (its.length + its'.length) * 104 ≤ 140737488355328) (hB : B ≤ w.heap.size)
    (h : ∀ v' w', ShRow w0 w' B v' (its ++ its') → w.grownBy w' v.ownBlock → wpList Try.prog ops Q rest (a.put o.dst v') w') : wpList Try.prog ops Q (o :: rest) a w := by
  obtain ⟨xs, h1, h2⟩ := hL
  obtain ⟨ys, y1, y2, y3, y4⟩ := hT.cells
  obtain ⟨i0, hi, hz0, hz1, hz2⟩ := info_parts Try.infoItem
  refine wpList_append_apart w hgd s x 22 hop B 54 i0 _ 7 104 Try.underlying22 hi hz0 hz1 hz2 rfl (by decide) v its.length xs hs h1 ia its'.length ic ys hx hT.2.2.2.1 y1 (fun ad e j u hj => ?_) y3 (by unfold maxLen; omega) hlen hB ?_
  · have := y2 ad e j u hj
    rw [hw.cell (lt_of_cell this)]
    exact this
  · intro v' w' q1 q2 _
    exact h v' w' ⟨_, by rw [List.length_append]; exact q1, layX_append h2 h1.1 y4⟩ q2

theorem ShRow.made {n : Nat} (w0 w : World) : ShRow (n := n) w0 (w.alloc (.cells #[] 54)) w.heap.size (.slice (some ⟨w.heap.size, 0, none⟩) 0 0) [] :=
  ⟨[], ⟨rfl, Or.inr ⟨w.heap.size, 0, #[], rfl, Nat.le_refl _, heap_alloc_new _ _, Nat.le_refl _, by decide, rfl, rfl⟩⟩, fun i u hi => by simp at hi⟩

theorem ShRow.nil {n : Nat} (w0 w : World) (B : Nat) : ShRow (n := n) w0 w B (.slice none 0 0) [] := ⟨[], World.ownsRow_nil _ _ _ _, fun i u hi => by simp at hi⟩

theorem eql_nilT (w : World) (a : Option Addr) (l c : Nat) : Sem.run Try.prog (binOp .eql 22 (.slice a l c) (.slice none 0 0)) w = .ok (.bool a.isNone) w := by
  exact Lib.run_eql_slice_nil w 22 54 a l c 0 0 Try.underlying22

/-- What Clone, Concat answer. -/
def ShPost {n : Nat} (w : World) (its : List (Tm n)) (e : Ending) (w' : World) : Prop := ∃ v, e = .returned v ∧ ShRow w w' w.heap.size v its ∧ Below w.heap.size w w'

set_option maxRecDepth 100000 in
theorem cloneT_any {n : Nat} (its : List (Tm n)) (ia : Option Addr) (ic : Nat) (w : World) (hT : TIs w n ia ic its) : Calls Try.prog 44 #[.slice ia its.length ic] w (ShPost w its) := by
  have HT : Hid (TIs w n ia ic its) := hT
  cases ia with
  | none =>
    obtain ⟨hl0, hc⟩ := hT.2.2.2.1 rfl
    have hnil : its = [] := List.eq_nil_of_length_eq_zero hl0
    subst hnil hc
    clear hT hl0
    have hn := fun w l c => eql_nilT w none l c
    simp only [Option.isNone_none] at hn
    go_enter Try.func44, Try.ntmps44
    go_wp2_with fail
    go_ret
    exact ⟨_, rfl, ShRow.nil _ _ _, Below.refl _ _⟩
  | some ad =>
    have hlen := hT.2.2.1
    clear hT
    have B0 : Hid (ShRow (n := n) w (w.alloc (.cells #[] 54)) w.heap.size (.slice (some ⟨w.heap.size, 0, none⟩) 0 0) []) := ShRow.made w w
    have hn := fun w l c => eql_nilT w (some ad) l c
    simp only [Option.isNone_some] at hn
    go_enter Try.func44, Try.ntmps44
    go_wp2_with (at_builtin; refine wpList_appSh (w0 := w) _ rfl _ _ rfl w.heap.size _ [] its rfl B0.out (below_one _ _) (some ad) ic rfl HT.out ?d0 ?d1 ?_)
    case d0 => simp; omega
    case d1 => simp
    intro s w1 h1 h2
    have H1 : Hid (ShRow w w1 w.heap.size s its) := by show ShRow _ _ _ _ _; simpa using h1
    have B1 : Hid (Below w.heap.size w w1) := (below_one w _).grown h2 (by simp) (fun g hg => by simp [Value.ownBlock] at hg; omega)
    clear h1 h2
    go_wp2_with fail
    go_ret
    exact ⟨s, rfl, H1.out, B1.out⟩
end Go.Proofs.Ytclmlifhhfkagaa
