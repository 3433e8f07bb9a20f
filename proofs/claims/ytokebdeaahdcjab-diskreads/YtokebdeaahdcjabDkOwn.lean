/-
  Writes in a row of one's own; the copy of a state.
-/
import Derived.Test.YtokebdeaahdcjabDkCopy
import Derived.Test.YtokebdeaahdcjabDkCheck
namespace Go.Proofs.Ytokebdeaahdcjab
open Go.ChangeShapes Go.WideShapes Go.ChangeAt Go.RowKit Go.Deep
open Dk (Wr St)

/-- Rows of octets stay. -/
def KpB (W W' : World) : Prop := W.heap.size ≤ W'.heap.size ∧ ∀ (j : Nat) (cs : Array Value) (r : Nat × Nat), W.heap[j]? = some (Obj.cells cs 5 r) → W'.heap[j]? = W.heap[j]?
theorem KpB.trans {A B C : World} (h : KpB A B) (k : KpB B C) : KpB A C := ⟨Nat.le_trans h.1 k.1, fun j cs r hj => (k.2 j cs r ((h.2 j cs r hj).trans hj)).trans (h.2 j cs r hj)⟩
theorem KpB.below {A B : World} (h : Below A.heap.size A B) : KpB A B := ⟨h.size, fun j _ _ hj => h.block j (lt_of_block hj)⟩
theorem KpB.set {A : World} {g o : Nat} {cs : Array Value} {t : TypeId} {r : Nat × Nat} (h : A.heap[g]? = some (.cells cs t r)) (ht : t ≠ 5) (v : Value) : KpB A (A.setCell ⟨g, o, none⟩ v) :=
  ⟨by simp [World.setCell], fun j cs' r' hj => Below.heap_setCell _ _ _ _ (by rintro rfl; rw [h] at hj; simp only [Option.some.injEq, Obj.cells.injEq] at hj; exact ht hj.2.1)⟩
theorem KpB.grown {A B : World} {row : Option Nat} (hg : A.grownBy B row) (hr : ∀ g, row = some g → ∃ cs t r, A.heap[g]? = some (.cells cs t r) ∧ t ≠ 5) : KpB A B :=
  ⟨hg.size, fun j cs r hj => hg.block j (lt_of_block hj) (by
    intro e
    obtain ⟨cs', t, r', h1, h2⟩ := hr j e.symm
    rw [h1] at hj
    simp only [Option.some.injEq, Obj.cells.injEq] at hj
    exact h2 hj.2.1)⟩

theorem Bs.kpb {W W' : World} {B : Nat} {s : Value} {l : List UInt8} (h : Bs W B s l) (k : KpB W W') : Bs W' B s l := by
  refine ownsRow_same h fun g hg => ?_
  obtain ⟨h1, h2⟩ := h
  rcases h2 with ⟨h3, -⟩ | ⟨g', cap, cur, h3, h4, h5, h6⟩
  · rw [h3] at hg; simp [Value.ownBlock] at hg
  · rw [h3] at hg
    simp only [Value.ownBlock, Option.some.injEq] at hg
    subst hg
    exact k.2 _ _ _ h5

/-- What may stand in a write. -/
def Fit (x : Wr) : Prop := x.d.length ≤ 140737488351232 ∧ -9223372036854775808 ≤ x.sec ∧ x.sec ≤ 9223372036854775807

/-- Writes in a row, each with its octets. -/
def WItems (W : World) (ws : List Wr) (xs : List Value) : Prop :=
  ∀ j x, ws[j]? = some x → ∃ a c, xs[3 * j]? = some (.bool x.fl) ∧ xs[3 * j + 1]? = some (.int .i64 x.sec) ∧ xs[3 * j + 2]? = some (.slice a x.d.length c) ∧ Bs W 0 (.slice a x.d.length c) x.d ∧ Fit x

theorem WItems.kpb {W W' : World} {ws : List Wr} {xs : List Value} (h : WItems W ws xs) (k : KpB W W') : WItems W' ws xs := by
  intro j x hj
  obtain ⟨a, c, h1, h2, h3, h4, h5⟩ := h j x hj
  exact ⟨a, c, h1, h2, h3, h4.kpb k, h5⟩

theorem WItems.push {W : World} {ws : List Wr} {xs : List Value} (h : WItems W ws xs) (hl : xs.length = 3 * ws.length) {x : Wr} {a : Option Addr} {c : Nat} (hb : Bs W 0 (.slice a x.d.length c) x.d) (hx : Fit x) :
    WItems W (ws ++ [x]) (xs ++ [.bool x.fl, .int .i64 x.sec, .slice a x.d.length c]) := by
  intro j y hj
  by_cases hlt : j < ws.length
  · rw [List.getElem?_append_left hlt] at hj
    obtain ⟨a', c', h1, h2, h3, h4⟩ := h j y hj
    exact ⟨a', c', by rw [List.getElem?_append_left (by omega)]; exact h1, by rw [List.getElem?_append_left (by omega)]; exact h2, by rw [List.getElem?_append_left (by omega)]; exact h3, h4⟩
  · rw [List.getElem?_append_right (by omega)] at hj
    have hj0 : j = ws.length := by
      have := (List.getElem?_eq_some_iff.1 hj).1
      simp at this
      omega
    subst hj0
    simp only [Nat.sub_self, List.getElem?_cons_zero, Option.some.injEq] at hj
    subst hj
    refine ⟨a, c, ?_, ?_, ?_, hb, hx⟩
    · rw [List.getElem?_append_right (by omega), show 3 * ws.length - xs.length = 0 by omega]; rfl
    · rw [List.getElem?_append_right (by omega), show 3 * ws.length + 1 - xs.length = 1 by omega]; rfl
    · rw [List.getElem?_append_right (by omega), show 3 * ws.length + 2 - xs.length = 2 by omega]; rfl

/-- Writes in a row of one's own. -/
def OwnW (W : World) (B : Nat) (v : Value) (ws : List Wr) : Prop := ∃ xs, W.ownsRow B 28 3 v ws.length xs ∧ WItems W ws xs

theorem OwnW.nil (W : World) (B : Nat) : OwnW W B (.slice none 0 0) [] := ⟨[], World.ownsRow_nil _ _ _ _, fun j x h => by simp at h⟩

theorem OwnW.below {W W' : World} {B : Nat} {v : Value} {ws : List Wr} (h : OwnW W B v ws) (hb : Below W.heap.size W W') : OwnW W' B v ws := by
  obtain ⟨xs, h1, h2⟩ := h
  exact ⟨xs, ownsRow_same h1 fun g hg => hb.block g (h1.lt g hg).2, h2.kpb (KpB.below hb)⟩

theorem OwnW.shape {W : World} {B : Nat} {v : Value} {ws : List Wr} (h : OwnW W B v ws) : ∃ a c, v = .slice a ws.length c := by
  obtain ⟨xs, h1, -⟩ := h
  exact slice_of_own h1

theorem OwnW.base {W : World} {B B' : Nat} {v : Value} {ws : List Wr} (h : OwnW W B v ws) (hB : B' ≤ B) : OwnW W B' v ws := by
  obtain ⟨xs, ⟨h1, h2⟩, h3⟩ := h
  refine ⟨xs, ⟨h1, ?_⟩, h3⟩
  rcases h2 with h2 | ⟨g, cap, cur, hv, hg, r⟩
  · exact Or.inl h2
  · exact Or.inr ⟨g, cap, cur, hv, by omega, r⟩

/-- A box that is no row is written: the row stays. -/
theorem OwnW.set {W : World} {B : Nat} {v : Value} {ws : List Wr} (h : OwnW W B v ws) {g o : Nat} {cs : Array Value} {t : TypeId} {r : Nat × Nat} (hg : W.heap[g]? = some (.cells cs t r)) (h1 : t ≠ 5) (h2 : t ≠ 28) (u : Value) : OwnW (W.setCell ⟨g, o, none⟩ u) B v ws := by
  obtain ⟨xs, q1, q2⟩ := h
  refine ⟨xs, ownsRow_same q1 fun k hk => ?_, q2.kpb (KpB.set hg h1 u)⟩
  refine Below.heap_setCell _ _ _ _ ?_
  rintro rfl
  rcases q1.2 with ⟨h3, -⟩ | ⟨g', cap, cur, h3, h4, h5, h6⟩
  · rw [h3] at hk; simp [Value.ownBlock] at hk
  · rw [h3] at hk
    simp only [Value.ownBlock, Option.some.injEq] at hk
    subst hk
    rw [h5] at hg
    simp only [Option.some.injEq, Obj.cells.injEq] at hg
    exact h2 hg.2.1.symm

theorem OwnW.lay {W : World} {B : Nat} {a : Option Addr} {n c : Nat} {ws : List Wr} (h : OwnW W B (.slice a n c) ws) : LayW W a ws := by
  obtain ⟨xs, hr, hi⟩ := h
  intro j x hj
  obtain ⟨a', c', h1, h2, h3, h4, h5, h6, h7⟩ := hi j x hj
  have hlt : j < ws.length := (List.getElem?_eq_some_iff.1 hj).1
  have hown := hr
  obtain ⟨l0, hc⟩ := hr
  rcases hc with ⟨h8, h9⟩ | ⟨g, cap, cur, h8, h9, h10⟩
  · omega
  · simp only [Value.slice.injEq] at h8
    obtain ⟨rfl, rfl, rfl⟩ := h8
    have e1 := hown.cells (g := g) rfl _ _ h1
    have e2 := hown.cells (g := g) rfl _ _ h2
    have e3 := hown.cells (g := g) rfl _ _ h3
    rw [add_plain] at e1 e2 e3
    rw [Nat.mul_comm] at e1 e2 e3
    exact ⟨g, 0, a', c', rfl, e1, e2, e3, h4.oct (by omega), h5, h6, h7⟩

theorem Try.infoWr : (Try.prog.info? 28).map (fun i => (i.zero, i.size, i.bytes)) = some (some (.agg #[.bool false, .int .i64 0, .slice none 0 0]), 3, 40) := by kernel_rfl

/-- What an append of one write makes. -/
theorem OwnW.pushed {W W' : World} {B : Nat} {v v' : Value} {ws : List Wr} {xs : List Value} {x : Wr} {a : Option Addr} {c : Nat} (hr : W.ownsRow B 28 3 v ws.length xs) (hit : WItems W ws xs)
    (hr' : W'.ownsRow B 28 3 v' (ws.length + 1) (xs ++ [.bool x.fl, .int .i64 x.sec, .slice a x.d.length c])) (hg : W.grownBy W' v.ownBlock) (hb : Bs W 0 (.slice a x.d.length c) x.d) (hx : Fit x) : OwnW W' B v' (ws ++ [x]) := by
  have kp : KpB W W' := KpB.grown hg (by
    intro g hg
    rcases hr.2 with ⟨h3, -⟩ | ⟨g', cap, cur, h3, h4, h5, h6⟩
    · rw [h3] at hg; simp [Value.ownBlock] at hg
    · rw [h3] at hg
      simp only [Value.ownBlock, Option.some.injEq] at hg
      subst hg
      exact ⟨cur, _, _, h5, by decide⟩)
  refine ⟨_, by rw [List.length_append]; exact hr', (hit.kpb kp).push ?_ (hb.kpb kp) hx⟩
  have := hr.1
  omega

/-- Windows stay where a box that is no row is written. -/
theorem Wn.set {W : World} {T : Nat} {wins : List (Option (Nat × Nat))} {ss : List (List UInt8)} (h : Wn W T wins ss) {g o : Nat} {cs : Array Value} {t : TypeId} {r : Nat × Nat} (hg : W.heap[g]? = some (.cells cs t r)) (h1 : t ≠ 5) (h2 : t ≠ 26) (u : Value) : Wn (W.setCell ⟨g, o, none⟩ u) T wins ss := by
  obtain ⟨tab, t1, t2, t3⟩ := h.tab
  have hne : ∀ (k : Nat) (cs' : Array Value) (t' : TypeId) (r' : Nat × Nat), t' ≠ t → W.heap[k]? = some (.cells cs' t' r') → (W.setCell ⟨g, o, none⟩ u).heap[k]? = some (.cells cs' t' r') := by
    intro k cs' t' r' ht hk
    rw [Below.heap_setCell _ _ _ _ (by rintro rfl; rw [hg] at hk; simp only [Option.some.injEq, Obj.cells.injEq] at hk; exact ht hk.2.1.symm)]
    exact hk
  refine ⟨h.len, tab, hne _ _ _ _ (fun e => h2 e.symm) t1, t2, fun q wq lq e1 e2 => ?_⟩
  obtain ⟨xq, f1, f2⟩ := t3 q wq lq e1 e2
  refine ⟨xq, f1, ?_⟩
  cases wq with
  | none => exact f2
  | some pq =>
    obtain ⟨cq, curq, k1, k2, k3, k4, k5, k6⟩ := f2
    exact ⟨cq, curq, k1, k2, k3, k4, hne _ _ _ _ (fun e => h1 e.symm) k5, k6⟩

/-- Windows lie somewhere. -/
theorem Wn.lays {W : World} {T : Nat} {wins : List (Option (Nat × Nat))} {ss : List (List UInt8)} (h : Wn W T wins ss) : LayS W (some ⟨T, 0, none⟩) ss := by
  intro i l hl
  have hi := (List.getElem?_eq_some_iff.1 hl).1
  obtain ⟨wn, l', x, h1, h2, h3, h4⟩ := h.row hi
  rw [hl] at h2
  cases h2
  cases wn with
  | none =>
    obtain ⟨rfl, rfl⟩ := h4
    exact ⟨T, 0, none, 0, rfl, by rw [Nat.zero_add]; exact h3, ⟨fun k o hk => by simp at hk, by simp, by simp, by simp, fun _ => rfl, fun ad h => by cases h⟩, by simp⟩
  | some p =>
    obtain ⟨g, o⟩ := p
    obtain ⟨c, cur, rfl, e2, e3, e4, e5, e6, e7⟩ := h4
    refine ⟨T, 0, _, c, rfl, by rw [Nat.zero_add, e4]; exact h3, ⟨fun k u hk => ⟨g, o, rfl, ?_⟩, by omega, e3, by omega, (fun e => by cases e), fun ad e _ => by cases e; rfl⟩, by omega⟩
    rw [(cell_of e5 (o + k)).1]
    exact e7 k u hk
end Go.Proofs.Ytokebdeaahdcjab
