/-
  What the memory of 'lengths' keeps to.
-/
import Derived.Test.YteceljjmandnmaaLiRange
import Derived.Deep.OwnRows
namespace Go.Proofs.Yteceljjmandnmaa
open Go.ChangeShapes Go.WideShapes Go.ChangeAt Go.RowKit Go.Deep
open Li

theorem wpList_mkI (w : World) {ops : Array Oper} {rest : List Oper} {o : Oper} {a : Act} {Q : Exit → Act → World → Prop} (hg : o.guard = none) (l c : Operand) (hop : o.op = Op.makeSlice 22 l c)
    (n : Nat) (hl : a.eval l = .int .i64 (n : Int)) (hc : a.eval c = .int .i64 (n : Int)) (hn : n ≤ 10000)
    (hK : ∀ w', Hid (w'.heap[w.heap.size]? = some (.cells ((List.replicate n (0 : Int)).map fun k => Value.int .i64 k).toArray 3 (0, 0))) → Hid (w'.heap.size = w.heap.size + 1) → Hid (Below w.heap.size w w') → wpList Try.prog ops Q rest (a.put o.dst (.slice (some ⟨w.heap.size, 0, none⟩) n n)) w') : wpList Try.prog ops Q (o :: rest) a w := by
  obtain ⟨i0, hi, hz0, hz1, hz2⟩ := info_parts Try.infoInt
  refine wpList_make_row w hg l c 22 hop 3 i0 _ Try.underlying22 hi hz0 hz1 rfl .i64 .i64 n hl hc (by rw [hz2]; omega) (by omega) ?_
  refine hK _ ?_ (by show _ = _; simp) (below_one _ _)
  show _ = _
  have e : madeCells #[Value.int .i64 0] n = ((List.replicate n (0 : Int)).map fun k => Value.int .i64 k).toArray := by rw [← Array.toList_inj, toList_madeCells_one]; simp
  rw [e]
  exact heap_alloc_new _ _

theorem OwnI.set {w : World} {B g n c : Nat} {ks : List Int} (h : OwnI w B (.slice (some ⟨g, 0, none⟩) n c) ks) (j : Nat) (x : Int) :
    OwnI (w.setCell ⟨g, j, none⟩ (.int .i64 x)) B (.slice (some ⟨g, 0, none⟩) n c) (ks.set j x) := by
  obtain ⟨h1, h2⟩ := h
  rcases h2 with ⟨h3, -⟩ | ⟨g', cap, cur, h3, h4, h5, h6, h7, h8, h9⟩
  · simp at h3
  · simp only [Value.slice.injEq, Option.some.injEq, Addr.mk.injEq, and_true] at h3
    obtain ⟨rfl, rfl, rfl⟩ := h3
    refine ⟨by simp, Or.inr ⟨g, c, _, by simp, h4, set_one_cell h5 _, by simpa using h6, h7, by simpa using h8, ?_⟩⟩
    have hc : (ks.set j x).map (fun k => Value.int .i64 k) = (ks.map fun k => Value.int .i64 k).set j (.int .i64 x) := by simp [List.map_set]
    rw [hc, ← h9]
    simp [List.take_set]

theorem OwnI.cell {w : World} {B g n c : Nat} {ks : List Int} (h : OwnI w B (.slice (some ⟨g, 0, none⟩) n c) ks) {j : Nat} (hj : j < ks.length) : w.cell? ⟨g, j, none⟩ = some (.int .i64 ks[j]) ∧ w.frozen? ⟨g, j, none⟩ = false := by
  have h0 := h
  obtain ⟨h1, h2⟩ := h
  rcases h2 with ⟨h3, -⟩ | ⟨g', cap, cur, h3, h4, h5, -⟩
  · simp at h3
  · simp only [Value.slice.injEq, Option.some.injEq, Addr.mk.injEq, and_true] at h3
    obtain ⟨rfl, -, rfl⟩ := h3
    obtain ⟨g2, e, q⟩ := h0.at j hj
    cases e
    rw [Nat.zero_add] at q
    exact ⟨q, (cell_of h5 j).2⟩

theorem heap_set_other {w : World} {g o j : Nat} (v : Value) (h : j ≠ g) : (w.setCell ⟨g, o, none⟩ v).heap[j]? = w.heap[j]? := by
  have : ¬ g = j := fun e => h e.symm
  simp [World.setCell, Array.getElem?_modify, this]

theorem OwnI.stay {D B : Nat} {W W' : World} {v : Value} {l : List Int} (h : OwnI W B v l) (k : Stay D W W') : OwnI W' B v l := by
  refine ownsRow_same h fun g hg => ?_
  obtain ⟨h1, h2⟩ := h
  rcases h2 with ⟨rfl, _⟩ | ⟨g', cap, cur, rfl, _, hb, _⟩
  · cases hg
  · simp only [Value.ownBlock, Option.some.injEq] at hg
    subst hg
    rw [hb]
    exact k.kp.2 _ _ _ _ hb

/-- A row's block holds whole numbers. -/
theorem OwnI.block {w : World} {B : Nat} {v : Value} {ks : List Int} (h : OwnI w B v ks) {g : Nat} (hg : v.ownBlock = some g) : ∃ cur, w.heap[g]? = some (.cells cur 3 (0, 0)) ∧ B ≤ g := by
  obtain ⟨h1, h2⟩ := h
  rcases h2 with ⟨rfl, _⟩ | ⟨g', cap, cur, rfl, hB, hb, _⟩
  · cases hg
  · simp only [Value.ownBlock, Option.some.injEq] at hg
    subst hg
    exact ⟨cur, hb, hB⟩

/-- The memory of 'lengths' behind its first steps: the row and the variable of 'from', the variable of 'heads' and its row, the list's variable. -/
structure LS (w : World) (la : Option Addr) (n c : Nat) (W : World) (fs hs : List Int) : Prop where
  bel : Below w.heap.size w W
  fb : W.heap[w.heap.size]? = some (.cells (fs.map fun k => Value.int .i64 k).toArray 3 (0, 0))
  pf : W.heap[w.heap.size + 1]? = some (.cells #[.slice (some ⟨w.heap.size, 0, none⟩) fs.length fs.length] 22 (0, 0))
  ph : ∃ v, W.heap[w.heap.size + 2]? = some (.cells #[v] 22 (0, 0)) ∧ OwnI W (w.heap.size + 1) v hs
  pl : W.heap[w.heap.size + 3]? = some (.cells #[.slice la n c] 22 (0, 0))

theorem LS.stay {w W W' : World} {la : Option Addr} {n c D : Nat} {fs hs : List Int} (h : LS w la n c W fs hs) (k : Stay D W W') (hD : w.heap.size ≤ D) : LS w la n c W' fs hs := by
  obtain ⟨h1, h2, h3, ⟨v, h4, h5⟩, h6⟩ := h
  exact ⟨h1.trans (k.below.mono hD), k.kp.2 _ _ _ _ h2, k.kp.2 _ _ _ _ h3, ⟨v, k.kp.2 _ _ _ _ h4, h5.stay k⟩, k.kp.2 _ _ _ _ h6⟩

theorem LS.below {w W W' : World} {la : Option Addr} {n c : Nat} {fs hs : List Int} (h : LS w la n c W fs hs) (k : Below W.heap.size W W') : LS w la n c W' fs hs := h.stay (Stay.of_below k h.bel.size) (Nat.le_refl _)

/-- A number of 'from' is laid. -/
theorem LS.setF {w W : World} {la : Option Addr} {n c : Nat} {fs hs : List Int} (h : LS w la n c W fs hs) (p : Nat) (x : Int) : LS w la n c (W.setCell ⟨w.heap.size, p, none⟩ (.int .i64 x)) (fs.set p x) hs := by
  obtain ⟨h1, h2, h3, ⟨v, h4, h5⟩, h6⟩ := h
  refine ⟨⟨h1.os, h1.tape, h1.output, by simpa [World.setCell] using h1.size, fun j hj => (heap_set_other _ (by omega)).trans (h1.block j hj)⟩, ?_, ?_, ⟨v, (heap_set_other _ (by omega)).trans h4, ?_⟩, (heap_set_other _ (by omega)).trans h6⟩
  · rw [set_one_cell h2]
    simp [List.map_set]
  · rw [List.length_set]
    exact (heap_set_other _ (by omega)).trans h3
  · refine h5.same fun b hb => heap_set_other _ ?_
    obtain ⟨_, _, hB⟩ := h5.block hb
    omega

/-- A head is laid anew. -/
theorem LS.setH {w W : World} {la : Option Addr} {n c : Nat} {fs hs : List Int} (h : LS w la n c W fs hs) {g m k : Nat} (hv : W.heap[w.heap.size + 2]? = some (.cells #[.slice (some ⟨g, 0, none⟩) m k] 22 (0, 0))) (i : Nat) (x : Int) :
    LS w la n c (W.setCell ⟨g, i, none⟩ (.int .i64 x)) fs (hs.set i x) := by
  obtain ⟨h1, h2, h3, ⟨v, h4, h5⟩, h6⟩ := h
  rw [hv] at h4
  simp only [Option.some.injEq, Obj.cells.injEq, and_true] at h4
  have e : v = .slice (some ⟨g, 0, none⟩) m k := by simpa using h4.symm
  subst e
  obtain ⟨cur, hb, hB⟩ := h5.block (g := g) rfl
  have hn : ∀ j cs, W.heap[j]? = some (.cells cs 22 (0, 0)) → j ≠ g := by
    rintro j cs hj rfl
    rw [hb] at hj
    simp at hj
  exact ⟨⟨h1.os, h1.tape, h1.output, by simpa [World.setCell] using h1.size, fun j hj => (heap_set_other _ (by omega)).trans (h1.block j hj)⟩, (heap_set_other _ (by omega)).trans h2, (heap_set_other _ (hn _ _ h3)).trans h3,
    ⟨_, (heap_set_other _ (hn _ _ hv)).trans hv, h5.set i x⟩, (heap_set_other _ (hn _ _ h6)).trans h6⟩

/-- A head more. -/
theorem LS.push {w W W' : World} {la : Option Addr} {n c : Nat} {fs hs hs' : List Int} (h : LS w la n c W fs hs) {v v' : Value} (hv : W.heap[w.heap.size + 2]? = some (.cells #[v] 22 (0, 0))) (hg : W.grownBy W' v.ownBlock) (ho : OwnI W' (w.heap.size + 1) v' hs') :
    LS w la n c (W'.setCell ⟨w.heap.size + 2, 0, none⟩ v') fs hs' := by
  obtain ⟨h1, h2, h3, ⟨u, h4, h5⟩, h6⟩ := h
  rw [hv] at h4
  simp only [Option.some.injEq, Obj.cells.injEq, and_true] at h4
  have e : v = u := by simpa using h4
  subst e
  have hn : ∀ j cs, W.heap[j]? = some (.cells cs 22 (0, 0)) → some j ≠ v.ownBlock := by
    intro j cs hj e
    obtain ⟨cur, hb, -⟩ := h5.block e.symm
    rw [hb] at hj
    simp at hj
  have hold : ∀ j, j ≤ w.heap.size → some j ≠ v.ownBlock := by
    intro j hj e
    obtain ⟨_, _, hB⟩ := h5.block e.symm
    omega
  have q2 := (hg.block _ (lt_of_block hv) (hn _ _ hv)).trans hv
  have hn' : ∀ b, v'.ownBlock = some b → b ≠ w.heap.size + 2 := by
    rintro b hb rfl
    obtain ⟨cur, hb', -⟩ := ho.block hb
    rw [hb'] at q2
    simp at q2
  have hs1 := h1.size
  refine ⟨⟨hg.os.trans h1.os, hg.tape.trans h1.tape, hg.output.trans h1.output, by have := hg.size; simp [World.setCell]; omega, fun j hj => ?_⟩, ?_, ?_, ⟨v', ?_, ?_⟩, ?_⟩
  · exact (heap_set_other _ (by omega)).trans ((hg.block j (by omega) (hold j (by omega))).trans (h1.block j hj))
  · exact (heap_set_other _ (by omega)).trans ((hg.block _ (lt_of_block h2) (hold _ (Nat.le_refl _))).trans h2)
  · exact (heap_set_other _ (by omega)).trans ((hg.block _ (lt_of_block h3) (hn _ _ h3)).trans h3)
  · rw [set_one_cell q2]
    simp
  · exact ho.same fun b hb => heap_set_other _ (hn' b hb)
  · exact (heap_set_other _ (by omega)).trans ((hg.block _ (lt_of_block h6) (hn _ _ h6)).trans h6)

theorem KpO.refl (B : Nat) (W : World) : KpO B W W := ⟨Nat.le_refl _, fun _ _ _ h _ => h⟩
theorem KpO.trans {B : Nat} {W1 W2 W3 : World} (h : KpO B W1 W2) (k : KpO B W2 W3) : KpO B W1 W3 := ⟨Nat.le_trans h.1 k.1, fun j o hB hj ho => k.2 j o hB (h.2 j o hB hj ho) ho⟩
theorem KpO.below {B : Nat} {W W' : World} (h : Below W.heap.size W W') : KpO B W W' := ⟨h.size, fun j _ _ hj _ => (h.block j (lt_of_block hj)).trans hj⟩
theorem KpO.set {B : Nat} {W : World} {g i : Nat} {v : Value} {cs : Array Value} {t : TypeId} (h : W.heap[g]? = some (.cells cs t (0, 0))) : KpO B W (W.setCell ⟨g, i, none⟩ v) :=
  ⟨by simp [World.setCell], fun j o _ hj ho => by
    have : j ≠ g := by
      rintro rfl
      rw [h] at hj
      cases hj
      simp [Obj.isCells] at ho
    exact (heap_set_other _ this).trans hj⟩
theorem KpO.grown {B D : Nat} {W W' : World} {v : Value} {ks : List Int} (h : OwnI W D v ks) (hg : W.grownBy W' v.ownBlock) : KpO B W W' :=
  ⟨hg.size, fun j o _ hj ho => by
    refine (hg.block j (lt_of_block hj) ?_).trans hj
    intro e
    obtain ⟨cur, hb, -⟩ := h.block e.symm
    rw [hb] at hj
    cases hj
    simp [Obj.isCells] at ho⟩

/-- 'from' behind the places from p on. -/
def fsOf (ks : List Int) (p : Nat) : List Int := List.replicate p 0 ++ (fr (ks.drop p)).map fun (f : Nat) => (f : Int)

theorem fsOf_length {ks : List Int} {p : Nat} (h : p ≤ ks.length) : (fsOf ks p).length = ks.length := by
  simp [fsOf, fr_length]
  omega

theorem fsOf_end (ks : List Int) : fsOf ks ks.length = List.replicate ks.length 0 := by simp [fsOf, fr]

theorem fsOf_step {ks : List Int} {p : Nat} (h : p < ks.length) : (fsOf ks (p + 1)).set p ((srch (heads (ks.drop (p + 1))) ks[p] : Int) + 1) = fsOf ks p := by
  have e : ks.drop p = ks[p] :: ks.drop (p + 1) := List.drop_eq_getElem_cons h
  unfold fsOf
  rw [e]
  have e2 : List.replicate (p + 1) (0 : Int) = List.replicate p 0 ++ [0] := by rw [List.replicate_succ']
  rw [e2, List.append_assoc, List.set_append_right _ _ (by simp)]
  simp [fr]

theorem heads_i64 {ks : List Int} (h : I64 ks) : I64 (heads ks) := by
  intro x hx
  obtain ⟨i, hi, rfl⟩ := List.getElem_of_mem hx
  obtain ⟨j, -, h2⟩ := heads_fr ks i _ (List.getElem?_eq_getElem hi)
  exact h _ (List.mem_of_getElem? h2)

theorem i64_drop {ks : List Int} (h : I64 ks) (p : Nat) : I64 (ks.drop p) := fun x hx => h x (List.mem_of_mem_drop hx)
end Go.Proofs.Yteceljjmandnmaa
