/-
  The page's own, Own and Next.
-/
import Derived.Test.YtclmlifhhfkagaaObPage
namespace Go.Proofs.Ytclmlifhhfkagaa
open Go.ChangeShapes Go.WideShapes Go.ChangeAt Go.RowKit

/-- Seven cells of one block are written: the other blocks stay. -/
theorem seven_other {w : World} {g : Nat} (v0 v1 v2 v3 v4 v5 v6 : Value) {b : Nat} (h : b ≠ g) :
    (((((((w.setCell ⟨g, 0, none⟩ v0).setCell ⟨g, 1, none⟩ v1).setCell ⟨g, 2, none⟩ v2).setCell ⟨g, 3, none⟩ v3).setCell ⟨g, 4, none⟩ v4).setCell ⟨g, 5, none⟩ v5).setCell ⟨g, 6, none⟩ v6).heap[b]? = w.heap[b]? := by
  have h' : ¬ g = b := fun e => h e.symm
  simp [World.setCell, Array.getElem?_modify, h']

/-- What the page's own tells. -/
def OwnPost {n : Nat} (w : World) (id : Int) (nm : ByteArray) (u : V n) (y : Value) (w' : World) : Prop := ∃ k b t ka kl kc ja jl jc F, y = .agg #[.int .i64 id, .string nm, .int .i64 k, .int .u64 b, .string t, .slice ka kl kc, .slice ja jl jc] ∧ Own w' n (mk k b t ka kl kc ja jl jc) u F ∧ (∀ g, F g → w.heap.size ≤ g ∧ g < w'.heap.size) ∧ Below w.heap.size w w'

theorem two_boxes7 {w w1 : World} {c0 c1 c2 c3 c4 c5 c6 d0 d1 d2 d3 d4 d5 d6 : Value} {t t' : TypeId} (h : Two w w1 (.cells #[c0, c1, c2, c3, c4, c5, c6] t) (.cells #[d0, d1, d2, d3, d4, d5, d6] t')) :
    (∀ j, w1.cell? ⟨w.heap.size, j, none⟩ = #[c0, c1, c2, c3, c4, c5, c6][j]?) ∧ (∀ j, w1.frozen? ⟨w.heap.size, j, none⟩ = false) ∧ (∀ j, w1.cell? ⟨w.heap.size + 1, j, none⟩ = #[d0, d1, d2, d3, d4, d5, d6][j]?) ∧ (∀ j, w1.frozen? ⟨w.heap.size + 1, j, none⟩ = false) :=
  ⟨fun j => (cell_of h.1 j).1, fun j => (cell_of h.1 j).2, fun j => (cell_of h.2 j).1, fun j => (cell_of h.2 j).2⟩

/-- append of one item, its value in memory of its own, as one step. -/
theorem step_pushT {ops : Array Oper} {o : Oper} {a : Act} {w : World} {K : Act → World → Prop} {Q : Exit → Act → World → Prop} {E : Prop} (hgd : o.guard = none) (s x : Operand)
    (hop : o.op = .call { callee := .builtin .append, args := #[s, x], argTypes := #[22, 22] })
    {n : Nat} (v : Value) (its : List (Tm n)) (H : Nat → Prop) (hs : a.eval s = v) (hL : OwnR (shT n) w v its H) (u : Tm n) (F : Nat → Prop) (c0 c1 c2 c3 c4 : Value) (ho : Own w n (.agg #[c0, c1, c2, c3, c4]) u.2.2 F) (hF : ∀ b, F b → ¬ H b) (hH : ∀ b, H b → b < w.heap.size) (hFl : ∀ b, F b → b < w.heap.size)
    (ad : Addr) (c : Nat) (hx : a.eval x = .slice (some ad) 1 c) (hnews : ∀ j y, ([.int .i64 u.1, .string u.2.1, c0, c1, c2, c3, c4] : List Value)[j]? = some y → w.cell? (ad.add j) = some y) (hlen : (its.length + 1) * 104 ≤ 140737488355328)
    (h : ∀ v' w', OwnR (shT n) w' v' (its ++ [u]) (fun b => H b ∨ F b ∨ v'.ownBlock = some b) → w.grownBy w' v.ownBlock → (v'.ownBlock = v.ownBlock ∨ ∀ g, v'.ownBlock = some g → w.heap.size ≤ g) → (∀ g, v'.ownBlock = some g → g < w'.heap.size) → K (a.put o.dst v') w') :
    if Region.wanted o (yielded ops a.tmps) = true then Oper.wp Try.prog o a w K Q else E := by
  obtain ⟨xs, G, h1, h2, h3, h4, h5⟩ := hL
  obtain ⟨i0, hi, hz0, hz1, hz2⟩ := info_parts Try.infoItem
  refine step_append hgd s x 22 hop 0 54 i0 _ 7 104 Try.underlying22 hi hz0 hz1 hz2 rfl (by decide) v its.length xs hs h1 ad 1 c [.int .i64 u.1, .string u.2.1, c0, c1, c2, c3, c4] hx rfl hnews ?_ (by unfold maxLen; omega) hlen (Nat.zero_le _) ?_
  · intro y hy
    rcases List.mem_cons.1 hy with rfl | hy
    · rfl
    · rcases List.mem_cons.1 hy with rfl | hy
      · rfl
      · exact Own.ones n ho y hy
  · intro v' w' q1 q2 q3
    exact h v' w' (OwnR.push (S := shT n) rfl rfl rfl h1 h2 h3 h4 h5 ho hF hH hFl q1 q2 q3) q2 q3 fun g hg => (q1.lt g hg).2

/-- A row of one's own that stands in the box T, all else as it was. -/
def PgInv {n : Nat} (W0 wr : World) (T : Nat) (L : Int) (v : Value) (its : List (Tm n)) (H : Nat → Prop) : Prop := OwnR (shT n) wr v its H ∧ (∀ b, H b → W0.heap.size ≤ b ∧ b < wr.heap.size) ∧ Kept (fun b => b = T) W0 wr ∧ wr.heap[T]? = some (.cells #[.int .i64 L, v] 24 (0, 0))

theorem kept_below {w W0 wr : World} {T : Nat} (hb : Below w.heap.size w W0) (hT : w.heap.size ≤ T) (h : Kept (fun b => b = T) W0 wr) : Below w.heap.size w wr :=
  ⟨h.os.trans hb.os, h.tape.trans hb.tape, h.output.trans hb.output, Nat.le_trans hb.size h.size, fun j hj => (h.block j (Nat.lt_of_lt_of_le hj hb.size) (by omega)).trans (hb.block j hj)⟩

/-- What a push asks. -/
theorem PgInv.side {n : Nat} {W0 wr w1 : World} {T : Nat} {L : Int} {v y : Value} {its : List (Tm n)} {H F : Nat → Prop} {u : V n} (h : PgInv W0 wr T L v its H) (hbel : Below wr.heap.size wr w1) (ho : Own w1 n y u F) (hF : ∀ b, F b → wr.heap.size ≤ b ∧ b < w1.heap.size) (ob : Obj) :
    OwnR (shT n) (w1.alloc ob) v its H ∧ Own (w1.alloc ob) n y u F ∧ (∀ b, F b → ¬ H b) ∧ (∀ b, H b → b < (w1.alloc ob).heap.size) ∧ (∀ b, F b → b < (w1.alloc ob).heap.size) := by
  obtain ⟨a1, a2, a3, a4⟩ := h
  have z1 := hbel.size
  refine ⟨a1.same fun b hb => ?_, ho.same n fun b hb => Below.heap_alloc _ _ _ (hF b hb).2, fun b hb hH => ?_, fun b hb => ?_, fun b hb => ?_⟩
  · have := (a2 b hb).2
    rw [Below.heap_alloc _ _ _ (by omega), hbel.block b this]
  · have := (a2 b hH).2; have := (hF b hb).1; omega
  · have := (a2 b hb).2; simp; omega
  · have := (hF b hb).2; simp; omega

/-- The row behind it, put into its box. -/
theorem PgInv.next {n : Nat} {W0 wr w1 w5 : World} {T : Nat} {L : Int} {v v' : Value} {its its' : List (Tm n)} {H F : Nat → Prop} {ob : Obj} (h : PgInv W0 wr T L v its H) (hT : T < W0.heap.size) (hbel : Below wr.heap.size wr w1) (hF : ∀ b, F b → wr.heap.size ≤ b ∧ b < w1.heap.size)
    (q1 : OwnR (shT n) w5 v' its' (fun b => H b ∨ F b ∨ v'.ownBlock = some b)) (q2 : (w1.alloc ob).grownBy w5 v.ownBlock) (q3 : v'.ownBlock = v.ownBlock ∨ ∀ g, v'.ownBlock = some g → (w1.alloc ob).heap.size ≤ g) (q4 : ∀ g, v'.ownBlock = some g → g < w5.heap.size) :
    PgInv W0 (w5.setCell ⟨T, 1, none⟩ v') T L v' its' (fun b => H b ∨ F b ∨ v'.ownBlock = some b) ∧ w5.heap[T]? = some (.cells #[.int .i64 L, v] 24 (0, 0)) := by
  obtain ⟨a1, a2, a3, a4⟩ := h
  have hv : ∀ g, v.ownBlock = some g → H g := by
    obtain ⟨xs, G, r1, r2, r3, _⟩ := a1
    exact r3
  have z1 := hbel.size
  have z2 := a3.size
  have z3 : w1.heap.size + 1 ≤ w5.heap.size := by have := q2.size; simpa using this
  have hTw : T < wr.heap.size := lt_of_block a4
  have hT5 : w5.heap[T]? = some (.cells #[.int .i64 L, v] 24 (0, 0)) := by
    rw [q2.block T (by simp; omega) (fun e => by have := (a2 T (hv T e.symm)).1; omega), Below.heap_alloc _ _ _ (by omega), hbel.block T hTw]
    exact a4
  have hb : ∀ b, (H b ∨ F b ∨ v'.ownBlock = some b) → W0.heap.size ≤ b ∧ b < w5.heap.size := by
    intro b hb
    rcases hb with hb | hb | hb
    · have := a2 b hb; exact ⟨this.1, by omega⟩
    · have := hF b hb; exact ⟨by omega, by omega⟩
    · refine ⟨?_, q4 b hb⟩
      rcases q3 with e | e
      · exact (a2 b (hv b (by rw [← e]; exact hb))).1
      · have := e b hb; simp at this; omega
  refine ⟨⟨q1.same fun b hb' => ?_, fun b hb' => ⟨(hb b hb').1, by have := (hb b hb').2; simpa [World.setCell] using this⟩, ?_, ?_⟩, hT5⟩
  · have := (hb b hb').1
    have h' : ¬ T = b := by omega
    simp [World.setCell, Array.getElem?_modify, h']
  · refine Kept.setCell ⟨?_, ?_, ?_, by omega, fun b hb' hne => ?_⟩ _ rfl
    · exact q2.os.trans (hbel.os.trans a3.os)
    · exact q2.tape.trans (hbel.tape.trans a3.tape)
    · exact q2.output.trans (hbel.output.trans a3.output)
    · rw [q2.block b (by simp; omega) (fun e => by have := (a2 b (hv b e.symm)).1; omega), Below.heap_alloc _ _ _ (by omega), hbel.block b (by omega)]
      exact a3.block b hb' hne
  · have := set_one_cell (o := 1) hT5 v'
    simpa using this
end Go.Proofs.Ytclmlifhhfkagaa
