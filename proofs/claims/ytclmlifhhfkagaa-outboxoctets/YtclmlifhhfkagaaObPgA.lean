/-
  The page's Next and Ack.
-/
import Derived.Test.YtclmlifhhfkagaaObOwn2
namespace Go.Proofs.Ytclmlifhhfkagaa
open Go.ChangeShapes Go.WideShapes Go.ChangeAt Go.RowKit

/-- A row of one's own that stands in the box T; both from the world W0's end on. -/
def PgI {n : Nat} (W0 wr : World) (T : Nat) (L : Int) (v : Value) (its : List (Tm n)) (H : Nat → Prop) : Prop := OwnR (shT n) wr v its H ∧ (∀ b, H b → W0.heap.size ≤ b ∧ b ≠ T ∧ b < wr.heap.size) ∧ Below W0.heap.size W0 wr ∧ W0.heap.size ≤ T ∧ wr.heap[T]? = some (.cells #[.int .i64 L, v] 24 (0, 0))

theorem PgI.side {n : Nat} {W0 wr w1 : World} {T : Nat} {L : Int} {v y : Value} {its : List (Tm n)} {H F : Nat → Prop} {u : V n} (h : PgI W0 wr T L v its H) (hbel : Below wr.heap.size wr w1) (ho : Own w1 n y u F) (hF : ∀ b, F b → wr.heap.size ≤ b ∧ b < w1.heap.size) (ob : Obj) :
    OwnR (shT n) (w1.alloc ob) v its H ∧ Own (w1.alloc ob) n y u F ∧ (∀ b, F b → ¬ H b) ∧ (∀ b, H b → b < (w1.alloc ob).heap.size) ∧ (∀ b, F b → b < (w1.alloc ob).heap.size) := by
  obtain ⟨a1, a2, a3, a4, a5⟩ := h
  have z1 := hbel.size
  refine ⟨a1.same fun b hb => ?_, ho.same n fun b hb => Below.heap_alloc _ _ _ (hF b hb).2, fun b hb hH => ?_, fun b hb => ?_, fun b hb => ?_⟩
  · have := (a2 b hb).2.2
    rw [Below.heap_alloc _ _ _ (by omega), hbel.block b this]
  · have := (a2 b hH).2.2; have := (hF b hb).1; omega
  · have := (a2 b hb).2.2; simp; omega
  · have := (hF b hb).2; simp; omega

theorem PgI.next {n : Nat} {W0 wr w1 w5 : World} {T : Nat} {L : Int} {v v' : Value} {its its' : List (Tm n)} {H F : Nat → Prop} {ob : Obj} (h : PgI W0 wr T L v its H) (hbel : Below wr.heap.size wr w1) (hF : ∀ b, F b → wr.heap.size ≤ b ∧ b < w1.heap.size)
    (q1 : OwnR (shT n) w5 v' its' (fun b => H b ∨ F b ∨ v'.ownBlock = some b)) (q2 : (w1.alloc ob).grownBy w5 v.ownBlock) (q3 : v'.ownBlock = v.ownBlock ∨ ∀ g, v'.ownBlock = some g → (w1.alloc ob).heap.size ≤ g) (q4 : ∀ g, v'.ownBlock = some g → g < w5.heap.size) :
    PgI W0 (w5.setCell ⟨T, 1, none⟩ v') T L v' its' (fun b => H b ∨ F b ∨ v'.ownBlock = some b) ∧ w5.heap[T]? = some (.cells #[.int .i64 L, v] 24 (0, 0)) ∧ Below W0.heap.size W0 w5 := by
  obtain ⟨a1, a2, a3, a4, a5⟩ := h
  have hv : ∀ g, v.ownBlock = some g → H g := by
    obtain ⟨xs, G, r1, r2, r3, _⟩ := a1
    exact r3
  have z1 := hbel.size
  have z2 := a3.size
  have z3 : w1.heap.size + 1 ≤ w5.heap.size := by have := q2.size; simpa using this
  have hTw : T < wr.heap.size := lt_of_block a5
  have hT5 : w5.heap[T]? = some (.cells #[.int .i64 L, v] 24 (0, 0)) := by
    rw [q2.block T (by simp; omega) (fun e => (a2 T (hv T e.symm)).2.1 rfl), Below.heap_alloc _ _ _ (by omega), hbel.block T hTw]
    exact a5
  have hb : ∀ b, (H b ∨ F b ∨ v'.ownBlock = some b) → W0.heap.size ≤ b ∧ b ≠ T ∧ b < w5.heap.size := by
    intro b hb
    rcases hb with hb | hb | hb
    · have := a2 b hb; exact ⟨this.1, this.2.1, by omega⟩
    · have := hF b hb; exact ⟨by omega, by omega, by omega⟩
    · rcases q3 with e | e
      · have := a2 b (hv b (by rw [← e]; exact hb)); exact ⟨this.1, this.2.1, q4 b hb⟩
      · have := e b hb; simp at this; exact ⟨by omega, by omega, q4 b hb⟩
  have hbl : Below W0.heap.size W0 w5 := (nxt a3 (nxt hbel (below_one w1 ob))).grown q2 (by simp; omega) (fun g hg => (a2 g (hv g hg)).1)
  refine ⟨⟨q1.same fun b hb' => ?_, fun b hb' => ⟨(hb b hb').1, (hb b hb').2.1, by have := (hb b hb').2.2; simpa [World.setCell] using this⟩, hbl.setCell (p := ⟨T, 1, none⟩) a4 _, a4, ?_⟩, hT5, hbl⟩
  · have h' : ¬ T = b := fun e => (hb b hb').2.1 e.symm
    simp [World.setCell, Array.getElem?_modify, h']
  · have := set_one_cell (o := 1) hT5 v'
    simpa using this

theorem PgI.out2 {n : Nat} {w W0 wr : World} {T R : Nat} {L : Int} {v : Value} {its : List (Tm n)} {H : Nat → Prop} (h : PgI W0 wr T L v its H) (hb : Below w.heap.size w W0) (hR : w.heap.size ≤ R) (hR0 : R < W0.heap.size) (v0 v1 : Value) :
    CopyInv (shT n) w ((wr.setCell ⟨R, 0, none⟩ v0).setCell ⟨R, 1, none⟩ v1) v its H := by
  obtain ⟨a1, a2, a3, a4, a5⟩ := h
  have hs := hb.size
  refine ⟨a1.same fun b hb => set2_other _ _ (by have := (a2 b hb).1; omega), fun b hb => ⟨by have := (a2 b hb).1; omega, by have := (a2 b hb).2.2; simpa [World.setCell] using this⟩, ?_⟩
  exact ((nxt hb a3).setCell (p := ⟨R, 0, none⟩) hR v0).setCell (p := ⟨R, 1, none⟩) hR v1

theorem PgI.start {n : Nat} (W0 : World) (L : Int) {v : Value} {its : List (Tm n)} {H : Nat → Prop} (h : OwnR (shT n) W0 v its H) (B : World) (hB : Below B.heap.size B W0) (hH : ∀ b, H b → B.heap.size ≤ b ∧ b < W0.heap.size) : PgI B (W0.alloc (.cells #[.int .i64 L, v] 24)) W0.heap.size L v its H :=
  ⟨h.same fun b hb => Below.heap_alloc _ _ _ (hH b hb).2, fun b hb => ⟨(hH b hb).1, by have := (hH b hb).2; omega, by have := (hH b hb).2; simp; omega⟩, nxt hB (below_one _ _), hB.size, heap_alloc_new _ _⟩

/-- The first of a row of one's own. -/
theorem OwnR.take {α : Type} {n : Nat} {S : Sh α n} {w : World} {a : Option Addr} {c : Nat} {its : List α} {H : Nat → Prop} (h : OwnR S w (.slice a its.length c) its H) (hs : S.s = S.p + 5) (hp : ∀ u, (S.pre u).length = S.p) (k : Nat) (hk : k ≤ its.length) : OwnR S w (.slice a k c) (its.take k) H := by
  obtain ⟨xs, G, h1, h2, h3, h4, h5⟩ := h
  have hl : (its.take k).length = k := by rw [List.length_take]; omega
  have hob : (Value.slice a k c).ownBlock = (Value.slice a its.length c).ownBlock := by
    rcases h1.2 with ⟨e, _⟩ | ⟨g, cap, cur, e, _⟩
    · simp only [Value.slice.injEq] at e
      obtain ⟨rfl, e2, rfl⟩ := e
      rfl
    · simp only [Value.slice.injEq] at e
      obtain ⟨rfl, e2, rfl⟩ := e
      rfl
  refine ⟨xs.take (k * S.s), G, ?_, ?_, fun b hb => h3 b (by rw [← hob]; exact hb), fun i b hi hb => ?_, fun i j b hi hj => h5 i j b (by omega) (by omega)⟩
  · rw [hl]
    have hx := h1.1
    have hle : k * S.s ≤ its.length * S.s := Nat.mul_le_mul_right _ hk
    refine ⟨by rw [List.length_take]; omega, ?_⟩
    rcases h1.2 with ⟨e, e0⟩ | ⟨g, cap, cur, e, g1, g2, g3, g4, g5, g6⟩
    · simp only [Value.slice.injEq] at e
      obtain ⟨rfl, e2, rfl⟩ := e
      exact Or.inl ⟨by rw [show k = 0 by omega], by omega⟩
    · simp only [Value.slice.injEq] at e
      obtain ⟨rfl, e2, rfl⟩ := e
      refine Or.inr ⟨g, c, cur, rfl, g1, g2, by omega, g4, g5, ?_⟩
      rw [← g6, List.take_take, Nat.min_eq_left hle]
  · rw [hl]
    intro i u hi hu
    rw [List.getElem?_take, if_pos hi] at hu
    obtain ⟨q, c0, c1, c2, c3, c4, e0, e1, e2, e3, e4, ho⟩ := h2 i u (by omega) hu
    have up : ∀ j z, j < k * S.s → xs[j]? = some z → (xs.take (k * S.s))[j]? = some z := fun j z hj hz => by rw [List.getElem?_take, if_pos hj]; exact hz
    have hle : i * S.s + S.s ≤ k * S.s := by
      have := Nat.mul_le_mul_right S.s (show i + 1 ≤ k from hi)
      rw [Nat.add_mul] at this
      omega
    refine ⟨fun j z hz => up _ _ ?_ (q j z hz), c0, c1, c2, c3, c4, up _ _ (by omega) e0, up _ _ (by omega) e1, up _ _ (by omega) e2, up _ _ (by omega) e3, up _ _ (by omega) e4, ho⟩
    have := (List.getElem?_eq_some_iff.1 hz).1
    rw [hp] at this
    omega
  · rw [hl] at hi
    have := h4 i b (by omega) hb
    exact ⟨this.1, by rw [hob]; exact this.2⟩

end Go.Proofs.Ytclmlifhhfkagaa
