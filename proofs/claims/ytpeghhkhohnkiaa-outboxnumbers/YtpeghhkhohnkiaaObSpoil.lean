/-
  A row of structs that end with a value, spoilt one by one.
-/
import Derived.Test.YtpeghhkhohnkiaaObOf
namespace Go.Proofs.Ytpeghhkhohnkiaa
open Go.ChangeShapes Go.WideShapes Go.ChangeAt Go.RowKit

/-- A row of one's own, laid open. -/
def OwnX {α : Type} {n : Nat} (S : Sh α n) (w : World) (v : Value) (its : List α) (H : Nat → Prop) (xs : List Value) (G : Nat → Nat → Prop) : Prop :=
  w.ownsRow 0 S.e S.s v its.length xs ∧ ItemsR S (Own w n) its its.length xs G ∧ (∀ b, v.ownBlock = some b → H b) ∧ (∀ i b, i < its.length → G i b → H b ∧ v.ownBlock ≠ some b) ∧ (∀ i j b, i < its.length → j < its.length → G i b → G j b → i = j)

/-- Its first m are spoilt. -/
def SpR {α : Type} {n : Nat} (S : Sh α n) (W wr : World) (v : Value) (its : List α) (xs : List Value) (G : Nat → Nat → Prop) (m : Nat) : Prop :=
  Kept (fun b => v.ownBlock = some b ∨ ∃ i, i < m ∧ G i b) W wr ∧ ∀ g, v.ownBlock = some g → ∃ cur : Array Value, wr.heap[g]? = some (.cells cur S.e (0, 0)) ∧ its.length * S.s ≤ cur.size ∧ ∀ j, m * S.s ≤ j → j < its.length * S.s → cur[j]? = xs[j]?

theorem SpR.start {α : Type} {n : Nat} {S : Sh α n} {W : World} {v : Value} {its : List α} {H : Nat → Prop} {xs : List Value} {G : Nat → Nat → Prop} (h : OwnX S W v its H xs G) : SpR S W W v its xs G 0 := by
  refine ⟨Kept.refl _ _, fun g hg => ?_⟩
  rcases h.1.2 with ⟨e, _⟩ | ⟨g', cap, cur, e, g1, g2, g3, g4, g5, g6⟩
  · rw [e] at hg; cases hg
  · rw [e] at hg
    simp only [Value.ownBlock, Option.some.injEq] at hg
    subst hg
    refine ⟨cur, g2, by rw [g5]; exact Nat.mul_le_mul_right _ g3, fun j _ hj => ?_⟩
    rw [← g6, List.getElem?_take, if_pos hj]
    simp

theorem SpR.round {α : Type} {n : Nat} {S : Sh α n} {W wr : World} {v : Value} {its : List α} {H : Nat → Prop} {xs : List Value} {G : Nat → Nat → Prop} {m : Nat} (h : OwnX S W v its H xs G) (hs : S.s = S.p + 5) (hp : 0 < S.p) (hH : ∀ b, H b → b < W.heap.size) (r : SpR S W wr v its xs G m) (hm : m < its.length) :
    ∃ g c k b t ka kl kc ja jl jc, v = .slice (some ⟨g, 0, none⟩) its.length c ∧ wr.cell? ⟨g, m * S.s + S.p, none⟩ = some (.int .i64 k) ∧ wr.cell? ⟨g, m * S.s + S.p + 1, none⟩ = some (.int .u64 b) ∧ wr.cell? ⟨g, m * S.s + S.p + 2, none⟩ = some (.string t) ∧ wr.cell? ⟨g, m * S.s + S.p + 3, none⟩ = some (.slice ka kl kc) ∧ wr.cell? ⟨g, m * S.s + S.p + 4, none⟩ = some (.slice ja jl jc) ∧
      Own wr n (mk k b t ka kl kc ja jl jc) (S.val its[m]) (G m) ∧ (∀ b, G m b → b < wr.heap.size) ∧
      ∀ w2, Kept (G m) wr w2 → (∃ z, w2.cell? ⟨g, m * S.s, none⟩ = some z) ∧ w2.frozen? ⟨g, m * S.s, none⟩ = false ∧ SpR S W w2 v its xs G (m + 1) ∧ ∀ y, SpR S W (w2.setCell ⟨g, m * S.s, none⟩ y) v its xs G (m + 1) := by
  obtain ⟨h1, h2, h3, h4, h5⟩ := h
  obtain ⟨r1, r2⟩ := r
  obtain ⟨g, c, rfl⟩ : ∃ g c, v = .slice (some ⟨g, 0, none⟩) its.length c := by
    rcases h1.2 with ⟨e, e0⟩ | ⟨g', cap, cur, e, _⟩
    · omega
    · exact ⟨g', cap, e⟩
  obtain ⟨cur, c1, c2, c3⟩ := r2 g rfl
  obtain ⟨q, c0, d1, d2, d3, d4, e0, e1, e2, e3, e4, hO⟩ := h2 m its[m] hm (by simp)
  obtain ⟨k, b, t, ka, kl, kc, ja, jl, jc, rfl, rfl, rfl, rfl, rfl⟩ := Lay.five n (Own.lay n hO)
  have hle : m * S.s + S.s ≤ its.length * S.s := by
    have := Nat.mul_le_mul_right S.s (show m + 1 ≤ its.length from hm)
    rw [Nat.add_mul] at this
    omega
  have hsucc : (m + 1) * S.s = m * S.s + S.s := by rw [Nat.add_mul]; omega
  have get : ∀ j z, m * S.s ≤ j → j < its.length * S.s → xs[j]? = some z → wr.cell? ⟨g, j, none⟩ = some z := fun j z k1 k2 hz => (cell_of c1 j).1.trans ((c3 j k1 k2).trans hz)
  have hgG : ¬ G m g := fun e => (h4 m g hm e).2 rfl
  refine ⟨g, c, k, b, t, ka, kl, kc, ja, jl, jc, rfl, get _ _ (by omega) (by omega) e0, get _ _ (by omega) (by omega) e1, get _ _ (by omega) (by omega) e2, get _ _ (by omega) (by omega) e3, get _ _ (by omega) (by omega) e4, ?_, ?_, ?_⟩
  · refine hO.same n fun b' hb' => ?_
    have hg' := h4 m b' hm hb'
    refine r1.block b' (hH b' hg'.1) (fun e => ?_)
    rcases e with e | ⟨i, hi, e⟩
    · exact hg'.2 e
    · have := h5 i m b' (by omega) hm e hb'; omega
  · intro b' hb'
    have := hH b' (h4 m b' hm hb').1
    have := r1.size
    omega
  · intro w2 hk
    have hcur2 : w2.heap[g]? = some (.cells cur S.e (0, 0)) := (hk.block g (lt_of_block c1) hgG).trans c1
    have hk3 : Kept (fun b => (Value.slice (some ⟨g, 0, none⟩) its.length c).ownBlock = some b ∨ ∃ i, i < m + 1 ∧ G i b) W w2 := by
      refine (r1.mono ?_).trans (hk.mono ?_)
      · rintro j (e | ⟨i, hi, e⟩)
        · exact Or.inl e
        · exact Or.inr ⟨i, by omega, e⟩
      · intro j e
        exact Or.inr ⟨m, by omega, e⟩
    refine ⟨⟨cur[m * S.s]'(by omega), by rw [(cell_of hcur2 _).1]; simp⟩, (cell_of hcur2 _).2, ⟨hk3, fun g' hg' => ?_⟩, fun y => ⟨hk3.setCell y (Or.inl rfl), fun g' hg' => ?_⟩⟩
    · simp only [Value.ownBlock, Option.some.injEq] at hg'
      subst hg'
      exact ⟨cur, hcur2, c2, fun j k1 k2 => c3 j (by omega) k2⟩
    · simp only [Value.ownBlock, Option.some.injEq] at hg'
      subst hg'
      refine ⟨_, set_one_cell (o := m * S.s) hcur2 y, by simpa using c2, fun j k1 k2 => ?_⟩
      have : ¬ m * S.s = j := by omega
      simp [this]
      exact c3 j (by omega) k2

theorem SpR.kept {α : Type} {n : Nat} {S : Sh α n} {W wr : World} {v : Value} {its : List α} {H : Nat → Prop} {xs : List Value} {G : Nat → Nat → Prop} {m : Nat} (h : OwnX S W v its H xs G) (r : SpR S W wr v its xs G m) (hm : m ≤ its.length) : Kept H W wr := by
  refine r.1.mono ?_
  rintro j (e | ⟨i, hi, e⟩)
  · exact h.2.2.1 j e
  · exact (h.2.2.2.1 i j (by omega) e).1

theorem addR_list {n : Nat} (L s : Int) (its : List (Tm n)) (l : List (Ef n)) : (∀ u ∈ (addR L its s l).2.2, TmOk u) ∧ (addR L its s l).2.2.length * 104 ≤ 140737488351232 := by
  unfold addR
  split
  · rename_i h0
    split
    · rename_i h1
      split
      · rename_i h2
        exact tm_ok (add_ok h0 h1 h2)
      · simp
    · simp
  · simp

theorem nextR_list {n : Nat} (L k : Int) (its : List (Tm n)) : (∀ u ∈ (nextR L its k).2, TmOk u) ∧ (nextR L its k).2.length * 104 ≤ 140737488351232 := by
  unfold nextR
  split
  · rename_i h0
    split
    · have := tm_ok h0
      exact ⟨fun u hu => this.1 u (List.mem_of_mem_take hu), by have h2 := this.2; simp only [List.length_take]; omega⟩
    · simp
  · simp

theorem CopyInv.eis {n : Nat} {wr : World} {v : Value} {l : List (Ef n)} {H : Nat → Prop} (h : OwnR (shE n) wr v l H) (hb : l.length * 96 ≤ 140737488351232) (hok : ∀ u ∈ l, EfOk u) : ∃ ia ic, v = .slice ia l.length ic ∧ EIs wr n ia ic l := by
  obtain ⟨ia, ic, rfl⟩ := h.shape
  refine ⟨ia, ic, rfl, ?_⟩
  have hl := h.lay
  obtain ⟨xs, G, q1, _⟩ := h
  have hc := cap_of_own q1
  refine ⟨hc.1, hc.2, hb, none_of_own q1, ?_, hok, hl⟩
  intro ad e _
  rcases q1.2 with ⟨e1, -⟩ | ⟨g, cap, cur, e1, -⟩
  · rw [e] at e1; simp at e1
  · rw [e] at e1; simp only [Value.slice.injEq, Option.some.injEq] at e1; rw [e1.1]

theorem alk_same {n : Nat} (L : Int) (l : List (Tm n)) : alk L L l l = 0 := by unfold alk; rw [if_pos ⟨rfl, one_true rfl⟩]
end Go.Proofs.Ytpeghhkhohnkiaa
