/-
  Trees of elements and texts: what a tree of the program's memory reads as (LayT), and as what it reads in memory of its own (OwnT); both stay while the blocks that they speak of stay.
-/
import Derived.Test.YtcdnakcojanaeabGreatOcBase
namespace Go.Proofs.YtcdnakcojanaeabGreat
open Go.ChangeShapes Go.WideShapes Go.ChangeAt Go.RowKit

/-- An attribute: its name, its value. -/
abbrev Atr := ByteArray × ByteArray

/-- Trees of depth up to n: tag, key, text, attributes, kids. -/
def T : Nat → Type
  | 0 => Empty
  | n + 1 => ByteArray × ByteArray × ByteArray × List Atr × List (T n)

/-- A slice of attributes. -/
def LayA (w : World) (aa : Option Addr) (ats : List Atr) : Prop :=
  ∀ i s, ats[i]? = some s → ∃ b o, aa = some ⟨b, o, none⟩ ∧ w.cell? ⟨b, o + i * 2, none⟩ = some (.string s.1) ∧ w.cell? ⟨b, o + i * 2 + 1, none⟩ = some (.string s.2) ∧ s.1.size ≤ 140737488351232 ∧ s.2.size ≤ 140737488351232

/-- A slice of trees: each kid's five cells make a tree of which R tells. -/
def LayI {α : Type} (w : World) (R : Value → α → Prop) (ia : Option Addr) (its : List α) : Prop :=
  ∀ i u, its[i]? = some u → ∃ b o c0 c1 c2 c3 c4, ia = some ⟨b, o, none⟩ ∧ w.cell? ⟨b, o + i * 5, none⟩ = some c0 ∧ w.cell? ⟨b, o + i * 5 + 1, none⟩ = some c1 ∧ w.cell? ⟨b, o + i * 5 + 2, none⟩ = some c2 ∧
    w.cell? ⟨b, o + i * 5 + 3, none⟩ = some c3 ∧ w.cell? ⟨b, o + i * 5 + 4, none⟩ = some c4 ∧ R (.agg #[c0, c1, c2, c3, c4]) u

/-- What the fields of a node keep to. -/
def FitT (g k t : ByteArray) (al ac il ic : Nat) : Prop :=
  g.size ≤ 140737488351232 ∧ k.size ≤ 140737488351232 ∧ t.size ≤ 140737488351232 ∧ al ≤ ac ∧ ac ≤ 9223372036854775807 ∧ al * 32 ≤ 140737488351232 ∧ il ≤ ic ∧ ic ≤ 9223372036854775807 ∧ il * 96 ≤ 140737488351232

/-- A tree, by its fields. -/
abbrev mkT (g k t : ByteArray) (aa : Option Addr) (al ac : Nat) (ia : Option Addr) (il ic : Nat) : Value :=
  .agg #[.string g, .string k, .string t, .slice aa al ac, .slice ia il ic]

/-- A tree of the memory reads as a tree. -/
def LayT (w : World) : (n : Nat) → Value → T n → Prop
  | 0, _, _ => False
  | n + 1, x, (g, k, t, ats, its) => ∃ aa ac ia ic, x = mkT g k t aa ats.length ac ia its.length ic ∧ FitT g k t ats.length ac its.length ic ∧ (aa = none → ats.length = 0 ∧ ac = 0) ∧ (ia = none → its.length = 0 ∧ ic = 0) ∧ LayA w aa ats ∧ LayI w (LayT w n) ia its

/-- Kids of which each reads as a tree in memory of its own, none of it shared. -/
def Items {α : Type} (R : Value → α → (Nat → Prop) → Prop) (its : List α) (m : Nat) (xs : List Value) (G : Nat → Nat → Prop) : Prop :=
  ∀ i u, i < m → its[i]? = some u → ∃ c0 c1 c2 c3 c4, xs[i * 5]? = some c0 ∧ xs[i * 5 + 1]? = some c1 ∧ xs[i * 5 + 2]? = some c2 ∧ xs[i * 5 + 3]? = some c3 ∧ xs[i * 5 + 4]? = some c4 ∧ R (.agg #[c0, c1, c2, c3, c4]) u (G i)

/-- The cells of attributes. -/
def cellsA : List Atr → List Value
  | [] => []
  | a :: r => .string a.1 :: .string a.2 :: cellsA r

theorem cellsA_length : ∀ ats : List Atr, (cellsA ats).length = ats.length * 2
  | [] => rfl
  | a :: r => by simp only [cellsA, List.length_cons, cellsA_length r]; omega

theorem cellsA_at : ∀ (ats : List Atr) (i : Nat) (a : Atr), ats[i]? = some a → (cellsA ats)[i * 2]? = some (.string a.1) ∧ (cellsA ats)[i * 2 + 1]? = some (.string a.2)
  | [], i, a, h => by simp at h
  | x :: r, 0, a, h => by simp at h; subst h; exact ⟨rfl, rfl⟩
  | x :: r, i + 1, a, h => by
    have := cellsA_at r i a (by simpa using h)
    rw [show (i + 1) * 2 = i * 2 + 1 + 1 by omega]
    simpa [cellsA] using this

theorem cellsA_cell : ∀ (ats : List Atr) (j : Nat) (v : Value), (cellsA ats)[j]? = some v → ∃ i a, ats[i]? = some a ∧ (j = i * 2 ∧ v = .string a.1 ∨ j = i * 2 + 1 ∧ v = .string a.2)
  | [], j, v, h => by simp [cellsA] at h
  | x :: r, 0, v, h => by simp [cellsA] at h; exact ⟨0, x, rfl, Or.inl ⟨rfl, h.symm⟩⟩
  | x :: r, 1, v, h => by simp [cellsA] at h; exact ⟨0, x, rfl, Or.inr ⟨rfl, h.symm⟩⟩
  | x :: r, j + 2, v, h => by
    obtain ⟨i, a, h1, h2⟩ := cellsA_cell r j v (by simpa [cellsA] using h)
    exact ⟨i + 1, a, by simpa using h1, h2.elim (fun q => Or.inl ⟨by omega, q.2⟩) fun q => Or.inr ⟨by omega, q.2⟩⟩

/-- A tree reads so in memory of its own: its blocks are among F's. -/
def OwnT (w : World) : (n : Nat) → Value → T n → (Nat → Prop) → Prop
  | 0, _, _, _ => False
  | n + 1, x, (g, k, t, ats, its), F => ∃ aa ac ia ic xs G, x = mkT g k t aa ats.length ac ia its.length ic ∧ FitT g k t ats.length ac its.length ic ∧ (∀ s ∈ ats, s.1.size ≤ 140737488351232 ∧ s.2.size ≤ 140737488351232) ∧
      w.ownsRow 0 43 2 (.slice aa ats.length ac) ats.length (cellsA ats) ∧ w.ownsRow 0 53 5 (.slice ia its.length ic) its.length xs ∧
      (∀ b, (Value.slice aa ats.length ac).ownBlock = some b → F b) ∧ (∀ b, (Value.slice ia its.length ic).ownBlock = some b → F b) ∧ Items (OwnT w n) its its.length xs G ∧
      (∀ i b, i < its.length → G i b → F b ∧ (Value.slice aa ats.length ac).ownBlock ≠ some b ∧ (Value.slice ia its.length ic).ownBlock ≠ some b) ∧ (∀ i j b, i < its.length → j < its.length → G i b → G j b → i = j)

theorem OwnT.same (n : Nat) : ∀ {w w' : World} {x : Value} {v : T n} {F : Nat → Prop}, OwnT w n x v F → (∀ b, F b → w'.heap[b]? = w.heap[b]?) → OwnT w' n x v F := by
  induction n with
  | zero => intro w w' x v; exact v.elim
  | succ n ih =>
    rintro w w' x ⟨g, k, t, ats, its⟩ F ⟨aa, ac, ia, ic, xs, G, hx, hfit, hs, hK, hI, fK, fI, hit, hG, hd⟩ hh
    refine ⟨aa, ac, ia, ic, xs, G, hx, hfit, hs, ownsRow_same hK fun g hg => hh g (fK g hg), ownsRow_same hI fun g hg => hh g (fI g hg), fK, fI, ?_, hG, hd⟩
    intro i u hi hu
    obtain ⟨c0, c1, c2, c3, c4, e0, e1, e2, e3, e4, ho⟩ := hit i u hi hu
    exact ⟨c0, c1, c2, c3, c4, e0, e1, e2, e3, e4, ih ho fun b hb => hh b (hG i b hi hb).1⟩

theorem cells_of_own {w : World} {base : Nat} {e : TypeId} {size : Nat} {ia : Option Addr} {l c n : Nat} {xs : List Value} (h : w.ownsRow base e size (.slice ia l c) n xs) (j : Nat) (u : Value) (hj : xs[j]? = some u) :
    ∃ g, ia = some ⟨g, 0, none⟩ ∧ w.cell? ⟨g, 0 + j, none⟩ = some u := by
  have h0 := h
  obtain ⟨h1, h2⟩ := h
  rcases h2 with ⟨hv, hn⟩ | ⟨g, cap, cur, hv, hg, hb, r⟩
  · subst hn; simp at h1; subst h1; simp at hj
  · have e : ia = some ⟨g, 0, none⟩ := by simp only [Value.slice.injEq] at hv; exact hv.1
    refine ⟨g, e, ?_⟩
    have := h0.cells (g := g) (by rw [e]; rfl) j u hj
    rw [WideShapes.add_plain] at this
    exact this

theorem none_of_own {w : World} {base : Nat} {e : TypeId} {size : Nat} {ia : Option Addr} {l c n : Nat} {xs : List Value} (h : w.ownsRow base e size (.slice ia l c) n xs) (hn : ia = none) : l = 0 ∧ c = 0 := by
  subst hn
  obtain ⟨h1, h2⟩ := h
  rcases h2 with ⟨hv, _⟩ | ⟨g, cap, cur, hv, _⟩
  · simp only [Value.slice.injEq] at hv; exact ⟨hv.2.1, hv.2.2⟩
  · simp at hv

theorem OwnT.lay (n : Nat) : ∀ {w : World} {x : Value} {v : T n} {F : Nat → Prop}, OwnT w n x v F → LayT w n x v := by
  induction n with
  | zero => intro w x v; exact v.elim
  | succ n ih =>
    rintro w x ⟨g, k, t, ats, its⟩ F ⟨aa, ac, ia, ic, xs, G, hx, hfit, hs, hK, hI, fK, fI, hit, hG, hd⟩
    refine ⟨aa, ac, ia, ic, hx, hfit, none_of_own hK, none_of_own hI, ?_, ?_⟩
    · intro i s hi
      obtain ⟨p0, p1⟩ := cellsA_at ats i s hi
      obtain ⟨g, e, hc⟩ := cells_of_own hK _ _ p0
      obtain ⟨g', e', hc'⟩ := cells_of_own hK _ _ p1
      subst e
      simp only [Option.some.injEq, Addr.mk.injEq, and_true] at e'
      subst e'
      have := hs s (List.mem_of_getElem? hi)
      exact ⟨g, 0, rfl, hc, hc', this.1, this.2⟩
    · intro i u hu
      have hi : i < its.length := by
        have := List.getElem?_eq_some_iff.1 hu
        exact this.1
      obtain ⟨c0, c1, c2, c3, c4, e0, e1, e2, e3, e4, ho⟩ := hit i u hi hu
      obtain ⟨g, e, q0⟩ := cells_of_own hI _ _ e0
      obtain ⟨g1, e', q1⟩ := cells_of_own hI _ _ e1
      obtain ⟨g2, e'', q2⟩ := cells_of_own hI _ _ e2
      obtain ⟨g3, e''', q3⟩ := cells_of_own hI _ _ e3
      obtain ⟨g4, e'''', q4⟩ := cells_of_own hI _ _ e4
      subst e
      simp only [Option.some.injEq, Addr.mk.injEq, and_true] at e' e'' e''' e''''
      subst e' e'' e''' e''''
      exact ⟨g, 0, c0, c1, c2, c3, c4, rfl, q0, q1, q2, q3, q4, ih ho⟩

theorem LayA.below {w w' : World} {aa : Option Addr} {ats : List Atr} (h : LayA w aa ats) (hb : Below w.heap.size w w') : LayA w' aa ats := by
  intro i s hi
  obtain ⟨b, o, e, hc, hc', hs⟩ := h i s hi
  exact ⟨b, o, e, by rw [hb.cell (lt_of_cell hc)]; exact hc, by rw [hb.cell (lt_of_cell hc')]; exact hc', hs⟩

theorem LayT.below (n : Nat) : ∀ {w w' : World} {x : Value} {v : T n}, LayT w n x v → Below w.heap.size w w' → LayT w' n x v := by
  induction n with
  | zero => intro w w' x v; exact v.elim
  | succ n ih =>
    rintro w w' x ⟨g, k, t, ats, its⟩ ⟨aa, ac, ia, ic, hx, hfit, nk, ni, hS, hI⟩ hb
    refine ⟨aa, ac, ia, ic, hx, hfit, nk, ni, hS.below hb, ?_⟩
    intro i u hu
    obtain ⟨b, o, c0, c1, c2, c3, c4, e, q0, q1, q2, q3, q4, hl⟩ := hI i u hu
    exact ⟨b, o, c0, c1, c2, c3, c4, e, by rw [hb.cell (lt_of_cell q0)]; exact q0, by rw [hb.cell (lt_of_cell q1)]; exact q1, by rw [hb.cell (lt_of_cell q2)]; exact q2,
      by rw [hb.cell (lt_of_cell q3)]; exact q3, by rw [hb.cell (lt_of_cell q4)]; exact q4, ih hl hb⟩

theorem LayI.below {n : Nat} {w w' : World} {ia : Option Addr} {its : List (T n)} (hI : LayI w (LayT w n) ia its) (hb : Below w.heap.size w w') : LayI w' (LayT w' n) ia its := by
  intro i u hu
  obtain ⟨b, o, c0, c1, c2, c3, c4, e, q0, q1, q2, q3, q4, hl⟩ := hI i u hu
  exact ⟨b, o, c0, c1, c2, c3, c4, e, by rw [hb.cell (lt_of_cell q0)]; exact q0, by rw [hb.cell (lt_of_cell q1)]; exact q1, by rw [hb.cell (lt_of_cell q2)]; exact q2,
    by rw [hb.cell (lt_of_cell q3)]; exact q3, by rw [hb.cell (lt_of_cell q4)]; exact q4, LayT.below n hl hb⟩

theorem LayT.shape (n : Nat) {w : World} {x : Value} {v : T n} (h : LayT w n x v) : ∃ g k t aa al ac ia il ic, x = mkT g k t aa al ac ia il ic := by
  cases n with
  | zero => exact v.elim
  | succ n =>
    obtain ⟨g, k, t, ats, its⟩ := v
    obtain ⟨aa, ac, ia, ic, hx, _⟩ := h
    exact ⟨_, _, _, _, _, _, _, _, _, hx⟩
end Go.Proofs.YtcdnakcojanaeabGreat
