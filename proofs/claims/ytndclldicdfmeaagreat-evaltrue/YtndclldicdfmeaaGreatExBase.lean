/-
  Expressions as trees: what an expression of the program's memory reads as (LayX), and as what it reads in memory of its own (OwnX, by the element's type); both stay while the blocks that they speak of stay.
-/
import Derived.Test.YtndclldicdfmeaaGreatOcBase
namespace Go.Proofs.YtndclldicdfmeaaGreat.Xp
open Go.ChangeShapes Go.WideShapes Go.ChangeAt Go.RowKit

/-- Trees of depth up to n: op, bits, text, parts. -/
def X : Nat → Type
  | 0 => Empty
  | n + 1 => Int × Int × ByteArray × List (X n)

/-- A slice of expressions: each part's four cells make an expression of which R tells. -/
def LayJ {α : Type} (w : World) (R : Value → α → Prop) (ia : Option Addr) (its : List α) : Prop :=
  ∀ i u, its[i]? = some u → ∃ b o c0 c1 c2 c3, ia = some ⟨b, o, none⟩ ∧ w.cell? ⟨b, o + i * 4, none⟩ = some c0 ∧ w.cell? ⟨b, o + i * 4 + 1, none⟩ = some c1 ∧ w.cell? ⟨b, o + i * 4 + 2, none⟩ = some c2 ∧
    w.cell? ⟨b, o + i * 4 + 3, none⟩ = some c3 ∧ R (.agg #[c0, c1, c2, c3]) u

/-- What the fields of a part keep to. -/
def FitX (k b : Int) (t : ByteArray) (il ic : Nat) : Prop :=
  (-9223372036854775808 ≤ k ∧ k ≤ 9223372036854775807) ∧ (0 ≤ b ∧ b < 18446744073709551616) ∧ t.size ≤ 140737488351232 ∧ il ≤ ic ∧ ic ≤ 9223372036854775807 ∧ il * 56 ≤ 140737488351232

/-- An expression, by its fields. -/
abbrev mkX (k b : Int) (t : ByteArray) (ia : Option Addr) (il ic : Nat) : Value :=
  .agg #[.int .i64 k, .int .u64 b, .string t, .slice ia il ic]

/-- An expression of the memory reads as a tree. -/
def LayX (w : World) : (n : Nat) → Value → X n → Prop
  | 0, _, _ => False
  | n + 1, x, (k, b, t, its) => ∃ ia ic, x = mkX k b t ia its.length ic ∧ FitX k b t its.length ic ∧ (ia = none → its.length = 0 ∧ ic = 0) ∧ LayJ w (LayX w n) ia its

/-- Parts of which each reads as a tree in memory of its own, none of it shared. -/
def ItemsJ {α : Type} (R : Value → α → (Nat → Prop) → Prop) (its : List α) (m : Nat) (xs : List Value) (G : Nat → Nat → Prop) : Prop :=
  ∀ i u, i < m → its[i]? = some u → ∃ c0 c1 c2 c3, xs[i * 4]? = some c0 ∧ xs[i * 4 + 1]? = some c1 ∧ xs[i * 4 + 2]? = some c2 ∧ xs[i * 4 + 3]? = some c3 ∧ R (.agg #[c0, c1, c2, c3]) u (G i)

/-- An expression reads so in memory of its own (rows of the type e): its blocks are among F's. -/
def OwnX (e : TypeId) (w : World) : (n : Nat) → Value → X n → (Nat → Prop) → Prop
  | 0, _, _, _ => False
  | n + 1, x, (k, b, t, its), F => ∃ ia ic xs G, x = mkX k b t ia its.length ic ∧ FitX k b t its.length ic ∧ w.ownsRow 0 e 4 (.slice ia its.length ic) its.length xs ∧
      (∀ b, (Value.slice ia its.length ic).ownBlock = some b → F b) ∧ ItemsJ (OwnX e w n) its its.length xs G ∧
      (∀ i b, i < its.length → G i b → F b ∧ (Value.slice ia its.length ic).ownBlock ≠ some b) ∧ (∀ i j b, i < its.length → j < its.length → G i b → G j b → i = j)

theorem OwnX.same {e : TypeId} (n : Nat) : ∀ {w w' : World} {x : Value} {v : X n} {F : Nat → Prop}, OwnX e w n x v F → (∀ b, F b → w'.heap[b]? = w.heap[b]?) → OwnX e w' n x v F := by
  induction n with
  | zero => intro w w' x v; exact v.elim
  | succ n ih =>
    rintro w w' x ⟨k, b, t, its⟩ F ⟨ia, ic, xs, G, hx, hfit, hI, fI, hit, hG, hd⟩ hh
    refine ⟨ia, ic, xs, G, hx, hfit, ownsRow_same hI fun g hg => hh g (fI g hg), fI, ?_, hG, hd⟩
    intro i u hi hu
    obtain ⟨c0, c1, c2, c3, e0, e1, e2, e3, ho⟩ := hit i u hi hu
    exact ⟨c0, c1, c2, c3, e0, e1, e2, e3, ih ho fun b hb => hh b (hG i b hi hb).1⟩

theorem OwnX.more {e : TypeId} (n : Nat) {w : World} {x : Value} {v : X n} {F F' : Nat → Prop} (h : OwnX e w n x v F) (hF : ∀ b, F b → F' b) : OwnX e w n x v F' := by
  cases n with
  | zero => exact v.elim
  | succ n =>
    obtain ⟨k, b, t, its⟩ := v
    obtain ⟨ia, ic, xs, G, hx, hfit, hI, fI, hit, hG, hd⟩ := h
    exact ⟨ia, ic, xs, G, hx, hfit, hI, fun b hb => hF b (fI b hb), hit, fun i b hi hb => ⟨hF b (hG i b hi hb).1, (hG i b hi hb).2⟩, hd⟩

theorem cells_of_ownX {w : World} {base : Nat} {e : TypeId} {size : Nat} {ia : Option Addr} {l c n : Nat} {xs : List Value} (h : w.ownsRow base e size (.slice ia l c) n xs) (j : Nat) (u : Value) (hj : xs[j]? = some u) :
    ∃ g, ia = some ⟨g, 0, none⟩ ∧ w.cell? ⟨g, 0 + j, none⟩ = some u := by
  have h0 := h
  obtain ⟨h1, h2⟩ := h
  rcases h2 with ⟨hv, hn⟩ | ⟨g, cap, cur, hv, hg, hb, r⟩
  · subst hn; simp at h1; subst h1; simp at hj
  · have e : ia = some ⟨g, 0, none⟩ := by simp only [Value.slice.injEq] at hv; exact hv.1
    refine ⟨g, e, ?_⟩
    have := h0.cells (g := g) (by rw [e]; rfl) j u hj
    rw [WideShapes.add_plain] at this
    exact this

theorem none_of_ownX {w : World} {base : Nat} {e : TypeId} {size : Nat} {ia : Option Addr} {l c n : Nat} {xs : List Value} (h : w.ownsRow base e size (.slice ia l c) n xs) (hn : ia = none) : l = 0 ∧ c = 0 := by
  subst hn
  obtain ⟨h1, h2⟩ := h
  rcases h2 with ⟨hv, _⟩ | ⟨g, cap, cur, hv, _⟩
  · simp only [Value.slice.injEq] at hv; exact ⟨hv.2.1, hv.2.2⟩
  · simp at hv

theorem OwnX.lay {e : TypeId} (n : Nat) : ∀ {w : World} {x : Value} {v : X n} {F : Nat → Prop}, OwnX e w n x v F → LayX w n x v := by
  induction n with
  | zero => intro w x v; exact v.elim
  | succ n ih =>
    rintro w x ⟨k, b, t, its⟩ F ⟨ia, ic, xs, G, hx, hfit, hI, fI, hit, hG, hd⟩
    refine ⟨ia, ic, hx, hfit, none_of_ownX hI, ?_⟩
    intro i u hu
    have hi : i < its.length := (List.getElem?_eq_some_iff.1 hu).1
    obtain ⟨c0, c1, c2, c3, e0, e1, e2, e3, ho⟩ := hit i u hi hu
    obtain ⟨g, e, q0⟩ := cells_of_ownX hI _ _ e0
    obtain ⟨g1, e', q1⟩ := cells_of_ownX hI _ _ e1
    obtain ⟨g2, e'', q2⟩ := cells_of_ownX hI _ _ e2
    obtain ⟨g3, e''', q3⟩ := cells_of_ownX hI _ _ e3
    subst e
    simp only [Option.some.injEq, Addr.mk.injEq, and_true] at e' e'' e'''
    subst e' e'' e'''
    exact ⟨g, 0, c0, c1, c2, c3, rfl, q0, q1, q2, q3, ih ho⟩

theorem LayX.below (n : Nat) : ∀ {w w' : World} {x : Value} {v : X n}, LayX w n x v → Below w.heap.size w w' → LayX w' n x v := by
  induction n with
  | zero => intro w w' x v; exact v.elim
  | succ n ih =>
    rintro w w' x ⟨k, b, t, its⟩ ⟨ia, ic, hx, hfit, ni, hI⟩ hb
    refine ⟨ia, ic, hx, hfit, ni, ?_⟩
    intro i u hu
    obtain ⟨b, o, c0, c1, c2, c3, e, q0, q1, q2, q3, hl⟩ := hI i u hu
    exact ⟨b, o, c0, c1, c2, c3, e, by rw [hb.cell (lt_of_cell q0)]; exact q0, by rw [hb.cell (lt_of_cell q1)]; exact q1, by rw [hb.cell (lt_of_cell q2)]; exact q2,
      by rw [hb.cell (lt_of_cell q3)]; exact q3, ih hl hb⟩

theorem LayJ.below {n : Nat} {w w' : World} {ia : Option Addr} {its : List (X n)} (hI : LayJ w (LayX w n) ia its) (hb : Below w.heap.size w w') : LayJ w' (LayX w' n) ia its := by
  intro i u hu
  obtain ⟨b, o, c0, c1, c2, c3, e, q0, q1, q2, q3, hl⟩ := hI i u hu
  exact ⟨b, o, c0, c1, c2, c3, e, by rw [hb.cell (lt_of_cell q0)]; exact q0, by rw [hb.cell (lt_of_cell q1)]; exact q1, by rw [hb.cell (lt_of_cell q2)]; exact q2,
    by rw [hb.cell (lt_of_cell q3)]; exact q3, LayX.below n hl hb⟩

theorem LayX.shape (n : Nat) {w : World} {x : Value} {v : X n} (h : LayX w n x v) : ∃ k b t ia il ic, x = mkX k b t ia il ic := by
  cases n with
  | zero => exact v.elim
  | succ n =>
    obtain ⟨k, b, t, its⟩ := v
    obtain ⟨ia, ic, hx, _⟩ := h
    exact ⟨_, _, _, _, _, _, hx⟩

theorem LayX.four (n : Nat) {w : World} {c0 c1 c2 c3 : Value} {v : X n} (h : LayX w n (.agg #[c0, c1, c2, c3]) v) :
    ∃ k b t ia il ic, c0 = .int .i64 k ∧ c1 = .int .u64 b ∧ c2 = .string t ∧ c3 = .slice ia il ic := by
  obtain ⟨k, b, t, ia, il, ic, ex⟩ := LayX.shape n h
  simp only [mkX, Value.agg.injEq, Array.mk.injEq, List.cons.injEq] at ex
  exact ⟨k, b, t, ia, il, ic, ex.1, ex.2.1, ex.2.2.1, ex.2.2.2.1⟩

/-- A part of a slice of expressions, by its fields. -/
theorem LayJ.at {n : Nat} {w : World} {ia : Option Addr} {its : List (X n)} (h : LayJ w (LayX w n) ia its) (m : Nat) (hm : m < its.length) :
    ∃ b o k1 b1 t1 ja jl jc, ia = some ⟨b, o, none⟩ ∧ w.cell? ⟨b, o + m * 4, none⟩ = some (.int .i64 k1) ∧ w.cell? ⟨b, o + m * 4 + 1, none⟩ = some (.int .u64 b1) ∧ w.cell? ⟨b, o + m * 4 + 2, none⟩ = some (.string t1) ∧
      w.cell? ⟨b, o + m * 4 + 3, none⟩ = some (.slice ja jl jc) ∧ LayX w n (mkX k1 b1 t1 ja jl jc) its[m] := by
  obtain ⟨b, o, c0, c1, c2, c3, e, q0, q1, q2, q3, hl⟩ := h m its[m] (by simp [hm])
  obtain ⟨k1, b1, t1, ja, jl, jc, rfl, rfl, rfl, rfl⟩ := LayX.four n hl
  exact ⟨b, o, k1, b1, t1, ja, jl, jc, e, q0, q1, q2, q3, hl⟩

theorem box4 {w : World} {g : Nat} {c0 c1 c2 c3 : Value} {t : TypeId} (h : w.heap[g]? = some (.cells #[c0, c1, c2, c3] t (0, 0))) :
    w.cell? ⟨g, 0, none⟩ = some c0 ∧ w.cell? ⟨g, 1, none⟩ = some c1 ∧ w.cell? ⟨g, 2, none⟩ = some c2 ∧ w.cell? ⟨g, 3, none⟩ = some c3 ∧
      w.frozen? ⟨g, 0, none⟩ = false ∧ w.frozen? ⟨g, 1, none⟩ = false ∧ w.frozen? ⟨g, 2, none⟩ = false ∧ w.frozen? ⟨g, 3, none⟩ = false := by
  simp [World.cell?, World.frozen?, h]

theorem X_inj {n : Nat} {k b k' b' : Int} {t t' : ByteArray} {its its' : List (X n)} (e : ((k, b, t, its) : X (n + 1)) = (k', b', t', its')) :
    k = k' ∧ b = b' ∧ t = t' ∧ its = its' := by
  have e' : ((k, b, t, its) : Int × Int × ByteArray × List (X n)) = (k', b', t', its') := e
  simpa using e'

end Go.Proofs.YtndclldicdfmeaaGreat.Xp
