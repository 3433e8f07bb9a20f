/-
  Values as trees: what a value of the program's memory reads as (Lay), and as what it reads in memory of its own (Own); both stay while the blocks that they speak of stay.
-/
import Derived.Test.YtndclldicdfmeaaGreatRows
import Derived.WalkKit
import Derived.ProofKit
import Derived.OpenShut
import Derived.WalkLawsBesides
import Derived.BigQuiet
import Derived.Deep.QuietTactic
import Derived.Deep.Strs
import Derived.Deep.LoopGhost
import Derived.Deep.RegionWith
import Derived.Deep.DeepCutAuto
import Derived.Laws.AppendOwnNone
import Derived.ArgAppend
import Derived.SizedLaws
namespace Go.Proofs.YtndclldicdfmeaaGreat
open Go.ChangeShapes Go.WideShapes Go.ChangeAt Go.RowKit

/-- Trees of depth up to n: kind, bits, text, keys, items. -/
def V : Nat → Type
  | 0 => Empty
  | n + 1 => Int × Int × ByteArray × List ByteArray × List (V n)

/-- A slice of texts. -/
def LayS (w : World) (ka : Option Addr) (ks : List ByteArray) : Prop :=
  ∀ i s, ks[i]? = some s → ∃ b o, ka = some ⟨b, o, none⟩ ∧ w.cell? ⟨b, o + i, none⟩ = some (.string s) ∧ s.size ≤ 140737488351232

/-- A slice of values: each item's five cells make a value of which R tells. -/
def LayI {α : Type} (w : World) (R : Value → α → Prop) (ia : Option Addr) (its : List α) : Prop :=
  ∀ i u, its[i]? = some u → ∃ b o c0 c1 c2 c3 c4, ia = some ⟨b, o, none⟩ ∧ w.cell? ⟨b, o + i * 5, none⟩ = some c0 ∧ w.cell? ⟨b, o + i * 5 + 1, none⟩ = some c1 ∧ w.cell? ⟨b, o + i * 5 + 2, none⟩ = some c2 ∧
    w.cell? ⟨b, o + i * 5 + 3, none⟩ = some c3 ∧ w.cell? ⟨b, o + i * 5 + 4, none⟩ = some c4 ∧ R (.agg #[c0, c1, c2, c3, c4]) u

/-- What the fields of a part keep to. -/
def Fit (k b : Int) (t : ByteArray) (kl kc il ic : Nat) : Prop :=
  (-9223372036854775808 ≤ k ∧ k ≤ 9223372036854775807) ∧ (0 ≤ b ∧ b < 18446744073709551616) ∧ t.size ≤ 140737488351232 ∧ kl ≤ kc ∧ kc ≤ 9223372036854775807 ∧ kl * 16 ≤ 140737488351232 ∧ il ≤ ic ∧ ic ≤ 9223372036854775807 ∧ il * 80 ≤ 140737488351232

/-- A value, by its fields. -/
abbrev mk (k b : Int) (t : ByteArray) (ka : Option Addr) (kl kc : Nat) (ia : Option Addr) (il ic : Nat) : Value :=
  .agg #[.int .i64 k, .int .u64 b, .string t, .slice ka kl kc, .slice ia il ic]

/-- A value reads as a tree. -/
def Lay (w : World) : (n : Nat) → Value → V n → Prop
  | 0, _, _ => False
  | n + 1, x, (k, b, t, ks, its) => ∃ ka kc ia ic, x = mk k b t ka ks.length kc ia its.length ic ∧ Fit k b t ks.length kc its.length ic ∧ (ka = none → ks.length = 0 ∧ kc = 0) ∧ (ia = none → its.length = 0 ∧ ic = 0) ∧ LayS w ka ks ∧ LayI w (Lay w n) ia its

/-- Items of which each reads as a tree in memory of its own, none of it shared. -/
def Items {α : Type} (R : Value → α → (Nat → Prop) → Prop) (its : List α) (m : Nat) (xs : List Value) (G : Nat → Nat → Prop) : Prop :=
  ∀ i u, i < m → its[i]? = some u → ∃ c0 c1 c2 c3 c4, xs[i * 5]? = some c0 ∧ xs[i * 5 + 1]? = some c1 ∧ xs[i * 5 + 2]? = some c2 ∧ xs[i * 5 + 3]? = some c3 ∧ xs[i * 5 + 4]? = some c4 ∧ R (.agg #[c0, c1, c2, c3, c4]) u (G i)

/-- A value reads as a tree in memory of its own: its blocks are among F's. -/
def Own (w : World) : (n : Nat) → Value → V n → (Nat → Prop) → Prop
  | 0, _, _, _ => False
  | n + 1, x, (k, b, t, ks, its), F => ∃ ka kc ia ic xs G, x = mk k b t ka ks.length kc ia its.length ic ∧ Fit k b t ks.length kc its.length ic ∧ (∀ s ∈ ks, s.size ≤ 140737488351232) ∧
      w.ownsRow 0 9 1 (.slice ka ks.length kc) ks.length (ks.map Value.string) ∧ w.ownsRow 0 29 5 (.slice ia its.length ic) its.length xs ∧
      (∀ b, (Value.slice ka ks.length kc).ownBlock = some b → F b) ∧ (∀ b, (Value.slice ia its.length ic).ownBlock = some b → F b) ∧ Items (Own w n) its its.length xs G ∧
      (∀ i b, i < its.length → G i b → F b ∧ (Value.slice ka ks.length kc).ownBlock ≠ some b ∧ (Value.slice ia its.length ic).ownBlock ≠ some b) ∧ (∀ i j b, i < its.length → j < its.length → G i b → G j b → i = j)

theorem ownsRow_same {w w' : World} {base : Nat} {e : TypeId} {size : Nat} {v : Value} {n : Nat} {xs : List Value} (h : w.ownsRow base e size v n xs)
    (hh : ∀ g, v.ownBlock = some g → w'.heap[g]? = w.heap[g]?) : w'.ownsRow base e size v n xs := by
  obtain ⟨h1, h2⟩ := h
  refine ⟨h1, ?_⟩
  rcases h2 with h2 | ⟨g, cap, cur, hv, hg, hb, r⟩
  · exact Or.inl h2
  · exact Or.inr ⟨g, cap, cur, hv, hg, by rw [hh g (by rw [hv]; rfl)]; exact hb, r⟩

theorem Own.same (n : Nat) : ∀ {w w' : World} {x : Value} {v : V n} {F : Nat → Prop}, Own w n x v F → (∀ b, F b → w'.heap[b]? = w.heap[b]?) → Own w' n x v F := by
  induction n with
  | zero => intro w w' x v; exact v.elim
  | succ n ih =>
    rintro w w' x ⟨k, b, t, ks, its⟩ F ⟨ka, kc, ia, ic, xs, G, hx, hfit, hs, hK, hI, fK, fI, hit, hG, hd⟩ hh
    refine ⟨ka, kc, ia, ic, xs, G, hx, hfit, hs, ownsRow_same hK fun g hg => hh g (fK g hg), ownsRow_same hI fun g hg => hh g (fI g hg), fK, fI, ?_, hG, hd⟩
    intro i u hi hu
    obtain ⟨c0, c1, c2, c3, c4, e0, e1, e2, e3, e4, ho⟩ := hit i u hi hu
    exact ⟨c0, c1, c2, c3, c4, e0, e1, e2, e3, e4, ih ho fun b hb => hh b (hG i b hi hb).1⟩

theorem Own.more (n : Nat) {w : World} {x : Value} {v : V n} {F F' : Nat → Prop} (h : Own w n x v F) (hF : ∀ b, F b → F' b) : Own w n x v F' := by
  cases n with
  | zero => exact v.elim
  | succ n =>
    obtain ⟨k, b, t, ks, its⟩ := v
    obtain ⟨ka, kc, ia, ic, xs, G, hx, hfit, hs, hK, hI, fK, fI, hit, hG, hd⟩ := h
    exact ⟨ka, kc, ia, ic, xs, G, hx, hfit, hs, hK, hI, fun b hb => hF b (fK b hb), fun b hb => hF b (fI b hb), hit, fun i b hi hb => ⟨hF b (hG i b hi hb).1, (hG i b hi hb).2⟩, hd⟩

theorem cells_of_own {w : World} {base : Nat} {e : TypeId} {size : Nat} {ia : Option Addr} {l c n : Nat} {xs : List Value} (h : w.ownsRow base e size (.slice ia l c) n xs) (j : Nat) (u : Value) (hj : xs[j]? = some u) :
    ∃ g, ia = some ⟨g, 0, none⟩ ∧ w.cell? ⟨g, 0 + j, none⟩ = some u := by
  have h0 := h
  obtain ⟨h1, h2⟩ := h
  rcases h2 with ⟨hv, hn⟩ | ⟨g, cap, cur, hv, hg, hb, r⟩
  · subst hn; simp at h1; subst h1; simp at hj
  · have e : ia = some ⟨g, 0, none⟩ := by simp only [Value.slice.injEq] at hv; exact hv.1
    refine ⟨g, e, ?_⟩
    have := h0.cells (g := g) (by rw [e]; rfl) j u hj
    rw [WideShapes.add_plain] at this
    exact this

theorem none_of_own {w : World} {base : Nat} {e : TypeId} {size : Nat} {ia : Option Addr} {l c n : Nat} {xs : List Value} (h : w.ownsRow base e size (.slice ia l c) n xs) (hn : ia = none) : l = 0 ∧ c = 0 := by
  subst hn
  obtain ⟨h1, h2⟩ := h
  rcases h2 with ⟨hv, _⟩ | ⟨g, cap, cur, hv, _⟩
  · simp only [Value.slice.injEq] at hv; exact ⟨hv.2.1, hv.2.2⟩
  · simp at hv

theorem Own.lay (n : Nat) : ∀ {w : World} {x : Value} {v : V n} {F : Nat → Prop}, Own w n x v F → Lay w n x v := by
  induction n with
  | zero => intro w x v; exact v.elim
  | succ n ih =>
    rintro w x ⟨k, b, t, ks, its⟩ F ⟨ka, kc, ia, ic, xs, G, hx, hfit, hs, hK, hI, fK, fI, hit, hG, hd⟩
    refine ⟨ka, kc, ia, ic, hx, hfit, none_of_own hK, none_of_own hI, ?_, ?_⟩
    · intro i s hi
      obtain ⟨g, e, hc⟩ := cells_of_own hK i (.string s) (by simp [hi])
      exact ⟨g, 0, e, hc, hs s (List.mem_of_getElem? hi)⟩
    · intro i u hu
      have hi : i < its.length := by
        have := List.getElem?_eq_some_iff.1 hu
        exact this.1
      obtain ⟨c0, c1, c2, c3, c4, e0, e1, e2, e3, e4, ho⟩ := hit i u hi hu
      obtain ⟨g, e, q0⟩ := cells_of_own hI _ _ e0
      obtain ⟨g1, e', q1⟩ := cells_of_own hI _ _ e1
      obtain ⟨g2, e'', q2⟩ := cells_of_own hI _ _ e2
      obtain ⟨g3, e''', q3⟩ := cells_of_own hI _ _ e3
      obtain ⟨g4, e'''', q4⟩ := cells_of_own hI _ _ e4
      subst e
      simp only [Option.some.injEq, Addr.mk.injEq, and_true] at e' e'' e''' e''''
      subst e' e'' e''' e''''
      exact ⟨g, 0, c0, c1, c2, c3, c4, rfl, q0, q1, q2, q3, q4, ih ho⟩

theorem lt_of_cell {w : World} {a : Addr} {v : Value} (h : w.cell? a = some v) : a.block < w.heap.size := by
  unfold World.cell? at h
  split at h
  · rename_i c _ _ hb
    exact lt_of_block hb
  · cases h

theorem LayS.below {w w' : World} {ka : Option Addr} {ks : List ByteArray} (h : LayS w ka ks) (hb : Below w.heap.size w w') : LayS w' ka ks := by
  intro i s hi
  obtain ⟨b, o, e, hc, hs⟩ := h i s hi
  exact ⟨b, o, e, by rw [hb.cell (lt_of_cell hc)]; exact hc, hs⟩

theorem Lay.below (n : Nat) : ∀ {w w' : World} {x : Value} {v : V n}, Lay w n x v → Below w.heap.size w w' → Lay w' n x v := by
  induction n with
  | zero => intro w w' x v; exact v.elim
  | succ n ih =>
    rintro w w' x ⟨k, b, t, ks, its⟩ ⟨ka, kc, ia, ic, hx, hfit, nk, ni, hS, hI⟩ hb
    refine ⟨ka, kc, ia, ic, hx, hfit, nk, ni, hS.below hb, ?_⟩
    intro i u hu
    obtain ⟨b, o, c0, c1, c2, c3, c4, e, q0, q1, q2, q3, q4, hl⟩ := hI i u hu
    exact ⟨b, o, c0, c1, c2, c3, c4, e, by rw [hb.cell (lt_of_cell q0)]; exact q0, by rw [hb.cell (lt_of_cell q1)]; exact q1, by rw [hb.cell (lt_of_cell q2)]; exact q2,
      by rw [hb.cell (lt_of_cell q3)]; exact q3, by rw [hb.cell (lt_of_cell q4)]; exact q4, ih hl hb⟩

theorem LayI.below {n : Nat} {w w' : World} {ia : Option Addr} {its : List (V n)} (hI : LayI w (Lay w n) ia its) (hb : Below w.heap.size w w') : LayI w' (Lay w' n) ia its := by
  intro i u hu
  obtain ⟨b, o, c0, c1, c2, c3, c4, e, q0, q1, q2, q3, q4, hl⟩ := hI i u hu
  exact ⟨b, o, c0, c1, c2, c3, c4, e, by rw [hb.cell (lt_of_cell q0)]; exact q0, by rw [hb.cell (lt_of_cell q1)]; exact q1, by rw [hb.cell (lt_of_cell q2)]; exact q2,
    by rw [hb.cell (lt_of_cell q3)]; exact q3, by rw [hb.cell (lt_of_cell q4)]; exact q4, Lay.below n hl hb⟩

theorem Lay.shape (n : Nat) {w : World} {x : Value} {v : V n} (h : Lay w n x v) : ∃ k b t ka kl kc ia il ic, x = mk k b t ka kl kc ia il ic := by
  cases n with
  | zero => exact v.elim
  | succ n =>
    obtain ⟨k, b, t, ks, its⟩ := v
    obtain ⟨ka, kc, ia, ic, hx, _⟩ := h
    exact ⟨_, _, _, _, _, _, _, _, _, hx⟩

/-- append to a slice of the call's own: the row stays where it is, or is a new block; nothing but the row has turned. -/
theorem wpList_append_apart {P : Program} (w : World) {ops : Array Oper} {rest : List Oper} {o : Oper} {a : Act} {Q : Exit → Act → World → Prop} (hgd : o.guard = none) (s x : Operand) (t : TypeId)
    (ho : o.op = .call { callee := .builtin .append, args := #[s, x], argTypes := #[t, t] })
    (base : Nat) (e : TypeId) (i : TypeInfo) (z : Value) (size bytes : Nat) (ht : P.underlying t = some (.slice e)) (hi : P.info? e = some i) (hz : i.zero = some z)
    (hsize : i.size = size) (hby : i.bytes = bytes) (hzs : z.cells.size = size) (hsz : 0 < size)
    (v : Value) (n : Nat) (xs : List Value) (hs : a.eval s = v) (hown : w.ownsRow base e size v n xs)
    (ao : Option Addr) (m c : Nat) (news : List Value) (hx : a.eval x = .slice ao m c) (hnone : ao = none → m = 0 ∧ c = 0) (hl : news.length = m * size)
    (hnews : ∀ ad, ao = some ad → ∀ j u, news[j]? = some u → w.cell? (ad.add j) = some u) (h1 : ∀ u ∈ news, u.oneCell' = true)
    (h63 : n + m ≤ maxLen) (hbytes : (n + m) * bytes ≤ 140737488355328) (hbase : base ≤ w.heap.size)
    (h : ∀ v' w', w'.ownsRow base e size v' (n + m) (xs ++ news) → w.grownBy w' v.ownBlock → (v'.ownBlock = v.ownBlock ∨ ∀ g, v'.ownBlock = some g → w.heap.size ≤ g) → wpList P ops Q rest (a.put o.dst v') w') :
    wpList P ops Q (o :: rest) a w := by
  have lower : ∀ {w' : World} {v' : Value} {k : Nat} {ys : List Value}, w'.ownsRow w.heap.size e size v' k ys → w'.ownsRow base e size v' k ys ∧ ∀ g, v'.ownBlock = some g → w.heap.size ≤ g := by
    rintro w' v' k ys ⟨q1, q2⟩
    rcases q2 with ⟨rfl, rfl⟩ | ⟨g, cap, cur, rfl, hg, r⟩
    · exact ⟨⟨q1, Or.inl ⟨rfl, rfl⟩⟩, fun g hg => by simp [Value.ownBlock] at hg⟩
    · exact ⟨⟨q1, Or.inr ⟨g, cap, cur, rfl, by omega, r⟩⟩, fun g' hg' => by simp only [Value.ownBlock, Option.some.injEq] at hg'; omega⟩
  have wide : ∀ {w' : World} {r : Option Nat}, w.grownBy w' none → w.grownBy w' r := fun q => ⟨q.os, q.tape, q.output, q.size, fun k hk _ => q.block k hk (by simp)⟩
  cases ao with
  | none =>
    obtain ⟨rfl, rfl⟩ := hnone rfl
    have hn0 : news = [] := List.eq_nil_of_length_eq_zero (by simpa using hl)
    subst hn0
    refine wpList_append_own_none hgd s x t ho base e i size ht hi v n xs hs hown hx ?_
    exact h v w (by simpa using hown) (World.grownBy.refl _ _) (Or.inl rfl)
  | some ad =>
    have hown0 := hown
    obtain ⟨l0, hcase⟩ := hown
    rcases hcase with ⟨rfl, rfl⟩ | ⟨g, cap, cur, rfl, hg, hh, hnc, r⟩
    · have : xs = [] := List.eq_nil_of_length_eq_zero (by simpa using l0)
      subst this
      refine wpList_append_own w hgd s x t ho w.heap.size e i z size bytes ht hi hz hsize hby hzs hsz _ 0 [] hs (World.ownsRow_nil _ _ _ _) ad m c news hx hl (hnews ad rfl) h1 h63 hbytes (Nat.le_refl _) ?_
      intro v' w' q1 q2 _
      exact h v' w' (lower q1).1 q2 (Or.inr (lower q1).2)
    · by_cases hroom : n + m ≤ cap
      · refine wpList_append_fits w hgd s x t ho base e i size ht hi hsize g n cap xs hs hown0 ad m c news hx hl (hnews ad rfl) h1 hroom ?_
        intro w' q1 q2
        exact h _ w' q1 q2 (Or.inl rfl)
      · refine wpList_append_grows w hgd s x t ho e i z size bytes ht hi hz hsize hby hzs hsz (some ⟨g, 0, none⟩) n cap xs hs (by simp) l0 (fun b hb j u hu => by cases hb; exact hown0.cells (g := g) rfl j u hu) ad m c news hx hl (hnews ad rfl) h1 (by omega) h63 hbytes ?_
        intro v' w' q1 q2
        exact h v' w' (lower q1).1 (wide q2) (Or.inr (lower q1).2)

/-- Two ends, one behind the other. -/
theorem nxt {w w1 w2 : World} (h : Below w.heap.size w w1) (k : Below w1.heap.size w1 w2) : Below w.heap.size w w2 := h.trans (k.mono h.size)

end Go.Proofs.YtndclldicdfmeaaGreat
