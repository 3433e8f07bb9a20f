/-
  Rows of structs that end with a value (items, effects): what they read as, and in memory of their own.
-/
import Derived.Test.YtfdbhojghkdlkaaJ6
import Derived.Test.YtfdbhojghkdlkaaJ2
namespace Go.Proofs.Ytfdbhojghkdlkaa
open Go.ChangeShapes Go.WideShapes Go.ChangeAt Go.RowKit

/-- A kind of struct: its type, its cells, where its value stands, the cells ahead of that, the value. -/
structure Sh (α : Type) (n : Nat) where
  e : TypeId
  s : Nat
  p : Nat
  pre : α → List Value
  val : α → V n

/-- An item: its number, its effect's name, what comes with it. -/
abbrev Tm (n : Nat) := Int × ByteArray × V n
/-- An effect: its name, what comes with it. -/
abbrev Ef (n : Nat) := ByteArray × V n

def shT (n : Nat) : Sh (Tm n) n := { e := 54, s := 7, p := 2, pre := fun u => [.int .i64 u.1, .string u.2.1], val := fun u => u.2.2 }
def shE (n : Nat) : Sh (Ef n) n := { e := 52, s := 6, p := 1, pre := fun u => [.string u.1], val := fun u => u.2 }

/-- What stands in a row of cells. -/
def ItemsR {α : Type} {n : Nat} (S : Sh α n) (R : Value → V n → (Nat → Prop) → Prop) (its : List α) (m : Nat) (xs : List Value) (G : Nat → Nat → Prop) : Prop :=
  ∀ i u, i < m → its[i]? = some u → (∀ j c, (S.pre u)[j]? = some c → xs[i * S.s + j]? = some c) ∧ ∃ c0 c1 c2 c3 c4, xs[i * S.s + S.p]? = some c0 ∧ xs[i * S.s + S.p + 1]? = some c1 ∧ xs[i * S.s + S.p + 2]? = some c2 ∧ xs[i * S.s + S.p + 3]? = some c3 ∧
    xs[i * S.s + S.p + 4]? = some c4 ∧ R (.agg #[c0, c1, c2, c3, c4]) (S.val u) (G i)

/-- A slice of structs. -/
def LayR {α : Type} {n : Nat} (S : Sh α n) (w : World) (ia : Option Addr) (its : List α) : Prop :=
  ∀ i u, its[i]? = some u → ∃ b o c0 c1 c2 c3 c4, ia = some ⟨b, o, none⟩ ∧ (∀ j c, (S.pre u)[j]? = some c → w.cell? ⟨b, o + i * S.s + j, none⟩ = some c) ∧ w.cell? ⟨b, o + i * S.s + S.p, none⟩ = some c0 ∧ w.cell? ⟨b, o + i * S.s + S.p + 1, none⟩ = some c1 ∧
    w.cell? ⟨b, o + i * S.s + S.p + 2, none⟩ = some c2 ∧ w.cell? ⟨b, o + i * S.s + S.p + 3, none⟩ = some c3 ∧ w.cell? ⟨b, o + i * S.s + S.p + 4, none⟩ = some c4 ∧ Lay w n (.agg #[c0, c1, c2, c3, c4]) (S.val u)

/-- A row of structs of one's own, in the blocks H. -/
def OwnR {α : Type} {n : Nat} (S : Sh α n) (w : World) (v : Value) (its : List α) (H : Nat → Prop) : Prop :=
  ∃ xs G, w.ownsRow 0 S.e S.s v its.length xs ∧ ItemsR S (Own w n) its its.length xs G ∧ (∀ b, v.ownBlock = some b → H b) ∧ (∀ i b, i < its.length → G i b → H b ∧ v.ownBlock ≠ some b) ∧ (∀ i j b, i < its.length → j < its.length → G i b → G j b → i = j)

theorem LayR.below {α : Type} {n : Nat} {S : Sh α n} {w w' : World} {ia : Option Addr} {its : List α} (h : LayR S w ia its) (hb : Below w.heap.size w w') : LayR S w' ia its := by
  intro i u hu
  obtain ⟨b, o, c0, c1, c2, c3, c4, e, q, q0, q1, q2, q3, q4, hl⟩ := h i u hu
  exact ⟨b, o, c0, c1, c2, c3, c4, e, (fun j c hj => by rw [hb.cell (lt_of_cell (q j c hj))]; exact q j c hj), by rw [hb.cell (lt_of_cell q0)]; exact q0, by rw [hb.cell (lt_of_cell q1)]; exact q1, by rw [hb.cell (lt_of_cell q2)]; exact q2,
    by rw [hb.cell (lt_of_cell q3)]; exact q3, by rw [hb.cell (lt_of_cell q4)]; exact q4, Lay.below n hl hb⟩

theorem LayR.nil {α : Type} {n : Nat} (S : Sh α n) (w : World) (ia : Option Addr) : LayR S w ia [] := fun i u hu => by simp at hu

theorem OwnR.nil {α : Type} {n : Nat} (S : Sh α n) (w : World) : OwnR S w (.slice none 0 0) [] (fun _ => False) :=
  ⟨[], fun _ _ => False, World.ownsRow_nil _ _ _ _, fun i _ hi => by simp at hi, fun b hb => by simp [Value.ownBlock] at hb, fun i b hi => by simp at hi, fun i j b hi => by simp at hi⟩

theorem OwnR.same {α : Type} {n : Nat} {S : Sh α n} {w w' : World} {v : Value} {its : List α} {H : Nat → Prop} (h : OwnR S w v its H) (hk : ∀ b, H b → w'.heap[b]? = w.heap[b]?) : OwnR S w' v its H := by
  obtain ⟨xs, G, h1, h2, h3, h4, h5⟩ := h
  refine ⟨xs, G, ownsRow_same h1 fun g hg => hk g (h3 g hg), ?_, h3, h4, h5⟩
  intro i u hi hu
  obtain ⟨q, c0, c1, c2, c3, c4, e0, e1, e2, e3, e4, ho⟩ := h2 i u hi hu
  exact ⟨q, c0, c1, c2, c3, c4, e0, e1, e2, e3, e4, ho.same n fun b hb => hk b (h4 i b hi hb).1⟩

theorem OwnR.more {α : Type} {n : Nat} {S : Sh α n} {w : World} {v : Value} {its : List α} {H H' : Nat → Prop} (h : OwnR S w v its H) (hH : ∀ b, H b → H' b) : OwnR S w v its H' := by
  obtain ⟨xs, G, h1, h2, h3, h4, h5⟩ := h
  exact ⟨xs, G, h1, h2, fun b hb => hH b (h3 b hb), fun i b hi hb => ⟨hH b (h4 i b hi hb).1, (h4 i b hi hb).2⟩, h5⟩

theorem OwnR.shape {α : Type} {n : Nat} {S : Sh α n} {w : World} {v : Value} {its : List α} {H : Nat → Prop} (h : OwnR S w v its H) : ∃ a c, v = .slice a its.length c := by
  obtain ⟨xs, G, h1, _⟩ := h
  exact slice_of_own h1

/-- What stands in a row of one's own reads so. -/
theorem ItemsR.lay {α : Type} {n : Nat} {S : Sh α n} {w : World} {base : Nat} {ia : Option Addr} {l c m : Nat} {its : List α} {xs : List Value} {R : Value → V n → (Nat → Prop) → Prop} {G : Nat → Nat → Prop} (h : w.ownsRow base S.e S.s (.slice ia l c) m xs)
    (hi : ItemsR S R its its.length xs G) (hR : ∀ x u F, R x u F → Lay w n x u) : LayR S w ia its := by
  intro i u hu
  obtain ⟨q, c0, c1, c2, c3, c4, e0, e1, e2, e3, e4, ho⟩ := hi i u (List.getElem?_eq_some_iff.1 hu).1 hu
  obtain ⟨g, e, q0⟩ := cells_of_own h _ _ e0
  subst e
  have get : ∀ j y, xs[j]? = some y → w.cell? ⟨g, 0 + j, none⟩ = some y := fun j y hj => by
    obtain ⟨g', e', q'⟩ := cells_of_own h _ _ hj
    simp only [Option.some.injEq, Addr.mk.injEq, and_true] at e'
    subst e'
    exact q'
  refine ⟨g, 0, c0, c1, c2, c3, c4, rfl, (fun j y hj => ?_), ?_, ?_, ?_, ?_, ?_, hR _ _ _ ho⟩
  · rw [Nat.add_assoc]; exact get _ _ (q j y hj)
  · rw [Nat.add_assoc]; exact get _ _ e0
  · rw [Nat.add_assoc, Nat.add_assoc]; exact get _ _ e1
  · rw [Nat.add_assoc, Nat.add_assoc]; exact get _ _ e2
  · rw [Nat.add_assoc, Nat.add_assoc]; exact get _ _ e3
  · rw [Nat.add_assoc, Nat.add_assoc]; exact get _ _ e4

theorem OwnR.lay {α : Type} {n : Nat} {S : Sh α n} {w : World} {ia : Option Addr} {l c : Nat} {its : List α} {H : Nat → Prop} (h : OwnR S w (.slice ia l c) its H) : LayR S w ia its := by
  obtain ⟨xs, G, h1, h2, _⟩ := h
  exact h2.lay h1 fun x u F ho => Own.lay n ho

/-- One struct more among the cells. -/
theorem ItemsR.snoc {α : Type} {n : Nat} {S : Sh α n} {R : Value → V n → (Nat → Prop) → Prop} {its : List α} {xs news : List Value} {G G' : Nat → Nat → Prop} {u : α} {c0 c1 c2 c3 c4 : Value} (hs : S.s = S.p + 5) (hp : (S.pre u).length = S.p) (hx : xs.length = its.length * S.s)
    (hn : news = S.pre u ++ [c0, c1, c2, c3, c4]) (h : ItemsR S R its its.length xs G) (hG : ∀ i x y, i < its.length → R x y (G i) → R x y (G' i)) (hu : R (.agg #[c0, c1, c2, c3, c4]) (S.val u) (G' its.length)) : ItemsR S R (its ++ [u]) (its.length + 1) (xs ++ news) G' := by
  intro i y hi hy
  by_cases him : i < its.length
  · rw [List.getElem?_append_left him] at hy
    obtain ⟨q, d0, d1, d2, d3, d4, e0, e1, e2, e3, e4, ho⟩ := h i y him hy
    have hle : i * S.s + S.s ≤ its.length * S.s := by
      have := Nat.mul_le_mul_right S.s (show i + 1 ≤ its.length from him)
      rw [Nat.add_mul] at this
      omega
    have lt : ∀ j z, xs[j]? = some z → (xs ++ news)[j]? = some z := fun j z hz => by
      rw [List.getElem?_append_left (List.getElem?_eq_some_iff.1 hz).1]; exact hz
    exact ⟨fun j c hj => lt _ _ (q j c hj), d0, d1, d2, d3, d4, lt _ _ e0, lt _ _ e1, lt _ _ e2, lt _ _ e3, lt _ _ e4, hG i _ _ him ho⟩
  · have e : i = its.length := by omega
    subst e
    have e : u = y := by simpa using hy
    subst e
    have hit : ∀ j z, news[j]? = some z → (xs ++ news)[its.length * S.s + j]? = some z := fun j z hz => by
      rw [List.getElem?_append_right (by omega), hx, Nat.add_sub_cancel_left]; exact hz
    have cs : ∀ k z, ([c0, c1, c2, c3, c4] : List Value)[k]? = some z → news[S.p + k]? = some z := fun k z hz => by
      rw [hn, List.getElem?_append_right (by omega), hp, Nat.add_sub_cancel_left]; exact hz
    refine ⟨fun j c hj => hit j c ?_, c0, c1, c2, c3, c4, ?_, ?_, ?_, ?_, ?_, hu⟩
    · rw [hn, List.getElem?_append_left (List.getElem?_eq_some_iff.1 hj).1]; exact hj
    · exact hit _ _ (cs 0 c0 rfl)
    · rw [Nat.add_assoc]; exact hit _ _ (cs 1 c1 rfl)
    · rw [Nat.add_assoc]; exact hit _ _ (cs 2 c2 rfl)
    · rw [Nat.add_assoc]; exact hit _ _ (cs 3 c3 rfl)
    · rw [Nat.add_assoc]; exact hit _ _ (cs 4 c4 rfl)

/-- One more struct in a row of one's own. -/
theorem OwnR.push {α : Type} {n : Nat} {S : Sh α n} {w w2 : World} {v v' : Value} {its : List α} {H F : Nat → Prop} {u : α} {c0 c1 c2 c3 c4 : Value} {xs news : List Value} {G : Nat → Nat → Prop} (hs : S.s = S.p + 5) (hp : (S.pre u).length = S.p) (hn : news = S.pre u ++ [c0, c1, c2, c3, c4])
    (h1 : w.ownsRow 0 S.e S.s v its.length xs) (h2 : ItemsR S (Own w n) its its.length xs G) (h3 : ∀ b, v.ownBlock = some b → H b) (h4 : ∀ i b, i < its.length → G i b → H b ∧ v.ownBlock ≠ some b) (h5 : ∀ i j b, i < its.length → j < its.length → G i b → G j b → i = j)
    (ho : Own w n (.agg #[c0, c1, c2, c3, c4]) (S.val u) F) (hF : ∀ b, F b → ¬ H b) (hH : ∀ b, H b → b < w.heap.size) (hFl : ∀ b, F b → b < w.heap.size)
    (hown : w2.ownsRow 0 S.e S.s v' (its.length + 1) (xs ++ news)) (hg : w.grownBy w2 v.ownBlock) (hv' : v'.ownBlock = v.ownBlock ∨ ∀ g, v'.ownBlock = some g → w.heap.size ≤ g) :
    OwnR S w2 v' (its ++ [u]) (fun b => H b ∨ F b ∨ v'.ownBlock = some b) := by
  have hl : (its ++ [u]).length = its.length + 1 := by simp
  have nv : ∀ b, b < w.heap.size → v.ownBlock ≠ some b → v'.ownBlock ≠ some b := fun b hb hn e => by
    rcases hv' with e' | e'
    · exact hn (by rw [← e']; exact e)
    · have := e' b e; omega
  have K : ∀ b, b < w.heap.size → v.ownBlock ≠ some b → w2.heap[b]? = w.heap[b]? := fun b hb hne => hg.block b hb fun e => hne e.symm
  have h2' : ItemsR S (Own w2 n) its its.length xs G := fun i y hi hy => by
    obtain ⟨q, d0, d1, d2, d3, d4, e0, e1, e2, e3, e4, hO⟩ := h2 i y hi hy
    exact ⟨q, d0, d1, d2, d3, d4, e0, e1, e2, e3, e4, hO.same n fun b hb => K b (hH b (h4 i b hi hb).1) (h4 i b hi hb).2⟩
  have ho' : Own w2 n (.agg #[c0, c1, c2, c3, c4]) (S.val u) F := ho.same n fun b hb => K b (hFl b hb) fun e => hF b hb (h3 b e)
  refine ⟨xs ++ news, fun i b => if i = its.length then F b else G i b, by rw [hl]; exact hown, ?_, fun b hb => Or.inr (Or.inr hb), ?_, ?_⟩
  · rw [hl]
    refine h2'.snoc hs hp h1.1 hn (fun i x y hi hR => ?_) ?_
    · rw [show (fun b => if i = its.length then F b else G i b) = G i from by funext b; rw [if_neg (by omega)]]; exact hR
    · simpa using ho'
  · intro i b hi hGi
    rw [hl] at hi
    by_cases him : i = its.length
    · simp only [him, if_true] at hGi
      exact ⟨Or.inr (Or.inl hGi), nv b (hFl b hGi) fun e => hF b hGi (h3 b e)⟩
    · simp only [him, if_false] at hGi
      have := h4 i b (by omega) hGi
      exact ⟨Or.inl this.1, nv b (hH b this.1) this.2⟩
  · intro i j b hi hj hGi hGj
    rw [hl] at hi hj
    by_cases him : i = its.length <;> by_cases hjm : j = its.length
    · omega
    · simp only [him, if_true] at hGi
      simp only [hjm, if_false] at hGj
      exact absurd (h4 j b (by omega) hGj).1 (hF b hGi)
    · simp only [him, if_false] at hGi
      simp only [hjm, if_true] at hGj
      exact absurd (h4 i b (by omega) hGi).1 (hF b hGj)
    · simp only [him, if_false] at hGi
      simp only [hjm, if_false] at hGj
      exact h5 i j b (by omega) (by omega) hGi hGj

/-- What an item's number and name keep to. -/
def TmOk {n : Nat} (u : Tm n) : Prop := (-9223372036854775808 ≤ u.1 ∧ u.1 ≤ 9223372036854775807) ∧ u.2.1.size ≤ 140737488351232
def EfOk {n : Nat} (u : Ef n) : Prop := u.1.size ≤ 140737488351232

/-- A slice of items, of effects, by its cells. -/
def TIs (w : World) (n : Nat) (ia : Option Addr) (ic : Nat) (its : List (Tm n)) : Prop :=
  its.length ≤ ic ∧ ic ≤ 9223372036854775807 ∧ its.length * 104 ≤ 140737488351232 ∧ (ia = none → its.length = 0 ∧ ic = 0) ∧ (∀ ad, ia = some ad → 0 < ic → ad = ⟨ad.block, ad.off, none⟩) ∧ (∀ u ∈ its, TmOk u) ∧ LayR (shT n) w ia its
def EIs (w : World) (n : Nat) (ia : Option Addr) (ic : Nat) (its : List (Ef n)) : Prop :=
  its.length ≤ ic ∧ ic ≤ 9223372036854775807 ∧ its.length * 96 ≤ 140737488351232 ∧ (ia = none → its.length = 0 ∧ ic = 0) ∧ (∀ ad, ia = some ad → 0 < ic → ad = ⟨ad.block, ad.off, none⟩) ∧ (∀ u ∈ its, EfOk u) ∧ LayR (shE n) w ia its

theorem TIs.below {w w' : World} {n : Nat} {ia : Option Addr} {ic : Nat} {its : List (Tm n)} (h : TIs w n ia ic its) (hb : Below w.heap.size w w') : TIs w' n ia ic its := ⟨h.1, h.2.1, h.2.2.1, h.2.2.2.1, h.2.2.2.2.1, h.2.2.2.2.2.1, h.2.2.2.2.2.2.below hb⟩
theorem EIs.below {w w' : World} {n : Nat} {ia : Option Addr} {ic : Nat} {its : List (Ef n)} (h : EIs w n ia ic its) (hb : Below w.heap.size w w') : EIs w' n ia ic its := ⟨h.1, h.2.1, h.2.2.1, h.2.2.2.1, h.2.2.2.2.1, h.2.2.2.2.2.1, h.2.2.2.2.2.2.below hb⟩

/-- An item of a slice: its seven cells. -/
theorem TIs.at {w : World} {n : Nat} {ia : Option Addr} {ic : Nat} {its : List (Tm n)} (h : TIs w n ia ic its) (m : Nat) (hm : m < its.length) :
    ∃ b o k bb t ka kl kc ja jl jc, ia = some ⟨b, o, none⟩ ∧ w.cell? ⟨b, o + m * 7, none⟩ = some (.int .i64 its[m].1) ∧ w.cell? ⟨b, o + m * 7 + 1, none⟩ = some (.string its[m].2.1) ∧ w.cell? ⟨b, o + m * 7 + 2, none⟩ = some (.int .i64 k) ∧ w.cell? ⟨b, o + m * 7 + 3, none⟩ = some (.int .u64 bb) ∧ w.cell? ⟨b, o + m * 7 + 4, none⟩ = some (.string t) ∧
      w.cell? ⟨b, o + m * 7 + 5, none⟩ = some (.slice ka kl kc) ∧ w.cell? ⟨b, o + m * 7 + 6, none⟩ = some (.slice ja jl jc) ∧ Lay w n (mk k bb t ka kl kc ja jl jc) its[m].2.2 ∧ TmOk its[m] := by
  obtain ⟨b, o, c0, c1, c2, c3, c4, e, q, q0, q1, q2, q3, q4, hl⟩ := h.2.2.2.2.2.2 m its[m] (by simp [hm])
  obtain ⟨k, bb, t, ka, kl, kc, ja, jl, jc, rfl, rfl, rfl, rfl, rfl⟩ := Lay.five n hl
  exact ⟨b, o, k, bb, t, ka, kl, kc, ja, jl, jc, e, q 0 _ rfl, q 1 _ rfl, q0, q1, q2, q3, q4, hl, h.2.2.2.2.2.1 _ (List.getElem_mem hm)⟩

theorem EIs.at {w : World} {n : Nat} {ia : Option Addr} {ic : Nat} {its : List (Ef n)} (h : EIs w n ia ic its) (m : Nat) (hm : m < its.length) :
    ∃ b o k bb t ka kl kc ja jl jc, ia = some ⟨b, o, none⟩ ∧ w.cell? ⟨b, o + m * 6, none⟩ = some (.string its[m].1) ∧ w.cell? ⟨b, o + m * 6 + 1, none⟩ = some (.int .i64 k) ∧ w.cell? ⟨b, o + m * 6 + 2, none⟩ = some (.int .u64 bb) ∧ w.cell? ⟨b, o + m * 6 + 3, none⟩ = some (.string t) ∧
      w.cell? ⟨b, o + m * 6 + 4, none⟩ = some (.slice ka kl kc) ∧ w.cell? ⟨b, o + m * 6 + 5, none⟩ = some (.slice ja jl jc) ∧ Lay w n (mk k bb t ka kl kc ja jl jc) its[m].2 ∧ EfOk its[m] := by
  obtain ⟨b, o, c0, c1, c2, c3, c4, e, q, q0, q1, q2, q3, q4, hl⟩ := h.2.2.2.2.2.2 m its[m] (by simp [hm])
  obtain ⟨k, bb, t, ka, kl, kc, ja, jl, jc, rfl, rfl, rfl, rfl, rfl⟩ := Lay.five n hl
  exact ⟨b, o, k, bb, t, ka, kl, kc, ja, jl, jc, e, q 0 _ rfl, q0, q1, q2, q3, q4, hl, h.2.2.2.2.2.1 _ (List.getElem_mem hm)⟩
end Go.Proofs.Ytfdbhojghkdlkaa
