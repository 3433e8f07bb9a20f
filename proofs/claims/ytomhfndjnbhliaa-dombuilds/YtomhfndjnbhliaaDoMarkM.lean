/-
  What lies within a node, going up and going down; a node that is taken away, as mathematics; what patches keep.
-/
import Derived.Test.YtomhfndjnbhliaaDoGood
namespace Go.Proofs.Ytomhfndjnbhliaa
open Go.ChangeShapes Go.WideShapes Go.ChangeAt Go.RowKit Go.Deep
open Do

namespace Do
/-- A number lies within another (or is it), going up. -/
inductive Wi (ns : List Nd) : Int → Int → Prop
  | refl (x : Int) : Wi ns x x
  | step {x y : Int} {n : Nd} : nd ns x = some n → Wi ns n.par y → Wi ns x y

theorem Wi.trans {ns : List Nd} {x y z : Int} (h : Wi ns x y) (h' : Wi ns y z) : Wi ns x z := by
  induction h with
  | refl => exact h'
  | step h1 _ ih => exact .step h1 (ih h')

theorem Wi.of_par {ns ns' : List Nd} (hp : ∀ x, (nd ns' x).map Nd.par = (nd ns x).map Nd.par) {x y : Int} (h : Wi ns x y) : Wi ns' x y := by
  induction h with
  | refl => exact .refl _
  | @step x y n h1 _ ih =>
    have := hp x
    rw [h1] at this
    cases e : nd ns' x with
    | none => rw [e] at this; cases this
    | some m =>
      rw [e] at this
      simp only [Option.map_some, Option.some.injEq] at this
      exact .step e (by rw [this]; exact ih)

theorem Wi.inv {ns : List Nd} {x y : Int} {n : Nd} (h : Wi ns x y) (hn : nd ns x = some n) (hne : x ≠ y) : Wi ns n.par y := by
  cases h with
  | refl => exact absurd rfl hne
  | step h1 h2 => rw [hn] at h1; cases h1; exact h2

theorem Wi.zero {ns : List Nd} {y : Int} (h0 : nd ns 0 = none) (h : Wi ns 0 y) : y = 0 := by
  cases h with
  | refl => rfl
  | step h1 _ => rw [h0] at h1; cases h1

theorem wiB_iff {ns : List Nd} {y : Int} (hy : y ≠ 0) (h0 : nd ns 0 = none) : ∀ {k : Nat} {x : Int}, Out ns k x → (wiB ns y k x = true ↔ Wi ns x y)
  | 0, x, h => by
    have hx : x = 0 := h
    subst hx
    rw [wiB_end (Or.inl rfl), decide_eq_true_iff]
    exact ⟨fun e => absurd e.symm hy, fun h => (h.zero h0).symm⟩
  | k + 1, x, h => by
    by_cases he : x = 0 ∨ x = y
    · rw [wiB_end he, decide_eq_true_iff]
      constructor
      · rintro rfl; exact .refl _
      · intro hw
        rcases he with rfl | rfl
        · exact (hw.zero h0).symm
        · rfl
    · rcases h with h | ⟨q, n, h1, h2, h3⟩
      · exact absurd (Or.inl h) he
      · simp only [wiB]
        rw [if_neg he, h1]
        simp only
        rw [h2]
        simp only
        rw [wiB_iff hy h0 h3]
        have hn := at_nd h1 h2
        exact ⟨fun h => .step hn h, fun h => h.inv hn fun e => he (Or.inr e)⟩

/-- The kids of a number's node. -/
def kidsOf (ns : List Nd) (x : Int) : List Int := match nd ns x with
  | none => []
  | some n => n.kids
/-- A number, and all numbers below it, k levels at most. -/
def markL (ns : List Nd) : Nat → Int → List Int
  | 0, _ => []
  | k + 1, x => x :: (kidsOf ns x).flatMap (markL ns k)
/-- Below a number there are nodes, fewer than k levels. -/
def Down (ns : List Nd) : Nat → Int → Prop
  | 0, _ => False
  | k + 1, x => ∃ n, nd ns x = some n ∧ ∀ y ∈ n.kids, Down ns k y

theorem Down.self {ns : List Nd} {k : Nat} {x : Int} (h : Down ns k x) : x ∈ markL ns k x := by
  cases k with
  | zero => exact h.elim
  | succ k => simp [markL]

theorem kidsOf_some {ns : List Nd} {x : Int} {n : Nd} (h : nd ns x = some n) : kidsOf ns x = n.kids := by unfold kidsOf; rw [h]

theorem mark_kid {ns : List Nd} : ∀ {k : Nat} {x y z : Int}, Down ns k x → z ∈ markL ns k x → y ∈ kidsOf ns z → y ∈ markL ns k x
  | 0, _, _, _, h, _, _ => h.elim
  | k + 1, x, y, z, h, hz, hy => by
    obtain ⟨n, h1, h2⟩ := h
    simp only [markL, List.mem_cons, List.mem_flatMap] at hz ⊢
    rw [kidsOf_some h1] at hz ⊢
    rcases hz with rfl | ⟨c, hc, hz⟩
    · rw [kidsOf_some h1] at hy
      exact Or.inr ⟨y, hy, (h2 y hy).self⟩
    · exact Or.inr ⟨c, hc, mark_kid (h2 c hc) hz hy⟩

theorem mark_wi {ns : List Nd} (hk : ∀ x n, nd ns x = some n → ∀ y ∈ n.kids, ∃ m, nd ns y = some m ∧ m.par = x) : ∀ {k : Nat} {x y : Int}, y ∈ markL ns k x → Wi ns y x
  | 0, _, _, h => by simp [markL] at h
  | k + 1, x, y, h => by
    simp only [markL, List.mem_cons, List.mem_flatMap] at h
    rcases h with rfl | ⟨c, hc, h⟩
    · exact .refl _
    · have h1 := mark_wi hk h
      unfold kidsOf at hc
      cases e : nd ns x with
      | none => rw [e] at hc; simp at hc
      | some n =>
        rw [e] at hc
        obtain ⟨m, h2, h3⟩ := hk x n e c hc
        exact h1.trans (.step h2 (by rw [h3]; exact .refl _))

theorem wi_mark {ns : List Nd} {k : Nat} {x : Int} (h0 : nd ns 0 = none) (hx : x ≠ 0) (hd : Down ns k x) (hp : ∀ y m, nd ns y = some m → m.par ≠ 0 → y ≠ x → y ∈ kidsOf ns m.par) {y : Int} (h : Wi ns y x) : y ∈ markL ns k x := by
  induction h with
  | refl => exact hd.self
  | @step y x n h1 h2 ih =>
    have ih := ih hx hd hp
    by_cases hyx : y = x
    · subst hyx; exact hd.self
    · by_cases hz : n.par = 0
      · rw [hz] at h2
        exact absurd (h2.zero h0) hx
      · exact mark_kid hd ih (hp y n h1 hz hyx)

/-- What taking off makes of a node. -/
def offK (n : Nd) (x : Int) (m : Nd) : Nd := if n.par ≠ 0 ∧ x = n.par then m.withKids (lessZ m.kids n.id) else m
theorem offK_id (n : Nd) (x : Int) (m : Nd) : (offK n x m).id = m.id := by unfold offK; split <;> rfl
theorem offK_par (n : Nd) (x : Int) (m : Nd) : (offK n x m).par = m.par := by unfold offK; split <;> rfl
theorem offK_tag (n : Nd) (x : Int) (m : Nd) : (offK n x m).tag = m.tag := by unfold offK; split <;> rfl
theorem offK_kids {n : Nd} {x : Int} {m : Nd} {y : Int} : y ∈ (offK n x m).kids ↔ y ∈ m.kids ∧ ¬ (n.par ≠ 0 ∧ x = n.par ∧ y = n.id) := by
  unfold offK
  split
  · rename_i h
    simp only [Nd.withKids, lessZ, List.mem_filter]
    simp [h.1, h.2]
  · rename_i h
    constructor
    · exact fun hy => ⟨hy, fun h' => h ⟨h'.1, h'.2.1⟩⟩
    · exact fun hy => hy.1
theorem offK_nodup {n : Nd} {x : Int} {m : Nd} (h : m.kids.Nodup) : (offK n x m).kids.Nodup := by
  unfold offK
  split
  · exact h.sublist List.filter_sublist
  · exact h
theorem alone_iff {n : Nd} : aloneB n = true ↔ plainB n.tag n.key n.txt n.ats = true ∧ (n.tag.size = 0 → n.kids.length = 0) ∧ n.kids.length ≤ 32 := by
  unfold aloneB
  rw [Bool.and_eq_true]
  by_cases h1 : n.tag.size = 0
  · rw [if_pos h1, decide_eq_true_iff]
    exact ⟨fun h => ⟨h.1, fun _ => h.2, by omega⟩, fun h => ⟨h.1, h.2.1 h1⟩⟩
  · rw [if_neg h1, decide_eq_true_iff]
    exact ⟨fun h => ⟨h.1, fun h2 => absurd h2 h1, h.2⟩, fun h => ⟨h.1, h.2.2⟩⟩
theorem alone_kids {n : Nd} {ks : List Int} (h : aloneB n = true) (hl : ks.length ≤ n.kids.length) : aloneB (n.withKids ks) = true := by
  have h' := alone_iff.1 h
  refine alone_iff.2 ⟨h'.1, fun ht => ?_, ?_⟩
  · have := h'.2.1 ht
    show ks.length = 0
    omega
  · show ks.length ≤ 32
    have := h'.2.2
    omega
theorem offK_alone {n : Nd} {x : Int} {m : Nd} (h : aloneB m = true) : aloneB (offK n x m) = true := by
  unfold offK
  split
  · exact alone_kids h (List.length_filter_le _ _)
  · exact h

theorem off_up {ns : List Nd} (hu : Up ns) (n : Nd) : Up (offN ns n) := by
  unfold offN
  split
  · exact hu
  · split
    · exact hu
    · split
      · exact hu
      · rename_i q _ m hm
        exact hu.set hm rfl

theorem nd_off {ns : List Nd} (hu : Up ns) (n : Nd) (x : Int) : nd (offN ns n) x = (nd ns x).map (offK n x) := by
  have same : ∀ {x : Int}, ¬ (n.par ≠ 0 ∧ x = n.par) → (nd ns x).map (offK n x) = nd ns x := by
    intro x h
    have e : offK n x = id := by
      funext m
      unfold offK
      rw [if_neg h]
      rfl
    rw [e, Option.map_id]
    rfl
  unfold offN
  split
  · rename_i h
    rw [same (fun h' => h'.1 h)]
  · rename_i h0
    split
    · rename_i hq
      by_cases hx : x = n.par
      · rw [hx, nd_none.2 hq]
        rfl
      · rw [same (fun h' => hx h'.2)]
    · rename_i q hq
      obtain ⟨m, h1, h2⟩ := pl_some hq
      rw [h1]
      simp only
      rw [nd_set (m := m.withKids (lessZ m.kids n.id)) hu h1 rfl x, h2]
      by_cases hx : x = n.par
      · rw [if_pos hx, hx, at_nd hq h1]
        simp [offK, h0]
      · rw [if_neg hx, same (fun h' => hx h'.2)]

theorem down_off {ns : List Nd} (hu : Up ns) (n : Nd) : ∀ {k : Nat} {x : Int}, Down ns k x → Down (offN ns n) k x
  | 0, _, h => h.elim
  | k + 1, x, h => by
    obtain ⟨m, h1, h2⟩ := h
    refine ⟨offK n x m, by rw [nd_off hu, h1]; rfl, fun y hy => down_off hu n (h2 y (offK_kids.1 hy).1)⟩

/-- What holds of a number's node. -/
structure GoodAt (ns : List Nd) (x : Int) (n : Nd) : Prop where
  id : n.id = x
  pos : 1 ≤ x
  alone : aloneB n = true
  kid : ∀ y ∈ n.kids, ∃ m, nd ns y = some m ∧ m.par = x
  nodup : n.kids.Nodup
  par : n.par ≠ 0 → ∃ m, nd ns n.par = some m ∧ x ∈ m.kids
  out : ∃ k, Out ns k x

theorem Good.at {ns : List Nd} (h : Good ns) {x : Int} {n : Nd} (hx : nd ns x = some n) : GoodAt ns x n := by
  obtain ⟨h1, rfl⟩ := nd_some hx
  exact ⟨rfl, h.pos n h1, h.alone n h1, h.kid n h1, h.nodup n h1, h.par n h1, h.out n h1⟩

theorem Good.of {ns : List Nd} (hu : Up ns) (h : ∀ x n, nd ns x = some n → n.id = x → 1 ≤ x ∧ aloneB n = true ∧ (∀ y ∈ n.kids, ∃ m, nd ns y = some m ∧ m.par = x) ∧ n.kids.Nodup ∧ (n.par ≠ 0 → ∃ m, nd ns n.par = some m ∧ x ∈ m.kids) ∧ ∃ k, Out ns k x) : Good ns :=
  ⟨hu, fun n hn => (h _ n (nd_of hu hn) rfl).1, fun n hn => (h _ n (nd_of hu hn) rfl).2.1, fun n hn => (h _ n (nd_of hu hn) rfl).2.2.1, fun n hn => (h _ n (nd_of hu hn) rfl).2.2.2.1, fun n hn => (h _ n (nd_of hu hn) rfl).2.2.2.2.1, fun n hn => (h _ n (nd_of hu hn) rfl).2.2.2.2.2⟩

theorem Good.down {ns : List Nd} (h : Good ns) : ∀ {j : Nat} {x : Int} {n : Nd}, nd ns x = some n → ns.length < stp ns x + j → Down ns j x
  | 0, x, n, hx, hj => by
    obtain ⟨k, hk⟩ := (h.at hx).out
    have := stp_le (out_len hk)
    omega
  | j + 1, x, n, hx, hj => by
    refine ⟨n, hx, fun y hy => ?_⟩
    obtain ⟨m, h1, h2⟩ := (h.at hx).kid y hy
    obtain ⟨k, hk⟩ := (h.at h1).out
    obtain ⟨q, p1, p2⟩ := nd_at h1
    have h3 := (stp_next hk (by have := (h.at h1).pos; omega) p1 p2).1
    rw [h2] at h3
    exact h.down h1 (by omega)

/-- What lies within a node hangs on parents alone. -/
theorem Good.marks {ns : List Nd} (h : Good ns) {x : Int} {n : Nd} (hx : nd ns x = some n) (y : Int) : y ∈ markL (offN ns n) (ns.length + 1) x ↔ Wi ns y x := by
  have hd := down_off h.up n (h.down hx (by omega) : Down ns (ns.length + 1) x)
  have hid := (h.at hx).id
  have h0 : nd (offN ns n) 0 = none := by rw [nd_off h.up, h.zero]; rfl
  have hpar : ∀ z, (nd (offN ns n) z).map Nd.par = (nd ns z).map Nd.par := fun z => by
    rw [nd_off h.up]
    cases nd ns z with
    | none => rfl
    | some m => simp [offK_par]
  constructor
  · intro hy
    refine Wi.of_par (fun z => (hpar z).symm) (mark_wi ?_ hy)
    intro z m hz w hw
    rw [nd_off h.up] at hz
    cases e : nd ns z with
    | none => rw [e] at hz; cases hz
    | some m0 =>
      rw [e] at hz
      simp only [Option.map_some, Option.some.injEq] at hz
      subst hz
      obtain ⟨m1, q1, q2⟩ := (h.at e).kid w (offK_kids.1 hw).1
      exact ⟨offK n w m1, by rw [nd_off h.up, q1]; rfl, by rw [offK_par]; exact q2⟩
  · intro hy
    refine wi_mark h0 (by have := (h.at hx).pos; omega) hd ?_ (Wi.of_par hpar hy)
    intro z m hz hm hne
    rw [nd_off h.up] at hz
    cases e : nd ns z with
    | none => rw [e] at hz; cases hz
    | some m0 =>
      rw [e] at hz
      simp only [Option.map_some, Option.some.injEq] at hz
      subst hz
      rw [offK_par] at hm ⊢
      obtain ⟨m1, q1, q2⟩ := (h.at e).par hm
      have e2 : nd (offN ns n) m0.par = some (offK n m0.par m1) := by rw [nd_off h.up, q1]; rfl
      rw [kidsOf_some e2]
      refine offK_kids.2 ⟨q2, fun h' => ?_⟩
      rw [hid] at h'
      exact hne h'.2.2

/-- The nodes that are left. -/
def leftN (ns : List Nd) (l : List Int) : List Nd := ns.filter fun m => !(l.contains m.id)

theorem nd_left (ns : List Nd) (l : List Int) (x : Int) : nd (leftN ns l) x = if x ∈ l then none else nd ns x := by
  unfold nd leftN
  rw [List.find?_filter]
  split
  · rename_i hx
    rw [List.find?_eq_none]
    intro m _
    by_cases e : m.id = x
    · simp [e, hx]
    · simp [e]
  · rename_i hx
    congr 1
    funext m
    by_cases e : m.id = x
    · simp [e, hx]
    · simp [e]

theorem Up.sub {ns : List Nd} (h : Up ns) (p : Nd → Bool) : Up (ns.filter p) := by
  induction ns with
  | nil => exact h
  | cons n r ih =>
    have ih := ih h.tail
    rw [List.filter_cons]
    split
    · intro i j a b hij ha hb
      cases j with
      | zero => omega
      | succ j =>
        have hb : (r.filter p)[j]? = some b := by simpa using hb
        cases i with
        | zero =>
          simp only [List.getElem?_cons_zero, Option.some.injEq] at ha
          subst ha
          exact h.head (List.mem_filter.1 (List.mem_of_getElem? hb)).1
        | succ i => exact ih i j a b (by omega) (by simpa using ha) hb
    · exact ih

/-- What 3 does. -/
def awayD (s : Ds) (p : Pt) : Int × Ds := match nd s.nodes p.id with
  | none => (71, s)
  | some n => (0, ⟨leftN (offN s.nodes n) (markL (offN s.nodes n) (s.nodes.length + 1) p.id), if p.id ≠ 0 ∧ s.root ∈ markL (offN s.nodes n) (s.nodes.length + 1) p.id then 0 else s.root, s.next⟩)
end Do
end Go.Proofs.Ytomhfndjnbhliaa
