/-
  Displays that may be, by their nodes' numbers: nodes, kids and parents that fit each other, from each node up one comes out.
-/
import Derived.Test.YtcdnakcojanaeabGreatDoHang
namespace Go.Proofs.YtcdnakcojanaeabGreat
open Go.ChangeShapes Go.WideShapes Go.ChangeAt Go.RowKit Go.Deep
open Do

namespace Do
/-- The node of a number. -/
def nd (ns : List Nd) (x : Int) : Option Nd := ns.find? fun n => n.id == x

theorem nd_cons (n : Nd) (r : List Nd) (x : Int) : nd (n :: r) x = if n.id = x then some n else nd r x := by
  unfold nd
  rw [List.find?_cons]
  by_cases h : n.id = x
  · rw [if_pos h, show (n.id == x) = true by simpa using h]
  · rw [if_neg h, show (n.id == x) = false by simpa using h]

theorem nd_pl : ∀ (ns : List Nd) (x : Int), nd ns x = (pl ns x).bind fun p => ns[p]?
  | [], _ => rfl
  | n :: r, x => by
    rw [nd_cons]
    simp only [pl]
    split
    · rfl
    · rw [nd_pl r x]
      cases pl r x <;> rfl

theorem nd_some {ns : List Nd} {x : Int} {n : Nd} (h : nd ns x = some n) : n ∈ ns ∧ n.id = x := by
  unfold nd at h
  exact ⟨List.mem_of_find?_eq_some h, by simpa using List.find?_some h⟩

theorem nd_at {ns : List Nd} {x : Int} {n : Nd} (h : nd ns x = some n) : ∃ p, pl ns x = some p ∧ ns[p]? = some n := by
  rw [nd_pl] at h
  cases hp : pl ns x with
  | none => rw [hp] at h; cases h
  | some p => rw [hp] at h; exact ⟨p, rfl, h⟩

theorem at_nd {ns : List Nd} {x : Int} {p : Nat} {n : Nd} (hp : pl ns x = some p) (hn : ns[p]? = some n) : nd ns x = some n := by
  rw [nd_pl, hp]; exact hn

theorem nd_none {ns : List Nd} {x : Int} : nd ns x = none ↔ pl ns x = none := by
  rw [nd_pl]
  cases hp : pl ns x with
  | none => simp
  | some p =>
    obtain ⟨n, h1, -⟩ := pl_some hp
    simp [h1]

theorem nd_of {ns : List Nd} (hu : Up ns) {n : Nd} (hn : n ∈ ns) : nd ns n.id = some n := by
  obtain ⟨i, hi, rfl⟩ := List.getElem_of_mem hn
  have h := hu.pl_eq (List.getElem?_eq_getElem hi)
  exact at_nd h (List.getElem?_eq_getElem hi)

theorem Up.tail {n : Nd} {r : List Nd} (h : Up (n :: r)) : Up r := fun i j a b hij ha hb => h (i + 1) (j + 1) a b (by omega) (by simpa using ha) (by simpa using hb)
theorem Up.head {n : Nd} {r : List Nd} (h : Up (n :: r)) {m : Nd} (hm : m ∈ r) : n.id < m.id := by
  obtain ⟨i, hi, rfl⟩ := List.getElem_of_mem hm
  exact h 0 (i + 1) n r[i] (by omega) (by simp) (by simp [hi])

theorem nd_set : ∀ {ns : List Nd} {q : Nat} {n m : Nd}, Up ns → ns[q]? = some n → m.id = n.id → ∀ x, nd (ns.set q m) x = if x = n.id then some m else nd ns x
  | [], _, _, _, _, h, _, _ => by simp at h
  | a :: r, 0, n, m, _, h, hid, x => by
    simp only [List.getElem?_cons_zero, Option.some.injEq] at h
    subst h
    rw [List.set_cons_zero, nd_cons, nd_cons, hid]
    by_cases e : a.id = x
    · rw [if_pos e, if_pos e.symm]
    · rw [if_neg e, if_neg e, if_neg (fun h => e h.symm)]
  | a :: r, q + 1, n, m, hu, h, hid, x => by
    have h' : r[q]? = some n := by simpa using h
    rw [List.set_cons_succ, nd_cons, nd_cons, nd_set hu.tail h' hid x]
    have := hu.head (List.mem_of_getElem? h')
    by_cases e : a.id = x
    · rw [if_pos e, if_pos e, if_neg (by omega)]
    · rw [if_neg e, if_neg e]

theorem Up.set {ns : List Nd} {q : Nat} {n m : Nd} (hu : Up ns) (hq : ns[q]? = some n) (hid : m.id = n.id) : Up (ns.set q m) := by
  intro i j a b hij ha hb
  rcases get_set_cases ha with ⟨e1, e2⟩ | ⟨-, ha'⟩ <;> rcases get_set_cases hb with ⟨e3, e4⟩ | ⟨-, hb'⟩
  · omega
  · rw [e2, hid]; exact hu _ _ _ _ (e1 ▸ hij) hq hb'
  · rw [e4, hid]; exact hu _ _ _ _ (e3 ▸ hij) ha' hq
  · exact hu _ _ _ _ hij ha' hb'

theorem nodup_sub {α : Type} [DecidableEq α] : ∀ {l m : List α}, l.Nodup → (∀ x ∈ l, x ∈ m) → l.length ≤ m.length
  | [], _, _, _ => Nat.zero_le _
  | x :: l, m, h, hs => by
    have hx := hs x (by simp)
    have h1 := List.nodup_cons.1 h
    have := nodup_sub (l := l) (m := m.erase x) h1.2 (fun y hy => (List.mem_erase_of_ne (fun e => h1.1 (by rw [← e]; exact hy))).2 (hs y (by simp [hy])))
    rw [List.length_erase_of_mem hx] at this
    have : 0 < m.length := List.length_pos_of_mem hx
    simp only [List.length_cons]
    omega

/-- What holds of the nodes of a display that may be. -/
structure Good (ns : List Nd) : Prop where
  up : Up ns
  pos : ∀ n ∈ ns, 1 ≤ n.id
  alone : ∀ n ∈ ns, aloneB n = true
  kid : ∀ n ∈ ns, ∀ y ∈ n.kids, ∃ m, nd ns y = some m ∧ m.par = n.id
  nodup : ∀ n ∈ ns, n.kids.Nodup
  par : ∀ n ∈ ns, n.par ≠ 0 → ∃ m, nd ns n.par = some m ∧ n.id ∈ m.kids
  out : ∀ n ∈ ns, ∃ k, Out ns k n.id

/-- The root is none, or an element that hangs nowhere. -/
def RootOk (s : Ds) : Prop := s.root = 0 ∨ ∃ m, nd s.nodes s.root = some m ∧ ¬ m.tag.size = 0 ∧ m.par = 0

/-- A display that may be. -/
structure OkD (s : Ds) : Prop where
  good : Good s.nodes
  nx : 1 ≤ s.next ∧ s.next ≤ 2147483647
  len : s.nodes.length ≤ 1024
  below : ∀ n ∈ s.nodes, n.id < s.next
  root : RootOk s

theorem out_nd {ns : List Nd} {k : Nat} {x : Int} : Out ns (k + 1) x ↔ x = 0 ∨ ∃ n, nd ns x = some n ∧ Out ns k n.par := by
  simp only [Out]
  constructor
  · rintro (h | ⟨q, n, h1, h2, h3⟩)
    · exact Or.inl h
    · exact Or.inr ⟨n, at_nd h1 h2, h3⟩
  · rintro (h | ⟨n, h1, h3⟩)
    · exact Or.inl h
    · obtain ⟨q, h1, h2⟩ := nd_at h1
      exact Or.inr ⟨q, n, h1, h2, h3⟩

/-- From a number up: as many numbers as there are steps. -/
theorem out_path {ns : List Nd} : ∀ {k : Nat} {x : Int}, Out ns k x → stp ns x = k → ∃ l : List Int, l.length = k ∧ l.Nodup ∧ (∀ y ∈ l, y ∈ ns.map Nd.id) ∧ ∀ y ∈ l, stp ns y ≤ k
  | 0, _, _, _ => ⟨[], rfl, by simp, (fun y h => by simp at h), (fun y h => by simp at h)⟩
  | k + 1, x, h, hs => by
    rcases out_nd.1 h with h0 | ⟨n, h1, h2⟩
    · have : Out ns 0 x := h0
      have := stp_le this
      omega
    · have hle := stp_le h2
      have hz : stp ns n.par = k := by
        have h3 : Out ns (stp ns n.par + 1) x := out_nd.2 (Or.inr ⟨n, h1, stp_out h2⟩)
        have := stp_le h3
        omega
      obtain ⟨l, l1, l2, l3, l4⟩ := out_path h2 hz
      refine ⟨x :: l, by simp [l1], ?_, ?_, ?_⟩
      · refine List.nodup_cons.2 ⟨fun hx => ?_, l2⟩
        have := l4 x hx
        omega
      · intro y hy
        rcases List.mem_cons.1 hy with rfl | hy
        · have := nd_some h1
          exact List.mem_map.2 ⟨n, this.1, this.2⟩
        · exact l3 y hy
      · intro y hy
        rcases List.mem_cons.1 hy with rfl | hy
        · omega
        · have := l4 y hy; omega

theorem out_len {ns : List Nd} {k : Nat} {x : Int} (h : Out ns k x) : Out ns ns.length x := by
  obtain ⟨l, l1, l2, l3, -⟩ := out_path (stp_out h) rfl
  have := nodup_sub l2 l3
  rw [List.length_map] at this
  exact (stp_out h).mono (by omega)

theorem out_ups {ns : List Nd} (hp : ∀ n ∈ ns, n.par ≠ 0 → ∃ q, pl ns n.par = some q) (h0 : pl ns 0 = none) : ∀ (k : Nat) (x : Int), (x = 0 ∨ ∃ q, pl ns x = some q) → (ups (above ns) k (plI ns x) < 0 ↔ Out ns k x)
  | 0, x, hx => by
    simp only [ups, Out]
    rcases hx with rfl | ⟨q, hq⟩
    · simp [plI, h0]
    · have : x ≠ 0 := by rintro rfl; rw [h0] at hq; cases hq
      have e : plI ns x = (q : Int) := by unfold plI; rw [hq]
      rw [e]
      constructor
      · intro h; omega
      · intro h; exact absurd h this
  | k + 1, x, hx => by
    rcases hx with rfl | ⟨q, hq⟩
    · have e : plI ns 0 = -1 := by unfold plI; rw [h0]
      rw [e, ups_neg _ (by omega)]
      simp [Out]
    · have hx0 : x ≠ 0 := by rintro rfl; rw [h0] at hq; cases hq
      obtain ⟨n, h1, h2⟩ := pl_some hq
      have hql : q < (above ns).length := by unfold above; rw [List.length_map]; exact (List.getElem?_eq_some_iff.1 h1).1
      have e : plI ns x = (q : Int) := by unfold plI; rw [hq]
      rw [e, ups_step _ hql]
      have e2 : (above ns)[q] = plI ns n.par := by
        have hlt := (List.getElem?_eq_some_iff.1 h1).1
        have h3 : ns[q] = n := (List.getElem?_eq_some_iff.1 h1).2
        simp [above, h3]
      rw [e2]
      have hm := List.mem_of_getElem? h1
      have ih := out_ups hp h0 k n.par (by by_cases hz : n.par = 0; exact Or.inl hz; exact Or.inr (hp n hm hz))
      rw [ih]
      simp only [Out]
      constructor
      · intro h; exact Or.inr ⟨q, n, hq, h1, h⟩
      · rintro (h | ⟨q', n', h3, h4, h5⟩)
        · exact absurd h hx0
        · rw [hq] at h3; cases h3
          rw [h1] at h4; cases h4
          exact h5

theorem Good.zero {ns : List Nd} (h : Good ns) : nd ns 0 = none := by
  cases e : nd ns 0 with
  | none => rfl
  | some n =>
    have := nd_some e
    have := h.pos n this.1
    omega

theorem allOut_iff {ns : List Nd} (hu : Up ns) (hp : ∀ n ∈ ns, n.par ≠ 0 → ∃ q, pl ns n.par = some q) (h0 : pl ns 0 = none) : allOut ns = true ↔ ∀ n ∈ ns, Out ns ns.length n.id := by
  unfold allOut outB
  rw [List.all_eq_true]
  have hl : (above ns).length = ns.length := by simp [above]
  constructor
  · intro h n hn
    obtain ⟨i, hi, rfl⟩ := List.getElem_of_mem hn
    have h1 := h i (by simpa using hi)
    have hq := hu.pl_eq (List.getElem?_eq_getElem hi)
    rw [decide_eq_true_iff, hl] at h1
    rw [← out_ups hp h0 _ _ (Or.inr ⟨i, hq⟩)]
    unfold plI
    rw [hq]
    exact h1
  · intro h i hi
    have hi : i < ns.length := by simpa using hi
    have hq := hu.pl_eq (List.getElem?_eq_getElem hi)
    have h1 := h ns[i] (List.getElem_mem hi)
    rw [← out_ups hp h0 _ _ (Or.inr ⟨i, hq⟩)] at h1
    unfold plI at h1
    rw [hq] at h1
    rw [decide_eq_true_iff, hl]
    exact h1

theorem kidsB_iff {ns : List Nd} {n : Nd} : kidsB ns n = true ↔ (∀ y ∈ n.kids, ∃ m, nd ns y = some m ∧ m.par = n.id) ∧ n.kids.Nodup := by
  unfold kidsB
  rw [List.all_eq_true]
  have one : ∀ i (hi : i < n.kids.length), kidB ns n i = true ↔ (∃ m, nd ns n.kids[i] = some m ∧ m.par = n.id) ∧ ¬ n.kids[i] ∈ n.kids.take i := by
    intro i hi
    unfold kidB
    rw [List.getElem?_eq_getElem hi]
    simp only
    rw [nd_pl]
    cases hp : pl ns n.kids[i] with
    | none => simp
    | some p =>
      obtain ⟨m, h1, -⟩ := pl_some hp
      simp [h1]
  constructor
  · intro h
    refine ⟨fun y hy => ?_, ?_⟩
    · obtain ⟨i, hi, rfl⟩ := List.getElem_of_mem hy
      exact ((one i hi).1 (h i (by simpa using hi))).1
    · unfold List.Nodup
      rw [List.pairwise_iff_getElem]
      intro i j hi hj hij e
      have := ((one j hj).1 (h j (by simpa using hj))).2
      refine this ?_
      rw [← e]
      exact List.mem_take_iff_getElem.2 ⟨i, by omega, rfl⟩
  · rintro ⟨h1, h2⟩ i hi
    have hi : i < n.kids.length := by simpa using hi
    refine (one i hi).2 ⟨h1 _ (List.getElem_mem hi), fun hm => ?_⟩
    obtain ⟨j, hj, e⟩ := List.mem_take_iff_getElem.1 hm
    unfold List.Nodup at h2
    rw [List.pairwise_iff_getElem] at h2
    exact h2 j i (by omega) hi (by omega) e

theorem parB_iff {ns : List Nd} {n : Nd} : parB ns n = true ↔ (n.par ≠ 0 → ∃ m, nd ns n.par = some m ∧ n.id ∈ m.kids) := by
  unfold parB
  rw [Bool.or_eq_true, decide_eq_true_iff, nd_pl]
  by_cases h0 : n.par = 0
  · simp [h0]
  · cases hp : pl ns n.par with
    | none => simp [h0]
    | some p =>
      obtain ⟨m, h1, -⟩ := pl_some hp
      simp [h1, h0]

theorem rootB_iff {s : Ds} : rootB s = true ↔ RootOk s := by
  unfold rootB RootOk
  rw [Bool.or_eq_true, decide_eq_true_iff, nd_pl]
  cases hp : pl s.nodes s.root with
  | none => simp
  | some p =>
    obtain ⟨m, h1, -⟩ := pl_some hp
    simp [h1]

theorem okD_iff {s : Ds} : okD s = true ↔ OkD s := by
  unfold okD
  simp only [Bool.and_eq_true, decide_eq_true_iff]
  constructor
  · rintro ⟨⟨⟨⟨⟨⟨h1, h2⟩, h3⟩, h4⟩, h5⟩, h6⟩, h7⟩
    obtain ⟨i1, i2, -⟩ := idsB_all h4
    have hfit : ∀ n ∈ s.nodes, (aloneB n = true ∧ kidsB s.nodes n = true) ∧ parB s.nodes n = true := by
      intro n hn
      have := List.all_eq_true.1 h5 n hn
      unfold fitB at this
      simpa only [Bool.and_eq_true] using this
    have hpos : ∀ n ∈ s.nodes, 0 < n.id ∧ n.id < s.next := by
      intro n hn
      obtain ⟨i, hi, rfl⟩ := List.getElem_of_mem hn
      exact i1 i _ (List.getElem?_eq_getElem hi)
    have h0 : pl s.nodes 0 = none := by
      cases e : pl s.nodes 0 with
      | none => rfl
      | some q =>
        obtain ⟨m, q1, q2⟩ := pl_some e
        have := hpos m (List.mem_of_getElem? q1)
        omega
    have hpar : ∀ n ∈ s.nodes, n.par ≠ 0 → ∃ m, nd s.nodes n.par = some m ∧ n.id ∈ m.kids := fun n hn => parB_iff.1 (hfit n hn).2
    have ho := (allOut_iff i2 (fun n hn hz => by obtain ⟨m, q1, -⟩ := hpar n hn hz; obtain ⟨p, q2, -⟩ := nd_at q1; exact ⟨p, q2⟩) h0).1 h6
    exact ⟨⟨i2, fun n hn => by have := hpos n hn; omega, fun n hn => (hfit n hn).1.1, fun n hn => (kidsB_iff.1 (hfit n hn).1.2).1, fun n hn => (kidsB_iff.1 (hfit n hn).1.2).2, hpar, fun n hn => ⟨_, ho n hn⟩⟩, ⟨h1, h2⟩, h3, fun n hn => (hpos n hn).2, rootB_iff.1 h7⟩
  · rintro ⟨g, h1, h2, h3, h4⟩
    have h0 : pl s.nodes 0 = none := nd_none.1 g.zero
    refine ⟨⟨⟨⟨⟨⟨h1.1, h1.2⟩, h2⟩, ?_⟩, ?_⟩, ?_⟩, rootB_iff.2 h4⟩
    · refine idsB_of (by omega) (fun i n hn => ?_) g.up
      have hm := List.mem_of_getElem? hn
      have := g.pos n hm
      have := h3 n hm
      omega
    · rw [List.all_eq_true]
      intro n hn
      unfold fitB
      simp only [Bool.and_eq_true]
      exact ⟨⟨g.alone n hn, kidsB_iff.2 ⟨g.kid n hn, g.nodup n hn⟩⟩, parB_iff.2 (g.par n hn)⟩
    · refine (allOut_iff g.up (fun n hn hz => by obtain ⟨m, q1, -⟩ := g.par n hn hz; obtain ⟨p, q2, -⟩ := nd_at q1; exact ⟨p, q2⟩) h0).2 fun n hn => ?_
      obtain ⟨k, hk⟩ := g.out n hn
      exact out_len hk
end Do
end Go.Proofs.YtcdnakcojanaeabGreat

/-
  What lies within a node, going up and going down; a node that is taken away, as mathematics; what patches keep.
-/
namespace Go.Proofs.YtcdnakcojanaeabGreat
open Go.ChangeShapes Go.WideShapes Go.ChangeAt Go.RowKit Go.Deep
open Do

namespace Do
/-- A number lies within another (or is it), going up. -/
inductive Wi (ns : List Nd) : Int → Int → Prop
  | refl (x : Int) : Wi ns x x
  | step {x y : Int} {n : Nd} : nd ns x = some n → Wi ns n.par y → Wi ns x y

theorem Wi.trans {ns : List Nd} {x y z : Int} (h : Wi ns x y) (h' : Wi ns y z) : Wi ns x z := by
  induction h with
  | refl => exact h'
  | step h1 _ ih => exact .step h1 (ih h')

theorem Wi.of_par {ns ns' : List Nd} (hp : ∀ x, (nd ns' x).map Nd.par = (nd ns x).map Nd.par) {x y : Int} (h : Wi ns x y) : Wi ns' x y := by
  induction h with
  | refl => exact .refl _
  | @step x y n h1 _ ih =>
    have := hp x
    rw [h1] at this
    cases e : nd ns' x with
    | none => rw [e] at this; cases this
    | some m =>
      rw [e] at this
      simp only [Option.map_some, Option.some.injEq] at this
      exact .step e (by rw [this]; exact ih)

theorem Wi.inv {ns : List Nd} {x y : Int} {n : Nd} (h : Wi ns x y) (hn : nd ns x = some n) (hne : x ≠ y) : Wi ns n.par y := by
  cases h with
  | refl => exact absurd rfl hne
  | step h1 h2 => rw [hn] at h1; cases h1; exact h2

theorem Wi.zero {ns : List Nd} {y : Int} (h0 : nd ns 0 = none) (h : Wi ns 0 y) : y = 0 := by
  cases h with
  | refl => rfl
  | step h1 _ => rw [h0] at h1; cases h1

theorem wiB_iff {ns : List Nd} {y : Int} (hy : y ≠ 0) (h0 : nd ns 0 = none) : ∀ {k : Nat} {x : Int}, Out ns k x → (wiB ns y k x = true ↔ Wi ns x y)
  | 0, x, h => by
    have hx : x = 0 := h
    subst hx
    rw [wiB_end (Or.inl rfl), decide_eq_true_iff]
    exact ⟨fun e => absurd e.symm hy, fun h => (h.zero h0).symm⟩
  | k + 1, x, h => by
    by_cases he : x = 0 ∨ x = y
    · rw [wiB_end he, decide_eq_true_iff]
      constructor
      · rintro rfl; exact .refl _
      · intro hw
        rcases he with rfl | rfl
        · exact (hw.zero h0).symm
        · rfl
    · rcases h with h | ⟨q, n, h1, h2, h3⟩
      · exact absurd (Or.inl h) he
      · simp only [wiB]
        rw [if_neg he, h1]
        simp only
        rw [h2]
        simp only
        rw [wiB_iff hy h0 h3]
        have hn := at_nd h1 h2
        exact ⟨fun h => .step hn h, fun h => h.inv hn fun e => he (Or.inr e)⟩

/-- The kids of a number's node. -/
def kidsOf (ns : List Nd) (x : Int) : List Int := match nd ns x with
  | none => []
  | some n => n.kids
/-- A number, and all numbers below it, k levels at most. -/
def markL (ns : List Nd) : Nat → Int → List Int
  | 0, _ => []
  | k + 1, x => x :: (kidsOf ns x).flatMap (markL ns k)
/-- Below a number there are nodes, fewer than k levels. -/
def Down (ns : List Nd) : Nat → Int → Prop
  | 0, _ => False
  | k + 1, x => ∃ n, nd ns x = some n ∧ ∀ y ∈ n.kids, Down ns k y

theorem Down.self {ns : List Nd} {k : Nat} {x : Int} (h : Down ns k x) : x ∈ markL ns k x := by
  cases k with
  | zero => exact h.elim
  | succ k => simp [markL]

theorem kidsOf_some {ns : List Nd} {x : Int} {n : Nd} (h : nd ns x = some n) : kidsOf ns x = n.kids := by unfold kidsOf; rw [h]

theorem mark_kid {ns : List Nd} : ∀ {k : Nat} {x y z : Int}, Down ns k x → z ∈ markL ns k x → y ∈ kidsOf ns z → y ∈ markL ns k x
  | 0, _, _, _, h, _, _ => h.elim
  | k + 1, x, y, z, h, hz, hy => by
    obtain ⟨n, h1, h2⟩ := h
    simp only [markL, List.mem_cons, List.mem_flatMap] at hz ⊢
    rw [kidsOf_some h1] at hz ⊢
    rcases hz with rfl | ⟨c, hc, hz⟩
    · rw [kidsOf_some h1] at hy
      exact Or.inr ⟨y, hy, (h2 y hy).self⟩
    · exact Or.inr ⟨c, hc, mark_kid (h2 c hc) hz hy⟩

theorem mark_wi {ns : List Nd} (hk : ∀ x n, nd ns x = some n → ∀ y ∈ n.kids, ∃ m, nd ns y = some m ∧ m.par = x) : ∀ {k : Nat} {x y : Int}, y ∈ markL ns k x → Wi ns y x
  | 0, _, _, h => by simp [markL] at h
  | k + 1, x, y, h => by
    simp only [markL, List.mem_cons, List.mem_flatMap] at h
    rcases h with rfl | ⟨c, hc, h⟩
    · exact .refl _
    · have h1 := mark_wi hk h
      unfold kidsOf at hc
      cases e : nd ns x with
      | none => rw [e] at hc; simp at hc
      | some n =>
        rw [e] at hc
        obtain ⟨m, h2, h3⟩ := hk x n e c hc
        exact h1.trans (.step h2 (by rw [h3]; exact .refl _))

theorem wi_mark {ns : List Nd} {k : Nat} {x : Int} (h0 : nd ns 0 = none) (hx : x ≠ 0) (hd : Down ns k x) (hp : ∀ y m, nd ns y = some m → m.par ≠ 0 → y ≠ x → y ∈ kidsOf ns m.par) {y : Int} (h : Wi ns y x) : y ∈ markL ns k x := by
  induction h with
  | refl => exact hd.self
  | @step y x n h1 h2 ih =>
    have ih := ih hx hd hp
    by_cases hyx : y = x
    · subst hyx; exact hd.self
    · by_cases hz : n.par = 0
      · rw [hz] at h2
        exact absurd (h2.zero h0) hx
      · exact mark_kid hd ih (hp y n h1 hz hyx)

/-- What taking off makes of a node. -/
def offK (n : Nd) (x : Int) (m : Nd) : Nd := if n.par ≠ 0 ∧ x = n.par then m.withKids (lessZ m.kids n.id) else m
theorem offK_id (n : Nd) (x : Int) (m : Nd) : (offK n x m).id = m.id := by unfold offK; split <;> rfl
theorem offK_par (n : Nd) (x : Int) (m : Nd) : (offK n x m).par = m.par := by unfold offK; split <;> rfl
theorem offK_tag (n : Nd) (x : Int) (m : Nd) : (offK n x m).tag = m.tag := by unfold offK; split <;> rfl
theorem offK_kids {n : Nd} {x : Int} {m : Nd} {y : Int} : y ∈ (offK n x m).kids ↔ y ∈ m.kids ∧ ¬ (n.par ≠ 0 ∧ x = n.par ∧ y = n.id) := by
  unfold offK
  split
  · rename_i h
    simp only [Nd.withKids, lessZ, List.mem_filter]
    simp [h.1, h.2]
  · rename_i h
    constructor
    · exact fun hy => ⟨hy, fun h' => h ⟨h'.1, h'.2.1⟩⟩
    · exact fun hy => hy.1
theorem offK_nodup {n : Nd} {x : Int} {m : Nd} (h : m.kids.Nodup) : (offK n x m).kids.Nodup := by
  unfold offK
  split
  · exact h.sublist List.filter_sublist
  · exact h
theorem alone_iff {n : Nd} : aloneB n = true ↔ plainB n.tag n.key n.txt n.ats = true ∧ (n.tag.size = 0 → n.kids.length = 0) ∧ n.kids.length ≤ 32 := by
  unfold aloneB
  rw [Bool.and_eq_true]
  by_cases h1 : n.tag.size = 0
  · rw [if_pos h1, decide_eq_true_iff]
    exact ⟨fun h => ⟨h.1, fun _ => h.2, by omega⟩, fun h => ⟨h.1, h.2.1 h1⟩⟩
  · rw [if_neg h1, decide_eq_true_iff]
    exact ⟨fun h => ⟨h.1, fun h2 => absurd h2 h1, h.2⟩, fun h => ⟨h.1, h.2.2⟩⟩
theorem alone_kids {n : Nd} {ks : List Int} (h : aloneB n = true) (hl : ks.length ≤ n.kids.length) : aloneB (n.withKids ks) = true := by
  have h' := alone_iff.1 h
  refine alone_iff.2 ⟨h'.1, fun ht => ?_, ?_⟩
  · have := h'.2.1 ht
    show ks.length = 0
    omega
  · show ks.length ≤ 32
    have := h'.2.2
    omega
theorem offK_alone {n : Nd} {x : Int} {m : Nd} (h : aloneB m = true) : aloneB (offK n x m) = true := by
  unfold offK
  split
  · exact alone_kids h (List.length_filter_le _ _)
  · exact h

theorem off_up {ns : List Nd} (hu : Up ns) (n : Nd) : Up (offN ns n) := by
  unfold offN
  split
  · exact hu
  · split
    · exact hu
    · split
      · exact hu
      · rename_i q _ m hm
        exact hu.set hm rfl

theorem nd_off {ns : List Nd} (hu : Up ns) (n : Nd) (x : Int) : nd (offN ns n) x = (nd ns x).map (offK n x) := by
  have same : ∀ {x : Int}, ¬ (n.par ≠ 0 ∧ x = n.par) → (nd ns x).map (offK n x) = nd ns x := by
    intro x h
    have e : offK n x = id := by
      funext m
      unfold offK
      rw [if_neg h]
      rfl
    rw [e, Option.map_id]
    rfl
  unfold offN
  split
  · rename_i h
    rw [same (fun h' => h'.1 h)]
  · rename_i h0
    split
    · rename_i hq
      by_cases hx : x = n.par
      · rw [hx, nd_none.2 hq]
        rfl
      · rw [same (fun h' => hx h'.2)]
    · rename_i q hq
      obtain ⟨m, h1, h2⟩ := pl_some hq
      rw [h1]
      simp only
      rw [nd_set (m := m.withKids (lessZ m.kids n.id)) hu h1 rfl x, h2]
      by_cases hx : x = n.par
      · rw [if_pos hx, hx, at_nd hq h1]
        simp [offK, h0]
      · rw [if_neg hx, same (fun h' => hx h'.2)]

theorem down_off {ns : List Nd} (hu : Up ns) (n : Nd) : ∀ {k : Nat} {x : Int}, Down ns k x → Down (offN ns n) k x
  | 0, _, h => h.elim
  | k + 1, x, h => by
    obtain ⟨m, h1, h2⟩ := h
    refine ⟨offK n x m, by rw [nd_off hu, h1]; rfl, fun y hy => down_off hu n (h2 y (offK_kids.1 hy).1)⟩

/-- What holds of a number's node. -/
structure GoodAt (ns : List Nd) (x : Int) (n : Nd) : Prop where
  id : n.id = x
  pos : 1 ≤ x
  alone : aloneB n = true
  kid : ∀ y ∈ n.kids, ∃ m, nd ns y = some m ∧ m.par = x
  nodup : n.kids.Nodup
  par : n.par ≠ 0 → ∃ m, nd ns n.par = some m ∧ x ∈ m.kids
  out : ∃ k, Out ns k x

theorem Good.at {ns : List Nd} (h : Good ns) {x : Int} {n : Nd} (hx : nd ns x = some n) : GoodAt ns x n := by
  obtain ⟨h1, rfl⟩ := nd_some hx
  exact ⟨rfl, h.pos n h1, h.alone n h1, h.kid n h1, h.nodup n h1, h.par n h1, h.out n h1⟩

theorem Good.of {ns : List Nd} (hu : Up ns) (h : ∀ x n, nd ns x = some n → n.id = x → 1 ≤ x ∧ aloneB n = true ∧ (∀ y ∈ n.kids, ∃ m, nd ns y = some m ∧ m.par = x) ∧ n.kids.Nodup ∧ (n.par ≠ 0 → ∃ m, nd ns n.par = some m ∧ x ∈ m.kids) ∧ ∃ k, Out ns k x) : Good ns :=
  ⟨hu, fun n hn => (h _ n (nd_of hu hn) rfl).1, fun n hn => (h _ n (nd_of hu hn) rfl).2.1, fun n hn => (h _ n (nd_of hu hn) rfl).2.2.1, fun n hn => (h _ n (nd_of hu hn) rfl).2.2.2.1, fun n hn => (h _ n (nd_of hu hn) rfl).2.2.2.2.1, fun n hn => (h _ n (nd_of hu hn) rfl).2.2.2.2.2⟩

theorem Good.down {ns : List Nd} (h : Good ns) : ∀ {j : Nat} {x : Int} {n : Nd}, nd ns x = some n → ns.length < stp ns x + j → Down ns j x
  | 0, x, n, hx, hj => by
    obtain ⟨k, hk⟩ := (h.at hx).out
    have := stp_le (out_len hk)
    omega
  | j + 1, x, n, hx, hj => by
    refine ⟨n, hx, fun y hy => ?_⟩
    obtain ⟨m, h1, h2⟩ := (h.at hx).kid y hy
    obtain ⟨k, hk⟩ := (h.at h1).out
    obtain ⟨q, p1, p2⟩ := nd_at h1
    have h3 := (stp_next hk (by have := (h.at h1).pos; omega) p1 p2).1
    rw [h2] at h3
    exact h.down h1 (by omega)

/-- What lies within a node hangs on parents alone. -/
theorem Good.marks {ns : List Nd} (h : Good ns) {x : Int} {n : Nd} (hx : nd ns x = some n) (y : Int) : y ∈ markL (offN ns n) (ns.length + 1) x ↔ Wi ns y x := by
  have hd := down_off h.up n (h.down hx (by omega) : Down ns (ns.length + 1) x)
  have hid := (h.at hx).id
  have h0 : nd (offN ns n) 0 = none := by rw [nd_off h.up, h.zero]; rfl
  have hpar : ∀ z, (nd (offN ns n) z).map Nd.par = (nd ns z).map Nd.par := fun z => by
    rw [nd_off h.up]
    cases nd ns z with
    | none => rfl
    | some m => simp [offK_par]
  constructor
  · intro hy
    refine Wi.of_par (fun z => (hpar z).symm) (mark_wi ?_ hy)
    intro z m hz w hw
    rw [nd_off h.up] at hz
    cases e : nd ns z with
    | none => rw [e] at hz; cases hz
    | some m0 =>
      rw [e] at hz
      simp only [Option.map_some, Option.some.injEq] at hz
      subst hz
      obtain ⟨m1, q1, q2⟩ := (h.at e).kid w (offK_kids.1 hw).1
      exact ⟨offK n w m1, by rw [nd_off h.up, q1]; rfl, by rw [offK_par]; exact q2⟩
  · intro hy
    refine wi_mark h0 (by have := (h.at hx).pos; omega) hd ?_ (Wi.of_par hpar hy)
    intro z m hz hm hne
    rw [nd_off h.up] at hz
    cases e : nd ns z with
    | none => rw [e] at hz; cases hz
    | some m0 =>
      rw [e] at hz
      simp only [Option.map_some, Option.some.injEq] at hz
      subst hz
      rw [offK_par] at hm ⊢
      obtain ⟨m1, q1, q2⟩ := (h.at e).par hm
      have e2 : nd (offN ns n) m0.par = some (offK n m0.par m1) := by rw [nd_off h.up, q1]; rfl
      rw [kidsOf_some e2]
      refine offK_kids.2 ⟨q2, fun h' => ?_⟩
      rw [hid] at h'
      exact hne h'.2.2

/-- The nodes that are left. -/
def leftN (ns : List Nd) (l : List Int) : List Nd := ns.filter fun m => !(l.contains m.id)

theorem nd_left (ns : List Nd) (l : List Int) (x : Int) : nd (leftN ns l) x = if x ∈ l then none else nd ns x := by
  unfold nd leftN
  rw [List.find?_filter]
  split
  · rename_i hx
    rw [List.find?_eq_none]
    intro m _
    by_cases e : m.id = x
    · simp [e, hx]
    · simp [e]
  · rename_i hx
    congr 1
    funext m
    by_cases e : m.id = x
    · simp [e, hx]
    · simp [e]

theorem Up.sub {ns : List Nd} (h : Up ns) (p : Nd → Bool) : Up (ns.filter p) := by
  induction ns with
  | nil => exact h
  | cons n r ih =>
    have ih := ih h.tail
    rw [List.filter_cons]
    split
    · intro i j a b hij ha hb
      cases j with
      | zero => omega
      | succ j =>
        have hb : (r.filter p)[j]? = some b := by simpa using hb
        cases i with
        | zero =>
          simp only [List.getElem?_cons_zero, Option.some.injEq] at ha
          subst ha
          exact h.head (List.mem_filter.1 (List.mem_of_getElem? hb)).1
        | succ i => exact ih i j a b (by omega) (by simpa using ha) hb
    · exact ih

/-- What 3 does. -/
def awayD (s : Ds) (p : Pt) : Int × Ds := match nd s.nodes p.id with
  | none => (71, s)
  | some n => (0, ⟨leftN (offN s.nodes n) (markL (offN s.nodes n) (s.nodes.length + 1) p.id), if p.id ≠ 0 ∧ s.root ∈ markL (offN s.nodes n) (s.nodes.length + 1) p.id then 0 else s.root, s.next⟩)
end Do
end Go.Proofs.YtcdnakcojanaeabGreat
