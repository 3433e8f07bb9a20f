/-
  DomBack's mathematics: a node that is hung elsewhere, and hung back where it was.
-/
import Derived.Test.YtcdnakcojanaeabGreatDoPlaceJ
import Derived.Test.YtcdnakcojanaeabGreatRgStoreM
namespace Go.Proofs.YtcdnakcojanaeabGreat
open Go.ChangeShapes Go.WideShapes Go.ChangeAt Go.RowKit Go.Deep
open Do

namespace Do
/-- Nodes whose numbers rise are told by what is found under each number. -/
theorem up_ext : ∀ {a b : List Nd}, Up a → Up b → (∀ x, nd a x = nd b x) → a = b
  | [], [], _, _, _ => rfl
  | [], m :: r, _, _, h => by
    have := h m.id
    rw [nd_cons, if_pos rfl] at this
    simp [nd] at this
  | n :: r, [], _, _, h => by
    have := h n.id
    rw [nd_cons, if_pos rfl] at this
    simp [nd] at this
  | n :: r, m :: r', ha, hb, h => by
    have h1 := h n.id
    rw [nd_cons, if_pos rfl] at h1
    have h2 := h m.id
    rw [nd_cons (x := m.id) (n := m), if_pos rfl] at h2
    have f1 := (nd_some h1.symm).1
    have f2 := (nd_some h2).1
    have e : n.id = m.id := by
      rcases List.mem_cons.1 f1 with rfl | f1
      · rfl
      · rcases List.mem_cons.1 f2 with rfl | f2
        · rfl
        · have := hb.head f1
          have := ha.head f2
          omega
    have enm : n = m := by
      rw [nd_cons, if_pos e.symm] at h1
      exact Option.some.inj h1
    subst enm
    rw [up_ext ha.tail hb.tail fun x => ?_]
    by_cases hx : n.id = x
    · subst hx
      have g : ∀ {l : List Nd}, Up (n :: l) → nd l n.id = none := by
        intro l hl
        cases q : nd l n.id with
        | none => rfl
        | some y =>
          obtain ⟨y1, y2⟩ := nd_some q
          have := hl.head y1
          omega
      rw [g ha, g hb]
    · have := h x
      rwa [nd_cons, nd_cons, if_neg hx, if_neg hx] at this

theorem lessZ_not {l : List Int} {x : Int} (h : ¬ x ∈ l) : lessZ l x = l := by
  unfold lessZ
  rw [List.filter_eq_self]
  intro y hy
  have : y ≠ x := fun e => h (by rw [← e]; exact hy)
  simpa using this

theorem lessZ_ins {l : List Int} {i : Nat} {x : Int} (h : ¬ x ∈ l) : lessZ (insZ l i x) x = l := by
  have h1 : lessZ (l.take i) x = l.take i := lessZ_not fun h' => h (List.mem_of_mem_take h')
  have h2 : lessZ (l.drop i) x = l.drop i := lessZ_not fun h' => h (List.mem_of_mem_drop h')
  unfold lessZ at h1 h2 ⊢
  unfold insZ
  rw [List.filter_append, List.filter_append, h1, h2]
  simp

theorem lessZ_self {l : List Int} {x : Int} : ¬ x ∈ lessZ l x := fun h => (mem_lessZ.1 h).2 rfl

theorem lessZ_split : ∀ {ks : List Int} {i : Nat} {x : Int}, ks.Nodup → ks[i]? = some x → insZ (lessZ ks x) i x = ks ∧ (lessZ ks x).length + 1 = ks.length ∧ i ≤ (lessZ ks x).length
  | [], _, _, _, h => by simp at h
  | k :: r, 0, x, hd, h => by
    simp only [List.getElem?_cons_zero, Option.some.injEq] at h
    subst h
    have e : lessZ (k :: r) k = r := by
      have := lessZ_not (List.nodup_cons.1 hd).1
      unfold lessZ at this ⊢
      rw [List.filter_cons]
      simpa using this
    rw [e]
    simp [insZ]
  | k :: r, i + 1, x, hd, h => by
    have h' : r[i]? = some x := by simpa using h
    have hne : k ≠ x := fun e => (List.nodup_cons.1 hd).1 (by rw [e]; exact List.mem_of_getElem? h')
    obtain ⟨h1, h2, h3⟩ := lessZ_split (List.nodup_cons.1 hd).2 h'
    have e : lessZ (k :: r) x = k :: lessZ r x := by
      unfold lessZ
      rw [List.filter_cons]
      simp [hne]
    rw [e]
    refine ⟨?_, by simp; omega, by simp; omega⟩
    unfold insZ at h1 ⊢
    simp only [List.take_succ_cons, List.drop_succ_cons, List.cons_append]
    rw [h1]

/-- What is known of a patch 2 that is done. -/
structure Hung (s : Ds) (p : Pt) (n m : Nd) (q t : Nat) : Prop where
  pi : pl s.nodes p.id = some q
  pp : pl s.nodes p.par = some t
  hn : s.nodes[q]? = some n
  hm : s.nodes[t]? = some m
  tag : ¬ m.tag.size = 0
  wi : ¬ Wi s.nodes p.par p.id
  root : p.id ≠ s.root
  lo : 0 ≤ p.at_
  hi : p.at_ ≤ (lessZ m.kids p.id).length
  few : (lessZ m.kids p.id).length ≠ 32

theorem wiB_wi {s : Ds} (h : OkD s) {p : Pt} {n m : Nd} (hn : nd s.nodes p.id = some n) (hm : nd s.nodes p.par = some m) : wiB s.nodes p.id (s.nodes.length + 1) p.par = true ↔ Wi s.nodes p.par p.id := by
  have am := h.good.at hm
  have an := h.good.at hn
  have hpi : p.id ≠ 0 := by have := an.pos; omega
  obtain ⟨k, hk⟩ := am.out
  exact wiB_iff hpi h.good.zero ((out_len hk).mono (by omega))

theorem hang_zero {s : Ds} (h : OkD s) {p : Pt} (h0 : (hangD s p).1 = 0) : ∃ n m q t, Hung s p n m q t ∧ (hangD s p).2 = ⟨hungN s.nodes n m q t p, s.root, s.next⟩ := by
  unfold hangD at h0 ⊢
  split at h0
  · rename_i q t hq ht
    split at h0
    · rename_i n m hn hm
      simp only at h0 ⊢
      refine ⟨n, m, q, t, ?_, by rw [if_pos h0]⟩
      unfold hangE at h0
      by_cases h1 : m.tag.size = 0
      · rw [if_pos h1] at h0; omega
      · rw [if_neg h1] at h0
        by_cases h2 : wiB s.nodes p.id (s.nodes.length + 1) p.par = true
        · rw [if_pos h2] at h0; omega
        · rw [if_neg h2] at h0
          by_cases h3 : p.id = s.root
          · rw [if_pos h3] at h0; omega
          · rw [if_neg h3] at h0
            by_cases h4 : p.at_ < 0 ∨ (lessZ m.kids p.id).length < p.at_
            · rw [if_pos h4] at h0; omega
            · rw [if_neg h4] at h0
              by_cases h5 : (lessZ m.kids p.id).length = 32
              · rw [if_pos h5] at h0; omega
              · exact ⟨hq, ht, hn, hm, h1, fun hw => h2 ((wiB_wi h (at_nd hq hn) (at_nd ht hm)).2 hw), h3, by omega, by omega, h5⟩
    · omega
  · omega

theorem hang_make {s : Ds} (h : OkD s) {p : Pt} {n m : Nd} {q t : Nat} (g : Hung s p n m q t) : hangD s p = (0, ⟨hungN s.nodes n m q t p, s.root, s.next⟩) := by
  have e : hangE s.nodes s.root m p = 0 := by
    unfold hangE
    have := g.lo
    have := g.hi
    rw [if_neg g.tag, if_neg (fun hw => g.wi ((wiB_wi h (at_nd g.pi g.hn) (at_nd g.pp g.hm)).1 hw)), if_neg g.root, if_neg (by omega), if_neg g.few]
  unfold hangD
  rw [g.pi, g.pp]
  simp only [g.hn, g.hm]
  rw [e, if_pos rfl]

theorem Wi.but {ns ns' : List Nd} {x y : Int} (hp : ∀ z n', z ≠ y → nd ns' z = some n' → ∃ n, nd ns z = some n ∧ n.par = n'.par) (h : Wi ns' x y) : Wi ns x y := by
  induction h with
  | refl => exact .refl _
  | @step u v n' h1 _ ih =>
    by_cases e : u = v
    · subst e; exact .refl _
    · obtain ⟨n, e1, e2⟩ := hp u n' e h1
      exact .step e1 (by rw [e2]; exact ih hp)

theorem withPar_back (n : Nd) (x : Int) : (n.withPar x).withPar n.par = n := rfl

theorem withKids_self (n : Nd) {ks : List Int} (h : ks = n.kids) : n.withKids ks = n := by subst h; rfl

/-- Hung elsewhere and back. -/
theorem hang_back {s : Ds} (h : OkD s) {p p' : Pt} {n g : Nd} {place : Nat} (hn0 : nd s.nodes p.id = some n) (hpar : n.par ≠ 0) (hg : nd s.nodes n.par = some g) (hpl : g.kids[place]? = some p.id) (h0 : (hangD s p).1 = 0)
    (e1 : p'.id = p.id) (e2 : p'.par = n.par) (e3 : p'.at_ = (place : Int)) : hangD (hangD s p).2 p' = (0, s) := by
  obtain ⟨n1, m, q, t, H, hR⟩ := hang_zero h h0
  have hok : OkD (hangD s p).2 := (hang_ok h p).1
  rw [hR] at hok ⊢
  have en : n1 = n := by
    have := at_nd H.pi H.hn
    rw [hn0] at this
    exact (Option.some.inj this).symm
  subst en
  have hm := at_nd H.pp H.hm
  have hne : p.par ≠ p.id := fun e => H.wi (by rw [e]; exact .refl _)
  obtain ⟨hu, hnd⟩ := nd_hung h.good H.pi H.hn H.pp H.hm hne
  have ag := h.good.at hg
  have an := h.good.at hn0
  have hgi : n1.par ≠ p.id := h.good.noself hn0
  obtain ⟨s1, s2, s3⟩ := lessZ_split ag.nodup hpl
  have hg32 := (alone_iff.1 ag.alone).2.2
  have htag : ¬ g.tag.size = 0 := fun e => by
    have := (alone_iff.1 ag.alone).2.1 e
    omega
  generalize hN : hungN s.nodes n1 m q t p = N at *
  -- the node hung, its home, in the display between
  have i1 : nd N p'.id = some (n1.withPar p.par) := by rw [e1, hnd, if_pos rfl]
  obtain ⟨G, i2, i3, i4⟩ : ∃ G, nd N p'.par = some G ∧ lessZ G.kids p.id = lessZ g.kids p.id ∧ G.tag = g.tag ∧ (∀ ks, G.withKids ks = g.withKids ks) := by
    rw [e2, hnd, if_neg hgi]
    by_cases e : n1.par = p.par
    · rw [if_pos e]
      rw [e, hm] at hg
      cases hg
      exact ⟨_, rfl, lessZ_ins lessZ_self, rfl, fun _ => rfl⟩
    · rw [if_neg e, hg]
      refine ⟨_, rfl, ?_, offK_tag _ _ _, fun ks => ?_⟩
      · unfold offK
        rw [if_pos ⟨hpar, rfl⟩, an.id]
        exact lessZ_not lessZ_self
      · unfold offK
        rw [if_pos ⟨hpar, rfl⟩]
        rfl
  obtain ⟨Q, j1, j2⟩ := nd_at i1
  obtain ⟨T, j3, j4⟩ := nd_at i2
  have hwi : ¬ Wi N p'.par p'.id := by
    rw [e1, e2]
    intro hw
    have hw' : Wi s.nodes n1.par p.id := Wi.but (fun z z' hz hz' => by
      rw [hnd, if_neg hz] at hz'
      by_cases e : z = p.par
      · rw [if_pos e] at hz'
        cases hz'
        exact ⟨m, by rw [e]; exact hm, rfl⟩
      · rw [if_neg e] at hz'
        cases e4 : nd s.nodes z with
        | none => rw [e4] at hz'; cases hz'
        | some y =>
          rw [e4] at hz'
          cases hz'
          exact ⟨y, rfl, (offK_par _ _ _).symm⟩) hw
    obtain ⟨k, hk⟩ := (h.good.at hn0).out
    obtain ⟨z, z1, z2⟩ := nd_at hn0
    have l1 := (stp_next hk (by have := an.pos; omega) z1 z2).1
    have l2 := h.good.stp_wi hw'
    omega
  have H' : Hung ⟨N, s.root, s.next⟩ p' (n1.withPar p.par) G Q T := ⟨j1, j3, j2, j4, by rw [i4.1]; exact htag, hwi, by rw [e1]; exact H.root, by rw [e3]; omega, by rw [e1, i3, e3]; omega, by rw [e1, i3]; omega⟩
  rw [hang_make hok H']
  have hok2 := (hang_ok hok p').1
  have hne' : p'.par ≠ p'.id := by rw [e1, e2]; exact hgi
  obtain ⟨hu2, hnd2⟩ := nd_hung hok.good H'.pi H'.hn H'.pp H'.hm hne'
  have : hungN N (n1.withPar p.par) G Q T p' = s.nodes := by
    refine up_ext hu2 h.good.up fun x => ?_
    rw [hnd2, e1, e2, e3, i3]
    simp only [Int.toNat_natCast]
    by_cases x1 : x = p.id
    · rw [if_pos x1, x1, hn0]; rfl
    · rw [if_neg x1]
      by_cases x2 : x = n1.par
      · rw [if_pos x2, x2, hg, s1, i4.2, withKids_self g rfl]
      · rw [if_neg x2, hnd, if_neg x1]
        by_cases x3 : x = p.par
        · rw [if_pos x3, x3, hm]
          have hmi : ¬ p.id ∈ m.kids := fun hk => by
            obtain ⟨y, y1, y2⟩ := (h.good.at hm).kid _ hk
            rw [hn0] at y1
            cases y1
            exact x2 (x3.trans y2.symm)
          have hp0 : p.par ≠ 0 := by have := (h.good.at hm).pos; omega
          have e5 : offK (n1.withPar p.par) p.par (m.withKids (insZ (lessZ m.kids p.id) p.at_.toNat p.id)) = m := by
            unfold offK
            rw [if_pos ⟨hp0, rfl⟩]
            show m.withKids (lessZ (insZ (lessZ m.kids p.id) p.at_.toNat p.id) n1.id) = m
            rw [an.id, lessZ_ins lessZ_self]
            exact withKids_self m (lessZ_not hmi)
          simp only [Option.map_some]
          rw [e5]
        · rw [if_neg x3]
          cases e4 : nd s.nodes x with
          | none => rfl
          | some y =>
            simp only [Option.map_some]
            have a1 : offK n1 x y = y := by unfold offK; rw [if_neg (fun hh => x2 hh.2)]
            have a2 : offK (n1.withPar p.par) x y = y := by unfold offK; rw [if_neg (fun hh => x3 hh.2)]
            rw [a1, a2]
  show (0, (⟨hungN N (n1.withPar p.par) G Q T p', s.root, s.next⟩ : Ds)) = (0, s)
  rw [this]
end Do
end Go.Proofs.YtcdnakcojanaeabGreat

/-
  A display that is built of a tree, as mathematics: the nodes one behind the other, their numbers from the next on.
-/
namespace Go.Proofs.YtcdnakcojanaeabGreat
open Go.ChangeShapes Go.WideShapes Go.ChangeAt Go.RowKit Go.Deep
open Do

namespace Do
def sumK {α : Type} (f : α → Nat) : List α → Nat
  | [] => 0
  | u :: r => f u + sumK f r

/-- How many nodes a tree has. -/
def ct : {n : Nat} → T n → Nat
  | 0, v => v.elim
  | _ + 1, v => 1 + sumK ct v.2.2.2.2

/-- Kids' numbers. -/
def idK {α : Type} (f : α → Nat) : Int → List α → List Int
  | _, [] => []
  | x, u :: r => x :: idK f (x + (f u : Int)) r

/-- Kids' nodes, one kid's behind the other's. -/
def blK {α : Type} (f : α → Nat) (g : Int → α → List Nd) : Int → List α → List Nd
  | _, [] => []
  | x, u :: r => g x u ++ blK f g (x + (f u : Int)) r

/-- A tree's nodes, hung in par, from number x on. -/
def bl : {n : Nat} → Int → Int → T n → List Nd
  | 0, _, _, v => v.elim
  | _ + 1, par, x, v => ⟨x, par, v.1, v.2.1, v.2.2.1, v.2.2.2.1, idK ct (x + 1) v.2.2.2.2⟩ :: blK ct (fun y u => bl x y u) (x + 1) v.2.2.2.2

theorem bl_node {n : Nat} (par x : Int) (g k t : ByteArray) (ats : List Atr) (its : List (T n)) : bl (n := n + 1) par x (g, k, t, ats, its) = ⟨x, par, g, k, t, ats, idK ct (x + 1) its⟩ :: blK ct (fun y u => bl x y u) (x + 1) its := rfl
theorem ct_node {n : Nat} (g k t : ByteArray) (ats : List Atr) (its : List (T n)) : ct (n := n + 1) (g, k, t, ats, its) = 1 + sumK ct its := rfl

theorem sumK_snoc {α : Type} (f : α → Nat) : ∀ (l : List α) (u : α), sumK f (l ++ [u]) = sumK f l + f u
  | [], u => by simp [sumK]
  | v :: r, u => by simp only [List.cons_append, sumK, sumK_snoc f r u]; omega

theorem idK_snoc {α : Type} (f : α → Nat) : ∀ (l : List α) (x : Int) (u : α), idK f x (l ++ [u]) = idK f x l ++ [x + (sumK f l : Int)]
  | [], x, u => by simp [idK, sumK]
  | v :: r, x, u => by
    simp only [List.cons_append, idK, idK_snoc f r, sumK]
    have : x + (f v : Int) + (sumK f r : Int) = x + ((f v + sumK f r : Nat) : Int) := by omega
    rw [this]

theorem blK_snoc {α : Type} (f : α → Nat) (g : Int → α → List Nd) : ∀ (l : List α) (x : Int) (u : α), blK f g x (l ++ [u]) = blK f g x l ++ g (x + (sumK f l : Int)) u
  | [], x, u => by simp [blK, sumK]
  | v :: r, x, u => by
    simp only [List.cons_append, blK, blK_snoc f g r, sumK, List.append_assoc]
    have : x + (f v : Int) + (sumK f r : Int) = x + ((f v + sumK f r : Nat) : Int) := by omega
    rw [this]

theorem idK_length {α : Type} (f : α → Nat) : ∀ (l : List α) (x : Int), (idK f x l).length = l.length
  | [], _ => rfl
  | _ :: r, x => by simp [idK, idK_length f r]

theorem take_snoc {α : Type} {l : List α} {m : Nat} (h : m < l.length) : l.take (m + 1) = l.take m ++ [l[m]] := List.take_succ_eq_append_getElem h

theorem sumK_take {α : Type} (f : α → Nat) : ∀ (l : List α) (m : Nat), sumK f (l.take m) ≤ sumK f l
  | [], m => by simp
  | v :: r, 0 => by simp [sumK]
  | v :: r, m + 1 => by simp only [List.take_succ_cons, sumK]; have := sumK_take f r m; omega

theorem blK_len {α : Type} {f : α → Nat} {g : Int → α → List Nd} (hg : ∀ x u, (g x u).length = f u) : ∀ (l : List α) (x : Int), (blK f g x l).length = sumK f l
  | [], _ => rfl
  | v :: r, x => by simp only [blK, sumK, List.length_append, hg, blK_len hg r]

theorem bl_len : ∀ (n : Nat) (t : T n) (par x : Int), (bl par x t).length = ct t
  | 0, t, _, _ => t.elim
  | n + 1, (g, k, t, ats, its), par, x => by
    rw [bl_node, ct_node, List.length_cons, blK_len fun y u => bl_len n u x y]
    omega

/-- Numbers one behind the other. -/
def Seq (l : List Nd) (x : Int) : Prop := ∀ (i : Nat) (m : Nd), l[i]? = some m → m.id = x + (i : Int)

theorem Seq.append {a b : List Nd} {x : Int} (h1 : Seq a x) (h2 : Seq b (x + (a.length : Int))) : Seq (a ++ b) x := by
  intro i m hm
  by_cases hi : i < a.length
  · rw [List.getElem?_append_left hi] at hm
    exact h1 i m hm
  · rw [List.getElem?_append_right (by omega)] at hm
    have := h2 _ m hm
    omega

theorem blK_seq {α : Type} {f : α → Nat} {g : Int → α → List Nd} (hg : ∀ x u, (g x u).length = f u) (hs : ∀ x u, Seq (g x u) x) : ∀ (l : List α) (x : Int), Seq (blK f g x l) x
  | [], _ => fun i m h => by simp [blK] at h
  | v :: r, x => by
    unfold blK
    refine Seq.append (hs x v) ?_
    rw [hg]
    exact blK_seq hg hs r _

theorem bl_seq : ∀ (n : Nat) (t : T n) (par x : Int), Seq (bl par x t) x
  | 0, t, _, _ => t.elim
  | n + 1, (g, k, t, ats, its), par, x => by
    rw [bl_node]
    intro i m hm
    cases i with
    | zero => simp at hm; subst hm; simp
    | succ i =>
      have := blK_seq (fun y u => bl_len n u x y) (fun y u => bl_seq n u x y) its (x + 1) i m (by simpa using hm)
      omega

theorem Seq.up {l : List Nd} {x : Int} (h : Seq l x) : Up l := by
  intro i j a b hij ha hb
  have := h i a ha
  have := h j b hb
  omega

/-! ### What such a display keeps to -/

/-- Every node of a tree keeps to p. -/
def AllT (p : ByteArray → ByteArray → ByteArray → List Atr → Nat → Prop) : {n : Nat} → T n → Prop
  | 0, v => v.elim
  | _ + 1, v => p v.1 v.2.1 v.2.2.1 v.2.2.2.1 v.2.2.2.2.length ∧ ∀ u ∈ v.2.2.2.2, AllT p u

theorem blK_mem {α : Type} {f : α → Nat} {g : Int → α → List Nd} : ∀ {l : List α} {x : Int} {m : Nd}, m ∈ blK f g x l → ∃ y, ∃ u ∈ l, m ∈ g y u ∧ ∃ i, l[i]? = some u ∧ y = x + (sumK f (l.take i) : Int)
  | [], x, m, h => by simp [blK] at h
  | v :: r, x, m, h => by
    unfold blK at h
    rcases List.mem_append.1 h with h | h
    · exact ⟨x, v, by simp, h, 0, by simp, by simp [sumK]⟩
    · obtain ⟨y, u, hu, h1, i, h2, h3⟩ := blK_mem h
      refine ⟨y, u, by simp [hu], h1, i + 1, by simpa using h2, ?_⟩
      simp only [List.take_succ_cons, sumK]
      omega

theorem blK_of {α : Type} {f : α → Nat} {g : Int → α → List Nd} : ∀ {l : List α} {x : Int} {i : Nat} {u : α} {m : Nd}, l[i]? = some u → m ∈ g (x + (sumK f (l.take i) : Int)) u → m ∈ blK f g x l
  | [], _, _, _, _, h, _ => by simp at h
  | v :: r, x, 0, u, m, h, hm => by
    simp at h
    subst h
    unfold blK
    exact List.mem_append.2 (Or.inl (by simpa [sumK] using hm))
  | v :: r, x, i + 1, u, m, h, hm => by
    unfold blK
    refine List.mem_append.2 (Or.inr (blK_of (i := i) (u := u) (by simpa using h) ?_))
    simp only [List.take_succ_cons, sumK] at hm
    rwa [show x + (f v : Int) + (sumK f (r.take i) : Int) = x + ((f v + sumK f (r.take i) : Nat) : Int) by omega]

theorem idK_at {α : Type} {f : α → Nat} : ∀ {l : List α} {x : Int} {i : Nat} {u : α}, l[i]? = some u → (idK f x l)[i]? = some (x + (sumK f (l.take i) : Int))
  | [], _, _, _, h => by simp at h
  | v :: r, x, 0, u, _ => by simp [idK, sumK]
  | v :: r, x, i + 1, u, h => by
    simp only [idK, List.getElem?_cons_succ, List.take_succ_cons, sumK]
    rw [idK_at (u := u) (by simpa using h)]
    congr 1
    omega

theorem idK_mem {α : Type} {f : α → Nat} {l : List α} {x y : Int} (h : y ∈ idK f x l) : ∃ (i : Nat) (u : α), l[i]? = some u ∧ y = x + (sumK f (l.take i) : Int) := by
  obtain ⟨i, hi, e⟩ := List.getElem_of_mem h
  rw [idK_length] at hi
  have h1 := idK_at (f := f) (x := x) (List.getElem?_eq_getElem hi)
  rw [List.getElem?_eq_getElem (by rw [idK_length]; exact hi)] at h1
  exact ⟨i, l[i], List.getElem?_eq_getElem hi, by rw [← e]; exact Option.some.inj h1⟩

/-- The first node of a kid's. -/
theorem bl_head : ∀ {n : Nat} (t : T n) (par x : Int), ∃ m ∈ bl par x t, m.id = x ∧ m.par = par
  | 0, t, _, _ => t.elim
  | n + 1, (g, k, t, ats, its), par, x => ⟨_, by rw [bl_node]; exact List.mem_cons_self, rfl, rfl⟩

theorem ct_pos : ∀ {n : Nat} (t : T n), 1 ≤ ct t
  | 0, t => t.elim
  | n + 1, (g, k, t, ats, its) => by rw [ct_node]; omega

theorem idK_up {α : Type} {f : α → Nat} (hf : ∀ u, 1 ≤ f u) : ∀ (l : List α) (x : Int), (idK f x l).Nodup ∧ ∀ y ∈ idK f x l, x ≤ y
  | [], _ => by simp [idK]
  | v :: r, x => by
    obtain ⟨h1, h2⟩ := idK_up hf r (x + (f v : Int))
    have := hf v
    unfold idK
    refine ⟨List.nodup_cons.2 ⟨fun h => by have := h2 x h; omega, h1⟩, fun y hy => ?_⟩
    rcases List.mem_cons.1 hy with rfl | hy
    · omega
    · have := h2 y hy; omega

/-- What is known of each node of such a list. -/
theorem bl_all {p : ByteArray → ByteArray → ByteArray → List Atr → Nat → Prop} : ∀ (n : Nat) (t : T n) (par x : Int), AllT p t → ∀ m ∈ bl par x t, x ≤ m.id ∧ p m.tag m.key m.txt m.ats m.kids.length ∧ m.kids.Nodup ∧ (∀ y ∈ m.kids, ∃ m' ∈ bl par x t, m'.id = y ∧ m'.par = m.id) ∧ ((m.id = x ∧ m.par = par) ∨ (m.par < m.id ∧ ∃ m' ∈ bl par x t, m'.id = m.par ∧ m.id ∈ m'.kids))
  | 0, t, _, _, _ => t.elim
  | n + 1, (g, k, t, ats, its), par, x, ⟨hp, hk⟩ => by
    rw [bl_node]
    intro m hm
    rcases List.mem_cons.1 hm with rfl | hm
    · refine ⟨Int.le_refl _, by rw [idK_length]; exact hp, (idK_up ct_pos its (x + 1)).1, ?_, Or.inl ⟨rfl, rfl⟩⟩
      intro y hy
      obtain ⟨i, u, h1, h2⟩ := idK_mem hy
      obtain ⟨m', h3, h4, h5⟩ := bl_head u x y
      exact ⟨m', List.mem_cons_of_mem _ (blK_of h1 (by rw [← h2]; exact h3)), h4, h5⟩
    · obtain ⟨y, u, hu, h1, i, h2, h3⟩ := blK_mem hm
      have hsub : ∀ z ∈ bl x y u, z ∈ (⟨x, par, g, k, t, ats, idK ct (x + 1) its⟩ : Nd) :: blK ct (fun y u => bl x y u) (x + 1) its := fun z hz => List.mem_cons_of_mem _ (blK_of h2 (by rw [← h3]; exact hz))
      obtain ⟨a1, a2, a3, a4, a5⟩ := bl_all n u x y (hk u hu) m h1
      refine ⟨by omega, a2, a3, fun z hz => ?_, Or.inr ?_⟩
      · obtain ⟨m', b1, b2⟩ := a4 z hz
        exact ⟨m', hsub m' b1, b2⟩
      · rcases a5 with ⟨e1, e2⟩ | ⟨e1, m', e2, e3⟩
        · refine ⟨by omega, ⟨x, par, g, k, t, ats, idK ct (x + 1) its⟩, List.mem_cons_self, e2.symm, ?_⟩
          have := idK_at (f := ct) (x := x + 1) h2
          rw [e1, h3]
          exact List.mem_of_getElem? this
        · exact ⟨e1, m', hsub m' e2, e3⟩

/-- A display that is built may be. -/
theorem bl_ok {n : Nat} {t : T n} (ha : AllT (fun g k s l il => nodeB g k s l il = true) t) (hr : ¬ (tagT t).size = 0) (hc : ct t ≤ 1024) : OkD ⟨bl 0 1 t, 1, 1 + (ct t : Int)⟩ := by
  have hall := bl_all n t 0 1 ha
  have hu := (bl_seq n t 0 1).up
  have hm : ∀ m ∈ bl 0 1 t, aloneB m = true := fun m hm => by
    have h := (hall m hm).2.1
    refine alone_iff.2 ?_
    by_cases h0 : m.tag.size = 0
    · rw [nodeB_text' h0] at h
      simp at h
      exact ⟨h.1, fun _ => by rw [h.2]; rfl, by rw [h.2]; exact Nat.zero_le _⟩
    · rw [nodeB_elem' h0] at h
      simp at h
      exact ⟨h.1, fun e => absurd e h0, by omega⟩
  have hid : ∀ m ∈ bl 0 1 t, 1 ≤ m.id ∧ m.id < 1 + (ct t : Int) := fun m hm => by
    obtain ⟨i, hi, rfl⟩ := List.getElem_of_mem hm
    have h1 := bl_seq n t 0 1 i _ (List.getElem?_eq_getElem hi)
    rw [bl_len] at hi
    omega
  have hout : ∀ (j : Nat) (m : Nd), m ∈ bl 0 1 t → m.id < (j : Int) → ∃ k, Out (bl 0 1 t) k m.id := by
    intro j
    induction j with
    | zero => intro m hm hj; have := hid m hm; omega
    | succ j ih =>
      intro m hm hj
      obtain ⟨-, -, -, -, h5⟩ := hall m hm
      rcases h5 with ⟨e1, e2⟩ | ⟨e1, m', e2, e3, -⟩
      · exact ⟨1, out_nd.2 (Or.inr ⟨m, nd_of hu hm, e2⟩)⟩
      · obtain ⟨k, hk⟩ := ih m' e2 (by omega)
        rw [e3] at hk
        exact ⟨k + 1, out_nd.2 (Or.inr ⟨m, nd_of hu hm, hk⟩)⟩
  refine ⟨⟨hu, fun m hm => (hid m hm).1, hm, fun m hm' y hy => ?_, fun m hm' => (hall m hm').2.2.1, fun m hm' hp => ?_, fun m hm' => hout (m.id.toNat + 1) m hm' (by have := hid m hm'; omega)⟩, ⟨by show (1 : Int) ≤ 1 + _; omega, by show (1 : Int) + _ ≤ _; omega⟩, by rw [bl_len]; exact hc, fun m hm' => (hid m hm').2, Or.inr ?_⟩
  · obtain ⟨m', h1, h2, h3⟩ := (hall m hm').2.2.2.1 y hy
    exact ⟨m', by rw [← h2]; exact nd_of hu h1, h3⟩
  · obtain ⟨-, -, -, -, h5⟩ := hall m hm'
    rcases h5 with ⟨-, e2⟩ | ⟨-, m', e2, e3, e4⟩
    · exact absurd e2 hp
    · exact ⟨m', by rw [← e3]; exact nd_of hu e2, e4⟩
  · cases n with
    | zero => exact t.elim
    | succ n =>
      obtain ⟨g, k, s, ats, its⟩ := t
      refine ⟨⟨1, 0, g, k, s, ats, idK ct (1 + 1) its⟩, ?_, hr, rfl⟩
      show nd (bl (n := n + 1) 0 1 (g, k, s, ats, its)) 1 = _
      rw [bl_node, nd_cons, if_pos rfl]

/-! ### Its tree -/

/-- Trees without their depths. -/
inductive Tr
  | mk : ByteArray → ByteArray → ByteArray → List Atr → List Tr → Tr

def er : {n : Nat} → T n → Tr
  | 0, v => v.elim
  | _ + 1, v => .mk v.1 v.2.1 v.2.2.1 v.2.2.2.1 (v.2.2.2.2.map er)

theorem er_node {n : Nat} (g k t : ByteArray) (ats : List Atr) (its : List (T n)) : er (n := n + 1) (g, k, t, ats, its) = .mk g k t ats (its.map er) := rfl

theorem map_inj {α β : Type} {f : α → β} : ∀ {l m : List α}, (∀ a ∈ l, ∀ b, f a = f b → a = b) → l.map f = m.map f → l = m
  | [], [], _, _ => rfl
  | [], b :: m, _, h => by simp at h
  | a :: l, [], _, h => by simp at h
  | a :: l, b :: m, hf, h => by
    simp only [List.map_cons, List.cons.injEq] at h
    rw [hf a (by simp) b h.1, map_inj (fun x hx => hf x (by simp [hx])) h.2]

theorem er_inj : ∀ (n : Nat) (u v : T n), er u = er v → u = v
  | 0, u, _, _ => u.elim
  | n + 1, (g, k, t, ats, its), (g', k', t', ats', its'), h => by
    rw [er_node, er_node] at h
    injection h with h1 h2 h3 h4 h5
    subst h1 h2 h3 h4
    rw [map_inj (fun a _ b => er_inj n a b) h5]

/-- A tree, told as one of a greater depth. -/
def upT : {n : Nat} → T n → T (n + 1)
  | 0, v => v.elim
  | _ + 1, v => (v.1, v.2.1, v.2.2.1, v.2.2.2.1, v.2.2.2.2.map upT)

theorem er_up : ∀ (n : Nat) (u : T n), er (upT u) = er u
  | 0, u => u.elim
  | n + 1, (g, k, t, ats, its) => by
    show er (n := n + 2) (g, k, t, ats, its.map upT) = _
    rw [er_node, er_node, List.map_map]
    congr 1
    exact List.map_congr_left fun u _ => er_up n u

theorem lay_up {w : World} : ∀ (n : Nat) (x : Value) (u : T n), LayT w n x u → LayT w (n + 1) x (upT u)
  | 0, _, u, _ => u.elim
  | n + 1, x, (g, k, t, ats, its), ⟨aa, ac, ia, ic, h1, h2, h3, h4, h5, h6⟩ => by
    have hl : (its.map upT).length = its.length := List.length_map _
    refine ⟨aa, ac, ia, ic, by rw [h1]; show _ = mkT _ _ _ _ _ _ _ (its.map upT).length _; rw [hl], by show FitT g k t ats.length ac (its.map upT).length ic; rw [hl]; exact h2, h3, by show _ → (its.map upT).length = 0 ∧ _; rw [hl]; exact h4, h5, ?_⟩
    intro i v hi
    have hi : (its.map upT)[i]? = some v := hi
    rw [List.getElem?_map, Option.map_eq_some_iff] at hi
    obtain ⟨u, hu, rfl⟩ := hi
    obtain ⟨b, o, c0, c1, c2, c3, c4, e1, e2, e3, e4, e5, e6, e7⟩ := h6 i u hu
    exact ⟨b, o, c0, c1, c2, c3, c4, e1, e2, e3, e4, e5, e6, lay_up n _ u e7⟩

def upK : (k : Nat) → {n : Nat} → T n → T (n + k)
  | 0, _, v => v
  | k + 1, _, v => upT (upK k v)

theorem er_upK : ∀ (k n : Nat) (u : T n), er (upK k u) = er u
  | 0, _, _ => rfl
  | k + 1, n, u => (er_up _ _).trans (er_upK k n u)

theorem lay_upK {w : World} {x : Value} : ∀ (k n : Nat) (u : T n), LayT w n x u → LayT w (n + k) x (upK k u)
  | 0, _, _, h => h
  | k + 1, n, u, h => lay_up _ _ _ (lay_upK k n u h)

theorem er_cast {a b : Nat} (h : a = b) (v : T a) : er (h ▸ v : T b) = er v := by subst h; rfl
theorem lay_cast {w : World} {x : Value} {a b : Nat} (h : a = b) (v : T a) (hl : LayT w a x v) : LayT w b x (h ▸ v) := by subst h; exact hl

/-- Two values that read as one tree, whatever depths they are told of, read as one tree of one depth. -/
theorem lay_both {w : World} {x y : Value} {n m : Nat} {u : T n} {v : T m} (hx : LayT w n x u) (hy : LayT w m y v) (h : er u = er v) : ∃ (d : Nat) (t : T d), LayT w d x t ∧ LayT w d y t := by
  have hx' := lay_upK m n u hx
  have hy' := lay_cast (Nat.add_comm m n) _ (lay_upK n m v hy)
  have e : upK m u = (Nat.add_comm m n ▸ upK n v : T (n + m)) := er_inj _ _ _ (by rw [er_cast, er_upK, er_upK, h])
  exact ⟨n + m, upK m u, hx', by rw [e]; exact hy'⟩

theorem allO_map {α β : Type} {f : α → Option β} : ∀ {l : List α} {r : List β}, l.map f = r.map some → allO (l.map f) = some r
  | [], [], _ => rfl
  | [], _ :: _, h => by simp at h
  | _ :: _, [], h => by simp at h
  | a :: l, b :: r, h => by
    simp only [List.map_cons, List.cons.injEq] at h
    simp only [List.map_cons, h.1, allO, allO_map h.2]

/-- The tree of what was built. -/
theorem bl_tree {ns : List Nd} (hu : Up ns) : ∀ (n : Nat) (t : T n) (lv L c : Nat) (par x : Int), lv + L = 9 → c ≤ 256 → (wk t L c).1 = 0 → (∀ m ∈ bl par x t, m ∈ ns) → ∃ u : T lv, trO ns lv x = some u ∧ er u = er t
  | 0, t, _, _, _, _, _, _, _, _, _ => t.elim
  | n + 1, (g, k, s, ats, its), lv, L, c, par, x, hL, hc, hw, hm => by
    rw [wk_node] at hw
    by_cases h1 : 8 < L
    · rw [if_pos h1] at hw; simp at hw
    rw [if_neg h1] at hw
    by_cases h2 : 256 ≤ c
    · rw [if_pos h2] at hw; simp at hw
    rw [if_neg h2] at hw
    by_cases h3 : nodeB g k s ats its.length = false
    · rw [if_pos h3] at hw; simp at hw
    rw [if_neg h3] at hw
    by_cases h4 : twB (keysT its) = true
    · rw [if_pos h4] at hw; simp at hw
    rw [if_neg h4] at hw
    obtain ⟨d, hd⟩ : ∃ d, lv = d + 1 := ⟨8 - L, by omega⟩
    subst hd
    have hnd : nd ns x = some ⟨x, par, g, k, s, ats, idK ct (x + 1) its⟩ := nd_of hu (n := ⟨x, par, g, k, s, ats, idK ct (x + 1) its⟩) (hm _ (by rw [bl_node]; exact List.mem_cons_self))
    have kids : ∀ (l : List (T n)) (c' D : Nat) (y : Int), c' ≤ 256 → D ≤ 9 → (wkK (fun u c' => wk u (L + 1) c') l c' D).1 = 0 → (∀ m ∈ blK ct (fun y u => bl x y u) y l, m ∈ ns) → ∃ r : List (T d), (idK ct y l).map (trO ns d) = r.map some ∧ r.map er = l.map er := by
      intro l
      induction l with
      | nil => intro c' D y _ _ _ _; exact ⟨[], rfl, rfl⟩
      | cons u l ih =>
        intro c' D y hc' hD hw' hm'
        unfold wkK at hw'
        have hu0 : (wk u (L + 1) c').1 = 0 := by
          by_cases h0 : (wk u (L + 1) c').1 = 0
          · exact h0
          · rw [if_neg h0] at hw'; exact hw'
        rw [if_pos hu0] at hw'
        obtain ⟨o1, -, o3, -⟩ := wk_ok n u (L + 1) c' (by omega) hc'
        obtain ⟨a, a1, a2⟩ := bl_tree hu n u d (L + 1) c' x y (by omega) hc' hu0 (fun m hm0 => hm' m (by unfold blK; exact List.mem_append.2 (Or.inl hm0)))
        obtain ⟨r, r1, r2⟩ := ih _ _ (y + (ct u : Int)) o1 (by omega) hw' (fun m hm0 => hm' m (by unfold blK; exact List.mem_append.2 (Or.inr hm0)))
        refine ⟨a :: r, ?_, ?_⟩
        · unfold idK
          rw [List.map_cons, List.map_cons, a1, r1]
        · rw [List.map_cons, List.map_cons, a2, r2]
    obtain ⟨r, r1, r2⟩ := kids its (c + 1) L (x + 1) (by omega) (by omega) hw (fun m hm0 => hm m (by rw [bl_node]; exact List.mem_cons_of_mem _ hm0))
    refine ⟨(g, k, s, ats, r), ?_, ?_⟩
    · rw [trO_node hnd]
      simp only
      rw [allO_map r1]
    · rw [er_node, er_node, r2]

/-- What a tree that may be keeps to. -/
theorem wk_all : ∀ (n : Nat) (t : T n) (L c : Nat), L ≤ 9 → c ≤ 256 → (wk t L c).1 = 0 → AllT (fun g k s l il => nodeB g k s l il = true) t ∧ c + ct t = (wk t L c).2.1
  | 0, t, _, _, _, _, _ => t.elim
  | n + 1, (g, k, s, ats, its), L, c, hL, hc, hw => by
    rw [wk_node] at hw ⊢
    by_cases h1 : 8 < L
    · rw [if_pos h1] at hw; simp at hw
    rw [if_neg h1] at hw ⊢
    by_cases h2 : 256 ≤ c
    · rw [if_pos h2] at hw; simp at hw
    rw [if_neg h2] at hw ⊢
    by_cases h3 : nodeB g k s ats its.length = false
    · rw [if_pos h3] at hw; simp at hw
    rw [if_neg h3] at hw ⊢
    by_cases h4 : twB (keysT its) = true
    · rw [if_pos h4] at hw; simp at hw
    rw [if_neg h4] at hw ⊢
    have kids : ∀ (l : List (T n)) (c' D : Nat), c' ≤ 256 → D ≤ 9 → (wkK (fun u c' => wk u (L + 1) c') l c' D).1 = 0 → (∀ u ∈ l, AllT (fun g k s l il => nodeB g k s l il = true) u) ∧ c' + sumK ct l = (wkK (fun u c' => wk u (L + 1) c') l c' D).2.1 := by
      intro l
      induction l with
      | nil => intro c' D _ _ _; exact ⟨fun u hu => (by cases hu), rfl⟩
      | cons u l ih =>
        intro c' D hc' hD hw'
        unfold wkK at hw' ⊢
        have hu0 : (wk u (L + 1) c').1 = 0 := by
          by_cases h0 : (wk u (L + 1) c').1 = 0
          · exact h0
          · rw [if_neg h0] at hw'; exact hw'
        rw [if_pos hu0] at hw' ⊢
        obtain ⟨o1, -, o3, -⟩ := wk_ok n u (L + 1) c' (by omega) hc'
        obtain ⟨a1, a2⟩ := wk_all n u (L + 1) c' (by omega) hc' hu0
        obtain ⟨b1, b2⟩ := ih _ _ o1 (by omega) hw'
        refine ⟨fun v hv => ?_, ?_⟩
        · rcases List.mem_cons.1 hv with rfl | hv
          · exact a1
          · exact b1 v hv
        · rw [← b2, ← a2]
          simp only [sumK]
          omega
    obtain ⟨k1, k2⟩ := kids its (c + 1) L (by omega) hL hw
    refine ⟨⟨by simpa using h3, k1⟩, ?_⟩
    rw [← k2, ct_node]
    omega

/-- A tree that may be: its display may be, and has it as its tree. -/
theorem built_ok {n : Nat} {t : T n} (h : (sizeT t).1 = 0) : OkD ⟨bl 0 1 t, 1, 1 + (ct t : Int)⟩ ∧ ct t ≤ 256 ∧ ∃ u : T 8, treeD ⟨bl 0 1 t, 1, 1 + (ct t : Int)⟩ = (0, some u) ∧ er u = er t := by
  cases n with
  | zero => exact t.elim
  | succ n =>
    obtain ⟨g, k, s, ats, its⟩ := t
    rw [sizeT_node] at h
    by_cases h0 : g.size = 0
    · rw [if_pos h0] at h; simp at h
    rw [if_neg h0] at h
    by_cases hw : (wk (n := n + 1) (g, k, s, ats, its) 1 0).1 = 0
    · obtain ⟨h1, h2⟩ := wk_all (n + 1) (g, k, s, ats, its) 1 0 (by omega) (by omega) hw
      obtain ⟨o1, -⟩ := wk_ok (n + 1) (g, k, s, ats, its) 1 0 (by omega) (by omega)
      have hc : ct (n := n + 1) (g, k, s, ats, its) ≤ 256 := by omega
      have hok := bl_ok h1 h0 (by omega)
      obtain ⟨u, u1, u2⟩ := bl_tree hok.good.up (n + 1) (g, k, s, ats, its) 8 1 0 0 1 (by omega) (by omega) hw (fun m hm => hm)
      refine ⟨hok, hc, u, ?_, u2⟩
      unfold treeD
      rw [if_pos (okD_iff.2 hok), if_neg (by show ¬ (1 : Int) = 0; omega)]
      have u1 : trO (bl 0 1 (n := n + 1) (g, k, s, ats, its)) 8 1 = some u := u1
      simp only [u1]
    · rw [if_neg hw] at h
      exact absurd h hw
end Do
end Go.Proofs.YtcdnakcojanaeabGreat

/-
  A display of one's own that grows: what is known of its box, its blocks, and of all else.
-/
namespace Go.Proofs.YtcdnakcojanaeabGreat
open Go.ChangeShapes Go.WideShapes Go.ChangeAt Go.RowKit Go.Deep
open Do

/-- A block that holds cells of a type that is none of nodes, attributes, numbers is none of a display's. -/
theorem OwnN.notTy {w : World} {B : Nat} {v : Value} {ns : List Nd} {ab kb : Nat → Value} (h : OwnN w B v ns ab kb) {P : Nat} {cs : Array Value} {ty : TypeId} (hP : w.heap[P]? = some (.cells cs ty (0, 0))) (t1 : ty ≠ 41) (t2 : ty ≠ 43) (t3 : ty ≠ 3) {b : Nat} (hb : footN v ns.length ab kb b) : b ≠ P := by
  rintro rfl
  rcases hb with hb | ⟨i, hi, hb⟩ | ⟨i, hi, hb⟩
  · rcases h.row.2 with ⟨rfl, -⟩ | ⟨g', cap, cur, rfl, _, q2, -⟩
    · cases hb
    · simp only [Value.ownBlock, Option.some.injEq] at hb
      subst hb
      rw [hP] at q2
      simp at q2
      exact t1 q2.2
  · obtain ⟨cu, hc, -⟩ := (h.ats i ns[i] (List.getElem?_eq_getElem hi)).block hb
    rw [hP] at hc
    simp at hc
    exact t2 hc.2
  · obtain ⟨cu, hc, -⟩ := (h.kids i ns[i] (List.getElem?_eq_getElem hi)).block hb
    rw [hP] at hc
    simp at hc
    exact t3 hc.2

/-- A node more, with attributes in a row of their own. -/
theorem OwnN.pushA {w w' : World} {B : Nat} {v v' : Value} {ns : List Nd} {ab kb : Nat → Value} (h : OwnN w B v ns ab kb) {n : Nd} (hn : NdFit n) (hk : n.kids = []) {av : Value} (hA : OwnA w B av n.ats) (hap : ∀ b, av.ownBlock = some b → ¬ footN v ns.length ab kb b)
    (hr : w'.ownsRow B 41 7 v' (ns.length + 1) (rowN ns ab kb ++ cellsN n av (.slice none 0 0))) (hg : w.grownBy w' v.ownBlock) (hv : v'.ownBlock = v.ownBlock ∨ ∀ g, v'.ownBlock = some g → w.heap.size ≤ g) :
    OwnN w' B v' (ns ++ [n]) (upd ab ns.length av) (upd kb ns.length (.slice none 0 0)) ∧
      ∀ b, footN v' (ns ++ [n]).length (upd ab ns.length av) (upd kb ns.length (.slice none 0 0)) b → footN v ns.length ab kb b ∨ av.ownBlock = some b ∨ w.heap.size ≤ b := by
  have isRow : ∀ b, v.ownBlock = some b → ∃ cur, w.heap[b]? = some (.cells cur 41 (0, 0)) := by
    intro b e
    rcases h.row.2 with ⟨rfl, -⟩ | ⟨g', cap, cur, rfl, _, q2, -⟩
    · cases e
    · simp only [Value.ownBlock, Option.some.injEq] at e
      subst e
      exact ⟨cur, q2⟩
  have notRow : ∀ b, (∃ i, i < ns.length ∧ ((ab i).ownBlock = some b ∨ (kb i).ownBlock = some b)) → some b ≠ v.ownBlock := by
    rintro b ⟨i, hi, hb⟩ e
    obtain ⟨cur, hcur⟩ := isRow b e.symm
    rcases hb with hb | hb
    · obtain ⟨cu, hc, -⟩ := (h.ats i ns[i] (List.getElem?_eq_getElem hi)).block hb
      rw [hcur] at hc
      simp at hc
    · obtain ⟨cu, hc, -⟩ := (h.kids i ns[i] (List.getElem?_eq_getElem hi)).block hb
      rw [hcur] at hc
      simp at hc
  have avRow : ∀ b, av.ownBlock = some b → some b ≠ v.ownBlock := fun b hb e => hap b hb (Or.inl e.symm)
  have e1 : rowN (ns ++ [n]) (upd ab ns.length av) (upd kb ns.length (.slice none 0 0)) = rowN ns ab kb ++ cellsN n av (.slice none 0 0) := by
    rw [rowN_snoc, upd_same, upd_same, rowN_congr ns fun i hi => ⟨upd_other _ _ (by omega), upd_other _ _ (by omega)⟩]
  have split : ∀ (i : Nat) (m : Nd), (ns ++ [n])[i]? = some m → (i < ns.length ∧ ns[i]? = some m) ∨ (i = ns.length ∧ m = n) := by
    intro i m hm
    by_cases hi : i < ns.length
    · rw [List.getElem?_append_left hi] at hm
      exact Or.inl ⟨hi, hm⟩
    · rw [List.getElem?_append_right (by omega)] at hm
      have hz : i - ns.length = 0 := by
        have := (List.getElem?_eq_some_iff.1 hm).1
        simp at this
        omega
      rw [hz] at hm
      simp at hm
      exact Or.inr ⟨by omega, hm.symm⟩
  have hlen : (ns ++ [n]).length = ns.length + 1 := by simp
  refine ⟨⟨by rw [hlen, e1]; exact hr, ?_, ?_, ?_, ?_, ?_⟩, ?_⟩
  · intro i m hm
    rcases split i m hm with ⟨hi, hm⟩ | ⟨rfl, rfl⟩
    · rw [upd_other _ _ (by omega)]
      have ho := h.ats i m hm
      exact ho.same fun b hb => hg.block b (ho.lt b hb).2 (notRow b ⟨i, hi, Or.inl hb⟩)
    · rw [upd_same]
      exact hA.same fun b hb => hg.block b (hA.lt b hb).2 (avRow b hb)
  · intro i m hm
    rcases split i m hm with ⟨hi, hm⟩ | ⟨rfl, rfl⟩
    · rw [upd_other _ _ (by omega)]
      have ho := h.kids i m hm
      exact ho.same fun b hb => hg.block b (ho.lt b hb).2 (notRow b ⟨i, hi, Or.inr hb⟩)
    · rw [upd_same, hk]
      exact OwnZ.nil _ _
  · intro i j b hi hj hij hb hb'
    rw [hlen] at hi hj
    by_cases e : i = ns.length
    · subst e
      rw [upd_same] at hb
      rw [upd_other _ _ (by omega)] at hb'
      exact hap b hb (Or.inr (Or.inl ⟨j, by omega, hb'⟩))
    · by_cases e' : j = ns.length
      · subst e'
        rw [upd_same] at hb'
        rw [upd_other _ _ e] at hb
        exact hap b hb' (Or.inr (Or.inl ⟨i, by omega, hb⟩))
      · rw [upd_other _ _ e] at hb
        rw [upd_other _ _ e'] at hb'
        exact h.apa i j b (by omega) (by omega) hij hb hb'
  · intro i j b hi hj hij hb hb'
    rw [hlen] at hi hj
    by_cases e : i = ns.length
    · subst e; rw [upd_same] at hb; cases hb
    · by_cases e' : j = ns.length
      · subst e'; rw [upd_same] at hb'; cases hb'
      · rw [upd_other _ _ e] at hb
        rw [upd_other _ _ e'] at hb'
        exact h.apk i j b (by omega) (by omega) hij hb hb'
  · intro m hm
    rcases List.mem_append.1 hm with hm | hm
    · exact h.fit m hm
    · rw [List.mem_singleton] at hm
      subst hm
      exact hn
  · rw [hlen]
    rintro b (hb | ⟨i, hi, hb⟩ | ⟨i, hi, hb⟩)
    · rcases hv with hv | hv
      · rw [hv] at hb
        exact Or.inl (Or.inl hb)
      · exact Or.inr (Or.inr (hv b hb))
    · by_cases e : i = ns.length
      · subst e
        rw [upd_same] at hb
        exact Or.inr (Or.inl hb)
      · rw [upd_other _ _ e] at hb
        exact Or.inl (Or.inr (Or.inl ⟨i, by omega, hb⟩))
    · by_cases e : i = ns.length
      · subst e
        rw [upd_same] at hb
        cases hb
      · rw [upd_other _ _ e] at hb
        exact Or.inl (Or.inr (Or.inr ⟨i, by omega, hb⟩))

/-- Since world w0: a display's nodes in blocks of its own; all but them, block P and new ones is as it was. -/
structure Dg (w0 w : World) (B P : Nat) (F0 : Nat → Prop) (ns : List Nd) (v : Value) (ab kb : Nat → Value) : Prop where
  own : OwnN w B v ns ab kb
  foot : ∀ b, footN v ns.length ab kb b → F0 b ∨ w0.heap.size ≤ b
  kept : Kept (fun b => b = P ∨ F0 b) w0 w

theorem Dg.start {w : World} {B P : Nat} {ns : List Nd} {v : Value} {ab kb : Nat → Value} (h : OwnN w B v ns ab kb) : Dg w w B P (footN v ns.length ab kb) ns v ab kb := ⟨h, fun _ hb => Or.inl hb, Kept.refl _ _⟩

/-- Behind a world in which only blocks that are none of the display's have changed (block P, new ones). -/
theorem Dg.on {w0 w w' : World} {B P : Nat} {F0 : Nat → Prop} {ns : List Nd} {v : Value} {ab kb : Nat → Value} (h : Dg w0 w B P F0 ns v ab kb) (hk : Kept (fun b => b = P ∨ F0 b ∨ w0.heap.size ≤ b) w w') (hf : ∀ b, footN v ns.length ab kb b → w'.heap[b]? = w.heap[b]?) : Dg w0 w' B P F0 ns v ab kb :=
  ⟨h.own.same hf, h.foot, ⟨hk.os.trans h.kept.os, hk.tape.trans h.kept.tape, hk.output.trans h.kept.output, Nat.le_trans h.kept.size hk.size, fun b hb hn => (hk.block b (Nat.lt_of_lt_of_le hb h.kept.size) (by
    rintro (e | e | e)
    · exact hn (Or.inl e)
    · exact hn (Or.inr e)
    · omega)).trans (h.kept.block b hb hn)⟩⟩

theorem Dg.below {w0 w w' : World} {B P : Nat} {F0 : Nat → Prop} {ns : List Nd} {v : Value} {ab kb : Nat → Value} (h : Dg w0 w B P F0 ns v ab kb) (hb : Below w.heap.size w w') : Dg w0 w' B P F0 ns v ab kb :=
  h.on (Kept.of_below hb) fun b hf => hb.block b (h.own.foot hf).2

theorem Dg.trans {w0 w w' : World} {B P : Nat} {F0 : Nat → Prop} {ns ns' : List Nd} {v v' : Value} {ab kb ab' kb' : Nat → Value} (h : Dg w0 w B P F0 ns v ab kb) (k : Dg w w' B P (footN v ns.length ab kb) ns' v' ab' kb') : Dg w0 w' B P F0 ns' v' ab' kb' := by
  refine ⟨k.own, fun b hb => ?_, ⟨k.kept.os.trans h.kept.os, k.kept.tape.trans h.kept.tape, k.kept.output.trans h.kept.output, Nat.le_trans h.kept.size k.kept.size, fun b hb hn => (k.kept.block b (Nat.lt_of_lt_of_le hb h.kept.size) ?_).trans (h.kept.block b hb hn)⟩⟩
  · rcases k.foot b hb with h1 | h1
    · exact h.foot b h1
    · exact Or.inr (Nat.le_trans h.kept.size h1)
  · rintro (e | e)
    · exact hn (Or.inl e)
    · rcases h.foot b e with h1 | h1
      · exact hn (Or.inr h1)
      · omega

theorem Dg.under {w0 w : World} {B P : Nat} {F0 : Nat → Prop} {ns : List Nd} {v : Value} {ab kb : Nat → Value} (h : Dg w0 w B P F0 ns v ab kb) (hP : B ≤ P) (hF : ∀ b, F0 b → B ≤ b) (hB : B ≤ w0.heap.size) : Below B w0 w :=
  ⟨h.kept.os, h.kept.tape, h.kept.output, h.kept.size, fun b hb => h.kept.block b (by omega) (by
    rintro (e | e)
    · omega
    · have := hF b e; omega)⟩
end Go.Proofs.YtcdnakcojanaeabGreat
