/-
  DomBack's mathematics: a node that is hung elsewhere, and hung back where it was.
-/
import Derived.Test.YtomhfndjnbhliaaDoPlaceJ
namespace Go.Proofs.Ytomhfndjnbhliaa
open Go.ChangeShapes Go.WideShapes Go.ChangeAt Go.RowKit Go.Deep
open Do

namespace Do
/-- Nodes whose numbers rise are told by what is found under each number. -/
theorem up_ext : ∀ {a b : List Nd}, Up a → Up b → (∀ x, nd a x = nd b x) → a = b
  | [], [], _, _, _ => rfl
  | [], m :: r, _, _, h => by
    have := h m.id
    rw [nd_cons, if_pos rfl] at this
    simp [nd] at this
  | n :: r, [], _, _, h => by
    have := h n.id
    rw [nd_cons, if_pos rfl] at this
    simp [nd] at this
  | n :: r, m :: r', ha, hb, h => by
    have h1 := h n.id
    rw [nd_cons, if_pos rfl] at h1
    have h2 := h m.id
    rw [nd_cons (x := m.id) (n := m), if_pos rfl] at h2
    have f1 := (nd_some h1.symm).1
    have f2 := (nd_some h2).1
    have e : n.id = m.id := by
      rcases List.mem_cons.1 f1 with rfl | f1
      · rfl
      · rcases List.mem_cons.1 f2 with rfl | f2
        · rfl
        · have := hb.head f1
          have := ha.head f2
          omega
    have enm : n = m := by
      rw [nd_cons, if_pos e.symm] at h1
      exact Option.some.inj h1
    subst enm
    rw [up_ext ha.tail hb.tail fun x => ?_]
    by_cases hx : n.id = x
    · subst hx
      have g : ∀ {l : List Nd}, Up (n :: l) → nd l n.id = none := by
        intro l hl
        cases q : nd l n.id with
        | none => rfl
        | some y =>
          obtain ⟨y1, y2⟩ := nd_some q
          have := hl.head y1
          omega
      rw [g ha, g hb]
    · have := h x
      rwa [nd_cons, nd_cons, if_neg hx, if_neg hx] at this

theorem lessZ_not {l : List Int} {x : Int} (h : ¬ x ∈ l) : lessZ l x = l := by
  unfold lessZ
  rw [List.filter_eq_self]
  intro y hy
  have : y ≠ x := fun e => h (by rw [← e]; exact hy)
  simpa using this

theorem lessZ_ins {l : List Int} {i : Nat} {x : Int} (h : ¬ x ∈ l) : lessZ (insZ l i x) x = l := by
  have h1 : lessZ (l.take i) x = l.take i := lessZ_not fun h' => h (List.mem_of_mem_take h')
  have h2 : lessZ (l.drop i) x = l.drop i := lessZ_not fun h' => h (List.mem_of_mem_drop h')
  unfold lessZ at h1 h2 ⊢
  unfold insZ
  rw [List.filter_append, List.filter_append, h1, h2]
  simp

theorem lessZ_self {l : List Int} {x : Int} : ¬ x ∈ lessZ l x := fun h => (mem_lessZ.1 h).2 rfl

theorem lessZ_split : ∀ {ks : List Int} {i : Nat} {x : Int}, ks.Nodup → ks[i]? = some x → insZ (lessZ ks x) i x = ks ∧ (lessZ ks x).length + 1 = ks.length ∧ i ≤ (lessZ ks x).length
  | [], _, _, _, h => by simp at h
  | k :: r, 0, x, hd, h => by
    simp only [List.getElem?_cons_zero, Option.some.injEq] at h
    subst h
    have e : lessZ (k :: r) k = r := by
      have := lessZ_not (List.nodup_cons.1 hd).1
      unfold lessZ at this ⊢
      rw [List.filter_cons]
      simpa using this
    rw [e]
    simp [insZ]
  | k :: r, i + 1, x, hd, h => by
    have h' : r[i]? = some x := by simpa using h
    have hne : k ≠ x := fun e => (List.nodup_cons.1 hd).1 (by rw [e]; exact List.mem_of_getElem? h')
    obtain ⟨h1, h2, h3⟩ := lessZ_split (List.nodup_cons.1 hd).2 h'
    have e : lessZ (k :: r) x = k :: lessZ r x := by
      unfold lessZ
      rw [List.filter_cons]
      simp [hne]
    rw [e]
    refine ⟨?_, by simp; omega, by simp; omega⟩
    unfold insZ at h1 ⊢
    simp only [List.take_succ_cons, List.drop_succ_cons, List.cons_append]
    rw [h1]

/-- What is known of a patch 2 that is done. -/
structure Hung (s : Ds) (p : Pt) (n m : Nd) (q t : Nat) : Prop where
  pi : pl s.nodes p.id = some q
  pp : pl s.nodes p.par = some t
  hn : s.nodes[q]? = some n
  hm : s.nodes[t]? = some m
  tag : ¬ m.tag.size = 0
  wi : ¬ Wi s.nodes p.par p.id
  root : p.id ≠ s.root
  lo : 0 ≤ p.at_
  hi : p.at_ ≤ (lessZ m.kids p.id).length
  few : (lessZ m.kids p.id).length ≠ 32

theorem wiB_wi {s : Ds} (h : OkD s) {p : Pt} {n m : Nd} (hn : nd s.nodes p.id = some n) (hm : nd s.nodes p.par = some m) : wiB s.nodes p.id (s.nodes.length + 1) p.par = true ↔ Wi s.nodes p.par p.id := by
  have am := h.good.at hm
  have an := h.good.at hn
  have hpi : p.id ≠ 0 := by have := an.pos; omega
  obtain ⟨k, hk⟩ := am.out
  exact wiB_iff hpi h.good.zero ((out_len hk).mono (by omega))

theorem hang_zero {s : Ds} (h : OkD s) {p : Pt} (h0 : (hangD s p).1 = 0) : ∃ n m q t, Hung s p n m q t ∧ (hangD s p).2 = ⟨hungN s.nodes n m q t p, s.root, s.next⟩ := by
  unfold hangD at h0 ⊢
  split at h0
  · rename_i q t hq ht
    split at h0
    · rename_i n m hn hm
      simp only at h0 ⊢
      refine ⟨n, m, q, t, ?_, by rw [if_pos h0]⟩
      unfold hangE at h0
      by_cases h1 : m.tag.size = 0
      · rw [if_pos h1] at h0; omega
      · rw [if_neg h1] at h0
        by_cases h2 : wiB s.nodes p.id (s.nodes.length + 1) p.par = true
        · rw [if_pos h2] at h0; omega
        · rw [if_neg h2] at h0
          by_cases h3 : p.id = s.root
          · rw [if_pos h3] at h0; omega
          · rw [if_neg h3] at h0
            by_cases h4 : p.at_ < 0 ∨ (lessZ m.kids p.id).length < p.at_
            · rw [if_pos h4] at h0; omega
            · rw [if_neg h4] at h0
              by_cases h5 : (lessZ m.kids p.id).length = 32
              · rw [if_pos h5] at h0; omega
              · exact ⟨hq, ht, hn, hm, h1, fun hw => h2 ((wiB_wi h (at_nd hq hn) (at_nd ht hm)).2 hw), h3, by omega, by omega, h5⟩
    · omega
  · omega

theorem hang_make {s : Ds} (h : OkD s) {p : Pt} {n m : Nd} {q t : Nat} (g : Hung s p n m q t) : hangD s p = (0, ⟨hungN s.nodes n m q t p, s.root, s.next⟩) := by
  have e : hangE s.nodes s.root m p = 0 := by
    unfold hangE
    have := g.lo
    have := g.hi
    rw [if_neg g.tag, if_neg (fun hw => g.wi ((wiB_wi h (at_nd g.pi g.hn) (at_nd g.pp g.hm)).1 hw)), if_neg g.root, if_neg (by omega), if_neg g.few]
  unfold hangD
  rw [g.pi, g.pp]
  simp only [g.hn, g.hm]
  rw [e, if_pos rfl]

theorem Wi.but {ns ns' : List Nd} {x y : Int} (hp : ∀ z n', z ≠ y → nd ns' z = some n' → ∃ n, nd ns z = some n ∧ n.par = n'.par) (h : Wi ns' x y) : Wi ns x y := by
  induction h with
  | refl => exact .refl _
  | @step u v n' h1 _ ih =>
    by_cases e : u = v
    · subst e; exact .refl _
    · obtain ⟨n, e1, e2⟩ := hp u n' e h1
      exact .step e1 (by rw [e2]; exact ih hp)

theorem withPar_back (n : Nd) (x : Int) : (n.withPar x).withPar n.par = n := rfl

theorem withKids_self (n : Nd) {ks : List Int} (h : ks = n.kids) : n.withKids ks = n := by subst h; rfl

/-- Hung elsewhere and back. -/
theorem hang_back {s : Ds} (h : OkD s) {p p' : Pt} {n g : Nd} {place : Nat} (hn0 : nd s.nodes p.id = some n) (hpar : n.par ≠ 0) (hg : nd s.nodes n.par = some g) (hpl : g.kids[place]? = some p.id) (h0 : (hangD s p).1 = 0)
    (e1 : p'.id = p.id) (e2 : p'.par = n.par) (e3 : p'.at_ = (place : Int)) : hangD (hangD s p).2 p' = (0, s) := by
  obtain ⟨n1, m, q, t, H, hR⟩ := hang_zero h h0
  have hok : OkD (hangD s p).2 := (hang_ok h p).1
  rw [hR] at hok ⊢
  have en : n1 = n := by
    have := at_nd H.pi H.hn
    rw [hn0] at this
    exact (Option.some.inj this).symm
  subst en
  have hm := at_nd H.pp H.hm
  have hne : p.par ≠ p.id := fun e => H.wi (by rw [e]; exact .refl _)
  obtain ⟨hu, hnd⟩ := nd_hung h.good H.pi H.hn H.pp H.hm hne
  have ag := h.good.at hg
  have an := h.good.at hn0
  have hgi : n1.par ≠ p.id := h.good.noself hn0
  obtain ⟨s1, s2, s3⟩ := lessZ_split ag.nodup hpl
  have hg32 := (alone_iff.1 ag.alone).2.2
  have htag : ¬ g.tag.size = 0 := fun e => by
    have := (alone_iff.1 ag.alone).2.1 e
    omega
  generalize hN : hungN s.nodes n1 m q t p = N at *
  -- the node hung, its home, in the display between
  have i1 : nd N p'.id = some (n1.withPar p.par) := by rw [e1, hnd, if_pos rfl]
  obtain ⟨G, i2, i3, i4⟩ : ∃ G, nd N p'.par = some G ∧ lessZ G.kids p.id = lessZ g.kids p.id ∧ G.tag = g.tag ∧ (∀ ks, G.withKids ks = g.withKids ks) := by
    rw [e2, hnd, if_neg hgi]
    by_cases e : n1.par = p.par
    · rw [if_pos e]
      rw [e, hm] at hg
      cases hg
      exact ⟨_, rfl, lessZ_ins lessZ_self, rfl, fun _ => rfl⟩
    · rw [if_neg e, hg]
      refine ⟨_, rfl, ?_, offK_tag _ _ _, fun ks => ?_⟩
      · unfold offK
        rw [if_pos ⟨hpar, rfl⟩, an.id]
        exact lessZ_not lessZ_self
      · unfold offK
        rw [if_pos ⟨hpar, rfl⟩]
        rfl
  obtain ⟨Q, j1, j2⟩ := nd_at i1
  obtain ⟨T, j3, j4⟩ := nd_at i2
  have hwi : ¬ Wi N p'.par p'.id := by
    rw [e1, e2]
    intro hw
    have hw' : Wi s.nodes n1.par p.id := Wi.but (fun z z' hz hz' => by
      rw [hnd, if_neg hz] at hz'
      by_cases e : z = p.par
      · rw [if_pos e] at hz'
        cases hz'
        exact ⟨m, by rw [e]; exact hm, rfl⟩
      · rw [if_neg e] at hz'
        cases e4 : nd s.nodes z with
        | none => rw [e4] at hz'; cases hz'
        | some y =>
          rw [e4] at hz'
          cases hz'
          exact ⟨y, rfl, (offK_par _ _ _).symm⟩) hw
    obtain ⟨k, hk⟩ := (h.good.at hn0).out
    obtain ⟨z, z1, z2⟩ := nd_at hn0
    have l1 := (stp_next hk (by have := an.pos; omega) z1 z2).1
    have l2 := h.good.stp_wi hw'
    omega
  have H' : Hung ⟨N, s.root, s.next⟩ p' (n1.withPar p.par) G Q T := ⟨j1, j3, j2, j4, by rw [i4.1]; exact htag, hwi, by rw [e1]; exact H.root, by rw [e3]; omega, by rw [e1, i3, e3]; omega, by rw [e1, i3]; omega⟩
  rw [hang_make hok H']
  have hok2 := (hang_ok hok p').1
  have hne' : p'.par ≠ p'.id := by rw [e1, e2]; exact hgi
  obtain ⟨hu2, hnd2⟩ := nd_hung hok.good H'.pi H'.hn H'.pp H'.hm hne'
  have : hungN N (n1.withPar p.par) G Q T p' = s.nodes := by
    refine up_ext hu2 h.good.up fun x => ?_
    rw [hnd2, e1, e2, e3, i3]
    simp only [Int.toNat_natCast]
    by_cases x1 : x = p.id
    · rw [if_pos x1, x1, hn0]; rfl
    · rw [if_neg x1]
      by_cases x2 : x = n1.par
      · rw [if_pos x2, x2, hg, s1, i4.2, withKids_self g rfl]
      · rw [if_neg x2, hnd, if_neg x1]
        by_cases x3 : x = p.par
        · rw [if_pos x3, x3, hm]
          have hmi : ¬ p.id ∈ m.kids := fun hk => by
            obtain ⟨y, y1, y2⟩ := (h.good.at hm).kid _ hk
            rw [hn0] at y1
            cases y1
            exact x2 (x3.trans y2.symm)
          have hp0 : p.par ≠ 0 := by have := (h.good.at hm).pos; omega
          have e5 : offK (n1.withPar p.par) p.par (m.withKids (insZ (lessZ m.kids p.id) p.at_.toNat p.id)) = m := by
            unfold offK
            rw [if_pos ⟨hp0, rfl⟩]
            show m.withKids (lessZ (insZ (lessZ m.kids p.id) p.at_.toNat p.id) n1.id) = m
            rw [an.id, lessZ_ins lessZ_self]
            exact withKids_self m (lessZ_not hmi)
          simp only [Option.map_some]
          rw [e5]
        · rw [if_neg x3]
          cases e4 : nd s.nodes x with
          | none => rfl
          | some y =>
            simp only [Option.map_some]
            have a1 : offK n1 x y = y := by unfold offK; rw [if_neg (fun hh => x2 hh.2)]
            have a2 : offK (n1.withPar p.par) x y = y := by unfold offK; rw [if_neg (fun hh => x3 hh.2)]
            rw [a1, a2]
  show (0, (⟨hungN N (n1.withPar p.par) G Q T p', s.root, s.next⟩ : Ds)) = (0, s)
  rw [this]
end Do
end Go.Proofs.Ytomhfndjnbhliaa
