/-
  What patches keep: a display that may be, behind a patch, may be.
-/
import Derived.Test.YtcdnakcojanaeabGreatDoGoodJ
import Derived.Test.YtcdnakcojanaeabGreatDoInsAJ
namespace Go.Proofs.YtcdnakcojanaeabGreat
open Go.ChangeShapes Go.WideShapes Go.ChangeAt Go.RowKit Go.Deep
open Do

namespace Do
theorem pl_set : ∀ {ns : List Nd} {q : Nat} {n m : Nd}, ns[q]? = some n → m.id = n.id → ∀ x, pl (ns.set q m) x = pl ns x
  | [], _, _, _, h, _, _ => by simp at h
  | a :: r, 0, n, m, h, hid, x => by
    simp only [List.getElem?_cons_zero, Option.some.injEq] at h
    subst h
    simp [pl, hid]
  | a :: r, q + 1, n, m, h, hid, x => by
    simp only [List.set_cons_succ, pl, pl_set (ns := r) (by simpa using h) hid x]

theorem pl_off (ns : List Nd) (n : Nd) (x : Int) : pl (offN ns n) x = pl ns x := by
  unfold offN
  split
  · rfl
  · split
    · rfl
    · split
      · rfl
      · rename_i q _ m hm
        exact pl_set (m := m.withKids (lessZ m.kids n.id)) hm rfl x

theorem at_off {ns : List Nd} (hu : Up ns) (n : Nd) {x : Int} {t : Nat} {m : Nd} (ht : pl ns x = some t) (hm : ns[t]? = some m) : (offN ns n)[t]? = some (offK n x m) := by
  have h1 : nd (offN ns n) x = some (offK n x m) := by rw [nd_off hu, at_nd ht hm]; rfl
  obtain ⟨p, h2, h3⟩ := nd_at h1
  rw [pl_off, ht] at h2
  cases h2
  exact h3

theorem Good.noself {ns : List Nd} (h : Good ns) {x : Int} {n : Nd} (hx : nd ns x = some n) : n.par ≠ x := by
  intro e
  obtain ⟨k, hk⟩ := (h.at hx).out
  obtain ⟨q, p1, p2⟩ := nd_at hx
  have := (stp_next hk (by have := (h.at hx).pos; omega) p1 p2).1
  rw [e] at this
  omega

theorem offK_self {ns : List Nd} (h : Good ns) {x : Int} {n : Nd} (hx : nd ns x = some n) : offK n x n = n := by
  unfold offK
  rw [if_neg]
  exact fun h' => h.noself hx h'.2.symm

theorem hungN_eq {ns : List Nd} (h : Good ns) {n m : Nd} {q t : Nat} {p : Pt} (hq : pl ns p.id = some q) (hn : ns[q]? = some n) (ht : pl ns p.par = some t) (hm : ns[t]? = some m) (hne : p.par ≠ p.id) :
    hungN ns n m q t p = ((offN ns n).set t (m.withKids (insZ (lessZ m.kids p.id) p.at_.toNat p.id))).set q (n.withPar p.par) := by
  have h1 := at_off h.up n ht hm
  have h2 := at_off h.up n hq hn
  rw [offK_self h (at_nd hq hn)] at h2
  have hqt : t ≠ q := by
    rintro rfl
    rw [hn] at hm
    cases hm
    have e1 := (nd_some (at_nd hq hn)).2
    have e2 := (nd_some (at_nd ht hn)).2
    exact hne (e2.symm.trans e1)
  unfold hungN
  rw [h1]
  simp only
  have e : (offK n p.par m).withKids (insZ (lessZ m.kids p.id) p.at_.toNat p.id) = m.withKids (insZ (lessZ m.kids p.id) p.at_.toNat p.id) := by
    unfold offK
    split <;> rfl
  rw [e, List.getElem?_set_ne hqt, h2]

theorem nd_hung {ns : List Nd} (h : Good ns) {n m : Nd} {q t : Nat} {p : Pt} (hq : pl ns p.id = some q) (hn : ns[q]? = some n) (ht : pl ns p.par = some t) (hm : ns[t]? = some m) (hne : p.par ≠ p.id) :
    Up (hungN ns n m q t p) ∧ ∀ x, nd (hungN ns n m q t p) x = if x = p.id then some (n.withPar p.par) else if x = p.par then some (m.withKids (insZ (lessZ m.kids p.id) p.at_.toNat p.id)) else (nd ns x).map (offK n x) := by
  have h1 := at_off h.up n ht hm
  have h2 := at_off h.up n hq hn
  rw [offK_self h (at_nd hq hn)] at h2
  have e1 := (nd_some (at_nd hq hn)).2
  have e2 := (nd_some (at_nd ht hm)).2
  have hqt : t ≠ q := by
    rintro rfl
    rw [hn] at hm
    cases hm
    exact hne (e2.symm.trans e1)
  rw [hungN_eq h hq hn ht hm hne]
  have u1 := off_up h.up n
  have u2 := u1.set (m := m.withKids (insZ (lessZ m.kids p.id) p.at_.toNat p.id)) h1 (offK_id n p.par m).symm
  have g2 : ((offN ns n).set t (m.withKids (insZ (lessZ m.kids p.id) p.at_.toNat p.id)))[q]? = some n := by rw [List.getElem?_set_ne hqt]; exact h2
  refine ⟨u2.set g2 rfl, fun x => ?_⟩
  rw [nd_set (m := n.withPar p.par) u2 g2 rfl x, nd_set (m := m.withKids (insZ (lessZ m.kids p.id) p.at_.toNat p.id)) u1 h1 (offK_id n p.par m).symm x, e1, offK_id, e2, nd_off h.up]

theorem mem_insZ {ks : List Int} {i : Nat} {x y : Int} : y ∈ insZ ks i x ↔ y = x ∨ y ∈ ks := by
  unfold insZ
  simp only [List.append_assoc, List.mem_append, List.mem_singleton]
  constructor
  · rintro (h | h | h)
    · exact Or.inr (List.mem_of_mem_take h)
    · exact Or.inl h
    · exact Or.inr (List.mem_of_mem_drop h)
  · rintro (h | h)
    · exact Or.inr (Or.inl h)
    · rw [← List.take_append_drop i ks] at h
      rcases List.mem_append.1 h with h | h
      · exact Or.inl h
      · exact Or.inr (Or.inr h)

theorem nodup_insZ {ks : List Int} {i : Nat} {x : Int} (h : ks.Nodup) (hx : ¬ x ∈ ks) : (insZ ks i x).Nodup := by
  unfold insZ
  rw [List.append_assoc]
  have h' := h
  rw [← List.take_append_drop i ks] at h'
  rw [List.nodup_append] at h' ⊢
  refine ⟨h'.1, ?_, ?_⟩
  · refine List.nodup_cons.2 ⟨fun h1 => hx (List.mem_of_mem_drop h1), h'.2.1⟩
  · intro a ha b hb
    rcases List.mem_cons.1 hb with rfl | hb
    · rintro rfl
      exact hx (List.mem_of_mem_take ha)
    · exact h'.2.2 a ha b hb

theorem mem_lessZ {ks : List Int} {x y : Int} : y ∈ lessZ ks x ↔ y ∈ ks ∧ y ≠ x := by
  unfold lessZ
  simp [List.mem_filter]

/-- Hung elsewhere, the nodes fit. -/
theorem hung_good {ns : List Nd} (h : Good ns) {n m : Nd} {q t : Nat} {p : Pt} (hq : pl ns p.id = some q) (hn : ns[q]? = some n) (ht : pl ns p.par = some t) (hm : ns[t]? = some m) (hw : ¬ Wi ns p.par p.id) (htag : ¬ m.tag.size = 0) (h32 : (lessZ m.kids p.id).length < 32) (hat : p.at_.toNat ≤ (lessZ m.kids p.id).length) : Good (hungN ns n m q t p) := by
  have hne : p.par ≠ p.id := fun e => hw (by rw [e]; exact .refl _)
  obtain ⟨hu, hnd⟩ := nd_hung h hq hn ht hm hne
  have an := h.at (at_nd hq hn)
  have am := h.at (at_nd ht hm)
  generalize hungN ns n m q t p = R at *
  obtain ⟨pw, pi, pp, pat, pg, pk, pt, pn, pv⟩ := p
  simp only at *
  have hp0 : pp ≠ 0 := by have := am.pos; omega
  have hi0 : pi ≠ 0 := by have := an.pos; omega
  -- what is told of a number's parent
  have parOf : ∀ x, x ≠ pi → (nd R x).map Nd.par = (nd ns x).map Nd.par := by
    intro x hx
    rw [hnd, if_neg hx]
    by_cases e : x = pp
    · rw [if_pos e, e, at_nd ht hm]; rfl
    · rw [if_neg e]
      cases nd ns x with
      | none => rfl
      | some m0 => simp [offK_par]
  have outs : ∀ k x, Out ns k x → ¬ Wi ns x pi → Out R k x := by
    intro k
    induction k with
    | zero => intro x hx _; exact hx
    | succ k ih =>
      intro x hx hwx
      rcases out_nd.1 hx with h0 | ⟨n0, q1, q2⟩
      · exact out_nd.2 (Or.inl h0)
      · have hxi : x ≠ pi := fun e => hwx (by rw [e]; exact .refl _)
        have e1 := parOf x hxi
        rw [q1] at e1
        cases e2 : nd R x with
        | none => rw [e2] at e1; cases e1
        | some n1 =>
          rw [e2] at e1
          simp only [Option.map_some, Option.some.injEq] at e1
          refine out_nd.2 (Or.inr ⟨n1, e2, ?_⟩)
          rw [e1]
          exact ih n0.par q2 fun hw' => hwx (.step q1 hw')
  obtain ⟨kp, hkp⟩ := am.out
  have outI : Out R (kp + 1) pi := out_nd.2 (Or.inr ⟨n.withPar pp, by rw [hnd, if_pos rfl], outs kp pp hkp hw⟩)
  have outAll : ∀ k x, Out ns k x → ∃ j, Out R j x := by
    intro k
    induction k with
    | zero => intro x hx; exact ⟨0, hx⟩
    | succ k ih =>
      intro x hx
      by_cases hxi : x = pi
      · rw [hxi]; exact ⟨_, outI⟩
      · rcases out_nd.1 hx with h0 | ⟨n0, q1, q2⟩
        · exact ⟨0, h0⟩
        · have e1 := parOf x hxi
          rw [q1] at e1
          cases e2 : nd R x with
          | none => rw [e2] at e1; cases e1
          | some n1 =>
            rw [e2] at e1
            simp only [Option.map_some, Option.some.injEq] at e1
            obtain ⟨j, hj⟩ := ih n0.par q2
            exact ⟨j + 1, out_nd.2 (Or.inr ⟨n1, e2, by rw [e1]; exact hj⟩)⟩
  -- a kid that is not pi keeps its parent
  have kidOf : ∀ x y n0, nd ns x = some n0 → y ∈ n0.kids → y ≠ pi → ∃ m1, nd R y = some m1 ∧ m1.par = x := by
    intro x y n0 hx hy hne'
    obtain ⟨m0, q1, q2⟩ := (h.at hx).kid y hy
    have e1 := parOf y hne'
    rw [q1] at e1
    cases e2 : nd R y with
    | none => rw [e2] at e1; cases e1
    | some m1 =>
      rw [e2] at e1
      simp only [Option.map_some, Option.some.injEq] at e1
      exact ⟨m1, rfl, e1.trans q2⟩
  -- a node that is not pi is among its parent's kids
  have memOf : ∀ x z m0, nd ns z = some m0 → x ∈ m0.kids → x ≠ pi → ∃ m1, nd R z = some m1 ∧ x ∈ m1.kids := by
    intro x z m0 hz hx hne'
    by_cases e1 : z = pi
    · refine ⟨n.withPar pp, by rw [hnd, if_pos e1], ?_⟩
      rw [e1, at_nd hq hn] at hz
      cases hz
      exact hx
    · by_cases e2 : z = pp
      · refine ⟨_, by rw [hnd, if_neg e1, if_pos e2], ?_⟩
        rw [e2, at_nd ht hm] at hz
        cases hz
        exact mem_insZ.2 (Or.inr (mem_lessZ.2 ⟨hx, hne'⟩))
      · refine ⟨offK n z m0, by rw [hnd, if_neg e1, if_neg e2, hz]; rfl, ?_⟩
        exact offK_kids.2 ⟨hx, fun h' => hne' (h'.2.2.trans an.id)⟩
  refine Good.of hu fun x n0 hx hid => ?_
  have hx0 := hx
  rw [hnd] at hx
  by_cases e1 : x = pi
  · subst e1
    rw [if_pos rfl] at hx
    cases hx
    refine ⟨an.pos, an.alone, fun y hy => ?_, an.nodup, fun _ => ?_, ⟨_, outI⟩⟩
    · refine kidOf x y n (at_nd hq hn) hy ?_
      rintro rfl
      obtain ⟨m0, q1, q2⟩ := an.kid y hy
      rw [at_nd hq hn] at q1
      cases q1
      exact h.noself (at_nd hq hn) q2
    · refine ⟨m.withKids (insZ (lessZ m.kids x) pat.toNat x), (by show nd R pp = _; rw [hnd, if_neg hne, if_pos rfl]), ?_⟩
      exact mem_insZ.2 (Or.inl rfl)
  · rw [if_neg e1] at hx
    by_cases e2 : x = pp
    · subst e2
      rw [if_pos rfl] at hx
      cases hx
      refine ⟨am.pos, ?_, fun y hy => ?_, ?_, fun h0 => ?_, outAll _ _ hkp⟩
      · have := alone_iff.1 am.alone
        refine alone_iff.2 ⟨this.1, fun h1 => absurd h1 htag, ?_⟩
        show (insZ _ _ _).length ≤ 32
        rw [insZ_length _ hat]
        omega
      · rcases mem_insZ.1 hy with rfl | hy
        · exact ⟨n.withPar x, by rw [hnd, if_pos rfl], rfl⟩
        · have := mem_lessZ.1 hy
          exact kidOf x y m (at_nd ht hm) this.1 this.2
      · exact nodup_insZ (am.nodup.sublist List.filter_sublist) fun h1 => (mem_lessZ.1 h1).2 rfl
      · obtain ⟨m0, q1, q2⟩ := am.par h0
        exact memOf x m.par m0 q1 q2 e1
    · rw [if_neg e2] at hx
      cases e3 : nd ns x with
      | none => rw [e3] at hx; cases hx
      | some m0 =>
        rw [e3] at hx
        simp only [Option.map_some, Option.some.injEq] at hx
        subst hx
        have a0 := h.at e3
        obtain ⟨k0, hk0⟩ := a0.out
        refine ⟨a0.pos, offK_alone a0.alone, fun y hy => ?_, offK_nodup a0.nodup, fun h0 => ?_, outAll _ _ hk0⟩
        · have hy' := offK_kids.1 hy
          refine kidOf x y m0 e3 hy'.1 ?_
          rintro rfl
          obtain ⟨m1, q1, q2⟩ := a0.kid y hy'.1
          rw [at_nd hq hn] at q1
          cases q1
          refine hy'.2 ⟨?_, q2.symm, an.id.symm⟩
          rw [q2]
          have := a0.pos
          omega
        · rw [offK_par] at h0 ⊢
          obtain ⟨m1, q1, q2⟩ := a0.par h0
          exact memOf x m0.par m1 q1 q2 e1

/-- Taken away, the rest fits. -/
theorem left_good {ns : List Nd} (h : Good ns) {x : Int} {n : Nd} (hx : nd ns x = some n) : Good (leftN (offN ns n) (markL (offN ns n) (ns.length + 1) x)) ∧ ∀ y, nd (leftN (offN ns n) (markL (offN ns n) (ns.length + 1) x)) y = if y ∈ markL (offN ns n) (ns.length + 1) x then none else (nd ns y).map (offK n y) := by
  have hm := h.marks hx
  have an := h.at hx
  have hnd : ∀ y, nd (leftN (offN ns n) (markL (offN ns n) (ns.length + 1) x)) y = if y ∈ markL (offN ns n) (ns.length + 1) x then none else (nd ns y).map (offK n y) := fun y => by rw [nd_left, nd_off h.up]
  refine ⟨?_, hnd⟩
  have hu : Up (leftN (offN ns n) (markL (offN ns n) (ns.length + 1) x)) := (off_up h.up n).sub _
  generalize markL (offN ns n) (ns.length + 1) x = L at *
  generalize leftN (offN ns n) L = R at *
  have stay : ∀ y m0, nd ns y = some m0 → ¬ Wi ns y x → nd R y = some (offK n y m0) := by
    intro y m0 hy hw
    rw [hnd, if_neg (fun h' => hw ((hm y).1 h')), hy]
    rfl
  have outs : ∀ k y, Out ns k y → ¬ Wi ns y x → Out R k y := by
    intro k
    induction k with
    | zero => intro y hy _; exact hy
    | succ k ih =>
      intro y hy hw
      rcases out_nd.1 hy with h0 | ⟨n0, q1, q2⟩
      · exact out_nd.2 (Or.inl h0)
      · refine out_nd.2 (Or.inr ⟨_, stay y n0 q1 hw, ?_⟩)
        rw [offK_par]
        exact ih n0.par q2 fun hw' => hw (.step q1 hw')
  refine Good.of hu fun y m1 hy hid => ?_
  rw [hnd] at hy
  by_cases hyL : y ∈ L
  · rw [if_pos hyL] at hy; cases hy
  · rw [if_neg hyL] at hy
    have hw : ¬ Wi ns y x := fun h' => hyL ((hm y).2 h')
    cases e3 : nd ns y with
    | none => rw [e3] at hy; cases hy
    | some m0 =>
      rw [e3] at hy
      simp only [Option.map_some, Option.some.injEq] at hy
      subst hy
      have a0 := h.at e3
      obtain ⟨k0, hk0⟩ := a0.out
      refine ⟨a0.pos, offK_alone a0.alone, fun z hz => ?_, offK_nodup a0.nodup, fun h0 => ?_, ⟨k0, outs k0 y hk0 hw⟩⟩
      · have hz' := offK_kids.1 hz
        obtain ⟨m2, q1, q2⟩ := a0.kid z hz'.1
        refine ⟨_, stay z m2 q1 fun hwz => ?_, by rw [offK_par]; exact q2⟩
        by_cases e : z = x
        · subst e
          rw [hx] at q1
          cases q1
          refine hz'.2 ⟨?_, q2.symm, an.id.symm⟩
          rw [q2]
          have := a0.pos
          omega
        · exact hw (by have := hwz.inv q1 e; rwa [q2] at this)
      · rw [offK_par] at h0 ⊢
        obtain ⟨m2, q1, q2⟩ := a0.par h0
        have hw2 : ¬ Wi ns m0.par x := fun h' => hw (.step e3 h')
        refine ⟨_, stay m0.par m2 q1 hw2, offK_kids.2 ⟨q2, fun h' => ?_⟩⟩
        have : y = x := h'.2.2.trans an.id
        exact hw (by rw [this]; exact .refl _)

/-- One node with other data, the same number, parent and kids. -/
theorem set_good {ns : List Nd} (h : Good ns) {q : Nat} {n m : Nd} (hq : ns[q]? = some n) (hi : m.id = n.id) (hp : m.par = n.par) (hk : m.kids = n.kids) (ha : aloneB m = true) : Good (ns.set q m) ∧ ∀ x, nd (ns.set q m) x = if x = n.id then some m else nd ns x := by
  have hnd := fun x => nd_set h.up hq hi x
  have hn := nd_of h.up (List.mem_of_getElem? hq)
  refine ⟨?_, hnd⟩
  have hu := h.up.set hq hi
  generalize ns.set q m = R at *
  have like : ∀ x n0, nd ns x = some n0 → ∃ n1, nd R x = some n1 ∧ n1.par = n0.par ∧ n1.kids = n0.kids := by
    intro x n0 hx
    rw [hnd]
    by_cases e : x = n.id
    · rw [if_pos e]
      rw [e, hn] at hx
      cases hx
      exact ⟨m, rfl, hp, hk⟩
    · rw [if_neg e]
      exact ⟨n0, hx, rfl, rfl⟩
  have outs : ∀ k x, Out ns k x → Out R k x := by
    intro k
    induction k with
    | zero => intro x hx; exact hx
    | succ k ih =>
      intro x hx
      rcases out_nd.1 hx with h0 | ⟨n0, q1, q2⟩
      · exact out_nd.2 (Or.inl h0)
      · obtain ⟨n1, r1, r2, -⟩ := like x n0 q1
        exact out_nd.2 (Or.inr ⟨n1, r1, by rw [r2]; exact ih _ q2⟩)
  refine Good.of hu fun x n1 hx hid => ?_
  obtain ⟨n0, h0, hpk⟩ : ∃ n0, nd ns x = some n0 ∧ n1.par = n0.par ∧ n1.kids = n0.kids := by
    have hx' := hx
    rw [hnd] at hx'
    by_cases e : x = n.id
    · rw [if_pos e] at hx'
      cases hx'
      exact ⟨n, by rw [e]; exact hn, hp, hk⟩
    · rw [if_neg e] at hx'
      exact ⟨n1, hx', rfl, rfl⟩
  have a0 := h.at h0
  obtain ⟨k0, hk0⟩ := a0.out
  refine ⟨a0.pos, ?_, fun y hy => ?_, by rw [hpk.2]; exact a0.nodup, fun hz => ?_, ⟨k0, outs _ _ hk0⟩⟩
  · rw [hnd] at hx
    by_cases e : x = n.id
    · rw [if_pos e] at hx
      cases hx
      exact ha
    · rw [if_neg e] at hx
      rw [h0] at hx
      cases hx
      exact a0.alone
  · rw [hpk.2] at hy
    obtain ⟨m1, q1, q2⟩ := a0.kid y hy
    obtain ⟨m2, r1, r2, -⟩ := like y m1 q1
    exact ⟨m2, r1, r2.trans q2⟩
  · rw [hpk.1] at hz ⊢
    obtain ⟨m1, q1, q2⟩ := a0.par hz
    obtain ⟨m2, r1, -, r3⟩ := like _ m1 q1
    exact ⟨m2, r1, by rw [r3]; exact q2⟩

theorem nd_snoc (ns : List Nd) (n : Nd) (x : Int) : nd (ns ++ [n]) x = match nd ns x with
    | some m => some m
    | none => if n.id = x then some n else none := by
  unfold nd
  rw [List.find?_append]
  cases ns.find? fun m => m.id == x with
  | some m => rfl
  | none =>
    simp only [Option.none_or]
    have := nd_cons n [] x
    unfold nd at this
    rw [this]
    rfl

/-- A node more, that hangs nowhere. -/
theorem push_good {ns : List Nd} (h : Good ns) {n : Nd} (hlt : ∀ m ∈ ns, m.id < n.id) (hpos : 1 ≤ n.id) (hp : n.par = 0) (hk : n.kids = []) (ha : aloneB n = true) : Good (ns ++ [n]) := by
  have hu : Up (ns ++ [n]) := by
    intro i j a b hij hia hjb
    have hj : j < ns.length + 1 := by have := (List.getElem?_eq_some_iff.1 hjb).1; simpa using this
    rw [List.getElem?_append_left (by omega)] at hia
    by_cases e : j < ns.length
    · rw [List.getElem?_append_left e] at hjb
      exact h.up i j a b hij hia hjb
    · rw [List.getElem?_append_right (by omega)] at hjb
      have : j - ns.length = 0 := by omega
      rw [this] at hjb
      simp only [List.getElem?_cons_zero, Option.some.injEq] at hjb
      subst hjb
      exact hlt a (List.mem_of_getElem? hia)
  have old : ∀ x n0, nd ns x = some n0 → nd (ns ++ [n]) x = some n0 := fun x n0 hx => by rw [nd_snoc, hx]
  have outs : ∀ k x, Out ns k x → Out (ns ++ [n]) k x := by
    intro k
    induction k with
    | zero => intro x hx; exact hx
    | succ k ih =>
      intro x hx
      rcases out_nd.1 hx with h0 | ⟨n0, q1, q2⟩
      · exact out_nd.2 (Or.inl h0)
      · exact out_nd.2 (Or.inr ⟨n0, old x n0 q1, ih _ q2⟩)
  refine Good.of hu fun x n1 hx hid => ?_
  have hx' := hx
  rw [nd_snoc] at hx'
  cases e : nd ns x with
  | some m =>
    rw [e] at hx'
    cases hx'
    have a0 := h.at e
    obtain ⟨k0, hk0⟩ := a0.out
    refine ⟨a0.pos, a0.alone, fun y hy => ?_, a0.nodup, fun hz => ?_, ⟨k0, outs _ _ hk0⟩⟩
    · obtain ⟨m1, q1, q2⟩ := a0.kid y hy
      exact ⟨m1, old _ _ q1, q2⟩
    · obtain ⟨m1, q1, q2⟩ := a0.par hz
      exact ⟨m1, old _ _ q1, q2⟩
  | none =>
    rw [e] at hx'
    simp only at hx'
    split at hx'
    · cases hx'
      rename_i hx1
      subst hx1
      refine ⟨hpos, ha, fun y hy => ?_, by rw [hk]; exact List.nodup_nil, fun hz => absurd hp hz, ⟨1, out_nd.2 (Or.inr ⟨n, hx, ?_⟩)⟩⟩
      · rw [hk] at hy; cases hy
      · rw [hp]; exact (rfl : (0 : Int) = 0)
    · cases hx'
end Do
end Go.Proofs.YtcdnakcojanaeabGreat

/-
  What any patch does, as mathematics; behind it a display may be.
-/
namespace Go.Proofs.YtcdnakcojanaeabGreat
open Go.ChangeShapes Go.WideShapes Go.ChangeAt Go.RowKit Go.Deep
open Do

namespace Do
theorem less_cm : ∀ (a b : List UInt8), Op.bytesLess a b = true ↔ Go.Lib.compareBytes a b < 0
  | [], [] => by simp [Op.bytesLess, Go.Lib.compareBytes]
  | [], _ :: _ => by simp [Op.bytesLess, Go.Lib.compareBytes]
  | _ :: _, [] => by simp [Op.bytesLess, Go.Lib.compareBytes]
  | a :: ra, b :: rb => by
    have ih := less_cm ra rb
    simp only [Op.bytesLess, Go.Lib.compareBytes, Bool.or_eq_true, Bool.and_eq_true, decide_eq_true_eq, beq_iff_eq]
    rw [ih]
    by_cases h1 : a < b
    · simp [h1]
    · rw [if_neg h1]
      by_cases h2 : b < a
      · rw [if_pos h2]
        constructor
        · rintro (h | ⟨h, -⟩)
          · exact absurd h h1
          · subst h; exact absurd h2 h1
        · intro h; omega
      · rw [if_neg h2]
        have he : a = b := UInt8.le_antisymm (UInt8.not_lt.1 h2) (UInt8.not_lt.1 h1)
        subst he
        simp [h1]

theorem less_cmB (a b : ByteArray) : Op.bytesLess a.toList b.toList = true ↔ cmB a b < 0 := by
  unfold cmB
  rw [ByteArray.toList_eq, ByteArray.toList_eq]
  exact less_cm _ _

theorem cmB_irr (a : ByteArray) : ¬ cmB a a < 0 := by
  have := (cmB_eq (a := a) (b := a)).2 rfl
  omega

theorem UpA.tail {a : Atr} {l : List Atr} (h : UpA (a :: l)) : UpA l := fun i j x y hij hx hy => h (i + 1) (j + 1) x y (by omega) (by simpa using hx) (by simpa using hy)

theorem upA_pw {l : List Atr} : UpA l ↔ l.Pairwise fun a b => cmB a.1 b.1 < 0 := by
  rw [List.pairwise_iff_getElem]
  constructor
  · intro h i j hi hj hij
    exact h i j _ _ hij (List.getElem?_eq_getElem hi) (List.getElem?_eq_getElem hj)
  · intro h i j a b hij ha hb
    obtain ⟨h1, rfl⟩ := List.getElem?_eq_some_iff.1 ha
    obtain ⟨h2, rfl⟩ := List.getElem?_eq_some_iff.1 hb
    exact h i j h1 h2 hij

/-- Attributes that may be: few, each one by itself, their names rise. -/
theorem attrsB_iff {l : List Atr} : attrsB l = true ↔ l.length ≤ 16 ∧ (∀ s ∈ l, nameB s.1 = true ∧ s.2.size ≤ 128) ∧ UpA l := by
  unfold attrsB
  rw [Bool.and_eq_true, decide_eq_true_iff, List.all_eq_true]
  have one : ∀ i (hi : i < l.length), okA l i = true ↔ (nameB l[i].1 = true ∧ l[i].2.size ≤ 128) ∧ (i = 0 ∨ ∀ (h : i - 1 < l.length), cmB l[i - 1].1 l[i].1 < 0) := by
    intro i hi
    unfold okA
    rw [List.getElem?_eq_getElem hi]
    simp only
    rw [List.getElem?_eq_getElem (show i - 1 < l.length by omega)]
    simp only [Bool.and_eq_true, Bool.or_eq_true, decide_eq_true_iff, less_cmB]
    constructor
    · rintro ⟨h1, h2⟩; exact ⟨h1, h2.imp id fun h _ => h⟩
    · rintro ⟨h1, h2⟩; exact ⟨h1, h2.imp id fun h => h (by omega)⟩
  constructor
  · rintro ⟨h1, h2⟩
    refine ⟨h1, fun s hs => ?_, ?_⟩
    · obtain ⟨i, hi, rfl⟩ := List.getElem_of_mem hs
      exact ((one i hi).1 (h2 i (by simpa using hi))).1
    · have step : ∀ d i (hi : i < l.length) (hj : i + 1 + d < l.length), cmB l[i].1 l[i + 1 + d].1 < 0 := by
        intro d
        induction d with
        | zero =>
          intro i hi hj
          rcases ((one (i + 1) (by omega)).1 (h2 (i + 1) (by simp; omega))).2 with h | h
          · omega
          · have := h (by omega)
            simpa using this
        | succ d ih =>
          intro i hi hj
          have h3 := ih i hi (by omega)
          rcases ((one (i + 1 + (d + 1)) (by omega)).1 (h2 _ (by simp; omega))).2 with h | h
          · omega
          · have := h (by omega)
            simp only [show i + 1 + (d + 1) - 1 = i + 1 + d from by omega] at this
            exact cmB_trans h3 this
      intro i j a b hij ha hb
      obtain ⟨q1, rfl⟩ := List.getElem?_eq_some_iff.1 ha
      obtain ⟨q2, rfl⟩ := List.getElem?_eq_some_iff.1 hb
      have := step (j - (i + 1)) i q1 (by omega)
      simpa only [show i + 1 + (j - (i + 1)) = j from by omega] using this
  · rintro ⟨h1, h2, h3⟩
    refine ⟨h1, fun i hi => ?_⟩
    have hi : i < l.length := by simpa using hi
    refine (one i hi).2 ⟨h2 _ (List.getElem_mem hi), ?_⟩
    by_cases h0 : i = 0
    · exact Or.inl h0
    · exact Or.inr fun h => h3 (i - 1) i _ _ (by omega) (List.getElem?_eq_getElem h) (List.getElem?_eq_getElem hi)

theorem plain_ats {g k t : ByteArray} {ats : List Atr} (h : plainB g k t ats = true) : attrsB ats = true := by
  by_cases h0 : g.size = 0
  · rw [plainB_text h0] at h
    simp only [Bool.and_eq_true, beq_iff_eq] at h
    have : ats = [] := List.eq_nil_of_length_eq_zero (by omega)
    subst this
    rfl
  · rw [plainB_elem h0] at h
    simp only [Bool.and_eq_true] at h
    exact h.2

theorem alone_upA {n : Nd} (h : aloneB n = true) : UpA n.ats ∧ n.ats.length ≤ 16 := by
  have := attrsB_iff.1 (plain_ats (alone_iff.1 h).1)
  exact ⟨this.2.2, this.1⟩

theorem alone_ats {n : Nd} {l : List Atr} (h : aloneB n = true) (h0 : ¬ n.tag.size = 0) (hl : attrsB l = true) : aloneB (n.withAts l) = true := by
  have h' := alone_iff.1 h
  refine alone_iff.2 ⟨?_, h'.2⟩
  show plainB n.tag n.key n.txt l = true
  have h1 := h'.1
  rw [plainB_elem h0] at h1 ⊢
  simp only [Bool.and_eq_true] at h1 ⊢
  exact ⟨h1.1, hl⟩

theorem alone_txt {n : Nd} {x : ByteArray} (h : aloneB n = true) (h0 : n.tag.size = 0) (hx : x.size ≤ 128) : aloneB (n.withTxt x) = true := by
  have h' := alone_iff.1 h
  refine alone_iff.2 ⟨?_, h'.2⟩
  show plainB n.tag n.key x n.ats = true
  have h1 := h'.1
  rw [plainB_text h0] at h1 ⊢
  simp only [Bool.and_eq_true, decide_eq_true_iff] at h1 ⊢
  exact ⟨⟨h1.1.1, by omega⟩, h1.2⟩

theorem nmD_name {g : ByteArray} (h : nmD g = true) : nameB g = true := by
  unfold nmD at h
  split at h
  · cases h
  · rename_i h0
    rw [plainB_elem h0] at h
    simp only [Bool.and_eq_true] at h
    exact h.1.1.1

theorem attrs_less {l : List Atr} (t : ByteArray) (h : attrsB l = true) : attrsB (lessA l t) = true := by
  have h' := attrsB_iff.1 h
  have hs : (lessA l t).Sublist l := List.filter_sublist
  refine attrsB_iff.2 ⟨Nat.le_trans hs.length_le h'.1, fun s hs' => h'.2.1 s (hs.subset hs'), ?_⟩
  exact upA_pw.2 ((upA_pw.1 h'.2.2).sublist hs)

theorem lwA_lt : ∀ {l : List Atr} {t : ByteArray} {m : Nat} {s : Atr}, m < lwA l t → l[m]? = some s → cmB s.1 t < 0
  | [], _, _, _, h, _ => by simp [lwA] at h
  | a :: l, t, m, s, hm, hs => by
    simp only [lwA] at hm
    split at hm
    · rename_i ha
      cases m with
      | zero => simp at hs; subst hs; exact ha
      | succ m => exact lwA_lt (l := l) (m := m) (by omega) (by simpa using hs)
    · omega

theorem lwA_ge : ∀ {l : List Atr} {t : ByteArray} {s : Atr}, l[lwA l t]? = some s → ¬ cmB s.1 t < 0
  | [], _, _, h => by simp at h
  | a :: l, t, s, hs => by
    simp only [lwA] at hs
    split at hs
    · exact lwA_ge (l := l) (by simpa using hs)
    · rename_i ha
      simp at hs
      subst hs
      exact ha

theorem attrs_put {l : List Atr} {t x : ByteArray} (h : attrsB l = true) (hx : x.size ≤ 128) : attrsB (putV l (lwA l t) x) = true := by
  have h' := attrsB_iff.1 h
  unfold putV
  cases e : l[lwA l t]? with
  | none => exact h
  | some s =>
    have names : ∀ (i : Nat) (a : Atr), (l.set (lwA l t) (s.1, x))[i]? = some a → ∃ b, l[i]? = some b ∧ b.1 = a.1 := by
      intro i a ha
      rcases get_set_cases ha with ⟨e1, e2⟩ | ⟨-, ha'⟩
      · rw [e1, e2]; exact ⟨s, e, rfl⟩
      · exact ⟨a, ha', rfl⟩
    refine attrsB_iff.2 ⟨by simpa using h'.1, fun a ha => ?_, fun i j a b hij ha hb => ?_⟩
    · obtain ⟨i, hi, rfl⟩ := List.getElem_of_mem ha
      rcases get_set_cases (List.getElem?_eq_getElem hi) with ⟨-, e2⟩ | ⟨-, ha'⟩
      · rw [e2]; exact ⟨(h'.2.1 s (List.mem_of_getElem? e)).1, hx⟩
      · exact h'.2.1 _ (List.mem_of_getElem? ha')
    · obtain ⟨a', q1, q2⟩ := names i a ha
      obtain ⟨b', r1, r2⟩ := names j b hb
      rw [← q2, ← r2]
      exact h'.2.2 i j a' b' hij q1 r1

theorem attrs_ins {l : List Atr} {t x : ByteArray} (h : attrsB l = true) (hx : x.size ≤ 128) (ht : nameB t = true) (hl : ¬ l.length = 16) (hn : hasA l t = false) : attrsB (insAt l (lwA l t) (t, x)) = true := by
  have h' := attrsB_iff.1 h
  have hle := lwA_le l t
  have mem : ∀ a ∈ insAt l (lwA l t) (t, x), a = (t, x) ∨ a ∈ l := by
    intro a ha
    unfold insAt at ha
    simp only [List.append_assoc, List.mem_append, List.mem_singleton] at ha
    rcases ha with ha | ha | ha
    · exact Or.inr (List.mem_of_mem_take ha)
    · exact Or.inl ha
    · exact Or.inr (List.mem_of_mem_drop ha)
  refine attrsB_iff.2 ⟨by rw [insAt_length _ hle]; omega, fun a ha => ?_, upA_pw.2 ?_⟩
  · rcases mem a ha with rfl | ha
    · exact ⟨ht, hx⟩
    · exact h'.2.1 a ha
  · have hp := upA_pw.1 h'.2.2
    have lo : ∀ a ∈ l.take (lwA l t), cmB a.1 t < 0 := by
      intro a ha
      obtain ⟨i, hi, e⟩ := List.mem_take_iff_getElem.1 ha
      subst e
      exact lwA_lt (by omega) (List.getElem?_eq_getElem (by omega))
    have hi : ∀ b ∈ l.drop (lwA l t), cmB t b.1 < 0 := by
      intro b hb
      obtain ⟨i, hi, e⟩ := List.mem_drop_iff_getElem.1 hb
      subst e
      have hlt : lwA l t < l.length := by omega
      have hs := List.getElem?_eq_getElem hlt
      have h1 := lwA_ge hs
      have h2 : ¬ cmB l[lwA l t].1 t = 0 := by
        intro e0
        unfold hasA at hn
        rw [hs] at hn
        simp [e0] at hn
      have hne : ¬ l[lwA l t].1 = t := fun e0 => h2 (cmB_eq.2 e0)
      have h3 : cmB t l[lwA l t].1 < 0 := by
        have hr := cmL_turn t.data.toList l[lwA l t].1.data.toList
        unfold cmB at *
        omega
      by_cases e0 : i = 0
      · subst e0; simpa using h3
      · exact cmB_trans h3 (h'.2.2 (lwA l t) (lwA l t + i) _ _ (by omega) hs (List.getElem?_eq_getElem (by omega)))
    unfold insAt
    rw [List.append_assoc, List.pairwise_append]
    refine ⟨hp.sublist (List.take_sublist _ _), ?_, ?_⟩
    · rw [List.singleton_append, List.pairwise_cons]
      exact ⟨hi, hp.sublist (List.drop_sublist _ _)⟩
    · intro a ha b hb
      rcases List.mem_append.1 hb with hb | hb
      · rw [List.mem_singleton] at hb
        subst hb
        exact lo a ha
      · exact cmB_trans (lo a ha) (hi b hb)
where
  cmL_turn : ∀ (a b : List UInt8), Go.Lib.compareBytes a b = - Go.Lib.compareBytes b a
    | [], [] => by simp [Go.Lib.compareBytes]
    | [], _ :: _ => by simp [Go.Lib.compareBytes]
    | _ :: _, [] => by simp [Go.Lib.compareBytes]
    | a :: ra, b :: rb => by
      have ih := cmL_turn ra rb
      unfold Go.Lib.compareBytes
      by_cases h1 : a < b
      · rw [if_pos h1, if_neg (UInt8.not_lt.2 (UInt8.le_of_lt h1)), if_pos h1]
      · by_cases h2 : b < a
        · rw [if_neg h1, if_pos h2, if_pos h2]; rfl
        · rw [if_neg h1, if_neg h2, if_neg h2, if_neg h1, ih]

/-- What any patch does: its error, the display behind it. -/
def takeD (s : Ds) (p : Pt) : Int × Ds :=
  if p.what = 1 then createD s p else if p.what = 2 then hangD s p else if p.what = 3 then awayD s p else if p.what = 4 then setD s p
  else if p.what = 5 then unsetD s p else if p.what = 6 then textD s p else if p.what = 7 then rootD s p else (22, s)

theorem OkD.set {s : Ds} (h : OkD s) {q : Nat} {n m : Nd} (hq : s.nodes[q]? = some n) (hi : m.id = n.id) (hp : m.par = n.par) (hk : m.kids = n.kids) (ht : m.tag = n.tag) (ha : aloneB m = true) : OkD ⟨s.nodes.set q m, s.root, s.next⟩ := by
  obtain ⟨g, hnd⟩ := set_good h.good hq hi hp hk ha
  refine ⟨g, h.nx, by simpa using h.len, fun x hx => ?_, ?_⟩
  · rcases List.mem_or_eq_of_mem_set hx with hx | rfl
    · exact h.below x hx
    · rw [hi]; exact h.below n (List.mem_of_getElem? hq)
  · rcases h.root with h0 | ⟨m0, h1, h2, h3⟩
    · exact Or.inl h0
    · refine Or.inr ?_
      show ∃ m1, nd (s.nodes.set q m) s.root = some m1 ∧ _
      rw [hnd]
      by_cases e : s.root = n.id
      · rw [if_pos e]
        rw [e, nd_of h.good.up (List.mem_of_getElem? hq)] at h1
        cases h1
        exact ⟨m, rfl, by rw [ht]; exact h2, by rw [hp]; exact h3⟩
      · rw [if_neg e]
        exact ⟨m0, h1, h2, h3⟩

theorem create_ok {s : Ds} (h : OkD s) (p : Pt) : OkD (createD s p).2 ∧ ((createD s p).1 ≠ 0 → (createD s p).2 = s) ∧ s.next ≤ (createD s p).2.next := by
  unfold createD
  split
  · exact ⟨h, fun _ => rfl, Int.le_refl _⟩
  · rename_i h1
    split
    · exact ⟨h, fun _ => rfl, Int.le_refl _⟩
    · rename_i h2
      split
      · exact ⟨h, fun _ => rfl, Int.le_refl _⟩
      · rename_i h3
        have hid : p.id = s.next := by simpa using h1
        have hnx := h.nx
        have hlt : ∀ m ∈ s.nodes, m.id < (newNd p).id := fun m hm => by have := h.below m hm; show m.id < p.id; omega
        have ha : aloneB (newNd p) = true := by simpa using h2
        refine ⟨⟨push_good h.good hlt (by show 1 ≤ p.id; omega) rfl rfl ha, ?_, ?_, ?_, ?_⟩, fun h0 => absurd rfl h0, by show s.next ≤ s.next + 1; omega⟩
        · show 1 ≤ s.next + 1 ∧ s.next + 1 ≤ 2147483647
          have : ¬ s.next = 2147483647 := fun e => h3 (Or.inr e)
          omega
        · show (s.nodes ++ [newNd p]).length ≤ 1024
          have : ¬ s.nodes.length = 1024 := fun e => h3 (Or.inl e)
          have := h.len
          rw [List.length_append, List.length_singleton]
          omega
        · intro n hn
          rcases List.mem_append.1 hn with hn | hn
          · have := h.below n hn; show n.id < s.next + 1; omega
          · rw [List.mem_singleton] at hn
            subst hn
            show p.id < s.next + 1
            omega
        · rcases h.root with h0 | ⟨m, q1, q2, q3⟩
          · exact Or.inl h0
          · refine Or.inr ⟨m, ?_, q2, q3⟩
            show nd (s.nodes ++ [newNd p]) s.root = some m
            rw [nd_snoc, q1]

theorem root_ok {s : Ds} (h : OkD s) (p : Pt) : OkD (rootD s p).2 ∧ ((rootD s p).1 ≠ 0 → (rootD s p).2 = s) ∧ s.next ≤ (rootD s p).2.next := by
  unfold rootD
  split
  · exact ⟨⟨h.good, h.nx, h.len, h.below, Or.inl rfl⟩, fun h0 => absurd rfl h0, Int.le_refl _⟩
  · split
    · exact ⟨h, fun _ => rfl, Int.le_refl _⟩
    · split
      · exact ⟨h, fun _ => rfl, Int.le_refl _⟩
      · split
        · exact ⟨h, fun _ => rfl, Int.le_refl _⟩
        · split
          · exact ⟨h, fun _ => rfl, Int.le_refl _⟩
          · rename_i hq _ m hm h1 h2
            exact ⟨⟨h.good, h.nx, h.len, h.below, Or.inr ⟨m, at_nd hq hm, h1, by simpa using h2⟩⟩, fun h0 => absurd rfl h0, Int.le_refl _⟩

theorem text_ok {s : Ds} (h : OkD s) (p : Pt) : OkD (textD s p).2 ∧ ((textD s p).1 ≠ 0 → (textD s p).2 = s) ∧ s.next ≤ (textD s p).2.next := by
  unfold textD
  split
  · exact ⟨h, fun _ => rfl, Int.le_refl _⟩
  · split
    · exact ⟨h, fun _ => rfl, Int.le_refl _⟩
    · split
      · split
        · exact ⟨h, fun _ => rfl, Int.le_refl _⟩
        · rename_i q hq n hn h1 h2
          exact ⟨h.set (m := n.withTxt p.txt) hn rfl rfl rfl rfl (alone_txt (h.good.alone n (List.mem_of_getElem? hn)) h1 (by omega)), fun h0 => absurd rfl h0, Int.le_refl _⟩
      · exact ⟨h, fun _ => rfl, Int.le_refl _⟩

theorem unset_ok {s : Ds} (h : OkD s) (p : Pt) : OkD (unsetD s p).2 ∧ ((unsetD s p).1 ≠ 0 → (unsetD s p).2 = s) ∧ s.next ≤ (unsetD s p).2.next := by
  unfold unsetD
  split
  · exact ⟨h, fun _ => rfl, Int.le_refl _⟩
  · split
    · exact ⟨h, fun _ => rfl, Int.le_refl _⟩
    · split
      · exact ⟨h, fun _ => rfl, Int.le_refl _⟩
      · split
        · rename_i q hq n hn h1 h2
          have ha := h.good.alone n (List.mem_of_getElem? hn)
          exact ⟨h.set (m := n.withAts (lessA n.ats p.name)) hn rfl rfl rfl rfl (alone_ats ha h1 (attrs_less _ (plain_ats (alone_iff.1 ha).1))), fun h0 => absurd rfl h0, Int.le_refl _⟩
        · exact ⟨h, fun _ => rfl, Int.le_refl _⟩

theorem setD_ok {s : Ds} (h : OkD s) (p : Pt) : OkD (setD s p).2 ∧ ((setD s p).1 ≠ 0 → (setD s p).2 = s) ∧ s.next ≤ (setD s p).2.next := by
  unfold setD
  split
  · exact ⟨h, fun _ => rfl, Int.le_refl _⟩
  · split
    · exact ⟨h, fun _ => rfl, Int.le_refl _⟩
    · rename_i q hq n hn
      have ha := h.good.alone n (List.mem_of_getElem? hn)
      have hat := plain_ats (alone_iff.1 ha).1
      split
      · exact ⟨h, fun _ => rfl, Int.le_refl _⟩
      · rename_i h1
        split
        · exact ⟨h, fun _ => rfl, Int.le_refl _⟩
        · rename_i h2
          split
          · exact ⟨h, fun _ => rfl, Int.le_refl _⟩
          · rename_i h3
            split
            · exact ⟨h.set (m := n.withAts (putV n.ats (lwA n.ats p.name) p.val)) hn rfl rfl rfl rfl (alone_ats ha h1 (attrs_put hat (by omega))), fun h0 => absurd rfl h0, Int.le_refl _⟩
            · rename_i h4
              split
              · exact ⟨h, fun _ => rfl, Int.le_refl _⟩
              · rename_i h5
                exact ⟨h.set (m := n.withAts (insAt n.ats (lwA n.ats p.name) (p.name, p.val))) hn rfl rfl rfl rfl (alone_ats ha h1 (attrs_ins hat (by omega) (nmD_name (by simpa using h2)) h5 (by simpa using h4))), fun h0 => absurd rfl h0, Int.le_refl _⟩

theorem hang_ok {s : Ds} (h : OkD s) (p : Pt) : OkD (hangD s p).2 ∧ ((hangD s p).1 ≠ 0 → (hangD s p).2 = s) ∧ s.next ≤ (hangD s p).2.next := by
  unfold hangD
  split
  · rename_i q t hq ht
    split
    · rename_i n m hn hm
      by_cases h0 : hangE s.nodes s.root m p = 0
      · simp only [h0, if_true]
        refine ⟨?_, fun h' => absurd rfl h', Int.le_refl _⟩
        unfold hangE at h0
        by_cases h1 : m.tag.size = 0
        · rw [if_pos h1] at h0; omega
        · rw [if_neg h1] at h0
          by_cases h2 : wiB s.nodes p.id (s.nodes.length + 1) p.par = true
          · rw [if_pos h2] at h0; omega
          · rw [if_neg h2] at h0
            by_cases h3 : p.id = s.root
            · rw [if_pos h3] at h0; omega
            · rw [if_neg h3] at h0
              by_cases h4 : p.at_ < 0 ∨ (lessZ m.kids p.id).length < p.at_
              · rw [if_pos h4] at h0; omega
              · rw [if_neg h4] at h0
                by_cases h5 : (lessZ m.kids p.id).length = 32
                · rw [if_pos h5] at h0; omega
                · have am := h.good.at (at_nd ht hm)
                  have an := h.good.at (at_nd hq hn)
                  have hpi : p.id ≠ 0 := by have := an.pos; omega
                  obtain ⟨k, hk⟩ := am.out
                  have hw : ¬ Wi s.nodes p.par p.id := fun hw => h2 ((wiB_iff hpi h.good.zero ((out_len hk).mono (by omega))).2 hw)
                  have hne : p.par ≠ p.id := fun e => hw (by rw [e]; exact .refl _)
                  have hl : (lessZ m.kids p.id).length ≤ m.kids.length := List.length_filter_le _ _
                  have h32 := (alone_iff.1 am.alone).2.2
                  have g := hung_good h.good hq hn ht hm hw h1 (by omega) (by omega)
                  obtain ⟨-, hnd⟩ := nd_hung h.good hq hn ht hm hne
                  have hids : ∀ x ∈ hungN s.nodes n m q t p, ∃ y ∈ s.nodes, y.id = x.id := by
                    intro x hx
                    have := nd_of g.up hx
                    rw [hnd] at this
                    by_cases e1 : x.id = p.id
                    · exact ⟨n, List.mem_of_getElem? hn, an.id.trans e1.symm⟩
                    · by_cases e2 : x.id = p.par
                      · exact ⟨m, List.mem_of_getElem? hm, am.id.trans e2.symm⟩
                      · rw [if_neg e1, if_neg e2] at this
                        cases e3 : nd s.nodes x.id with
                        | none => rw [e3] at this; cases this
                        | some y => exact ⟨y, (nd_some e3).1, (nd_some e3).2⟩
                  refine ⟨g, h.nx, ?_, fun x hx => ?_, ?_⟩
                  · show (hungN s.nodes n m q t p).length ≤ 1024
                    rw [hungN_eq h.good hq hn ht hm hne, List.length_set, List.length_set, offN_length]
                    exact h.len
                  · obtain ⟨y, hy, e⟩ := hids x hx
                    rw [← e]
                    exact h.below y hy
                  · rcases h.root with h0' | ⟨m0, r1, r2, r3⟩
                    · exact Or.inl h0'
                    · refine Or.inr ?_
                      show ∃ m1, nd (hungN s.nodes n m q t p) s.root = some m1 ∧ _
                      rw [hnd, if_neg (fun e => h3 e.symm)]
                      by_cases e2 : s.root = p.par
                      · rw [if_pos e2]
                        rw [e2, at_nd ht hm] at r1
                        cases r1
                        exact ⟨_, rfl, r2, r3⟩
                      · rw [if_neg e2, r1]
                        exact ⟨_, rfl, by rw [offK_tag]; exact r2, by rw [offK_par]; exact r3⟩
      · have e : (if hangE s.nodes s.root m p = 0 then (⟨hungN s.nodes n m q t p, s.root, s.next⟩ : Ds) else s) = s := if_neg h0
        rw [e]
        exact ⟨h, fun _ => rfl, Int.le_refl _⟩
    · exact ⟨h, fun _ => rfl, Int.le_refl _⟩
  · exact ⟨h, fun _ => rfl, Int.le_refl _⟩

theorem away_ok {s : Ds} (h : OkD s) (p : Pt) : OkD (awayD s p).2 ∧ ((awayD s p).1 ≠ 0 → (awayD s p).2 = s) ∧ s.next ≤ (awayD s p).2.next := by
  unfold awayD
  split
  · exact ⟨h, fun _ => rfl, Int.le_refl _⟩
  · rename_i n hn
    obtain ⟨g, hnd⟩ := left_good h.good hn
    refine ⟨⟨g, h.nx, ?_, fun x hx => ?_, ?_⟩, fun h0 => absurd rfl h0, Int.le_refl _⟩
    · show (leftN _ _).length ≤ 1024
      have h1 : (leftN (offN s.nodes n) (markL (offN s.nodes n) (s.nodes.length + 1) p.id)).length ≤ (offN s.nodes n).length := List.length_filter_le _ _
      rw [offN_length] at h1
      have := h.len
      omega
    · have := nd_of g.up hx
      rw [hnd] at this
      split at this
      · cases this
      · cases e3 : nd s.nodes x.id with
        | none => rw [e3] at this; cases this
        | some y =>
          have := nd_some e3
          show x.id < s.next
          rw [← this.2]
          exact h.below y this.1
    · by_cases hr : s.root ∈ markL (offN s.nodes n) (s.nodes.length + 1) p.id
      · have hp0 : p.id ≠ 0 := by have := (h.good.at hn).pos; omega
        left
        show (if p.id ≠ 0 ∧ _ then (0 : Int) else s.root) = 0
        rw [if_pos ⟨hp0, hr⟩]
      · have e : (if p.id ≠ 0 ∧ s.root ∈ markL (offN s.nodes n) (s.nodes.length + 1) p.id then (0 : Int) else s.root) = s.root := if_neg fun h' => hr h'.2
        rw [e]
        rcases h.root with h0 | ⟨m0, r1, r2, r3⟩
        · exact Or.inl h0
        · refine Or.inr ?_
          show ∃ m1, nd (leftN _ _) s.root = some m1 ∧ _
          rw [hnd, if_neg hr, r1]
          exact ⟨_, rfl, by rw [offK_tag]; exact r2, by rw [offK_par]; exact r3⟩

/-- Behind any patch a display that may be may be; one that is refused changes nothing; Next does not fall. -/
theorem take_ok {s : Ds} (h : OkD s) (p : Pt) : OkD (takeD s p).2 ∧ ((takeD s p).1 ≠ 0 → (takeD s p).2 = s) ∧ s.next ≤ (takeD s p).2.next := by
  unfold takeD
  split
  · exact create_ok h p
  · split
    · exact hang_ok h p
    · split
      · exact away_ok h p
      · split
        · exact setD_ok h p
        · split
          · exact unset_ok h p
          · split
            · exact text_ok h p
            · split
              · exact root_ok h p
              · exact ⟨h, fun _ => rfl, Int.le_refl _⟩
end Do
end Go.Proofs.YtcdnakcojanaeabGreat
