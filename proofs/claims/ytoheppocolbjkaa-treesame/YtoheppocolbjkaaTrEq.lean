/-
  slices.Equal of attributes, slices.EqualFunc of trees, the program's same and Same, the page's Same. (Printed by wip/make/mktreq.py.)
-/
import Derived.Test.YtoheppocolbjkaaTrRSame
import Derived.Test.YtoheppocolbjkaaTrRSize
namespace Go.Proofs.Ytoheppocolbjkaa
open Go.ChangeShapes Go.WideShapes Go.ChangeAt Go.RowKit

set_option maxRecDepth 100000 in
set_option maxHeartbeats 1600000 in
theorem eqAs_any (ks ls : List Atr) (ka la : Option Addr) (kc lc : Nat) (w : World) (hk : LayA w ka ks) (hl : LayA w la ls) (bk : ks.length * 32 ≤ 140737488351232) (bl : ls.length * 32 ≤ 140737488351232) :
    Calls Try.prog 46 #[.slice ka ks.length kc, .slice la ls.length lc] w fun e w' => e = .returned (.bool (one ks ls)) ∧ Below w.heap.size w w' := by
  have HK : Hid (LayA w ka ks) := hk
  have HL : Hid (LayA w la ls) := hl
  clear hk hl
  have hng := Try.noGuardA
  by_cases hlen : ks.length = ls.length
  · go_enter Try.func46, Try.ntmps46
    go_wp2_with fail
    go_loopw [5, 13] (fun j i wr => ∃ m : Nat, m ≤ ks.length ∧ i = .int .i64 m ∧ Hid (ks.take m = ls.take m) ∧ Hid (Below w.heap.size w wr)) (fun _ i _ => ks.length - (intOf i).toNat)
    case atStart => exact ⟨0, Nat.zero_le _, rfl, by simp [Hid], Below.refl _ _⟩
    case round =>
      obtain ⟨m, hm, rfl, HT, HW⟩ := hrel
      by_cases hlt : m < ks.length
      · obtain ⟨b1, o1, rfl, q1, q1', -, -⟩ := (HK.out.below HW.out) m ks[m] (by simp [hlt])
        obtain ⟨b2, o2, rfl, q2, q2', -, -⟩ := (HL.out.below HW.out) m (ls[m]'(by omega)) (by simp)
        have hlt2 : m < ls.length := by omega
        have heq := eqA ks[m].1 ks[m].2 (ls[m]'hlt2).1 (ls[m]'hlt2).2
        by_cases he : ks[m] = ls[m]'(by omega)
        · have HE : Hid (ks[m] = ls[m]'(by omega)) := he
          have hv : (ks[m].1.toList == (ls[m]'hlt2).1.toList && ks[m].2.toList == (ls[m]'hlt2).2.toList) = true := by rw [he]; simp
          rw [hv] at heq
          clear hv he
          generalize hx : ks[m] = x at *
          generalize hy : ls[m]'hlt2 = y at *
          have HX : Hid (ks[m] = x) := hx
          have HY : Hid (ls[m]'hlt2 = y) := hy
          clear hx hy
          go_wp2_with fail
          go_quiet (fail)
          go_wp2_with fail
          go_roundw
          case rel => exact ⟨m + 1, by omega, by go_num, take_next HT.out hlt hlt2 (by rw [HX.out, HY.out]; exact HE.out), HW.out.trans (Below_drewN _ _ _)⟩
          case measure => simp [intOf]; omega
        · have HE : Hid (¬ ks[m] = ls[m]'(by omega)) := he
          have hv : (ks[m].1.toList == (ls[m]'hlt2).1.toList && ks[m].2.toList == (ls[m]'hlt2).2.toList) = false := by
            cases e1 : (ks[m].1.toList == (ls[m]'hlt2).1.toList) with
            | false => rfl
            | true =>
              cases e2 : (ks[m].2.toList == (ls[m]'hlt2).2.toList) with
              | false => rfl
              | true => exact absurd (Prod.ext (bytes_ext (by simpa using e1)) (bytes_ext (by simpa using e2))) he
          rw [hv] at heq
          clear hv he
          generalize hx : ks[m] = x at *
          generalize hy : ls[m]'hlt2 = y at *
          have HX : Hid (ks[m] = x) := hx
          have HY : Hid (ls[m]'hlt2 = y) := hy
          clear hx hy
          go_wp2_with fail
          go_quiet (fail)
          go_wp2_with fail
          go_ret
          exact ⟨ret_bool (one_false fun e => HE.out (by rw [← HX.out, ← HY.out]; subst e; rfl)).symm, HW.out.trans (Below_drewN _ _ _)⟩
      · go_wp2_with fail
        go_ret
        exact ⟨ret_bool (one_true (take_all HT.out (by omega) hlen)).symm, HW.out⟩
  · go_enter Try.func46, Try.ntmps46
    go_wp2_with fail
    go_ret
    exact ⟨ret_bool (one_false fun e => hlen (by rw [e])).symm, Below.refl _ _⟩


theorem five_inj {a b c d e a' b' c' d' e' : Value} : (#[a, b, c, d, e] : Array Value) = #[a', b', c', d', e'] ↔ a = a' ∧ b = b' ∧ c = c' ∧ d = d' ∧ e = e' := by simp

/-- What a call of same on trees of n levels answers. -/
def SamesTo (n : Nat) : Prop := ∀ (u v : T n) (x y : Value) (w : World), LayT w n x u → LayT w n y v → Calls Try.prog 35 #[x, y] w fun e w' => e = .returned (.bool (one u v)) ∧ Below w.heap.size w w'

set_option maxRecDepth 100000 in
set_option maxHeartbeats 3200000 in
theorem eqF_any {n : Nat} (ih : SamesTo n) (its its' : List (T n)) (ia ia' : Option Addr) (ic ic' : Nat) (w : World) (hI : LayI w (LayT w n) ia its) (hI' : LayI w (LayT w n) ia' its') (hi1 : its.length * 96 ≤ 140737488351232) (hi1' : its'.length * 96 ≤ 140737488351232) :
    Calls Try.prog 47 #[.slice ia its.length ic, .slice ia' its'.length ic', .func (.func 35) #[] #[]] w fun e w' => e = .returned (.bool (one its its')) ∧ Below w.heap.size w w' := by
  have HI : Hid (LayI w (LayT w n) ia its) := hI
  have HI' : Hid (LayI w (LayT w n) ia' its') := hI'
  have IH : Hid (SamesTo n) := ih
  clear hI hI' ih
  by_cases e5 : its.length = its'.length
  · have E5 : Hid (its.length = its'.length) := e5
    have d5 : ((its.length : Int) != (its'.length : Int)) = false := by simp [e5]
    clear e5
    go_enter Try.func47, Try.ntmps47
    go_wp2_with fail
    go_loopw [7, 8, 9, 17] (fun _ _ _ i wr => ∃ m : Nat, m ≤ its.length ∧ i = .int .i64 m ∧ Hid (its.take m = its'.take m) ∧ Hid (Below w.heap.size w wr)) (fun _ _ _ i _ => its.length - (intOf i).toNat)
    case atStart => exact ⟨0, Nat.zero_le _, rfl, by simp [Hid], Below.refl _ _⟩
    case round =>
      obtain ⟨m, hm, rfl, HT, HW⟩ := hrel
      by_cases hlt : m < its.length
      · have hlt2 : m < its'.length := by have := E5.out; omega
        have hi0 : (0 : Int) ≤ (m : Int) := by omega
        have hj1 : (m : Int) < (its.length : Int) := by omega
        have hj2 : (m : Int) < (its'.length : Int) := by omega
        obtain ⟨g1, o1, c0, c1, c2, c3, c4, rfl, p0, p1, p2, p3, p4, l1⟩ := (LayI.below HI.out HW.out) m its[m] (by simp [hlt])
        obtain ⟨g2, o2, f0, f1, f2, f3, f4, rfl, q0, q1, q2, q3, q4, l2⟩ := (LayI.below HI'.out HW.out) m (its'[m]'hlt2) (by simp)
        obtain ⟨x1, x2, x3, x4, x5, x6, x7, x8, x9, ex⟩ := LayT.shape n l1
        obtain ⟨y1, y2, y3, y4, y5, y6, y7, y8, y9, ey⟩ := LayT.shape n l2
        simp only [mkT, Value.agg.injEq, five_inj] at ex ey
        obtain ⟨rfl, rfl, rfl, rfl, rfl⟩ := ex
        obtain ⟨rfl, rfl, rfl, rfl, rfl⟩ := ey
        have L1 : Hid (LayT wr n (mkT x1 x2 x3 x4 x5 x6 x7 x8 x9) its[m]) := l1
        have L2 : Hid (LayT wr n (mkT y1 y2 y3 y4 y5 y6 y7 y8 y9) (its'[m]'hlt2)) := l2
        clear l1 l2
        have CS : Hid (∀ W, Below wr.heap.size wr W → Calls Try.prog 35 #[mkT x1 x2 x3 x4 x5 x6 x7 x8 x9, mkT y1 y2 y3 y4 y5 y6 y7 y8 y9] W fun e w' => e = .returned (.bool (one its[m] (its'[m]'hlt2))) ∧ Below W.heap.size W w') := fun W h => IH.out _ _ _ _ W (LayT.below n L1.out h) (LayT.below n L2.out h)
        have q0' := lt_of_cell q0
        have p0' := lt_of_cell p0
        by_cases he : its[m] = its'[m]'hlt2
        · rw [one_true he] at CS
          have HE : Hid (its[m] = its'[m]'hlt2) := he
          clear he
          go_wp2_with fail
          refine (CS.out _ (below2 _ _ _)).mono ?_
          rintro e w2 ⟨rfl, hb2⟩
          go_wp2_with fail
          go_roundw
          case rel => exact ⟨m + 1, by omega, by go_num, take_next HT.out hlt hlt2 HE.out, nxt HW.out (nxt (below2 _ _ _) hb2)⟩
          case measure => simp [intOf]; omega
        · rw [one_false he] at CS
          have HE : Hid (¬ its[m] = its'[m]'hlt2) := he
          clear he
          go_wp2_with fail
          refine (CS.out _ (below2 _ _ _)).mono ?_
          rintro e w2 ⟨rfl, hb2⟩
          go_wp2_with fail
          go_ret
          exact ⟨ret_bool (one_false fun e => HE.out (by subst e; rfl)).symm, nxt HW.out (nxt (below2 _ _ _) hb2)⟩
      · go_wp2_with fail
        go_ret
        exact ⟨ret_bool (one_true (take_all HT.out (by omega) E5.out)).symm, HW.out⟩
  · have d5 : ((its.length : Int) != (its'.length : Int)) = true := by simp; omega
    have E5 : Hid (¬ its.length = its'.length) := e5
    clear e5
    go_enter Try.func47, Try.ntmps47
    go_wp2_with fail
    go_ret
    exact ⟨ret_bool (one_false fun e => E5.out (by rw [e])).symm, Below.refl _ _⟩

set_option maxRecDepth 100000 in
set_option maxHeartbeats 6400000 in
theorem psame_any (n : Nat) : SamesTo n := by
  induction n with
  | zero => intro v; exact v.elim
  | succ n ih =>
    rintro ⟨g, k, t, ats, its⟩ ⟨g', k', t', ats', its'⟩ x y w ⟨aa, ac, ia, ic, rfl, hfit, -, -, hA, hI⟩ ⟨aa', ac', ia', ic', rfl, hfit', -, -, hA', hI'⟩
    obtain ⟨-, -, -, -, -, ha1, -, -, hi1⟩ := hfit
    obtain ⟨-, -, -, -, -, ha1', -, -, hi1'⟩ := hfit'
    have CA : Hid (∀ W, Below w.heap.size w W → Calls Try.prog 46 #[.slice aa ats.length ac, .slice aa' ats'.length ac'] W fun e w' => e = .returned (.bool (one ats ats')) ∧ Below W.heap.size W w') := fun W h => eqAs_any ats ats' aa aa' ac ac' W (hA.below h) (hA'.below h) ha1 ha1'
    have CI : Hid (∀ W, Below w.heap.size w W → Calls Try.prog 47 #[.slice ia its.length ic, .slice ia' its'.length ic', .func (.func 35) #[] #[]] W fun e w' => e = .returned (.bool (one its its')) ∧ Below W.heap.size W w') := fun W h => eqF_any ih its its' ia ia' ic ic' W (LayI.below hI h) (LayI.below hI' h) hi1 hi1'
    clear hA hA' hI hI' ih
    by_cases e1 : g = g'
    · subst e1
      by_cases e2 : k = k'
      · subst e2
        by_cases e3 : t = t'
        · subst e3
          by_cases e4 : ats = ats'
          · subst e4
            rw [one_true rfl] at CA
            have HO : Hid (one ((g, k, t, ats, its) : T (n + 1)) (g, k, t, ats, its') = one its its') := by
              show _ = _
              by_cases e : its = its'
              · rw [one_true e, one_true (by rw [e])]
              · rw [one_false e, one_false fun h => e (T_inj h).2.2.2.2]
            generalize one its its' = r at *
            cases r
            all_goals
              go_enter Try.func35, Try.ntmps35
              go_wp2_with (first
                | (go_at_call 46; refine (CA.out _ (below2 _ _ _)).mono ?_; rintro e w1 ⟨rfl, hb1⟩; have B1 := nxt (below2 _ _ _) hb1; obtain ⟨z1, z2⟩ := boxed2 hb1; obtain ⟨p0, p1, p2, p3, p4, -⟩ := box_cells z1; obtain ⟨r0, r1, r2, r3, r4, -⟩ := box_cells z2; clear z1 z2 hb1)
                | (go_at_call 47; refine (CI.out _ B1).mono ?_; rintro e w2 ⟨rfl, hb2⟩))
              go_ret
              exact ⟨ret_bool HO.out.symm, nxt B1 hb2⟩
          · have HE : Hid (¬ ats = ats') := e4
            rw [one_false e4] at CA
            clear e4
            go_enter Try.func35, Try.ntmps35
            go_wp2_with (go_at_call 46; refine (CA.out _ (below2 _ _ _)).mono ?_; rintro e w1 ⟨rfl, hb1⟩; have B1 := nxt (below2 _ _ _) hb1)
            go_ret
            exact ⟨ret_bool (one_false fun e => HE.out (T_inj e).2.2.2.1).symm, B1⟩
        · have d1 := toList_beq_false e3
          go_enter Try.func35, Try.ntmps35
          go_wp2_with fail
          go_ret
          exact ⟨ret_bool (one_false fun e => e3 ((T_inj e).2.2.1)).symm, below2 _ _ _⟩
      · have d1 := toList_beq_false e2
        go_enter Try.func35, Try.ntmps35
        go_wp2_with fail
        go_ret
        exact ⟨ret_bool (one_false fun e => e2 ((T_inj e).2.1)).symm, below2 _ _ _⟩
    · have d1 := toList_beq_false e1
      go_enter Try.func35, Try.ntmps35
      go_wp2_with fail
      go_ret
      exact ⟨ret_bool (one_false fun e => e1 ((T_inj e).1)).symm, below2 _ _ _⟩

/-- What Same answers. -/
noncomputable def smT {n : Nat} (u v : T n) : Bool := decide ((sizeT u).1 = 0) && decide ((sizeT v).1 = 0) && one u v

set_option maxRecDepth 100000 in
set_option maxHeartbeats 3200000 in
theorem tsame_any (n : Nat) (u v : T n) (x y : Value) (w : World) (hu : LayT w n x u) (hv : LayT w n y v) :
    Calls Try.prog 21 #[x, y] w fun e w' => e = .returned (.bool (smT u v)) ∧ Below w.heap.size w w' := by
  have CU : Hid (∀ W, Below w.heap.size w W → Calls Try.prog 17 #[x] W fun e w' => e = .returned (.int .i64 (sizeT u).1) ∧ Below W.heap.size W w') := fun W h => check_any n u x W (hu.below n h)
  have CV : Hid (∀ W, Below w.heap.size w W → Calls Try.prog 17 #[y] W fun e w' => e = .returned (.int .i64 (sizeT v).1) ∧ Below W.heap.size W w') := fun W h => check_any n v y W (hv.below n h)
  have CS : Hid (∀ W, Below w.heap.size w W → Calls Try.prog 35 #[x, y] W fun e w' => e = .returned (.bool (one u v)) ∧ Below W.heap.size W w') := fun W h => psame_any n u v x y W (hu.below n h) (hv.below n h)
  have HS : Hid (smT u v = (decide ((sizeT u).1 = 0) && decide ((sizeT v).1 = 0) && one u v)) := rfl
  obtain ⟨g, k, t, aa, al, ac, ia, il, ic, rfl⟩ := LayT.shape n hu
  obtain ⟨g', k', t', aa', al', ac', ia', il', ic', rfl⟩ := LayT.shape n hv
  clear hu hv
  generalize smT u v = S at *
  generalize one u v = o at *
  generalize (sizeT u).1 = eu at *
  generalize (sizeT v).1 = ev at *
  by_cases h1 : eu = 0
  · subst h1
    by_cases h2 : ev = 0
    · subst h2
      have E : Hid (S = o) := by show _ = _; rw [HS.out]; simp
      rw [E.out]
      clear HS E
      cases o
      all_goals
        go_enter Try.func21, Try.ntmps21
        go_wp2_with fail
        refine (CU.out _ (below2 _ _ _)).mono ?_
        rintro e w1 ⟨rfl, hb1⟩
        have B1 := nxt (below2 _ _ _) hb1
        have Z := boxed2 hb1
        obtain ⟨p0, p1, p2, p3, p4, -⟩ := box_cells Z.1
        obtain ⟨r0, r1, r2, r3, r4, -⟩ := box_cells Z.2
        clear hb1
        go_wp2_with fail
        refine (CV.out _ B1).mono ?_
        rintro e w2 ⟨rfl, hb2⟩
        have B2 := nxt B1 hb2
        have Z1 := (hb2.block _ (lt_of_block Z.1)).trans Z.1
        have Z2 := (hb2.block _ (lt_of_block Z.2)).trans Z.2
        clear p0 p1 p2 p3 p4 r0 r1 r2 r3 r4 Z hb2
        obtain ⟨p0, p1, p2, p3, p4, -⟩ := box_cells Z1
        obtain ⟨r0, r1, r2, r3, r4, -⟩ := box_cells Z2
        clear Z1 Z2
        go_wp2_with fail
        refine (CS.out _ B2).mono ?_
        rintro e w3 ⟨rfl, hb3⟩
        go_wp2_with fail
        go_ret
        exact ⟨rfl, nxt B2 hb3⟩
    · have hd : (ev == 0) = false := by simpa using h2
      have E : Hid (S = false) := by show _ = _; rw [HS.out]; simp [h2]
      rw [E.out]
      clear HS E h2
      go_enter Try.func21, Try.ntmps21
      go_wp2_with fail
      refine (CU.out _ (below2 _ _ _)).mono ?_
      rintro e w1 ⟨rfl, hb1⟩
      have B1 := nxt (below2 _ _ _) hb1
      have Z := boxed2 hb1
      obtain ⟨p0, p1, p2, p3, p4, -⟩ := box_cells Z.1
      obtain ⟨r0, r1, r2, r3, r4, -⟩ := box_cells Z.2
      clear hb1
      go_wp2_with fail
      refine (CV.out _ B1).mono ?_
      rintro e w2 ⟨rfl, hb2⟩
      go_wp2_with fail
      go_ret
      exact ⟨rfl, nxt B1 hb2⟩
  · have hd : (eu == 0) = false := by simpa using h1
    have E : Hid (S = false) := by show _ = _; rw [HS.out]; simp [h1]
    rw [E.out]
    clear HS E h1
    go_enter Try.func21, Try.ntmps21
    go_wp2_with fail
    refine (CU.out _ (below2 _ _ _)).mono ?_
    rintro e w1 ⟨rfl, hb1⟩
    go_wp2_with fail
    go_ret
    exact ⟨rfl, nxt (below2 _ _ _) hb1⟩

set_option maxRecDepth 100000 in
set_option maxHeartbeats 3200000 in
theorem rsm_any (n : Nat) (u v : T n) (x y : Value) (w : World) (hu : LayT w n x u) (hv : LayT w n y v) :
    Calls Try.prog 22 #[x, y] w fun e w' => e = .returned (.bool (smT u v)) ∧ Below w.heap.size w w' := by
  have CU : Hid (∀ W, Below w.heap.size w W → Calls Try.prog 18 #[x] W fun e w' => e = .returned (.int .i64 (sizeT u).1) ∧ Below W.heap.size W w') := fun W h => rcheck_any n u x W (hu.below n h)
  have CV : Hid (∀ W, Below w.heap.size w W → Calls Try.prog 18 #[y] W fun e w' => e = .returned (.int .i64 (sizeT v).1) ∧ Below W.heap.size W w') := fun W h => rcheck_any n v y W (hv.below n h)
  have CS : Hid (∀ W, Below w.heap.size w W → Calls Try.prog 36 #[x, y] W fun e w' => e = .returned (.bool (one u v)) ∧ Below W.heap.size W w') := fun W h => rsameT_any n u v x y W (hu.below n h) (hv.below n h)
  have HS : Hid (smT u v = (decide ((sizeT u).1 = 0) && decide ((sizeT v).1 = 0) && one u v)) := rfl
  obtain ⟨g, k, t, aa, al, ac, ia, il, ic, rfl⟩ := LayT.shape n hu
  obtain ⟨g', k', t', aa', al', ac', ia', il', ic', rfl⟩ := LayT.shape n hv
  clear hu hv
  generalize smT u v = S at *
  generalize one u v = o at *
  generalize (sizeT u).1 = eu at *
  generalize (sizeT v).1 = ev at *
  by_cases h1 : eu = 0
  · subst h1
    by_cases h2 : ev = 0
    · subst h2
      have E : Hid (S = o) := by show _ = _; rw [HS.out]; simp
      rw [E.out]
      clear HS E
      cases o
      all_goals
        go_enter Try.func22, Try.ntmps22
        go_wp2_with fail
        refine (CU.out _ (below2 _ _ _)).mono ?_
        rintro e w1 ⟨rfl, hb1⟩
        have B1 := nxt (below2 _ _ _) hb1
        have Z := boxed2 hb1
        obtain ⟨p0, p1, p2, p3, p4, -⟩ := box_cells Z.1
        obtain ⟨r0, r1, r2, r3, r4, -⟩ := box_cells Z.2
        clear hb1
        go_wp2_with fail
        refine (CV.out _ B1).mono ?_
        rintro e w2 ⟨rfl, hb2⟩
        have B2 := nxt B1 hb2
        have Z1 := (hb2.block _ (lt_of_block Z.1)).trans Z.1
        have Z2 := (hb2.block _ (lt_of_block Z.2)).trans Z.2
        clear p0 p1 p2 p3 p4 r0 r1 r2 r3 r4 Z hb2
        obtain ⟨p0, p1, p2, p3, p4, -⟩ := box_cells Z1
        obtain ⟨r0, r1, r2, r3, r4, -⟩ := box_cells Z2
        clear Z1 Z2
        go_wp2_with fail
        refine (CS.out _ B2).mono ?_
        rintro e w3 ⟨rfl, hb3⟩
        go_wp2_with fail
        go_ret
        exact ⟨rfl, nxt B2 hb3⟩
    · have hd : (ev == 0) = false := by simpa using h2
      have E : Hid (S = false) := by show _ = _; rw [HS.out]; simp [h2]
      rw [E.out]
      clear HS E h2
      go_enter Try.func22, Try.ntmps22
      go_wp2_with fail
      refine (CU.out _ (below2 _ _ _)).mono ?_
      rintro e w1 ⟨rfl, hb1⟩
      have B1 := nxt (below2 _ _ _) hb1
      have Z := boxed2 hb1
      obtain ⟨p0, p1, p2, p3, p4, -⟩ := box_cells Z.1
      obtain ⟨r0, r1, r2, r3, r4, -⟩ := box_cells Z.2
      clear hb1
      go_wp2_with fail
      refine (CV.out _ B1).mono ?_
      rintro e w2 ⟨rfl, hb2⟩
      go_wp2_with fail
      go_ret
      exact ⟨rfl, nxt B1 hb2⟩
  · have hd : (eu == 0) = false := by simpa using h1
    have E : Hid (S = false) := by show _ = _; rw [HS.out]; simp [h1]
    rw [E.out]
    clear HS E h1
    go_enter Try.func22, Try.ntmps22
    go_wp2_with fail
    refine (CU.out _ (below2 _ _ _)).mono ?_
    rintro e w1 ⟨rfl, hb1⟩
    go_wp2_with fail
    go_ret
    exact ⟨rfl, nxt (below2 _ _ _) hb1⟩
end Go.Proofs.Ytoheppocolbjkaa
