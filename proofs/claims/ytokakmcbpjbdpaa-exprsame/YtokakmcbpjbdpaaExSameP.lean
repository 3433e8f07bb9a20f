/-
  The program's same (slices.EqualFunc by it) and Same; the page's Same. (Printed by wip/make/mkexsamep.py.)
-/
import Derived.Test.YtokakmcbpjbdpaaExAlikeB
import Derived.Test.YtokakmcbpjbdpaaExWalk
import Derived.Test.YtokakmcbpjbdpaaExCaught
namespace Go.Proofs.Ytokakmcbpjbdpaa
open Go.ChangeShapes Go.WideShapes Go.ChangeAt Go.RowKit

theorem boxed2X {w w1 : World} {o o' : Obj} (hb : Below ((w.alloc o).alloc o').heap.size ((w.alloc o).alloc o') w1) : w1.heap[w.heap.size]? = some o ∧ w1.heap[w.heap.size + 1]? = some o' := by
  have h1 : ((w.alloc o).alloc o').heap[w.heap.size]? = some o := (Below.heap_alloc _ _ _ (by simp)).trans (heap_alloc_new _ _)
  have h2 : ((w.alloc o).alloc o').heap[w.heap.size + 1]? = some o' := heap_new2 _ _ _
  exact ⟨(hb.block _ (lt_of_block h1)).trans h1, (hb.block _ (lt_of_block h2)).trans h2⟩

/-- Are the parts one, place by place? -/
def listX (m n : Nat) (l : List (X m)) (r : List (X n)) : Prop := l.length = r.length ∧ ∀ (i : Nat) (u : X m) (u' : X n), l[i]? = some u → r[i]? = some u' → sameX m n u u'

noncomputable def oneL (m n : Nat) (l : List (X m)) (r : List (X n)) : Bool := @decide (listX m n l r) (Classical.propDecidable _)
theorem oneL_yes {m n : Nat} {l : List (X m)} {r : List (X n)} (h : listX m n l r) : oneL m n l r = true := by unfold oneL; exact @decide_eq_true _ (Classical.propDecidable _) h
theorem oneL_no {m n : Nat} {l : List (X m)} {r : List (X n)} (h : ¬ listX m n l r) : oneL m n l r = false := by unfold oneL; exact @decide_eq_false _ (Classical.propDecidable _) h

theorem oneX_list {m n : Nat} {k b : Int} {t : ByteArray} {l : List (X m)} {r : List (X n)} : oneX (m + 1) (n + 1) (k, b, t, l) (k, b, t, r) = oneL m n l r := by
  by_cases h : listX m n l r
  · rw [oneL_yes h, oneX_yes (show sameX (m + 1) (n + 1) (k, b, t, l) (k, b, t, r) from ⟨rfl, rfl, rfl, h.1, h.2⟩)]
  · rw [oneL_no h, oneX_no fun (e : sameX (m + 1) (n + 1) (k, b, t, l) (k, b, t, r)) => h ⟨e.2.2.2.1, e.2.2.2.2⟩]

/-- What a call of same on trees of m levels answers. -/
def SamesX (m : Nat) : Prop := ∀ (n : Nat) (u : X m) (v : X n) (x y : Value) (w : World), LayX w m x u → LayX w n y v → Calls Try.prog 35 #[x, y] w fun e w' => e = .returned (.bool (oneX m n u v)) ∧ Below w.heap.size w w'

set_option maxRecDepth 100000 in
set_option maxHeartbeats 3200000 in
theorem eqFX_any {m : Nat} (ih : SamesX m) (n : Nat) (its : List (X m)) (its' : List (X n)) (ia ia' : Option Addr) (ic ic' : Nat) (w : World) (hI : LayJ w (LayX w m) ia its) (hI' : LayJ w (LayX w n) ia' its') (hi1 : its.length * 56 ≤ 140737488351232) :
    Calls Try.prog 53 #[.slice ia its.length ic, .slice ia' its'.length ic', .func (.func 35) #[] #[]] w fun e w' => e = .returned (.bool (oneL m n its its')) ∧ Below w.heap.size w w' := by
  have HI : Hid (LayJ w (LayX w m) ia its) := hI
  have HI' : Hid (LayJ w (LayX w n) ia' its') := hI'
  have IH : Hid (SamesX m) := ih
  clear hI hI' ih
  by_cases e5 : its.length = its'.length
  · have E5 : Hid (its.length = its'.length) := e5
    have d5 : ((its.length : Int) != (its'.length : Int)) = false := by simp [e5]
    have HYES : Hid ((∀ (i : Nat) (u : X m) (u' : X n), its[i]? = some u → its'[i]? = some u' → sameX m n u u') → oneL m n its its' = true) := fun h => oneL_yes ⟨e5, h⟩
    have HNO : Hid (∀ (i : Nat) (u : X m) (u' : X n), its[i]? = some u → its'[i]? = some u' → ¬ sameX m n u u' → oneL m n its its' = false) := fun i u u' h1 h2 h3 => oneL_no fun h => h3 (h.2 i u u' h1 h2)
    generalize oneL m n its its' = R at *
    clear e5
    go_enter Try.func53, Try.ntmps53
    go_wp2_with fail
    go_loopw [7, 8, 9, 17] (fun _ _ _ i wr => ∃ j : Nat, j ≤ its.length ∧ i = .int .i64 j ∧ Hid (∀ (i : Nat) (u : X m) (u' : X n), i < j → its[i]? = some u → its'[i]? = some u' → sameX m n u u') ∧ Hid (Below w.heap.size w wr)) (fun _ _ _ i _ => its.length - (intOf i).toNat)
    case atStart => exact ⟨0, Nat.zero_le _, rfl, fun i _ _ h => by omega, Below.refl _ _⟩
    case round =>
      obtain ⟨j, hm, rfl, HT, HW⟩ := hrel
      by_cases hlt : j < its.length
      · have hlt2 : j < its'.length := by have := E5.out; omega
        have hi0 : (0 : Int) ≤ (j : Int) := by omega
        have hj1 : (j : Int) < (its.length : Int) := by omega
        have hj2 : (j : Int) < (its'.length : Int) := by omega
        obtain ⟨g1, o1, k1, b1, t1, ja, jl, jc, rfl, p0, p1, p2, p3, l1⟩ := (LayJ.below HI.out HW.out).at j hlt
        obtain ⟨g2, o2, k2, b2, t2, ka, kl, kc, rfl, q0, q1, q2, q3, l2⟩ := (LayJ.below HI'.out HW.out).at j hlt2
        have L1 : Hid (LayX wr m (mkX k1 b1 t1 ja jl jc) its[j]) := l1
        have L2 : Hid (LayX wr n (mkX k2 b2 t2 ka kl kc) (its'[j]'hlt2)) := l2
        have G1 : Hid (its[j]? = some its[j]) := List.getElem?_eq_getElem hlt
        have G2 : Hid (its'[j]? = some (its'[j]'hlt2)) := List.getElem?_eq_getElem hlt2
        clear l1 l2
        generalize its[j] = u1 at *
        generalize its'[j]'hlt2 = u2 at *
        have CS : Hid (∀ W, Below wr.heap.size wr W → Calls Try.prog 35 #[mkX k1 b1 t1 ja jl jc, mkX k2 b2 t2 ka kl kc] W fun e w' => e = .returned (.bool (oneX m n u1 u2)) ∧ Below W.heap.size W w') := fun W h => IH.out _ _ _ _ _ W (LayX.below m L1.out h) (LayX.below n L2.out h)
        have q0' := lt_of_cell q0
        have p0' := lt_of_cell p0
        by_cases he : sameX m n u1 u2
        · rw [oneX_yes he] at CS
          have HE : Hid (sameX m n u1 u2) := he
          clear he
          go_wp2_with fail
          refine (CS.out _ (below_twoX _ _ _)).mono ?_
          rintro e w2 ⟨rfl, hb2⟩
          go_wp2_with fail
          go_roundw
          case rel =>
            refine ⟨j + 1, by omega, by go_num, ?_, nxt HW.out (nxt (below_twoX _ _ _) hb2)⟩
            intro i u u' hi h1 h2
            by_cases hij : i = j
            · subst hij
              rw [G1.out] at h1
              rw [G2.out] at h2
              cases h1
              cases h2
              exact HE.out
            · exact HT.out i u u' (by omega) h1 h2
          case measure => simp [intOf]; omega
        · rw [oneX_no he] at CS
          have HE : Hid (¬ sameX m n u1 u2) := he
          clear he
          go_wp2_with fail
          refine (CS.out _ (below_twoX _ _ _)).mono ?_
          rintro e w2 ⟨rfl, hb2⟩
          go_wp2_with fail
          go_ret
          exact ⟨by rw [HNO.out j u1 u2 G1.out G2.out HE.out]; rfl, nxt HW.out (nxt (below_twoX _ _ _) hb2)⟩
      · go_wp2_with fail
        go_ret
        exact ⟨by rw [HYES.out fun i u u' h1 h2 => HT.out i u u' (by have := (List.getElem?_eq_some_iff.1 h1).1; omega) h1 h2]; rfl, HW.out⟩
  · have d5 : ((its.length : Int) != (its'.length : Int)) = true := by simp; omega
    have E5 : Hid (oneL m n its its' = false) := oneL_no fun h => e5 h.1
    clear e5
    go_enter Try.func53, Try.ntmps53
    go_wp2_with fail
    go_ret
    exact ⟨by rw [E5.out]; rfl, Below.refl _ _⟩

set_option maxRecDepth 100000 in
set_option maxHeartbeats 6400000 in
theorem psameX_any (m : Nat) : SamesX m := by
  induction m with
  | zero => intro n u; exact u.elim
  | succ m ih =>
    intro n
    cases n with
    | zero => intro u v; exact v.elim
    | succ n =>
    rintro ⟨k, b, t, its⟩ ⟨k', b', t', its'⟩ x y w ⟨ia, ic, rfl, hfit, -, hI⟩ ⟨ia', ic', rfl, hfit', -, hI'⟩
    have hi1 := hfit.2.2.2.2.2
    have CI : Hid (∀ W, Below w.heap.size w W → Calls Try.prog 53 #[.slice ia its.length ic, .slice ia' its'.length ic', .func (.func 35) #[] #[]] W fun e w' => e = .returned (.bool (oneL m n its its')) ∧ Below W.heap.size W w') := fun W h => eqFX_any ih n its its' ia ia' ic ic' W (LayJ.below hI h) (LayJ.below hI' h) hi1
    clear hI hI' ih hfit hfit'
    by_cases e1 : k = k'
    · subst e1
      by_cases e2 : b = b'
      · subst e2
        by_cases e3 : t = t'
        · subst e3
          have HO : Hid (oneX (m + 1) (n + 1) (k, b, t, its) (k, b, t, its') = oneL m n its its') := oneX_list
          rw [HO.out]
          clear HO
          generalize oneL m n its its' = r at *
          cases r
          all_goals
            go_enter Try.func35, Try.ntmps35
            go_wp2_with (go_at_call 53; refine (CI.out _ (below_twoX _ _ _)).mono ?_; rintro e w2 ⟨rfl, hb2⟩)
            go_ret
            exact ⟨rfl, nxt (below_twoX _ _ _) hb2⟩
        · have HNO : Hid (oneX (m + 1) (n + 1) (k, b, t, its) (k, b, t', its') = false) := oneX_no fun h => e3 h.2.2.1
          have d1 := beq_falseX e3
          rw [HNO.out]
          clear HNO CI
          go_enter Try.func35, Try.ntmps35
          go_wp2_with fail
          go_ret
          exact ⟨rfl, below_twoX _ _ _⟩
      · have HNO : Hid (oneX (m + 1) (n + 1) (k, b, t, its) (k, b', t', its') = false) := oneX_no fun h => e2 h.2.1
        have d1 : (b == b') = false := by simpa using e2
        rw [HNO.out]
        clear HNO CI
        go_enter Try.func35, Try.ntmps35
        go_wp2_with fail
        go_ret
        exact ⟨rfl, below_twoX _ _ _⟩
    · have HNO : Hid (oneX (m + 1) (n + 1) (k, b, t, its) (k', b', t', its') = false) := oneX_no fun h => e1 h.1
      have d1 : (k == k') = false := by simpa using e1
      rw [HNO.out]
      clear HNO CI
      go_enter Try.func35, Try.ntmps35
      go_wp2_with fail
      go_ret
      exact ⟨rfl, below_twoX _ _ _⟩

/-- An expression's error. -/
def erX (n : Nat) (u : X n) : Int := (msrX (pre stM n u 1 (0, 0))).2.2

/-- What Same answers. -/
noncomputable def smX (m n : Nat) (u : X m) (v : X n) : Bool := decide (erX m u = 0) && decide (erX n v = 0) && oneX m n u v

set_option maxRecDepth 100000 in
set_option maxHeartbeats 3200000 in
theorem tsameX_any (m n : Nat) (u : X m) (v : X n) (x y : Value) (w : World) (hu : LayX w m x u) (hv : LayX w n y v) :
    Calls Try.prog 23 #[x, y] w fun e w' => e = .returned (.bool (smX m n u v)) ∧ Below w.heap.size w w' := by
  have CU : Hid (∀ W, Below w.heap.size w W → Calls Try.prog 18 #[x] W fun e w' => e = .returned (.int .i64 (erX m u)) ∧ Below W.heap.size W w') := fun W h => checkX_any m u x W (LayX.below m hu h)
  have CV : Hid (∀ W, Below w.heap.size w W → Calls Try.prog 18 #[y] W fun e w' => e = .returned (.int .i64 (erX n v)) ∧ Below W.heap.size W w') := fun W h => checkX_any n v y W (LayX.below n hv h)
  have CS : Hid (∀ W, Below w.heap.size w W → Calls Try.prog 35 #[x, y] W fun e w' => e = .returned (.bool (oneX m n u v)) ∧ Below W.heap.size W w') := fun W h => psameX_any m n u v x y W (LayX.below m hu h) (LayX.below n hv h)
  have HS : Hid (smX m n u v = (decide (erX m u = 0) && decide (erX n v = 0) && oneX m n u v)) := rfl
  obtain ⟨k, b, t, ia, il, ic, rfl⟩ := LayX.shape m hu
  obtain ⟨k', b', t', ia', il', ic', rfl⟩ := LayX.shape n hv
  clear hu hv
  generalize smX m n u v = S at *
  generalize oneX m n u v = o at *
  generalize erX m u = eu at *
  generalize erX n v = ev at *
  by_cases h1 : eu = 0
  · subst h1
    by_cases h2 : ev = 0
    · subst h2
      have E : Hid (S = o) := by show _ = _; rw [HS.out]; simp
      rw [E.out]
      clear HS E
      cases o
      all_goals
        go_enter Try.func23, Try.ntmps23
        go_wp2_with fail
        refine (CU.out _ (below_twoX _ _ _)).mono ?_
        rintro e w1 ⟨rfl, hb1⟩
        have B1 := nxt (below_twoX _ _ _) hb1
        have Z := boxed2X hb1
        obtain ⟨p0, p1, p2, p3, -⟩ := box4 Z.1
        obtain ⟨r0, r1, r2, r3, -⟩ := box4 Z.2
        clear hb1
        go_wp2_with fail
        refine (CV.out _ B1).mono ?_
        rintro e w2 ⟨rfl, hb2⟩
        have B2 := nxt B1 hb2
        have Z1 := (hb2.block _ (lt_of_block Z.1)).trans Z.1
        have Z2 := (hb2.block _ (lt_of_block Z.2)).trans Z.2
        clear p0 p1 p2 p3 r0 r1 r2 r3 Z hb2
        obtain ⟨p0, p1, p2, p3, -⟩ := box4 Z1
        obtain ⟨r0, r1, r2, r3, -⟩ := box4 Z2
        clear Z1 Z2
        go_wp2_with fail
        refine (CS.out _ B2).mono ?_
        rintro e w3 ⟨rfl, hb3⟩
        go_wp2_with fail
        go_ret
        exact ⟨rfl, nxt B2 hb3⟩
    · have hd : (ev == 0) = false := by simpa using h2
      have E : Hid (S = false) := by show _ = _; rw [HS.out]; simp [h2]
      rw [E.out]
      clear HS E h2
      go_enter Try.func23, Try.ntmps23
      go_wp2_with fail
      refine (CU.out _ (below_twoX _ _ _)).mono ?_
      rintro e w1 ⟨rfl, hb1⟩
      have B1 := nxt (below_twoX _ _ _) hb1
      have Z := boxed2X hb1
      obtain ⟨p0, p1, p2, p3, -⟩ := box4 Z.1
      obtain ⟨r0, r1, r2, r3, -⟩ := box4 Z.2
      clear hb1
      go_wp2_with fail
      refine (CV.out _ B1).mono ?_
      rintro e w2 ⟨rfl, hb2⟩
      go_wp2_with fail
      go_ret
      exact ⟨rfl, nxt B1 hb2⟩
  · have hd : (eu == 0) = false := by simpa using h1
    have E : Hid (S = false) := by show _ = _; rw [HS.out]; simp [h1]
    rw [E.out]
    clear HS E h1
    go_enter Try.func23, Try.ntmps23
    go_wp2_with fail
    refine (CU.out _ (below_twoX _ _ _)).mono ?_
    rintro e w1 ⟨rfl, hb1⟩
    go_wp2_with fail
    go_ret
    exact ⟨rfl, nxt (below_twoX _ _ _) hb1⟩

set_option maxRecDepth 100000 in
set_option maxHeartbeats 3200000 in
theorem rsmX_any (m n : Nat) (u : X m) (v : X n) (x y : Value) (w : World) (hu : LayX w m x u) (hv : LayX w n y v) :
    Calls Try.prog 24 #[x, y] w fun e w' => e = .returned (.bool (smX m n u v)) ∧ Below w.heap.size w w' := by
  have CU : Hid (∀ W, Below w.heap.size w W → Calls Try.prog 19 #[x] W fun e w' => e = .returned (.int .i64 (erX m u)) ∧ Below W.heap.size W w') := fun W h => rcheckX_any m u x W (LayX.below m hu h)
  have CV : Hid (∀ W, Below w.heap.size w W → Calls Try.prog 19 #[y] W fun e w' => e = .returned (.int .i64 (erX n v)) ∧ Below W.heap.size W w') := fun W h => rcheckX_any n v y W (LayX.below n hv h)
  have CS : Hid (∀ W, Below w.heap.size w W → Calls Try.prog 36 #[x, y] W fun e w' => e = .returned (.bool (oneX m n u v)) ∧ Below W.heap.size W w') := fun W h => ralikeX_any m n u v x y W (LayX.below m hu h) (LayX.below n hv h)
  have HS : Hid (smX m n u v = (decide (erX m u = 0) && decide (erX n v = 0) && oneX m n u v)) := rfl
  obtain ⟨k, b, t, ia, il, ic, rfl⟩ := LayX.shape m hu
  obtain ⟨k', b', t', ia', il', ic', rfl⟩ := LayX.shape n hv
  clear hu hv
  generalize smX m n u v = S at *
  generalize oneX m n u v = o at *
  generalize erX m u = eu at *
  generalize erX n v = ev at *
  by_cases h1 : eu = 0
  · subst h1
    by_cases h2 : ev = 0
    · subst h2
      have E : Hid (S = o) := by show _ = _; rw [HS.out]; simp
      rw [E.out]
      clear HS E
      cases o
      all_goals
        go_enter Try.func24, Try.ntmps24
        go_wp2_with fail
        refine (CU.out _ (below_twoX _ _ _)).mono ?_
        rintro e w1 ⟨rfl, hb1⟩
        have B1 := nxt (below_twoX _ _ _) hb1
        have Z := boxed2X hb1
        obtain ⟨p0, p1, p2, p3, -⟩ := box4 Z.1
        obtain ⟨r0, r1, r2, r3, -⟩ := box4 Z.2
        clear hb1
        go_wp2_with fail
        refine (CV.out _ B1).mono ?_
        rintro e w2 ⟨rfl, hb2⟩
        have B2 := nxt B1 hb2
        have Z1 := (hb2.block _ (lt_of_block Z.1)).trans Z.1
        have Z2 := (hb2.block _ (lt_of_block Z.2)).trans Z.2
        clear p0 p1 p2 p3 r0 r1 r2 r3 Z hb2
        obtain ⟨p0, p1, p2, p3, -⟩ := box4 Z1
        obtain ⟨r0, r1, r2, r3, -⟩ := box4 Z2
        clear Z1 Z2
        go_wp2_with fail
        refine (CS.out _ B2).mono ?_
        rintro e w3 ⟨rfl, hb3⟩
        go_wp2_with fail
        go_ret
        exact ⟨rfl, nxt B2 hb3⟩
    · have hd : (ev == 0) = false := by simpa using h2
      have E : Hid (S = false) := by show _ = _; rw [HS.out]; simp [h2]
      rw [E.out]
      clear HS E h2
      go_enter Try.func24, Try.ntmps24
      go_wp2_with fail
      refine (CU.out _ (below_twoX _ _ _)).mono ?_
      rintro e w1 ⟨rfl, hb1⟩
      have B1 := nxt (below_twoX _ _ _) hb1
      have Z := boxed2X hb1
      obtain ⟨p0, p1, p2, p3, -⟩ := box4 Z.1
      obtain ⟨r0, r1, r2, r3, -⟩ := box4 Z.2
      clear hb1
      go_wp2_with fail
      refine (CV.out _ B1).mono ?_
      rintro e w2 ⟨rfl, hb2⟩
      go_wp2_with fail
      go_ret
      exact ⟨rfl, nxt B1 hb2⟩
  · have hd : (eu == 0) = false := by simpa using h1
    have E : Hid (S = false) := by show _ = _; rw [HS.out]; simp [h1]
    rw [E.out]
    clear HS E h1
    go_enter Try.func24, Try.ntmps24
    go_wp2_with fail
    refine (CU.out _ (below_twoX _ _ _)).mono ?_
    rintro e w1 ⟨rfl, hb1⟩
    go_wp2_with fail
    go_ret
    exact ⟨rfl, nxt (below_twoX _ _ _) hb1⟩
end Go.Proofs.Ytokakmcbpjbdpaa
