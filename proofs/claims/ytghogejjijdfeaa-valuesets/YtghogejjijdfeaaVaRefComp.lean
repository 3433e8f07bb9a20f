/-
  The page's Compare and Same, the program's Same.
-/
import Derived.Test.YtghogejjijdfeaaVaRefOrdW
import Derived.Test.YtghogejjijdfeaaVaTwo
namespace Go.Proofs.Ytghogejjijdfeaa
open Go.ChangeShapes Go.WideShapes Go.ChangeAt Go.RowKit
open Fl

/-- Are both and one? -/
def smv {n : Nat} (u v : V n) : Bool := decide (chk u = 0 ∧ chk v = 0 ∧ vcmp n u v = 0)

set_option maxRecDepth 100000 in
set_option maxHeartbeats 1600000 in
theorem rcompare_any (n : Nat) (u v : V n) (x y : Value) (w : World) (hu : Lay w n x u) (hv : Lay w n y v) :
    Calls Try.prog 18 #[x, y] w fun e w' => e = .returned (.tuple #[.int .i64 (cmpv u v), .int .i64 (cerr u v)]) ∧ Below w.heap.size w w' := by
  obtain ⟨k, b, t, ka, kl, kc, ia, il, ic, rfl⟩ := Lay.shape n hu
  obtain ⟨k', b', t', ka', kl', kc', ia', il', ic', rfl⟩ := Lay.shape n hv
  have HU : Hid (Lay w n (mk k b t ka kl kc ia il ic) u) := hu
  have HV : Hid (Lay w n (mk k' b' t' ka' kl' kc' ia' il' ic') v) := hv
  have C1 : Hid (∀ w', Below w.heap.size w w' → Calls Try.prog 14 #[mk k b t ka kl kc ia il ic] w' fun e w'' => e = .returned (.int .i64 (chk u)) ∧ Below w'.heap.size w' w'') := fun w' hb => rcheck_any n _ _ _ (Lay.below n HU.out hb)
  have C2 : Hid (∀ w', Below w.heap.size w w' → Calls Try.prog 14 #[mk k' b' t' ka' kl' kc' ia' il' ic'] w' fun e w'' => e = .returned (.int .i64 (chk v)) ∧ Below w'.heap.size w' w'') := fun w' hb => rcheck_any n _ _ _ (Lay.below n HV.out hb)
  have O1 : Hid (chk u = 0 → chk v = 0 → ∀ w', Below w.heap.size w w' → Calls Try.prog 31 #[mk k b t ka kl kc ia il ic, mk k' b' t' ka' kl' kc' ia' il' ic'] w' fun e w'' => e = .returned (.int .i64 (vcmp n u v)) ∧ Below w'.heap.size w' w'') := fun h1 h2 w' hb => rord_any n _ _ _ _ _ (Lay.below n HU.out hb) (Lay.below n HV.out hb) (ok_of_chk h1) (ok_of_chk h2)
  clear hu hv HU HV
  unfold cmpv cerr
  generalize chk u = cu at *
  generalize chk v = cv at *
  generalize vcmp n u v = X at *
  by_cases h0 : cu = 0
  · subst h0
    by_cases h1 : cv = 0
    · subst h1
      simp only [if_true]
      go_enter Try.func18, Try.ntmps18
      go_wp2_with fail
      refine (C1.out _ (below_two _ _ _)).mono ?_
      rintro e w1 ⟨rfl, hb⟩
      have T1 : Hid (Two w w1 _ _) := Two.new w _ _ hb
      have B1 := nxt (below_two _ _ _) hb
      clear hb
      obtain ⟨p0, p1, p2, p3, p4, -⟩ := box_cells T1.out.1
      obtain ⟨q0, q1, q2, q3, q4, -⟩ := box_cells T1.out.2
      go_wp2_with fail
      refine (C2.out _ B1).mono ?_
      rintro e w2 ⟨rfl, hb⟩
      have T2 : Hid (Two w w2 _ _) := T1.out.below hb
      have B2 := nxt B1 hb
      clear hb T1 B1 p0 p1 p2 p3 p4 q0 q1 q2 q3 q4
      obtain ⟨p0, p1, p2, p3, p4, -⟩ := box_cells T2.out.1
      obtain ⟨q0, q1, q2, q3, q4, -⟩ := box_cells T2.out.2
      go_wp2_with fail
      refine (O1.out (by trivial) (by trivial) _ B2).mono ?_
      rintro e w3 ⟨rfl, hb⟩
      go_wp2_with fail
      go_ret2
      exact ⟨rfl, nxt B2 hb⟩
    · have h1' : (cv == 0) = false := by simpa using h1
      rw [if_pos rfl, if_pos rfl, if_neg h1]
      clear h1
      go_enter Try.func18, Try.ntmps18
      go_wp2_with fail
      refine (C1.out _ (below_two _ _ _)).mono ?_
      rintro e w1 ⟨rfl, hb⟩
      have T1 : Hid (Two w w1 _ _) := Two.new w _ _ hb
      have B1 := nxt (below_two _ _ _) hb
      clear hb
      obtain ⟨p0, p1, p2, p3, p4, -⟩ := box_cells T1.out.1
      obtain ⟨q0, q1, q2, q3, q4, -⟩ := box_cells T1.out.2
      go_wp2_with fail
      refine (C2.out _ B1).mono ?_
      rintro e w2 ⟨rfl, hb⟩
      go_wp2_with fail
      go_ret2
      exact ⟨rfl, nxt B1 hb⟩
  · have h0' : (cu == 0) = false := by simpa using h0
    rw [if_neg h0, if_neg h0]
    clear h0
    go_enter Try.func18, Try.ntmps18
    go_wp2_with fail
    refine (C1.out _ (below_two _ _ _)).mono ?_
    rintro e w1 ⟨rfl, hb⟩
    go_wp2_with fail
    go_ret2
    exact ⟨rfl, nxt (below_two _ _ _) hb⟩

set_option maxRecDepth 100000 in
set_option maxHeartbeats 1600000 in
theorem rsame_any (n : Nat) (u v : V n) (x y : Value) (w : World) (hu : Lay w n x u) (hv : Lay w n y v) :
    Calls Try.prog 20 #[x, y] w fun e w' => e = .returned (.bool (smv u v)) ∧ Below w.heap.size w w' := by
  obtain ⟨k, b, t, ka, kl, kc, ia, il, ic, rfl⟩ := Lay.shape n hu
  obtain ⟨k', b', t', ka', kl', kc', ia', il', ic', rfl⟩ := Lay.shape n hv
  have HU : Hid (Lay w n (mk k b t ka kl kc ia il ic) u) := hu
  have HV : Hid (Lay w n (mk k' b' t' ka' kl' kc' ia' il' ic') v) := hv
  have C1 : Hid (∀ w', Below w.heap.size w w' → Calls Try.prog 14 #[mk k b t ka kl kc ia il ic] w' fun e w'' => e = .returned (.int .i64 (chk u)) ∧ Below w'.heap.size w' w'') := fun w' hb => rcheck_any n _ _ _ (Lay.below n HU.out hb)
  have C2 : Hid (∀ w', Below w.heap.size w w' → Calls Try.prog 14 #[mk k' b' t' ka' kl' kc' ia' il' ic'] w' fun e w'' => e = .returned (.int .i64 (chk v)) ∧ Below w'.heap.size w' w'') := fun w' hb => rcheck_any n _ _ _ (Lay.below n HV.out hb)
  have O1 : Hid (chk u = 0 → chk v = 0 → ∀ w', Below w.heap.size w w' → Calls Try.prog 31 #[mk k b t ka kl kc ia il ic, mk k' b' t' ka' kl' kc' ia' il' ic'] w' fun e w'' => e = .returned (.int .i64 (vcmp n u v)) ∧ Below w'.heap.size w' w'') := fun h1 h2 w' hb => rord_any n _ _ _ _ _ (Lay.below n HU.out hb) (Lay.below n HV.out hb) (ok_of_chk h1) (ok_of_chk h2)
  clear hu hv HU HV
  have HS : Hid (smv u v = decide (chk u = 0 ∧ chk v = 0 ∧ vcmp n u v = 0)) := rfl
  generalize smv u v = S at *
  generalize chk u = cu at *
  generalize chk v = cv at *
  generalize vcmp n u v = X at *
  by_cases h0 : cu = 0
  · subst h0
    by_cases h1 : cv = 0
    · subst h1
      have HS' : Hid ((X == 0) = S) := by show _ = _; rw [HS.out]; simp; rfl
      go_enter Try.func20, Try.ntmps20
      go_wp2_with fail
      refine (C1.out _ (below_two _ _ _)).mono ?_
      rintro e w1 ⟨rfl, hb⟩
      have T1 : Hid (Two w w1 _ _) := Two.new w _ _ hb
      have B1 := nxt (below_two _ _ _) hb
      clear hb
      obtain ⟨p0, p1, p2, p3, p4, -⟩ := box_cells T1.out.1
      obtain ⟨q0, q1, q2, q3, q4, -⟩ := box_cells T1.out.2
      go_wp2_with fail
      refine (C2.out _ B1).mono ?_
      rintro e w2 ⟨rfl, hb⟩
      have T2 : Hid (Two w w2 _ _) := T1.out.below hb
      have B2 := nxt B1 hb
      clear hb T1 B1 p0 p1 p2 p3 p4 q0 q1 q2 q3 q4
      obtain ⟨p0, p1, p2, p3, p4, -⟩ := box_cells T2.out.1
      obtain ⟨q0, q1, q2, q3, q4, -⟩ := box_cells T2.out.2
      go_wp2_with fail
      refine (O1.out (by trivial) (by trivial) _ B2).mono ?_
      rintro e w3 ⟨rfl, hb⟩
      go_wp2_with fail
      go_ret
      exact ⟨ret_bool HS'.out, nxt B2 hb⟩
    · have h1' : (cv == 0) = false := by simpa using h1
      have HS' : S = false := by rw [HS.out]; simp [h1]
      subst HS'
      clear h1
      go_enter Try.func20, Try.ntmps20
      go_wp2_with fail
      refine (C1.out _ (below_two _ _ _)).mono ?_
      rintro e w1 ⟨rfl, hb⟩
      have T1 : Hid (Two w w1 _ _) := Two.new w _ _ hb
      have B1 := nxt (below_two _ _ _) hb
      clear hb
      obtain ⟨p0, p1, p2, p3, p4, -⟩ := box_cells T1.out.1
      obtain ⟨q0, q1, q2, q3, q4, -⟩ := box_cells T1.out.2
      go_wp2_with fail
      refine (C2.out _ B1).mono ?_
      rintro e w2 ⟨rfl, hb⟩
      go_wp2_with fail
      go_ret
      exact ⟨rfl, nxt B1 hb⟩
  · have h0' : (cu == 0) = false := by simpa using h0
    have HS' : S = false := by rw [HS.out]; simp [h0]
    subst HS'
    clear h0
    go_enter Try.func20, Try.ntmps20
    go_wp2_with fail
    refine (C1.out _ (below_two _ _ _)).mono ?_
    rintro e w1 ⟨rfl, hb⟩
    go_wp2_with fail
    go_ret
    exact ⟨rfl, nxt (below_two _ _ _) hb⟩

set_option maxRecDepth 100000 in
set_option maxHeartbeats 1600000 in
theorem vsame_any (n : Nat) (u v : V n) (x y : Value) (w : World) (hu : Lay w n x u) (hv : Lay w n y v) :
    Calls Try.prog 19 #[x, y] w fun e w' => e = .returned (.bool (smv u v)) ∧ Below w.heap.size w w' := by
  obtain ⟨k, b, t, ka, kl, kc, ia, il, ic, rfl⟩ := Lay.shape n hu
  obtain ⟨k', b', t', ka', kl', kc', ia', il', ic', rfl⟩ := Lay.shape n hv
  have C1 : Hid (∀ w', Below w.heap.size w w' → Calls Try.prog 17 #[mk k b t ka kl kc ia il ic, mk k' b' t' ka' kl' kc' ia' il' ic'] w' fun e w'' => e = .returned (.tuple #[.int .i64 (cmpv u v), .int .i64 (cerr u v)]) ∧ Below w'.heap.size w' w'') := fun w' hb => compare_any n _ _ _ _ _ (Lay.below n hu hb) (Lay.below n hv hb)
  clear hu hv
  have HS : Hid (smv u v = (cerr u v == 0 && cmpv u v == 0)) := by
    show _ = _
    unfold smv cerr cmpv
    by_cases h0 : chk u = 0
    · by_cases h1 : chk v = 0
      · simp [h0, h1]; rfl
      · simp [h0, h1]
    · simp [h0]
  generalize smv u v = S at *
  generalize cerr u v = ce at *
  generalize cmpv u v = X at *
  cases h0 : (ce == 0) with
  | true =>
    have HS' : Hid ((X == 0) = S) := by show _ = _; rw [HS.out, h0]; rfl
    go_enter Try.func19, Try.ntmps19
    go_wp2_with fail
    refine (C1.out _ (below_two _ _ _)).mono ?_
    rintro e w1 ⟨rfl, hb⟩
    go_wp2_with fail
    go_ret
    exact ⟨ret_bool HS'.out, nxt (below_two _ _ _) hb⟩
  | false =>
    have HS' : S = false := by rw [HS.out, h0]; rfl
    subst HS'
    go_enter Try.func19, Try.ntmps19
    go_wp2_with fail
    refine (C1.out _ (below_two _ _ _)).mono ?_
    rintro e w1 ⟨rfl, hb⟩
    go_wp2_with fail
    go_ret
    exact ⟨rfl, nxt (below_two _ _ _) hb⟩
end Go.Proofs.Ytghogejjijdfeaa
