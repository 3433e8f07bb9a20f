/-
  What the statements call: same.
-/
import Derived.Test.YtocodkoanjcmkabWlBuilt
namespace Go.Proofs.Ytocodkoanjcmkab
open Go.ChangeShapes Go.WideShapes Go.ChangeAt Go.RowKit Go.Deep
open Se

set_option maxRecDepth 100000 in
set_option maxHeartbeats 3200000 in
theorem same_any (rs qs : List Rc) (a b : Option Addr) (c d : Nat) (w : World) (hl : LayR w a rs) (hm : LayR w b qs) (hn : rs.length ≤ 200000000000000) :
    Calls Try.prog 19 #[.slice a rs.length c, .slice b qs.length d] w fun e w' => e = .returned (.bool (decide (rs = qs))) ∧ Below w.heap.size w w' := by
  have HL : Hid (LayR w a rs) := hl
  have HM : Hid (LayR w b qs) := hm
  clear hl hm
  by_cases hne : rs.length = qs.length
  · have hne' : ((rs.length : Int) != (qs.length : Int)) = false := by simp [hne]
    go_enter Try.func19, Try.ntmps19
    go_wp2_with fail
    go_loopw [5] (fun i wr => ∃ m : Nat, m ≤ rs.length ∧ i = .int .i64 m ∧ Hid (rs.take m = qs.take m) ∧ Hid (Below w.heap.size w wr)) (fun i _ => rs.length - (intOf i).toNat)
    case atStart => exact ⟨0, by omega, rfl, by show _ = _; simp, Below.refl _ _⟩
    case round =>
      obtain ⟨m, hm, rfl, HT, HB⟩ := hrel
      by_cases hlt : m < rs.length
      · have hm1 : (m : Int) < rs.length := by omega
        have hm2 : (m : Int) < qs.length := by omega
        obtain ⟨⟨k, da⟩, hf⟩ : ∃ f, rs[m]? = some f := ⟨_, List.getElem?_eq_getElem hlt⟩
        obtain ⟨⟨k', db⟩, hg⟩ : ∃ f, qs[m]? = some f := ⟨_, List.getElem?_eq_getElem (by omega)⟩
        obtain ⟨g, off, a1, c1, rfl, p0, p1, p2⟩ := (HL.out.below HB.out) m _ hf
        obtain ⟨g', off', a2, c2, rfl, q0, q1, q2⟩ := (HM.out.below HB.out) m _ hg
        simp only at p0 p1 p2 q0 q1 q2
        have P2 : Hid (LayB wr a1 da) := p2
        have Q2 : Hid (LayB wr a2 db) := q2
        have HTF : Hid (rs.take (m + 1) = rs.take m ++ [(k, da)] ∧ qs.take (m + 1) = qs.take m ++ [(k', db)]) := by
          show _ ∧ _
          rw [List.take_succ_eq_append_getElem hlt, List.take_succ_eq_append_getElem (show m < qs.length by omega)]
          rw [List.getElem?_eq_getElem hlt] at hf
          rw [List.getElem?_eq_getElem (show m < qs.length by omega)] at hg
          simp only [Option.some.injEq] at hf hg
          rw [hf, hg]
          exact ⟨rfl, rfl⟩
        have HNE : Hid ((k, da) ≠ (k', db) → ¬ rs = qs) := by
          intro h e
          subst e
          have := HTF.out.1.symm.trans HTF.out.2
          simp only [List.append_cancel_left_eq, List.cons.injEq, and_true] at this
          exact h this
        clear hf hg p2 q2
        by_cases hk : k = k'
        · have hkb : (k != k') = false := by simp [hk]
          by_cases hd : da = db
          · have hdb : (da == db) = true := by simp [hd]
            have HSB : Hid (∀ w', LayB w' a1 da → LayB w' a2 db → Calls Try.prog 22 #[.slice a1 da.length c1, .slice a2 db.length c2] w' fun e w'' => e = .returned (.bool true) ∧ w'' = w') := by
              intro w' h1 h2
              have := sameB_any da db a1 a2 c1 c2 w' h1 h2
              rw [hdb] at this
              exact this
            have HQ : Hid ((k, da) = (k', db)) := by show _ = _; rw [hk, hd]
            clear hk hd hdb HNE
            go_wp2_with fail
            go_quiet ((go_at_call 22; exact Calls.quiet_of_same (HSB.out _ (show LayB _ _ _ from P2.out) (show LayB _ _ _ from Q2.out))))
            have HB2 : Hid (Below w.heap.size w (wr.drewN nq)) := HB.out.trans (Below_drewN _ _ _)
            clear P2 Q2 HSB p0 p1 q0 q1
            generalize wr.drewN nq = W2 at *
            go_wp2_with fail
            refine ⟨⟨m + 1, by omega, by go_num, ?_, HB2.out⟩, by simp [intOf]; omega⟩
            show _ = _
            rw [HTF.out.1, HTF.out.2, HT.out, HQ.out]
          · have hdb : (da == db) = false := by simp [hd]
            have HSB : Hid (∀ w', LayB w' a1 da → LayB w' a2 db → Calls Try.prog 22 #[.slice a1 da.length c1, .slice a2 db.length c2] w' fun e w'' => e = .returned (.bool false) ∧ w'' = w') := by
              intro w' h1 h2
              have := sameB_any da db a1 a2 c1 c2 w' h1 h2
              rw [hdb] at this
              exact this
            have HQ : Hid (¬ rs = qs) := HNE.out (by intro e; simp at e; exact hd e.2)
            clear hk hd hdb HNE
            go_wp2_with fail
            go_quiet ((go_at_call 22; exact Calls.quiet_of_same (HSB.out _ (show LayB _ _ _ from P2.out) (show LayB _ _ _ from Q2.out))))
            have HB2 : Hid (Below w.heap.size w (wr.drewN nq)) := HB.out.trans (Below_drewN _ _ _)
            clear P2 Q2 HSB p0 p1 q0 q1
            generalize wr.drewN nq = W2 at *
            go_wp2_with fail
            go_ret
            exact ⟨by rw [decide_eq_false HQ.out]; rfl, HB2.out⟩
        · have hkb : (k != k') = true := by simp [hk]
          have HQ : Hid (¬ rs = qs) := HNE.out (by intro e; simp at e; exact hk e.1)
          clear HNE hk
          go_wp2_with fail
          go_quiet (fail)
          have HB2 : Hid (Below w.heap.size w (wr.drewN nq)) := HB.out.trans (Below_drewN _ _ _)
          clear P2 Q2 p0 p1 q0 q1
          generalize wr.drewN nq = W2 at *
          go_wp2_with fail
          go_ret
          exact ⟨by rw [decide_eq_false HQ.out]; rfl, HB2.out⟩
      · have hme : m = rs.length := by omega
        subst hme
        go_wp2_with fail
        go_ret
        refine ⟨?_, HB.out⟩
        have h1 := HT.out
        rw [List.take_of_length_le (Nat.le_refl _), List.take_of_length_le (by omega)] at h1
        rw [decide_eq_true h1]
        rfl
  · have hne' : ((rs.length : Int) != (qs.length : Int)) = true := by simp; omega
    have HQ : Hid (¬ rs = qs) := fun e => hne (by rw [e])
    go_enter Try.func19, Try.ntmps19
    go_wp2_with fail
    go_ret
    exact ⟨by rw [decide_eq_false HQ.out]; rfl, Below.refl _ _⟩
end Go.Proofs.Ytocodkoanjcmkab
