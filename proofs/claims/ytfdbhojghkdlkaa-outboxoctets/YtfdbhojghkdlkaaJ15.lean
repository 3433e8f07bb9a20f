/-
  The program's Ack.
-/
import Derived.Test.YtfdbhojghkdlkaaJ14
namespace Go.Proofs.Ytfdbhojghkdlkaa
open Go.ChangeShapes Go.WideShapes Go.ChangeAt Go.RowKit

/-- Three boxes: a box's, a number's, the result's. -/
def Three (w w' : World) (x0 x1 k y0 y1 : Value) : Prop := w'.heap[w.heap.size]? = some (.cells #[x0, x1] 26 (0, 0)) ∧ w'.heap[w.heap.size + 1]? = some (.cells #[k] 3 (0, 0)) ∧ w'.heap[w.heap.size + 1 + 1]? = some (.cells #[y0, y1] 26 (0, 0))
theorem Three.below {w w' w'' : World} {x0 x1 k y0 y1 : Value} (h : Three w w' x0 x1 k y0 y1) (hb : Below w'.heap.size w' w'') : Three w w'' x0 x1 k y0 y1 :=
  ⟨(hb.block _ (lt_of_block h.1)).trans h.1, (hb.block _ (lt_of_block h.2.1)).trans h.2.1, (hb.block _ (lt_of_block h.2.2)).trans h.2.2⟩
theorem Three.new (w : World) (x0 x1 k y0 y1 : Value) {w1 : World} (hb : Below (((w.alloc (.cells #[x0, x1] 26)).alloc (.cells #[k] 3)).alloc (.cells #[y0, y1] 26)).heap.size (((w.alloc (.cells #[x0, x1] 26)).alloc (.cells #[k] 3)).alloc (.cells #[y0, y1] 26)) w1) : Three w w1 x0 x1 k y0 y1 := by
  refine ⟨?_, ?_, ?_⟩
  · rw [hb.block _ (by simp; omega), Below.heap_alloc _ _ _ (by simp; omega), Below.heap_alloc _ _ _ (by simp)]
    exact heap_alloc_new _ _
  · rw [hb.block _ (by simp), Below.heap_alloc _ _ _ (by simp)]
    exact heap_new2 _ _ _
  · rw [hb.block _ (by simp)]
    have h := heap_alloc_new ((w.alloc (.cells #[x0, x1] 26)).alloc (.cells #[k] 3)) (.cells #[y0, y1] 26)
    rw [show ((w.alloc (.cells #[x0, x1] 26)).alloc (.cells #[k] 3)).heap.size = w.heap.size + 1 + 1 by simp] at h
    exact h
theorem Three.cells {w w1 : World} {x0 x1 k y0 y1 : Value} (h : Three w w1 x0 x1 k y0 y1) :
    w1.cell? ⟨w.heap.size, 0, none⟩ = some x0 ∧ w1.cell? ⟨w.heap.size, 1, none⟩ = some x1 ∧ w1.cell? ⟨w.heap.size + 1, 0, none⟩ = some k ∧ w1.cell? ⟨w.heap.size + 1 + 1, 0, none⟩ = some y0 ∧ w1.cell? ⟨w.heap.size + 1 + 1, 1, none⟩ = some y1 ∧ w1.frozen? ⟨w.heap.size + 1 + 1, 0, none⟩ = false ∧ w1.frozen? ⟨w.heap.size + 1 + 1, 1, none⟩ = false := by
  simp [World.cell?, World.frozen?, h.1, h.2.1, h.2.2]

/-- What Ack tells. -/
def AckPost {n : Nat} (w : World) (R : Int × Bool × Int × List (Tm n)) (e : Ending) (w' : World) : Prop := ∃ v H, e = .returned (.tuple #[.agg #[.int .i64 R.2.2.1, v], .bool R.2.1, .int .i64 R.1]) ∧ CopyInv (shT n) w w' v R.2.2.2 H

theorem TIs.drop {w : World} {n : Nat} {b o : Nat} {ic : Nat} {its : List (Tm n)} (h : TIs w n (some ⟨b, o, none⟩) ic its) (k : Nat) (hk : k ≤ its.length) : TIs w n (some ⟨b, o + k * 7, none⟩) (ic - k) (its.drop k) := by
  obtain ⟨h1, h2, h3, h4, h5, h6, h7⟩ := h
  refine ⟨by rw [List.length_drop]; omega, by omega, by rw [List.length_drop]; omega, by simp, ?_, fun u hu => h6 u (List.mem_of_mem_drop hu), h7.drop k⟩
  intro ad e _
  cases e
  rfl

theorem any_false {n : Nat} {id : Int} {its : List (Tm n)} (h : ∀ u ∈ its, ¬ u.1 = id) : its.any (fun u => decide (u.1 = id)) = false := by
  rw [List.any_eq_false]
  intro u hu
  simpa using h u hu
theorem any_true {n : Nat} {id : Int} {its : List (Tm n)} {m : Nat} (h : m < its.length) (e : its[m].1 = id) : its.any (fun u => decide (u.1 = id)) = true := by
  rw [List.any_eq_true]
  exact ⟨its[m], List.getElem_mem h, by simpa using e⟩

set_option maxRecDepth 100000 in
set_option maxHeartbeats 6400000 in
theorem ack_any {n : Nat} (L id : Int) (its : List (Tm n)) (ia : Option Addr) (ic : Nat) (w : World) (hT : TIs w n ia ic its) :
    Calls Try.prog 29 #[.agg #[.int .i64 L, .slice ia its.length ic], .int .i64 id] w (AckPost w (ackR L its id)) := by
  have HT : Hid (TIs w n ia ic its) := hT
  have hlT := hT.2.2.1
  have hc1 := hT.1
  have hc2 := hT.2.1
  have C1 : Hid (∀ w', Below w.heap.size w w' → Calls Try.prog 15 #[.agg #[.int .i64 L, .slice ia its.length ic]] w' fun e w'' => e = .returned (.int .i64 (chkB L its)) ∧ Below w'.heap.size w' w'') := fun w' hb => bcheck_any L its ia ic w' (hT.below hb)
  clear hT
  by_cases h0 : chkB L its = 0
  · obtain ⟨e1, e2, e3, e4⟩ := chkB_ok h0
    have ha : IntKind.i64.wrap (L + 1) = L + 1 := by rw [IntKind.wrap_i64]; omega
    by_cases h1 : 32 ≤ id ∧ id < 32 * (L + 1)
    · have E : Hid (ackR L its id = (0, its.any (fun u => decide (u.1 = id)), L, rem id its)) := by show _ = _; unfold ackR; rw [if_pos h0, if_pos h1]
      have HC1 : Hid (∀ u ∈ its, chk u.2.2 = 0) := fun u hu => (effE_chk (okT_mem e4 u hu).2.2).1
      have HOK : Hid (okT L 32 its = true) := e4
      obtain ⟨g1, g2⟩ := h1
      have hd1 : decide (id < 32) = false := by simpa using g1
      have hd2 : decide (32 * (L + 1) ≤ id) = false := by simpa using g2
      rw [h0] at C1
      clear h0 e4
      go_enter Try.func29, Try.ntmps29
      go_wp2_with fail
      refine (C1.out _ (below_three _ _ _ _)).mono ?_
      rintro e w1 ⟨rfl, hb1⟩
      have T1 : Hid (Three w w1 _ _ _ _ _) := Three.new w _ _ _ _ _ hb1
      have B1 : Hid (Below w.heap.size w w1) := nxt (below_three _ _ _ _) hb1
      clear hb1
      obtain ⟨x0, x1, k0, y0, y1, z0, z1⟩ := T1.out.cells
      go_wp2_with fail
      go_quiet ((go_at_call 31; exact Calls.quiet_of_same (idOf_any _ 0 _ (by omega) (by omega) (by decide) (by decide))))
      have TD : Hid (Three w (w1.drewN nq) (.int .i64 L) (.slice ia its.length ic) (.int .i64 id) (.int .i64 0) (.slice none 0 0)) := T1.out.below (Below_drewN _ _ _)
      have BD : Hid (Below w.heap.size w (w1.drewN nq)) := B1.out.trans (Below_drewN _ _ _)
      clear x0 x1 k0 y0 y1 z0 z1 T1 B1
      generalize w1.drewN nq = w2 at *
      obtain ⟨x0, x1, k0, y0, y1, z0, z1⟩ := TD.out.cells
      go_wp2_with fail
      refine (indexT_any id its ia ic (w.heap.size + 1) w2 (HT.out.below BD.out) k0).mono ?_
      rintro e w3 ⟨i, rfl, hidx, hb3⟩
      have T3 : Hid (Three w w3 (.int .i64 L) (.slice ia its.length ic) (.int .i64 id) (.int .i64 0) (.slice none 0 0)) := TD.out.below hb3
      have B3 : Hid (Below w.heap.size w w3) := nxt BD.out hb3
      clear hb3 x0 x1 k0 y0 y1 z0 z1 TD BD
      obtain ⟨x0, x1, k0, y0, y1, z0, z1⟩ := T3.out.cells
      rcases hidx with ⟨rfl, hno⟩ | ⟨m, hm, rfl, hme⟩
      · have EA : Hid (its.any (fun u => decide (u.1 = id)) = false) := any_false hno
        have ER : Hid (rem id its = its) := rem_none hno
        rw [EA.out, ER.out] at E
        clear hno EA ER
        have BDD : Hid (Below w.heap.size w w3.drew) := B3.out.drew
        have C5 : Hid (Calls Try.prog 45 #[.slice ia its.length ic] w3.drew _) := bcopy_any its ia ic w3.drew (HT.out.below BDD.out) HC1.out
        have u0 : w3.drew.cell? ⟨w.heap.size, 0, none⟩ = some (.int .i64 L) := x0
        go_wp2_with fail
        go_region_law (first
          | (refine step_call1 rfl 45 (by intros; go_simp) _ _ rfl (.slice ia its.length ic) (by first | (simp [Act.eval]; done) | simp [Act.eval, Act.put]) (fun y w' => ∃ H, CopyInv (shT n) w3.drew w' y its H) (C5.out.mono fun e w' ⟨v, H, q1, q2⟩ => ⟨v, q1, H, q2⟩) ?_; intro y w4 hR; obtain ⟨H4, h4⟩ := hR; have T4 := T3.out.below (nxt (Below.refl _ w3).drew h4.2.2); obtain ⟨r0, r1, r2, r3, r4, r5, r6⟩ := T4.cells; obtain ⟨a4, c4, rfl⟩ := h4.1.shape))
        all_goals
          have H4' : Hid (CopyInv (shT n) w3.drew w4 (.slice a4 its.length c4) its H4) := h4
          clear h4 T4
          go_wp2_with fail
          refine bodyPost_ret (v := .tuple #[.agg #[.int .i64 L, .slice a4 its.length c4], .bool false, .int .i64 0]) (by simp [results, Try.results29, go_sem, r3, r4]) rfl ?_
          rw [E.out]
          exact ⟨_, H4, rfl, CopyInv.set2 H4'.out BDD.out (by omega) (lt_of_block T3.out.2.2) _ _⟩
      · have EA : Hid (its.any (fun u => decide (u.1 = id)) = true) := any_true hm hme
        have ER : Hid (rem id its = its.take m ++ its.drop (m + 1)) := by show _ = _; rw [rem_at HOK.out m hm, hme]
        rw [EA.out, ER.out] at E
        have hok : ∀ u ∈ its.take m ++ its.drop (m + 1), TmOk u ∧ chk u.2.2 = 0 := by
          intro u hu
          have : u ∈ its := by
            rcases List.mem_append.1 hu with hu | hu
            · exact List.mem_of_mem_take hu
            · exact List.mem_of_mem_drop hu
          exact ⟨HT.out.2.2.2.2.2.1 u this, HC1.out u this⟩
        have HOKS : Hid (∀ u ∈ its.take m ++ its.drop (m + 1), TmOk u ∧ chk u.2.2 = 0) := hok
        have HL : Hid ((its.take m ++ its.drop (m + 1)).length ≤ 256) := by show _ ≤ _; rw [List.length_append, List.length_take, List.length_drop]; omega
        have l1 : Hid ((its.take m).length = m) := by show _ = _; rw [List.length_take]; omega
        have l2 : Hid ((its.drop (m + 1)).length = its.length - (m + 1)) := by show _ = _; rw [List.length_drop]
        obtain ⟨b, o, -, -, -, -, -, -, -, -, -, rfl, -⟩ := HT.out.at m hm
        obtain ⟨a2, ha2, hT2⟩ : ∃ a2 : Option Addr, (if ic = m + 1 then some (⟨b, o, none⟩ : Addr) else some ⟨b, o + (m + 1) * 7, none⟩) = a2 ∧ ∀ W, Below w3.heap.size w3 W → TIs W n a2 (ic - (m + 1)) (its.drop (m + 1)) := by
          refine ⟨_, rfl, fun W hW => ?_⟩
          have hTW := HT.out.below (nxt B3.out hW)
          by_cases hic : ic = m + 1
          · rw [if_pos hic]
            have hnil : its.drop (m + 1) = [] := List.eq_nil_of_length_eq_zero (by rw [l2.out]; omega)
            rw [hnil]
            refine ⟨by simp, by omega, by simp, by simp, ?_, by simp, LayR.nil _ _ _⟩
            intro ad e _
            cases e
            rfl
          · rw [if_neg hic]
            exact hTW.drop (m + 1) hm
        have C4 : Hid (∀ W g, Below w3.heap.size w3 W → W.cell? ⟨g, 0, none⟩ = some (.slice (some ⟨b, o, none⟩) m ic) → W.cell? ⟨g, 1, none⟩ = some (.slice a2 (its.length - (m + 1)) (ic - (m + 1))) → Calls Try.prog 48 #[.slice (some ⟨g, 0, none⟩) 2 2] W (ShPost W (its.take m ++ its.drop (m + 1)))) := by
          intro W g hW q0 q1
          have hTW := HT.out.below (nxt B3.out hW)
          exact concatT_any (its.take m) (its.drop (m + 1)) _ _ ic (ic - (m + 1)) g W (hTW.take m) (hT2 W hW) (by rw [l1.out]; exact q0) (by rw [l2.out]; exact q1) (by rw [l1.out, l2.out]; omega)
        clear EA ER hok l1 l2 hme hT2
        have j5 : 0 ≤ (m : Int) + 1 := by omega
        have j0 : (m : Int) ≤ (ic : Int) := by omega
        have j1 : IntKind.i64.wrap ((m : Int) + 1) = (m : Int) + 1 := by rw [IntKind.wrap_i64]; omega
        have j2 : (m : Int) + 1 ≤ (its.length : Int) := by omega
        have j3 : (its.length : Int) ≤ (ic : Int) := by omega
        have j4 : ((m : Int) + 1).toNat = m + 1 := by omega
        generalize its.take m ++ its.drop (m + 1) = acc at *
        go_wp2_with fail
        go_region_law (first
          | (refine step_call1 rfl 48 (by intros; go_simp) _ _ rfl (.slice (some ⟨w3.heap.size, 0, none⟩) 2 2) (by first | (simp [Act.eval]; done) | simp [Act.eval, Act.put]) (fun y w' => ∃ W, Below w3.heap.size w3 W ∧ ShRow W w' W.heap.size y acc ∧ Below W.heap.size W w') ((C4.out _ w3.heap.size (below_one _ _).drew (newCellsA w3 _ _ 0 _ rfl) (newCellsA w3 _ _ 1 _ rfl)).mono fun e w' ⟨v, q1, q2, q3⟩ => ⟨v, q1, _, (below_one _ _).drew, q2, q3⟩) ?_; intro y w5 hR))
        obtain ⟨W, hW, hsh, hb5⟩ := hR
        have hok := HOKS.out
        obtain ⟨ia5, ic5, rfl, t5⟩ := hsh.tis hb5 (by have := HL.out; omega) (fun u hu => (hok u hu).1)
        have B5 : Hid (Below w3.heap.size w3 w5) := nxt hW hb5
        have C5 : Hid (Calls Try.prog 45 #[.slice ia5 acc.length ic5] w5.drew _) := bcopy_any acc ia5 ic5 w5.drew (t5.below (Below.refl _ _).drew) (fun u hu => (hok u hu).2)
        have T5 : Hid (Three w w5 (.int .i64 L) (.slice (some ⟨b, o, none⟩) its.length ic) (.int .i64 id) (.int .i64 0) (.slice none 0 0)) := T3.out.below B5.out
        have BDD : Hid (Below w.heap.size w w5.drew) := (nxt B3.out B5.out).drew
        clear hok t5 hsh hb5 hW x0 x1 k0 y0 y1 z0 z1
        obtain ⟨x0, x1, k0, y0, y1, z0, z1⟩ := T5.out.cells
        have u0 : w5.drew.cell? ⟨w.heap.size, 0, none⟩ = some (.int .i64 L) := x0
        go_wp2_with fail
        go_region_law (first
          | (refine step_call1 rfl 45 (by intros; go_simp) _ _ rfl (.slice ia5 acc.length ic5) (by first | (simp [Act.eval]; done) | simp [Act.eval, Act.put]) (fun y w' => ∃ H, CopyInv (shT n) w5.drew w' y acc H) (C5.out.mono fun e w' ⟨v, H, q1, q2⟩ => ⟨v, q1, H, q2⟩) ?_; intro y w4 hR; obtain ⟨H4, h4⟩ := hR; have T4 := T5.out.below (nxt (Below.refl _ w5).drew h4.2.2); obtain ⟨r0, r1, r2, r3, r4, r5, r6⟩ := T4.cells; obtain ⟨a4, c4, rfl⟩ := h4.1.shape))
        all_goals
          have H4' : Hid (CopyInv (shT n) w5.drew w4 (.slice a4 acc.length c4) acc H4) := h4
          clear h4 T4
          go_wp2_with fail
          refine bodyPost_ret (v := .tuple #[.agg #[.int .i64 L, .slice a4 acc.length c4], .bool true, .int .i64 0]) (by simp [results, Try.results29, go_sem, r3, r4]) rfl ?_
          rw [E.out]
          exact ⟨_, H4, rfl, CopyInv.set2 H4'.out BDD.out (by omega) (lt_of_block T5.out.2.2) _ _⟩
    · have E : Hid (ackR L its id = (4, false, 0, [])) := by show _ = _; unfold ackR; rw [if_pos h0, if_neg h1]
      rw [h0] at C1
      clear h0 e4
      by_cases g1 : id < 32
      · have hd1 : decide (id < 32) = true := by simpa using g1
        clear h1
        go_enter Try.func29, Try.ntmps29
        go_wp2_with fail
        refine (C1.out _ (below_three _ _ _ _)).mono ?_
        rintro e w1 ⟨rfl, hb1⟩
        have T1 : Hid (Three w w1 _ _ _ _ _) := Three.new w _ _ _ _ _ hb1
        have B1 : Hid (Below w.heap.size w w1) := nxt (below_three _ _ _ _) hb1
        clear hb1
        obtain ⟨x0, x1, k0, y0, y1, z0, z1⟩ := T1.out.cells
        go_wp2_with fail
        go_quiet ((go_at_call 31; exact Calls.quiet_of_same (idOf_any _ 0 _ (by omega) (by omega) (by decide) (by decide))))
        have TD : Hid (Three w (w1.drewN nq) (.int .i64 L) (.slice ia its.length ic) (.int .i64 id) (.int .i64 0) (.slice none 0 0)) := T1.out.below (Below_drewN _ _ _)
        have BD : Hid (Below w.heap.size w (w1.drewN nq)) := B1.out.trans (Below_drewN _ _ _)
        clear x0 x1 k0 y0 y1 z0 z1 T1 B1
        generalize w1.drewN nq = w2 at *
        obtain ⟨x0, x1, k0, y0, y1, z0, z1⟩ := TD.out.cells
        go_wp2_with fail
        refine bodyPost_ret (v := .tuple #[.agg #[.int .i64 0, .slice none 0 0], .bool false, .int .i64 4]) (by simp [results, Try.results29, go_sem, y0, y1]) rfl ?_
        rw [E.out]
        exact ⟨_, _, rfl, CopyInv.none2 _ BD.out (by omega) _ _⟩
      · have hd1 : decide (id < 32) = false := by simpa using g1
        have hd2 : decide (32 * (L + 1) ≤ id) = true := by
          have : 32 * (L + 1) ≤ id := by omega
          simpa using this
        clear h1
        go_enter Try.func29, Try.ntmps29
        go_wp2_with fail
        refine (C1.out _ (below_three _ _ _ _)).mono ?_
        rintro e w1 ⟨rfl, hb1⟩
        have T1 : Hid (Three w w1 _ _ _ _ _) := Three.new w _ _ _ _ _ hb1
        have B1 : Hid (Below w.heap.size w w1) := nxt (below_three _ _ _ _) hb1
        clear hb1
        obtain ⟨x0, x1, k0, y0, y1, z0, z1⟩ := T1.out.cells
        go_wp2_with fail
        go_quiet ((go_at_call 31; exact Calls.quiet_of_same (idOf_any _ 0 _ (by omega) (by omega) (by decide) (by decide))))
        have TD : Hid (Three w (w1.drewN nq) (.int .i64 L) (.slice ia its.length ic) (.int .i64 id) (.int .i64 0) (.slice none 0 0)) := T1.out.below (Below_drewN _ _ _)
        have BD : Hid (Below w.heap.size w (w1.drewN nq)) := B1.out.trans (Below_drewN _ _ _)
        clear x0 x1 k0 y0 y1 z0 z1 T1 B1
        generalize w1.drewN nq = w2 at *
        obtain ⟨x0, x1, k0, y0, y1, z0, z1⟩ := TD.out.cells
        go_wp2_with fail
        refine bodyPost_ret (v := .tuple #[.agg #[.int .i64 0, .slice none 0 0], .bool false, .int .i64 4]) (by simp [results, Try.results29, go_sem, y0, y1]) rfl ?_
        rw [E.out]
        exact ⟨_, _, rfl, CopyInv.none2 _ BD.out (by omega) _ _⟩
  · have E : Hid (ackR L its id = (9, false, 0, [])) := by show _ = _; unfold ackR; rw [if_neg h0]
    have h9 : chkB L its = 9 := (chkB_cases L its).resolve_left h0
    rw [h9] at C1
    clear h0 h9
    go_enter Try.func29, Try.ntmps29
    go_wp2_with fail
    refine (C1.out _ (below_three _ _ _ _)).mono ?_
    rintro e w1 ⟨rfl, hb1⟩
    have T1 : Hid (Three w w1 _ _ _ _ _) := Three.new w _ _ _ _ _ hb1
    have B1 : Hid (Below w.heap.size w w1) := nxt (below_three _ _ _ _) hb1
    clear hb1
    obtain ⟨x0, x1, k0, y0, y1, z0, z1⟩ := T1.out.cells
    go_wp2_with fail
    refine bodyPost_ret (v := .tuple #[.agg #[.int .i64 0, .slice none 0 0], .bool false, .int .i64 9]) (by simp [results, Try.results29, go_sem, y0, y1]) rfl ?_
    rw [E.out]
    exact ⟨_, _, rfl, CopyInv.none2 _ B1.out (by omega) _ _⟩
end Go.Proofs.Ytfdbhojghkdlkaa

/-
  The page's example: alive answers true.
-/
namespace Go.Proofs.Ytfdbhojghkdlkaa
open Go.ChangeShapes Go.WideShapes Go.ChangeAt Go.RowKit

def obZ : V 1 := (0, 0, ⟨#[]⟩, [], [])
def obE : List (Ef 1) := [(⟨#[97]⟩, obZ), (⟨#[98]⟩, obZ)]
def obI : List (Tm 1) := [(96, ⟨#[97]⟩, obZ), (97, ⟨#[98]⟩, obZ)]

theorem obZ_chk : chk obZ = 0 := by
  have hm : mayB 0 0 ⟨#[]⟩ [] ([] : List (V 0)).length = true := by
    unfold mayB
    rw [if_pos rfl, (empty_of (nm := ⟨#[]⟩) rfl).2]
    rfl
  have h : wk 1 obZ 1 (0, 0) = .ok (1, 1) := by
    simp only [obZ, wk]
    rw [if_neg (by decide), if_neg (by decide), if_pos hm]
    rfl
  unfold chk
  rw [h]
  rfl
theorem obE_a : effE (⟨#[97]⟩ : ByteArray) obZ = 0 := effE_mk obZ_chk (by decide) (by decide)
theorem obE_b : effE (⟨#[98]⟩ : ByteArray) obZ = 0 := effE_mk obZ_chk (by decide) (by decide)
theorem ob_new : chkB 0 ([] : List (Tm 1)) = 0 := by simp [chkB, okT]
theorem ob_ev : evE 0 3 obE = 0 := by simp [evE, obE, effsE, obE_a, obE_b]
theorem ob_add : addR 0 ([] : List (Tm 1)) 3 obE = (0, 3, obI) := by
  unfold addR
  rw [if_pos ob_new, if_pos ob_ev, if_pos (by decide)]
  simp [obE, obI, nums]
theorem ob_box : chkB 3 obI = 0 := by simp [chkB, obI, okT, obE_a, obE_b]
theorem ob_next : nextR 3 obI 9 = (0, obI) := by
  unfold nextR
  rw [if_pos ob_box, if_pos (by decide)]
  rfl
theorem ob_ack : ackR 3 obI 96 = (0, true, 3, [(97, ⟨#[98]⟩, obZ)]) := by
  unfold ackR
  rw [if_pos ob_box, if_pos (by decide)]
  simp [obI, rem]

theorem OwnR.tis {n : Nat} {wr : World} {v : Value} {its : List (Tm n)} {H : Nat → Prop} (h : OwnR (shT n) wr v its H) (hb : its.length * 104 ≤ 140737488351232) (hok : ∀ u ∈ its, TmOk u) : ∃ ia ic, v = .slice ia its.length ic ∧ TIs wr n ia ic its := by
  obtain ⟨ia, ic, rfl⟩ := h.shape
  refine ⟨ia, ic, rfl, ?_⟩
  have hl := h.lay
  obtain ⟨xs, G, q1, _⟩ := h
  have hc := cap_of_own q1
  refine ⟨hc.1, hc.2, hb, none_of_own q1, ?_, hok, hl⟩
  intro ad e _
  rcases q1.2 with ⟨e1, -⟩ | ⟨g, cap, cur, e1, -⟩
  · rw [e] at e1; simp at e1
  · rw [e] at e1; simp only [Value.slice.injEq, Option.some.injEq] at e1; rw [e1.1]

theorem CopyInv.keep {α : Type} {n : Nat} {S : Sh α n} {w1 w2 w3 : World} {v : Value} {its : List α} {H : Nat → Prop} (h : CopyInv S w1 w2 v its H) (hk : ∀ b, w1.heap.size ≤ b → b < w2.heap.size → w3.heap[b]? = w2.heap[b]?) : OwnR S w3 v its H :=
  h.1.same fun b hb => hk b (h.2.1 b hb).1 (h.2.1 b hb).2

theorem TIs.none (w : World) (n : Nat) : TIs w n .none 0 ([] : List (Tm n)) := ⟨by simp, by simp, by simp, by simp, by simp, by simp, LayR.nil _ _ _⟩

theorem obI_ok : ∀ u ∈ obI, TmOk u := by
  intro u hu
  simp only [obI, List.mem_cons, List.not_mem_nil, or_false] at hu
  rcases hu with rfl | rfl <;> exact ⟨⟨by decide, by decide⟩, by decide⟩

theorem ob_lay (w : World) : Lay w 1 (mk 0 0 ⟨#[]⟩ none 0 0 none 0 0) obZ :=
  ⟨.none, 0, .none, 0, rfl, ⟨by decide, by decide, by decide, by simp, by simp, by simp, by simp, by simp, by simp⟩, by simp, by simp, fun i s hi => by simp at hi, fun i u hi => by simp at hi⟩

theorem ob_eis (w : World) (g : Nat) (h : w.heap[g]? = some (.cells #[.string ⟨#[97]⟩, .int .i64 0, .int .u64 0, .string ⟨#[]⟩, .slice none 0 0, .slice none 0 0, .string ⟨#[98]⟩, .int .i64 0, .int .u64 0, .string ⟨#[]⟩, .slice none 0 0, .slice none 0 0] 52 (0, 0))) : EIs w 1 (some ⟨g, 0, .none⟩) 2 obE := by
  have hc : ∀ j, w.cell? ⟨g, j, .none⟩ = _ := fun j => (cell_of h j).1
  refine ⟨by decide, by decide, by decide, by simp, ?_, ?_, ?_⟩
  · intro ad e _
    cases e
    rfl
  · intro u hu
    simp only [obE, List.mem_cons, List.not_mem_nil, or_false] at hu
    rcases hu with rfl | rfl <;> (show _ ≤ _; decide)
  · intro i u hi
    match i, hi with
    | 0, hi =>
      cases hi
      refine ⟨g, 0, _, _, _, _, _, rfl, ?_, (hc _).trans rfl, (hc _).trans rfl, (hc _).trans rfl, (hc _).trans rfl, (hc _).trans rfl, ob_lay w⟩
      intro j c hj
      match j, hj with
      | 0, hj => cases hj; exact (hc _).trans rfl
      | j + 1, hj => simp [shE] at hj
    | 1, hi =>
      cases hi
      refine ⟨g, 0, _, _, _, _, _, rfl, ?_, (hc _).trans rfl, (hc _).trans rfl, (hc _).trans rfl, (hc _).trans rfl, (hc _).trans rfl, ob_lay w⟩
      intro j c hj
      match j, hj with
      | 0, hj => cases hj; exact (hc _).trans rfl
      | j + 1, hj => simp [shE] at hj
    | i + 2, hi => cases hi

set_option maxRecDepth 100000 in
set_option maxHeartbeats 6400000 in
theorem alive_any (w : World) : Calls Try.prog 13 #[] w fun e w' => e = .returned (.bool true) ∧ Below w.heap.size w w' := by
  have CA : Hid (∀ W g, EIs W 1 (some ⟨g, 0, none⟩) 2 obE → Calls Try.prog 26 #[.agg #[.int .i64 0, .slice none 0 0], .int .i64 3, .slice (some ⟨g, 0, none⟩) 2 2] W (BoxPost W (0, 3, obI))) := fun W g h => by
    have := add_any 0 3 ([] : List (Tm 1)) none 0 obE (some ⟨g, 0, none⟩) 2 W (TIs.none W 1) h
    rw [ob_add] at this
    exact this
  have CN : Hid (∀ W a c, TIs W 1 a c obI → Calls Try.prog 28 #[.agg #[.int .i64 3, .slice a 2 c], .int .i64 9] W (ListPost W (0, obI))) := fun W a c h => by
    have := next_box 3 9 obI a c W h (by decide)
    rw [ob_next] at this
    exact this
  have CK : Hid (∀ W a c, TIs W 1 a c obI → Calls Try.prog 29 #[.agg #[.int .i64 3, .slice a 2 c], .int .i64 96] W (AckPost W (0, true, 3, [((97 : Int), (⟨#[98]⟩ : ByteArray), obZ)]))) := fun W a c h => by
    have := ack_any 3 96 obI a c W h
    rw [ob_ack] at this
    exact this
  go_enter Try.func13, Try.ntmps13
  go_wp2_with fail
  refine (new_any _).mono ?_
  rintro e w1 ⟨rfl, hb1⟩
  have B1 : Hid (Below w.heap.size w w1) := hb1
  clear hb1
  go_wp2_with fail
  refine (CA.out _ w1.heap.size (ob_eis _ _ (heap_alloc_new _ _))).mono ?_
  rintro e w2 ⟨v2, H2, rfl, h2⟩
  obtain ⟨a2, c2, rfl, t2⟩ := CopyInv.tis h2 (by decide) obI_ok
  have B2 : Hid (Below w.heap.size w w2) := nxt B1.out (nxt (below_one _ _) h2.2.2)
  clear h2
  have X3 : Hid ((w2.alloc (.cells #[.int .i64 3, .slice a2 2 c2] 26)).heap[w2.heap.size]? = some (.cells #[.int .i64 3, .slice a2 2 c2] 26 (0, 0))) := heap_alloc_new _ _
  have B3 : Hid (Below w.heap.size w (w2.alloc (.cells #[.int .i64 3, .slice a2 2 c2] 26))) := nxt B2.out (below_one _ _)
  have T3 : Hid (TIs (w2.alloc (.cells #[.int .i64 3, .slice a2 2 c2] 26)) 1 a2 c2 obI) := t2.below (below_one _ _)
  have hl2 : obI.length = 2 := rfl
  rw [hl2]
  clear t2 hl2
  go_wp2_with fail
  generalize w2.alloc (.cells #[.int .i64 3, .slice a2 2 c2] 26) = w3 at *
  refine (CN.out _ _ _ T3.out).mono ?_
  rintro e w4 ⟨v4, H4, rfl, h4⟩
  obtain ⟨a4, c4, rfl, t4⟩ := CopyInv.tis h4 (by decide) obI_ok
  have B4 : Hid (Below w.heap.size w w4) := nxt B3.out h4.2.2
  have X4 : Hid (w4.heap[w2.heap.size]? = some (.cells #[.int .i64 3, .slice a2 2 c2] 26 (0, 0))) := (h4.2.2.block _ (lt_of_block X3.out)).trans X3.out
  have T4 : Hid (TIs w4 1 a2 c2 obI) := T3.out.below h4.2.2
  have H4' : Hid (CopyInv (shT 1) w3 w4 (.slice a4 obI.length c4) obI H4) := h4
  have hl2 : obI.length = 2 := rfl
  rw [hl2] at H4'
  rw [hl2]
  clear t4 h4 hl2
  obtain ⟨x0, -⟩ := cell_of X4.out 0
  obtain ⟨x1, -⟩ := cell_of X4.out 1
  simp only [List.getElem?_toArray, List.getElem?_cons_zero, List.getElem?_cons_succ] at x0 x1
  go_wp2_with fail
  refine (CK.out _ _ _ T4.out).mono ?_
  rintro e w5 ⟨v5, H5, rfl, h5⟩
  obtain ⟨a5, c5, rfl⟩ := h5.1.shape
  have B5 : Hid (Below w.heap.size w w5) := nxt B4.out h5.2.2
  have X5 : Hid (w5.heap[w2.heap.size]? = some (.cells #[.int .i64 3, .slice a2 2 c2] 26 (0, 0))) := (h5.2.2.block _ (lt_of_block X4.out)).trans X4.out
  have K5 : Hid (Below w4.heap.size w4 w5) := h5.2.2
  clear h5 x0 x1
  obtain ⟨x0, z0⟩ := cell_of X5.out 0
  obtain ⟨x1, z1⟩ := cell_of X5.out 1
  simp only [List.getElem?_toArray, List.getElem?_cons_zero, List.getElem?_cons_succ] at x0 x1
  have O6 : OwnR (shT 1) ((w5.setCell ⟨w2.heap.size, 0, none⟩ (.int .i64 3)).setCell ⟨w2.heap.size, 1, none⟩ (.slice a5 1 c5)) (.slice a4 2 c4) obI H4 :=
    CopyInv.keep H4'.out fun b hb1 hb2 => (set2_other _ _ (by have := lt_of_block X3.out; omega)).trans (K5.out.block b hb2)
  obtain ⟨a6, c6, e6, t6⟩ := O6.tis (by decide) obI_ok
  simp only [Value.slice.injEq] at e6
  obtain ⟨rfl, -, rfl⟩ := e6
  obtain ⟨g, o, -, -, -, -, -, -, -, -, -, rfl, q0, -⟩ := t6.at 0 (by decide)
  obtain ⟨g', o', -, -, -, -, -, -, -, -, -, e', q1, -⟩ := t6.at 1 (by decide)
  cases e'
  simp only [obI, List.getElem_cons_zero, List.getElem_cons_succ, Nat.zero_mul, Nat.one_mul, Nat.add_zero] at q0 q1
  clear O6 t6
  go_wp2_with (go_at_call 11; refine (num_any _ _).mono ?_; rintro e w7 ⟨rfl, hw7⟩; subst w7)
  go_ret
  refine ⟨rfl, ?_⟩
  exact (B5.out.setCell (p := ⟨w2.heap.size, 0, none⟩) (by have := B2.out.size; exact this) _).setCell (p := ⟨w2.heap.size, 1, none⟩) (by have := B2.out.size; exact this) _
end Go.Proofs.Ytfdbhojghkdlkaa
