/-
  The page's first and Check.
-/
import Derived.Test.YtocodkoanjcmkabWlPScan
import Derived.Test.YtocodkoanjcmkabWlPMath
namespace Go.Proofs.Ytocodkoanjcmkab
open Go.ChangeShapes Go.WideShapes Go.ChangeAt Go.RowKit Go.Deep
open Se

set_option maxRecDepth 100000 in
set_option maxHeartbeats 3200000 in
theorem first_any (a : Option Addr) (c : Nat) (l : List UInt8) (w : World) (ho : Oct w a c l) :
    Calls Try.prog 36 #[.slice a l.length c] w fun e w' => e = .returned (.int .i64 (fstR l)) ∧ Below w.heap.size w w' := by
  have HT : Hid (Calls Try.prog 42 #[.slice a l.length c] w _) := rget_any a c l w ho
  have HLN : Hid ((getR l).1 = 0 → (getR l).2.2.1.length ≤ 65536) := fun h => (getR_ok h).2.2
  clear ho
  unfold fstR
  generalize getR l = G at *
  obtain ⟨er, kd, d, gn⟩ := G
  simp only at HT HLN ⊢
  generalize l.length = ll at *
  by_cases h1 : er ≠ 0
  · have h1b : (er != 0) = true := by simpa using h1
    rw [if_pos h1]
    go_enter Try.func36, Try.ntmps36
    go_wp2_with (go_at_call 42; refine HT.out.mono ?_; rintro e w1 ⟨s1, rfl, hs1, hb1⟩; obtain ⟨a1, c1, rfl⟩ := hs1.shape; have HB1 : Hid (Below w.heap.size w w1) := hb1; clear hb1 hs1)
    go_ret
    exact ⟨rfl, nxt HB1.out (below_one _ _)⟩
  rw [if_neg h1]
  have h1b : (er != 0) = false := by simpa using h1
  have hdl := HLN.out (by omega)
  by_cases h2 : d.length < 8
  · have h2b : (d.length : Int) < 8 := by omega
    rw [if_pos h2]
    go_enter Try.func36, Try.ntmps36
    go_wp2_with (go_at_call 42; refine HT.out.mono ?_; rintro e w1 ⟨s1, rfl, hs1, hb1⟩; obtain ⟨a1, c1, rfl⟩ := hs1.shape; have HB1 : Hid (Below w.heap.size w w1) := hb1; clear hb1 hs1)
    go_ret
    exact ⟨rfl, nxt HB1.out (below_one _ _)⟩
  rw [if_neg h2]
  have h2b : ¬ (d.length : Int) < 8 := by omega
  have hd8 : (d.take 8).length = 8 := by rw [List.length_take]; omega
  have NB := numO_bound 8 (d.take 8) hd8
  have HNU : Hid (∀ W a1 c1, LayB W a1 (d.take 8) → Calls Try.prog 43 #[.slice a1 8 c1] W fun e w' => e = .returned (.int .u64 (numO (d.take 8))) ∧ w' = W) := by
    intro W a1 c1 h
    have := rnumber_any a1 c1 (d.take 8) W h (by omega)
    rw [hd8] at this
    exact this
  clear hd8
  obtain ⟨nb, hnb⟩ : ∃ nb, numO (d.take 8) = nb := ⟨_, rfl⟩
  rw [hnb] at HNU NB ⊢
  clear hnb
  by_cases h3 : 1099511627776 < nb
  · rw [if_pos h3]
    go_enter Try.func36, Try.ntmps36
    go_wp2_with (first
      | (go_at_call 42; refine HT.out.mono ?_; rintro e w1 ⟨s1, rfl, hs1, hb1⟩; obtain ⟨a1, c1, rfl⟩ := hs1.shape; have HB1 : Hid (Below w.heap.size w w1) := hb1; have HLT : Hid (LayB w1 a1 (d.take 8)) := (fun i o hi => by rw [List.getElem?_take] at hi; split at hi; exact hs1.lay i o hi; cases hi); have hcc : d.length ≤ c1 := (hs1.oct (by omega)).2.1; clear hb1 hs1)
      | (go_at_call 43; refine (HNU.out _ _ _ (HLT.out.below (below_one _ _))).mono ?_; rintro e w2 ⟨rfl, hw2⟩; subst w2))
    go_ret
    exact ⟨rfl, nxt HB1.out (below_one _ _)⟩
  · rw [if_neg h3]
    have hw : IntKind.i64.wrap nb = nb := by rw [IntKind.wrap_i64]; omega
    have hw' : wrap64 nb = nb := by unfold wrap64; omega
    go_enter Try.func36, Try.ntmps36
    go_wp2_with (first
      | (go_at_call 42; refine HT.out.mono ?_; rintro e w1 ⟨s1, rfl, hs1, hb1⟩; obtain ⟨a1, c1, rfl⟩ := hs1.shape; have HB1 : Hid (Below w.heap.size w w1) := hb1; have HLT : Hid (LayB w1 a1 (d.take 8)) := (fun i o hi => by rw [List.getElem?_take] at hi; split at hi; exact hs1.lay i o hi; cases hi); have hcc : d.length ≤ c1 := (hs1.oct (by omega)).2.1; clear hb1 hs1)
      | (go_at_call 43; refine (HNU.out _ _ _ (HLT.out.below (below_one _ _))).mono ?_; rintro e w2 ⟨rfl, hw2⟩; subst w2))
    go_ret
    exact ⟨by first | rfl | (rw [hw]; rfl), nxt HB1.out (below_one _ _)⟩

theorem fst_le (l : List UInt8) : -9223372036854775808 ≤ fstR l ∧ fstR l ≤ 9223372036854775807 := by
  unfold fstR
  by_cases h1 : (getR l).1 ≠ 0
  · rw [if_pos h1]; omega
  · rw [if_neg h1]
    by_cases h2 : (getR l).2.2.1.length < 8
    · rw [if_pos h2]; omega
    · rw [if_neg h2]
      have NB := numO_bound 8 ((getR l).2.2.1.take 8) (by rw [List.length_take]; omega)
      by_cases h3 : 1099511627776 < numO ((getR l).2.2.1.take 8)
      · rw [if_pos h3]; omega
      · rw [if_neg h3]; omega

set_option maxRecDepth 100000 in
set_option maxHeartbeats 6400000 in
theorem rcheck_any (ss : List (List UInt8)) (nx : Int) (a : Option Addr) (c : Nat) (w : World) (hS : LayS w a ss) (hn : ss.length ≤ 200000000000000) (hsm : ∀ l ∈ ss, l.length ≤ 2000000) (h1 : -9223372036854775808 ≤ nx) (h2 : nx ≤ 9223372036854775807) :
    Calls Try.prog 21 #[.agg #[.slice a ss.length c, .int .i64 nx]] w fun e w' => e = .returned (.int .i64 (chkW ss nx)) ∧ Below w.heap.size w w' := by
  rw [← chk_eq]
  have HS : Hid (LayS w a ss) := hS
  have HSM : Hid (∀ l ∈ ss, l.length ≤ 2000000) := hsm
  clear hS hsm
  unfold chkP
  have X0 : Hid ((w.alloc (.cells #[.slice a ss.length c, .int .i64 nx] 24)).heap[w.heap.size]? = some (.cells #[.slice a ss.length c, .int .i64 nx] 24 (0, 0))) := heap_alloc_new _ _
  have B0 : Hid (Below w.heap.size w (w.alloc (.cells #[.slice a ss.length c, .int .i64 nx] 24))) := below_one _ _
  by_cases hA : nx < 1 ∨ 1099511627776 < nx ∨ 64 < ss.length
  · rw [if_pos hA]
    have hb : (nx < 1) ∨ (¬ nx < 1 ∧ 1099511627776 < nx) ∨ (¬ nx < 1 ∧ ¬ 1099511627776 < nx ∧ (64 : Int) < ss.length) := by omega
    clear hA
    rcases hb with q | ⟨q, q'⟩ | ⟨q, q', q''⟩
    all_goals
      go_enter Try.func21, Try.ntmps21
      go_wp2_with fail
      go_ret
      exact ⟨rfl, B0.out⟩
  rw [if_neg hA]
  have hA1 : ¬ nx < 1 := by omega
  have hA2 : ¬ 1099511627776 < nx := by omega
  have hA3 : ¬ (64 : Int) < ss.length := by omega
  clear hA
  have HR1 : Hid (runP ss (dueP ss nx) = some nx → (if runP ss (dueP ss nx) = some nx then 0 else 9 : Int) = 0) := fun h => if_pos h
  have HR2 : Hid ((runP ss (dueP ss nx) = some nx → False) → (if runP ss (dueP ss nx) = some nx then 0 else 9 : Int) = 9) := fun h => if_neg h
  generalize (if runP ss (dueP ss nx) = some nx then 0 else 9 : Int) = R at *
  have HDU : Hid (∀ W, Below w.heap.size w W → ∀ b off a1 c1 l, a = some ⟨b, off, none⟩ → ss[0]? = some l → W.cell? ⟨b, off, none⟩ = some (.slice a1 l.length c1) → Oct W a1 c1 l → Calls Try.prog 36 #[.slice a1 l.length c1] W fun e w' => e = .returned (.int .i64 (dueP ss nx)) ∧ Below W.heap.size W w') := by
    intro W hb b off a1 c1 l ha hl hc ho
    cases ss with
    | nil => simp at hl
    | cons s ss =>
      simp only [List.getElem?_cons_zero, Option.some.injEq] at hl
      subst hl
      exact first_any a1 c1 s W ho
  have hdr : -9223372036854775808 ≤ dueP ss nx ∧ dueP ss nx ≤ 9223372036854775807 := by
    cases ss with
    | nil => exact ⟨h1, h2⟩
    | cons s ss => exact fst_le s
  have HD0 : Hid (ss.length = 0 → dueP ss nx = nx) := by
    intro h
    rw [List.eq_nil_of_length_eq_zero h]
    rfl
  obtain ⟨hd1, hd2⟩ := hdr
  generalize dueP ss nx = d0 at *
  obtain ⟨x0, -⟩ := cell_of X0.out 0
  obtain ⟨x1, -⟩ := cell_of X0.out 1
  simp at x0 x1
  by_cases he : ss.length = 0
  · have hd0 : d0 = nx := HD0.out he
    have hss : ss = [] := List.eq_nil_of_length_eq_zero he
    have HR : Hid (R = 0) := HR1.out (by rw [hss, hd0]; rfl)
    have hnb : (nx != nx) = false := by simp
    clear x0 x1
    rw [he] at X0 ⊢
    obtain ⟨x0, -⟩ := cell_of X0.out 0
    obtain ⟨x1, -⟩ := cell_of X0.out 1
    clear HR1 HR2 HDU HD0 hd0 hss HS HSM B0
    have B0' : Hid (Below w.heap.size w (w.alloc (.cells #[.slice a 0 c, .int .i64 nx] 24))) := below_one _ _
    go_enter Try.func21, Try.ntmps21
    go_wp2_with fail
    obtain ⟨W0, hW0⟩ : ∃ W0, W0 = w.alloc (.cells #[.slice a 0 c, .int .i64 nx] 24) := ⟨_, rfl⟩
    rw [← hW0] at X0 x0 x1 B0' ⊢
    go_loopw [3, 4] (fun y i wr => y = .int .i64 nx ∧ i = .int .i64 0 ∧ Hid (wr = W0)) (fun _ _ _ => 0)
    case atStart => exact ⟨rfl, rfl, rfl⟩
    case round =>
      obtain ⟨rfl, rfl, HW⟩ := hrel
      have hWW : W0 = wr := HW.out.symm
      subst hWW
      go_wp2_with fail
      go_ret
      exact ⟨by rw [HR.out]; rfl, below_one _ _⟩
  have hpos : (0 : Int) < (ss.length : Int) := by omega
  obtain ⟨l0, hl0⟩ : ∃ l, ss[0]? = some l := ⟨_, List.getElem?_eq_getElem (by omega)⟩
  obtain ⟨b, off, a1, c1, rfl, p1, p2, -⟩ := (HS.out.below B0.out) 0 l0 hl0
  have HFI : Hid (Calls Try.prog 36 #[.slice a1 l0.length c1] (w.alloc (.cells #[.slice (some ⟨b, off, none⟩) ss.length c, .int .i64 nx] 24)) fun e w' => e = .returned (.int .i64 d0) ∧ Below (w.alloc (.cells #[.slice (some ⟨b, off, none⟩) ss.length c, .int .i64 nx] 24)).heap.size (w.alloc (.cells #[.slice (some ⟨b, off, none⟩) ss.length c, .int .i64 nx] 24)) w') := HDU.out _ B0.out b off a1 c1 l0 rfl hl0 p1 p2
  rw [Nat.add_zero] at p1
  clear hl0 p2 HDU HD0
  go_enter Try.func21, Try.ntmps21
  go_wp2_with (go_at_call 36; refine HFI.out.mono ?_; rintro e W1 ⟨rfl, hb1⟩; have HB1 : Hid (Below w.heap.size w W1) := nxt B0.out hb1; have HX1 : Hid (W1.heap[w.heap.size]? = some (.cells #[.slice (some ⟨b, off, none⟩) ss.length c, .int .i64 nx] 24 (0, 0))) := (hb1.block _ (lt_of_block X0.out)).trans X0.out; clear hb1)
  clear x0 x1 X0 B0 p1 HFI
  go_loopw [3, 4] (fun y i wr => ∃ (z : Int) (m : Nat), y = .int .i64 z ∧ i = .int .i64 m ∧ m ≤ ss.length ∧ -9223372036854775808 ≤ z ∧ z ≤ 9223372036854775807 ∧ Hid (runP ss d0 = runP (ss.drop m) z) ∧ Hid (Below W1.heap.size W1 wr)) (fun _ i _ => ss.length - (intOf i).toNat)
  case atStart => exact ⟨d0, 0, rfl, rfl, by omega, hd1, hd2, rfl, Below.refl _ _⟩
  case round =>
    obtain ⟨z, m, rfl, rfl, hm, hz1, hz2, HE, HB⟩ := hrel
    have HBW : Hid (Below w.heap.size w wr) := nxt HB1.out HB.out
    have HXR : Hid (wr.heap[w.heap.size]? = some (.cells #[.slice (some ⟨b, off, none⟩) ss.length c, .int .i64 nx] 24 (0, 0))) := (HB.out.block _ (lt_of_block HX1.out)).trans HX1.out
    obtain ⟨x0, -⟩ := cell_of HXR.out 0
    obtain ⟨x1, -⟩ := cell_of HXR.out 1
    simp at x0 x1
    by_cases hlt : m < ss.length
    · have hltb : (m : Int) < (ss.length : Int) := by omega
      obtain ⟨l, hl⟩ : ∃ l, ss[m]? = some l := ⟨_, List.getElem?_eq_getElem hlt⟩
      have HDR : Hid (ss.drop m = l :: ss.drop (m + 1)) := by
        show _ = _
        rw [List.drop_eq_getElem_cons hlt]
        rw [List.getElem?_eq_getElem hlt] at hl
        simp only [Option.some.injEq] at hl
        rw [hl]
      obtain ⟨b', off', a2, c2, hab, q1, q2, q3⟩ := (HS.out.below HBW.out) m l hl
      cases hab
      have HRN : Hid (runP (ss.drop m) z = if z < 1 ∨ (scR l z).1.length = 0 ∨ (scR l z).2 ≠ l.length ∨ 480 < (scR l z).2 then none else runP (ss.drop (m + 1)) (wrap64 (z + (scR l z).1.length))) := by
        show _ = _
        rw [HDR.out]
        rfl
      have hl2 := HSM.out l (List.mem_of_getElem? hl)
      have HSC : Hid (Calls Try.prog 27 #[.slice a2 l.length c2, .int .i64 z] wr _) := rscan_any a2 c2 l z wr q2 hl2 hz1 hz2
      have hle := scR_le l z
      have q1' : ∀ W, Below wr.heap.size wr W → W.cell? ⟨b, off + m, none⟩ = some (.slice a2 l.length c2) := fun W hb => keepc hb _ _ q1
      have HQ1 : Hid (∀ W, Below wr.heap.size wr W → W.cell? ⟨b, off + m, none⟩ = some (.slice a2 l.length c2)) := q1'
      clear hl q2 HDR q1'
      generalize scR l z = T at *
      obtain ⟨rs, n⟩ := T
      simp only at HRN HSC hle
      by_cases hbad : z < 1 ∨ rs.length = 0 ∨ n ≠ l.length ∨ 480 < n
      · have HR : Hid (R = 9) := HR2.out (by rw [HE.out, HRN.out, if_pos hbad]; simp)
        have hcs : (z < 1) ∨ (¬ z < 1 ∧ ((rs.length : Int) == 0) = true) ∨ (¬ z < 1 ∧ ((rs.length : Int) == 0) = false ∧ ((n : Int) != (l.length : Int)) = true) ∨ (¬ z < 1 ∧ ((rs.length : Int) == 0) = false ∧ ((n : Int) != (l.length : Int)) = false ∧ (480 : Int) < n) := by
          by_cases g1 : z < 1
          · exact Or.inl g1
          · by_cases g2 : rs.length = 0
            · exact Or.inr (Or.inl ⟨g1, beq_iff_eq.2 (by omega)⟩)
            · by_cases g3 : n = l.length
              · exact Or.inr (Or.inr (Or.inr ⟨g1, beq_eq_false_iff_ne.2 (by omega), by rw [g3]; simp, by omega⟩))
              · exact Or.inr (Or.inr (Or.inl ⟨g1, beq_eq_false_iff_ne.2 (by omega), bne_iff_ne.2 (by omega)⟩))
        clear HR1 HR2 HRN HE hbad hle
        rcases hcs with g1 | ⟨g1, g2⟩ | ⟨g1, g2, g3⟩ | ⟨g1, g2, g3, g4⟩
        all_goals
          go_wp2_with (go_at_call 27; refine HSC.out.mono ?_; rintro e w2 ⟨v, rfl, hor, hb2⟩; obtain ⟨va, vc, rfl⟩ := hor.shape; have HB2 : Hid (Below w.heap.size w w2) := nxt HBW.out hb2; have p1 := HQ1.out w2 hb2; have HX2 := (hb2.block _ (lt_of_block HXR.out)).trans HXR.out; have y0 := (cell_of HX2 0).1; simp at y0; clear hor hb2 HX2)
          go_ret
          exact ⟨by rw [HR.out]; rfl, HB2.out⟩
      · rw [if_neg hbad] at HRN
        have g1 : ¬ z < 1 := by omega
        have g2 : ((rs.length : Int) == 0) = false := beq_eq_false_iff_ne.2 (by omega)
        have g3 : ((n : Int) != (l.length : Int)) = false := by
          have : n = l.length := by omega
          rw [this]; simp
        have g4 : ¬ (480 : Int) < n := by omega
        have HWR : Hid (-9223372036854775808 ≤ wrap64 (z + rs.length) ∧ wrap64 (z + rs.length) ≤ 9223372036854775807) := by show _ ∧ _; unfold wrap64; omega
        have HEN : Hid (runP ss d0 = runP (ss.drop (m + 1)) (wrap64 (z + rs.length))) := HE.out.trans HRN.out
        clear hbad hle HRN HE
        go_wp2_with (go_at_call 27; refine HSC.out.mono ?_; rintro e w2 ⟨v, rfl, hor, hb2⟩; obtain ⟨va, vc, rfl⟩ := hor.shape; have HB2 : Hid (Below W1.heap.size W1 w2) := nxt HB.out hb2; have p1 := HQ1.out w2 hb2; have HX2 := (hb2.block _ (lt_of_block HXR.out)).trans HXR.out; have y0 := (cell_of HX2 0).1; simp at y0; clear hor hb2 HX2)
        exact ⟨⟨_, m + 1, rfl, by go_num, by omega, HWR.out.1, HWR.out.2, HEN.out, HB2.out⟩, by simp [intOf]; omega⟩
    · have hme : m = ss.length := by omega
      subst hme
      have HFE : Hid (runP ss d0 = some z) := by
        show _ = _
        rw [HE.out, List.drop_length]
        rfl
      clear HE
      by_cases hze : z = nx
      · have HR : Hid (R = 0) := HR1.out (by rw [HFE.out, hze])
        have hneb : (z != nx) = false := by simp [hze]
        clear HR1 HR2 HFE
        go_wp2_with fail
        go_ret
        exact ⟨by rw [HR.out]; rfl, HBW.out⟩
      · have HR : Hid (R = 9) := HR2.out (by rw [HFE.out]; simpa using hze)
        have hneb : (z != nx) = true := by simp [hze]
        clear HR1 HR2 HFE
        go_wp2_with fail
        go_ret
        exact ⟨by rw [HR.out]; rfl, HBW.out⟩
end Go.Proofs.Ytocodkoanjcmkab
