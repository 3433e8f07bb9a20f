/-
  SnapTorn holds for every three snapshots and every number of sectors: of a slot of which a new snapshot's first sectors stand ahead of an old one's others, beside one that is whole, the whole one, or the new one, or the old one is told. No condition (mixtures that fit their sum and are neither are let go by the statement itself).
-/
import Derived.Test.YtocodkoanjcmkacSnPageN
import Derived.Deep.RegionHeld3
namespace Go.Proofs.Ytocodkoanjcmkac.snapTorn
open Go.ChangeShapes Go.WideShapes Go.ChangeAt Go.RowKit Go.Deep
open Se

/-- The parameters' boxes. -/
structure Three (w W : World) (v1 v2 v3 : Array Value) : Prop where
  one : W.heap[w.heap.size]? = some (.cells v1 24 (0, 0))
  two : W.heap[w.heap.size + 1]? = some (.cells v2 24 (0, 0))
  three : W.heap[w.heap.size + 2]? = some (.cells v3 24 (0, 0))
  bel : Below w.heap.size w W
theorem Three.below {w W W' : World} {v1 v2 v3 : Array Value} (h : Three w W v1 v2 v3) (hb : Below W.heap.size W W') : Three w W' v1 v2 v3 :=
  ⟨(hb.block _ (lt_of_block h.one)).trans h.one, (hb.block _ (lt_of_block h.two)).trans h.two, (hb.block _ (lt_of_block h.three)).trans h.three, nxt h.bel hb⟩

set_option maxRecDepth 100000 in
set_option maxHeartbeats 6400000 in
theorem walk (s1 : Sn) (x1 : Value) (s2 : Sn) (x2 : Value) (s3 : Sn) (x3 : Value) (t : Int) (w : World) (hs1 : SnIs w x1 s1) (hs2 : SnIs w x2 s2) (hs3 : SnIs w x3 s3) (ht : (Lit.int .i64 t).wf = true) :
    Calls Try.prog 5 #[x1, x2, x3, .int .i64 t] w fun e w' => e = .returned (.bool true) ∧ Below w.heap.size w w' := by
  obtain ⟨e1, q1, d1⟩ := s1
  obtain ⟨e2, q2, d2⟩ := s2
  obtain ⟨e3, q3, d3⟩ := s3
  obtain ⟨a1, c1, rfl, hk1, ho1, hl1⟩ := hs1
  obtain ⟨a2, c2, rfl, hk2, ho2, hl2⟩ := hs2
  obtain ⟨a3, c3, rfl, hk3, ho3, hl3⟩ := hs3
  simp only at hk1 ho1 hl1 hk2 ho2 hl2 hk3 ho3 hl3 ⊢
  have HO1 : Hid (Oct w a1 c1 d1) := ho1
  have HO2 : Hid (Oct w a2 c2 d2) := ho2
  have HO3 : Hid (Oct w a3 c3 d3) := ho3
  have HT : Hid (-9223372036854775808 ≤ t ∧ t ≤ 9223372036854775807) := by have := bounds_i64 ht; exact ⟨by omega, by omega⟩
  clear ho1 ho2 ho3
  have T0 : Hid (Three w (((w.alloc (.cells #[.int .i64 e1, .int .i64 q1, .slice a1 d1.length c1] 24)).alloc (.cells #[.int .i64 e2, .int .i64 q2, .slice a2 d2.length c2] 24)).alloc (.cells #[.int .i64 e3, .int .i64 q3, .slice a3 d3.length c3] 24)) #[.int .i64 e1, .int .i64 q1, .slice a1 d1.length c1] #[.int .i64 e2, .int .i64 q2, .slice a2 d2.length c2] #[.int .i64 e3, .int .i64 q3, .slice a3 d3.length c3]) := by
    have b2 := below_one (w.alloc (.cells #[.int .i64 e1, .int .i64 q1, .slice a1 d1.length c1] 24)) (.cells #[.int .i64 e2, .int .i64 q2, .slice a2 d2.length c2] 24)
    have b3 := below_one ((w.alloc (.cells #[.int .i64 e1, .int .i64 q1, .slice a1 d1.length c1] 24)).alloc (.cells #[.int .i64 e2, .int .i64 q2, .slice a2 d2.length c2] 24)) (.cells #[.int .i64 e3, .int .i64 q3, .slice a3 d3.length c3] 24)
    refine ⟨((nxt b2 b3).block _ (by simp)).trans (heap_alloc_new _ _), (b3.block _ (by simp)).trans (heap_new2 _ _ _), ?_, nxt (nxt (below_one _ _) b2) b3⟩
    have := heap_alloc_new ((w.alloc (.cells #[.int .i64 e1, .int .i64 q1, .slice a1 d1.length c1] 24)).alloc (.cells #[.int .i64 e2, .int .i64 q2, .slice a2 d2.length c2] 24)) (.cells #[.int .i64 e3, .int .i64 q3, .slice a3 d3.length c3] 24)
    simpa using this
  go_enter Try.func5, Try.ntmps5
  go_wp2_with fail
  refine (alive_any _).mono ?_
  rintro y w1 ⟨rfl, hb1⟩
  have T1 : Hid (Three w w1 #[.int .i64 e1, .int .i64 q1, .slice a1 d1.length c1] #[.int .i64 e2, .int .i64 q2, .slice a2 d2.length c2] #[.int .i64 e3, .int .i64 q3, .slice a3 d3.length c3]) := T0.out.below hb1
  clear T0
  clear hb1
  obtain ⟨x0, -⟩ := cell_of T1.out.one 0
  obtain ⟨x1, -⟩ := cell_of T1.out.one 1
  obtain ⟨x2, -⟩ := cell_of T1.out.one 2
  simp at x0 x1 x2
  go_wp2_with fail
  refine (of_any e1 q1 a1 c1 d1 w1 (HO1.out.below T1.out.bel) hl1).mono ?_
  rintro y w2 ⟨v2, rfl, hs, hb2⟩
  obtain ⟨oa1, oc1, rfl⟩ := hs.shape
  clear x0 x1 x2
  have T2 : Hid (Three w w2 #[.int .i64 e1, .int .i64 q1, .slice a1 d1.length c1] #[.int .i64 e2, .int .i64 q2, .slice a2 d2.length c2] #[.int .i64 e3, .int .i64 q3, .slice a3 d3.length c3]) := T1.out.below hb2
  clear T1
  have O2 : Hid (Oct w2 oa1 oc1 d1) := hs.oct (by omega)
  clear hs hb2
  go_wp2_with fail
  obtain ⟨R1, hR1⟩ : ∃ R, encR e1 q1 d1 = R := ⟨_, rfl⟩
  have HR1 : Hid (encR e1 q1 d1 = R1) := hR1
  have HE := encode_any e1 q1 oa1 oc1 d1 w2 O2.out
  rw [hR1] at HE
  refine HE.mono ?_
  clear O2
  rintro y w3 ⟨v3, rfl, hs, hb3⟩
  obtain ⟨pa1, pc1, rfl⟩ := hs.shape
  clear HE hR1
  have T3 : Hid (Three w w3 #[.int .i64 e1, .int .i64 q1, .slice a1 d1.length c1] #[.int .i64 e2, .int .i64 q2, .slice a2 d2.length c2] #[.int .i64 e3, .int .i64 q3, .slice a3 d3.length c3]) := T2.out.below hb3
  clear T2
  have S1x3 : Hid (Bs w3 w2.heap.size (.slice pa1 R1.2.length pc1) R1.2) := hs
  clear hs hb3
  obtain ⟨x0, -⟩ := cell_of T3.out.two 0
  obtain ⟨x1, -⟩ := cell_of T3.out.two 1
  obtain ⟨x2, -⟩ := cell_of T3.out.two 2
  simp at x0 x1 x2
  go_wp2_with fail
  refine (of_any e2 q2 a2 c2 d2 w3 (HO2.out.below T3.out.bel) hl2).mono ?_
  rintro y w4 ⟨v4, rfl, hs, hb4⟩
  obtain ⟨oa2, oc2, rfl⟩ := hs.shape
  clear x0 x1 x2
  have T4 : Hid (Three w w4 #[.int .i64 e1, .int .i64 q1, .slice a1 d1.length c1] #[.int .i64 e2, .int .i64 q2, .slice a2 d2.length c2] #[.int .i64 e3, .int .i64 q3, .slice a3 d3.length c3]) := T3.out.below hb4
  have S1x4 : Hid (Bs w4 w2.heap.size (.slice pa1 R1.2.length pc1) R1.2) := S1x3.out.below hb4
  clear T3 S1x3
  have O4 : Hid (Oct w4 oa2 oc2 d2) := hs.oct (by omega)
  clear hs hb4
  go_wp2_with fail
  obtain ⟨R2, hR2⟩ : ∃ R, encR e2 q2 d2 = R := ⟨_, rfl⟩
  have HR2 : Hid (encR e2 q2 d2 = R2) := hR2
  have HE := encode_any e2 q2 oa2 oc2 d2 w4 O4.out
  rw [hR2] at HE
  refine HE.mono ?_
  clear O4
  rintro y w5 ⟨v5, rfl, hs, hb5⟩
  obtain ⟨pa2, pc2, rfl⟩ := hs.shape
  clear HE hR2
  have T5 : Hid (Three w w5 #[.int .i64 e1, .int .i64 q1, .slice a1 d1.length c1] #[.int .i64 e2, .int .i64 q2, .slice a2 d2.length c2] #[.int .i64 e3, .int .i64 q3, .slice a3 d3.length c3]) := T4.out.below hb5
  have S1x5 : Hid (Bs w5 w2.heap.size (.slice pa1 R1.2.length pc1) R1.2) := S1x4.out.below hb5
  clear T4 S1x4
  have S2x5 : Hid (Bs w5 w4.heap.size (.slice pa2 R2.2.length pc2) R2.2) := hs
  clear hs hb5
  obtain ⟨x0, -⟩ := cell_of T5.out.three 0
  obtain ⟨x1, -⟩ := cell_of T5.out.three 1
  obtain ⟨x2, -⟩ := cell_of T5.out.three 2
  simp at x0 x1 x2
  go_wp2_with fail
  refine (of_any e3 q3 a3 c3 d3 w5 (HO3.out.below T5.out.bel) hl3).mono ?_
  rintro y w6 ⟨v6, rfl, hs, hb6⟩
  obtain ⟨oa3, oc3, rfl⟩ := hs.shape
  clear x0 x1 x2
  have T6 : Hid (Three w w6 #[.int .i64 e1, .int .i64 q1, .slice a1 d1.length c1] #[.int .i64 e2, .int .i64 q2, .slice a2 d2.length c2] #[.int .i64 e3, .int .i64 q3, .slice a3 d3.length c3]) := T5.out.below hb6
  have S1x6 : Hid (Bs w6 w2.heap.size (.slice pa1 R1.2.length pc1) R1.2) := S1x5.out.below hb6
  have S2x6 : Hid (Bs w6 w4.heap.size (.slice pa2 R2.2.length pc2) R2.2) := S2x5.out.below hb6
  clear T5 S1x5 S2x5
  have O6 : Hid (Oct w6 oa3 oc3 d3) := hs.oct (by omega)
  clear hs hb6
  go_wp2_with fail
  obtain ⟨R3, hR3⟩ : ∃ R, encR e3 q3 d3 = R := ⟨_, rfl⟩
  have HR3 : Hid (encR e3 q3 d3 = R3) := hR3
  have HE := encode_any e3 q3 oa3 oc3 d3 w6 O6.out
  rw [hR3] at HE
  refine HE.mono ?_
  clear O6
  rintro y w7 ⟨v7, rfl, hs, hb7⟩
  obtain ⟨pa3, pc3, rfl⟩ := hs.shape
  clear HE hR3
  have T7 : Hid (Three w w7 #[.int .i64 e1, .int .i64 q1, .slice a1 d1.length c1] #[.int .i64 e2, .int .i64 q2, .slice a2 d2.length c2] #[.int .i64 e3, .int .i64 q3, .slice a3 d3.length c3]) := T6.out.below hb7
  have S1x7 : Hid (Bs w7 w2.heap.size (.slice pa1 R1.2.length pc1) R1.2) := S1x6.out.below hb7
  have S2x7 : Hid (Bs w7 w4.heap.size (.slice pa2 R2.2.length pc2) R2.2) := S2x6.out.below hb7
  clear T6 S1x6 S2x6
  have S3x7 : Hid (Bs w7 w6.heap.size (.slice pa3 R3.2.length pc3) R3.2) := hs
  clear hs hb7
  have hcs : ((R1.1 != 0) = true ∧ R1.2.length = 0) ∨ ((R1.1 != 0) = false ∧ (R2.1 != 0) = true ∧ R2.2.length = 0) ∨ ((R1.1 != 0) = false ∧ (R2.1 != 0) = false ∧ (R3.1 != 0) = true ∧ R3.2.length = 0) ∨ (chkS e1 q1 d1.length = 0 ∧ chkS e2 q2 d2.length = 0 ∧ chkS e3 q3 d3.length = 0) := by
    have g1 := HR1.out
    have g2 := HR2.out
    have g3 := HR3.out
    by_cases k1 : chkS e1 q1 d1.length = 0
    · rw [enc_ok k1] at g1
      by_cases k2 : chkS e2 q2 d2.length = 0
      · rw [enc_ok k2] at g2
        by_cases k3 : chkS e3 q3 d3.length = 0
        · exact Or.inr (Or.inr (Or.inr ⟨k1, k2, k3⟩))
        · rw [enc_bad k3] at g3
          exact Or.inr (Or.inr (Or.inl ⟨by rw [← g1]; rfl, by rw [← g2]; rfl, by rw [← g3]; simpa using k3, by rw [← g3]; rfl⟩))
      · rw [enc_bad k2] at g2
        exact Or.inr (Or.inl ⟨by rw [← g1]; rfl, by rw [← g2]; simpa using k2, by rw [← g2]; rfl⟩)
    · rw [enc_bad k1] at g1
      exact Or.inl ⟨by rw [← g1]; simpa using k1, by rw [← g1]; rfl⟩
  rcases hcs with ⟨k1, k2⟩ | ⟨k1, k2, k3⟩ | ⟨k1, k2, k3, k4⟩ | ⟨k1, k2, k3⟩
  · rw [k2]
    clear k2
    go_wp2_with (go_at_call 17; refine (num_any _ _).mono ?_; rintro y u8 ⟨rfl, hu8⟩; subst u8)
    go_ret
    exact ⟨rfl, T7.out.bel⟩
  · rw [k3]
    have hc1 : ((R1.2.length : Int) == 0) = true ∨ ((R1.2.length : Int) == 0) = false := by cases ((R1.2.length : Int) == 0) <;> simp
    clear k3
    generalize R1.2.length = n1 at *
    rcases hc1 with hc1 | hc1
    all_goals
      go_wp2_with (go_at_call 17; refine (num_any _ _).mono ?_; rintro y u8 ⟨rfl, hu8⟩; subst u8)
      go_ret
      exact ⟨rfl, T7.out.bel⟩
  · rw [k4]
    have hc1 : ((R1.2.length : Int) == 0) = true ∨ ((R1.2.length : Int) == 0) = false := by cases ((R1.2.length : Int) == 0) <;> simp
    have hc2 : ((R2.2.length : Int) == 0) = true ∨ ((R2.2.length : Int) == 0) = false := by cases ((R2.2.length : Int) == 0) <;> simp
    clear k4
    generalize R1.2.length = n1 at *
    generalize R2.2.length = n2 at *
    rcases hc1 with hc1 | hc1
    all_goals
      rcases hc2 with hc2 | hc2
      all_goals
        go_wp2_with (go_at_call 17; refine (num_any _ _).mono ?_; rintro y u8 ⟨rfl, hu8⟩; subst u8)
        go_ret
        exact ⟨rfl, T7.out.bel⟩
  · have g1 := HR1.out
    have g2 := HR2.out
    have g3 := HR3.out
    rw [enc_ok k1] at g1
    rw [enc_ok k2] at g2
    rw [enc_ok k3] at g3
    subst g1 g2 g3
    have L1 : Hid ((slotO e1 q1 d1).length = 8160) := slotO_length (chk_ok k1).2.2
    have L2 : Hid ((slotO e2 q2 d2).length = 8160) := slotO_length (chk_ok k2).2.2
    have L3 : Hid ((slotO e3 q3 d3).length = 8160) := slotO_length (chk_ok k3).2.2
    have D3 : Hid (decR (slotO e3 q3 d3) = (0, e3, q3, d3)) := dec_slot k3
    simp only at S1x7 S2x7 S3x7 ⊢
    clear HR1 HR2 HR3 k1 k2 k3
    generalize slotO e1 q1 d1 = A at *
    generalize slotO e2 q2 d2 = B at *
    generalize slotO e3 q3 d3 = C at *
    have ea := L1.out
    have eb := L2.out
    have ec := L3.out
    rw [ea, eb, ec]
    rw [ea] at S1x7
    rw [eb] at S2x7
    rw [ec] at S3x7
    clear ea eb ec
    go_wp2_with (go_at_call 17; refine (num_any _ _).mono ?_; rintro y u8 ⟨rfl, hu8⟩; subst u8)
    have hat : ∃ m : Nat, wrap64 (48 * (wrap64 (t.tmod 171 + 171)).tmod 171) = (m : Int) ∧ m ≤ 8160 := by
      have b1 := Int.tmod_lt_of_pos t (show (0 : Int) < 171 by decide)
      have b2 : -171 < t.tmod 171 := by
        by_cases h0 : 0 ≤ t
        · have := Int.tmod_nonneg 171 h0; omega
        · have h1 := Int.neg_tmod t 171
          have h2 := Int.tmod_lt_of_pos (-t) (show (0 : Int) < 171 by decide)
          omega
      have e1 : wrap64 (t.tmod 171 + 171) = t.tmod 171 + 171 := by unfold wrap64; omega
      have e2 : (t.tmod 171 + 171).tmod 171 = (t.tmod 171 + 171) % 171 := Int.tmod_eq_emod_of_nonneg (by omega)
      refine ⟨(48 * ((t.tmod 171 + 171) % 171)).toNat, ?_, by omega⟩
      rw [e1, e2]
      unfold wrap64
      omega
    obtain ⟨m, hm1, hm2⟩ := hat
    rw [hm1]
    clear hm1 HT
    obtain ⟨g1, rfl, hg1⟩ := S1x7.out.spot (by rw [L1.out]; omega)
    obtain ⟨g2, rfl, hg2⟩ := S2x7.out.spot (by rw [L2.out]; omega)
    have OA : Hid (Oct w7 (some ⟨g1, 0, none⟩) pc1 A) := S1x7.out.oct (by rw [L1.out]; omega)
    have OB : Hid (Oct w7 (some ⟨g2, 0, none⟩) pc2 B) := S2x7.out.oct (by rw [L2.out]; omega)
    have hp1 : 8160 ≤ pc1 := by have h1 := OA.out.2.1; have h2 := L1.out; omega
    have hp2 : 8160 ≤ pc2 := by have h1 := OB.out.2.1; have h2 := L2.out; omega
    have hp13 : pc1 ≤ 9223372036854775807 := OA.out.2.2.1
    have hp23 : pc2 ≤ 9223372036854775807 := OB.out.2.2.1
    have hmi : (m : Int) ≤ 8160 := by omega
    have hmp : (m : Int) ≤ (pc2 : Int) := by omega
    have HBT : Hid ((B.take m).length = m) := by show _ = _; rw [List.length_take, L2.out]; omega
    have HAT : Hid ((A.drop m).length = 8160 - m) := by show _ = _; rw [List.length_drop, L1.out]
    have HCB : Hid (Calls Try.prog 22 #[.slice (some ⟨g2, 0, none⟩) m pc2] w7.drew fun e w' => ∃ s, e = .returned s ∧ Bs w' w7.heap.size s (B.take m) ∧ Below w7.heap.size w7.drew w') := by
      have h := Oct.part OB.out 0 m (by omega) (by rw [L2.out]; exact hm2)
      simp only [Nat.add_zero, Nat.sub_zero, List.drop_zero] at h
      have := copyB_any (some ⟨g2, 0, none⟩) pc2 (B.take m) w7.drew (h.below (Below.refl _ _).drew) (by rw [HBT.out]; omega)
      rw [HBT.out] at this
      exact this
    have HML : Hid ((B.take m ++ A.drop m).length = 8160) := by show _ = _; rw [List.length_append, HBT.out, HAT.out]; omega
    have HBL : Hid (LayB w7.drew (some ⟨g1, 0, none⟩) A) := OA.out.1
    have hcx : pc1 = m ∨ ¬ m = pc1 := by omega
    generalize hBm : B.take m = Bm at *
    generalize hAm : A.drop m = Am at *
    have HAM : Hid (A.drop m = Am) := hAm
    clear hBm hAm
    go_cut [16] (fun v wc => Hid (Bs wc w7.heap.size v (Bm ++ Am)) ∧ Hid (Below w7.heap.size w7 wc))
    case first =>
      rcases hcx with hcx | hcx
      · subst hcx
        have hme : pc1 = 8160 := by omega
        have HA0 : Hid (Am = []) := by show _ = _; rw [← HAM.out]; exact List.drop_eq_nil_of_le (by rw [L1.out]; omega)
        have ha0 := HA0.out
        subst ha0
        subst hme
        have h81 : (8160 : Int) ≤ (pc2 : Int) := by omega
        have h82 : (8160 : Nat) ≤ pc2 := by omega
        go_region_held3 (fun _ => True) (trivial) (first
          | (go_at_call 22; refine HCB.out.mono ?_; rintro y w8 ⟨s8, rfl, hs8, hb8⟩)
          | (refine step_app rfl _ _ rfl w7.heap.size s8 Bm [] rfl hs8 ⟨g1, 0, none⟩ 0 rfl (fun j u hj => by simp at hj) (by have h1 := HML.out; rw [List.length_append] at h1; simp; omega) (by have := hb8.size; have e : w7.drew.heap.size = w7.heap.size := rfl; omega) ?_; intro s9 w9 hs9 hr9))
        all_goals
          go_wp2_with fail
          go_meet
          exact ⟨hs9, ((Below.refl _ w7).drew.trans hb8).trans (hr9.below (by have := hb8.size; have e : w7.drew.heap.size = w7.heap.size := rfl; omega) fun g hg => (hs8.base g hg).1)⟩
      · have hcx' : ¬ pc1 = m := fun e => hcx e.symm
        go_region_held3 (fun _ => True) (trivial) (first
          | (go_at_call 22; refine HCB.out.mono ?_; rintro y w8 ⟨s8, rfl, hs8, hb8⟩)
          | (refine step_app rfl _ _ rfl w7.heap.size s8 Bm Am rfl hs8 ⟨g1, m, none⟩ (pc1 - m) (by rw [HAT.out]; rfl) (fun j u hj => by
              rw [add_plain]
              rw [← HAM.out, List.getElem?_drop] at hj
              obtain ⟨b', off', e', hc⟩ := HBL.out _ u hj
              cases e'
              rw [Nat.zero_add] at hc
              exact keepc hb8 _ _ hc) (by have h1 := HML.out; rw [List.length_append] at h1; omega) (by have := hb8.size; have e : w7.drew.heap.size = w7.heap.size := rfl; omega) ?_; intro s9 w9 hs9 hr9))
        all_goals
          go_wp2_with fail
          go_meet
          exact ⟨hs9, ((Below.refl _ w7).drew.trans hb8).trans (hr9.below (by have := hb8.size; have e : w7.drew.heap.size = w7.heap.size := rfl; omega) fun g hg => (hs8.base g hg).1)⟩
    case rest =>
      obtain ⟨S8, B8⟩ := hcut
      obtain ⟨ma, mc, rfl⟩ := S8.out.shape
      rw [HML.out] at S8 ⊢
      have T8 : Hid (Three w wc #[.int .i64 e1, .int .i64 q1, .slice a1 d1.length c1] #[.int .i64 e2, .int .i64 q2, .slice a2 d2.length c2] #[.int .i64 e3, .int .i64 q3, .slice a3 d3.length c3]) := T7.out.below B8.out
      have S3x8 : Hid (Bs wc w6.heap.size (.slice pa3 8160 pc3) C) := S3x7.out.below B8.out
      clear T7 S3x7
      obtain ⟨dM, hdM⟩ : ∃ dM, decR (Bm ++ Am) = dM := ⟨_, rfl⟩
      have HDL : Hid (dM.2.2.2.length ≤ 8000) := by show _ ≤ _; rw [← hdM]; exact dec_small _
      have HRD : Hid (Calls Try.prog 13 #[.slice ma 8160 mc] wc (RDecPost wc dM)) := by
        have := rdecode_any ma mc (Bm ++ Am) wc (S8.out.oct (by rw [HML.out]; omega))
        rw [hdM, HML.out] at this
        exact this
      have HDM : Hid (decR (Bm ++ Am) = dM) := hdM
      clear hdM B8
      generalize Bm ++ Am = M at *
      obtain ⟨eh, em, qm, dm⟩ := dM
      have SM8 : Hid (Bs wc w7.heap.size (.slice ma 8160 mc) M) := S8.out
      simp only at HDL
      clear S8
      go_wp2_with fail
      refine HRD.out.mono ?_
      rintro y w9 ⟨na, nc, rfl, ho9, hb9⟩
      simp only at ho9 ⊢
      have hb10 : Below wc.heap.size wc (w9.alloc (.cells #[.int .i64 em, .int .i64 qm, .slice na dm.length nc] 24)) := nxt hb9 (below_one _ _)
      have T10 : Hid (Three w (w9.alloc (.cells #[.int .i64 em, .int .i64 qm, .slice na dm.length nc] 24)) #[.int .i64 e1, .int .i64 q1, .slice a1 d1.length c1] #[.int .i64 e2, .int .i64 q2, .slice a2 d2.length c2] #[.int .i64 e3, .int .i64 q3, .slice a3 d3.length c3]) := T8.out.below hb10
      have S3x10 : Hid (Bs (w9.alloc (.cells #[.int .i64 em, .int .i64 qm, .slice na dm.length nc] 24)) w6.heap.size (.slice pa3 8160 pc3) C) := S3x8.out.below hb10
      have SM10 : Hid (Bs (w9.alloc (.cells #[.int .i64 em, .int .i64 qm, .slice na dm.length nc] 24)) w7.heap.size (.slice ma 8160 mc) M) := SM8.out.below hb10
      clear T8 S3x8 SM8
      have OM10 : Hid (Oct (w9.alloc (.cells #[.int .i64 em, .int .i64 qm, .slice na dm.length nc] 24)) na nc dm) := ho9.below (below_one _ _)
      have XM10 : Hid ((w9.alloc (.cells #[.int .i64 em, .int .i64 qm, .slice na dm.length nc] 24)).heap[w9.heap.size]? = some (.cells #[.int .i64 em, .int .i64 qm, .slice na dm.length nc] 24 (0, 0))) := heap_alloc_new _ _
      clear ho9 hb9 hb10 HRD
      go_upto_region 13 with fail
      generalize w9.alloc (.cells #[.int .i64 em, .int .i64 qm, .slice na dm.length nc] 24) = w10 at *
      generalize w9.heap.size = gm at *
      have cm0 : w10.cell? ⟨gm, 0, none⟩ = some (.int .i64 em) := (cell_of XM10.out 0).1
      have cm1 : w10.cell? ⟨gm, 1, none⟩ = some (.int .i64 qm) := (cell_of XM10.out 1).1
      have cm2 : w10.cell? ⟨gm, 2, none⟩ = some (.slice na dm.length nc) := (cell_of XM10.out 2).1
      have co0 : w10.cell? ⟨w.heap.size, 0, none⟩ = some (.int .i64 e1) := (cell_of T10.out.one 0).1
      have co1 : w10.cell? ⟨w.heap.size, 1, none⟩ = some (.int .i64 q1) := (cell_of T10.out.one 1).1
      have co2 : w10.cell? ⟨w.heap.size, 2, none⟩ = some (.slice a1 d1.length c1) := (cell_of T10.out.one 2).1
      have cn0 : w10.cell? ⟨w.heap.size + 1, 0, none⟩ = some (.int .i64 e2) := (cell_of T10.out.two 0).1
      have cn1 : w10.cell? ⟨w.heap.size + 1, 1, none⟩ = some (.int .i64 q2) := (cell_of T10.out.two 1).1
      have cn2 : w10.cell? ⟨w.heap.size + 1, 2, none⟩ = some (.slice a2 d2.length c2) := (cell_of T10.out.two 2).1
      have HOF : Hid (∀ W, Below w10.heap.size w10 W → Calls Try.prog 8 #[.agg #[.int .i64 em, .int .i64 qm, .slice na dm.length nc]] W fun x w' => ∃ va vc, x = .returned (.agg #[.int .i64 em, .int .i64 qm, .slice va dm.length vc]) ∧ Oct w' va vc dm ∧ Below W.heap.size W w') := by
        intro W hb
        refine (of_any em qm na nc dm W (OM10.out.below hb) (by have := HDL.out; omega)).mono ?_
        rintro y w' ⟨sv, rfl, hsv, hbv⟩
        obtain ⟨va, vc, rfl⟩ := hsv.shape
        exact ⟨va, vc, rfl, hsv.oct (by have := HDL.out; omega), hbv⟩
      obtain ⟨b1, hb1⟩ : ∃ b, (em == e1 && qm == q1 && dm == d1) = b := ⟨_, rfl⟩
      obtain ⟨b2, hb2⟩ : ∃ b, (em == e2 && qm == q2 && dm == d2) = b := ⟨_, rfl⟩
      have HS1 : Hid (∀ W va vc, Below w10.heap.size w10 W → Oct W va vc dm → Calls Try.prog 18 #[.agg #[.int .i64 em, .int .i64 qm, .slice va dm.length vc], .agg #[.int .i64 e1, .int .i64 q1, .slice a1 d1.length c1]] W fun x w' => x = .returned (.bool b1) ∧ Below W.heap.size W w') := by
        intro W va vc hb hv
        have := same_any em qm e1 q1 va a1 vc c1 dm d1 W hv.1 (HO1.out.below (nxt T10.out.bel hb)).1
        rw [hb1] at this
        exact this
      have HS2 : Hid (∀ W va vc, Below w10.heap.size w10 W → Oct W va vc dm → Calls Try.prog 18 #[.agg #[.int .i64 em, .int .i64 qm, .slice va dm.length vc], .agg #[.int .i64 e2, .int .i64 q2, .slice a2 d2.length c2]] W fun x w' => x = .returned (.bool b2) ∧ Below W.heap.size W w') := by
        intro W va vc hb hv
        have := same_any em qm e2 q2 va a2 vc c2 dm d2 W hv.1 (HO2.out.below (nxt T10.out.bel hb)).1
        rw [hb2] at this
        exact this
      clear hb1 hb2
      have heh : (eh == 0) = true ∨ (eh == 0) = false := by cases (eh == 0) <;> simp
      go_cut [109] (fun v wr => (v = .bool true ∨ v = .bool false) ∧ Hid (Below w10.heap.size w10 wr))
      case first =>
        have hcur : Below w10.heap.size w10 w10.drew := (Below.refl _ _).drew
        have rm0 := keepc hcur _ _ cm0
        have rm1 := keepc hcur _ _ cm1
        have rm2 := keepc hcur _ _ cm2
        have ro0 := keepc hcur _ _ co0
        have ro1 := keepc hcur _ _ co1
        have ro2 := keepc hcur _ _ co2
        have rn0 := keepc hcur _ _ cn0
        have rn1 := keepc hcur _ _ cn1
        have rn2 := keepc hcur _ _ cn2
        clear HO1 HO2 HO3 hk1 hk2 hk3 hl1 hl2 hl3 ht T10 S3x10 SM10 OM10 XM10 L1 L2 L3 D3 HML HAT HBT HDM HDL hm2 hp1 hp2 hp13 hp23 hmi hmp hg1 hg2 hcx HBL HAM OA OB HCB
        rcases heh with heh | heh
        · cases b1
          · cases b2
            all_goals
              go_region_held3 (fun w' => w'.cell? ⟨gm, 0, none⟩ = some (.int .i64 em) ∧ w'.cell? ⟨gm, 1, none⟩ = some (.int .i64 qm) ∧ w'.cell? ⟨gm, 2, none⟩ = some (.slice na dm.length nc) ∧ w'.cell? ⟨w.heap.size, 0, none⟩ = some (.int .i64 e1) ∧ w'.cell? ⟨w.heap.size, 1, none⟩ = some (.int .i64 q1) ∧ w'.cell? ⟨w.heap.size, 2, none⟩ = some (.slice a1 d1.length c1) ∧ w'.cell? ⟨w.heap.size + 1, 0, none⟩ = some (.int .i64 e2) ∧ w'.cell? ⟨w.heap.size + 1, 1, none⟩ = some (.int .i64 q2) ∧ w'.cell? ⟨w.heap.size + 1, 2, none⟩ = some (.slice a2 d2.length c2)) (go_keep) (first
                | (go_at_call 8; refine (HOF.out _ hcur).mono ?_; rintro y wn ⟨va, vc, rfl, hv, hbn⟩; replace hcur := nxt hcur hbn; clear rm0 rm1 rm2 ro0 ro1 ro2 rn0 rn1 rn2; have rm0 := keepc hcur _ _ cm0; have rm1 := keepc hcur _ _ cm1; have rm2 := keepc hcur _ _ cm2; have ro0 := keepc hcur _ _ co0; have ro1 := keepc hcur _ _ co1; have ro2 := keepc hcur _ _ co2; have rn0 := keepc hcur _ _ cn0; have rn1 := keepc hcur _ _ cn1; have rn2 := keepc hcur _ _ cn2)
                | (go_at_call_of 18 (Value.slice a1 d1.length c1); refine (HS1.out _ va vc hcur hv).mono ?_; rintro y wn ⟨rfl, hbn⟩; replace hcur := nxt hcur hbn; clear rm0 rm1 rm2 ro0 ro1 ro2 rn0 rn1 rn2; have rm0 := keepc hcur _ _ cm0; have rm1 := keepc hcur _ _ cm1; have rm2 := keepc hcur _ _ cm2; have ro0 := keepc hcur _ _ co0; have ro1 := keepc hcur _ _ co1; have ro2 := keepc hcur _ _ co2; have rn0 := keepc hcur _ _ cn0; have rn1 := keepc hcur _ _ cn1; have rn2 := keepc hcur _ _ cn2)
                | (go_at_call_of 18 (Value.slice a2 d2.length c2); refine (HS2.out _ va vc hcur hv).mono ?_; rintro y wn ⟨rfl, hbn⟩; replace hcur := nxt hcur hbn; clear rm0 rm1 rm2 ro0 ro1 ro2 rn0 rn1 rn2; have rm0 := keepc hcur _ _ cm0; have rm1 := keepc hcur _ _ cm1; have rm2 := keepc hcur _ _ cm2; have ro0 := keepc hcur _ _ co0; have ro1 := keepc hcur _ _ co1; have ro2 := keepc hcur _ _ co2; have rn0 := keepc hcur _ _ cn0; have rn1 := keepc hcur _ _ cn1; have rn2 := keepc hcur _ _ cn2))
              all_goals
                go_wp2_with fail
                go_meet
                exact ⟨by simp, hcur⟩
          · clear HS2 b2
            go_region_with (first
              | (go_at_call 8; refine (HOF.out _ hcur).mono ?_; rintro y wn ⟨va, vc, rfl, hv, hbn⟩; replace hcur := nxt hcur hbn; clear rm0 rm1 rm2 ro0 ro1 ro2 rn0 rn1 rn2; have rm0 := keepc hcur _ _ cm0; have rm1 := keepc hcur _ _ cm1; have rm2 := keepc hcur _ _ cm2; have ro0 := keepc hcur _ _ co0; have ro1 := keepc hcur _ _ co1; have ro2 := keepc hcur _ _ co2; have rn0 := keepc hcur _ _ cn0; have rn1 := keepc hcur _ _ cn1; have rn2 := keepc hcur _ _ cn2)
              | (go_at_call 18; refine (HS1.out _ va vc hcur hv).mono ?_; rintro y wn ⟨rfl, hbn⟩; replace hcur := nxt hcur hbn; clear rm0 rm1 rm2 ro0 ro1 ro2 rn0 rn1 rn2; have rm0 := keepc hcur _ _ cm0; have rm1 := keepc hcur _ _ cm1; have rm2 := keepc hcur _ _ cm2; have ro0 := keepc hcur _ _ co0; have ro1 := keepc hcur _ _ co1; have ro2 := keepc hcur _ _ co2; have rn0 := keepc hcur _ _ cn0; have rn1 := keepc hcur _ _ cn1; have rn2 := keepc hcur _ _ cn2))
            all_goals
              go_wp2_with fail
              go_meet
              exact ⟨by simp, hcur⟩
        · clear HS1 HS2 HOF
          go_quiet (fail)
          go_wp2_with fail
          go_meet
          exact ⟨by simp, Below_drewN _ _ _⟩
      case rest =>
        obtain ⟨hv, HB⟩ := hcut
        clear HOF HS1 HS2 heh cm0 cm1 cm2 co0 co1 co2 cn0 cn1 cn2
        rcases hv with rfl | rfl
        · go_wp2_with fail
          go_ret
          exact ⟨rfl, nxt T10.out.bel HB.out⟩
        · skip
          have T11 : Hid (Three w wc #[.int .i64 e1, .int .i64 q1, .slice a1 d1.length c1] #[.int .i64 e2, .int .i64 q2, .slice a2 d2.length c2] #[.int .i64 e3, .int .i64 q3, .slice a3 d3.length c3]) := T10.out.below HB.out
          have S3x11 : Hid (Bs wc w6.heap.size (.slice pa3 8160 pc3) C) := S3x10.out.below HB.out
          have SM11 : Hid (Bs wc w7.heap.size (.slice ma 8160 mc) M) := SM10.out.below HB.out
          have OM11 : Hid (Oct wc na nc dm) := OM10.out.below HB.out
          have XM11 : Hid (wc.heap[gm]? = some (.cells #[.int .i64 em, .int .i64 qm, .slice na dm.length nc] 24 (0, 0))) := ((HB.out).block _ (lt_of_block XM10.out)).trans XM10.out
          clear T10 S3x10 SM10 OM10 XM10
          clear HB
          obtain ⟨N, hN⟩ : ∃ N, newR (decR M) (decR C) = N := ⟨_, rfl⟩
          have HNW : Hid (Calls Try.prog 14 #[.slice ma 8160 mc, .slice pa3 8160 pc3] wc (NewPost wc N)) := by
            have := newest_any ma pa3 mc pc3 M C wc (SM11.out.oct (by rw [HML.out]; omega)) (S3x11.out.oct (by rw [L3.out]; omega))
            rw [hN, HML.out, L3.out] at this
            exact this
          rw [HDM.out, D3.out] at hN
          have hcs : N = (0, 1, e3, q3, d3) ∨ ((eh == 0) = true ∧ e3 ≤ em ∧ N = (0, 0, em, qm, dm)) := by
            by_cases h0 : eh = 0
            · by_cases h1 : em < e3
              · left; rw [← hN]; simp [newR, h0, h1]
              · right; refine ⟨by simpa using h0, by omega, ?_⟩; rw [← hN]; simp [newR, h0, h1]
            · left; rw [← hN]; simp [newR, h0]
          clear hN
          go_wp2_with fail
          rcases hcs with rfl | ⟨hz, hge, rfl⟩
          · refine HNW.out.mono ?_
            rintro y w12 ⟨sa, sc, rfl, ho12, hb12⟩
            simp only at ho12 ⊢
            have hb13 : Below wc.heap.size wc (w12.alloc (.cells #[.int .i64 e3, .int .i64 q3, .slice sa d3.length sc] 25)) := nxt hb12 (below_one _ _)
            have T13 : Hid (Three w (w12.alloc (.cells #[.int .i64 e3, .int .i64 q3, .slice sa d3.length sc] 25)) #[.int .i64 e1, .int .i64 q1, .slice a1 d1.length c1] #[.int .i64 e2, .int .i64 q2, .slice a2 d2.length c2] #[.int .i64 e3, .int .i64 q3, .slice a3 d3.length c3]) := T11.out.below hb13
            have S3x13 : Hid (Bs (w12.alloc (.cells #[.int .i64 e3, .int .i64 q3, .slice sa d3.length sc] 25)) w6.heap.size (.slice pa3 8160 pc3) C) := S3x11.out.below hb13
            have SM13 : Hid (Bs (w12.alloc (.cells #[.int .i64 e3, .int .i64 q3, .slice sa d3.length sc] 25)) w7.heap.size (.slice ma 8160 mc) M) := SM11.out.below hb13
            have OM13 : Hid (Oct (w12.alloc (.cells #[.int .i64 e3, .int .i64 q3, .slice sa d3.length sc] 25)) na nc dm) := OM11.out.below hb13
            have XM13 : Hid ((w12.alloc (.cells #[.int .i64 e3, .int .i64 q3, .slice sa d3.length sc] 25)).heap[gm]? = some (.cells #[.int .i64 em, .int .i64 qm, .slice na dm.length nc] 24 (0, 0))) := ((hb13).block _ (lt_of_block XM11.out)).trans XM11.out
            clear T11 S3x11 SM11 OM11 XM11
            have OS13 : Hid (Oct (w12.alloc (.cells #[.int .i64 e3, .int .i64 q3, .slice sa d3.length sc] 25)) sa sc d3) := ho12.below (below_one _ _)
            have XS13 : Hid ((w12.alloc (.cells #[.int .i64 e3, .int .i64 q3, .slice sa d3.length sc] 25)).heap[w12.heap.size]? = some (.cells #[.int .i64 e3, .int .i64 q3, .slice sa d3.length sc] 25 (0, 0))) := heap_alloc_new _ _
            clear ho12 hb12 hb13 HNW
            go_upto_region 16 with fail
            generalize w12.alloc (.cells #[.int .i64 e3, .int .i64 q3, .slice sa d3.length sc] 25) = w13 at *
            generalize w12.heap.size = gs at *
            obtain ⟨y0, -⟩ := cell_of XS13.out 0
            obtain ⟨y1, -⟩ := cell_of XS13.out 1
            obtain ⟨y2, -⟩ := cell_of XS13.out 2
            simp at y0 y1 y2
            obtain ⟨x0, -⟩ := cell_of T13.out.three 0
            obtain ⟨x1, -⟩ := cell_of T13.out.three 1
            obtain ⟨x2, -⟩ := cell_of T13.out.three 2
            simp at x0 x1 x2
            obtain ⟨z0, -⟩ := cell_of XM13.out 0
            obtain ⟨z1, -⟩ := cell_of XM13.out 1
            obtain ⟨z2, -⟩ := cell_of XM13.out 2
            simp at z0 z1 z2
            go_wp2_with (go_at_call 17; refine (num_any _ _).mono ?_; rintro y u8 ⟨rfl, hu8⟩; subst u8)
            have CS := same_any e3 q3 e3 q3 sa a3 sc c3 d3 d3 w13 OS13.out.1 (HO3.out.below T13.out.bel).1
            simp only [beq_self_eq_true, Bool.and_self] at CS
            refine CS.mono ?_
            rintro y w14 ⟨rfl, hb14⟩
            have B14 : Hid (Below w.heap.size w w14) := nxt T13.out.bel hb14
            clear CS hb14
            go_wp2_with fail
            go_ret
            exact ⟨rfl, B14.out⟩
          · refine HNW.out.mono ?_
            rintro y w12 ⟨sa, sc, rfl, ho12, hb12⟩
            simp only at ho12 ⊢
            have hb13 : Below wc.heap.size wc (w12.alloc (.cells #[.int .i64 em, .int .i64 qm, .slice sa dm.length sc] 25)) := nxt hb12 (below_one _ _)
            have T13 : Hid (Three w (w12.alloc (.cells #[.int .i64 em, .int .i64 qm, .slice sa dm.length sc] 25)) #[.int .i64 e1, .int .i64 q1, .slice a1 d1.length c1] #[.int .i64 e2, .int .i64 q2, .slice a2 d2.length c2] #[.int .i64 e3, .int .i64 q3, .slice a3 d3.length c3]) := T11.out.below hb13
            have S3x13 : Hid (Bs (w12.alloc (.cells #[.int .i64 em, .int .i64 qm, .slice sa dm.length sc] 25)) w6.heap.size (.slice pa3 8160 pc3) C) := S3x11.out.below hb13
            have SM13 : Hid (Bs (w12.alloc (.cells #[.int .i64 em, .int .i64 qm, .slice sa dm.length sc] 25)) w7.heap.size (.slice ma 8160 mc) M) := SM11.out.below hb13
            have OM13 : Hid (Oct (w12.alloc (.cells #[.int .i64 em, .int .i64 qm, .slice sa dm.length sc] 25)) na nc dm) := OM11.out.below hb13
            have XM13 : Hid ((w12.alloc (.cells #[.int .i64 em, .int .i64 qm, .slice sa dm.length sc] 25)).heap[gm]? = some (.cells #[.int .i64 em, .int .i64 qm, .slice na dm.length nc] 24 (0, 0))) := ((hb13).block _ (lt_of_block XM11.out)).trans XM11.out
            clear T11 S3x11 SM11 OM11 XM11
            have OS13 : Hid (Oct (w12.alloc (.cells #[.int .i64 em, .int .i64 qm, .slice sa dm.length sc] 25)) sa sc dm) := ho12.below (below_one _ _)
            have XS13 : Hid ((w12.alloc (.cells #[.int .i64 em, .int .i64 qm, .slice sa dm.length sc] 25)).heap[w12.heap.size]? = some (.cells #[.int .i64 em, .int .i64 qm, .slice sa dm.length sc] 25 (0, 0))) := heap_alloc_new _ _
            clear ho12 hb12 hb13 HNW
            go_upto_region 16 with fail
            generalize w12.alloc (.cells #[.int .i64 em, .int .i64 qm, .slice sa dm.length sc] 25) = w13 at *
            generalize w12.heap.size = gs at *
            obtain ⟨y0, -⟩ := cell_of XS13.out 0
            obtain ⟨y1, -⟩ := cell_of XS13.out 1
            obtain ⟨y2, -⟩ := cell_of XS13.out 2
            simp at y0 y1 y2
            obtain ⟨x0, -⟩ := cell_of T13.out.three 0
            obtain ⟨x1, -⟩ := cell_of T13.out.three 1
            obtain ⟨x2, -⟩ := cell_of T13.out.three 2
            simp at x0 x1 x2
            obtain ⟨z0, -⟩ := cell_of XM13.out 0
            obtain ⟨z1, -⟩ := cell_of XM13.out 1
            obtain ⟨z2, -⟩ := cell_of XM13.out 2
            simp at z0 z1 z2
            go_wp2_with (go_at_call 17; refine (num_any _ _).mono ?_; rintro y u8 ⟨rfl, hu8⟩; subst u8)
            have CS := same_any em qm em qm sa na sc nc dm dm w13 OS13.out.1 OM13.out.1
            simp only [beq_self_eq_true, Bool.and_self] at CS
            refine CS.mono ?_
            rintro y w14 ⟨rfl, hb14⟩
            have B14 : Hid (Below w.heap.size w w14) := nxt T13.out.bel hb14
            have t0 := keepc hb14 _ _ y0
            have v0 := keepc hb14 _ _ x0
            clear CS hb14 x0 x1 x2 y0 y1 y2 z0 z1 z2
            go_wp2_with fail
            go_ret
            exact ⟨rfl, B14.out⟩

set_option maxRecDepth 100000 in
set_option maxHeartbeats 1600000 in
theorem lifted (os : Os) (started : os.Started) (H : Type) (enc : TypeId × Value → H) :
    ReturnsInHanded {} Try.checked os 5 .any (Rows.snapTornSpec.pre6 enc Try.prog Try.f5 Rows.snapTornRow.domain false) (Rows.snapTornSpec.post enc Try.prog Try.f5 false true false false) := by
  refine returnsInHanded_of_change_sized (C := Try.checked) Try.own started (by kernel_rfl) Try.func5
    (ChangeSpec.witness6 (enc := enc) (C := Try.checked) false ⟨#[], #[.agg #[.int .i64 0, .int .i64 0, .slice none 0 0], .agg #[.int .i64 0, .int .i64 0, .slice none 0 0], .agg #[.int .i64 0, .int .i64 0, .slice none 0 0], .int .i64 0], []⟩ 8 (by kernel_rfl) (by kernel_rfl) (by kernel_rfl) (by kernel_rfl)) ?_
  intro W base args ds gs before hval0 hW _ hsz0 _
  have hsz : (DataW.weightsEach Try.prog (Try.f5.params.toList ++ Rows.snapTornSpec.plain.varTypes Try.prog) (ds ++ gs)).all (· ≤ reachBytes) = true := hsz0
  have hval : ∀ (j : Nat) t v, Try.f5.params[j]? = some t → args[j]? = some v → Value.okWide Try.prog W .any base t v := hval0
  have hW' := hW
  obtain ⟨p, q, hA0, hV, rfl, hfz, hnd⟩ := hW
  have hA : DataW.TrodAll enc Try.prog W 0 (fun _ => true) true Try.f5.params.toList args.toList ds p := hA0
  rw [Try.params5] at hA hval hsz
  obtain ⟨v0, vs0, d0, ds0, p0, q0, hargs, rfl, rfl, h0, r0⟩ := trodAll_cons hA
  obtain ⟨v1, vs1, d1, ds1, p1, q1, rfl, rfl, rfl, h1, r1⟩ := trodAll_cons r0
  obtain ⟨v2, vs2, d2, ds2, p2, q2, rfl, rfl, rfl, h2, r2⟩ := trodAll_cons r1
  obtain ⟨v3, vs3, d3, ds3, p3, q3, rfl, rfl, rfl, h3, r3⟩ := trodAll_cons r2
  obtain ⟨rfl, rfl, rfl⟩ := trodAll_nil r3
  obtain rfl : args = #[v0, v1, v2, v3] := by cases args; simp_all
  obtain ⟨rfl, rfl⟩ := trodVars_none hV
  clear hA0 hval0
  simp only [List.append_nil] at hW' hsz
  have hlt : ∀ x ∈ p0 ++ p1 ++ p2 ++ p3, x.block < W.heap.size := fun x hx => hW'.lt x (by simpa using hx)
  have hall : ∀ x ∈ DataW.weightsEach Try.prog [24, 24, 24, 3] [d0, d1, d2, d3], x ≤ reachBytes := fun x hx => of_decide_eq_true (List.all_eq_true.1 hsz x hx)
  have g0 : ∀ x ∈ d0.weights Try.prog 24, x ≤ reachBytes := fun x hx => hall x (DataW.weights_mem_each (j := 0) rfl rfl x hx)
  obtain ⟨u0, l0⟩ := sn_of_arg (hval 0 _ v0 rfl rfl) h0 g0
  have g1 : ∀ x ∈ d1.weights Try.prog 24, x ≤ reachBytes := fun x hx => hall x (DataW.weights_mem_each (j := 1) rfl rfl x hx)
  obtain ⟨u1, l1⟩ := sn_of_arg (hval 1 _ v1 rfl rfl) h1 g1
  have g2 : ∀ x ∈ d2.weights Try.prog 24, x ≤ reachBytes := fun x hx => hall x (DataW.weights_mem_each (j := 2) rfl rfl x hx)
  obtain ⟨u2, l2⟩ := sn_of_arg (hval 2 _ v2 rfl rfl) h2 g2
  obtain ⟨a3, rfl, rfl, rfl, w3⟩ := open_int Try.underlying3 (hval 3 3 v3 rfl rfl) h3
  refine (walk u0 v0 u1 v1 u2 v2 a3 W l0 l1 l2 w3).mono fun e W' ⟨he, bel⟩ => ?_
  subst he
  exact ⟨_, rfl, _, _, _, [], _, [], hW', trodAll_mk1 (shut_bool Try.underlying4 _), (trodAll_cons_mk (Below.trod Try.laidOut (by kernel_rfl) (of_decide_eq_true (by kernel_rfl)) h0 bel (fun x hx => hlt x (by simp [hx]))) (trodAll_cons_mk (Below.trod Try.laidOut (by kernel_rfl) (of_decide_eq_true (by kernel_rfl)) h1 bel (fun x hx => hlt x (by simp [hx]))) (trodAll_cons_mk (Below.trod Try.laidOut (by kernel_rfl) (of_decide_eq_true (by kernel_rfl)) h2 bel (fun x hx => hlt x (by simp [hx]))) (trodAll_cons_mk (shut_int Try.underlying3 w3) trodAll_mk0)))), rfl, bel.frame _, fun h => by cases h⟩

theorem over : Rows.snapTornRow.holds Try.pinned (OpenSpec.ofChange Rows.snapTornSpec) :=
  OpenClaim.holds_of_wide 5 Try.f5 rfl rfl rfl rfl rfl rfl rfl ⟨rfl, rfl, rfl, rfl, rfl⟩ rfl rfl rfl rfl rfl (by kernel_rfl) Try.func5 (by kernel_rfl)
    (of_decide_eq_true (by kernel_rfl)) (by unfold Func.isWrapper; first | (rw [if_pos (by decide +kernel)]; kernel_rfl) | (rw [if_neg (by decide +kernel)]; exact ⟨rfl, rfl⟩))
    (fun os started H enc _ => lifted os started H enc)

/-- THE STATEMENT. -/
theorem proved : Rows.SnapTornSaid := over
#print axioms proved
end Go.Proofs.Ytocodkoanjcmkac.snapTorn
