/-
  SnapTells holds for every snapshot and all octets: any snapshot as a slot, any octets as one, and the newest of any two, are as the page says; what is handed in stays. No condition.
-/
import Derived.Test.YtocodkoanjcmkacSnPageN
import Derived.Deep.RegionHeld3
namespace Go.Proofs.Ytocodkoanjcmkac.snapTells
open Go.ChangeShapes Go.WideShapes Go.ChangeAt Go.RowKit Go.Deep
open Se

set_option maxRecDepth 100000 in
set_option maxHeartbeats 2400000 in
theorem walk (s : Sn) (x : Value) (l : List UInt8) (xl : Value) (m : List UInt8) (xm : Value) (w : World) (hs : SnIs w x s) (hl : BytesIs w xl l) (hm : BytesIs w xm m) :
    Calls Try.prog 3 #[x, xl, xm] w fun e w' => e = .returned (.bool true) ∧ Below w.heap.size w w' := by
  obtain ⟨e, q, d⟩ := s
  obtain ⟨a, c, rfl, hkb, ho, hdl⟩ := hs
  obtain ⟨la, lc, rfl, hol, hll⟩ := hl
  obtain ⟨ma, mc, rfl, hom, hml⟩ := hm
  simp only at hkb ho hdl ⊢
  have HO : Hid (Oct w a c d) := ho
  have HL : Hid (Oct w la lc l) := hol
  have HM : Hid (Oct w ma mc m) := hom
  clear ho hol hom
  have X0 : Hid ((w.alloc (.cells #[.int .i64 e, .int .i64 q, .slice a d.length c] 24)).heap[w.heap.size]? = some (.cells #[.int .i64 e, .int .i64 q, .slice a d.length c] 24 (0, 0))) := heap_alloc_new _ _
  have B0 : Hid (Below w.heap.size w (w.alloc (.cells #[.int .i64 e, .int .i64 q, .slice a d.length c] 24))) := below_one _ _
  obtain ⟨SL, hSL⟩ : ∃ S, slotL l = S := ⟨_, rfl⟩
  obtain ⟨SM, hSM⟩ : ∃ S, slotL m = S := ⟨_, rfl⟩
  have LL : Hid (SL.length = 8160) := by show _ = _; rw [← hSL]; exact slotL_length l
  have LM : Hid (SM.length = 8160) := by show _ = _; rw [← hSM]; exact slotL_length m
  have HSL : Hid (∀ W, Below w.heap.size w W → Calls Try.prog 9 #[.slice la l.length lc] W fun x w' => ∃ a2 c2, x = .returned (.slice a2 8160 c2) ∧ Oct w' a2 c2 SL ∧ Below W.heap.size W w') := fun W hb => by rw [← hSL]; exact slot_any la lc l W (HL.out.below hb)
  have HSM : Hid (∀ W, Below w.heap.size w W → Calls Try.prog 9 #[.slice ma m.length mc] W fun x w' => ∃ a2 c2, x = .returned (.slice a2 8160 c2) ∧ Oct w' a2 c2 SM ∧ Below W.heap.size W w') := fun W hb => by rw [← hSM]; exact slot_any ma mc m W (HM.out.below hb)
  clear hSL hSM
  obtain ⟨⟨er, eo⟩, hE⟩ : ∃ E, encR e q d = E := ⟨_, rfl⟩
  have HEL : Hid (eo.length ≤ 8160) := by
    show _ ≤ _
    rcases chk_cases e q d.length with h | h | h
    · rw [enc_ok h] at hE; cases hE; rw [slotO_length (chk_ok h).2.2]; omega
    · rw [enc_bad (by rw [h]; decide)] at hE; cases hE; simp
    · rw [enc_bad (by rw [h]; decide)] at hE; cases hE; simp
  have HE1 : Hid (∀ W xa xc, Oct W xa xc d → Calls Try.prog 10 #[.agg #[.int .i64 e, .int .i64 q, .slice xa d.length xc]] W fun x w' => ∃ sa sc, x = .returned (.tuple #[.slice sa eo.length sc, .int .i64 er]) ∧ Oct w' sa sc eo ∧ Below W.heap.size W w') := by
    intro W xa xc h
    have := encode_any e q xa xc d W h
    rw [hE] at this
    refine this.mono ?_
    rintro y w' ⟨s, rfl, hs, hb⟩
    obtain ⟨sa, sc, rfl⟩ := hs.shape
    exact ⟨sa, sc, rfl, hs.oct (by have := HEL.out; show eo.length ≤ _; omega), hb⟩
  have HE2 : Hid (∀ W xa xc, Oct W xa xc d → Calls Try.prog 11 #[.agg #[.int .i64 e, .int .i64 q, .slice xa d.length xc]] W fun x w' => ∃ sa sc, x = .returned (.tuple #[.slice sa eo.length sc, .int .i64 er]) ∧ Oct w' sa sc eo ∧ Below W.heap.size W w') := by
    intro W xa xc h
    have := rencode_any e q xa xc d W h
    rw [hE] at this
    refine this.mono ?_
    rintro y w' ⟨s, rfl, hs, hb⟩
    obtain ⟨sa, sc, rfl⟩ := hs.shape
    exact ⟨sa, sc, rfl, hs.oct (by have := HEL.out; show eo.length ≤ _; omega), hb⟩
  clear hE
  obtain ⟨DL, hDL⟩ : ∃ D, decR SL = D := ⟨_, rfl⟩
  obtain ⟨DY, hDY⟩ : ∃ D, decR l = D := ⟨_, rfl⟩
  obtain ⟨NN, hNN⟩ : ∃ N, newR (decR SL) (decR SM) = N := ⟨_, rfl⟩
  have HD1 : Hid (∀ W sa sc, Oct W sa sc SL → Calls Try.prog 12 #[.slice sa 8160 sc] W (DecPost W DL)) := fun W sa sc h => by have := decode_any sa sc SL W h; rw [hDL, LL.out] at this; exact this
  have HD2 : Hid (∀ W sa sc, Oct W sa sc SL → Calls Try.prog 13 #[.slice sa 8160 sc] W (RDecPost W DL)) := fun W sa sc h => by have := rdecode_any sa sc SL W h; rw [hDL, LL.out] at this; exact this
  have HN1 : Hid (∀ W sa sc ta tc, Oct W sa sc SL → Oct W ta tc SM → Calls Try.prog 14 #[.slice sa 8160 sc, .slice ta 8160 tc] W (NewPost W NN)) := fun W sa sc ta tc h h' => by have := newest_any sa ta sc tc SL SM W h h'; rw [hNN, LL.out, LM.out] at this; exact this
  have HN2 : Hid (∀ W sa sc ta tc, Oct W sa sc SL → Oct W ta tc SM → Calls Try.prog 15 #[.slice sa 8160 sc, .slice ta 8160 tc] W (NewPost W NN)) := fun W sa sc ta tc h h' => by have := rnewest_any sa ta sc tc SL SM W h h'; rw [hNN, LL.out, LM.out] at this; exact this
  have HY1 : Hid (∀ W, Below w.heap.size w W → Calls Try.prog 12 #[.slice la l.length lc] W (DecPost W DY)) := fun W hb => by have := decode_any la lc l W (HL.out.below hb); rw [hDY] at this; exact this
  have HY2 : Hid (∀ W, Below w.heap.size w W → Calls Try.prog 13 #[.slice la l.length lc] W (RDecPost W DY)) := fun W hb => by have := rdecode_any la lc l W (HL.out.below hb); rw [hDY] at this; exact this
  clear hDL hDY hNN
  obtain ⟨gl, el, ql, dl⟩ := DL
  obtain ⟨gy, ey, qy, dy⟩ := DY
  obtain ⟨gn, nn, en, qn, dn⟩ := NN
  go_enter Try.func3, Try.ntmps3
  go_wp2_with fail
  refine (of_any e q a c d _ (HO.out.below B0.out) hdl).mono ?_
  rintro y w1 ⟨s1, rfl, hs1, hb1⟩
  obtain ⟨xa, xc, rfl⟩ := hs1.shape
  have X1 : Hid (w1.heap[w.heap.size]? = some (.cells #[.int .i64 e, .int .i64 q, .slice a d.length c] 24 (0, 0))) := ((hb1).block _ (lt_of_block X0.out)).trans X0.out
  have B1 : Hid (Below w.heap.size w w1) := nxt B0.out hb1
  clear X0 B0
  have OX1 : Hid (Oct w1 xa xc d) := hs1.oct (by omega)
  clear hs1 hb1
  go_wp2_with fail
  refine (HSL.out _ B1.out).mono ?_
  rintro y w2 ⟨pa, pc, rfl, ho, hb2⟩
  have X2 : Hid (w2.heap[w.heap.size]? = some (.cells #[.int .i64 e, .int .i64 q, .slice a d.length c] 24 (0, 0))) := ((hb2).block _ (lt_of_block X1.out)).trans X1.out
  have B2 : Hid (Below w.heap.size w w2) := nxt B1.out hb2
  have OX2 : Hid (Oct w2 xa xc d) := OX1.out.below hb2
  clear X1 B1 OX1
  have Op2 : Hid (Oct w2 pa pc SL) := ho
  clear ho hb2
  go_wp2_with fail
  refine (HSM.out _ B2.out).mono ?_
  rintro y w3 ⟨q2a, q2c, rfl, ho, hb3⟩
  have X3 : Hid (w3.heap[w.heap.size]? = some (.cells #[.int .i64 e, .int .i64 q, .slice a d.length c] 24 (0, 0))) := ((hb3).block _ (lt_of_block X2.out)).trans X2.out
  have B3 : Hid (Below w.heap.size w w3) := nxt B2.out hb3
  have OX3 : Hid (Oct w3 xa xc d) := OX2.out.below hb3
  have Op3 : Hid (Oct w3 pa pc SL) := Op2.out.below hb3
  clear X2 B2 OX2 Op2
  have Oq23 : Hid (Oct w3 q2a q2c SM) := ho
  clear ho hb3
  have X4 : Hid ((w3.alloc (.cells #[.int .i64 e, .int .i64 q, .slice xa d.length xc] 25)).heap[w.heap.size]? = some (.cells #[.int .i64 e, .int .i64 q, .slice a d.length c] 24 (0, 0))) := (((below_one _ _)).block _ (lt_of_block X3.out)).trans X3.out
  have B4 : Hid (Below w.heap.size w (w3.alloc (.cells #[.int .i64 e, .int .i64 q, .slice xa d.length xc] 25))) := nxt B3.out (below_one _ _)
  have OX4 : Hid (Oct (w3.alloc (.cells #[.int .i64 e, .int .i64 q, .slice xa d.length xc] 25)) xa xc d) := OX3.out.below (below_one _ _)
  have Op4 : Hid (Oct (w3.alloc (.cells #[.int .i64 e, .int .i64 q, .slice xa d.length xc] 25)) pa pc SL) := Op3.out.below (below_one _ _)
  have Oq24 : Hid (Oct (w3.alloc (.cells #[.int .i64 e, .int .i64 q, .slice xa d.length xc] 25)) q2a q2c SM) := Oq23.out.below (below_one _ _)
  clear X3 B3 OX3 Op3 Oq23
  have KX4 : Hid ((w3.alloc (.cells #[.int .i64 e, .int .i64 q, .slice xa d.length xc] 25)).heap[w3.heap.size]? = some (.cells #[.int .i64 e, .int .i64 q, .slice xa d.length xc] 25 (0, 0))) := heap_alloc_new _ _
  go_upto_region 2 with fail
  generalize w3.alloc (.cells #[.int .i64 e, .int .i64 q, .slice xa d.length xc] 25) = w4 at *
  generalize w3.heap.size = gKX at *
  obtain ⟨x0, -⟩ := cell_of KX4.out 0
  obtain ⟨x1, -⟩ := cell_of KX4.out 1
  obtain ⟨x2, -⟩ := cell_of KX4.out 2
  simp at x0 x1 x2
  go_wp2_with fail
  refine (HE1.out _ xa xc OX4.out).mono ?_
  rintro y w5 ⟨ca, cc, rfl, ho, hb5⟩
  clear x0 x1 x2
  have X5 : Hid (w5.heap[w.heap.size]? = some (.cells #[.int .i64 e, .int .i64 q, .slice a d.length c] 24 (0, 0))) := ((hb5).block _ (lt_of_block X4.out)).trans X4.out
  have B5 : Hid (Below w.heap.size w w5) := nxt B4.out hb5
  have OX5 : Hid (Oct w5 xa xc d) := OX4.out.below hb5
  have Op5 : Hid (Oct w5 pa pc SL) := Op4.out.below hb5
  have Oq25 : Hid (Oct w5 q2a q2c SM) := Oq24.out.below hb5
  have KX5 : Hid (w5.heap[gKX]? = some (.cells #[.int .i64 e, .int .i64 q, .slice xa d.length xc] 25 (0, 0))) := ((hb5).block _ (lt_of_block KX4.out)).trans KX4.out
  clear X4 B4 OX4 Op4 Oq24 KX4
  have OC5 : Hid (Oct w5 ca cc eo) := ho
  clear ho hb5
  obtain ⟨x0, -⟩ := cell_of X5.out 0
  obtain ⟨x1, -⟩ := cell_of X5.out 1
  obtain ⟨x2, -⟩ := cell_of X5.out 2
  simp at x0 x1 x2
  go_wp2_with fail
  refine (HE2.out _ a c (HO.out.below B5.out)).mono ?_
  rintro y w6 ⟨ra, rc, rfl, ho, hb6⟩
  clear x0 x1 x2
  have X6 : Hid (w6.heap[w.heap.size]? = some (.cells #[.int .i64 e, .int .i64 q, .slice a d.length c] 24 (0, 0))) := ((hb6).block _ (lt_of_block X5.out)).trans X5.out
  have B6 : Hid (Below w.heap.size w w6) := nxt B5.out hb6
  have OX6 : Hid (Oct w6 xa xc d) := OX5.out.below hb6
  have Op6 : Hid (Oct w6 pa pc SL) := Op5.out.below hb6
  have Oq26 : Hid (Oct w6 q2a q2c SM) := Oq25.out.below hb6
  have KX6 : Hid (w6.heap[gKX]? = some (.cells #[.int .i64 e, .int .i64 q, .slice xa d.length xc] 25 (0, 0))) := ((hb6).block _ (lt_of_block KX5.out)).trans KX5.out
  have OC6 : Hid (Oct w6 ca cc eo) := OC5.out.below hb6
  clear X5 B5 OX5 Op5 Oq25 KX5 OC5
  have OD6 : Hid (Oct w6 ra rc eo) := ho
  clear ho hb6
  go_wp2_with fail
  refine (HD1.out _ pa pc Op6.out).mono ?_
  rintro y w7 ⟨ua, uc, rfl, ho, -, hb7⟩
  simp only at ho ⊢
  have X7 : Hid (w7.heap[w.heap.size]? = some (.cells #[.int .i64 e, .int .i64 q, .slice a d.length c] 24 (0, 0))) := ((hb7).block _ (lt_of_block X6.out)).trans X6.out
  have B7 : Hid (Below w.heap.size w w7) := nxt B6.out hb7
  have OX7 : Hid (Oct w7 xa xc d) := OX6.out.below hb7
  have Op7 : Hid (Oct w7 pa pc SL) := Op6.out.below hb7
  have Oq27 : Hid (Oct w7 q2a q2c SM) := Oq26.out.below hb7
  have KX7 : Hid (w7.heap[gKX]? = some (.cells #[.int .i64 e, .int .i64 q, .slice xa d.length xc] 25 (0, 0))) := ((hb7).block _ (lt_of_block KX6.out)).trans KX6.out
  have OC7 : Hid (Oct w7 ca cc eo) := OC6.out.below hb7
  have OD7 : Hid (Oct w7 ra rc eo) := OD6.out.below hb7
  clear X6 B6 OX6 Op6 Oq26 KX6 OC6 OD6
  have OU7 : Hid (Oct w7 ua uc dl) := ho
  clear ho hb7
  have X8 : Hid ((w7.alloc (.cells #[.int .i64 el, .int .i64 ql, .slice ua dl.length uc] 25)).heap[w.heap.size]? = some (.cells #[.int .i64 e, .int .i64 q, .slice a d.length c] 24 (0, 0))) := (((below_one _ _)).block _ (lt_of_block X7.out)).trans X7.out
  have B8 : Hid (Below w.heap.size w (w7.alloc (.cells #[.int .i64 el, .int .i64 ql, .slice ua dl.length uc] 25))) := nxt B7.out (below_one _ _)
  have OX8 : Hid (Oct (w7.alloc (.cells #[.int .i64 el, .int .i64 ql, .slice ua dl.length uc] 25)) xa xc d) := OX7.out.below (below_one _ _)
  have Op8 : Hid (Oct (w7.alloc (.cells #[.int .i64 el, .int .i64 ql, .slice ua dl.length uc] 25)) pa pc SL) := Op7.out.below (below_one _ _)
  have Oq28 : Hid (Oct (w7.alloc (.cells #[.int .i64 el, .int .i64 ql, .slice ua dl.length uc] 25)) q2a q2c SM) := Oq27.out.below (below_one _ _)
  have KX8 : Hid ((w7.alloc (.cells #[.int .i64 el, .int .i64 ql, .slice ua dl.length uc] 25)).heap[gKX]? = some (.cells #[.int .i64 e, .int .i64 q, .slice xa d.length xc] 25 (0, 0))) := (((below_one _ _)).block _ (lt_of_block KX7.out)).trans KX7.out
  have OC8 : Hid (Oct (w7.alloc (.cells #[.int .i64 el, .int .i64 ql, .slice ua dl.length uc] 25)) ca cc eo) := OC7.out.below (below_one _ _)
  have OD8 : Hid (Oct (w7.alloc (.cells #[.int .i64 el, .int .i64 ql, .slice ua dl.length uc] 25)) ra rc eo) := OD7.out.below (below_one _ _)
  have OU8 : Hid (Oct (w7.alloc (.cells #[.int .i64 el, .int .i64 ql, .slice ua dl.length uc] 25)) ua uc dl) := OU7.out.below (below_one _ _)
  clear X7 B7 OX7 Op7 Oq27 KX7 OC7 OD7 OU7
  have KU8 : Hid ((w7.alloc (.cells #[.int .i64 el, .int .i64 ql, .slice ua dl.length uc] 25)).heap[w7.heap.size]? = some (.cells #[.int .i64 el, .int .i64 ql, .slice ua dl.length uc] 25 (0, 0))) := heap_alloc_new _ _
  go_upto_region 5 with fail
  generalize w7.alloc (.cells #[.int .i64 el, .int .i64 ql, .slice ua dl.length uc] 25) = w8 at *
  generalize w7.heap.size = gKU at *
  go_wp2_with fail
  refine (HSL.out _ B8.out).mono ?_
  rintro y w9 ⟨ka, kc, rfl, ho, hb9⟩
  have X9 : Hid (w9.heap[w.heap.size]? = some (.cells #[.int .i64 e, .int .i64 q, .slice a d.length c] 24 (0, 0))) := ((hb9).block _ (lt_of_block X8.out)).trans X8.out
  have B9 : Hid (Below w.heap.size w w9) := nxt B8.out hb9
  have OX9 : Hid (Oct w9 xa xc d) := OX8.out.below hb9
  have Op9 : Hid (Oct w9 pa pc SL) := Op8.out.below hb9
  have Oq29 : Hid (Oct w9 q2a q2c SM) := Oq28.out.below hb9
  have KX9 : Hid (w9.heap[gKX]? = some (.cells #[.int .i64 e, .int .i64 q, .slice xa d.length xc] 25 (0, 0))) := ((hb9).block _ (lt_of_block KX8.out)).trans KX8.out
  have OC9 : Hid (Oct w9 ca cc eo) := OC8.out.below hb9
  have OD9 : Hid (Oct w9 ra rc eo) := OD8.out.below hb9
  have OU9 : Hid (Oct w9 ua uc dl) := OU8.out.below hb9
  have KU9 : Hid (w9.heap[gKU]? = some (.cells #[.int .i64 el, .int .i64 ql, .slice ua dl.length uc] 25 (0, 0))) := ((hb9).block _ (lt_of_block KU8.out)).trans KU8.out
  clear X8 B8 OX8 Op8 Oq28 KX8 OC8 OD8 OU8 KU8
  have Ok9 : Hid (Oct w9 ka kc SL) := ho
  clear ho hb9
  go_wp2_with fail
  go_wp2_with fail
  refine (HD2.out _ _ _ Ok9.out).mono ?_
  rintro y w10 ⟨va, vc, rfl, ho, hb10⟩
  simp only at ho ⊢
  have X10 : Hid (w10.heap[w.heap.size]? = some (.cells #[.int .i64 e, .int .i64 q, .slice a d.length c] 24 (0, 0))) := ((hb10).block _ (lt_of_block X9.out)).trans X9.out
  have B10 : Hid (Below w.heap.size w w10) := nxt B9.out hb10
  have OX10 : Hid (Oct w10 xa xc d) := OX9.out.below hb10
  have Op10 : Hid (Oct w10 pa pc SL) := Op9.out.below hb10
  have Oq210 : Hid (Oct w10 q2a q2c SM) := Oq29.out.below hb10
  have KX10 : Hid (w10.heap[gKX]? = some (.cells #[.int .i64 e, .int .i64 q, .slice xa d.length xc] 25 (0, 0))) := ((hb10).block _ (lt_of_block KX9.out)).trans KX9.out
  have OC10 : Hid (Oct w10 ca cc eo) := OC9.out.below hb10
  have OD10 : Hid (Oct w10 ra rc eo) := OD9.out.below hb10
  have OU10 : Hid (Oct w10 ua uc dl) := OU9.out.below hb10
  have KU10 : Hid (w10.heap[gKU]? = some (.cells #[.int .i64 el, .int .i64 ql, .slice ua dl.length uc] 25 (0, 0))) := ((hb10).block _ (lt_of_block KU9.out)).trans KU9.out
  have Ok10 : Hid (Oct w10 ka kc SL) := Ok9.out.below hb10
  clear X9 B9 OX9 Op9 Oq29 KX9 OC9 OD9 OU9 KU9 Ok9
  have OV10 : Hid (Oct w10 va vc dl) := ho
  clear ho hb10
  clear Ok10
  have X11 : Hid ((w10.alloc (.cells #[.int .i64 el, .int .i64 ql, .slice va dl.length vc] 24)).heap[w.heap.size]? = some (.cells #[.int .i64 e, .int .i64 q, .slice a d.length c] 24 (0, 0))) := (((below_one _ _)).block _ (lt_of_block X10.out)).trans X10.out
  have B11 : Hid (Below w.heap.size w (w10.alloc (.cells #[.int .i64 el, .int .i64 ql, .slice va dl.length vc] 24))) := nxt B10.out (below_one _ _)
  have OX11 : Hid (Oct (w10.alloc (.cells #[.int .i64 el, .int .i64 ql, .slice va dl.length vc] 24)) xa xc d) := OX10.out.below (below_one _ _)
  have Op11 : Hid (Oct (w10.alloc (.cells #[.int .i64 el, .int .i64 ql, .slice va dl.length vc] 24)) pa pc SL) := Op10.out.below (below_one _ _)
  have Oq211 : Hid (Oct (w10.alloc (.cells #[.int .i64 el, .int .i64 ql, .slice va dl.length vc] 24)) q2a q2c SM) := Oq210.out.below (below_one _ _)
  have KX11 : Hid ((w10.alloc (.cells #[.int .i64 el, .int .i64 ql, .slice va dl.length vc] 24)).heap[gKX]? = some (.cells #[.int .i64 e, .int .i64 q, .slice xa d.length xc] 25 (0, 0))) := (((below_one _ _)).block _ (lt_of_block KX10.out)).trans KX10.out
  have OC11 : Hid (Oct (w10.alloc (.cells #[.int .i64 el, .int .i64 ql, .slice va dl.length vc] 24)) ca cc eo) := OC10.out.below (below_one _ _)
  have OD11 : Hid (Oct (w10.alloc (.cells #[.int .i64 el, .int .i64 ql, .slice va dl.length vc] 24)) ra rc eo) := OD10.out.below (below_one _ _)
  have OU11 : Hid (Oct (w10.alloc (.cells #[.int .i64 el, .int .i64 ql, .slice va dl.length vc] 24)) ua uc dl) := OU10.out.below (below_one _ _)
  have KU11 : Hid ((w10.alloc (.cells #[.int .i64 el, .int .i64 ql, .slice va dl.length vc] 24)).heap[gKU]? = some (.cells #[.int .i64 el, .int .i64 ql, .slice ua dl.length uc] 25 (0, 0))) := (((below_one _ _)).block _ (lt_of_block KU10.out)).trans KU10.out
  have OV11 : Hid (Oct (w10.alloc (.cells #[.int .i64 el, .int .i64 ql, .slice va dl.length vc] 24)) va vc dl) := OV10.out.below (below_one _ _)
  clear X10 B10 OX10 Op10 Oq210 KX10 OC10 OD10 OU10 KU10 OV10
  have KV11 : Hid ((w10.alloc (.cells #[.int .i64 el, .int .i64 ql, .slice va dl.length vc] 24)).heap[w10.heap.size]? = some (.cells #[.int .i64 el, .int .i64 ql, .slice va dl.length vc] 24 (0, 0))) := heap_alloc_new _ _
  go_upto_region 6 with fail
  generalize w10.alloc (.cells #[.int .i64 el, .int .i64 ql, .slice va dl.length vc] 24) = w11 at *
  generalize w10.heap.size = gKV at *
  go_wp2_with fail
  refine (HN1.out _ _ _ _ _ Op11.out Oq211.out).mono ?_
  rintro y w12 ⟨na, nc, rfl, ho, hb12⟩
  simp only at ho ⊢
  have X12 : Hid (w12.heap[w.heap.size]? = some (.cells #[.int .i64 e, .int .i64 q, .slice a d.length c] 24 (0, 0))) := ((hb12).block _ (lt_of_block X11.out)).trans X11.out
  have B12 : Hid (Below w.heap.size w w12) := nxt B11.out hb12
  have OX12 : Hid (Oct w12 xa xc d) := OX11.out.below hb12
  have Op12 : Hid (Oct w12 pa pc SL) := Op11.out.below hb12
  have Oq212 : Hid (Oct w12 q2a q2c SM) := Oq211.out.below hb12
  have KX12 : Hid (w12.heap[gKX]? = some (.cells #[.int .i64 e, .int .i64 q, .slice xa d.length xc] 25 (0, 0))) := ((hb12).block _ (lt_of_block KX11.out)).trans KX11.out
  have OC12 : Hid (Oct w12 ca cc eo) := OC11.out.below hb12
  have OD12 : Hid (Oct w12 ra rc eo) := OD11.out.below hb12
  have OU12 : Hid (Oct w12 ua uc dl) := OU11.out.below hb12
  have KU12 : Hid (w12.heap[gKU]? = some (.cells #[.int .i64 el, .int .i64 ql, .slice ua dl.length uc] 25 (0, 0))) := ((hb12).block _ (lt_of_block KU11.out)).trans KU11.out
  have OV12 : Hid (Oct w12 va vc dl) := OV11.out.below hb12
  have KV12 : Hid (w12.heap[gKV]? = some (.cells #[.int .i64 el, .int .i64 ql, .slice va dl.length vc] 24 (0, 0))) := ((hb12).block _ (lt_of_block KV11.out)).trans KV11.out
  clear X11 B11 OX11 Op11 Oq211 KX11 OC11 OD11 OU11 KU11 OV11 KV11
  have ON12 : Hid (Oct w12 na nc dn) := ho
  clear ho hb12
  clear Oq212
  have X13 : Hid ((w12.alloc (.cells #[.int .i64 en, .int .i64 qn, .slice na dn.length nc] 25)).heap[w.heap.size]? = some (.cells #[.int .i64 e, .int .i64 q, .slice a d.length c] 24 (0, 0))) := (((below_one _ _)).block _ (lt_of_block X12.out)).trans X12.out
  have B13 : Hid (Below w.heap.size w (w12.alloc (.cells #[.int .i64 en, .int .i64 qn, .slice na dn.length nc] 25))) := nxt B12.out (below_one _ _)
  have OX13 : Hid (Oct (w12.alloc (.cells #[.int .i64 en, .int .i64 qn, .slice na dn.length nc] 25)) xa xc d) := OX12.out.below (below_one _ _)
  have Op13 : Hid (Oct (w12.alloc (.cells #[.int .i64 en, .int .i64 qn, .slice na dn.length nc] 25)) pa pc SL) := Op12.out.below (below_one _ _)
  have KX13 : Hid ((w12.alloc (.cells #[.int .i64 en, .int .i64 qn, .slice na dn.length nc] 25)).heap[gKX]? = some (.cells #[.int .i64 e, .int .i64 q, .slice xa d.length xc] 25 (0, 0))) := (((below_one _ _)).block _ (lt_of_block KX12.out)).trans KX12.out
  have OC13 : Hid (Oct (w12.alloc (.cells #[.int .i64 en, .int .i64 qn, .slice na dn.length nc] 25)) ca cc eo) := OC12.out.below (below_one _ _)
  have OD13 : Hid (Oct (w12.alloc (.cells #[.int .i64 en, .int .i64 qn, .slice na dn.length nc] 25)) ra rc eo) := OD12.out.below (below_one _ _)
  have OU13 : Hid (Oct (w12.alloc (.cells #[.int .i64 en, .int .i64 qn, .slice na dn.length nc] 25)) ua uc dl) := OU12.out.below (below_one _ _)
  have KU13 : Hid ((w12.alloc (.cells #[.int .i64 en, .int .i64 qn, .slice na dn.length nc] 25)).heap[gKU]? = some (.cells #[.int .i64 el, .int .i64 ql, .slice ua dl.length uc] 25 (0, 0))) := (((below_one _ _)).block _ (lt_of_block KU12.out)).trans KU12.out
  have OV13 : Hid (Oct (w12.alloc (.cells #[.int .i64 en, .int .i64 qn, .slice na dn.length nc] 25)) va vc dl) := OV12.out.below (below_one _ _)
  have KV13 : Hid ((w12.alloc (.cells #[.int .i64 en, .int .i64 qn, .slice na dn.length nc] 25)).heap[gKV]? = some (.cells #[.int .i64 el, .int .i64 ql, .slice va dl.length vc] 24 (0, 0))) := (((below_one _ _)).block _ (lt_of_block KV12.out)).trans KV12.out
  have ON13 : Hid (Oct (w12.alloc (.cells #[.int .i64 en, .int .i64 qn, .slice na dn.length nc] 25)) na nc dn) := ON12.out.below (below_one _ _)
  clear X12 B12 OX12 Op12 KX12 OC12 OD12 OU12 KU12 OV12 KV12 ON12
  have KN13 : Hid ((w12.alloc (.cells #[.int .i64 en, .int .i64 qn, .slice na dn.length nc] 25)).heap[w12.heap.size]? = some (.cells #[.int .i64 en, .int .i64 qn, .slice na dn.length nc] 25 (0, 0))) := heap_alloc_new _ _
  go_upto_region 7 with fail
  generalize w12.alloc (.cells #[.int .i64 en, .int .i64 qn, .slice na dn.length nc] 25) = w13 at *
  generalize w12.heap.size = gKN at *
  go_wp2_with fail
  refine (HSL.out _ B13.out).mono ?_
  rintro y w14 ⟨ka, kc, rfl, ho, hb14⟩
  have X14 : Hid (w14.heap[w.heap.size]? = some (.cells #[.int .i64 e, .int .i64 q, .slice a d.length c] 24 (0, 0))) := ((hb14).block _ (lt_of_block X13.out)).trans X13.out
  have B14 : Hid (Below w.heap.size w w14) := nxt B13.out hb14
  have OX14 : Hid (Oct w14 xa xc d) := OX13.out.below hb14
  have Op14 : Hid (Oct w14 pa pc SL) := Op13.out.below hb14
  have KX14 : Hid (w14.heap[gKX]? = some (.cells #[.int .i64 e, .int .i64 q, .slice xa d.length xc] 25 (0, 0))) := ((hb14).block _ (lt_of_block KX13.out)).trans KX13.out
  have OC14 : Hid (Oct w14 ca cc eo) := OC13.out.below hb14
  have OD14 : Hid (Oct w14 ra rc eo) := OD13.out.below hb14
  have OU14 : Hid (Oct w14 ua uc dl) := OU13.out.below hb14
  have KU14 : Hid (w14.heap[gKU]? = some (.cells #[.int .i64 el, .int .i64 ql, .slice ua dl.length uc] 25 (0, 0))) := ((hb14).block _ (lt_of_block KU13.out)).trans KU13.out
  have OV14 : Hid (Oct w14 va vc dl) := OV13.out.below hb14
  have KV14 : Hid (w14.heap[gKV]? = some (.cells #[.int .i64 el, .int .i64 ql, .slice va dl.length vc] 24 (0, 0))) := ((hb14).block _ (lt_of_block KV13.out)).trans KV13.out
  have ON14 : Hid (Oct w14 na nc dn) := ON13.out.below hb14
  have KN14 : Hid (w14.heap[gKN]? = some (.cells #[.int .i64 en, .int .i64 qn, .slice na dn.length nc] 25 (0, 0))) := ((hb14).block _ (lt_of_block KN13.out)).trans KN13.out
  clear X13 B13 OX13 Op13 KX13 OC13 OD13 OU13 KU13 OV13 KV13 ON13 KN13
  have Ok14 : Hid (Oct w14 ka kc SL) := ho
  clear ho hb14
  go_wp2_with fail
  refine (HSM.out _ B14.out).mono ?_
  rintro y w15 ⟨ta, tc, rfl, ho, hb15⟩
  have X15 : Hid (w15.heap[w.heap.size]? = some (.cells #[.int .i64 e, .int .i64 q, .slice a d.length c] 24 (0, 0))) := ((hb15).block _ (lt_of_block X14.out)).trans X14.out
  have B15 : Hid (Below w.heap.size w w15) := nxt B14.out hb15
  have OX15 : Hid (Oct w15 xa xc d) := OX14.out.below hb15
  have Op15 : Hid (Oct w15 pa pc SL) := Op14.out.below hb15
  have KX15 : Hid (w15.heap[gKX]? = some (.cells #[.int .i64 e, .int .i64 q, .slice xa d.length xc] 25 (0, 0))) := ((hb15).block _ (lt_of_block KX14.out)).trans KX14.out
  have OC15 : Hid (Oct w15 ca cc eo) := OC14.out.below hb15
  have OD15 : Hid (Oct w15 ra rc eo) := OD14.out.below hb15
  have OU15 : Hid (Oct w15 ua uc dl) := OU14.out.below hb15
  have KU15 : Hid (w15.heap[gKU]? = some (.cells #[.int .i64 el, .int .i64 ql, .slice ua dl.length uc] 25 (0, 0))) := ((hb15).block _ (lt_of_block KU14.out)).trans KU14.out
  have OV15 : Hid (Oct w15 va vc dl) := OV14.out.below hb15
  have KV15 : Hid (w15.heap[gKV]? = some (.cells #[.int .i64 el, .int .i64 ql, .slice va dl.length vc] 24 (0, 0))) := ((hb15).block _ (lt_of_block KV14.out)).trans KV14.out
  have ON15 : Hid (Oct w15 na nc dn) := ON14.out.below hb15
  have KN15 : Hid (w15.heap[gKN]? = some (.cells #[.int .i64 en, .int .i64 qn, .slice na dn.length nc] 25 (0, 0))) := ((hb15).block _ (lt_of_block KN14.out)).trans KN14.out
  have Ok15 : Hid (Oct w15 ka kc SL) := Ok14.out.below hb15
  clear X14 B14 OX14 Op14 KX14 OC14 OD14 OU14 KU14 OV14 KV14 ON14 KN14 Ok14
  have Ot15 : Hid (Oct w15 ta tc SM) := ho
  clear ho hb15
  go_wp2_with fail
  refine (HN2.out _ _ _ _ _ Ok15.out Ot15.out).mono ?_
  rintro y w16 ⟨za, zc, rfl, ho, hb16⟩
  simp only at ho ⊢
  have X16 : Hid (w16.heap[w.heap.size]? = some (.cells #[.int .i64 e, .int .i64 q, .slice a d.length c] 24 (0, 0))) := ((hb16).block _ (lt_of_block X15.out)).trans X15.out
  have B16 : Hid (Below w.heap.size w w16) := nxt B15.out hb16
  have OX16 : Hid (Oct w16 xa xc d) := OX15.out.below hb16
  have Op16 : Hid (Oct w16 pa pc SL) := Op15.out.below hb16
  have KX16 : Hid (w16.heap[gKX]? = some (.cells #[.int .i64 e, .int .i64 q, .slice xa d.length xc] 25 (0, 0))) := ((hb16).block _ (lt_of_block KX15.out)).trans KX15.out
  have OC16 : Hid (Oct w16 ca cc eo) := OC15.out.below hb16
  have OD16 : Hid (Oct w16 ra rc eo) := OD15.out.below hb16
  have OU16 : Hid (Oct w16 ua uc dl) := OU15.out.below hb16
  have KU16 : Hid (w16.heap[gKU]? = some (.cells #[.int .i64 el, .int .i64 ql, .slice ua dl.length uc] 25 (0, 0))) := ((hb16).block _ (lt_of_block KU15.out)).trans KU15.out
  have OV16 : Hid (Oct w16 va vc dl) := OV15.out.below hb16
  have KV16 : Hid (w16.heap[gKV]? = some (.cells #[.int .i64 el, .int .i64 ql, .slice va dl.length vc] 24 (0, 0))) := ((hb16).block _ (lt_of_block KV15.out)).trans KV15.out
  have ON16 : Hid (Oct w16 na nc dn) := ON15.out.below hb16
  have KN16 : Hid (w16.heap[gKN]? = some (.cells #[.int .i64 en, .int .i64 qn, .slice na dn.length nc] 25 (0, 0))) := ((hb16).block _ (lt_of_block KN15.out)).trans KN15.out
  have Ok16 : Hid (Oct w16 ka kc SL) := Ok15.out.below hb16
  have Ot16 : Hid (Oct w16 ta tc SM) := Ot15.out.below hb16
  clear X15 B15 OX15 Op15 KX15 OC15 OD15 OU15 KU15 OV15 KV15 ON15 KN15 Ok15 Ot15
  have OZ16 : Hid (Oct w16 za zc dn) := ho
  clear ho hb16
  clear Ok16
  clear Ot16
  have X17 : Hid ((w16.alloc (.cells #[.int .i64 en, .int .i64 qn, .slice za dn.length zc] 24)).heap[w.heap.size]? = some (.cells #[.int .i64 e, .int .i64 q, .slice a d.length c] 24 (0, 0))) := (((below_one _ _)).block _ (lt_of_block X16.out)).trans X16.out
  have B17 : Hid (Below w.heap.size w (w16.alloc (.cells #[.int .i64 en, .int .i64 qn, .slice za dn.length zc] 24))) := nxt B16.out (below_one _ _)
  have OX17 : Hid (Oct (w16.alloc (.cells #[.int .i64 en, .int .i64 qn, .slice za dn.length zc] 24)) xa xc d) := OX16.out.below (below_one _ _)
  have Op17 : Hid (Oct (w16.alloc (.cells #[.int .i64 en, .int .i64 qn, .slice za dn.length zc] 24)) pa pc SL) := Op16.out.below (below_one _ _)
  have KX17 : Hid ((w16.alloc (.cells #[.int .i64 en, .int .i64 qn, .slice za dn.length zc] 24)).heap[gKX]? = some (.cells #[.int .i64 e, .int .i64 q, .slice xa d.length xc] 25 (0, 0))) := (((below_one _ _)).block _ (lt_of_block KX16.out)).trans KX16.out
  have OC17 : Hid (Oct (w16.alloc (.cells #[.int .i64 en, .int .i64 qn, .slice za dn.length zc] 24)) ca cc eo) := OC16.out.below (below_one _ _)
  have OD17 : Hid (Oct (w16.alloc (.cells #[.int .i64 en, .int .i64 qn, .slice za dn.length zc] 24)) ra rc eo) := OD16.out.below (below_one _ _)
  have OU17 : Hid (Oct (w16.alloc (.cells #[.int .i64 en, .int .i64 qn, .slice za dn.length zc] 24)) ua uc dl) := OU16.out.below (below_one _ _)
  have KU17 : Hid ((w16.alloc (.cells #[.int .i64 en, .int .i64 qn, .slice za dn.length zc] 24)).heap[gKU]? = some (.cells #[.int .i64 el, .int .i64 ql, .slice ua dl.length uc] 25 (0, 0))) := (((below_one _ _)).block _ (lt_of_block KU16.out)).trans KU16.out
  have OV17 : Hid (Oct (w16.alloc (.cells #[.int .i64 en, .int .i64 qn, .slice za dn.length zc] 24)) va vc dl) := OV16.out.below (below_one _ _)
  have KV17 : Hid ((w16.alloc (.cells #[.int .i64 en, .int .i64 qn, .slice za dn.length zc] 24)).heap[gKV]? = some (.cells #[.int .i64 el, .int .i64 ql, .slice va dl.length vc] 24 (0, 0))) := (((below_one _ _)).block _ (lt_of_block KV16.out)).trans KV16.out
  have ON17 : Hid (Oct (w16.alloc (.cells #[.int .i64 en, .int .i64 qn, .slice za dn.length zc] 24)) na nc dn) := ON16.out.below (below_one _ _)
  have KN17 : Hid ((w16.alloc (.cells #[.int .i64 en, .int .i64 qn, .slice za dn.length zc] 24)).heap[gKN]? = some (.cells #[.int .i64 en, .int .i64 qn, .slice na dn.length nc] 25 (0, 0))) := (((below_one _ _)).block _ (lt_of_block KN16.out)).trans KN16.out
  have OZ17 : Hid (Oct (w16.alloc (.cells #[.int .i64 en, .int .i64 qn, .slice za dn.length zc] 24)) za zc dn) := OZ16.out.below (below_one _ _)
  clear X16 B16 OX16 Op16 KX16 OC16 OD16 OU16 KU16 OV16 KV16 ON16 KN16 OZ16
  have KZ17 : Hid ((w16.alloc (.cells #[.int .i64 en, .int .i64 qn, .slice za dn.length zc] 24)).heap[w16.heap.size]? = some (.cells #[.int .i64 en, .int .i64 qn, .slice za dn.length zc] 24 (0, 0))) := heap_alloc_new _ _
  go_upto_region 8 with fail
  generalize w16.alloc (.cells #[.int .i64 en, .int .i64 qn, .slice za dn.length zc] 24) = w17 at *
  generalize w16.heap.size = gKZ at *
  go_wp2_with fail
  refine (HY1.out _ B17.out).mono ?_
  rintro y w18 ⟨ya, yc, rfl, ho, -, hb18⟩
  simp only at ho ⊢
  have X18 : Hid (w18.heap[w.heap.size]? = some (.cells #[.int .i64 e, .int .i64 q, .slice a d.length c] 24 (0, 0))) := ((hb18).block _ (lt_of_block X17.out)).trans X17.out
  have B18 : Hid (Below w.heap.size w w18) := nxt B17.out hb18
  have OX18 : Hid (Oct w18 xa xc d) := OX17.out.below hb18
  have Op18 : Hid (Oct w18 pa pc SL) := Op17.out.below hb18
  have KX18 : Hid (w18.heap[gKX]? = some (.cells #[.int .i64 e, .int .i64 q, .slice xa d.length xc] 25 (0, 0))) := ((hb18).block _ (lt_of_block KX17.out)).trans KX17.out
  have OC18 : Hid (Oct w18 ca cc eo) := OC17.out.below hb18
  have OD18 : Hid (Oct w18 ra rc eo) := OD17.out.below hb18
  have OU18 : Hid (Oct w18 ua uc dl) := OU17.out.below hb18
  have KU18 : Hid (w18.heap[gKU]? = some (.cells #[.int .i64 el, .int .i64 ql, .slice ua dl.length uc] 25 (0, 0))) := ((hb18).block _ (lt_of_block KU17.out)).trans KU17.out
  have OV18 : Hid (Oct w18 va vc dl) := OV17.out.below hb18
  have KV18 : Hid (w18.heap[gKV]? = some (.cells #[.int .i64 el, .int .i64 ql, .slice va dl.length vc] 24 (0, 0))) := ((hb18).block _ (lt_of_block KV17.out)).trans KV17.out
  have ON18 : Hid (Oct w18 na nc dn) := ON17.out.below hb18
  have KN18 : Hid (w18.heap[gKN]? = some (.cells #[.int .i64 en, .int .i64 qn, .slice na dn.length nc] 25 (0, 0))) := ((hb18).block _ (lt_of_block KN17.out)).trans KN17.out
  have OZ18 : Hid (Oct w18 za zc dn) := OZ17.out.below hb18
  have KZ18 : Hid (w18.heap[gKZ]? = some (.cells #[.int .i64 en, .int .i64 qn, .slice za dn.length zc] 24 (0, 0))) := ((hb18).block _ (lt_of_block KZ17.out)).trans KZ17.out
  clear X17 B17 OX17 Op17 KX17 OC17 OD17 OU17 KU17 OV17 KV17 ON17 KN17 OZ17 KZ17
  have OY18 : Hid (Oct w18 ya yc dy) := ho
  clear ho hb18
  have X19 : Hid ((w18.alloc (.cells #[.int .i64 ey, .int .i64 qy, .slice ya dy.length yc] 25)).heap[w.heap.size]? = some (.cells #[.int .i64 e, .int .i64 q, .slice a d.length c] 24 (0, 0))) := (((below_one _ _)).block _ (lt_of_block X18.out)).trans X18.out
  have B19 : Hid (Below w.heap.size w (w18.alloc (.cells #[.int .i64 ey, .int .i64 qy, .slice ya dy.length yc] 25))) := nxt B18.out (below_one _ _)
  have OX19 : Hid (Oct (w18.alloc (.cells #[.int .i64 ey, .int .i64 qy, .slice ya dy.length yc] 25)) xa xc d) := OX18.out.below (below_one _ _)
  have Op19 : Hid (Oct (w18.alloc (.cells #[.int .i64 ey, .int .i64 qy, .slice ya dy.length yc] 25)) pa pc SL) := Op18.out.below (below_one _ _)
  have KX19 : Hid ((w18.alloc (.cells #[.int .i64 ey, .int .i64 qy, .slice ya dy.length yc] 25)).heap[gKX]? = some (.cells #[.int .i64 e, .int .i64 q, .slice xa d.length xc] 25 (0, 0))) := (((below_one _ _)).block _ (lt_of_block KX18.out)).trans KX18.out
  have OC19 : Hid (Oct (w18.alloc (.cells #[.int .i64 ey, .int .i64 qy, .slice ya dy.length yc] 25)) ca cc eo) := OC18.out.below (below_one _ _)
  have OD19 : Hid (Oct (w18.alloc (.cells #[.int .i64 ey, .int .i64 qy, .slice ya dy.length yc] 25)) ra rc eo) := OD18.out.below (below_one _ _)
  have OU19 : Hid (Oct (w18.alloc (.cells #[.int .i64 ey, .int .i64 qy, .slice ya dy.length yc] 25)) ua uc dl) := OU18.out.below (below_one _ _)
  have KU19 : Hid ((w18.alloc (.cells #[.int .i64 ey, .int .i64 qy, .slice ya dy.length yc] 25)).heap[gKU]? = some (.cells #[.int .i64 el, .int .i64 ql, .slice ua dl.length uc] 25 (0, 0))) := (((below_one _ _)).block _ (lt_of_block KU18.out)).trans KU18.out
  have OV19 : Hid (Oct (w18.alloc (.cells #[.int .i64 ey, .int .i64 qy, .slice ya dy.length yc] 25)) va vc dl) := OV18.out.below (below_one _ _)
  have KV19 : Hid ((w18.alloc (.cells #[.int .i64 ey, .int .i64 qy, .slice ya dy.length yc] 25)).heap[gKV]? = some (.cells #[.int .i64 el, .int .i64 ql, .slice va dl.length vc] 24 (0, 0))) := (((below_one _ _)).block _ (lt_of_block KV18.out)).trans KV18.out
  have ON19 : Hid (Oct (w18.alloc (.cells #[.int .i64 ey, .int .i64 qy, .slice ya dy.length yc] 25)) na nc dn) := ON18.out.below (below_one _ _)
  have KN19 : Hid ((w18.alloc (.cells #[.int .i64 ey, .int .i64 qy, .slice ya dy.length yc] 25)).heap[gKN]? = some (.cells #[.int .i64 en, .int .i64 qn, .slice na dn.length nc] 25 (0, 0))) := (((below_one _ _)).block _ (lt_of_block KN18.out)).trans KN18.out
  have OZ19 : Hid (Oct (w18.alloc (.cells #[.int .i64 ey, .int .i64 qy, .slice ya dy.length yc] 25)) za zc dn) := OZ18.out.below (below_one _ _)
  have KZ19 : Hid ((w18.alloc (.cells #[.int .i64 ey, .int .i64 qy, .slice ya dy.length yc] 25)).heap[gKZ]? = some (.cells #[.int .i64 en, .int .i64 qn, .slice za dn.length zc] 24 (0, 0))) := (((below_one _ _)).block _ (lt_of_block KZ18.out)).trans KZ18.out
  have OY19 : Hid (Oct (w18.alloc (.cells #[.int .i64 ey, .int .i64 qy, .slice ya dy.length yc] 25)) ya yc dy) := OY18.out.below (below_one _ _)
  clear X18 B18 OX18 Op18 KX18 OC18 OD18 OU18 KU18 OV18 KV18 ON18 KN18 OZ18 KZ18 OY18
  have KY19 : Hid ((w18.alloc (.cells #[.int .i64 ey, .int .i64 qy, .slice ya dy.length yc] 25)).heap[w18.heap.size]? = some (.cells #[.int .i64 ey, .int .i64 qy, .slice ya dy.length yc] 25 (0, 0))) := heap_alloc_new _ _
  go_upto_region 9 with fail
  generalize w18.alloc (.cells #[.int .i64 ey, .int .i64 qy, .slice ya dy.length yc] 25) = w19 at *
  generalize w18.heap.size = gKY at *
  go_wp2_with fail
  refine (HY2.out _ B19.out).mono ?_
  rintro y w20 ⟨oa, oc, rfl, ho, hb20⟩
  simp only at ho ⊢
  have X20 : Hid (w20.heap[w.heap.size]? = some (.cells #[.int .i64 e, .int .i64 q, .slice a d.length c] 24 (0, 0))) := ((hb20).block _ (lt_of_block X19.out)).trans X19.out
  have B20 : Hid (Below w.heap.size w w20) := nxt B19.out hb20
  have OX20 : Hid (Oct w20 xa xc d) := OX19.out.below hb20
  have Op20 : Hid (Oct w20 pa pc SL) := Op19.out.below hb20
  have KX20 : Hid (w20.heap[gKX]? = some (.cells #[.int .i64 e, .int .i64 q, .slice xa d.length xc] 25 (0, 0))) := ((hb20).block _ (lt_of_block KX19.out)).trans KX19.out
  have OC20 : Hid (Oct w20 ca cc eo) := OC19.out.below hb20
  have OD20 : Hid (Oct w20 ra rc eo) := OD19.out.below hb20
  have OU20 : Hid (Oct w20 ua uc dl) := OU19.out.below hb20
  have KU20 : Hid (w20.heap[gKU]? = some (.cells #[.int .i64 el, .int .i64 ql, .slice ua dl.length uc] 25 (0, 0))) := ((hb20).block _ (lt_of_block KU19.out)).trans KU19.out
  have OV20 : Hid (Oct w20 va vc dl) := OV19.out.below hb20
  have KV20 : Hid (w20.heap[gKV]? = some (.cells #[.int .i64 el, .int .i64 ql, .slice va dl.length vc] 24 (0, 0))) := ((hb20).block _ (lt_of_block KV19.out)).trans KV19.out
  have ON20 : Hid (Oct w20 na nc dn) := ON19.out.below hb20
  have KN20 : Hid (w20.heap[gKN]? = some (.cells #[.int .i64 en, .int .i64 qn, .slice na dn.length nc] 25 (0, 0))) := ((hb20).block _ (lt_of_block KN19.out)).trans KN19.out
  have OZ20 : Hid (Oct w20 za zc dn) := OZ19.out.below hb20
  have KZ20 : Hid (w20.heap[gKZ]? = some (.cells #[.int .i64 en, .int .i64 qn, .slice za dn.length zc] 24 (0, 0))) := ((hb20).block _ (lt_of_block KZ19.out)).trans KZ19.out
  have OY20 : Hid (Oct w20 ya yc dy) := OY19.out.below hb20
  have KY20 : Hid (w20.heap[gKY]? = some (.cells #[.int .i64 ey, .int .i64 qy, .slice ya dy.length yc] 25 (0, 0))) := ((hb20).block _ (lt_of_block KY19.out)).trans KY19.out
  clear X19 B19 OX19 Op19 KX19 OC19 OD19 OU19 KU19 OV19 KV19 ON19 KN19 OZ19 KZ19 OY19 KY19
  have OO20 : Hid (Oct w20 oa oc dy) := ho
  clear ho hb20
  have X21 : Hid ((w20.alloc (.cells #[.int .i64 ey, .int .i64 qy, .slice oa dy.length oc] 24)).heap[w.heap.size]? = some (.cells #[.int .i64 e, .int .i64 q, .slice a d.length c] 24 (0, 0))) := (((below_one _ _)).block _ (lt_of_block X20.out)).trans X20.out
  have B21 : Hid (Below w.heap.size w (w20.alloc (.cells #[.int .i64 ey, .int .i64 qy, .slice oa dy.length oc] 24))) := nxt B20.out (below_one _ _)
  have OX21 : Hid (Oct (w20.alloc (.cells #[.int .i64 ey, .int .i64 qy, .slice oa dy.length oc] 24)) xa xc d) := OX20.out.below (below_one _ _)
  have Op21 : Hid (Oct (w20.alloc (.cells #[.int .i64 ey, .int .i64 qy, .slice oa dy.length oc] 24)) pa pc SL) := Op20.out.below (below_one _ _)
  have KX21 : Hid ((w20.alloc (.cells #[.int .i64 ey, .int .i64 qy, .slice oa dy.length oc] 24)).heap[gKX]? = some (.cells #[.int .i64 e, .int .i64 q, .slice xa d.length xc] 25 (0, 0))) := (((below_one _ _)).block _ (lt_of_block KX20.out)).trans KX20.out
  have OC21 : Hid (Oct (w20.alloc (.cells #[.int .i64 ey, .int .i64 qy, .slice oa dy.length oc] 24)) ca cc eo) := OC20.out.below (below_one _ _)
  have OD21 : Hid (Oct (w20.alloc (.cells #[.int .i64 ey, .int .i64 qy, .slice oa dy.length oc] 24)) ra rc eo) := OD20.out.below (below_one _ _)
  have OU21 : Hid (Oct (w20.alloc (.cells #[.int .i64 ey, .int .i64 qy, .slice oa dy.length oc] 24)) ua uc dl) := OU20.out.below (below_one _ _)
  have KU21 : Hid ((w20.alloc (.cells #[.int .i64 ey, .int .i64 qy, .slice oa dy.length oc] 24)).heap[gKU]? = some (.cells #[.int .i64 el, .int .i64 ql, .slice ua dl.length uc] 25 (0, 0))) := (((below_one _ _)).block _ (lt_of_block KU20.out)).trans KU20.out
  have OV21 : Hid (Oct (w20.alloc (.cells #[.int .i64 ey, .int .i64 qy, .slice oa dy.length oc] 24)) va vc dl) := OV20.out.below (below_one _ _)
  have KV21 : Hid ((w20.alloc (.cells #[.int .i64 ey, .int .i64 qy, .slice oa dy.length oc] 24)).heap[gKV]? = some (.cells #[.int .i64 el, .int .i64 ql, .slice va dl.length vc] 24 (0, 0))) := (((below_one _ _)).block _ (lt_of_block KV20.out)).trans KV20.out
  have ON21 : Hid (Oct (w20.alloc (.cells #[.int .i64 ey, .int .i64 qy, .slice oa dy.length oc] 24)) na nc dn) := ON20.out.below (below_one _ _)
  have KN21 : Hid ((w20.alloc (.cells #[.int .i64 ey, .int .i64 qy, .slice oa dy.length oc] 24)).heap[gKN]? = some (.cells #[.int .i64 en, .int .i64 qn, .slice na dn.length nc] 25 (0, 0))) := (((below_one _ _)).block _ (lt_of_block KN20.out)).trans KN20.out
  have OZ21 : Hid (Oct (w20.alloc (.cells #[.int .i64 ey, .int .i64 qy, .slice oa dy.length oc] 24)) za zc dn) := OZ20.out.below (below_one _ _)
  have KZ21 : Hid ((w20.alloc (.cells #[.int .i64 ey, .int .i64 qy, .slice oa dy.length oc] 24)).heap[gKZ]? = some (.cells #[.int .i64 en, .int .i64 qn, .slice za dn.length zc] 24 (0, 0))) := (((below_one _ _)).block _ (lt_of_block KZ20.out)).trans KZ20.out
  have OY21 : Hid (Oct (w20.alloc (.cells #[.int .i64 ey, .int .i64 qy, .slice oa dy.length oc] 24)) ya yc dy) := OY20.out.below (below_one _ _)
  have KY21 : Hid ((w20.alloc (.cells #[.int .i64 ey, .int .i64 qy, .slice oa dy.length oc] 24)).heap[gKY]? = some (.cells #[.int .i64 ey, .int .i64 qy, .slice ya dy.length yc] 25 (0, 0))) := (((below_one _ _)).block _ (lt_of_block KY20.out)).trans KY20.out
  have OO21 : Hid (Oct (w20.alloc (.cells #[.int .i64 ey, .int .i64 qy, .slice oa dy.length oc] 24)) oa oc dy) := OO20.out.below (below_one _ _)
  clear X20 B20 OX20 Op20 KX20 OC20 OD20 OU20 KU20 OV20 KV20 ON20 KN20 OZ20 KZ20 OY20 KY20 OO20
  have KO21 : Hid ((w20.alloc (.cells #[.int .i64 ey, .int .i64 qy, .slice oa dy.length oc] 24)).heap[w20.heap.size]? = some (.cells #[.int .i64 ey, .int .i64 qy, .slice oa dy.length oc] 24 (0, 0))) := heap_alloc_new _ _
  go_upto_region 10 with fail
  generalize w20.alloc (.cells #[.int .i64 ey, .int .i64 qy, .slice oa dy.length oc] 24) = w21 at *
  generalize w20.heap.size = gKO at *
  have HKS : Hid (∀ W', Below w21.heap.size w21 W' → W'.cell? ⟨gKX, 0, none⟩ = some (.int .i64 e) ∧ W'.cell? ⟨gKX, 1, none⟩ = some (.int .i64 q) ∧ W'.cell? ⟨gKX, 2, none⟩ = some (.slice xa d.length xc) ∧ W'.cell? ⟨w.heap.size, 0, none⟩ = some (.int .i64 e) ∧ W'.cell? ⟨w.heap.size, 1, none⟩ = some (.int .i64 q) ∧ W'.cell? ⟨w.heap.size, 2, none⟩ = some (.slice a d.length c) ∧ W'.cell? ⟨gKU, 0, none⟩ = some (.int .i64 el) ∧ W'.cell? ⟨gKU, 1, none⟩ = some (.int .i64 ql) ∧ W'.cell? ⟨gKU, 2, none⟩ = some (.slice ua dl.length uc) ∧ W'.cell? ⟨gKV, 0, none⟩ = some (.int .i64 el) ∧ W'.cell? ⟨gKV, 1, none⟩ = some (.int .i64 ql) ∧ W'.cell? ⟨gKV, 2, none⟩ = some (.slice va dl.length vc) ∧ W'.cell? ⟨gKN, 0, none⟩ = some (.int .i64 en) ∧ W'.cell? ⟨gKN, 1, none⟩ = some (.int .i64 qn) ∧ W'.cell? ⟨gKN, 2, none⟩ = some (.slice na dn.length nc) ∧ W'.cell? ⟨gKZ, 0, none⟩ = some (.int .i64 en) ∧ W'.cell? ⟨gKZ, 1, none⟩ = some (.int .i64 qn) ∧ W'.cell? ⟨gKZ, 2, none⟩ = some (.slice za dn.length zc) ∧ W'.cell? ⟨gKY, 0, none⟩ = some (.int .i64 ey) ∧ W'.cell? ⟨gKY, 1, none⟩ = some (.int .i64 qy) ∧ W'.cell? ⟨gKY, 2, none⟩ = some (.slice ya dy.length yc) ∧ W'.cell? ⟨gKO, 0, none⟩ = some (.int .i64 ey) ∧ W'.cell? ⟨gKO, 1, none⟩ = some (.int .i64 qy) ∧ W'.cell? ⟨gKO, 2, none⟩ = some (.slice oa dy.length oc)) := fun W' hb => ⟨keepc hb _ _ (cell_of KX21.out 0).1, keepc hb _ _ (cell_of KX21.out 1).1, keepc hb _ _ (cell_of KX21.out 2).1, keepc hb _ _ (cell_of X21.out 0).1, keepc hb _ _ (cell_of X21.out 1).1, keepc hb _ _ (cell_of X21.out 2).1, keepc hb _ _ (cell_of KU21.out 0).1, keepc hb _ _ (cell_of KU21.out 1).1, keepc hb _ _ (cell_of KU21.out 2).1, keepc hb _ _ (cell_of KV21.out 0).1, keepc hb _ _ (cell_of KV21.out 1).1, keepc hb _ _ (cell_of KV21.out 2).1, keepc hb _ _ (cell_of KN21.out 0).1, keepc hb _ _ (cell_of KN21.out 1).1, keepc hb _ _ (cell_of KN21.out 2).1, keepc hb _ _ (cell_of KZ21.out 0).1, keepc hb _ _ (cell_of KZ21.out 1).1, keepc hb _ _ (cell_of KZ21.out 2).1, keepc hb _ _ (cell_of KY21.out 0).1, keepc hb _ _ (cell_of KY21.out 1).1, keepc hb _ _ (cell_of KY21.out 2).1, keepc hb _ _ (cell_of KO21.out 0).1, keepc hb _ _ (cell_of KO21.out 1).1, keepc hb _ _ (cell_of KO21.out 2).1⟩
  have HQU : Hid (∀ W', Below w21.heap.size w21 W' → Calls Try.prog 18 #[.agg #[.int .i64 el, .int .i64 ql, .slice ua dl.length uc], .agg #[.int .i64 el, .int .i64 ql, .slice va dl.length vc]] W' fun x w' => x = .returned (.bool true) ∧ Below W'.heap.size W' w') := by
    intro W' hb
    have := same_any el ql el ql ua va uc vc dl dl W' (OU21.out.below hb).1 (OV21.out.below hb).1
    simp only [beq_self_eq_true, Bool.and_self] at this
    exact this
  have HQN : Hid (∀ W', Below w21.heap.size w21 W' → Calls Try.prog 18 #[.agg #[.int .i64 en, .int .i64 qn, .slice na dn.length nc], .agg #[.int .i64 en, .int .i64 qn, .slice za dn.length zc]] W' fun x w' => x = .returned (.bool true) ∧ Below W'.heap.size W' w') := by
    intro W' hb
    have := same_any en qn en qn na za nc zc dn dn W' (ON21.out.below hb).1 (OZ21.out.below hb).1
    simp only [beq_self_eq_true, Bool.and_self] at this
    exact this
  have HQY : Hid (∀ W', Below w21.heap.size w21 W' → Calls Try.prog 18 #[.agg #[.int .i64 ey, .int .i64 qy, .slice ya dy.length yc], .agg #[.int .i64 ey, .int .i64 qy, .slice oa dy.length oc]] W' fun x w' => x = .returned (.bool true) ∧ Below W'.heap.size W' w') := by
    intro W' hb
    have := same_any ey qy ey qy ya oa yc oc dy dy W' (OY21.out.below hb).1 (OO21.out.below hb).1
    simp only [beq_self_eq_true, Bool.and_self] at this
    exact this
  have HQX : Hid (∀ W', Below w21.heap.size w21 W' → Calls Try.prog 18 #[.agg #[.int .i64 e, .int .i64 q, .slice xa d.length xc], .agg #[.int .i64 e, .int .i64 q, .slice a d.length c]] W' fun x w' => x = .returned (.bool true) ∧ Below W'.heap.size W' w') := by
    intro W' hb
    have := same_any e q e q xa a xc c d d W' (OX21.out.below hb).1 (HO.out.below (nxt B21.out hb)).1
    simp only [beq_self_eq_true, Bool.and_self] at this
    exact this
  have HB1 : Hid (∀ W', Below w21.heap.size w21 W' → Calls Try.prog 16 #[.slice ca eo.length cc, .slice ra eo.length rc] W' fun x w' => x = .returned (.bool true) ∧ w' = W') := by
    intro W' hb
    have := sameB_any eo eo ca ra cc rc W' (OC21.out.below hb).1 (OD21.out.below hb).1
    simp only [beq_self_eq_true] at this
    exact this
  have HB2 : Hid (∀ W' ka kc, Below w21.heap.size w21 W' → Oct W' ka kc SL → Calls Try.prog 16 #[.slice pa 8160 pc, .slice ka 8160 kc] W' fun x w' => x = .returned (.bool true) ∧ w' = W') := by
    intro W' ka kc hb h
    have := sameB_any SL SL pa ka pc kc W' (Op21.out.below hb).1 h.1
    rw [LL.out] at this
    simp only [beq_self_eq_true] at this
    exact this
  have HC1 : Hid (∀ W', Calls Try.prog 19 #[.agg #[.int .i64 e, .int .i64 q, .slice xa d.length xc]] W' fun x w' => x = .returned (.int .i64 (chkS e q d.length)) ∧ Below W'.heap.size W' w') := fun W' => check_any e q xa d.length xc W'
  have HC2 : Hid (∀ W', Calls Try.prog 20 #[.agg #[.int .i64 e, .int .i64 q, .slice a d.length c]] W' fun x w' => x = .returned (.int .i64 (chkS e q d.length)) ∧ Below W'.heap.size W' w') := fun W' => rcheck_any e q a d.length c W'
  have HS3 : Hid (∀ W', Below w21.heap.size w21 W' → Calls Try.prog 9 #[.slice la l.length lc] W' fun x w' => ∃ a2 c2, x = .returned (.slice a2 8160 c2) ∧ Oct w' a2 c2 SL ∧ Below W'.heap.size W' w') := fun W' hb => HSL.out W' (nxt B21.out hb)
  generalize chkS e q d.length = ck at *
  clear HO HL HM HSL HSM HE1 HE2 HD1 HD2 HN1 HN2 HY1 HY2 HEL LL LM hkb hdl hll hml X21 OX21 Op21 KX21 OC21 OD21 OU21 KU21 OV21 KV21 ON21 KN21 OZ21 KZ21 OY21 KY21 OO21 KO21
  have hcur : Below w21.heap.size w21 w21.drew := (Below.refl _ _).drew
  have hN := HKS.out _ hcur
  simp only [List.append_eq, List.cons_append, List.nil_append]
  go_region_held3 (fun W' => W'.cell? ⟨gKX, 0, none⟩ = some (.int .i64 e) ∧ W'.cell? ⟨gKX, 1, none⟩ = some (.int .i64 q) ∧ W'.cell? ⟨gKX, 2, none⟩ = some (.slice xa d.length xc) ∧ W'.cell? ⟨w.heap.size, 0, none⟩ = some (.int .i64 e) ∧ W'.cell? ⟨w.heap.size, 1, none⟩ = some (.int .i64 q) ∧ W'.cell? ⟨w.heap.size, 2, none⟩ = some (.slice a d.length c) ∧ W'.cell? ⟨gKU, 0, none⟩ = some (.int .i64 el) ∧ W'.cell? ⟨gKU, 1, none⟩ = some (.int .i64 ql) ∧ W'.cell? ⟨gKU, 2, none⟩ = some (.slice ua dl.length uc) ∧ W'.cell? ⟨gKV, 0, none⟩ = some (.int .i64 el) ∧ W'.cell? ⟨gKV, 1, none⟩ = some (.int .i64 ql) ∧ W'.cell? ⟨gKV, 2, none⟩ = some (.slice va dl.length vc) ∧ W'.cell? ⟨gKN, 0, none⟩ = some (.int .i64 en) ∧ W'.cell? ⟨gKN, 1, none⟩ = some (.int .i64 qn) ∧ W'.cell? ⟨gKN, 2, none⟩ = some (.slice na dn.length nc) ∧ W'.cell? ⟨gKZ, 0, none⟩ = some (.int .i64 en) ∧ W'.cell? ⟨gKZ, 1, none⟩ = some (.int .i64 qn) ∧ W'.cell? ⟨gKZ, 2, none⟩ = some (.slice za dn.length zc) ∧ W'.cell? ⟨gKY, 0, none⟩ = some (.int .i64 ey) ∧ W'.cell? ⟨gKY, 1, none⟩ = some (.int .i64 qy) ∧ W'.cell? ⟨gKY, 2, none⟩ = some (.slice ya dy.length yc) ∧ W'.cell? ⟨gKO, 0, none⟩ = some (.int .i64 ey) ∧ W'.cell? ⟨gKO, 1, none⟩ = some (.int .i64 qy) ∧ W'.cell? ⟨gKO, 2, none⟩ = some (.slice oa dy.length oc)) (exact hN) (first
    | (go_at_call_of 16 (Value.slice ca eo.length cc); refine (HB1.out _ hcur).mono ?_; rintro y wn ⟨rfl, hwn⟩; subst wn)
    | (go_at_call 17; refine (num_any _ _).mono ?_; rintro y wn ⟨rfl, hwn⟩; subst wn)
    | (go_at_call_of 18 (Value.slice ua dl.length uc); refine (HQU.out _ hcur).mono ?_; rintro y wn ⟨rfl, hbn⟩; replace hcur := nxt hcur hbn; replace hN := HKS.out _ hcur)
    | (go_at_call_of 18 (Value.slice na dn.length nc); refine (HQN.out _ hcur).mono ?_; rintro y wn ⟨rfl, hbn⟩; replace hcur := nxt hcur hbn; replace hN := HKS.out _ hcur)
    | (go_at_call_of 18 (Value.slice ya dy.length yc); refine (HQY.out _ hcur).mono ?_; rintro y wn ⟨rfl, hbn⟩; replace hcur := nxt hcur hbn; replace hN := HKS.out _ hcur)
    | (go_at_call_of 18 (Value.slice xa d.length xc); refine (HQX.out _ hcur).mono ?_; rintro y wn ⟨rfl, hbn⟩; replace hcur := nxt hcur hbn; replace hN := HKS.out _ hcur)
    | (go_at_call 19; refine (HC1.out _).mono ?_; rintro y wn ⟨rfl, hbn⟩; replace hcur := nxt hcur hbn; replace hN := HKS.out _ hcur)
    | (go_at_call 20; refine (HC2.out _).mono ?_; rintro y wn ⟨rfl, hbn⟩; replace hcur := nxt hcur hbn; replace hN := HKS.out _ hcur)
    | (go_at_call 9; refine (HS3.out _ hcur).mono ?_; rintro y wn ⟨ka, kc, rfl, hk, hbn⟩; replace hcur := nxt hcur hbn; replace hN := HKS.out _ hcur)
    | (go_at_call 16; refine (HB2.out _ ka kc hcur hk).mono ?_; rintro y wn ⟨rfl, hwn⟩; subst wn)
    | (go_at_call 21; refine (alive_any _).mono ?_; rintro y wn ⟨rfl, hbn⟩; replace hcur := nxt hcur hbn; replace hN := HKS.out _ hcur))
  all_goals
    have BF : Hid (Below w.heap.size w wn) := nxt B21.out hcur
    clear hcur hN HKS
    go_wp2_with fail
    go_ret
    exact ⟨rfl, BF.out⟩

set_option maxRecDepth 100000 in
set_option maxHeartbeats 1600000 in
theorem lifted (os : Os) (started : os.Started) (H : Type) (enc : TypeId × Value → H) :
    ReturnsInHanded {} Try.checked os 3 .any (Rows.snapTellsSpec.pre6 enc Try.prog Try.f3 Rows.snapTellsRow.domain false) (Rows.snapTellsSpec.post enc Try.prog Try.f3 false true false false) := by
  refine returnsInHanded_of_change_sized (C := Try.checked) Try.own started (by kernel_rfl) Try.func3
    (ChangeSpec.witness6 (enc := enc) (C := Try.checked) false ⟨#[], #[.agg #[.int .i64 0, .int .i64 0, .slice none 0 0], .slice none 0 0, .slice none 0 0], []⟩ 8 (by kernel_rfl) (by kernel_rfl) (by kernel_rfl) (by kernel_rfl)) ?_
  intro W base args ds gs before hval0 hW _ hsz0 _
  have hsz : (DataW.weightsEach Try.prog (Try.f3.params.toList ++ Rows.snapTellsSpec.plain.varTypes Try.prog) (ds ++ gs)).all (· ≤ reachBytes) = true := hsz0
  have hval : ∀ (j : Nat) t v, Try.f3.params[j]? = some t → args[j]? = some v → Value.okWide Try.prog W .any base t v := hval0
  have hW' := hW
  obtain ⟨p, q, hA0, hV, rfl, hfz, hnd⟩ := hW
  have hA : DataW.TrodAll enc Try.prog W 0 (fun _ => true) true Try.f3.params.toList args.toList ds p := hA0
  rw [Try.params3] at hA hval hsz
  obtain ⟨v0, vs0, d0, ds0, p0, q0, hargs, rfl, rfl, h0, r0⟩ := trodAll_cons hA
  obtain ⟨v1, vs1, d1, ds1, p1, q1, rfl, rfl, rfl, h1, r1⟩ := trodAll_cons r0
  obtain ⟨v2, vs2, d2, ds2, p2, q2, rfl, rfl, rfl, h2, r2⟩ := trodAll_cons r1
  obtain ⟨rfl, rfl, rfl⟩ := trodAll_nil r2
  obtain rfl : args = #[v0, v1, v2] := by cases args; simp_all
  obtain ⟨rfl, rfl⟩ := trodVars_none hV
  clear hA0 hval0
  simp only [List.append_nil] at hW' hsz
  have hlt : ∀ x ∈ p0 ++ p1 ++ p2, x.block < W.heap.size := fun x hx => hW'.lt x (by simpa using hx)
  have hall : ∀ x ∈ DataW.weightsEach Try.prog [24, 22, 22] [d0, d1, d2], x ≤ reachBytes := fun x hx => of_decide_eq_true (List.all_eq_true.1 hsz x hx)
  have g0 : ∀ x ∈ d0.weights Try.prog 24, x ≤ reachBytes := fun x hx => hall x (DataW.weights_mem_each (j := 0) rfl rfl x hx)
  obtain ⟨u0, l0⟩ := sn_of_arg (hval 0 _ v0 rfl rfl) h0 g0
  have g1 : ∀ x ∈ d1.weights Try.prog 22, x ≤ reachBytes := fun x hx => hall x (DataW.weights_mem_each (j := 1) rfl rfl x hx)
  obtain ⟨u1, l1⟩ := bytes_of_arg (hval 1 _ v1 rfl rfl) h1 g1
  have g2 : ∀ x ∈ d2.weights Try.prog 22, x ≤ reachBytes := fun x hx => hall x (DataW.weights_mem_each (j := 2) rfl rfl x hx)
  obtain ⟨u2, l2⟩ := bytes_of_arg (hval 2 _ v2 rfl rfl) h2 g2
  refine (walk u0 v0 u1 v1 u2 v2 W l0 l1 l2).mono fun e W' ⟨he, bel⟩ => ?_
  subst he
  exact ⟨_, rfl, _, _, _, [], _, [], hW', trodAll_mk1 (shut_bool Try.underlying4 _), (trodAll_cons_mk (Below.trod Try.laidOut (by kernel_rfl) (of_decide_eq_true (by kernel_rfl)) h0 bel (fun x hx => hlt x (by simp [hx]))) (trodAll_cons_mk (Below.trod Try.laidOut (by kernel_rfl) (of_decide_eq_true (by kernel_rfl)) h1 bel (fun x hx => hlt x (by simp [hx]))) (trodAll_cons_mk (Below.trod Try.laidOut (by kernel_rfl) (of_decide_eq_true (by kernel_rfl)) h2 bel (fun x hx => hlt x (by simp [hx]))) trodAll_mk0))), rfl, bel.frame _, fun h => by cases h⟩

theorem over : Rows.snapTellsRow.holds Try.pinned (OpenSpec.ofChange Rows.snapTellsSpec) :=
  OpenClaim.holds_of_wide 3 Try.f3 rfl rfl rfl rfl rfl rfl rfl ⟨rfl, rfl, rfl, rfl, rfl⟩ rfl rfl rfl rfl rfl (by kernel_rfl) Try.func3 (by kernel_rfl)
    (of_decide_eq_true (by kernel_rfl)) (by unfold Func.isWrapper; first | (rw [if_pos (by decide +kernel)]; kernel_rfl) | (rw [if_neg (by decide +kernel)]; exact ⟨rfl, rfl⟩))
    (fun os started H enc _ => lifted os started H enc)

/-- THE STATEMENT. -/
theorem proved : Rows.SnapTellsSaid := over
#print axioms proved
end Go.Proofs.Ytocodkoanjcmkac.snapTells
