/-
  OutboxTells: for every box, every event's number and effects, every number that is acknowledged and every count: what Add, Ack, Next and Check tell is what the page tells; what was handed in stays. No condition.
-/
import Derived.Test.YtpeghhkhohnkiaaObSpoil
import Derived.Test.YtpeghhkhohnkiaaObPgC
import Derived.Test.YtpeghhkhohnkiaaObArg
namespace Go.Proofs.Ytpeghhkhohnkiaa.outboxTells
open Go.ChangeShapes Go.WideShapes Go.ChangeAt Go.RowKit Go.Deep

theorem ackR_list {n : Nat} (L id : Int) (its : List (Tm n)) : (∀ u ∈ (ackR L its id).2.2.2, TmOk u) ∧ (ackR L its id).2.2.2.length * 104 ≤ 140737488351232 := by
  unfold ackR
  split
  · rename_i h0
    split
    · exact tm_ok (rem_ok h0)
    · simp
  · simp

/-- What is read of a box in a variable. -/
theorem cells2 {w : World} {P : Nat} {x y : Value} {t : TypeId} (h : w.heap[P]? = some (.cells #[x, y] t (0, 0))) {W' : World} (hb : Below w.heap.size w W') : W'.cell? ⟨P, 0, none⟩ = some x ∧ W'.cell? ⟨P, 1, none⟩ = some y := by
  have h' := (hb.block _ (lt_of_block h)).trans h
  exact ⟨(cell_of h' 0).1, (cell_of h' 1).1⟩

set_option maxRecDepth 100000 in
set_option maxHeartbeats 12800000 in
theorem walk (n : Nat) (bx : Int × List (Tm n)) (x0 : Value) (s : Int) (l : List (Ef n)) (x2 : Value) (id k : Int) (w : World) (hb : BoxArg w n x0 bx) (_hs : (Lit.int .i64 s).wf = true) (hl : EffsArg w n x2 l) (_hid : (Lit.int .i64 id).wf = true) (hk : (Lit.int .i64 k).wf = true) :
    Calls Try.prog 3 #[x0, .int .i64 s, x2, .int .i64 id, .int .i64 k] w fun e w' => e = .returned (.bool true) ∧ Below w.heap.size w w' := by
  have hkb := bounds_i64 hk
  obtain ⟨L, its⟩ := bx
  obtain ⟨ia, ic, rfl, hT, -, -⟩ := hb
  obtain ⟨ea, ec, rfl, hE⟩ := hl
  simp only at hT ⊢
  have HT : Hid (TIs w n ia ic its) := hT
  have HE : Hid (EIs w n ea ec l) := hE
  have HOK : Hid ((∀ u ∈ its, TmOk u) ∧ its.length * 104 ≤ 140737488351232) := ⟨hT.2.2.2.2.2.1, hT.2.2.1⟩
  have HEK : Hid ((∀ u ∈ l, EfOk u) ∧ l.length * 96 ≤ 140737488351232) := ⟨hE.2.2.2.2.2.1, hE.2.2.1⟩
  clear hT hE
  obtain ⟨⟨er, Lr, ir⟩, hR⟩ : ∃ R, addR L its s l = R := ⟨_, rfl⟩
  obtain ⟨⟨ek, wk9, Lk, ik⟩, hK⟩ : ∃ R, ackR L its id = R := ⟨_, rfl⟩
  obtain ⟨⟨en, ix⟩, hN⟩ : ∃ R, nextR L its k = R := ⟨_, rfl⟩
  have HIR : Hid ((∀ u ∈ ir, TmOk u) ∧ ir.length * 104 ≤ 140737488351232) := by have := addR_list L s its l; rwa [hR] at this
  have HIK : Hid ((∀ u ∈ ik, TmOk u) ∧ ik.length * 104 ≤ 140737488351232) := by have := ackR_list L id its; rwa [hK] at this
  have HIX : Hid ((∀ u ∈ ix, TmOk u) ∧ ix.length * 104 ≤ 140737488351232) := by have := nextR_list L k its; rwa [hN] at this
  have CA : Hid (∀ W' a c a' c', TIs W' n a c its → EIs W' n a' c' l → Calls Try.prog 11 #[.agg #[.int .i64 L, .slice a its.length c], .int .i64 s, .slice a' l.length c'] W' (BoxPost W' (er, Lr, ir))) := fun W' a c a' c' h1 h2 => by have := add_any L s its a c l a' c' W' h1 h2; rwa [hR] at this
  have CP : Hid (∀ W' a c a' c', TIs W' n a c its → EIs W' n a' c' l → Calls Try.prog 12 #[.agg #[.int .i64 L, .slice a its.length c], .int .i64 s, .slice a' l.length c'] W' (BoxPost W' (er, Lr, ir))) := fun W' a c a' c' h1 h2 => by have := radd_any L s its a c l a' c' W' h1 h2; rwa [hR] at this
  have CK : Hid (∀ W' a c, TIs W' n a c its → Calls Try.prog 13 #[.agg #[.int .i64 L, .slice a its.length c], .int .i64 id] W' (AckPost W' (ek, wk9, Lk, ik))) := fun W' a c h1 => by have := ack_any L id its a c W' h1; rwa [hK] at this
  have CQ : Hid (∀ W' a c, TIs W' n a c its → Calls Try.prog 14 #[.agg #[.int .i64 L, .slice a its.length c], .int .i64 id] W' (AckPost W' (ek, wk9, Lk, ik))) := fun W' a c h1 => by have := rack_any L id its a c W' h1; rwa [hK] at this
  have CN : Hid (∀ W' a c, TIs W' n a c its → Calls Try.prog 15 #[.agg #[.int .i64 L, .slice a its.length c], .int .i64 k] W' (ListPost W' (en, ix))) := fun W' a c h1 => by have := next_box L k its a c W' h1 (by omega); rwa [hN] at this
  have CM : Hid (∀ W' a c, TIs W' n a c its → Calls Try.prog 16 #[.agg #[.int .i64 L, .slice a its.length c], .int .i64 k] W' (ListPost W' (en, ix))) := fun W' a c h1 => by have := rnext_any L k its a c W' h1 (by omega); rwa [hN] at this
  clear hR hN hK hkb
  have X0 : Hid ((w.alloc (.cells #[.int .i64 L, .slice ia its.length ic] 24)).heap[w.heap.size]? = some (.cells #[.int .i64 L, .slice ia its.length ic] 24 (0, 0))) := heap_alloc_new _ _
  have B1 : Hid (Below w.heap.size w (w.alloc (.cells #[.int .i64 L, .slice ia its.length ic] 24))) := below_one _ _
  go_enter Try.func3, Try.ntmps3
  go_wp2_with fail
  generalize w.alloc (.cells #[.int .i64 L, .slice ia its.length ic] 24) = w1 at *
  refine (of_any L its ia ic w1 (HT.out.below B1.out)).mono ?_
  rintro e w2 ⟨v2, H2, rfl, h2⟩
  obtain ⟨a2, c2, rfl, t2⟩ := CopyInv.tis h2 HOK.out.2 HOK.out.1
  have T2 : Hid (TIs w2 n a2 c2 its) := t2
  have B12 : Hid (Below w1.heap.size w1 w2) := h2.2.2
  clear h2 t2
  go_wp2_with fail
  refine (copyEffects_any l ea ec w2 (HE.out.below (nxt B1.out B12.out))).mono ?_
  rintro e w3 ⟨v3, H3, rfl, h3⟩
  obtain ⟨a3, c3, rfl, t3⟩ := CopyInv.eis h3.1 HEK.out.2 HEK.out.1
  have T3 : Hid (EIs w3 n a3 c3 l) := t3
  have B23 : Hid (Below w2.heap.size w2 w3) := h3.2.2
  clear h3 t3
  have Q4 : Hid ((w3.alloc (.cells #[.int .i64 L, .slice a2 its.length c2] 26)).heap[w3.heap.size]? = some (.cells #[.int .i64 L, .slice a2 its.length c2] 26 (0, 0))) := heap_alloc_new _ _
  have B34 : Hid (Below w3.heap.size w3 (w3.alloc (.cells #[.int .i64 L, .slice a2 its.length c2] 26))) := below_one _ _
  go_wp2_with fail
  generalize w3.alloc (.cells #[.int .i64 L, .slice a2 its.length c2] 26) = W4 at *
  have O4 : Hid (TIs W4 n a2 c2 its) := T2.out.below (nxt B23.out B34.out)
  have E4 : Hid (EIs W4 n a3 c3 l) := T3.out.below B34.out
  have B14 : Hid (Below w1.heap.size w1 W4) := nxt B12.out (nxt B23.out B34.out)
  clear T2 T3 B12 B23 B34
  refine (CA.out W4 a2 c2 a3 c3 O4.out E4.out).mono ?_
  rintro e w5 ⟨v5, H5, rfl, h5⟩
  obtain ⟨a5, c5, rfl, t5⟩ := CopyInv.tis h5 HIR.out.2 HIR.out.1
  have Q6 : Hid ((w5.alloc (.cells #[.int .i64 Lr, .slice a5 ir.length c5] 26)).heap[w5.heap.size]? = some (.cells #[.int .i64 Lr, .slice a5 ir.length c5] 26 (0, 0))) := heap_alloc_new _ _
  have B46 : Hid (Below W4.heap.size W4 (w5.alloc (.cells #[.int .i64 Lr, .slice a5 ir.length c5] 26))) := nxt h5.2.2 (below_one _ _)
  have T6 : Hid (TIs (w5.alloc (.cells #[.int .i64 Lr, .slice a5 ir.length c5] 26)) n a5 c5 ir) := t5.below (below_one _ _)
  clear h5 t5
  obtain ⟨p0, p1⟩ := cells2 X0.out (nxt B14.out B46.out)
  simp only
  go_wp2_with fail
  generalize w5.alloc (.cells #[.int .i64 Lr, .slice a5 ir.length c5] 26) = W6 at *
  clear p0 p1
  have B16 : Hid (Below w1.heap.size w1 W6) := nxt B14.out B46.out
  refine (CP.out W6 ia ic ea ec (HT.out.below (nxt B1.out B16.out)) (HE.out.below (nxt B1.out B16.out))).mono ?_
  rintro e w7 ⟨v7, H7, rfl, h7⟩
  obtain ⟨a7, c7, rfl, t7⟩ := CopyInv.tis h7 HIR.out.2 HIR.out.1
  have Q8 : Hid ((w7.alloc (.cells #[.int .i64 Lr, .slice a7 ir.length c7] 24)).heap[w7.heap.size]? = some (.cells #[.int .i64 Lr, .slice a7 ir.length c7] 24 (0, 0))) := heap_alloc_new _ _
  have B68 : Hid (Below W6.heap.size W6 (w7.alloc (.cells #[.int .i64 Lr, .slice a7 ir.length c7] 24))) := nxt h7.2.2 (below_one _ _)
  have T8 : Hid (TIs (w7.alloc (.cells #[.int .i64 Lr, .slice a7 ir.length c7] 24)) n a7 c7 ir) := t7.below (below_one _ _)
  clear h7 t7
  obtain ⟨p0, p1⟩ := cells2 Q4.out (nxt B46.out B68.out)
  simp only
  go_wp2_with fail
  generalize w7.alloc (.cells #[.int .i64 Lr, .slice a7 ir.length c7] 24) = W8 at *
  clear p0 p1
  have B48 : Hid (Below W4.heap.size W4 W8) := nxt B46.out B68.out
  have B18 : Hid (Below w1.heap.size w1 W8) := nxt B16.out B68.out
  refine (CK.out W8 a2 c2 (O4.out.below B48.out)).mono ?_
  rintro e w9 ⟨v9, H9, rfl, h9⟩
  obtain ⟨a9, c9, rfl, t9⟩ := CopyInv.tis h9 HIK.out.2 HIK.out.1
  have Q10 : Hid ((w9.alloc (.cells #[.int .i64 Lk, .slice a9 ik.length c9] 26)).heap[w9.heap.size]? = some (.cells #[.int .i64 Lk, .slice a9 ik.length c9] 26 (0, 0))) := heap_alloc_new _ _
  have B810 : Hid (Below W8.heap.size W8 (w9.alloc (.cells #[.int .i64 Lk, .slice a9 ik.length c9] 26))) := nxt h9.2.2 (below_one _ _)
  have T10 : Hid (TIs (w9.alloc (.cells #[.int .i64 Lk, .slice a9 ik.length c9] 26)) n a9 c9 ik) := t9.below (below_one _ _)
  clear h9 t9
  obtain ⟨p0, p1⟩ := cells2 X0.out (nxt B18.out B810.out)
  simp only
  go_wp2_with fail
  generalize w9.alloc (.cells #[.int .i64 Lk, .slice a9 ik.length c9] 26) = W10 at *
  clear p0 p1
  have B110 : Hid (Below w1.heap.size w1 W10) := nxt B18.out B810.out
  refine (CQ.out W10 ia ic (HT.out.below (nxt B1.out B110.out))).mono ?_
  rintro e w11 ⟨v11, H11, rfl, h11⟩
  obtain ⟨a11, c11, rfl, t11⟩ := CopyInv.tis h11 HIK.out.2 HIK.out.1
  have Q12 : Hid ((w11.alloc (.cells #[.int .i64 Lk, .slice a11 ik.length c11] 24)).heap[w11.heap.size]? = some (.cells #[.int .i64 Lk, .slice a11 ik.length c11] 24 (0, 0))) := heap_alloc_new _ _
  have B1012 : Hid (Below W10.heap.size W10 (w11.alloc (.cells #[.int .i64 Lk, .slice a11 ik.length c11] 24))) := nxt h11.2.2 (below_one _ _)
  have T12 : Hid (TIs (w11.alloc (.cells #[.int .i64 Lk, .slice a11 ik.length c11] 24)) n a11 c11 ik) := t11.below (below_one _ _)
  clear h11 t11
  obtain ⟨p0, p1⟩ := cells2 Q4.out (nxt B48.out (nxt B810.out B1012.out))
  simp only
  go_wp2_with fail
  generalize w11.alloc (.cells #[.int .i64 Lk, .slice a11 ik.length c11] 24) = W12 at *
  clear p0 p1
  have B412 : Hid (Below W4.heap.size W4 W12) := nxt B48.out (nxt B810.out B1012.out)
  have B812 : Hid (Below W8.heap.size W8 W12) := nxt B810.out B1012.out
  refine (CN.out W12 a2 c2 (O4.out.below B412.out)).mono ?_
  rintro e w13 ⟨v13, H13, rfl, h13⟩
  obtain ⟨a13, c13, rfl, t13⟩ := CopyInv.tis h13 HIX.out.2 HIX.out.1
  have T13 : Hid (TIs w13 n a13 c13 ix) := t13
  have B1213 : Hid (Below W12.heap.size W12 w13) := h13.2.2
  clear h13 t13
  obtain ⟨p0, p1⟩ := cells2 X0.out (nxt B18.out (nxt B812.out B1213.out))
  simp only
  go_wp2_with fail
  clear p0 p1
  refine (CM.out w13 ia ic (HT.out.below (nxt B1.out (nxt B18.out (nxt B812.out B1213.out))))).mono ?_
  rintro e w14 ⟨v14, H14, rfl, h14⟩
  obtain ⟨a14, c14, rfl, t14⟩ := CopyInv.tis h14 HIX.out.2 HIX.out.1
  have T14 : Hid (TIs w14 n a14 c14 ix) := t14
  have B1314 : Hid (Below w13.heap.size w13 w14) := h14.2.2
  clear h14 t14
  have B1214 : Hid (Below W12.heap.size W12 w14) := nxt B1213.out B1314.out
  have B1014 : Hid (Below W10.heap.size W10 w14) := nxt B1012.out B1214.out
  have B814 : Hid (Below W8.heap.size W8 w14) := nxt B812.out B1214.out
  have B614 : Hid (Below W6.heap.size W6 w14) := nxt B68.out B814.out
  have B414 : Hid (Below W4.heap.size W4 w14) := nxt B48.out B814.out
  have B114 : Hid (Below w1.heap.size w1 w14) := nxt B18.out B814.out
  have CL1 : Hid (∀ W', Below w14.heap.size w14 W' → Calls Try.prog 17 #[.agg #[.int .i64 Lr, .slice a5 ir.length c5], .agg #[.int .i64 Lr, .slice a7 ir.length c7]] W' fun e w' => e = .returned (.int .i64 0) ∧ Below W'.heap.size W' w') := fun W' h => by have := alike_any Lr Lr ir ir a5 a7 c5 c7 W' (T6.out.below (nxt B614.out h)) (T8.out.below (nxt B814.out h)); rwa [alk_same] at this
  have CL2 : Hid (∀ W', Below w14.heap.size w14 W' → Calls Try.prog 17 #[.agg #[.int .i64 Lk, .slice a9 ik.length c9], .agg #[.int .i64 Lk, .slice a11 ik.length c11]] W' fun e w' => e = .returned (.int .i64 0) ∧ Below W'.heap.size W' w') := fun W' h => by have := alike_any Lk Lk ik ik a9 a11 c9 c11 W' (T10.out.below (nxt B1014.out h)) (T12.out.below (nxt B1214.out h)); rwa [alk_same] at this
  have CL3 : Hid (∀ W', Below w14.heap.size w14 W' → Calls Try.prog 17 #[.agg #[.int .i64 L, .slice a2 its.length c2], .agg #[.int .i64 L, .slice ia its.length ic]] W' fun e w' => e = .returned (.int .i64 0) ∧ Below W'.heap.size W' w') := fun W' h => by have := alike_any L L its its a2 ia c2 ic W' (O4.out.below (nxt B414.out h)) (HT.out.below (nxt B1.out (nxt B114.out h))); rwa [alk_same] at this
  have CS : Hid (∀ W', Below w14.heap.size w14 W' → Calls Try.prog 19 #[.slice a13 ix.length c13, .slice a14 ix.length c14] W' fun e w' => e = .returned (.bool true) ∧ Below W'.heap.size W' w') := fun W' h => by have := sameItems_any ix ix a13 a14 c13 c14 W' (T13.out.below (nxt B1314.out h)) (T14.out.below h); rwa [one_true rfl] at this
  have CE : Hid (∀ W', Below w14.heap.size w14 W' → Calls Try.prog 22 #[.slice a3 l.length c3, .slice ea l.length ec] W' fun e w' => e = .returned (.bool true) ∧ Below W'.heap.size W' w') := fun W' h => by have := sameEffects_any l l a3 ea c3 ec W' (E4.out.below (nxt B414.out h)) (HE.out.below (nxt B1.out (nxt B114.out h))); rwa [one_true rfl] at this
  have C1 : Hid (∀ W', Below w14.heap.size w14 W' → Calls Try.prog 20 #[.agg #[.int .i64 L, .slice a2 its.length c2]] W' fun e w' => e = .returned (.int .i64 (chkB L its)) ∧ Below W'.heap.size W' w') := fun W' h => bcheck_any L its a2 c2 W' (O4.out.below (nxt B414.out h))
  have C2 : Hid (∀ W', Below w14.heap.size w14 W' → Calls Try.prog 21 #[.agg #[.int .i64 L, .slice ia its.length ic]] W' fun e w' => e = .returned (.int .i64 (chkB L its)) ∧ Below W'.heap.size W' w') := fun W' h => rbcheck_any L its ia ic W' (HT.out.below (nxt B1.out (nxt B114.out h)))
  have BW : Hid (Below w.heap.size w w14) := nxt B1.out B114.out
  have XP : Hid (∀ W', Below w14.heap.size w14 W' → W'.cell? ⟨w.heap.size, 0, none⟩ = some (.int .i64 L) ∧ W'.cell? ⟨w.heap.size, 1, none⟩ = some (.slice ia its.length ic)) := fun W' h => cells2 X0.out (nxt B114.out h)
  have X4 : Hid (∀ W', Below w14.heap.size w14 W' → W'.cell? ⟨w3.heap.size, 0, none⟩ = some (.int .i64 L) ∧ W'.cell? ⟨w3.heap.size, 1, none⟩ = some (.slice a2 its.length c2)) := fun W' h => cells2 Q4.out (nxt B414.out h)
  have X6 : Hid (∀ W', Below w14.heap.size w14 W' → W'.cell? ⟨w5.heap.size, 0, none⟩ = some (.int .i64 Lr) ∧ W'.cell? ⟨w5.heap.size, 1, none⟩ = some (.slice a5 ir.length c5)) := fun W' h => cells2 Q6.out (nxt B614.out h)
  have X8 : Hid (∀ W', Below w14.heap.size w14 W' → W'.cell? ⟨w7.heap.size, 0, none⟩ = some (.int .i64 Lr) ∧ W'.cell? ⟨w7.heap.size, 1, none⟩ = some (.slice a7 ir.length c7)) := fun W' h => cells2 Q8.out (nxt B814.out h)
  have X10 : Hid (∀ W', Below w14.heap.size w14 W' → W'.cell? ⟨w9.heap.size, 0, none⟩ = some (.int .i64 Lk) ∧ W'.cell? ⟨w9.heap.size, 1, none⟩ = some (.slice a9 ik.length c9)) := fun W' h => cells2 Q10.out (nxt B1014.out h)
  have X12 : Hid (∀ W', Below w14.heap.size w14 W' → W'.cell? ⟨w11.heap.size, 0, none⟩ = some (.int .i64 Lk) ∧ W'.cell? ⟨w11.heap.size, 1, none⟩ = some (.slice a11 ik.length c11)) := fun W' h => cells2 Q12.out (nxt B1214.out h)
  clear B1214 B1014 B814 B614 B414 B114 B1213 B1314 B412 B812 B1012 B810 B110 B18 B48 B68 B16 B46 B14 B1 T6 T8 T10 T12 T13 T14 O4 E4 Q4 Q6 Q8 Q10 Q12 X0 CA CP CK CQ CN CM HT HE HOK HEK HIR HIK HIX
  generalize chkB L its = cb at *
  obtain ⟨p0, p1⟩ := X6.out _ (Below.refl _ _)
  obtain ⟨p2, p3⟩ := X8.out _ (Below.refl _ _)
  simp only
  go_wp2_with fail
  refine (CL1.out _ (Below.refl _ _)).mono ?_
  rintro e w15 ⟨rfl, hb15⟩
  have D15 : Hid (Below w14.heap.size w14 w15) := hb15
  clear hb15 p0 p1 p2 p3
  obtain ⟨p0, p1⟩ := X10.out _ D15.out
  obtain ⟨p2, p3⟩ := X12.out _ D15.out
  go_wp2_with (go_at_call 18; refine (num_any _ _).mono ?_; rintro e w12 ⟨rfl, hw12⟩; subst w12)
  refine (CL2.out _ D15.out).mono ?_
  rintro e w16 ⟨rfl, hb16⟩
  have D16 : Hid (Below w14.heap.size w14 w16) := nxt D15.out hb16
  clear hb16 p0 p1 p2 p3 D15
  go_wp2_with (go_at_call 18; refine (num_any _ _).mono ?_; rintro e w12 ⟨rfl, hw12⟩; subst w12)
  refine (CS.out _ D16.out).mono ?_
  rintro e w17 ⟨rfl, hb17⟩
  have D17 : Hid (Below w14.heap.size w14 w17) := nxt D16.out hb17
  clear hb17 D16
  have q0 : ∀ s : Cls w17, s.1.cell? ⟨w.heap.size, 0, none⟩ = some (.int .i64 L) := fun s => (XP.out _ (nxt D17.out s.2)).1
  have q1 : ∀ s : Cls w17, s.1.cell? ⟨w.heap.size, 1, none⟩ = some (.slice ia its.length ic) := fun s => (XP.out _ (nxt D17.out s.2)).2
  have q2 : ∀ s : Cls w17, s.1.cell? ⟨w3.heap.size, 0, none⟩ = some (.int .i64 L) := fun s => (X4.out _ (nxt D17.out s.2)).1
  have q3 : ∀ s : Cls w17, s.1.cell? ⟨w3.heap.size, 1, none⟩ = some (.slice a2 its.length c2) := fun s => (X4.out _ (nxt D17.out s.2)).2
  have inst : Nonempty (Cls w17) := ⟨⟨_, Below.refl _ _⟩⟩
  go_wp2_with (go_at_call 18; refine (num_any _ _).mono ?_; rintro e w12 ⟨rfl, hw12⟩; subst w12)
  refine wp_region_cls (by kernel_rfl) (by kernel_rfl) ?_
  repeat (go_big_quiet_step (first | (go_at_call 20; exact Calls.cls (C1.out _ (nxt D17.out (Subtype.property _)))) | (go_at_call 18; exact Calls.cls_same (num_any _ _)) | (go_at_call 21; exact Calls.cls (C2.out _ (nxt D17.out (Subtype.property _)))) | (go_at_call 17; exact Calls.cls (CL3.out _ (nxt D17.out (Subtype.property _)))) | (go_at_call 22; exact Calls.cls (CE.out _ (nxt D17.out (Subtype.property _)))) | (go_at_call 23; exact Calls.cls (alive_any _))))
  refine wpQuiet_nil ?_
  intro _ hw'
  obtain ⟨s, hw''⟩ := hw'
  subst hw''
  go_wp2_with fail
  go_ret
  exact ⟨ret_bool (by simp), nxt BW.out (nxt D17.out s.2)⟩

set_option maxRecDepth 100000 in
set_option maxHeartbeats 1600000 in
theorem lifted (os : Os) (started : os.Started) (H : Type) (enc : TypeId × Value → H) :
    ReturnsInHanded {} Try.checked os 3 .any (Rows.outboxTellsSpec.pre6 enc Try.prog Try.f3 Rows.outboxTellsRow.domain false) (Rows.outboxTellsSpec.post enc Try.prog Try.f3 false true false false) := by
  refine returnsInHanded_of_change_sized (C := Try.checked) Try.own started (by kernel_rfl) Try.func3
    (ChangeSpec.witness6 (enc := enc) (C := Try.checked) false ⟨#[], #[.agg #[.int .i64 0, .slice none 0 0], .int .i64 0, .slice none 0 0, .int .i64 0, .int .i64 0], []⟩ 8 (by kernel_rfl) (by kernel_rfl) (by kernel_rfl) (by kernel_rfl)) ?_
  intro W base args ds gs before hval0 hW _ hsz0 _
  have hsz : (DataW.weightsEach Try.prog (Try.f3.params.toList ++ Rows.outboxTellsSpec.plain.varTypes Try.prog) (ds ++ gs)).all (· ≤ reachBytes) = true := hsz0
  have hval : ∀ (j : Nat) t v, Try.f3.params[j]? = some t → args[j]? = some v → Value.okWide Try.prog W .any base t v := hval0
  have hW' := hW
  obtain ⟨p, q, hA0, hV, rfl, hfz, hnd⟩ := hW
  have hA : DataW.TrodAll enc Try.prog W 0 (fun _ => true) true Try.f3.params.toList args.toList ds p := hA0
  rw [Try.params3] at hA hval hsz
  obtain ⟨v0, vs0, d0, ds0, p0, q0, hargs, rfl, rfl, h0, r0⟩ := trodAll_cons hA
  obtain ⟨v1, vs1, d1, ds1, p1, q1, rfl, rfl, rfl, h1, r1⟩ := trodAll_cons r0
  obtain ⟨v2, vs2, d2, ds2, p2, q2, rfl, rfl, rfl, h2, r2⟩ := trodAll_cons r1
  obtain ⟨v3, vs3, d3, ds3, p3, q3, rfl, rfl, rfl, h3, r3⟩ := trodAll_cons r2
  obtain ⟨v4, vs4, d4, ds4, p4, q4, rfl, rfl, rfl, h4, r4⟩ := trodAll_cons r3
  obtain ⟨rfl, rfl, rfl⟩ := trodAll_nil r4
  obtain rfl : args = #[v0, v1, v2, v3, v4] := by cases args; simp_all
  obtain ⟨rfl, rfl⟩ := trodVars_none hV
  clear hA0 hval0
  simp only [List.append_nil] at hW' hsz
  have hlt : ∀ x ∈ p0 ++ p1 ++ p2 ++ p3 ++ p4, x.block < W.heap.size := fun x hx => hW'.lt x (by simpa using hx)
  have hall : ∀ x ∈ DataW.weightsEach Try.prog [24, 3, 25, 3, 3] [d0, d1, d2, d3, d4], x ≤ reachBytes := fun x hx => of_decide_eq_true (List.all_eq_true.1 hsz x hx)
  have g0 : ∀ x ∈ d0.weights Try.prog 24, x ≤ reachBytes := fun x hx => hall x (DataW.weights_mem_each (j := 0) rfl rfl x hx)
  obtain ⟨u0, l0⟩ := box_of_arg (k := SizeOf.sizeOf d0 + SizeOf.sizeOf d2) (hval 0 _ v0 rfl rfl) h0 (by omega) g0
  obtain ⟨a1, rfl, rfl, rfl, w1⟩ := open_int Try.underlying3 (hval 1 3 v1 rfl rfl) h1
  have g2 : ∀ x ∈ d2.weights Try.prog 25, x ≤ reachBytes := fun x hx => hall x (DataW.weights_mem_each (j := 2) rfl rfl x hx)
  obtain ⟨u2, l2⟩ := effs_of_arg (k := SizeOf.sizeOf d0 + SizeOf.sizeOf d2) (hval 2 _ v2 rfl rfl) h2 (by omega) g2
  obtain ⟨a3, rfl, rfl, rfl, w3⟩ := open_int Try.underlying3 (hval 3 3 v3 rfl rfl) h3
  obtain ⟨a4, rfl, rfl, rfl, w4⟩ := open_int Try.underlying3 (hval 4 3 v4 rfl rfl) h4
  refine (walk _ u0 v0 a1 u2 v2 a3 a4 W l0 w1 l2 w3 w4).mono fun e W' ⟨he, bel⟩ => ?_
  subst he
  exact ⟨_, rfl, _, _, _, [], _, [], hW', trodAll_mk1 (shut_bool Try.underlying4 _), (trodAll_cons_mk (Below.trod Try.laidOut (by kernel_rfl) (of_decide_eq_true (by kernel_rfl)) h0 bel (fun x hx => hlt x (by simp [hx]))) (trodAll_cons_mk (shut_int Try.underlying3 w1) (trodAll_cons_mk (Below.trod Try.laidOut (by kernel_rfl) (of_decide_eq_true (by kernel_rfl)) h2 bel (fun x hx => hlt x (by simp [hx]))) (trodAll_cons_mk (shut_int Try.underlying3 w3) (trodAll_cons_mk (shut_int Try.underlying3 w4) trodAll_mk0))))), rfl, bel.frame _, fun h => by cases h⟩

theorem over : Rows.outboxTellsRow.holds Try.pinned (OpenSpec.ofChange Rows.outboxTellsSpec) :=
  OpenClaim.holds_of_wide 3 Try.f3 rfl rfl rfl rfl rfl rfl rfl ⟨rfl, rfl, rfl, rfl, rfl⟩ rfl rfl rfl rfl rfl (by kernel_rfl) Try.func3 (by kernel_rfl)
    (of_decide_eq_true (by kernel_rfl)) (by unfold Func.isWrapper; first | (rw [if_pos (by decide +kernel)]; kernel_rfl) | (rw [if_neg (by decide +kernel)]; exact ⟨rfl, rfl⟩))
    (fun os started H enc _ => lifted os started H enc)

/-- THE STATEMENT. -/
theorem proved : Rows.OutboxTellsSaid := over
#print axioms proved
end Go.Proofs.Ytpeghhkhohnkiaa.outboxTells
