/-
  SealTells holds for every frame and all octets of bulk at most 1048576 together: any frame as octets, sums, and any octets read and scanned, are as the page says; what is handed in stays. One condition: that bulk.
-/
import Derived.Test.YtihncekjbmepoacSeRefP
import Derived.Test.YtihncekjbmepoacSeRefS
import Derived.Deep.CondSized
namespace Go.Proofs.Ytihncekjbmepoac.sealTells
open Go.ChangeShapes Go.WideShapes Go.ChangeAt Go.RowKit Go.Deep
open Se

theorem scanN_len : ∀ (m : Nat) (l : List UInt8), 8 * (scanN m l).1.length ≤ l.length
  | 0, _ => by simp [scanN]
  | m + 1, l => by
    simp only [scanN]
    by_cases h : (getR l).1 = 0
    · rw [if_pos h]
      have h3 := getR_ok h
      have h4 := scanN_len m (l.drop (getR l).2.2.2)
      rw [List.length_drop] at h4
      simp only [List.length_cons]
      omega
    · rw [if_neg h]; simp
theorem scan_len (l : List UInt8) : 8 * (scanR l).1.length ≤ l.length := scanN_len _ l

set_option maxRecDepth 100000 in
set_option maxHeartbeats 6400000 in
theorem walk (f : Int × List UInt8) (x : Value) (bs : List UInt8) (xb : Value) (w : World) (hf : FrameIs w x f) (hb : BytesIs w xb bs) (hbl : bs.length ≤ 1000000000000) :
    Calls Try.prog 3 #[x, xb] w fun e w' => e = .returned (.bool true) ∧ Below w.heap.size w w' := by
  obtain ⟨k, d⟩ := f
  obtain ⟨a, c, rfl, hkb, ho, hdl⟩ := hf
  obtain ⟨ba, bc, rfl, hbo, -⟩ := hb
  simp only at hkb ho hdl ⊢
  have HO : Hid (Oct w a c d) := ho
  have HB : Hid (Oct w ba bc bs) := hbo
  clear ho hbo
  go_enter Try.func3, Try.ntmps3
  go_wp2_with fail
  refine (of_any k a c d _ (HO.out.below (below_one _ _)) hdl).mono ?_
  rintro e w1 ⟨s1, rfl, hs1, hb1⟩
  obtain ⟨a1, c1, rfl⟩ := hs1.shape
  have X1 : Hid (w1.heap[w.heap.size]? = some (.cells #[.int .i64 k, .slice a d.length c] 24 (0, 0))) := (hb1.block _ (by simp)).trans (heap_alloc_new _ _)
  have B1 : Hid (Below w.heap.size w w1) := nxt (below_one _ _) hb1
  have O1 : Hid (Oct w1 a1 c1 d) := hs1.oct (by omega)
  clear hs1 hb1
  go_wp2_with fail
  refine (copyB_any ba bc bs w1 (HB.out.below B1.out) (by omega)).mono ?_
  rintro e w2 ⟨s2, rfl, hs2, hb2⟩
  obtain ⟨a2, c2, rfl⟩ := hs2.shape
  have bA := below_one w2 (.cells #[.int .i64 k, .slice a1 d.length c1] 25)
  have X3 : Hid ((w2.alloc (.cells #[.int .i64 k, .slice a1 d.length c1] 25)).heap[w.heap.size]? = some (.cells #[.int .i64 k, .slice a d.length c] 24 (0, 0))) := ((nxt hb2 bA).block _ (lt_of_block X1.out)).trans X1.out
  have Y3 : Hid ((w2.alloc (.cells #[.int .i64 k, .slice a1 d.length c1] 25)).heap[w2.heap.size]? = some (.cells #[.int .i64 k, .slice a1 d.length c1] 25 (0, 0))) := heap_alloc_new _ _
  have B3 : Hid (Below w.heap.size w (w2.alloc (.cells #[.int .i64 k, .slice a1 d.length c1] 25))) := nxt (nxt B1.out hb2) bA
  have O3 : Hid (Oct (w2.alloc (.cells #[.int .i64 k, .slice a1 d.length c1] 25)) a1 c1 d) := O1.out.below (nxt hb2 bA)
  have P3 : Hid (Oct (w2.alloc (.cells #[.int .i64 k, .slice a1 d.length c1] 25)) a2 c2 bs) := (hs2.oct (by omega)).below bA
  clear hs2 hb2 bA X1 B1 O1
  go_upto_region 2 with fail
  generalize w2.alloc (.cells #[.int .i64 k, .slice a1 d.length c1] 25) = w3 at *
  generalize w2.heap.size = g2 at *
  obtain ⟨x0, -⟩ := cell_of X3.out 0
  obtain ⟨x1, -⟩ := cell_of X3.out 1
  obtain ⟨y0, -⟩ := cell_of Y3.out 0
  obtain ⟨y1, -⟩ := cell_of Y3.out 1
  simp at x0 x1 y0 y1
  go_wp2_with fail
  refine (put_any k a1 c1 d w3 O3.out).mono ?_
  rintro e w4 ⟨s4, rfl, hs4, hb4⟩
  obtain ⟨a4, c4, rfl⟩ := hs4.shape
  have L4 : Hid (LayB w4 a4 (putR k d).2) := hs4.lay
  have H34 : Hid (Below w3.heap.size w3 w4) := hb4
  have X4 : Hid (w4.heap[w.heap.size]? = some (.cells #[.int .i64 k, .slice a d.length c] 24 (0, 0))) := (hb4.block _ (lt_of_block X3.out)).trans X3.out
  clear hs4 hb4 x0 x1 y0 y1
  obtain ⟨x0, -⟩ := cell_of X4.out 0
  obtain ⟨x1, -⟩ := cell_of X4.out 1
  simp at x0 x1
  go_wp2_with fail
  refine (rput_any k a c d w4 (HO.out.below (nxt B3.out H34.out))).mono ?_
  rintro e w5 ⟨s5, rfl, hs5, hb5⟩
  obtain ⟨a5, c5, rfl⟩ := hs5.shape
  have L5 : Hid (LayB w5 a5 (putR k d).2) := hs5.lay
  have L45 : Hid (LayB w5 a4 (putR k d).2) := L4.out.below hb5
  have H35 : Hid (Below w3.heap.size w3 w5) := nxt H34.out hb5
  clear hs5 hb5 L4 H34 X4 x0 x1
  generalize putR k d = PR at *
  obtain ⟨per, pl⟩ := PR
  simp only at L5 L45 ⊢
  go_wp2_with fail
  have HG6 : Hid (Calls Try.prog 12 #[.slice a2 bs.length c2] w5 _) := get_any a2 c2 bs w5 (P3.out.below H35.out)
  have HG7 : Hid (∀ w', Below w.heap.size w w' → Calls Try.prog 13 #[.slice ba bs.length bc] w' _) := fun w' hb => rget_any ba bc bs w' (HB.out.below hb)
  generalize getR bs = G at *
  obtain ⟨ger, gk, gd, gn⟩ := G
  simp only at HG6 HG7
  refine HG6.out.mono ?_
  rintro e w6 ⟨s6, rfl, hs6, hb6⟩
  obtain ⟨a6, c6, rfl⟩ := hs6.shape
  have bA := below_one w6 (.cells #[.int .i64 gk, .slice a6 gd.length c6] 25)
  have H67 := nxt hb6 bA
  have L6 : Hid (LayB (w6.alloc (.cells #[.int .i64 gk, .slice a6 gd.length c6] 25)) a6 gd) := hs6.lay.below bA
  have Y6 : Hid ((w6.alloc (.cells #[.int .i64 gk, .slice a6 gd.length c6] 25)).heap[w6.heap.size]? = some (.cells #[.int .i64 gk, .slice a6 gd.length c6] 25 (0, 0))) := heap_alloc_new _ _
  have M5 : Hid (LayB (w6.alloc (.cells #[.int .i64 gk, .slice a6 gd.length c6] 25)) a5 pl) := L5.out.below H67
  have M45 : Hid (LayB (w6.alloc (.cells #[.int .i64 gk, .slice a6 gd.length c6] 25)) a4 pl) := L45.out.below H67
  have H36 : Hid (Below w3.heap.size w3 (w6.alloc (.cells #[.int .i64 gk, .slice a6 gd.length c6] 25))) := nxt H35.out H67
  clear hs6 hb6 bA H67 L5 L45 H35 HG6
  go_upto_region 5 with fail
  generalize w6.alloc (.cells #[.int .i64 gk, .slice a6 gd.length c6] 25) = w7 at *
  generalize w6.heap.size = g6 at *
  go_wp2_with fail
  refine (HG7.out w7 (nxt B3.out H36.out)).mono ?_
  rintro e w8 ⟨s8, rfl, hs8, hb8⟩
  obtain ⟨a8, c8, rfl⟩ := hs8.shape
  have bA := below_one w8 (.cells #[.int .i64 gk, .slice a8 gd.length c8] 24)
  have H89 := nxt hb8 bA
  have L8 : Hid (LayB (w8.alloc (.cells #[.int .i64 gk, .slice a8 gd.length c8] 24)) a8 gd) := hs8.lay.below bA
  have Z8 : Hid ((w8.alloc (.cells #[.int .i64 gk, .slice a8 gd.length c8] 24)).heap[w8.heap.size]? = some (.cells #[.int .i64 gk, .slice a8 gd.length c8] 24 (0, 0))) := heap_alloc_new _ _
  have Y8 : Hid ((w8.alloc (.cells #[.int .i64 gk, .slice a8 gd.length c8] 24)).heap[g6]? = some (.cells #[.int .i64 gk, .slice a6 gd.length c6] 25 (0, 0))) := (H89.block _ (lt_of_block Y6.out)).trans Y6.out
  have N5 : Hid (LayB (w8.alloc (.cells #[.int .i64 gk, .slice a8 gd.length c8] 24)) a5 pl) := M5.out.below H89
  have N45 : Hid (LayB (w8.alloc (.cells #[.int .i64 gk, .slice a8 gd.length c8] 24)) a4 pl) := M45.out.below H89
  have N6 : Hid (LayB (w8.alloc (.cells #[.int .i64 gk, .slice a8 gd.length c8] 24)) a6 gd) := L6.out.below H89
  have H38 : Hid (Below w3.heap.size w3 (w8.alloc (.cells #[.int .i64 gk, .slice a8 gd.length c8] 24))) := nxt H36.out H89
  clear hs8 hb8 bA H89 M5 M45 L6 H36 HG7 Y6
  go_upto_region 6 with fail
  generalize w8.alloc (.cells #[.int .i64 gk, .slice a8 gd.length c8] 24) = w9 at *
  generalize w8.heap.size = g8 at *
  have HS1 : Hid (Calls Try.prog 14 #[.slice a2 bs.length c2] w9 _) := scan_any a2 c2 bs w9 (P3.out.below H38.out) hbl
  have HS2 : Hid (∀ w', Below w.heap.size w w' → Calls Try.prog 15 #[.slice ba bs.length bc] w' _) := fun w' hb => rscan_any ba bc bs w' (HB.out.below hb) hbl
  have hsc := scan_len bs
  generalize scanR bs = SR at *
  obtain ⟨sl, sn⟩ := SR
  simp only at HS1 HS2 hsc
  go_wp2_with fail
  refine HS1.out.mono ?_
  rintro e w10 ⟨v10, xs10, rfl, hr10, hi10, hb10⟩
  obtain ⟨a10, c10, rfl⟩ := slice_of_own hr10
  have F10 : Hid (LayF w10 a10 sl) := layF_own hr10 fun j f hj => by
    obtain ⟨a', c', q1, q2, q3⟩ := hi10 j f hj
    exact ⟨a', c', q1, q2, q3.lay⟩
  have H910 : Hid (Below w9.heap.size w9 w10) := hb10
  clear hr10 hi10 hb10 HS1
  go_wp2_with fail
  refine (HS2.out w10 (nxt (nxt B3.out H38.out) H910.out)).mono ?_
  rintro e w11 ⟨v11, xs11, rfl, hr11, hi11, hb11⟩
  obtain ⟨a11, c11, rfl⟩ := slice_of_own hr11
  have F11 : Hid (LayF w11 a11 sl) := layF_own hr11 fun j f hj => by
    obtain ⟨a', c', q1, q2, q3⟩ := hi11 j f hj
    exact ⟨a', c', q1, q2, q3.lay⟩
  have G10 : Hid (LayF w11 a10 sl) := F10.out.below hb11
  have H911 : Hid (Below w9.heap.size w9 w11) := nxt H910.out hb11
  clear hr11 hi11 hb11 HS2 F10 H910
  have HALL : Hid (∀ w', Below w11.heap.size w11 w' → Below w9.heap.size w9 w' ∧ Below w3.heap.size w3 w' ∧ Below w.heap.size w w') := fun w' hb => ⟨nxt H911.out hb, nxt (nxt H38.out H911.out) hb, nxt (nxt (nxt B3.out H38.out) H911.out) hb⟩
  have hsl : sl.length ≤ 200000000000000 := by omega
  clear hsc
  go_wp2_with fail
  have CA := sameB_any pl pl a4 a5 c4 c5 w11 (N45.out.below H911.out) (N5.out.below H911.out)
  simp only [beq_self_eq_true] at CA
  refine CA.mono ?_
  rintro e w12 ⟨rfl, hw12⟩
  subst w12
  clear CA
  go_wp2_with fail
  refine (num_any _ _).mono ?_
  rintro e w12 ⟨rfl, hw12⟩
  subst w12
  obtain ⟨y0, -⟩ := cell_of ((H911.out.block _ (lt_of_block Y8.out)).trans Y8.out) 0
  obtain ⟨y1, -⟩ := cell_of ((H911.out.block _ (lt_of_block Y8.out)).trans Y8.out) 1
  obtain ⟨z0, -⟩ := cell_of ((H911.out.block _ (lt_of_block Z8.out)).trans Z8.out) 0
  obtain ⟨z1, -⟩ := cell_of ((H911.out.block _ (lt_of_block Z8.out)).trans Z8.out) 1
  simp at y0 y1 z0 z1
  go_wp2_with fail
  have CB := same_any gk gk a6 a8 c6 c8 gd gd w11 (N6.out.below H911.out) (L8.out.below H911.out)
  simp only [beq_self_eq_true, Bool.and_self] at CB
  refine CB.mono ?_
  rintro e w12 ⟨rfl, hb12⟩
  have K12 : Hid (Below w11.heap.size w11 w12) := hb12
  clear CB hb12 y0 y1 z0 z1
  go_wp2_with fail
  refine (num_any _ _).mono ?_
  rintro e w13 ⟨rfl, hw13⟩
  subst w13
  go_wp2_with fail
  have CC := sameAll_any sl sl a10 a11 c10 c11 w12 (G10.out.below K12.out) (F11.out.below K12.out) hsl
  rw [decide_eq_true rfl] at CC
  refine CC.mono ?_
  rintro e w13 ⟨rfl, hb13⟩
  have K13 : Hid (Below w11.heap.size w11 w13) := nxt K12.out hb13
  clear CC hb13 K12
  go_wp2_with fail
  refine (sum_any a2 c2 bs w13 (P3.out.below (HALL.out _ K13.out).2.1).1 (by omega)).mono ?_
  rintro e w14 ⟨rfl, hb14⟩
  have K14 : Hid (Below w11.heap.size w11 w14) := nxt K13.out hb14
  clear hb14 K13
  go_wp2_with fail
  refine (rsum_any ba bc bs w14 (HB.out.below (HALL.out _ K14.out).2.2).1 (by omega)).mono ?_
  rintro e w15 ⟨rfl, hw15⟩
  subst w15
  have XW : Hid (w14.heap[w.heap.size]? = some (.cells #[.int .i64 k, .slice a d.length c] 24 (0, 0))) := ((HALL.out _ K14.out).2.1.block _ (lt_of_block X3.out)).trans X3.out
  have YW : Hid (w14.heap[g2]? = some (.cells #[.int .i64 k, .slice a1 d.length c1] 25 (0, 0))) := ((HALL.out _ K14.out).2.1.block _ (lt_of_block Y3.out)).trans Y3.out
  obtain ⟨y0, -⟩ := cell_of YW.out 0
  obtain ⟨y1, -⟩ := cell_of YW.out 1
  obtain ⟨z0, -⟩ := cell_of XW.out 0
  obtain ⟨z1, -⟩ := cell_of XW.out 1
  simp at y0 y1 z0 z1
  go_wp2_with fail
  have CD := same_any k k a1 a c1 c d d w14 (O3.out.below (HALL.out _ K14.out).2.1).1 (HO.out.below (HALL.out _ K14.out).2.2).1
  simp only [beq_self_eq_true, Bool.and_self] at CD
  refine CD.mono ?_
  rintro e w15 ⟨rfl, hb15⟩
  have K15 : Hid (Below w11.heap.size w11 w15) := nxt K14.out hb15
  clear CD hb15 K14 XW YW y0 y1 z0 z1
  go_wp2_with fail
  have CE := sameB_any bs bs a2 ba c2 bc w15 (P3.out.below (HALL.out _ K15.out).2.1).1 (HB.out.below (HALL.out _ K15.out).2.2).1
  simp only [beq_self_eq_true] at CE
  refine CE.mono ?_
  rintro e w16 ⟨rfl, hw16⟩
  subst w16
  clear CE
  go_wp2_with fail
  refine (alive_any _).mono ?_
  rintro e w16 ⟨rfl, hb16⟩
  have K16 : Hid (Below w.heap.size w w16) := nxt (HALL.out _ K15.out).2.2 hb16
  clear hb16 K15
  go_wp2_with fail
  go_ret
  exact ⟨rfl, K16.out⟩

theorem bulk_pos {H : Type} (d : DataW H) : 1 ≤ Rows.uptoBulk d := by
  cases d with
  | lit l => cases l <;> simp [Rows.uptoBulk]
  | _ => simp [Rows.uptoBulk]
theorem bulk_len {H : Type} : ∀ (l : List (DataW H)), l.length ≤ Rows.uptoBulkAll l
  | [] => by simp [Rows.uptoBulkAll]
  | d :: r => by
    have h1 := bulk_pos d
    have h2 := bulk_len r
    simp only [Rows.uptoBulkAll, List.length_cons]
    omega

theorem bytes_bulk {H : Type} {enc : TypeId × Value → H} {w : World} {d : DataW H} {x : Value} {pl : List MemPlace} {bs : List UInt8} (h : DataW.Trod enc Try.prog w 0 (fun _ => true) true 22 x d pl) (hb : BytesIs w x bs) : bs.length ≤ Rows.uptoBulk d := by
  obtain ⟨fuel, hf⟩ := h
  obtain ⟨a, c, rfl, -, -⟩ := hb
  have hc : (Value.slice a bs.length c).cells = #[.slice a bs.length c] := by simp [Value.cells]
  rw [hc] at hf
  rcases open_slice Try.underlying22 hf with ⟨h1, h2⟩ | ⟨a', len, cap, m, n', D, Pl, h1, _, hl1, hm1, hm2, h2, h3⟩
  · simp only [List.cons.injEq, and_true, Value.slice.injEq] at h1
    omega
  · simp only [List.cons.injEq, and_true, Value.slice.injEq] at h1
    have h2' : d = .slice ((List.range len).map D) ((List.range (m - len)).map fun j => D (len + j)) := congrArg Prod.fst h2
    rw [h2']
    have := bulk_len ((List.range len).map D)
    simp only [List.length_map, List.length_range] at this
    simp only [Rows.uptoBulk]
    omega

set_option maxRecDepth 100000 in
set_option maxHeartbeats 1600000 in
theorem lifted (os : Os) (started : os.Started) (H : Type) (enc : TypeId × Value → H) (F : Stop.Interp) :
    ReturnsInHanded {} Try.checked os 3 .any ((Rows.OpenSpec.upto Rows.sealTellsSpec).pre6 enc Try.prog Try.f3 Rows.sealTellsUptoRow.domain false) (((Rows.OpenSpec.upto Rows.sealTellsSpec).at F).post enc Try.prog Try.f3 false true false false) := by
  refine returnsInHanded_of_cond_sized (C := Try.checked) (s := Rows.OpenSpec.upto Rows.sealTellsSpec) (k := Rows.uptoSmall) rfl Try.own started (by kernel_rfl) Try.func3
    (OpenSpec.witness (enc := enc) (C := Try.checked) (s := Rows.OpenSpec.upto Rows.sealTellsSpec) (k := Rows.uptoSmall) rfl false ⟨#[], #[.agg #[.int .i64 0, .slice none 0 0], .slice none 0 0], []⟩ 8 (by kernel_rfl) (by kernel_rfl) (by kernel_rfl)
      (x := ([.agg [.lit (.int .i64 0), .nil], .nil], [], [])) (by kernel_rfl) rfl (by kernel_rfl)) ?_
  intro W base args ds gs before hval0 hW _ hk hsz0 _
  have hsz : (DataW.weightsEach Try.prog (Try.f3.params.toList ++ Rows.sealTellsSpec.plain.varTypes Try.prog) (ds ++ gs)).all (· ≤ reachBytes) = true := hsz0
  have hval : ∀ (j : Nat) t v, Try.f3.params[j]? = some t → args[j]? = some v → Value.okWide Try.prog W .any base t v := hval0
  have hW' := hW
  obtain ⟨p, q, hA0, hV, rfl, hfz, hnd⟩ := hW'
  have hA : DataW.TrodAll enc Try.prog W 0 (fun _ => true) true Try.f3.params.toList args.toList ds p := hA0
  rw [Try.params3] at hA hval hsz
  obtain ⟨v0, vs0, d0, ds0, p0, q0, hargs, rfl, rfl, h0, r0⟩ := trodAll_cons hA
  obtain ⟨v1, vs1, d1, ds1, p1, q1, rfl, rfl, rfl, h1, r1⟩ := trodAll_cons r0
  obtain ⟨rfl, rfl, rfl⟩ := trodAll_nil r1
  obtain rfl : args = #[v0, v1] := by cases args; simp_all
  obtain ⟨rfl, rfl⟩ := trodVars_none hV
  clear hA0 hval0
  have hW' := hW
  simp only [List.append_nil] at hW' hsz hk
  have hlt : ∀ x ∈ p0 ++ p1, x.block < W.heap.size := fun x hx => hW'.lt x (by simpa using hx)
  have hall : ∀ x ∈ DataW.weightsEach Try.prog [24, 22] [d0, d1], x ≤ reachBytes := fun x hx => of_decide_eq_true (List.all_eq_true.1 hsz x hx)
  have g0 : ∀ x ∈ d0.weights Try.prog 24, x ≤ reachBytes := fun x hx => hall x (DataW.weights_mem_each (j := 0) rfl rfl x hx)
  obtain ⟨u0, l0⟩ := fr_of_arg (hval 0 _ v0 rfl rfl) h0 g0
  have g1 : ∀ x ∈ d1.weights Try.prog 22, x ≤ reachBytes := fun x hx => hall x (DataW.weights_mem_each (j := 1) rfl rfl x hx)
  obtain ⟨u1, l1⟩ := bytes_of_arg (hval 1 _ v1 rfl rfl) h1 g1
  have hb := of_decide_eq_true hk
  simp only [Rows.uptoBulkAll] at hb
  have hb1 := bytes_bulk h1 l1
  refine (walk u0 v0 u1 v1 W l0 l1 (by omega)).mono fun e W' ⟨he, bel⟩ => ?_
  subst he
  exact ⟨_, rfl, _, _, _, [], _, [], hW', trodAll_mk1 (shut_bool Try.underlying4 _), (trodAll_cons_mk (Below.trod Try.laidOut (by kernel_rfl) (of_decide_eq_true (by kernel_rfl)) h0 bel (fun x hx => hlt x (by simp [hx]))) (trodAll_cons_mk (Below.trod Try.laidOut (by kernel_rfl) (of_decide_eq_true (by kernel_rfl)) h1 bel (fun x hx => hlt x (by simp [hx]))) trodAll_mk0)), rfl, bel.frame _, fun h => by cases h⟩

/-- THE STATEMENT. -/
theorem proved : Rows.SealTellsUptoSaid :=
  OpenClaim.holds_of_cond 3 Try.f3 rfl rfl rfl rfl rfl rfl rfl ⟨rfl, rfl, rfl, rfl, rfl⟩ rfl rfl rfl rfl rfl (by kernel_rfl) Try.func3 (by kernel_rfl)
    (of_decide_eq_true (by kernel_rfl)) (by unfold Func.isWrapper; first | (rw [if_pos (by decide +kernel)]; kernel_rfl) | (rw [if_neg (by decide +kernel)]; exact ⟨rfl, rfl⟩))
    (fun os started H enc _ F => lifted os started H enc F)
#print axioms proved
end Go.Proofs.Ytihncekjbmepoac.sealTells
