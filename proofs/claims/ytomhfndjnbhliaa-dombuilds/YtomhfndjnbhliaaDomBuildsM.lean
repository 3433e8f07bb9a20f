/-
  DomBuilds: a display of any tree is the page's; its tree is that tree.
-/
import Derived.Test.YtomhfndjnbhliaaDuRBuildM
import Derived.Test.YtomhfndjnbhliaaRgStoreJ
import Derived.Test.YtomhfndjnbhliaaTfFrameJ
namespace Go.Proofs.Ytomhfndjnbhliaa
open Go.ChangeShapes Go.WideShapes Go.ChangeAt Go.RowKit Go.Deep
open Do
namespace domBuilds

theorem build_len {n : Nat} (v : T n) : (buildD v).2.nodes.length ≤ 1024 ∧ (-9223372036854775808 ≤ (buildD v).2.root ∧ (buildD v).2.root ≤ 9223372036854775807) ∧ (-9223372036854775808 ≤ (buildD v).2.next ∧ (buildD v).2.next ≤ 9223372036854775807) := by
  unfold buildD
  by_cases h : (sizeT v).1 = 0
  · rw [if_pos h]
    have hc := (built_ok h).2.1
    refine ⟨?_, ?_, ?_⟩
    · show (bl 0 1 v).length ≤ 1024
      rw [bl_len]; omega
    · show -9223372036854775808 ≤ (1 : Int) ∧ (1 : Int) ≤ 9223372036854775807
      decide
    · show -9223372036854775808 ≤ 1 + (ct v : Int) ∧ 1 + (ct v : Int) ≤ 9223372036854775807
      omega
  · rw [if_neg h]
    exact ⟨Nat.zero_le _, (show -9223372036854775808 ≤ (0 : Int) ∧ (0 : Int) ≤ 9223372036854775807 by decide), (show -9223372036854775808 ≤ (0 : Int) ∧ (0 : Int) ≤ 9223372036854775807 by decide)⟩

set_option maxRecDepth 100000 in
set_option maxHeartbeats 3200000 in
theorem walk (n : Nat) (v : T n) (x : Value) (w : World) (hv : LayT w n x v) :
    Calls Try.prog 3 #[x] w fun e w' => e = .returned (.bool true) ∧ Below w.heap.size w w' := by
  obtain ⟨g, k, t, aa, al, ac, ia, il, ic, hx⟩ := lay_shape n hv
  subst hx
  have HV : Hid (LayT w n (mkT g k t aa al ac ia il ic) v) := hv
  clear hv
  have B1 : Hid (Below w.heap.size w (w.alloc (.cells #[.string g, .string k, .string t, .slice aa al ac, .slice ia il ic] 25))) := below_one _ _
  have X1 : Hid ((w.alloc (.cells #[.string g, .string k, .string t, .slice aa al ac, .slice ia il ic] 25)).heap[w.heap.size]? = some (.cells #[.string g, .string k, .string t, .slice aa al ac, .slice ia il ic] 25 (0, 0))) := heap_alloc_new _ _
  obtain ⟨x0, x1, x2, x3, x4⟩ := (five X1.out).1
  go_enter Try.func3, Try.ntmps3
  go_wp2_with fail
  generalize w.alloc (.cells #[.string g, .string k, .string t, .slice aa al ac, .slice ia il ic] 25) = w1 at *
  refine (copyT_any n v _ w1 (LayT.below n HV.out B1.out)).mono ?_
  rintro e w2 ⟨y, F, rfl, hy, -, hb2⟩
  have hyl := OwnT.lay n hy
  obtain ⟨g2, k2, t2, aa2, al2, ac2, ia2, il2, ic2, hy2⟩ := lay_shape n hyl
  subst hy2
  have B2 : Hid (Below w.heap.size w w2) := nxt B1.out hb2
  have X2 : Hid (w2.heap[w.heap.size]? = some (.cells #[.string g, .string k, .string t, .slice aa al ac, .slice ia il ic] 25 (0, 0))) := (hb2.block _ (lt_of_block X1.out)).trans X1.out
  have B3 : Hid (Below w.heap.size w (w2.alloc (.cells #[.string g2, .string k2, .string t2, .slice aa2 al2 ac2, .slice ia2 il2 ic2] 25))) := nxt B2.out (below_one _ _)
  have X3 : Hid ((w2.alloc (.cells #[.string g2, .string k2, .string t2, .slice aa2 al2 ac2, .slice ia2 il2 ic2] 25)).heap[w.heap.size]? = some (.cells #[.string g, .string k, .string t, .slice aa al ac, .slice ia il ic] 25 (0, 0))) := ((below_one _ _).block _ (lt_of_block X2.out)).trans X2.out
  have Y3 : Hid ((w2.alloc (.cells #[.string g2, .string k2, .string t2, .slice aa2 al2 ac2, .slice ia2 il2 ic2] 25)).heap[w2.heap.size]? = some (.cells #[.string g2, .string k2, .string t2, .slice aa2 al2 ac2, .slice ia2 il2 ic2] 25 (0, 0))) := heap_alloc_new _ _
  have LY : Hid (LayT (w2.alloc (.cells #[.string g2, .string k2, .string t2, .slice aa2 al2 ac2, .slice ia2 il2 ic2] 25)) n (mkT g2 k2 t2 aa2 al2 ac2 ia2 il2 ic2) v) := LayT.below n hyl (below_one _ _)
  clear hy hyl hb2 X1 B1 X2 B2 x0 x1 x2 x3 x4
  obtain ⟨y0, y1, y2, y3, y4⟩ := (five Y3.out).1
  go_wp2_with fail
  generalize w2.alloc (.cells #[.string g2, .string k2, .string t2, .slice aa2 al2 ac2, .slice ia2 il2 ic2] 25) = w3 at *
  generalize w2.heap.size = b2 at *
  refine (build_any n v _ w3 LY.out).mono ?_
  rintro e w4 ⟨x4, rfl, hx4, hb4⟩
  obtain ⟨hl1, hl2, hl3⟩ := build_len v
  obtain ⟨a4, c4, hx4e, h4⟩ := hx4.is hl1 hl2 hl3
  subst hx4e
  obtain ⟨D, hD⟩ : ∃ D, D = (buildD v).2 := ⟨_, rfl⟩
  obtain ⟨er, her⟩ : ∃ er, er = (buildD v).1 := ⟨_, rfl⟩
  have HDE : Hid (D = (buildD v).2 ∧ er = (buildD v).1) := ⟨hD, her⟩
  rw [← hD] at h4 hl1
  rw [← hD, ← her]
  have B5 : Hid (Below w3.heap.size w3 (w4.alloc (.cells #[.slice a4 D.nodes.length c4, .int .i64 D.root, .int .i64 D.next] 29))) := nxt hb4 (below_one _ _)
  have H5 : Hid (DsIs (w4.alloc (.cells #[.slice a4 D.nodes.length c4, .int .i64 D.root, .int .i64 D.next] 29)) D a4 c4) := h4.below (below_one _ _)
  have Z5 : Hid ((w4.alloc (.cells #[.slice a4 D.nodes.length c4, .int .i64 D.root, .int .i64 D.next] 29)).heap[w4.heap.size]? = some (.cells #[.slice a4 D.nodes.length c4, .int .i64 D.root, .int .i64 D.next] 29 (0, 0))) := heap_alloc_new _ _
  have X5 : Hid ((w4.alloc (.cells #[.slice a4 D.nodes.length c4, .int .i64 D.root, .int .i64 D.next] 29)).heap[w.heap.size]? = some (.cells #[.string g, .string k, .string t, .slice aa al ac, .slice ia il ic] 25 (0, 0))) := (B5.out.block _ (lt_of_block X3.out)).trans X3.out
  have Y5 : Hid ((w4.alloc (.cells #[.slice a4 D.nodes.length c4, .int .i64 D.root, .int .i64 D.next] 29)).heap[b2]? = some (.cells #[.string g2, .string k2, .string t2, .slice aa2 al2 ac2, .slice ia2 il2 ic2] 25 (0, 0))) := (B5.out.block _ (lt_of_block Y3.out)).trans Y3.out
  clear hx4 hb4 h4 hl2 hl3 hD her y0 y1 y2 y3 y4
  obtain ⟨x0, x1, x2, x3, x4⟩ := (five X5.out).1
  go_wp2_with fail
  generalize w4.alloc (.cells #[.slice a4 D.nodes.length c4, .int .i64 D.root, .int .i64 D.next] 29) = w5 at *
  generalize w4.heap.size = b4 at *
  refine (rbuild_any n v _ w5 (LayT.below n HV.out (nxt B3.out B5.out))).mono ?_
  rintro e w6 ⟨a6, c6, rfl, h6, hb6⟩
  rw [← HDE.out.1] at h6
  rw [← HDE.out.1, ← HDE.out.2]
  have B7 : Hid (Below w5.heap.size w5 (w6.alloc (.cells #[.slice a6 D.nodes.length c6, .int .i64 D.root, .int .i64 D.next] 35))) := nxt hb6 (below_one _ _)
  have H7 : Hid (DsIs (w6.alloc (.cells #[.slice a6 D.nodes.length c6, .int .i64 D.root, .int .i64 D.next] 35)) D a6 c6) := h6.below (below_one _ _)
  have Z7 : Hid ((w6.alloc (.cells #[.slice a6 D.nodes.length c6, .int .i64 D.root, .int .i64 D.next] 35)).heap[w6.heap.size]? = some (.cells #[.slice a6 D.nodes.length c6, .int .i64 D.root, .int .i64 D.next] 35 (0, 0))) := heap_alloc_new _ _
  clear hb6 h6 x0 x1 x2 x3 x4
  obtain ⟨s0, s1, s2⟩ := three ((B7.out.block _ (lt_of_block Z5.out)).trans Z5.out)
  obtain ⟨r0, r1, r2⟩ := three Z7.out
  go_wp2_with fail
  generalize w6.alloc (.cells #[.slice a6 D.nodes.length c6, .int .i64 D.root, .int .i64 D.next] 35) = w7 at *
  generalize w6.heap.size = b6 at *
  have BW7 : Hid (Below w.heap.size w w7) := nxt (nxt B3.out B5.out) B7.out
  refine (alikeD_any D a4 a6 c4 c6 w7 (H5.out.below B7.out) H7.out).mono ?_
  rintro e w8 ⟨rfl, hb8⟩
  have B8 : Hid (Below w.heap.size w w8) := nxt BW7.out hb8
  have X8 : Hid (w8.heap[w.heap.size]? = some (.cells #[.string g, .string k, .string t, .slice aa al ac, .slice ia il ic] 25 (0, 0))) := ((nxt B7.out hb8).block _ (lt_of_block X5.out)).trans X5.out
  have Y8 : Hid (w8.heap[b2]? = some (.cells #[.string g2, .string k2, .string t2, .slice aa2 al2 ac2, .slice ia2 il2 ic2] 25 (0, 0))) := ((nxt B7.out hb8).block _ (lt_of_block Y5.out)).trans Y5.out
  have Z8 : Hid (w8.heap[b4]? = some (.cells #[.slice a4 D.nodes.length c4, .int .i64 D.root, .int .i64 D.next] 29 (0, 0))) := ((nxt B7.out hb8).block _ (lt_of_block Z5.out)).trans Z5.out
  have H8 : Hid (DsIs w8 D a4 c4) := H5.out.below (nxt B7.out hb8)
  have LY8 : Hid (LayT w8 n (mkT g2 k2 t2 aa2 al2 ac2 ia2 il2 ic2) v) := LayT.below n LY.out (nxt (nxt B5.out B7.out) hb8)
  clear hb8 s0 s1 s2 r0 r1 r2 X3 X5 Y3 Y5 Z5 Z7 H5 H7 LY B3 B5 B7 BW7
  go_wp2_with fail
  refine (numD_any _ _).mono ?_
  rintro e w9 ⟨rfl, h9⟩
  subst w9
  obtain ⟨x0, x1, x2, x3, x4⟩ := (five X8.out).1
  obtain ⟨y0, y1, y2, y3, y4⟩ := (five Y8.out).1
  have gee : (er != er) = false := by simp
  go_wp2_with fail
  have HSA : Hid (Calls Try.prog 12 #[mkT g2 k2 t2 aa2 al2 ac2 ia2 il2 ic2, mkT g k t aa al ac ia il ic] w8 fun e w' => e = .returned (.bool true) ∧ Below w8.heap.size w8 w') := by
    have := sameT_any n v v _ _ w8 LY8.out (LayT.below n HV.out B8.out)
    rwa [one_true rfl] at this
  refine HSA.out.mono ?_
  rintro e w10 ⟨rfl, hb10⟩
  have B10 : Hid (Below w.heap.size w w10) := nxt B8.out hb10
  have X10 : Hid (w10.heap[w.heap.size]? = some (.cells #[.string g, .string k, .string t, .slice aa al ac, .slice ia il ic] 25 (0, 0))) := (hb10.block _ (lt_of_block X8.out)).trans X8.out
  have Z10 : Hid (w10.heap[b4]? = some (.cells #[.slice a4 D.nodes.length c4, .int .i64 D.root, .int .i64 D.next] 29 (0, 0))) := (hb10.block _ (lt_of_block Z8.out)).trans Z8.out
  have H10 : Hid (DsIs w10 D a4 c4) := H8.out.below hb10
  clear hb10 HSA x0 x1 x2 x3 x4 y0 y1 y2 y3 y4 X8 Y8 Z8 H8 LY8 B8 gee
  by_cases he : er = 0
  · have hs0 : (sizeT v).1 = 0 := by
      rcases Classical.em ((sizeT v).1 = 0) with h | h
      · exact h
      · have h1 := HDE.out.2
        unfold buildD at h1
        rw [if_neg h] at h1
        exact absurd (h1.symm.trans he) h
    obtain ⟨-, -, u, hu, hue⟩ := built_ok hs0
    have hDD : D = ⟨bl 0 1 v, 1, 1 + (ct v : Int)⟩ := by
      have h1 := HDE.out.1
      unfold buildD at h1
      rw [if_pos hs0] at h1
      exact h1
    have HTR : Hid (treeD D = (0, some u) ∧ Do.er u = Do.er v) := ⟨by rw [hDD]; exact hu, hue⟩
    have HTA : Hid (Calls Try.prog 13 #[.agg #[.slice a4 D.nodes.length c4, .int .i64 D.root, .int .i64 D.next]] w10 fun e w' => ∃ y F, e = .returned (.tuple #[y, .int .i64 0]) ∧ OwnT w' 8 y u F ∧ (∀ b, F b → w10.heap.size ≤ b ∧ b < w'.heap.size) ∧ Below w10.heap.size w10 w') := by
      have := tree_any D a4 c4 w10 H10.out
      rw [HTR.out.1] at this
      exact this
    subst he
    obtain ⟨s0, s1, s2⟩ := three Z10.out
    clear hDD hu hue hs0
    go_wp2_with fail
    refine HTA.out.mono ?_
    rintro e w11 ⟨y, F, rfl, hy, -, hb11⟩
    have hyl := OwnT.lay 8 hy
    obtain ⟨g5, k5, t5, aa5, al5, ac5, ia5, il5, ic5, hy5⟩ := lay_shape 8 hyl
    subst hy5
    have B12 : Hid (Below w10.heap.size w10 (w11.alloc (.cells #[.string g5, .string k5, .string t5, .slice aa5 al5 ac5, .slice ia5 il5 ic5] 25))) := nxt hb11 (below_one _ _)
    have Y12 : Hid ((w11.alloc (.cells #[.string g5, .string k5, .string t5, .slice aa5 al5 ac5, .slice ia5 il5 ic5] 25)).heap[w11.heap.size]? = some (.cells #[.string g5, .string k5, .string t5, .slice aa5 al5 ac5, .slice ia5 il5 ic5] 25 (0, 0))) := heap_alloc_new _ _
    have L12 : Hid (LayT (w11.alloc (.cells #[.string g5, .string k5, .string t5, .slice aa5 al5 ac5, .slice ia5 il5 ic5] 25)) 8 (mkT g5 k5 t5 aa5 al5 ac5 ia5 il5 ic5) u) := LayT.below 8 hyl (below_one _ _)
    clear hy hyl hb11 HTA s0 s1 s2
    go_wp2_with fail
    generalize w11.alloc (.cells #[.string g5, .string k5, .string t5, .slice aa5 al5 ac5, .slice ia5 il5 ic5] 25) = w12 at *
    generalize w11.heap.size = b11 at *
    refine (numD_any _ _).mono ?_
    rintro e w9 ⟨rfl, h9⟩
    subst w9
    have X12 : Hid (w12.heap[w.heap.size]? = _) := (B12.out.block _ (lt_of_block X10.out)).trans X10.out
    obtain ⟨x0, x1, x2, x3, x4⟩ := (five X12.out).1
    obtain ⟨y0, y1, y2, y3, y4⟩ := (five Y12.out).1
    go_wp2_with fail
    have HSA : Hid (Calls Try.prog 12 #[mkT g5 k5 t5 aa5 al5 ac5 ia5 il5 ic5, mkT g k t aa al ac ia il ic] w12 fun e w' => e = .returned (.bool true) ∧ Below w12.heap.size w12 w') := by
      obtain ⟨d, tt, ht1, ht2⟩ := lay_both L12.out (LayT.below n HV.out (nxt B10.out B12.out)) HTR.out.2
      have := sameT_any d tt tt _ _ w12 ht1 ht2
      rwa [one_true rfl] at this
    refine HSA.out.mono ?_
    rintro e w13 ⟨rfl, hb13⟩
    have B13 : Hid (Below w.heap.size w w13) := nxt (nxt B10.out B12.out) hb13
    clear x0 x1 x2 x3 x4 y0 y1 y2 y3 y4 HSA hb13
    go_wp2_with fail
    refine (aliveD_any _).mono ?_
    rintro e w14 ⟨rfl, hb14⟩
    go_wp2_with fail
    go_ret
    exact ⟨rfl, nxt B13.out hb14⟩
  · have ge : (er == 0) = false := by simpa using he
    clear he
    go_wp2_with fail
    refine (aliveD_any _).mono ?_
    rintro e w14 ⟨rfl, hb14⟩
    go_wp2_with fail
    go_ret
    exact ⟨rfl, nxt B10.out hb14⟩

set_option maxRecDepth 100000 in
set_option maxHeartbeats 1600000 in
theorem lifted (os : Os) (started : os.Started) (H : Type) (enc : TypeId × Value → H) :
    ReturnsInHanded {} Try.checked os 3 .any (Rows.domBuildsSpec.pre6 enc Try.prog Try.f3 Rows.domBuildsRow.domain false) (Rows.domBuildsSpec.post enc Try.prog Try.f3 false true false false) := by
  refine returnsInHanded_of_change_sized (C := Try.checked) Try.own started (by kernel_rfl) Try.func3
    (ChangeSpec.witness6 (enc := enc) (C := Try.checked) false ⟨#[], #[.agg #[.string ⟨#[]⟩, .string ⟨#[]⟩, .string ⟨#[]⟩, .slice none 0 0, .slice none 0 0]], []⟩ 8 (by kernel_rfl) (by kernel_rfl) (by kernel_rfl) (by kernel_rfl)) ?_
  intro W base args ds gs before hval0 hW _ hsz0 _
  have hsz : (DataW.weightsEach Try.prog (Try.f3.params.toList ++ Rows.domBuildsSpec.plain.varTypes Try.prog) (ds ++ gs)).all (· ≤ reachBytes) = true := hsz0
  have hval : ∀ (j : Nat) t v, Try.f3.params[j]? = some t → args[j]? = some v → Value.okWide Try.prog W .any base t v := hval0
  have hW' := hW
  obtain ⟨p, q, hA0, hV, rfl, hfz, hnd⟩ := hW
  have hA : DataW.TrodAll enc Try.prog W 0 (fun _ => true) true Try.f3.params.toList args.toList ds p := hA0
  rw [Try.params3] at hA hval hsz
  obtain ⟨v0, vs0, d0, ds0, p0, q0, hargs, rfl, rfl, h0, r0⟩ := trodAll_cons hA
  obtain ⟨rfl, rfl, rfl⟩ := trodAll_nil r0
  obtain rfl : args = #[v0] := by cases args; simp_all
  obtain ⟨rfl, rfl⟩ := trodVars_none hV
  clear hA0 hval0
  simp only [List.append_nil] at hW' hsz
  have hlt : ∀ x ∈ p0, x.block < W.heap.size := fun x hx => hW'.lt x (by simpa using hx)
  have hall : ∀ x ∈ DataW.weightsEach Try.prog [25] [d0], x ≤ reachBytes := fun x hx => of_decide_eq_true (List.all_eq_true.1 hsz x hx)
  have g0 : ∀ x ∈ d0.weights Try.prog 25, x ≤ reachBytes := fun x hx => hall x (DataW.weights_mem_each (j := 0) rfl rfl x hx)
  obtain ⟨u0, l0⟩ := tree_of_arg (k := SizeOf.sizeOf d0) (hval 0 _ v0 rfl rfl) h0 (by omega) g0
  refine (walk _ u0 v0 W l0).mono fun e W' ⟨he, bel⟩ => ?_
  subst he
  exact ⟨_, rfl, _, _, _, [], _, [], hW', trodAll_mk1 (shut_bool Try.underlying4 _), (trodAll_cons_mk (Below.trod Try.laidOut (by kernel_rfl) (of_decide_eq_true (by kernel_rfl)) h0 bel (fun x hx => hlt x (by simp [hx]))) trodAll_mk0), rfl, bel.frame _, fun h => by cases h⟩

theorem over : Rows.domBuildsRow.holds Try.pinned (OpenSpec.ofChange Rows.domBuildsSpec) :=
  OpenClaim.holds_of_wide 3 Try.f3 rfl rfl rfl rfl rfl rfl rfl ⟨rfl, rfl, rfl, rfl, rfl⟩ rfl rfl rfl rfl rfl (by kernel_rfl) Try.func3 (by kernel_rfl)
    (of_decide_eq_true (by kernel_rfl)) (by unfold Func.isWrapper; first | (rw [if_pos (by decide +kernel)]; kernel_rfl) | (rw [if_neg (by decide +kernel)]; exact ⟨rfl, rfl⟩))
    (fun os started H enc _ => lifted os started H enc)

/-- THE STATEMENT. -/
theorem proved : Rows.DomBuildsSaid := over
#print axioms proved
end domBuilds
end Go.Proofs.Ytomhfndjnbhliaa
