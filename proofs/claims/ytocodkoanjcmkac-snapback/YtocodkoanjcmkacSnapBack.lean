/-
  SnapBack holds for every snapshot: a snapshot comes back from its slot, and the slot is built again of it; one that may not be has none. No condition.
-/
import Derived.Test.YtocodkoanjcmkacSnLaw
namespace Go.Proofs.Ytocodkoanjcmkac.snapBack
open Go.ChangeShapes Go.WideShapes Go.ChangeAt Go.RowKit Go.Deep
open Se

set_option maxRecDepth 100000 in
set_option maxHeartbeats 6400000 in
theorem walk (s : Sn) (x : Value) (w : World) (hs : SnIs w x s) :
    Calls Try.prog 4 #[x] w fun e w' => e = .returned (.bool true) ∧ Below w.heap.size w w' := by
  obtain ⟨e, q, d⟩ := s
  obtain ⟨a, c, rfl, hkb, ho, hdl⟩ := hs
  simp only at hkb ho hdl ⊢
  have HO : Hid (Oct w a c d) := ho
  clear ho
  have X0 : Hid ((w.alloc (.cells #[.int .i64 e, .int .i64 q, .slice a d.length c] 24)).heap[w.heap.size]? = some (.cells #[.int .i64 e, .int .i64 q, .slice a d.length c] 24 (0, 0))) := heap_alloc_new _ _
  have B0 : Hid (Below w.heap.size w (w.alloc (.cells #[.int .i64 e, .int .i64 q, .slice a d.length c] 24))) := below_one _ _
  go_enter Try.func4, Try.ntmps4
  go_wp2_with fail
  refine (alive_any _).mono ?_
  rintro y w1 ⟨rfl, hb1⟩
  have X1 : Hid (w1.heap[w.heap.size]? = some (.cells #[.int .i64 e, .int .i64 q, .slice a d.length c] 24 (0, 0))) := (hb1.block _ (lt_of_block X0.out)).trans X0.out
  have B1 : Hid (Below w.heap.size w w1) := nxt B0.out hb1
  clear hb1 X0 B0
  obtain ⟨x0, -⟩ := cell_of X1.out 0
  obtain ⟨x1, -⟩ := cell_of X1.out 1
  obtain ⟨x2, -⟩ := cell_of X1.out 2
  simp at x0 x1 x2
  go_wp2_with fail
  refine (of_any e q a c d w1 (HO.out.below B1.out) hdl).mono ?_
  rintro y w2 ⟨s2, rfl, hs2, hb2⟩
  obtain ⟨a2, c2, rfl⟩ := hs2.shape
  have O2 : Hid (Oct w2 a2 c2 d) := hs2.oct (by omega)
  have X2 : Hid (w2.heap[w.heap.size]? = some (.cells #[.int .i64 e, .int .i64 q, .slice a d.length c] 24 (0, 0))) := (hb2.block _ (lt_of_block X1.out)).trans X1.out
  have B2 : Hid (Below w.heap.size w w2) := nxt B1.out hb2
  clear hs2 hb2 X1 B1 x0 x1 x2
  go_wp2_with fail
  by_cases hck : chkS e q d.length = 0
  · refine (encode_ok O2.out hck).mono ?_
    rintro y w3 ⟨a3, c3, rfl, hs3, hb3⟩
    have HDS : Hid (decR (slotO e q d) = (0, e, q, d)) := dec_slot hck
    have HLS : Hid ((slotO e q d).length = 8160) := slotO_length (chk_ok hck).2.2
    have HCK : Hid (chkS e q d.length = 0) := hck
    clear hck
    obtain ⟨S, hS⟩ : ∃ S, slotO e q d = S := ⟨_, rfl⟩
    have HS : Hid (slotO e q d = S) := hS
    rw [hS] at hs3 HDS HLS
    clear hS
    have S3 : Hid (Bs w3 w2.heap.size (.slice a3 8160 c3) S) := hs3
    have X3 : Hid (w3.heap[w.heap.size]? = some (.cells #[.int .i64 e, .int .i64 q, .slice a d.length c] 24 (0, 0))) := (hb3.block _ (lt_of_block X2.out)).trans X2.out
    have B3 : Hid (Below w.heap.size w w3) := nxt B2.out hb3
    clear hs3 hb3 X2 B2 O2
    have HD3 : Hid (Calls Try.prog 12 #[.slice a3 8160 c3] w3 (DecPost w3 (0, e, q, d))) := by
      have := decode_any a3 c3 S w3 (S3.out.oct (by rw [HLS.out]; omega))
      rw [HDS.out, HLS.out] at this
      exact this
    go_wp2_with (go_at_call 17; refine (num_any _ _).mono ?_; rintro y w4 ⟨rfl, hw4⟩; subst w4)
    refine HD3.out.mono ?_
    rintro y w4 ⟨a4, c4, rfl, ho4, -, hb4⟩
    simp only at ho4 ⊢
    have O5 : Hid (Oct (w4.alloc (.cells #[.int .i64 e, .int .i64 q, .slice a4 d.length c4] 25)) a4 c4 d) := ho4.below (below_one _ _)
    have S5 : Hid (Bs (w4.alloc (.cells #[.int .i64 e, .int .i64 q, .slice a4 d.length c4] 25)) w2.heap.size (.slice a3 8160 c3) S) := (S3.out.below hb4).below (below_one _ _)
    have X5 : Hid ((w4.alloc (.cells #[.int .i64 e, .int .i64 q, .slice a4 d.length c4] 25)).heap[w.heap.size]? = some (.cells #[.int .i64 e, .int .i64 q, .slice a d.length c] 24 (0, 0))) := ((nxt hb4 (below_one _ _)).block _ (lt_of_block X3.out)).trans X3.out
    have Y5 : Hid ((w4.alloc (.cells #[.int .i64 e, .int .i64 q, .slice a4 d.length c4] 25)).heap[w4.heap.size]? = some (.cells #[.int .i64 e, .int .i64 q, .slice a4 d.length c4] 25 (0, 0))) := heap_alloc_new _ _
    have B5 : Hid (Below w.heap.size w (w4.alloc (.cells #[.int .i64 e, .int .i64 q, .slice a4 d.length c4] 25))) := nxt (nxt B3.out hb4) (below_one _ _)
    clear ho4 hb4 S3 X3 B3 HD3
    go_upto_region 7 with fail
    generalize w4.alloc (.cells #[.int .i64 e, .int .i64 q, .slice a4 d.length c4] 25) = w5 at *
    generalize w4.heap.size = gt at *
    obtain ⟨y0, -⟩ := cell_of Y5.out 0
    obtain ⟨y1, -⟩ := cell_of Y5.out 1
    obtain ⟨y2, -⟩ := cell_of Y5.out 2
    simp at y0 y1 y2
    go_wp2_with fail
    have HE5 := encode_ok O5.out HCK.out
    rw [HS.out] at HE5
    refine HE5.mono ?_
    rintro y w6 ⟨a6, c6, rfl, hs6, hb6⟩
    have S6 : Hid (Bs w6 w5.heap.size (.slice a6 8160 c6) S) := hs6
    have T6 : Hid (Bs w6 w2.heap.size (.slice a3 8160 c3) S) := S5.out.below hb6
    have O6 : Hid (Oct w6 a4 c4 d) := O5.out.below hb6
    have X6 : Hid (w6.heap[w.heap.size]? = some (.cells #[.int .i64 e, .int .i64 q, .slice a d.length c] 24 (0, 0))) := (hb6.block _ (lt_of_block X5.out)).trans X5.out
    have Y6 : Hid (w6.heap[gt]? = some (.cells #[.int .i64 e, .int .i64 q, .slice a4 d.length c4] 25 (0, 0))) := (hb6.block _ (lt_of_block Y5.out)).trans Y5.out
    have B6 : Hid (Below w.heap.size w w6) := nxt B5.out hb6
    clear hs6 hb6 S5 O5 X5 Y5 B5 y0 y1 y2 HE5
    obtain ⟨y0, -⟩ := cell_of Y6.out 0
    obtain ⟨y1, -⟩ := cell_of Y6.out 1
    obtain ⟨y2, -⟩ := cell_of Y6.out 2
    obtain ⟨x0, -⟩ := cell_of X6.out 0
    obtain ⟨x1, -⟩ := cell_of X6.out 1
    obtain ⟨x2, -⟩ := cell_of X6.out 2
    simp at y0 y1 y2 x0 x1 x2
    go_wp2_with (go_at_call 17; refine (num_any _ _).mono ?_; rintro y w7 ⟨rfl, hw7⟩; subst w7)
    have CS := same_any e q e q a4 a c4 c d d w6 O6.out.1 (HO.out.below B6.out).1
    simp only [beq_self_eq_true, Bool.and_self] at CS
    refine CS.mono ?_
    rintro y w7 ⟨rfl, hb7⟩
    have S7 : Hid (Bs w7 w5.heap.size (.slice a6 8160 c6) S) := S6.out.below hb7
    have T7 : Hid (Bs w7 w2.heap.size (.slice a3 8160 c3) S) := T6.out.below hb7
    have B7 : Hid (Below w.heap.size w w7) := nxt B6.out hb7
    clear hb7 CS S6 T6 O6 X6 Y6 B6 x0 x1 x2 y0 y1 y2
    go_wp2_with fail
    have CB := sameB_any S S a3 a6 c3 c6 w7 T7.out.lay S7.out.lay
    rw [HLS.out] at CB
    simp only [beq_self_eq_true] at CB
    refine CB.mono ?_
    rintro y w8 ⟨rfl, hw8⟩
    subst w8
    go_wp2_with fail
    go_ret
    exact ⟨rfl, B7.out⟩
  · have HE := encode_any e q a2 c2 d w2 O2.out
    rw [enc_bad hck] at HE
    have hne : (chkS e q d.length == 0) = false := by simpa using hck
    have hne' : (chkS e q d.length != 0) = true := by simpa using hck
    have HRC : Hid (∀ W, Calls Try.prog 20 #[.agg #[.int .i64 e, .int .i64 q, .slice a d.length c]] W fun x w' => x = .returned (.int .i64 (chkS e q d.length)) ∧ Below W.heap.size W w') := fun W => rcheck_any e q a d.length c W
    clear hck
    generalize chkS e q d.length = ck at *
    refine HE.mono ?_
    rintro y w3 ⟨s3, rfl, hs3, hb3⟩
    obtain ⟨a3, c3, rfl⟩ := hs3.shape
    have X3 : Hid (w3.heap[w.heap.size]? = some (.cells #[.int .i64 e, .int .i64 q, .slice a d.length c] 24 (0, 0))) := (hb3.block _ (lt_of_block X2.out)).trans X2.out
    have B3 : Hid (Below w.heap.size w w3) := nxt B2.out hb3
    clear hs3 hb3 X2 B2 O2 HE
    obtain ⟨x0, -⟩ := cell_of X3.out 0
    obtain ⟨x1, -⟩ := cell_of X3.out 1
    obtain ⟨x2, -⟩ := cell_of X3.out 2
    simp at x0 x1 x2
    go_wp2_with (go_at_call 17; refine (num_any _ _).mono ?_; rintro y w4 ⟨rfl, hw4⟩; subst w4)
    refine (HRC.out _).mono ?_
    rintro y w4 ⟨rfl, hb4⟩
    have B4 : Hid (Below w.heap.size w w4) := nxt B3.out hb4
    clear hb4 x0 x1 x2 X3 B3
    go_wp2_with fail
    go_ret
    exact ⟨rfl, B4.out⟩

set_option maxRecDepth 100000 in
set_option maxHeartbeats 1600000 in
theorem lifted (os : Os) (started : os.Started) (H : Type) (enc : TypeId × Value → H) :
    ReturnsInHanded {} Try.checked os 4 .any (Rows.snapBackSpec.pre6 enc Try.prog Try.f4 Rows.snapBackRow.domain false) (Rows.snapBackSpec.post enc Try.prog Try.f4 false true false false) := by
  refine returnsInHanded_of_change_sized (C := Try.checked) Try.own started (by kernel_rfl) Try.func4
    (ChangeSpec.witness6 (enc := enc) (C := Try.checked) false ⟨#[], #[.agg #[.int .i64 0, .int .i64 0, .slice none 0 0]], []⟩ 8 (by kernel_rfl) (by kernel_rfl) (by kernel_rfl) (by kernel_rfl)) ?_
  intro W base args ds gs before hval0 hW _ hsz0 _
  have hsz : (DataW.weightsEach Try.prog (Try.f4.params.toList ++ Rows.snapBackSpec.plain.varTypes Try.prog) (ds ++ gs)).all (· ≤ reachBytes) = true := hsz0
  have hval : ∀ (j : Nat) t v, Try.f4.params[j]? = some t → args[j]? = some v → Value.okWide Try.prog W .any base t v := hval0
  have hW' := hW
  obtain ⟨p, q, hA0, hV, rfl, hfz, hnd⟩ := hW
  have hA : DataW.TrodAll enc Try.prog W 0 (fun _ => true) true Try.f4.params.toList args.toList ds p := hA0
  rw [Try.params4] at hA hval hsz
  obtain ⟨v0, vs0, d0, ds0, p0, q0, hargs, rfl, rfl, h0, r0⟩ := trodAll_cons hA
  obtain ⟨rfl, rfl, rfl⟩ := trodAll_nil r0
  obtain rfl : args = #[v0] := by cases args; simp_all
  obtain ⟨rfl, rfl⟩ := trodVars_none hV
  clear hA0 hval0
  simp only [List.append_nil] at hW' hsz
  have hlt : ∀ x ∈ p0, x.block < W.heap.size := fun x hx => hW'.lt x (by simpa using hx)
  have hall : ∀ x ∈ DataW.weightsEach Try.prog [24] [d0], x ≤ reachBytes := fun x hx => of_decide_eq_true (List.all_eq_true.1 hsz x hx)
  have g0 : ∀ x ∈ d0.weights Try.prog 24, x ≤ reachBytes := fun x hx => hall x (DataW.weights_mem_each (j := 0) rfl rfl x hx)
  obtain ⟨u0, l0⟩ := sn_of_arg (hval 0 _ v0 rfl rfl) h0 g0
  refine (walk u0 v0 W l0).mono fun e W' ⟨he, bel⟩ => ?_
  subst he
  exact ⟨_, rfl, _, _, _, [], _, [], hW', trodAll_mk1 (shut_bool Try.underlying4 _), (trodAll_cons_mk (Below.trod Try.laidOut (by kernel_rfl) (of_decide_eq_true (by kernel_rfl)) h0 bel (fun x hx => hlt x (by simp [hx]))) trodAll_mk0), rfl, bel.frame _, fun h => by cases h⟩

theorem over : Rows.snapBackRow.holds Try.pinned (OpenSpec.ofChange Rows.snapBackSpec) :=
  OpenClaim.holds_of_wide 4 Try.f4 rfl rfl rfl rfl rfl rfl rfl ⟨rfl, rfl, rfl, rfl, rfl⟩ rfl rfl rfl rfl rfl (by kernel_rfl) Try.func4 (by kernel_rfl)
    (of_decide_eq_true (by kernel_rfl)) (by unfold Func.isWrapper; first | (rw [if_pos (by decide +kernel)]; kernel_rfl) | (rw [if_neg (by decide +kernel)]; exact ⟨rfl, rfl⟩))
    (fun os started H enc _ => lifted os started H enc)

/-- THE STATEMENT. -/
theorem proved : Rows.SnapBackSaid := over
#print axioms proved
end Go.Proofs.Ytocodkoanjcmkac.snapBack
