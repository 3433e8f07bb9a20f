/-
  SealOwn holds for every frame: what is answered is its holder's: it stays when what was handed in is written over. No condition.
-/
import Derived.Test.YtihncekjbmepoacSeBack
namespace Go.Proofs.Ytihncekjbmepoac.sealOwn
open Go.ChangeShapes Go.WideShapes Go.ChangeAt Go.RowKit Go.Deep
open Se

theorem kept_below {F : Nat → Prop} {w w' : World} {B : Nat} (h : Kept F w w') (hB : B ≤ w.heap.size) (hF : ∀ b, F b → B ≤ b) : Below B w w' := ⟨h.os, h.tape, h.output, h.size, fun k hk => h.block k (by omega) fun e => by have := hF k e; omega⟩

set_option maxRecDepth 100000 in
set_option maxHeartbeats 6400000 in
theorem walk (f : Int × List UInt8) (x : Value) (w : World) (hf : FrameIs w x f) :
    Calls Try.prog 7 #[x] w fun e w' => e = .returned (.bool true) ∧ Below w.heap.size w w' := by
  obtain ⟨k, d⟩ := f
  obtain ⟨a, c, rfl, hkb, ho, hdl⟩ := hf
  simp only at hkb ho hdl ⊢
  have HO : Hid (Oct w a c d) := ho
  clear ho
  go_enter Try.func7, Try.ntmps7
  go_wp2_with fail
  refine (alive_any _).mono ?_
  rintro e w1 ⟨rfl, hb1⟩
  have X1 : Hid (w1.heap[w.heap.size]? = some (.cells #[.int .i64 k, .slice a d.length c] 24 (0, 0))) := (hb1.block _ (by simp)).trans (heap_alloc_new _ _)
  have B1 : Hid (Below w.heap.size w w1) := nxt (below_one _ _) hb1
  clear hb1
  obtain ⟨x0, -⟩ := cell_of X1.out 0
  obtain ⟨x1, -⟩ := cell_of X1.out 1
  simp at x0 x1
  go_wp2_with fail
  refine (of_any k a c d w1 (HO.out.below B1.out) hdl).mono ?_
  rintro e w2 ⟨s2, rfl, hs2, hb2⟩
  obtain ⟨a2, c2, rfl⟩ := hs2.shape
  have bA := below_one w2 (.cells #[.int .i64 k, .slice a2 d.length c2] 25)
  have S3 : Hid (Bs (w2.alloc (.cells #[.int .i64 k, .slice a2 d.length c2] 25)) (w.heap.size + 1) (.slice a2 d.length c2) d) := (hs2.below bA).up fun g hg => by have := (hs2.base g hg).1; have := lt_of_block X1.out; omega
  have S3' : Hid (∀ g, (Value.slice a2 d.length c2).ownBlock = some g → g < w2.heap.size) := fun g hg => (hs2.base g hg).2
  have X3 : Hid ((w2.alloc (.cells #[.int .i64 k, .slice a2 d.length c2] 25)).heap[w.heap.size]? = some (.cells #[.int .i64 k, .slice a d.length c] 24 (0, 0))) := ((nxt hb2 bA).block _ (lt_of_block X1.out)).trans X1.out
  have Y3 : Hid ((w2.alloc (.cells #[.int .i64 k, .slice a2 d.length c2] 25)).heap[w2.heap.size]? = some (.cells #[.int .i64 k, .slice a2 d.length c2] 25 (0, 0))) := heap_alloc_new _ _
  have B3 : Hid (Below w.heap.size w (w2.alloc (.cells #[.int .i64 k, .slice a2 d.length c2] 25))) := nxt (nxt B1.out hb2) bA
  have hw12 : w.heap.size < w2.heap.size := by have := lt_of_block X1.out; have := hb2.size; omega
  clear hs2 hb2 bA X1 B1 x0 x1
  go_upto_region 4 with fail
  generalize w2.alloc (.cells #[.int .i64 k, .slice a2 d.length c2] 25) = w3 at *
  generalize hg2 : w2.heap.size = g2 at *
  clear hg2
  obtain ⟨y0, -⟩ := cell_of Y3.out 0
  obtain ⟨y1, -⟩ := cell_of Y3.out 1
  simp at y0 y1
  go_wp2_with fail
  have HP := put_any k a2 c2 d w3 (S3.out.oct (by omega))
  by_cases hgood : (1 ≤ k ∧ k ≤ 255) ∧ d.length ≤ 65536
  · rw [put_ok hgood.1 hgood.2] at HP
    simp only at HP
    refine HP.mono ?_
    rintro e w4 ⟨s4, rfl, hs4, hb4⟩
    have HGP : Hid (getR (frame k d) = (0, k, d, (frame k d).length)) := by have := get_put hgood.1 hgood.2 []; rwa [List.append_nil] at this
    have hfl := frame_length k d
    have hlf : (frame k d).length ≤ 100000 := by omega
    obtain ⟨a4, c4, rfl⟩ := hs4.shape
    have S4 : Hid (Bs w4 w3.heap.size (.slice a4 (frame k d).length c4) (frame k d)) := hs4
    have D4 : Hid (Bs w4 (w.heap.size + 1) (.slice a2 d.length c2) d) := S3.out.below hb4
    have X4 : Hid (w4.heap[w.heap.size]? = some (.cells #[.int .i64 k, .slice a d.length c] 24 (0, 0))) := (hb4.block _ (lt_of_block X3.out)).trans X3.out
    have Y4 : Hid (w4.heap[g2]? = some (.cells #[.int .i64 k, .slice a2 d.length c2] 25 (0, 0))) := (hb4.block _ (lt_of_block Y3.out)).trans Y3.out
    have B4 : Hid (Below w.heap.size w w4) := nxt B3.out hb4
    have HW : Hid (g2 < w3.heap.size) := lt_of_block Y3.out
    have H34 : Hid (w3.heap.size ≤ w4.heap.size) := hb4.size
    clear hs4 hb4 X3 Y3 B3 HP S3 hfl hgood y0 y1
    generalize frame k d = F at *
    obtain ⟨y0, -⟩ := cell_of Y4.out 0
    obtain ⟨y1, -⟩ := cell_of Y4.out 1
    simp at y0 y1
    go_wp2_with fail
    refine (num_any _ _).mono ?_
    rintro e w5 ⟨rfl, hw5⟩
    subst w5
    go_wp2_with fail
    refine (spoilB_any (w.heap.size + 1) _ d w4 D4.out hdl).mono ?_
    rintro e w5 ⟨rfl, hk5⟩
    have H35 : Hid (w3.heap.size ≤ w5.heap.size) := Nat.le_trans H34.out hk5.size
    have S5 : Hid (Bs w5 w3.heap.size (.slice a4 F.length c4) F) := ownsRow_same S4.out fun g hg => hk5.block g (S4.out.base g hg).2 fun e => by have h1 := (S4.out.base g hg).1; have h2 := S3'.out g e; have h3 := HW.out; omega
    have K5 : Below (w.heap.size + 1) w4 w5 := kept_below hk5 (by have := lt_of_block X4.out; omega) fun b e => (D4.out.base b e).1
    have X5 : Hid (w5.heap[w.heap.size]? = some (.cells #[.int .i64 k, .slice a d.length c] 24 (0, 0))) := (K5.block _ (by omega)).trans X4.out
    have B5 : Hid (Below w.heap.size w w5) := B4.out.trans (K5.mono (by omega))
    clear hk5 K5 X4 Y4 B4 S4 D4 y0 y1
    have HG : Hid (Calls Try.prog 12 #[.slice a4 F.length c4] w5 _) := get_any a4 c4 F w5 (S5.out.oct (by omega))
    rw [HGP.out] at HG
    go_wp2_with fail
    refine HG.out.mono ?_
    rintro e w6 ⟨s6, rfl, hs6, hb6⟩
    obtain ⟨a6, c6, rfl⟩ := hs6.shape
    have bA := below_one w6 (.cells #[.int .i64 k, .slice a6 d.length c6] 25)
    have S7 : Hid (Bs (w6.alloc (.cells #[.int .i64 k, .slice a6 d.length c6] 25)) w5.heap.size (.slice a6 d.length c6) d) := hs6.below bA
    have F7 : Hid (Bs (w6.alloc (.cells #[.int .i64 k, .slice a6 d.length c6] 25)) w3.heap.size (.slice a4 F.length c4) F) := (S5.out.below hb6).below bA
    have F7' : Hid (∀ g, (Value.slice a4 F.length c4).ownBlock = some g → g < w5.heap.size) := fun g hg => (S5.out.base g hg).2
    have X7 : Hid ((w6.alloc (.cells #[.int .i64 k, .slice a6 d.length c6] 25)).heap[w.heap.size]? = some (.cells #[.int .i64 k, .slice a d.length c] 24 (0, 0))) := ((nxt hb6 bA).block _ (lt_of_block X5.out)).trans X5.out
    have Y7 : Hid ((w6.alloc (.cells #[.int .i64 k, .slice a6 d.length c6] 25)).heap[w6.heap.size]? = some (.cells #[.int .i64 k, .slice a6 d.length c6] 25 (0, 0))) := heap_alloc_new _ _
    have B7 : Hid (Below w.heap.size w (w6.alloc (.cells #[.int .i64 k, .slice a6 d.length c6] 25))) := nxt (nxt B5.out hb6) bA
    have hw56 : w5.heap.size ≤ w6.heap.size := hb6.size
    clear hs6 hb6 bA X5 B5 HG HGP S5
    go_upto_region 9 with fail
    generalize w6.alloc (.cells #[.int .i64 k, .slice a6 d.length c6] 25) = w7 at *
    generalize hg6 : w6.heap.size = g6 at *
    clear hg6
    go_wp2_with fail
    refine (spoilB_any w3.heap.size _ F w7 F7.out (by omega)).mono ?_
    rintro e w8 ⟨rfl, hk8⟩
    have S8 : Hid (Bs w8 w5.heap.size (.slice a6 d.length c6) d) := ownsRow_same S7.out fun g hg => hk8.block g (S7.out.base g hg).2 fun e => by have h1 := (S7.out.base g hg).1; have h2 := F7'.out g e; omega
    have K8 : Below w3.heap.size w7 w8 := kept_below hk8 (by have h2 := lt_of_block Y7.out; have h3 := H35.out; omega) fun b e => (F7.out.base b e).1
    have X8 : Hid (w8.heap[w.heap.size]? = some (.cells #[.int .i64 k, .slice a d.length c] 24 (0, 0))) := (K8.block _ (by have := HW.out; omega)).trans X7.out
    have Y8 : Hid (w8.heap[g6]? = some (.cells #[.int .i64 k, .slice a6 d.length c6] 25 (0, 0))) := (hk8.block _ (lt_of_block Y7.out) fun e => by have h2 := F7'.out _ e; omega).trans Y7.out
    have B8 : Hid (Below w.heap.size w w8) := B7.out.trans (K8.mono (by have := HW.out; omega))
    clear hk8 K8 X7 Y7 B7 S7 F7
    obtain ⟨x0, -⟩ := cell_of X8.out 0
    obtain ⟨x1, -⟩ := cell_of X8.out 1
    obtain ⟨y0, -⟩ := cell_of Y8.out 0
    obtain ⟨y1, -⟩ := cell_of Y8.out 1
    simp at x0 x1 y0 y1
    go_wp2_with fail
    refine (num_any _ _).mono ?_
    rintro e w9 ⟨rfl, hw9⟩
    subst w9
    go_wp2_with fail
    have CS := same_any k k a6 a c6 c d d w8 S8.out.lay (HO.out.below B8.out).1
    simp only [beq_self_eq_true, Bool.and_self] at CS
    refine CS.mono ?_
    rintro e w9 ⟨rfl, hb9⟩
    have B9 : Hid (Below w.heap.size w w9) := nxt B8.out hb9
    clear hb9 CS
    go_wp2_with fail
    go_ret
    exact ⟨rfl, B9.out⟩
  · obtain ⟨hb1, hb2⟩ := put_bad hgood
    rw [hb2] at HP
    have hne : ((putR k d).1 == 0) = false := by simpa using hb1
    have hne' : ((putR k d).1 != 0) = true := by simpa using hb1
    clear hb1 hb2
    generalize (putR k d).1 = er at *
    refine HP.mono ?_
    rintro e w4 ⟨s4, rfl, hs4, hb4⟩
    obtain ⟨a4, c4, rfl⟩ := hs4.shape
    have B4 : Hid (Below w.heap.size w w4) := nxt B3.out hb4
    clear hs4 hb4 HP
    go_wp2_with fail
    refine (num_any _ _).mono ?_
    rintro e w5 ⟨rfl, hw5⟩
    subst w5
    go_wp2_with fail
    go_ret
    exact ⟨rfl, B4.out⟩

set_option maxRecDepth 100000 in
set_option maxHeartbeats 1600000 in
theorem lifted (os : Os) (started : os.Started) (H : Type) (enc : TypeId × Value → H) :
    ReturnsInHanded {} Try.checked os 7 .any (Rows.sealOwnSpec.pre6 enc Try.prog Try.f7 Rows.sealOwnRow.domain false) (Rows.sealOwnSpec.post enc Try.prog Try.f7 false true false false) := by
  refine returnsInHanded_of_change_sized (C := Try.checked) Try.own started (by kernel_rfl) Try.func7
    (ChangeSpec.witness6 (enc := enc) (C := Try.checked) false ⟨#[], #[.agg #[.int .i64 0, .slice none 0 0]], []⟩ 8 (by kernel_rfl) (by kernel_rfl) (by kernel_rfl) (by kernel_rfl)) ?_
  intro W base args ds gs before hval0 hW _ hsz0 _
  have hsz : (DataW.weightsEach Try.prog (Try.f7.params.toList ++ Rows.sealOwnSpec.plain.varTypes Try.prog) (ds ++ gs)).all (· ≤ reachBytes) = true := hsz0
  have hval : ∀ (j : Nat) t v, Try.f7.params[j]? = some t → args[j]? = some v → Value.okWide Try.prog W .any base t v := hval0
  have hW' := hW
  obtain ⟨p, q, hA0, hV, rfl, hfz, hnd⟩ := hW
  have hA : DataW.TrodAll enc Try.prog W 0 (fun _ => true) true Try.f7.params.toList args.toList ds p := hA0
  rw [Try.params7] at hA hval hsz
  obtain ⟨v0, vs0, d0, ds0, p0, q0, hargs, rfl, rfl, h0, r0⟩ := trodAll_cons hA
  obtain ⟨rfl, rfl, rfl⟩ := trodAll_nil r0
  obtain rfl : args = #[v0] := by cases args; simp_all
  obtain ⟨rfl, rfl⟩ := trodVars_none hV
  clear hA0 hval0
  simp only [List.append_nil] at hW' hsz
  have hlt : ∀ x ∈ p0, x.block < W.heap.size := fun x hx => hW'.lt x (by simpa using hx)
  have hall : ∀ x ∈ DataW.weightsEach Try.prog [24] [d0], x ≤ reachBytes := fun x hx => of_decide_eq_true (List.all_eq_true.1 hsz x hx)
  have g0 : ∀ x ∈ d0.weights Try.prog 24, x ≤ reachBytes := fun x hx => hall x (DataW.weights_mem_each (j := 0) rfl rfl x hx)
  obtain ⟨u0, l0⟩ := fr_of_arg (hval 0 _ v0 rfl rfl) h0 g0
  refine (walk u0 v0 W l0).mono fun e W' ⟨he, bel⟩ => ?_
  subst he
  exact ⟨_, rfl, _, _, _, [], _, [], hW', trodAll_mk1 (shut_bool Try.underlying4 _), (trodAll_cons_mk (Below.trod Try.laidOut (by kernel_rfl) (of_decide_eq_true (by kernel_rfl)) h0 bel (fun x hx => hlt x (by simp [hx]))) trodAll_mk0), rfl, bel.frame _, fun h => by cases h⟩

theorem over : Rows.sealOwnRow.holds Try.pinned (OpenSpec.ofChange Rows.sealOwnSpec) :=
  OpenClaim.holds_of_wide 7 Try.f7 rfl rfl rfl rfl rfl rfl rfl ⟨rfl, rfl, rfl, rfl, rfl⟩ rfl rfl rfl rfl rfl (by kernel_rfl) Try.func7 (by kernel_rfl)
    (of_decide_eq_true (by kernel_rfl)) (by unfold Func.isWrapper; first | (rw [if_pos (by decide +kernel)]; kernel_rfl) | (rw [if_neg (by decide +kernel)]; exact ⟨rfl, rfl⟩))
    (fun os started H enc _ => lifted os started H enc)

/-- THE STATEMENT. -/
theorem proved : Rows.SealOwnSaid := over
#print axioms proved
end Go.Proofs.Ytihncekjbmepoac.sealOwn
