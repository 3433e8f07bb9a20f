/-
  SealBack holds for every frame and all octets behind it: a frame comes back from its octets, whatever stands behind; one that may not be has none. No condition.
-/
import Derived.Test.YtihncekjbmepoacSeBack
namespace Go.Proofs.Ytihncekjbmepoac.sealBack
open Go.ChangeShapes Go.WideShapes Go.ChangeAt Go.RowKit Go.Deep
open Se

set_option maxRecDepth 100000 in
set_option maxHeartbeats 6400000 in
theorem walk (f : Int × List UInt8) (x : Value) (bs : List UInt8) (xb : Value) (w : World) (hf : FrameIs w x f) (hb : BytesIs w xb bs) :
    Calls Try.prog 6 #[x, xb] w fun e w' => e = .returned (.bool true) ∧ Below w.heap.size w w' := by
  obtain ⟨k, d⟩ := f
  obtain ⟨a, c, rfl, hkb, ho, hdl⟩ := hf
  obtain ⟨ba, bc, rfl, hbo, hbl⟩ := hb
  simp only at hkb ho hdl ⊢
  have HO : Hid (Oct w a c d) := ho
  have HB : Hid (Oct w ba bc bs) := hbo
  clear ho hbo
  go_enter Try.func6, Try.ntmps6
  go_wp2_with fail
  refine (alive_any _).mono ?_
  rintro e w1 ⟨rfl, hb1⟩
  have X1 : Hid (w1.heap[w.heap.size]? = some (.cells #[.int .i64 k, .slice a d.length c] 24 (0, 0))) := (hb1.block _ (by simp)).trans (heap_alloc_new _ _)
  have B1 : Hid (Below w.heap.size w w1) := nxt (below_one _ _) hb1
  clear hb1
  obtain ⟨x0, -⟩ := cell_of X1.out 0
  obtain ⟨x1, -⟩ := cell_of X1.out 1
  simp at x0 x1
  go_wp2_with fail
  refine (of_any k a c d w1 (HO.out.below B1.out) hdl).mono ?_
  rintro e w2 ⟨s2, rfl, hs2, hb2⟩
  obtain ⟨a2, c2, rfl⟩ := hs2.shape
  have O2 : Hid (Oct w2 a2 c2 d) := hs2.oct (by omega)
  have X2 : Hid (w2.heap[w.heap.size]? = some (.cells #[.int .i64 k, .slice a d.length c] 24 (0, 0))) := (hb2.block _ (lt_of_block X1.out)).trans X1.out
  have B2 : Hid (Below w.heap.size w w2) := nxt B1.out hb2
  clear hs2 hb2 X1 B1 x0 x1
  go_wp2_with fail
  have HP := put_any k a2 c2 d w2 O2.out
  by_cases hgood : (1 ≤ k ∧ k ≤ 255) ∧ d.length ≤ 65536
  · rw [put_ok hgood.1 hgood.2] at HP
    simp only at HP
    refine HP.mono ?_
    rintro e w3 ⟨s3, rfl, hs3, hb3⟩
    have HGP : Hid (getR (frame k d ++ bs) = (0, k, d, (frame k d).length)) := get_put hgood.1 hgood.2 bs
    have hfl := frame_length k d
    obtain ⟨a3, c3, rfl⟩ := hs3.shape
    have O3 : Hid (Oct w3 a3 c3 (frame k d)) := hs3.oct (by omega)
    have X3 : Hid (w3.heap[w.heap.size]? = some (.cells #[.int .i64 k, .slice a d.length c] 24 (0, 0))) := (hb3.block _ (lt_of_block X2.out)).trans X2.out
    have B3 : Hid (Below w.heap.size w w3) := nxt B2.out hb3
    have hlf : (frame k d).length ≤ 100000 := by omega
    clear hs3 hb3 X2 B2 HP O2 hfl hgood
    generalize frame k d = F at *
    go_wp2_with fail
    refine (num_any _ _).mono ?_
    rintro e w4 ⟨rfl, hw4⟩
    subst w4
    go_wp2_with fail
    refine (copyB_any a3 c3 F w3 O3.out (by omega)).mono ?_
    rintro e w4 ⟨s4, rfl, hs4, hb4⟩
    have S4 : Hid (Bs w4 w3.heap.size s4 F) := hs4
    have X4 : Hid (w4.heap[w.heap.size]? = some (.cells #[.int .i64 k, .slice a d.length c] 24 (0, 0))) := (hb4.block _ (lt_of_block X3.out)).trans X3.out
    have B4 : Hid (Below w.heap.size w w4) := nxt B3.out hb4
    have hw34 : w.heap.size < w3.heap.size ∧ w3.heap.size ≤ w4.heap.size := ⟨lt_of_block X3.out, hb4.size⟩
    have HW : Hid (w.heap.size < w3.heap.size ∧ w3.heap.size ≤ w4.heap.size) := hw34
    clear hs4 hb4 X3 B3 O3 hw34
    go_wp2_with (at_builtin; refine wpList_appL _ rfl _ _ rfl w3.heap.size _ F bs rfl S4.out ba bc rfl (HB.out.below B4.out) ?d0 HW.out.2 ?_)
    case d0 => omega
    intro s5 w5 hs5 hr5
    obtain ⟨a5, c5, rfl⟩ := hs5.shape
    have O5 : Hid (Oct w5 a5 c5 (F ++ bs)) := hs5.oct (by rw [List.length_append]; omega)
    have B45 : Below w3.heap.size w4 w5 := hr5.below HW.out.2 fun g hg => (S4.out.base g hg).1
    have X5 : Hid (w5.heap[w.heap.size]? = some (.cells #[.int .i64 k, .slice a d.length c] 24 (0, 0))) := (B45.block _ HW.out.1).trans X4.out
    have B5 : Hid (Below w.heap.size w w5) := B4.out.trans (B45.mono (by have := HW.out.1; omega))
    have HG : Hid (Calls Try.prog 12 #[.slice a5 (F ++ bs).length c5] w5 _) := get_any a5 c5 (F ++ bs) w5 O5.out
    rw [HGP.out] at HG
    clear hs5 hr5 B45 X4 B4 S4 O5 HW
    generalize (F ++ bs).length = l5 at *
    go_wp2_with fail
    refine HG.out.mono ?_
    rintro e w6 ⟨s6, rfl, hs6, hb6⟩
    obtain ⟨a6, c6, rfl⟩ := hs6.shape
    have L6 : Hid (LayB w6 a6 d) := hs6.lay
    have X6 : Hid (w6.heap[w.heap.size]? = some (.cells #[.int .i64 k, .slice a d.length c] 24 (0, 0))) := (hb6.block _ (lt_of_block X5.out)).trans X5.out
    have B6 : Hid (Below w.heap.size w w6) := nxt B5.out hb6
    clear hs6 hb6 X5 B5 HG HGP
    go_wp2_with fail
    refine (num_any _ _).mono ?_
    rintro e w7 ⟨rfl, hw7⟩
    subst w7
    have X7 : Hid ((w6.alloc (.cells #[.int .i64 k, .slice a6 d.length c6] 25)).heap[w.heap.size]? = some (.cells #[.int .i64 k, .slice a d.length c] 24 (0, 0))) := ((below_one w6 _).block _ (lt_of_block X6.out)).trans X6.out
    have Y7 : Hid ((w6.alloc (.cells #[.int .i64 k, .slice a6 d.length c6] 25)).heap[w6.heap.size]? = some (.cells #[.int .i64 k, .slice a6 d.length c6] 25 (0, 0))) := heap_alloc_new _ _
    have B7 : Hid (Below w6.heap.size w6 (w6.alloc (.cells #[.int .i64 k, .slice a6 d.length c6] 25))) := below_one _ _
    generalize w6.alloc (.cells #[.int .i64 k, .slice a6 d.length c6] 25) = w7 at *
    obtain ⟨x0, -⟩ := cell_of X7.out 0
    obtain ⟨x1, -⟩ := cell_of X7.out 1
    obtain ⟨y0, -⟩ := cell_of Y7.out 0
    obtain ⟨y1, -⟩ := cell_of Y7.out 1
    simp at x0 x1 y0 y1
    go_wp2_with fail
    have CS := same_any k k a6 a c6 c d d w7 (L6.out.below B7.out) (HO.out.below (nxt B6.out B7.out)).1
    simp only [beq_self_eq_true, Bool.and_self] at CS
    refine CS.mono ?_
    rintro e w8 ⟨rfl, hb8⟩
    have B8 : Hid (Below w.heap.size w w8) := nxt (nxt B6.out B7.out) hb8
    clear hb8 CS
    go_wp2_with fail
    go_ret
    exact ⟨rfl, B8.out⟩
  · obtain ⟨hb1, hb2⟩ := put_bad hgood
    rw [hb2] at HP
    have hne : ((putR k d).1 == 0) = false := by simpa using hb1
    have hne' : ((putR k d).1 != 0) = true := by simpa using hb1
    clear hb1 hb2
    generalize (putR k d).1 = er at *
    refine HP.mono ?_
    rintro e w3 ⟨s3, rfl, hs3, hb3⟩
    obtain ⟨a3, c3, rfl⟩ := hs3.shape
    have X3 : Hid (w3.heap[w.heap.size]? = some (.cells #[.int .i64 k, .slice a d.length c] 24 (0, 0))) := (hb3.block _ (lt_of_block X2.out)).trans X2.out
    have B3 : Hid (Below w.heap.size w w3) := nxt B2.out hb3
    clear hs3 hb3 X2 B2 HP O2
    obtain ⟨x0, -⟩ := cell_of X3.out 0
    obtain ⟨x1, -⟩ := cell_of X3.out 1
    simp at x0 x1
    go_wp2_with fail
    refine (num_any _ _).mono ?_
    rintro e w4 ⟨rfl, hw4⟩
    subst w4
    have hcase : k < 1 ∨ (1 ≤ k ∧ 255 < k) ∨ (1 ≤ k ∧ k ≤ 255 ∧ 65536 < (d.length : Int)) := by omega
    clear hgood
    rcases hcase with h | ⟨h, h'⟩ | ⟨h, h', h''⟩
    · go_wp2_with fail
      go_ret
      exact ⟨rfl, B3.out⟩
    · have h1 : ¬ k < 1 := by omega
      go_wp2_with fail
      go_ret
      exact ⟨rfl, B3.out⟩
    · have h1 : ¬ k < 1 := by omega
      have h2 : ¬ 255 < k := by omega
      go_wp2_with fail
      go_ret
      exact ⟨rfl, B3.out⟩

set_option maxRecDepth 100000 in
set_option maxHeartbeats 1600000 in
theorem lifted (os : Os) (started : os.Started) (H : Type) (enc : TypeId × Value → H) :
    ReturnsInHanded {} Try.checked os 6 .any (Rows.sealBackSpec.pre6 enc Try.prog Try.f6 Rows.sealBackRow.domain false) (Rows.sealBackSpec.post enc Try.prog Try.f6 false true false false) := by
  refine returnsInHanded_of_change_sized (C := Try.checked) Try.own started (by kernel_rfl) Try.func6
    (ChangeSpec.witness6 (enc := enc) (C := Try.checked) false ⟨#[], #[.agg #[.int .i64 0, .slice none 0 0], .slice none 0 0], []⟩ 8 (by kernel_rfl) (by kernel_rfl) (by kernel_rfl) (by kernel_rfl)) ?_
  intro W base args ds gs before hval0 hW _ hsz0 _
  have hsz : (DataW.weightsEach Try.prog (Try.f6.params.toList ++ Rows.sealBackSpec.plain.varTypes Try.prog) (ds ++ gs)).all (· ≤ reachBytes) = true := hsz0
  have hval : ∀ (j : Nat) t v, Try.f6.params[j]? = some t → args[j]? = some v → Value.okWide Try.prog W .any base t v := hval0
  have hW' := hW
  obtain ⟨p, q, hA0, hV, rfl, hfz, hnd⟩ := hW
  have hA : DataW.TrodAll enc Try.prog W 0 (fun _ => true) true Try.f6.params.toList args.toList ds p := hA0
  rw [Try.params6] at hA hval hsz
  obtain ⟨v0, vs0, d0, ds0, p0, q0, hargs, rfl, rfl, h0, r0⟩ := trodAll_cons hA
  obtain ⟨v1, vs1, d1, ds1, p1, q1, rfl, rfl, rfl, h1, r1⟩ := trodAll_cons r0
  obtain ⟨rfl, rfl, rfl⟩ := trodAll_nil r1
  obtain rfl : args = #[v0, v1] := by cases args; simp_all
  obtain ⟨rfl, rfl⟩ := trodVars_none hV
  clear hA0 hval0
  simp only [List.append_nil] at hW' hsz
  have hlt : ∀ x ∈ p0 ++ p1, x.block < W.heap.size := fun x hx => hW'.lt x (by simpa using hx)
  have hall : ∀ x ∈ DataW.weightsEach Try.prog [24, 22] [d0, d1], x ≤ reachBytes := fun x hx => of_decide_eq_true (List.all_eq_true.1 hsz x hx)
  have g0 : ∀ x ∈ d0.weights Try.prog 24, x ≤ reachBytes := fun x hx => hall x (DataW.weights_mem_each (j := 0) rfl rfl x hx)
  obtain ⟨u0, l0⟩ := fr_of_arg (hval 0 _ v0 rfl rfl) h0 g0
  have g1 : ∀ x ∈ d1.weights Try.prog 22, x ≤ reachBytes := fun x hx => hall x (DataW.weights_mem_each (j := 1) rfl rfl x hx)
  obtain ⟨u1, l1⟩ := bytes_of_arg (hval 1 _ v1 rfl rfl) h1 g1
  refine (walk u0 v0 u1 v1 W l0 l1).mono fun e W' ⟨he, bel⟩ => ?_
  subst he
  exact ⟨_, rfl, _, _, _, [], _, [], hW', trodAll_mk1 (shut_bool Try.underlying4 _), (trodAll_cons_mk (Below.trod Try.laidOut (by kernel_rfl) (of_decide_eq_true (by kernel_rfl)) h0 bel (fun x hx => hlt x (by simp [hx]))) (trodAll_cons_mk (Below.trod Try.laidOut (by kernel_rfl) (of_decide_eq_true (by kernel_rfl)) h1 bel (fun x hx => hlt x (by simp [hx]))) trodAll_mk0)), rfl, bel.frame _, fun h => by cases h⟩

theorem over : Rows.sealBackRow.holds Try.pinned (OpenSpec.ofChange Rows.sealBackSpec) :=
  OpenClaim.holds_of_wide 6 Try.f6 rfl rfl rfl rfl rfl rfl rfl ⟨rfl, rfl, rfl, rfl, rfl⟩ rfl rfl rfl rfl rfl (by kernel_rfl) Try.func6 (by kernel_rfl)
    (of_decide_eq_true (by kernel_rfl)) (by unfold Func.isWrapper; first | (rw [if_pos (by decide +kernel)]; kernel_rfl) | (rw [if_neg (by decide +kernel)]; exact ⟨rfl, rfl⟩))
    (fun os started H enc _ => lifted os started H enc)

/-- THE STATEMENT. -/
theorem proved : Rows.SealBackSaid := over
#print axioms proved
end Go.Proofs.Ytihncekjbmepoac.sealBack
