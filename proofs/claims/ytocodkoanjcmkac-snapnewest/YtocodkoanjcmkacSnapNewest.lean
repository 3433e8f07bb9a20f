/-
  SnapNewest holds for every two snapshots: of two whole slots the one with the greater epoch is told; of one epoch the first. No condition.
-/
import Derived.Test.YtocodkoanjcmkacSnLaw
namespace Go.Proofs.Ytocodkoanjcmkac.snapNewest
open Go.ChangeShapes Go.WideShapes Go.ChangeAt Go.RowKit Go.Deep
open Se

/-- The parameters' boxes. -/
structure Two (w W : World) (e q e' q' : Int) (a a' : Option Addr) (n c n' c' : Nat) : Prop where
  one : W.heap[w.heap.size]? = some (.cells #[.int .i64 e, .int .i64 q, .slice a n c] 24 (0, 0))
  two : W.heap[w.heap.size + 1]? = some (.cells #[.int .i64 e', .int .i64 q', .slice a' n' c'] 24 (0, 0))
  bel : Below w.heap.size w W
theorem Two.below {w W W' : World} {e q e' q' : Int} {a a' : Option Addr} {n c n' c' : Nat} (h : Two w W e q e' q' a a' n c n' c') (hb : Below W.heap.size W W') : Two w W' e q e' q' a a' n c n' c' :=
  ⟨(hb.block _ (lt_of_block h.one)).trans h.one, (hb.block _ (lt_of_block h.two)).trans h.two, nxt h.bel hb⟩

set_option maxRecDepth 100000 in
set_option maxHeartbeats 6400000 in
theorem walk (s : Sn) (x : Value) (s' : Sn) (x' : Value) (w : World) (hs : SnIs w x s) (hs' : SnIs w x' s') :
    Calls Try.prog 6 #[x, x'] w fun e w' => e = .returned (.bool true) ∧ Below w.heap.size w w' := by
  obtain ⟨e, q, d⟩ := s
  obtain ⟨e', q', d'⟩ := s'
  obtain ⟨a, c, rfl, hkb, ho, hdl⟩ := hs
  obtain ⟨a', c', rfl, hkb', ho', hdl'⟩ := hs'
  simp only at hkb ho hdl hkb' ho' hdl' ⊢
  have HO : Hid (Oct w a c d) := ho
  have HO' : Hid (Oct w a' c' d') := ho'
  clear ho ho'
  have T0 : Hid (Two w ((w.alloc (.cells #[.int .i64 e, .int .i64 q, .slice a d.length c] 24)).alloc (.cells #[.int .i64 e', .int .i64 q', .slice a' d'.length c'] 24)) e q e' q' a a' d.length c d'.length c') :=
    ⟨(Below.heap_alloc _ _ _ (by simp)).trans (heap_alloc_new _ _), heap_new2 _ _ _, nxt (below_one _ _) (below_one _ _)⟩
  go_enter Try.func6, Try.ntmps6
  go_wp2_with fail
  refine (alive_any _).mono ?_
  rintro y w1 ⟨rfl, hb1⟩
  have T1 : Hid (Two w w1 e q e' q' a a' d.length c d'.length c') := T0.out.below hb1
  clear hb1 T0
  obtain ⟨x0, -⟩ := cell_of T1.out.one 0
  obtain ⟨x1, -⟩ := cell_of T1.out.one 1
  obtain ⟨x2, -⟩ := cell_of T1.out.one 2
  simp at x0 x1 x2
  go_wp2_with fail
  refine (of_any e q a c d w1 (HO.out.below T1.out.bel) hdl).mono ?_
  rintro y w2 ⟨s2, rfl, hs2, hb2⟩
  obtain ⟨a2, c2, rfl⟩ := hs2.shape
  have O2 : Hid (Oct w2 a2 c2 d) := hs2.oct (by omega)
  have T2 : Hid (Two w w2 e q e' q' a a' d.length c d'.length c') := T1.out.below hb2
  clear hs2 hb2 T1 x0 x1 x2
  go_wp2_with fail
  obtain ⟨R1, hR1⟩ : ∃ R, encR e q d = R := ⟨_, rfl⟩
  obtain ⟨R2, hR2⟩ : ∃ R, encR e' q' d' = R := ⟨_, rfl⟩
  have HR1 : Hid (encR e q d = R1) := hR1
  have HR2 : Hid (encR e' q' d' = R2) := hR2
  have HE1 := encode_any e q a2 c2 d w2 O2.out
  rw [hR1] at HE1
  have HEN : Hid (∀ W a2 c2, Oct W a2 c2 d' → Calls Try.prog 10 #[.agg #[.int .i64 e', .int .i64 q', .slice a2 d'.length c2]] W fun x w' => ∃ s, x = .returned (.tuple #[s, .int .i64 R2.1]) ∧ Bs w' W.heap.size s R2.2 ∧ Below W.heap.size W w') := by
    intro W a2 c2 h
    have := encode_any e' q' a2 c2 d' W h
    rw [hR2] at this
    exact this
  clear hR1 hR2
  refine HE1.mono ?_
  rintro y w3 ⟨s3, rfl, hs3, hb3⟩
  obtain ⟨a3, c3, rfl⟩ := hs3.shape
  have S3 : Hid (Bs w3 w2.heap.size (.slice a3 R1.2.length c3) R1.2) := hs3
  have T3 : Hid (Two w w3 e q e' q' a a' d.length c d'.length c') := T2.out.below hb3
  clear hs3 hb3 T2 O2 HE1
  obtain ⟨x0, -⟩ := cell_of T3.out.two 0
  obtain ⟨x1, -⟩ := cell_of T3.out.two 1
  obtain ⟨x2, -⟩ := cell_of T3.out.two 2
  simp at x0 x1 x2
  go_wp2_with fail
  refine (of_any e' q' a' c' d' w3 (HO'.out.below T3.out.bel) hdl').mono ?_
  rintro y w4 ⟨s4, rfl, hs4, hb4⟩
  obtain ⟨a4, c4, rfl⟩ := hs4.shape
  have O4 : Hid (Oct w4 a4 c4 d') := hs4.oct (by omega)
  have S4 : Hid (Bs w4 w2.heap.size (.slice a3 R1.2.length c3) R1.2) := S3.out.below hb4
  have T4 : Hid (Two w w4 e q e' q' a a' d.length c d'.length c') := T3.out.below hb4
  clear hs4 hb4 T3 S3 x0 x1 x2
  go_wp2_with fail
  refine (HEN.out w4 a4 c4 O4.out).mono ?_
  rintro y w5 ⟨s5, rfl, hs5, hb5⟩
  obtain ⟨a5, c5, rfl⟩ := hs5.shape
  have P5 : Hid (Bs w5 w4.heap.size (.slice a5 R2.2.length c5) R2.2) := hs5
  have S5 : Hid (Bs w5 w2.heap.size (.slice a3 R1.2.length c3) R1.2) := S4.out.below hb5
  have T5 : Hid (Two w w5 e q e' q' a a' d.length c d'.length c') := T4.out.below hb5
  clear hs5 hb5 T4 S4 O4 HEN
  have hcs : ((R1.1 != 0) = true ∧ R1.2.length = 0) ∨ ((R1.1 != 0) = false ∧ (R2.1 != 0) = true ∧ R2.2.length = 0) ∨ (chkS e q d.length = 0 ∧ chkS e' q' d'.length = 0) := by
    by_cases k1 : chkS e q d.length = 0
    · by_cases k2 : chkS e' q' d'.length = 0
      · exact Or.inr (Or.inr ⟨k1, k2⟩)
      · have h1 := HR1.out
        have h2 := HR2.out
        rw [enc_ok k1] at h1
        rw [enc_bad k2] at h2
        exact Or.inr (Or.inl ⟨by rw [← h1]; rfl, by rw [← h2]; simpa using k2, by rw [← h2]; rfl⟩)
    · have h1 := HR1.out
      rw [enc_bad k1] at h1
      exact Or.inl ⟨by rw [← h1]; simpa using k1, by rw [← h1]; rfl⟩
  rcases hcs with ⟨k1, k2⟩ | ⟨k1, k2, k3⟩ | ⟨k1, k2⟩
  · rw [k2] at S5 ⊢
    clear k2
    go_wp2_with (go_at_call 17; refine (num_any _ _).mono ?_; rintro y w6 ⟨rfl, hw6⟩; subst w6)
    go_ret
    exact ⟨rfl, T5.out.bel⟩
  · rw [k3] at P5 ⊢
    have hcl : ((R1.2.length : Int) == 0) = true ∨ ((R1.2.length : Int) == 0) = false := by cases ((R1.2.length : Int) == 0) <;> simp
    clear k3
    generalize R1.2.length = n1 at *
    rcases hcl with hcl | hcl
    all_goals
      go_wp2_with (go_at_call 17; refine (num_any _ _).mono ?_; rintro y w6 ⟨rfl, hw6⟩; subst w6)
      go_ret
      exact ⟨rfl, T5.out.bel⟩
  · have h1 := HR1.out
    have h2 := HR2.out
    rw [enc_ok k1] at h1
    rw [enc_ok k2] at h2
    subst h1 h2
    have HL1 : Hid ((slotO e q d).length = 8160) := slotO_length (chk_ok k1).2.2
    have HL2 : Hid ((slotO e' q' d').length = 8160) := slotO_length (chk_ok k2).2.2
    have HD1 : Hid (decR (slotO e q d) = (0, e, q, d)) := dec_slot k1
    have HD2 : Hid (decR (slotO e' q' d') = (0, e', q', d')) := dec_slot k2
    simp only at S5 P5 ⊢
    clear HR1 HR2 k1 k2
    generalize slotO e q d = A at *
    generalize slotO e' q' d' = B at *
    obtain ⟨N, hN⟩ : ∃ N, newR (decR A) (decR B) = N := ⟨_, rfl⟩
    have hNN : N = if e < e' then (0, 1, e', q', d') else (0, 0, e, q, d) := by
      rw [← hN, HD1.out, HD2.out]
      simp [newR]
    have HN : Hid (Calls Try.prog 14 #[.slice a3 A.length c3, .slice a5 B.length c5] w5 (NewPost w5 N)) := by
      have := newest_any a3 a5 c3 c5 A B w5 (S5.out.oct (by rw [HL1.out]; omega)) (P5.out.oct (by rw [HL2.out]; omega))
      rw [hN] at this
      exact this
    clear hN HD1 HD2 HL1 HL2
    generalize A.length = la at *
    generalize B.length = lb at *
    go_wp2_with (go_at_call 17; refine (num_any _ _).mono ?_; rintro y w6 ⟨rfl, hw6⟩; subst w6)
    by_cases hlt : e < e'
    · rw [if_pos hlt] at hNN
      subst hNN
      refine HN.out.mono ?_
      rintro y w6 ⟨a6, c6, rfl, ho6, hb6⟩
      simp only at ho6 ⊢
      have O7 : Hid (Oct (w6.alloc (.cells #[.int .i64 e', .int .i64 q', .slice a6 d'.length c6] 25)) a6 c6 d') := ho6.below (below_one _ _)
      have Y7 : Hid ((w6.alloc (.cells #[.int .i64 e', .int .i64 q', .slice a6 d'.length c6] 25)).heap[w6.heap.size]? = some (.cells #[.int .i64 e', .int .i64 q', .slice a6 d'.length c6] 25 (0, 0))) := heap_alloc_new _ _
      have T7 : Hid (Two w (w6.alloc (.cells #[.int .i64 e', .int .i64 q', .slice a6 d'.length c6] 25)) e q e' q' a a' d.length c d'.length c') := (T5.out.below hb6).below (below_one _ _)
      clear ho6 hb6 HN T5 S5 P5
      go_upto_region 7 with fail
      generalize w6.alloc (.cells #[.int .i64 e', .int .i64 q', .slice a6 d'.length c6] 25) = w7 at *
      generalize w6.heap.size = gx at *
      obtain ⟨x0, -⟩ := cell_of T7.out.one 0
      obtain ⟨x1, -⟩ := cell_of T7.out.one 1
      obtain ⟨x2, -⟩ := cell_of T7.out.one 2
      obtain ⟨y0, -⟩ := cell_of T7.out.two 0
      obtain ⟨y1, -⟩ := cell_of T7.out.two 1
      obtain ⟨y2, -⟩ := cell_of T7.out.two 2
      obtain ⟨z0, -⟩ := cell_of Y7.out 0
      obtain ⟨z1, -⟩ := cell_of Y7.out 1
      obtain ⟨z2, -⟩ := cell_of Y7.out 2
      simp at x0 x1 x2 y0 y1 y2 z0 z1 z2
      go_wp2_with (go_at_call 17; refine (num_any _ _).mono ?_; rintro y w8 ⟨rfl, hw8⟩; subst w8)
      have CS := same_any e' q' e' q' a6 a' c6 c' d' d' w7 O7.out.1 (HO'.out.below T7.out.bel).1
      simp only [beq_self_eq_true, Bool.and_self] at CS
      refine CS.mono ?_
      rintro y w8 ⟨rfl, hb8⟩
      have B8 : Hid (Below w.heap.size w w8) := nxt T7.out.bel hb8
      clear CS hb8 T7 Y7 O7 x0 x1 x2 y0 y1 y2 z0 z1 z2
      go_wp2_with fail
      go_ret
      exact ⟨rfl, B8.out⟩
    · rw [if_neg hlt] at hNN
      subst hNN
      refine HN.out.mono ?_
      rintro y w6 ⟨a6, c6, rfl, ho6, hb6⟩
      simp only at ho6 ⊢
      have O7 : Hid (Oct (w6.alloc (.cells #[.int .i64 e, .int .i64 q, .slice a6 d.length c6] 25)) a6 c6 d) := ho6.below (below_one _ _)
      have Y7 : Hid ((w6.alloc (.cells #[.int .i64 e, .int .i64 q, .slice a6 d.length c6] 25)).heap[w6.heap.size]? = some (.cells #[.int .i64 e, .int .i64 q, .slice a6 d.length c6] 25 (0, 0))) := heap_alloc_new _ _
      have T7 : Hid (Two w (w6.alloc (.cells #[.int .i64 e, .int .i64 q, .slice a6 d.length c6] 25)) e q e' q' a a' d.length c d'.length c') := (T5.out.below hb6).below (below_one _ _)
      clear ho6 hb6 HN T5 S5 P5
      go_upto_region 7 with fail
      generalize w6.alloc (.cells #[.int .i64 e, .int .i64 q, .slice a6 d.length c6] 25) = w7 at *
      generalize w6.heap.size = gx at *
      obtain ⟨x0, -⟩ := cell_of T7.out.one 0
      obtain ⟨x1, -⟩ := cell_of T7.out.one 1
      obtain ⟨x2, -⟩ := cell_of T7.out.one 2
      obtain ⟨y0, -⟩ := cell_of T7.out.two 0
      obtain ⟨y1, -⟩ := cell_of T7.out.two 1
      obtain ⟨y2, -⟩ := cell_of T7.out.two 2
      obtain ⟨z0, -⟩ := cell_of Y7.out 0
      obtain ⟨z1, -⟩ := cell_of Y7.out 1
      obtain ⟨z2, -⟩ := cell_of Y7.out 2
      simp at x0 x1 x2 y0 y1 y2 z0 z1 z2
      go_wp2_with (go_at_call 17; refine (num_any _ _).mono ?_; rintro y w8 ⟨rfl, hw8⟩; subst w8)
      have CS := same_any e q e q a6 a c6 c d d w7 O7.out.1 (HO.out.below T7.out.bel).1
      simp only [beq_self_eq_true, Bool.and_self] at CS
      refine CS.mono ?_
      rintro y w8 ⟨rfl, hb8⟩
      have B8 : Hid (Below w.heap.size w w8) := nxt T7.out.bel hb8
      clear CS hb8 T7 Y7 O7 x0 x1 x2 y0 y1 y2 z0 z1 z2
      go_wp2_with fail
      go_ret
      exact ⟨rfl, B8.out⟩

set_option maxRecDepth 100000 in
set_option maxHeartbeats 1600000 in
theorem lifted (os : Os) (started : os.Started) (H : Type) (enc : TypeId × Value → H) :
    ReturnsInHanded {} Try.checked os 6 .any (Rows.snapNewestSpec.pre6 enc Try.prog Try.f6 Rows.snapNewestRow.domain false) (Rows.snapNewestSpec.post enc Try.prog Try.f6 false true false false) := by
  refine returnsInHanded_of_change_sized (C := Try.checked) Try.own started (by kernel_rfl) Try.func6
    (ChangeSpec.witness6 (enc := enc) (C := Try.checked) false ⟨#[], #[.agg #[.int .i64 0, .int .i64 0, .slice none 0 0], .agg #[.int .i64 0, .int .i64 0, .slice none 0 0]], []⟩ 8 (by kernel_rfl) (by kernel_rfl) (by kernel_rfl) (by kernel_rfl)) ?_
  intro W base args ds gs before hval0 hW _ hsz0 _
  have hsz : (DataW.weightsEach Try.prog (Try.f6.params.toList ++ Rows.snapNewestSpec.plain.varTypes Try.prog) (ds ++ gs)).all (· ≤ reachBytes) = true := hsz0
  have hval : ∀ (j : Nat) t v, Try.f6.params[j]? = some t → args[j]? = some v → Value.okWide Try.prog W .any base t v := hval0
  have hW' := hW
  obtain ⟨p, q, hA0, hV, rfl, hfz, hnd⟩ := hW
  have hA : DataW.TrodAll enc Try.prog W 0 (fun _ => true) true Try.f6.params.toList args.toList ds p := hA0
  rw [Try.params6] at hA hval hsz
  obtain ⟨v0, vs0, d0, ds0, p0, q0, hargs, rfl, rfl, h0, r0⟩ := trodAll_cons hA
  obtain ⟨v1, vs1, d1, ds1, p1, q1, rfl, rfl, rfl, h1, r1⟩ := trodAll_cons r0
  obtain ⟨rfl, rfl, rfl⟩ := trodAll_nil r1
  obtain rfl : args = #[v0, v1] := by cases args; simp_all
  obtain ⟨rfl, rfl⟩ := trodVars_none hV
  clear hA0 hval0
  simp only [List.append_nil] at hW' hsz
  have hlt : ∀ x ∈ p0 ++ p1, x.block < W.heap.size := fun x hx => hW'.lt x (by simpa using hx)
  have hall : ∀ x ∈ DataW.weightsEach Try.prog [24, 24] [d0, d1], x ≤ reachBytes := fun x hx => of_decide_eq_true (List.all_eq_true.1 hsz x hx)
  have g0 : ∀ x ∈ d0.weights Try.prog 24, x ≤ reachBytes := fun x hx => hall x (DataW.weights_mem_each (j := 0) rfl rfl x hx)
  obtain ⟨u0, l0⟩ := sn_of_arg (hval 0 _ v0 rfl rfl) h0 g0
  have g1 : ∀ x ∈ d1.weights Try.prog 24, x ≤ reachBytes := fun x hx => hall x (DataW.weights_mem_each (j := 1) rfl rfl x hx)
  obtain ⟨u1, l1⟩ := sn_of_arg (hval 1 _ v1 rfl rfl) h1 g1
  refine (walk u0 v0 u1 v1 W l0 l1).mono fun e W' ⟨he, bel⟩ => ?_
  subst he
  exact ⟨_, rfl, _, _, _, [], _, [], hW', trodAll_mk1 (shut_bool Try.underlying4 _), (trodAll_cons_mk (Below.trod Try.laidOut (by kernel_rfl) (of_decide_eq_true (by kernel_rfl)) h0 bel (fun x hx => hlt x (by simp [hx]))) (trodAll_cons_mk (Below.trod Try.laidOut (by kernel_rfl) (of_decide_eq_true (by kernel_rfl)) h1 bel (fun x hx => hlt x (by simp [hx]))) trodAll_mk0)), rfl, bel.frame _, fun h => by cases h⟩

theorem over : Rows.snapNewestRow.holds Try.pinned (OpenSpec.ofChange Rows.snapNewestSpec) :=
  OpenClaim.holds_of_wide 6 Try.f6 rfl rfl rfl rfl rfl rfl rfl ⟨rfl, rfl, rfl, rfl, rfl⟩ rfl rfl rfl rfl rfl (by kernel_rfl) Try.func6 (by kernel_rfl)
    (of_decide_eq_true (by kernel_rfl)) (by unfold Func.isWrapper; first | (rw [if_pos (by decide +kernel)]; kernel_rfl) | (rw [if_neg (by decide +kernel)]; exact ⟨rfl, rfl⟩))
    (fun os started H enc _ => lifted os started H enc)

/-- THE STATEMENT. -/
theorem proved : Rows.SnapNewestSaid := over
#print axioms proved
end Go.Proofs.Ytocodkoanjcmkac.snapNewest
