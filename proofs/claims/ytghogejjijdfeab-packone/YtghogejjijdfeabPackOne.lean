/-
  PackOne holds for every two values: they have the same octets just if they are one. No condition.
-/
import Derived.Test.YtghogejjijdfeabPkStr
namespace Go.Proofs.Ytghogejjijdfeab.packOne
open Go.ChangeShapes Go.WideShapes Go.ChangeAt Go.RowKit
open Fl

theorem enc_inj {n : Nat} {u v : V n} (hu : okV n u) (hbu : bitsV n u) (hv : okV n v) (hbv : bitsV n v) (h : enc n u = enc n v) : u = v := by
  have h1 := rd_enc n u hu hbu [] 0
  have h2 := rd_enc n v hv hbv [] 0
  rw [h, h2] at h1
  simp only [Except.ok.injEq, Prod.mk.injEq] at h1
  exact h1.1.symm

set_option maxRecDepth 100000 in
set_option maxHeartbeats 6400000 in
theorem walk (n : Nat) (u : V n) (x : Value) (v : V n) (y : Value) (w : World) (hu : Lay w n x u) (hv : Lay w n y v) :
    Calls Try.prog 7 #[x, y] w fun e w' => e = .returned (.bool true) ∧ Below w.heap.size w w' := by
  obtain ⟨k, b, t, ka, kl, kc, ia, il, ic, rfl⟩ := Lay.shape n hu
  obtain ⟨k', b', t', ka', kl', kc', ia', il', ic', rfl⟩ := Lay.shape n hv
  have HU : Hid (Lay w n (mk k b t ka kl kc ia il ic) u) := hu
  have HV : Hid (Lay w n (mk k' b' t' ka' kl' kc' ia' il' ic') v) := hv
  clear hu hv
  go_enter Try.func7, Try.ntmps7
  go_wp2_with fail
  have T0 : Two w _ _ _ := Two.new w (.cells #[.int .i64 k, .int .u64 b, .string t, .slice ka kl kc, .slice ia il ic] 26) (.cells #[.int .i64 k', .int .u64 b', .string t', .slice ka' kl' kc', .slice ia' il' ic'] 26) (Below.refl _ _)
  have B0 := below_two w (.cells #[.int .i64 k, .int .u64 b, .string t, .slice ka kl kc, .slice ia il ic] 26) (.cells #[.int .i64 k', .int .u64 b', .string t', .slice ka' kl' kc', .slice ia' il' ic'] 26)
  generalize (w.alloc (.cells #[.int .i64 k, .int .u64 b, .string t, .slice ka kl kc, .slice ia il ic] 26)).alloc (.cells #[.int .i64 k', .int .u64 b', .string t', .slice ka' kl' kc', .slice ia' il' ic'] 26) = W2 at T0 B0 ⊢
  refine (pkalive_any W2).mono ?_
  rintro e w1 ⟨rfl, hb1⟩
  have T1 : Hid (Two w w1 _ _) := T0.below hb1
  have B1 : Hid (Below w.heap.size w w1) := nxt B0 hb1
  clear T0 B0 hb1
  obtain ⟨p0, p1, p2, p3, p4, -⟩ := box_cells T1.out.1
  go_wp2_with fail
  refine (encode_any n u _ _ (Lay.below n HU.out B1.out)).mono ?_
  rintro e w2 ⟨s1, rfl, hs1, hb2⟩
  have T2 : Hid (Two w w2 _ _) := T1.out.below hb2
  have B2 : Hid (Below w.heap.size w w2) := nxt B1.out hb2
  have S1 : Hid (Bs w2 w1.heap.size s1 (if chk u = 0 then enc n u else [])) := hs1
  clear hs1 hb2 T1 B1 p0 p1 p2 p3 p4
  obtain ⟨q0, q1, q2, q3, q4, -⟩ := box_cells T2.out.2
  go_wp2_with fail
  refine (encode_any n v _ _ (Lay.below n HV.out B2.out)).mono ?_
  rintro e w3 ⟨s2, rfl, hs2, hb3⟩
  have T3 : Hid (Two w w3 _ _) := T2.out.below hb3
  have B3 : Hid (Below w.heap.size w w3) := nxt B2.out hb3
  have S3 : Hid (Bs w3 w1.heap.size s1 (if chk u = 0 then enc n u else [])) := S1.out.below hb3
  have S4 : Hid (Bs w3 w2.heap.size s2 (if chk v = 0 then enc n v else [])) := hs2
  clear hs2 hb3 T2 B2 S1 q0 q1 q2 q3 q4
  obtain ⟨a1, c1, rfl⟩ := S3.out.shape
  obtain ⟨a2, c2, rfl⟩ := S4.out.shape
  by_cases hcu : chk u = 0
  · by_cases hcv : chk v = 0
    · rw [if_pos hcu] at S3 ⊢
      rw [if_pos hcv] at S4 ⊢
      have L3 : Hid (LayB w3 a1 (enc n u)) := S3.out.lay
      have L4 : Hid (LayB w3 a2 (enc n v)) := S4.out.lay
      have HI : Hid ((enc n u == enc n v) = one u v) := by
        show _ = _
        have h1 := Lay.bits n HU.out
        have h2 := Lay.bits n HV.out
        by_cases e : u = v
        · subst e; rw [one_true rfl]; simp
        · rw [one_false e]
          have : ¬ enc n u = enc n v := fun e' => e (enc_inj (ok_of_chk hcu) h1 (ok_of_chk hcv) h2 e')
          simpa using this
      rw [hcu, hcv]
      have D1 : Hid (∀ s : Cls w3, Calls Try.prog 17 #[.slice a1 (enc n u).length c1, .slice a2 (enc n v).length c2] s.1 fun e w' => e = .returned (.bool (one u v)) ∧ w' = s.1) := fun s => by
        have := sameB_any (enc n u) (enc n v) a1 a2 c1 c2 s.1 (L3.out.below s.2) (L4.out.below s.2)
        rw [HI.out] at this
        exact this
      have D2 : Hid (∀ s : Cls w3, Calls Try.prog 19 #[mk k b t ka kl kc ia il ic, mk k' b' t' ka' kl' kc' ia' il' ic'] s.1 fun e w' => e = .returned (.bool (one u v)) ∧ Below s.1.heap.size s.1 w') := fun s =>
        same_any n u v _ _ _ (Cls.lay (Lay.below n HU.out B3.out) s) (Cls.lay (Lay.below n HV.out B3.out) s)
      obtain ⟨p0, p1, p2, p3, p4, -⟩ := box_cells T3.out.1
      obtain ⟨q0, q1, q2, q3, q4, -⟩ := box_cells T3.out.2
      have PP0 := fun s => Cls.cell p0 s
      have PP1 := fun s => Cls.cell p1 s
      have PP2 := fun s => Cls.cell p2 s
      have PP3 := fun s => Cls.cell p3 s
      have PP4 := fun s => Cls.cell p4 s
      have QQ0 := fun s => Cls.cell q0 s
      have QQ1 := fun s => Cls.cell q1 s
      have QQ2 := fun s => Cls.cell q2 s
      have QQ3 := fun s => Cls.cell q3 s
      have QQ4 := fun s => Cls.cell q4 s
      clear p0 p1 p2 p3 p4 q0 q1 q2 q3 q4 hcu hcv HI L3 L4 S3 S4
      generalize (enc n u).length = lu at *
      generalize (enc n v).length = lv at *
      generalize one u v = S at *
      have inst : Nonempty (Cls w3) := ⟨⟨w3, Below.refl _ _⟩⟩
      go_wp2_with (go_at_call 18; refine (num_any _ _).mono ?_; rintro e w' ⟨rfl, rfl⟩)
      refine wp_region_cls (by kernel_rfl) (by kernel_rfl) ?_
      repeat (go_big_quiet_step (first | (go_at_call 17; exact Calls.cls_same (D1.out _)) | (go_at_call 19; exact Calls.cls (D2.out _))))
      refine wpQuiet_nil ?_
      intro _ hw'
      obtain ⟨s, hw''⟩ := hw'
      subst hw''
      go_wp2_with fail
      go_ret
      refine ⟨ret_bool ?_, nxt B3.out s.2⟩
      cases S <;> rfl
    · rw [if_neg hcv]
      have h2 : (chk v == 0) = false := by simpa using hcv
      rw [hcu]
      clear S3 S4
      generalize (if (0 : Int) = 0 then enc n u else []).length = lu at *
      clear hcu hcv
      generalize chk v = cv at *
      cases hl : ((lu : Int) == 0)
      all_goals
        go_wp2_with (go_at_call 18; refine (num_any _ _).mono ?_; rintro e w' ⟨rfl, rfl⟩)
        go_ret
        exact ⟨rfl, B3.out⟩
  · rw [if_neg hcu]
    have h2 : (chk u == 0) = false := by simpa using hcu
    clear S3 S4
    generalize (if chk v = 0 then enc n v else []).length = lv at *
    clear hcu
    generalize chk u = cu at *
    generalize chk v = cv at *
    go_wp2_with (go_at_call 18; refine (num_any _ _).mono ?_; rintro e w' ⟨rfl, rfl⟩)
    go_ret
    exact ⟨rfl, B3.out⟩

set_option maxRecDepth 100000 in
set_option maxHeartbeats 1600000 in
theorem lifted (os : Os) (started : os.Started) (H : Type) (enc : TypeId × Value → H) :
    ReturnsInHanded {} Try.checked os 7 .any (Rows.packOneSpec.pre6 enc Try.prog Try.f7 Rows.packOneRow.domain false) (Rows.packOneSpec.post enc Try.prog Try.f7 false true false false) := by
  refine returnsInHanded_of_change_sized (C := Try.checked) Try.own started (by kernel_rfl) Try.func7
    (ChangeSpec.witness6 (enc := enc) (C := Try.checked) false ⟨#[], #[.agg #[.int .i64 0, .int .u64 0, .string ⟨#[]⟩, .slice none 0 0, .slice none 0 0], .agg #[.int .i64 0, .int .u64 0, .string ⟨#[]⟩, .slice none 0 0, .slice none 0 0]], []⟩ 8 (by kernel_rfl) (by kernel_rfl) (by kernel_rfl) (by kernel_rfl)) ?_
  intro W base args ds gs before hval0 hW _ hsz0 _
  have hsz : (DataW.weightsEach Try.prog (Try.f7.params.toList ++ Rows.packOneSpec.plain.varTypes Try.prog) (ds ++ gs)).all (· ≤ reachBytes) = true := hsz0
  have hval : ∀ (j : Nat) t v, Try.f7.params[j]? = some t → args[j]? = some v → Value.okWide Try.prog W .any base t v := hval0
  have hW' := hW
  obtain ⟨p, q, hA0, hV, rfl, hfz, hnd⟩ := hW
  have hA : DataW.TrodAll enc Try.prog W 0 (fun _ => true) true Try.f7.params.toList args.toList ds p := hA0
  rw [Try.params7] at hA hval hsz
  obtain ⟨v0, vs0, d0, ds0, p0, q0, hargs, rfl, rfl, h0, r0⟩ := trodAll_cons hA
  obtain ⟨v1, vs1, d1, ds1, p1, q1, rfl, rfl, rfl, h1, r1⟩ := trodAll_cons r0
  obtain ⟨rfl, rfl, rfl⟩ := trodAll_nil r1
  obtain rfl : args = #[v0, v1] := by cases args; simp_all
  obtain ⟨rfl, rfl⟩ := trodVars_none hV
  clear hA0 hval0
  simp only [List.append_nil] at hW' hsz
  have hlt : ∀ x ∈ p0 ++ p1, x.block < W.heap.size := fun x hx => hW'.lt x (by simpa using hx)
  have hall : ∀ x ∈ DataW.weightsEach Try.prog [26, 26] [d0, d1], x ≤ reachBytes := fun x hx => of_decide_eq_true (List.all_eq_true.1 hsz x hx)
  have g0 : ∀ x ∈ d0.weights Try.prog 26, x ≤ reachBytes := fun x hx => hall x (DataW.weights_mem_each (j := 0) rfl rfl x hx)
  obtain ⟨u0, l0⟩ := lay_of_arg (k := SizeOf.sizeOf d0 + SizeOf.sizeOf d1) (hval 0 _ v0 rfl rfl) h0 (by omega) g0
  have g1 : ∀ x ∈ d1.weights Try.prog 26, x ≤ reachBytes := fun x hx => hall x (DataW.weights_mem_each (j := 1) rfl rfl x hx)
  obtain ⟨u1, l1⟩ := lay_of_arg (k := SizeOf.sizeOf d0 + SizeOf.sizeOf d1) (hval 1 _ v1 rfl rfl) h1 (by omega) g1
  refine (walk _ u0 v0 u1 v1 W l0 l1).mono fun e W' ⟨he, bel⟩ => ?_
  subst he
  exact ⟨_, rfl, _, _, _, [], _, [], hW', trodAll_mk1 (shut_bool Try.underlying4 _), (trodAll_cons_mk (Below.trod Try.laidOut (by kernel_rfl) (of_decide_eq_true (by kernel_rfl)) h0 bel (fun x hx => hlt x (by simp [hx]))) (trodAll_cons_mk (Below.trod Try.laidOut (by kernel_rfl) (of_decide_eq_true (by kernel_rfl)) h1 bel (fun x hx => hlt x (by simp [hx]))) trodAll_mk0)), rfl, bel.frame _, fun h => by cases h⟩

theorem over : Rows.packOneRow.holds Try.pinned (OpenSpec.ofChange Rows.packOneSpec) :=
  OpenClaim.holds_of_wide 7 Try.f7 rfl rfl rfl rfl rfl rfl rfl ⟨rfl, rfl, rfl, rfl, rfl⟩ rfl rfl rfl rfl rfl (by kernel_rfl) Try.func7 (by kernel_rfl)
    (of_decide_eq_true (by kernel_rfl)) (by unfold Func.isWrapper; first | (rw [if_pos (by decide +kernel)]; kernel_rfl) | (rw [if_neg (by decide +kernel)]; exact ⟨rfl, rfl⟩))
    (fun os started H enc _ => lifted os started H enc)

/-- THE STATEMENT. -/
theorem proved : Rows.PackOneSaid := over
#print axioms proved
end Go.Proofs.Ytghogejjijdfeab.packOne
