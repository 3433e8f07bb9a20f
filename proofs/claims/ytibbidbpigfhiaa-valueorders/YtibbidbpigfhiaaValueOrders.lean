/-
  ValueOrders holds for every two values: whether they are one, and which comes first, are as the page says, and they stay. No condition.
-/
import Derived.Test.YtibbidbpigfhiaaVaRefComp
import Derived.Test.YtibbidbpigfhiaaVaPair
import Derived.Test.YtibbidbpigfhiaaVaGetOne
namespace Go.Proofs.Ytibbidbpigfhiaa.valueOrders
open Go.ChangeShapes Go.WideShapes Go.ChangeAt Go.RowKit
open Fl

set_option maxRecDepth 100000 in
set_option maxHeartbeats 6400000 in
theorem walk (n : Nat) (u : V n) (x : Value) (v : V n) (y : Value) (w : World) (hu : Lay w n x u) (hv : Lay w n y v) :
    Calls Try.prog 4 #[x, y] w fun e w' => e = .returned (.bool true) ∧ Below w.heap.size w w' := by
  obtain ⟨k, b, t, ka, kl, kc, ia, il, ic, rfl⟩ := Lay.shape n hu
  obtain ⟨k', b', t', ka', kl', kc', ia', il', ic', rfl⟩ := Lay.shape n hv
  have HU : Hid (Lay w n (mk k b t ka kl kc ia il ic) u) := hu
  have HV : Hid (Lay w n (mk k' b' t' ka' kl' kc' ia' il' ic') v) := hv
  clear hu hv
  go_enter Try.func4, Try.ntmps4
  go_wp2_with fail
  have T0 : Two w _ _ _ := Two.new w (.cells #[.int .i64 k, .int .u64 b, .string t, .slice ka kl kc, .slice ia il ic] 26) (.cells #[.int .i64 k', .int .u64 b', .string t', .slice ka' kl' kc', .slice ia' il' ic'] 26) (Below.refl _ _)
  have B0 := below_two w (.cells #[.int .i64 k, .int .u64 b, .string t, .slice ka kl kc, .slice ia il ic] 26) (.cells #[.int .i64 k', .int .u64 b', .string t', .slice ka' kl' kc', .slice ia' il' ic'] 26)
  generalize (w.alloc (.cells #[.int .i64 k, .int .u64 b, .string t, .slice ka kl kc, .slice ia il ic] 26)).alloc (.cells #[.int .i64 k', .int .u64 b', .string t', .slice ka' kl' kc', .slice ia' il' ic'] 26) = W2 at T0 B0 ⊢
  have HB0 : Hid (Below w.heap.size w W2) := B0
  have HT0 : Hid (Two w W2 _ _) := T0
  clear B0 T0
  refine pair_region (d0 := 11) (d1 := 12) (d2 := 13) (d3 := 14) (p := 5) (q := 6) (s0 := 2) (s1 := 3) (pos := "law.go:30") (u := u) (v := v) (x := mk k b t ka kl kc ia il ic) (y := mk k' b' t' ka' kl' kc' ia' il' ic')
    (fun v0 v1 v2 v3 v5 v6 => { tmps := #[mk k b t ka kl kc ia il ic, mk k' b' t' ka' kl' kc' ia' il' ic', .pointer (some ⟨w.heap.size, 0, none⟩), .pointer (some ⟨w.heap.size + 1, 0, none⟩), .bool false, v5, v6, undef, undef, undef, undef, v0, v1, v2, v3, undef, undef, undef, undef, undef, undef, undef, undef, undef, undef, undef, undef, undef, undef, undef, undef, undef, undef, undef, undef, undef, undef, undef, undef, undef, undef, undef, undef, undef, undef, undef, undef, undef, undef, undef, undef, undef, undef, undef, undef, undef, undef, undef], defers := [] })
    (by intros; rfl) (by intros; rfl) (by intros; rfl) (by intros; rfl) (by intros; rfl) (by intros; rfl) (by intros; rfl) (by intros; rfl) (by intros; rfl) (by intros; rfl) (by intros; rfl) (by intros; rfl) (by intros; rfl) (by intros; rfl)
    (Lay.below n HU.out HB0.out) (Lay.below n HV.out HB0.out) HT0.out.1 HT0.out.2 ?_
  intro y3 y4 g5 g6 F3 F4 w3 ho3 ho4 hg5 hg6 _ _ _ _ _ hb3
  have hl3 := Own.lay n ho3
  have hl4 := Own.lay n ho4
  obtain ⟨k3, b3, t3, ka3, kl3, kc3, ia3, il3, ic3, rfl⟩ := Lay.shape n hl3
  obtain ⟨k4, b4, t4, ka4, kl4, kc4, ia4, il4, ic4, rfl⟩ := Lay.shape n hl4
  have L3 : Hid (Lay w3 n (mk k3 b3 t3 ka3 kl3 kc3 ia3 il3 ic3) u) := hl3
  have L4 : Hid (Lay w3 n (mk k4 b4 t4 ka4 kl4 kc4 ia4 il4 ic4) v) := hl4
  have G5 : Hid (w3.heap[g5]? = some (.cells #[.int .i64 k3, .int .u64 b3, .string t3, .slice ka3 kl3 kc3, .slice ia3 il3 ic3] 26 (0, 0))) := hg5
  have G6 : Hid (w3.heap[g6]? = some (.cells #[.int .i64 k4, .int .u64 b4, .string t4, .slice ka4 kl4 kc4, .slice ia4 il4 ic4] 26 (0, 0))) := hg6
  have T3 : Hid (Two w w3 _ _) := HT0.out.below hb3
  have B3 : Hid (Below w.heap.size w w3) := nxt HB0.out hb3
  clear ho3 ho4 hg5 hg6 hb3 hl3 hl4 HT0 HB0
  obtain ⟨p0, p1, p2, p3, p4, -⟩ := box_cells G5.out
  obtain ⟨q0, q1, q2, q3, q4, -⟩ := box_cells G6.out
  generalize hcm : cmpv u v = X
  generalize hce : cerr u v = ce
  generalize hsm : smv u v = S
  go_wp2_with fail
  refine (compare_any n _ _ _ _ _ L3.out L4.out).mono ?_
  rw [hcm, hce]
  rintro e w4 ⟨rfl, hb4⟩
  have B4 : Hid (Below w.heap.size w w4) := nxt B3.out hb4
  have T4 : Hid (Two w w4 _ _) := T3.out.below hb4
  have H34 : Hid (Below w3.heap.size w3 w4) := hb4
  clear hb4 p0 p1 p2 p3 p4 q0 q1 q2 q3 q4
  obtain ⟨p0, p1, p2, p3, p4, -⟩ := box_cells T4.out.1
  obtain ⟨q0, q1, q2, q3, q4, -⟩ := box_cells T4.out.2
  go_wp2_with fail
  refine (rcompare_any n _ _ _ _ _ (Lay.below n HU.out B4.out) (Lay.below n HV.out B4.out)).mono ?_
  rw [hcm, hce]
  rintro e w5 ⟨rfl, hb5⟩
  have B5 : Hid (Below w.heap.size w w5) := nxt B4.out hb5
  have H35 : Hid (Below w3.heap.size w3 w5) := nxt H34.out hb5
  have T5 : Hid (Two w w5 _ _) := T4.out.below hb5
  clear hb5 p0 p1 p2 p3 p4 q0 q1 q2 q3 q4 T4 B4 H34
  obtain ⟨p0, p1, p2, p3, p4, -⟩ := box_cells T5.out.1
  obtain ⟨q0, q1, q2, q3, q4, -⟩ := box_cells T5.out.2
  obtain ⟨a0, a1, a2, a3, a4, -⟩ := box_cells ((H35.out.block _ (lt_of_block G5.out)).trans G5.out)
  obtain ⟨c0, c1, c2, c3, c4, -⟩ := box_cells ((H35.out.block _ (lt_of_block G6.out)).trans G6.out)
  have PP0 := fun s => Cls.cell p0 s
  have PP1 := fun s => Cls.cell p1 s
  have PP2 := fun s => Cls.cell p2 s
  have PP3 := fun s => Cls.cell p3 s
  have PP4 := fun s => Cls.cell p4 s
  have QQ0 := fun s => Cls.cell q0 s
  have QQ1 := fun s => Cls.cell q1 s
  have QQ2 := fun s => Cls.cell q2 s
  have QQ3 := fun s => Cls.cell q3 s
  have QQ4 := fun s => Cls.cell q4 s
  have AA0 := fun s => Cls.cell a0 s
  have AA1 := fun s => Cls.cell a1 s
  have AA2 := fun s => Cls.cell a2 s
  have AA3 := fun s => Cls.cell a3 s
  have AA4 := fun s => Cls.cell a4 s
  have CC0 := fun s => Cls.cell c0 s
  have CC1 := fun s => Cls.cell c1 s
  have CC2 := fun s => Cls.cell c2 s
  have CC3 := fun s => Cls.cell c3 s
  have CC4 := fun s => Cls.cell c4 s
  clear p0 p1 p2 p3 p4 q0 q1 q2 q3 q4 a0 a1 a2 a3 a4 c0 c1 c2 c3 c4
  have D1 : Hid (∀ s : Cls w5, Calls Try.prog 19 #[mk k3 b3 t3 ka3 kl3 kc3 ia3 il3 ic3, mk k4 b4 t4 ka4 kl4 kc4 ia4 il4 ic4] s.1 fun e w' => e = .returned (.bool S) ∧ Below s.1.heap.size s.1 w') := fun s => by
    have := vsame_any n _ _ _ _ _ (Cls.lay (Lay.below n L3.out H35.out) s) (Cls.lay (Lay.below n L4.out H35.out) s)
    rw [hsm] at this
    exact this
  have D2 : Hid (∀ s : Cls w5, Calls Try.prog 20 #[mk k b t ka kl kc ia il ic, mk k' b' t' ka' kl' kc' ia' il' ic'] s.1 fun e w' => e = .returned (.bool S) ∧ Below s.1.heap.size s.1 w') := fun s => by
    have := rsame_any n _ _ _ _ _ (Cls.lay (Lay.below n HU.out B5.out) s) (Cls.lay (Lay.below n HV.out B5.out) s)
    rw [hsm] at this
    exact this
  have D3 : Hid (∀ s : Cls w5, Calls Try.prog 15 #[mk k3 b3 t3 ka3 kl3 kc3 ia3 il3 ic3, mk k b t ka kl kc ia il ic] s.1 fun e w' => e = .returned (.bool true) ∧ Below s.1.heap.size s.1 w') := fun s => by
    have := same_any n _ _ _ _ _ (Cls.lay (Lay.below n L3.out H35.out) s) (Cls.lay (Lay.below n HU.out B5.out) s)
    rw [one_true rfl] at this
    exact this
  have D4 : Hid (∀ s : Cls w5, Calls Try.prog 15 #[mk k4 b4 t4 ka4 kl4 kc4 ia4 il4 ic4, mk k' b' t' ka' kl' kc' ia' il' ic'] s.1 fun e w' => e = .returned (.bool true) ∧ Below s.1.heap.size s.1 w') := fun s => by
    have := same_any n _ _ _ _ _ (Cls.lay (Lay.below n L4.out H35.out) s) (Cls.lay (Lay.below n HV.out B5.out) s)
    rw [one_true rfl] at this
    exact this
  have inst : Nonempty (Cls w5) := ⟨⟨w5, Below.refl _ _⟩⟩
  clear hcm hce hsm
  cases S
  all_goals
    go_wp2_with fail
    refine wp_region_cls (by kernel_rfl) (by kernel_rfl) ?_
    repeat (go_big_quiet_step (first | (go_at_call 19; exact Calls.cls (D1.out _)) | (go_at_call 20; exact Calls.cls (D2.out _)) | (go_at_call 12; exact Calls.cls_same (num_any _ _)) | (go_at_call_of 15 (Value.string t3); exact Calls.cls (D3.out _)) | (go_at_call_of 15 (Value.string t4); exact Calls.cls (D4.out _)) | (go_at_call 16; exact Calls.cls (alive_any _))))
    refine wpQuiet_nil ?_
    intro _ hw'
    obtain ⟨s, hw''⟩ := hw'
    subst hw''
    go_wp2_with fail
    go_ret
    exact ⟨rfl, nxt B5.out s.2⟩

set_option maxRecDepth 100000 in
set_option maxHeartbeats 1600000 in
theorem lifted (os : Os) (started : os.Started) (H : Type) (enc : TypeId × Value → H) :
    ReturnsInHanded {} Try.checked os 4 .any (Rows.valueOrdersSpec.pre6 enc Try.prog Try.f4 Rows.valueOrdersRow.domain false) (Rows.valueOrdersSpec.post enc Try.prog Try.f4 false true false false) := by
  refine returnsInHanded_of_change_sized (C := Try.checked) Try.own started (by kernel_rfl) Try.func4
    (ChangeSpec.witness6 (enc := enc) (C := Try.checked) false ⟨#[], #[.agg #[.int .i64 0, .int .u64 0, .string ⟨#[]⟩, .slice none 0 0, .slice none 0 0], .agg #[.int .i64 0, .int .u64 0, .string ⟨#[]⟩, .slice none 0 0, .slice none 0 0]], []⟩ 8 (by kernel_rfl) (by kernel_rfl) (by kernel_rfl) (by kernel_rfl)) ?_
  intro W base args ds gs before hval0 hW _ hsz0 _
  have hsz : (DataW.weightsEach Try.prog (Try.f4.params.toList ++ Rows.valueOrdersSpec.plain.varTypes Try.prog) (ds ++ gs)).all (· ≤ reachBytes) = true := hsz0
  have hval : ∀ (j : Nat) t v, Try.f4.params[j]? = some t → args[j]? = some v → Value.okWide Try.prog W .any base t v := hval0
  have hW' := hW
  obtain ⟨p, q, hA0, hV, rfl, hfz, hnd⟩ := hW
  have hA : DataW.TrodAll enc Try.prog W 0 (fun _ => true) true Try.f4.params.toList args.toList ds p := hA0
  rw [Try.params4] at hA hval hsz
  obtain ⟨v0, vs0, d0, ds0, p0, q0, hargs, rfl, rfl, h0, r0⟩ := trodAll_cons hA
  obtain ⟨v1, vs1, d1, ds1, p1, q1, rfl, rfl, rfl, h1, r1⟩ := trodAll_cons r0
  obtain ⟨rfl, rfl, rfl⟩ := trodAll_nil r1
  obtain rfl : args = #[v0, v1] := by cases args; simp_all
  obtain ⟨rfl, rfl⟩ := trodVars_none hV
  clear hA0 hval0
  simp only [List.append_nil] at hW' hsz
  have hlt : ∀ x ∈ p0 ++ p1, x.block < W.heap.size := fun x hx => hW'.lt x (by simpa using hx)
  have hall : ∀ x ∈ DataW.weightsEach Try.prog [26, 26] [d0, d1], x ≤ reachBytes := fun x hx => of_decide_eq_true (List.all_eq_true.1 hsz x hx)
  have g0 : ∀ x ∈ d0.weights Try.prog 26, x ≤ reachBytes := fun x hx => hall x (DataW.weights_mem_each (j := 0) rfl rfl x hx)
  obtain ⟨u0, l0⟩ := lay_of_arg (k := SizeOf.sizeOf d0 + SizeOf.sizeOf d1) (hval 0 _ v0 rfl rfl) h0 (by omega) g0
  have g1 : ∀ x ∈ d1.weights Try.prog 26, x ≤ reachBytes := fun x hx => hall x (DataW.weights_mem_each (j := 1) rfl rfl x hx)
  obtain ⟨u1, l1⟩ := lay_of_arg (k := SizeOf.sizeOf d0 + SizeOf.sizeOf d1) (hval 1 _ v1 rfl rfl) h1 (by omega) g1
  refine (walk _ u0 v0 u1 v1 W l0 l1).mono fun e W' ⟨he, bel⟩ => ?_
  subst he
  exact ⟨_, rfl, _, _, _, [], _, [], hW', trodAll_mk1 (shut_bool Try.underlying4 _), (trodAll_cons_mk (Below.trod Try.laidOut (by kernel_rfl) (of_decide_eq_true (by kernel_rfl)) h0 bel (fun x hx => hlt x (by simp [hx]))) (trodAll_cons_mk (Below.trod Try.laidOut (by kernel_rfl) (of_decide_eq_true (by kernel_rfl)) h1 bel (fun x hx => hlt x (by simp [hx]))) trodAll_mk0)), rfl, bel.frame _, fun h => by cases h⟩

theorem over : Rows.valueOrdersRow.holds Try.pinned (OpenSpec.ofChange Rows.valueOrdersSpec) :=
  OpenClaim.holds_of_wide 4 Try.f4 rfl rfl rfl rfl rfl rfl rfl ⟨rfl, rfl, rfl, rfl, rfl⟩ rfl rfl rfl rfl rfl (by kernel_rfl) Try.func4 (by kernel_rfl)
    (of_decide_eq_true (by kernel_rfl)) (by unfold Func.isWrapper; first | (rw [if_pos (by decide +kernel)]; kernel_rfl) | (rw [if_neg (by decide +kernel)]; exact ⟨rfl, rfl⟩))
    (fun os started H enc _ => lifted os started H enc)

/-- THE STATEMENT. -/
theorem proved : Rows.ValueOrdersSaid := over
#print axioms proved
end Go.Proofs.Ytibbidbpigfhiaa.valueOrders
