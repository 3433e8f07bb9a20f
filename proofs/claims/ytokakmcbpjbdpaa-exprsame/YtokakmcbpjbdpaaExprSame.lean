/-
  ExprSame holds for every two expressions: whether they are one is as the page says, one that may be and its copy are, and they stay. No condition.
-/
import Derived.Test.YtokakmcbpjbdpaaExSameP
import Derived.Test.YtokakmcbpjbdpaaExPair
namespace Go.Proofs.Ytokakmcbpjbdpaa.exprSame
open Go.ChangeShapes Go.WideShapes Go.ChangeAt Go.RowKit

theorem sameX_refl (n : Nat) : ∀ u : X n, sameX n n u u := by
  induction n with
  | zero => intro u; exact u.elim
  | succ n ih =>
    rintro ⟨k, b, t, its⟩
    refine ⟨rfl, rfl, rfl, rfl, fun i u u' h1 h2 => ?_⟩
    rw [h1] at h2
    cases h2
    exact ih u

theorem smX_self {n : Nat} (u : X n) : smX n n u u = decide (erX n u = 0) := by
  unfold smX
  rw [oneX_yes (sameX_refl n u)]
  simp

set_option maxRecDepth 100000 in
set_option maxHeartbeats 12800000 in
theorem walk (n : Nat) (u : X n) (x : Value) (v : X n) (y : Value) (w : World) (hu : LayX w n x u) (hv : LayX w n y v) :
    Calls Try.prog 5 #[x, y] w fun e w' => e = .returned (.bool true) ∧ Below w.heap.size w w' := by
  obtain ⟨k, b, t, ia, il, ic, rfl⟩ := LayX.shape n hu
  obtain ⟨k', b', t', ia', il', ic', rfl⟩ := LayX.shape n hv
  have HU : Hid (LayX w n (mkX k b t ia il ic) u) := hu
  have HV : Hid (LayX w n (mkX k' b' t' ia' il' ic') v) := hv
  clear hu hv
  go_enter Try.func5, Try.ntmps5
  go_wp2_with fail
  have T0 := boxed2X (Below.refl ((w.alloc (.cells #[.int .i64 k, .int .u64 b, .string t, .slice ia il ic] 25)).alloc (.cells #[.int .i64 k', .int .u64 b', .string t', .slice ia' il' ic'] 25)).heap.size _)
  have B0 := below_twoX w (.cells #[.int .i64 k, .int .u64 b, .string t, .slice ia il ic] 25) (.cells #[.int .i64 k', .int .u64 b', .string t', .slice ia' il' ic'] 25)
  generalize (w.alloc (.cells #[.int .i64 k, .int .u64 b, .string t, .slice ia il ic] 25)).alloc (.cells #[.int .i64 k', .int .u64 b', .string t', .slice ia' il' ic'] 25) = W2 at T0 B0 ⊢
  have HB0 : Hid (Below w.heap.size w W2) := B0
  have HT0 : Hid (_ ∧ _) := T0
  clear B0 T0
  refine ExPair.pair_region (d0 := 8) (d1 := 9) (d2 := 10) (d3 := 11) (p := 5) (q := 6) (s0 := 2) (s1 := 3) (pos := "law.go:75") (u := u) (v := v) (x := mkX k b t ia il ic) (y := mkX k' b' t' ia' il' ic')
    (fun v0 v1 v2 v3 v5 v6 => { tmps := #[mkX k b t ia il ic, mkX k' b' t' ia' il' ic', .pointer (some ⟨w.heap.size, 0, none⟩), .pointer (some ⟨w.heap.size + 1, 0, none⟩), .bool false, v5, v6, undef, v0, v1, v2, v3, undef, undef, undef, undef, undef, undef, undef, undef, undef, undef, undef, undef, undef, undef, undef, undef, undef, undef, undef, undef, undef, undef, undef, undef, undef, undef, undef, undef, undef, undef, undef, undef, undef], defers := [] })
    (by intros; rfl) (by intros; rfl) (by intros; rfl) (by intros; rfl) (by intros; rfl) (by intros; rfl) (by intros; rfl) (by intros; rfl) (by intros; rfl) (by intros; rfl) (by intros; rfl) (by intros; rfl) (by intros; rfl) (by intros; rfl)
    (LayX.below n HU.out HB0.out) (LayX.below n HV.out HB0.out) HT0.out.1 HT0.out.2 ?_
  intro y3 y4 g5 g6 F3 F4 w3 ho3 ho4 hg5 hg6 _ _ _ _ _ hb3
  have hl3 := OwnX.lay n ho3
  have hl4 := OwnX.lay n ho4
  obtain ⟨k3, b3, t3, ia3, il3, ic3, rfl⟩ := LayX.shape n hl3
  obtain ⟨k4, b4, t4, ia4, il4, ic4, rfl⟩ := LayX.shape n hl4
  have L3 : Hid (LayX w3 n (mkX k3 b3 t3 ia3 il3 ic3) u) := hl3
  have L4 : Hid (LayX w3 n (mkX k4 b4 t4 ia4 il4 ic4) v) := hl4
  have G5 : Hid (w3.heap[g5]? = some (.cells #[.int .i64 k3, .int .u64 b3, .string t3, .slice ia3 il3 ic3] 29 (0, 0))) := hg5
  have G6 : Hid (w3.heap[g6]? = some (.cells #[.int .i64 k4, .int .u64 b4, .string t4, .slice ia4 il4 ic4] 29 (0, 0))) := hg6
  have G2 : Hid (w3.heap[w.heap.size]? = some (.cells #[.int .i64 k, .int .u64 b, .string t, .slice ia il ic] 25 (0, 0))) := (hb3.block _ (lt_of_block HT0.out.1)).trans HT0.out.1
  have G3 : Hid (w3.heap[w.heap.size + 1]? = some (.cells #[.int .i64 k', .int .u64 b', .string t', .slice ia' il' ic'] 25 (0, 0))) := (hb3.block _ (lt_of_block HT0.out.2)).trans HT0.out.2
  have B3 : Hid (Below w.heap.size w w3) := nxt HB0.out hb3
  clear ho3 ho4 hg5 hg6 hb3 hl3 hl4 HT0 HB0
  obtain ⟨p0, p1, p2, p3, -⟩ := box4 G2.out
  have CC : Hid (Calls Try.prog 19 #[mkX k b t ia il ic] w3 fun e w' => e = .returned (.int .i64 (erX n u)) ∧ Below w3.heap.size w3 w') := rcheckX_any n u _ w3 (LayX.below n HU.out B3.out)
  have D1 : Hid (∀ W, Below w3.heap.size w3 W → Calls Try.prog 23 #[mkX k3 b3 t3 ia3 il3 ic3, mkX k4 b4 t4 ia4 il4 ic4] W fun e w' => e = .returned (.bool (smX n n u v)) ∧ Below W.heap.size W w') := fun W h => tsameX_any n n u v _ _ W (LayX.below n L3.out h) (LayX.below n L4.out h)
  have D2 : Hid (∀ W, Below w3.heap.size w3 W → Calls Try.prog 24 #[mkX k b t ia il ic, mkX k' b' t' ia' il' ic'] W fun e w' => e = .returned (.bool (smX n n u v)) ∧ Below W.heap.size W w') := fun W h => rsmX_any n n u v _ _ W (LayX.below n HU.out (nxt B3.out h)) (LayX.below n HV.out (nxt B3.out h))
  have D3 : Hid (∀ W, Below w3.heap.size w3 W → Calls Try.prog 9 #[mkX k b t ia il ic] W fun e w' => ∃ y, e = .returned y ∧ LayX w' n y u ∧ Below W.heap.size W w') := fun W h => (ofX_any n u _ W (LayX.below n HU.out (nxt B3.out h))).mono fun e w' ⟨y, F, e1, e2, _, e3⟩ => ⟨y, e1, OwnX.lay n e2, e3⟩
  have D4 : Hid (∀ W y, Below w3.heap.size w3 W → LayX W n y u → Calls Try.prog 23 #[mkX k3 b3 t3 ia3 il3 ic3, y] W fun e w' => e = .returned (.bool (decide ((erX n u) = 0))) ∧ Below W.heap.size W w') := fun W y h hy => by
    have := tsameX_any n n u u _ _ W (LayX.below n L3.out h) hy
    rw [smX_self] at this
    exact this
  have D5 : Hid (∀ W, Below w3.heap.size w3 W → Calls Try.prog 21 #[mkX k3 b3 t3 ia3 il3 ic3, mkX k b t ia il ic] W fun e w' => e = .returned (.int .i64 0) ∧ Below W.heap.size W w') := fun W h => by
    have := alikeX_any n n u u _ _ W (LayX.below n L3.out h) (LayX.below n HU.out (nxt B3.out h))
    rw [alkX_yes (sameX_refl n _)] at this
    exact this
  have D6 : Hid (∀ W, Below w3.heap.size w3 W → Calls Try.prog 21 #[mkX k4 b4 t4 ia4 il4 ic4, mkX k' b' t' ia' il' ic'] W fun e w' => e = .returned (.int .i64 0) ∧ Below W.heap.size W w') := fun W h => by
    have := alikeX_any n n v v _ _ W (LayX.below n L4.out h) (LayX.below n HV.out (nxt B3.out h))
    rw [alkX_yes (sameX_refl n _)] at this
    exact this
  clear L3 L4
  generalize smX n n u v = S at *
  have HE : Hid (∃ e, e = (erX n u)) := ⟨_, rfl⟩
  obtain ⟨er, her⟩ := HE.out
  rw [← her] at CC D4
  clear HE her
  have hz : Hid ((er == 0) = decide (er = 0)) := by show _ = _; by_cases h : er = 0 <;> simp [h]
  generalize decide (er = 0) = z at *
  have hz' := hz.out
  clear hz
  go_wp2_with fail
  refine CC.out.mono ?_
  rintro e w4 ⟨rfl, hb4⟩
  have H4 : Hid (Below w3.heap.size w3 w4) := hb4
  clear p0 p1 p2 p3 CC
  obtain ⟨p0, p1, p2, p3, -⟩ := box4 ((hb4.block _ (lt_of_block G2.out)).trans G2.out)
  obtain ⟨q0, q1, q2, q3, -⟩ := box4 ((hb4.block _ (lt_of_block G3.out)).trans G3.out)
  obtain ⟨a0, a1, a2, a3, -⟩ := box4 ((hb4.block _ (lt_of_block G5.out)).trans G5.out)
  obtain ⟨c0, c1, c2, c3, -⟩ := box4 ((hb4.block _ (lt_of_block G6.out)).trans G6.out)
  clear G2 G3 G5 G6 hb4
  have b0 : Below w3.heap.size w3 w4.drew := H4.out.drew
  cases S <;> cases z
  all_goals
    go_wp2_with fail
    go_region_held3 (fun w' => w'.cell? ⟨w.heap.size, 0, none⟩ = some (.int .i64 k) ∧ w'.cell? ⟨w.heap.size, 1, none⟩ = some (.int .u64 b) ∧ w'.cell? ⟨w.heap.size, 2, none⟩ = some (.string t) ∧ w'.cell? ⟨w.heap.size, 3, none⟩ = some (.slice ia il ic) ∧
      w'.cell? ⟨w.heap.size + 1, 0, none⟩ = some (.int .i64 k') ∧ w'.cell? ⟨w.heap.size + 1, 1, none⟩ = some (.int .u64 b') ∧ w'.cell? ⟨w.heap.size + 1, 2, none⟩ = some (.string t') ∧ w'.cell? ⟨w.heap.size + 1, 3, none⟩ = some (.slice ia' il' ic') ∧
      w'.cell? ⟨g5, 0, none⟩ = some (.int .i64 k3) ∧ w'.cell? ⟨g5, 1, none⟩ = some (.int .u64 b3) ∧ w'.cell? ⟨g5, 2, none⟩ = some (.string t3) ∧ w'.cell? ⟨g5, 3, none⟩ = some (.slice ia3 il3 ic3) ∧
      w'.cell? ⟨g6, 0, none⟩ = some (.int .i64 k4) ∧ w'.cell? ⟨g6, 1, none⟩ = some (.int .u64 b4) ∧ w'.cell? ⟨g6, 2, none⟩ = some (.string t4) ∧ w'.cell? ⟨g6, 3, none⟩ = some (.slice ia4 il4 ic4)) (go_keep)
      (first
        | (go_at_call_of 23 (Value.string t4); refine (D1.out _ (by assumption)).mono ?_; rintro e w' ⟨rfl, hb⟩; have hk := keepc hb; have bN := nxt (by assumption) hb; clear hb)
        | (go_at_call 24; refine (D2.out _ (by assumption)).mono ?_; rintro e w' ⟨rfl, hb⟩; have hk := keepc hb; have bN := nxt (by assumption) hb; clear hb)
        | (go_at_call 9; refine (D3.out _ (by assumption)).mono ?_; rintro e w' ⟨yc, rfl, HL, hb⟩; have hk := keepc hb; have bN := nxt (by assumption) hb; clear hb)
        | (go_at_call 23; refine (D4.out _ _ (by assumption) (by assumption)).mono ?_; rintro e w' ⟨rfl, hb⟩; have hk := keepc hb; have bN := nxt (by assumption) hb; clear hb)
        | (go_at_call_of 21 (Value.string t3); refine (D5.out _ (by assumption)).mono ?_; rintro e w' ⟨rfl, hb⟩; have hk := keepc hb; have bN := nxt (by assumption) hb; clear hb)
        | (go_at_call_of 21 (Value.string t4); refine (D6.out _ (by assumption)).mono ?_; rintro e w' ⟨rfl, hb⟩; have hk := keepc hb; have bN := nxt (by assumption) hb; clear hb)
        | (go_at_call 22; refine (aliveX_any _).mono ?_; rintro e w' ⟨rfl, hb⟩; have hk := keepc hb; have bN := nxt (by assumption) hb; clear hb))
    go_wp2_with fail
    go_ret
    exact ⟨rfl, nxt B3.out (by assumption)⟩

set_option maxRecDepth 100000 in
set_option maxHeartbeats 1600000 in
theorem lifted (os : Os) (started : os.Started) (H : Type) (enc : TypeId × Value → H) :
    ReturnsInHanded {} Try.checked os 5 .any (Rows.exprSameSpec.pre6 enc Try.prog Try.f5 Rows.exprSameRow.domain false) (Rows.exprSameSpec.post enc Try.prog Try.f5 false true false false) := by
  refine returnsInHanded_of_change_sized (C := Try.checked) Try.own started (by kernel_rfl) Try.func5
    (ChangeSpec.witness6 (enc := enc) (C := Try.checked) false ⟨#[], #[.agg #[.int .i64 0, .int .u64 0, .string ⟨#[]⟩, .slice none 0 0], .agg #[.int .i64 0, .int .u64 0, .string ⟨#[]⟩, .slice none 0 0]], []⟩ 8 (by kernel_rfl) (by kernel_rfl) (by kernel_rfl) (by kernel_rfl)) ?_
  intro W base args ds gs before hval0 hW _ hsz0 _
  have hsz : (DataW.weightsEach Try.prog (Try.f5.params.toList ++ Rows.exprSameSpec.plain.varTypes Try.prog) (ds ++ gs)).all (· ≤ reachBytes) = true := hsz0
  have hval : ∀ (j : Nat) t v, Try.f5.params[j]? = some t → args[j]? = some v → Value.okWide Try.prog W .any base t v := hval0
  have hW' := hW
  obtain ⟨p, q, hA0, hV, rfl, hfz, hnd⟩ := hW
  have hA : DataW.TrodAll enc Try.prog W 0 (fun _ => true) true Try.f5.params.toList args.toList ds p := hA0
  rw [Try.params5] at hA hval hsz
  obtain ⟨v0, vs0, d0, ds0, p0, q0, hargs, rfl, rfl, h0, r0⟩ := trodAll_cons hA
  obtain ⟨v1, vs1, d1, ds1, p1, q1, rfl, rfl, rfl, h1, r1⟩ := trodAll_cons r0
  obtain ⟨rfl, rfl, rfl⟩ := trodAll_nil r1
  obtain rfl : args = #[v0, v1] := by cases args; simp_all
  obtain ⟨rfl, rfl⟩ := trodVars_none hV
  clear hA0 hval0
  simp only [List.append_nil] at hW' hsz
  have hlt : ∀ x ∈ p0 ++ p1, x.block < W.heap.size := fun x hx => hW'.lt x (by simpa using hx)
  have hall : ∀ x ∈ DataW.weightsEach Try.prog [25, 25] [d0, d1], x ≤ reachBytes := fun x hx => of_decide_eq_true (List.all_eq_true.1 hsz x hx)
  have g0 : ∀ x ∈ d0.weights Try.prog 25, x ≤ reachBytes := fun x hx => hall x (DataW.weights_mem_each (j := 0) rfl rfl x hx)
  obtain ⟨u0, l0⟩ := ex_of_arg (k := SizeOf.sizeOf d0 + SizeOf.sizeOf d1) (hval 0 _ v0 rfl rfl) h0 (by omega) g0
  have g1 : ∀ x ∈ d1.weights Try.prog 25, x ≤ reachBytes := fun x hx => hall x (DataW.weights_mem_each (j := 1) rfl rfl x hx)
  obtain ⟨u1, l1⟩ := ex_of_arg (k := SizeOf.sizeOf d0 + SizeOf.sizeOf d1) (hval 1 _ v1 rfl rfl) h1 (by omega) g1
  refine (walk _ u0 v0 u1 v1 W l0 l1).mono fun e W' ⟨he, bel⟩ => ?_
  subst he
  exact ⟨_, rfl, _, _, _, [], _, [], hW', trodAll_mk1 (shut_bool Try.underlying4 _), (trodAll_cons_mk (Below.trod Try.laidOut (by kernel_rfl) (of_decide_eq_true (by kernel_rfl)) h0 bel (fun x hx => hlt x (by simp [hx]))) (trodAll_cons_mk (Below.trod Try.laidOut (by kernel_rfl) (of_decide_eq_true (by kernel_rfl)) h1 bel (fun x hx => hlt x (by simp [hx]))) trodAll_mk0)), rfl, bel.frame _, fun h => by cases h⟩

theorem over : Rows.exprSameRow.holds Try.pinned (OpenSpec.ofChange Rows.exprSameSpec) :=
  OpenClaim.holds_of_wide 5 Try.f5 rfl rfl rfl rfl rfl rfl rfl ⟨rfl, rfl, rfl, rfl, rfl⟩ rfl rfl rfl rfl rfl (by kernel_rfl) Try.func5 (by kernel_rfl)
    (of_decide_eq_true (by kernel_rfl)) (by unfold Func.isWrapper; first | (rw [if_pos (by decide +kernel)]; kernel_rfl) | (rw [if_neg (by decide +kernel)]; exact ⟨rfl, rfl⟩))
    (fun os started H enc _ => lifted os started H enc)

/-- THE STATEMENT. -/
theorem proved : Rows.ExprSameSaid := over
#print axioms proved
end Go.Proofs.Ytokakmcbpjbdpaa.exprSame
