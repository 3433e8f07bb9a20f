/-
  TreeSame holds for every two trees: whether they are the same is as the page says, and they stay. No condition.
-/
import Derived.Test.YtoheppocolbjkaaTrEq
import Derived.Test.YtoheppocolbjkaaTrPair
import Derived.Test.YtoheppocolbjkaaTrPrint
namespace Go.Proofs.Ytoheppocolbjkaa.treeSame
open Go.ChangeShapes Go.WideShapes Go.ChangeAt Go.RowKit

theorem smT_self {n : Nat} (u : T n) : smT u u = decide ((sizeT u).1 = 0) := by
  unfold smT
  rw [one_true rfl]
  simp

set_option maxRecDepth 100000 in
set_option maxHeartbeats 12800000 in
theorem walk (n : Nat) (u : T n) (x : Value) (v : T n) (y : Value) (w : World) (hu : LayT w n x u) (hv : LayT w n y v) :
    Calls Try.prog 4 #[x, y] w fun e w' => e = .returned (.bool true) ∧ Below w.heap.size w w' := by
  obtain ⟨g, k, t, ka, kl, kc, ia, il, ic, rfl⟩ := LayT.shape n hu
  obtain ⟨g', k', t', ka', kl', kc', ia', il', ic', rfl⟩ := LayT.shape n hv
  have HU : Hid (LayT w n (mkT g k t ka kl kc ia il ic) u) := hu
  have HV : Hid (LayT w n (mkT g' k' t' ka' kl' kc' ia' il' ic') v) := hv
  clear hu hv
  go_enter Try.func4, Try.ntmps4
  go_wp2_with fail
  have T0 := boxed2 (Below.refl ((w.alloc (.cells #[.string g, .string k, .string t, .slice ka kl kc, .slice ia il ic] 25)).alloc (.cells #[.string g', .string k', .string t', .slice ka' kl' kc', .slice ia' il' ic'] 25)).heap.size _)
  have B0 := below2 w (.cells #[.string g, .string k, .string t, .slice ka kl kc, .slice ia il ic] 25) (.cells #[.string g', .string k', .string t', .slice ka' kl' kc', .slice ia' il' ic'] 25)
  generalize (w.alloc (.cells #[.string g, .string k, .string t, .slice ka kl kc, .slice ia il ic] 25)).alloc (.cells #[.string g', .string k', .string t', .slice ka' kl' kc', .slice ia' il' ic'] 25) = W2 at T0 B0 ⊢
  have HB0 : Hid (Below w.heap.size w W2) := B0
  have HT0 : Hid (_ ∧ _) := T0
  clear B0 T0
  refine pair_region (d0 := 8) (d1 := 9) (d2 := 10) (d3 := 11) (p := 5) (q := 6) (s0 := 2) (s1 := 3) (pos := "law.go:33") (u := u) (v := v) (x := mkT g k t ka kl kc ia il ic) (y := mkT g' k' t' ka' kl' kc' ia' il' ic')
    (fun v0 v1 v2 v3 v5 v6 => { tmps := #[mkT g k t ka kl kc ia il ic, mkT g' k' t' ka' kl' kc' ia' il' ic', .pointer (some ⟨w.heap.size, 0, none⟩), .pointer (some ⟨w.heap.size + 1, 0, none⟩), .bool false, v5, v6, undef, v0, v1, v2, v3, undef, undef, undef, undef, undef, undef, undef, undef, undef, undef, undef, undef, undef, undef, undef, undef, undef, undef, undef, undef, undef, undef, undef, undef, undef, undef, undef, undef, undef, undef, undef], defers := [] })
    (by intros; rfl) (by intros; rfl) (by intros; rfl) (by intros; rfl) (by intros; rfl) (by intros; rfl) (by intros; rfl) (by intros; rfl) (by intros; rfl) (by intros; rfl) (by intros; rfl) (by intros; rfl) (by intros; rfl) (by intros; rfl)
    (LayT.below n HU.out HB0.out) (LayT.below n HV.out HB0.out) HT0.out.1 HT0.out.2 ?_
  intro y3 y4 g5 g6 F3 F4 w3 ho3 ho4 hg5 hg6 _ _ _ _ _ hb3
  have hl3 := OwnT.lay n ho3
  have hl4 := OwnT.lay n ho4
  obtain ⟨k3, b3, t3, ka3, kl3, kc3, ia3, il3, ic3, rfl⟩ := LayT.shape n hl3
  obtain ⟨k4, b4, t4, ka4, kl4, kc4, ia4, il4, ic4, rfl⟩ := LayT.shape n hl4
  have L3 : Hid (LayT w3 n (mkT k3 b3 t3 ka3 kl3 kc3 ia3 il3 ic3) u) := hl3
  have L4 : Hid (LayT w3 n (mkT k4 b4 t4 ka4 kl4 kc4 ia4 il4 ic4) v) := hl4
  have G5 : Hid (w3.heap[g5]? = some (.cells #[.string k3, .string b3, .string t3, .slice ka3 kl3 kc3, .slice ia3 il3 ic3] 25 (0, 0))) := hg5
  have G6 : Hid (w3.heap[g6]? = some (.cells #[.string k4, .string b4, .string t4, .slice ka4 kl4 kc4, .slice ia4 il4 ic4] 25 (0, 0))) := hg6
  have G2 : Hid (w3.heap[w.heap.size]? = some (.cells #[.string g, .string k, .string t, .slice ka kl kc, .slice ia il ic] 25 (0, 0))) := (hb3.block _ (lt_of_block HT0.out.1)).trans HT0.out.1
  have G3 : Hid (w3.heap[w.heap.size + 1]? = some (.cells #[.string g', .string k', .string t', .slice ka' kl' kc', .slice ia' il' ic'] 25 (0, 0))) := (hb3.block _ (lt_of_block HT0.out.2)).trans HT0.out.2
  have B3 : Hid (Below w.heap.size w w3) := nxt HB0.out hb3
  clear ho3 ho4 hg5 hg6 hb3 hl3 hl4 HT0 HB0
  obtain ⟨p0, p1, p2, p3, p4, -⟩ := box_cells G2.out
  have CC : Hid (Calls Try.prog 18 #[mkT g k t ka kl kc ia il ic] w3 fun e w' => e = .returned (.int .i64 (sizeT u).1) ∧ Below w3.heap.size w3 w') := rcheck_any n u _ w3 (LayT.below n HU.out B3.out)
  have D1 : Hid (∀ W, Below w3.heap.size w3 W → Calls Try.prog 21 #[mkT k3 b3 t3 ka3 kl3 kc3 ia3 il3 ic3, mkT k4 b4 t4 ka4 kl4 kc4 ia4 il4 ic4] W fun e w' => e = .returned (.bool (smT u v)) ∧ Below W.heap.size W w') := fun W h => tsame_any n u v _ _ W (LayT.below n L3.out h) (LayT.below n L4.out h)
  have D2 : Hid (∀ W, Below w3.heap.size w3 W → Calls Try.prog 22 #[mkT g k t ka kl kc ia il ic, mkT g' k' t' ka' kl' kc' ia' il' ic'] W fun e w' => e = .returned (.bool (smT u v)) ∧ Below W.heap.size W w') := fun W h => rsm_any n u v _ _ W (LayT.below n HU.out (nxt B3.out h)) (LayT.below n HV.out (nxt B3.out h))
  have D3 : Hid (∀ W, Below w3.heap.size w3 W → Calls Try.prog 9 #[mkT g k t ka kl kc ia il ic] W fun e w' => ∃ y, e = .returned y ∧ LayT w' n y u ∧ Below W.heap.size W w') := fun W h => (copyT_any n u _ W (LayT.below n HU.out (nxt B3.out h))).mono fun e w' ⟨y, F, e1, e2, _, e3⟩ => ⟨y, e1, OwnT.lay n e2, e3⟩
  have D4 : Hid (∀ W y, Below w3.heap.size w3 W → LayT W n y u → Calls Try.prog 21 #[mkT k3 b3 t3 ka3 kl3 kc3 ia3 il3 ic3, y] W fun e w' => e = .returned (.bool (decide ((sizeT u).1 = 0))) ∧ Below W.heap.size W w') := fun W y h hy => by
    have := tsame_any n u u _ _ W (LayT.below n L3.out h) hy
    rw [smT_self] at this
    exact this
  have D5 : Hid (∀ W, Below w3.heap.size w3 W → Calls Try.prog 19 #[mkT k3 b3 t3 ka3 kl3 kc3 ia3 il3 ic3, mkT g k t ka kl kc ia il ic] W fun e w' => e = .returned (.bool true) ∧ Below W.heap.size W w') := fun W h => by
    have := sameT_any n u u _ _ W (LayT.below n L3.out h) (LayT.below n HU.out (nxt B3.out h))
    rw [one_true rfl] at this
    exact this
  have D6 : Hid (∀ W, Below w3.heap.size w3 W → Calls Try.prog 19 #[mkT k4 b4 t4 ka4 kl4 kc4 ia4 il4 ic4, mkT g' k' t' ka' kl' kc' ia' il' ic'] W fun e w' => e = .returned (.bool true) ∧ Below W.heap.size W w') := fun W h => by
    have := sameT_any n v v _ _ W (LayT.below n L4.out h) (LayT.below n HV.out (nxt B3.out h))
    rw [one_true rfl] at this
    exact this
  clear L3 L4
  generalize smT u v = S at *
  have HE : Hid (∃ e, e = (sizeT u).1) := ⟨_, rfl⟩
  obtain ⟨er, her⟩ := HE.out
  rw [← her] at CC D4
  clear HE her
  have hz : Hid ((er == 0) = decide (er = 0)) := by show _ = _; by_cases h : er = 0 <;> simp [h]
  generalize decide (er = 0) = z at *
  have hz' := hz.out
  clear hz
  go_wp2_with fail
  refine CC.out.mono ?_
  rintro e w4 ⟨rfl, hb4⟩
  have H4 : Hid (Below w3.heap.size w3 w4) := hb4
  clear p0 p1 p2 p3 p4 CC
  obtain ⟨p0, p1, p2, p3, p4, -⟩ := box_cells ((hb4.block _ (lt_of_block G2.out)).trans G2.out)
  obtain ⟨q0, q1, q2, q3, q4, -⟩ := box_cells ((hb4.block _ (lt_of_block G3.out)).trans G3.out)
  obtain ⟨a0, a1, a2, a3, a4, -⟩ := box_cells ((hb4.block _ (lt_of_block G5.out)).trans G5.out)
  obtain ⟨c0, c1, c2, c3, c4, -⟩ := box_cells ((hb4.block _ (lt_of_block G6.out)).trans G6.out)
  clear G2 G3 G5 G6 hb4
  have b0 : Below w3.heap.size w3 w4.drew := H4.out.drew
  cases S <;> cases z
  all_goals
    go_wp2_with fail
    go_region_held3 (fun w' => w'.cell? ⟨w.heap.size, 0, none⟩ = some (.string g) ∧ w'.cell? ⟨w.heap.size, 1, none⟩ = some (.string k) ∧ w'.cell? ⟨w.heap.size, 2, none⟩ = some (.string t) ∧ w'.cell? ⟨w.heap.size, 3, none⟩ = some (.slice ka kl kc) ∧ w'.cell? ⟨w.heap.size, 4, none⟩ = some (.slice ia il ic) ∧
      w'.cell? ⟨w.heap.size + 1, 0, none⟩ = some (.string g') ∧ w'.cell? ⟨w.heap.size + 1, 1, none⟩ = some (.string k') ∧ w'.cell? ⟨w.heap.size + 1, 2, none⟩ = some (.string t') ∧ w'.cell? ⟨w.heap.size + 1, 3, none⟩ = some (.slice ka' kl' kc') ∧ w'.cell? ⟨w.heap.size + 1, 4, none⟩ = some (.slice ia' il' ic') ∧
      w'.cell? ⟨g5, 0, none⟩ = some (.string k3) ∧ w'.cell? ⟨g5, 1, none⟩ = some (.string b3) ∧ w'.cell? ⟨g5, 2, none⟩ = some (.string t3) ∧ w'.cell? ⟨g5, 3, none⟩ = some (.slice ka3 kl3 kc3) ∧ w'.cell? ⟨g5, 4, none⟩ = some (.slice ia3 il3 ic3) ∧
      w'.cell? ⟨g6, 0, none⟩ = some (.string k4) ∧ w'.cell? ⟨g6, 1, none⟩ = some (.string b4) ∧ w'.cell? ⟨g6, 2, none⟩ = some (.string t4) ∧ w'.cell? ⟨g6, 3, none⟩ = some (.slice ka4 kl4 kc4) ∧ w'.cell? ⟨g6, 4, none⟩ = some (.slice ia4 il4 ic4)) (go_keep)
      (first
        | (go_at_call_of 21 (Value.string t4); refine (D1.out _ (by assumption)).mono ?_; rintro e w' ⟨rfl, hb⟩; have hk := keepc hb; have bN := nxt (by assumption) hb; clear hb)
        | (go_at_call 22; refine (D2.out _ (by assumption)).mono ?_; rintro e w' ⟨rfl, hb⟩; have hk := keepc hb; have bN := nxt (by assumption) hb; clear hb)
        | (go_at_call 9; refine (D3.out _ (by assumption)).mono ?_; rintro e w' ⟨yc, rfl, HL, hb⟩; have hk := keepc hb; have bN := nxt (by assumption) hb; clear hb)
        | (go_at_call 21; refine (D4.out _ _ (by assumption) (by assumption)).mono ?_; rintro e w' ⟨rfl, hb⟩; have hk := keepc hb; have bN := nxt (by assumption) hb; clear hb)
        | (go_at_call_of 19 (Value.string t3); refine (D5.out _ (by assumption)).mono ?_; rintro e w' ⟨rfl, hb⟩; have hk := keepc hb; have bN := nxt (by assumption) hb; clear hb)
        | (go_at_call_of 19 (Value.string t4); refine (D6.out _ (by assumption)).mono ?_; rintro e w' ⟨rfl, hb⟩; have hk := keepc hb; have bN := nxt (by assumption) hb; clear hb)
        | (go_at_call 20; refine (alive_any _).mono ?_; rintro e w' ⟨rfl, hb⟩; have hk := keepc hb; have bN := nxt (by assumption) hb; clear hb))
    go_wp2_with fail
    go_ret
    exact ⟨rfl, nxt B3.out (by assumption)⟩

set_option maxRecDepth 100000 in
set_option maxHeartbeats 1600000 in
theorem lifted (os : Os) (started : os.Started) (H : Type) (enc : TypeId × Value → H) :
    ReturnsInHanded {} Try.checked os 4 .any (Rows.treeSameSpec.pre6 enc Try.prog Try.f4 Rows.treeSameRow.domain false) (Rows.treeSameSpec.post enc Try.prog Try.f4 false true false false) := by
  refine returnsInHanded_of_change_sized (C := Try.checked) Try.own started (by kernel_rfl) Try.func4
    (ChangeSpec.witness6 (enc := enc) (C := Try.checked) false ⟨#[], #[.agg #[.string ⟨#[]⟩, .string ⟨#[]⟩, .string ⟨#[]⟩, .slice none 0 0, .slice none 0 0], .agg #[.string ⟨#[]⟩, .string ⟨#[]⟩, .string ⟨#[]⟩, .slice none 0 0, .slice none 0 0]], []⟩ 8 (by kernel_rfl) (by kernel_rfl) (by kernel_rfl) (by kernel_rfl)) ?_
  intro W base args ds gs before hval0 hW _ hsz0 _
  have hsz : (DataW.weightsEach Try.prog (Try.f4.params.toList ++ Rows.treeSameSpec.plain.varTypes Try.prog) (ds ++ gs)).all (· ≤ reachBytes) = true := hsz0
  have hval : ∀ (j : Nat) t v, Try.f4.params[j]? = some t → args[j]? = some v → Value.okWide Try.prog W .any base t v := hval0
  have hW' := hW
  obtain ⟨p, q, hA0, hV, rfl, hfz, hnd⟩ := hW
  have hA : DataW.TrodAll enc Try.prog W 0 (fun _ => true) true Try.f4.params.toList args.toList ds p := hA0
  rw [Try.params4] at hA hval hsz
  obtain ⟨v0, vs0, d0, ds0, p0, q0, hargs, rfl, rfl, h0, r0⟩ := trodAll_cons hA
  obtain ⟨v1, vs1, d1, ds1, p1, q1, rfl, rfl, rfl, h1, r1⟩ := trodAll_cons r0
  obtain ⟨rfl, rfl, rfl⟩ := trodAll_nil r1
  obtain rfl : args = #[v0, v1] := by cases args; simp_all
  obtain ⟨rfl, rfl⟩ := trodVars_none hV
  clear hA0 hval0
  simp only [List.append_nil] at hW' hsz
  have hlt : ∀ x ∈ p0 ++ p1, x.block < W.heap.size := fun x hx => hW'.lt x (by simpa using hx)
  have hall : ∀ x ∈ DataW.weightsEach Try.prog [25, 25] [d0, d1], x ≤ reachBytes := fun x hx => of_decide_eq_true (List.all_eq_true.1 hsz x hx)
  have g0 : ∀ x ∈ d0.weights Try.prog 25, x ≤ reachBytes := fun x hx => hall x (DataW.weights_mem_each (j := 0) rfl rfl x hx)
  obtain ⟨u0, l0⟩ := tree_of_arg (k := SizeOf.sizeOf d0 + SizeOf.sizeOf d1) (hval 0 _ v0 rfl rfl) h0 (by omega) g0
  have g1 : ∀ x ∈ d1.weights Try.prog 25, x ≤ reachBytes := fun x hx => hall x (DataW.weights_mem_each (j := 1) rfl rfl x hx)
  obtain ⟨u1, l1⟩ := tree_of_arg (k := SizeOf.sizeOf d0 + SizeOf.sizeOf d1) (hval 1 _ v1 rfl rfl) h1 (by omega) g1
  refine (walk _ u0 v0 u1 v1 W l0 l1).mono fun e W' ⟨he, bel⟩ => ?_
  subst he
  exact ⟨_, rfl, _, _, _, [], _, [], hW', trodAll_mk1 (shut_bool Try.underlying4 _), (trodAll_cons_mk (Below.trod Try.laidOut (by kernel_rfl) (of_decide_eq_true (by kernel_rfl)) h0 bel (fun x hx => hlt x (by simp [hx]))) (trodAll_cons_mk (Below.trod Try.laidOut (by kernel_rfl) (of_decide_eq_true (by kernel_rfl)) h1 bel (fun x hx => hlt x (by simp [hx]))) trodAll_mk0)), rfl, bel.frame _, fun h => by cases h⟩

theorem over : Rows.treeSameRow.holds Try.pinned (OpenSpec.ofChange Rows.treeSameSpec) :=
  OpenClaim.holds_of_wide 4 Try.f4 rfl rfl rfl rfl rfl rfl rfl ⟨rfl, rfl, rfl, rfl, rfl⟩ rfl rfl rfl rfl rfl (by kernel_rfl) Try.func4 (by kernel_rfl)
    (of_decide_eq_true (by kernel_rfl)) (by unfold Func.isWrapper; first | (rw [if_pos (by decide +kernel)]; kernel_rfl) | (rw [if_neg (by decide +kernel)]; exact ⟨rfl, rfl⟩))
    (fun os started H enc _ => lifted os started H enc)

/-- THE STATEMENT. -/
theorem proved : Rows.TreeSameSaid := over
#print axioms proved
end Go.Proofs.Ytoheppocolbjkaa.treeSame
