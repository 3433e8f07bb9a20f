/-
  EvalTrue holds for every value: whether it is true, and the error where it is no truth, are as the page says; and the page's example comes out. No condition.
-/
import Derived.Test.YtndclldicdfmeaaGreatEvTrue
import Derived.Test.YtndclldicdfmeaaGreatVaFrame
namespace Go.Proofs.YtndclldicdfmeaaGreat.evalTrue
open Go.ChangeShapes Go.WideShapes Go.ChangeAt Go.RowKit Go.Deep
open Fl

set_option maxRecDepth 100000 in
set_option maxHeartbeats 3200000 in
theorem walk (n : Nat) (v : V n) (x : Value) (w : World) (h : Lay w n x v) :
    Calls Tryz.prog 4 #[x] w fun e w' => e = .returned (.bool true) ∧ Below w.heap.size w w' := by
  obtain ⟨k, b, t, ka, kl, kc, ia, il, ic, rfl⟩ := Lay.shape n h
  have HL : Hid (Lay w n (mk k b t ka kl kc ia il ic) v) := h
  clear h
  go_enter Tryz.func4, Tryz.ntmps4
  go_wp2_with fail
  refine (copy_any n _ _ _ (Lay.below n HL.out (below_one _ _))).mono ?_
  rintro e w1 ⟨y, F, rfl, ho, hF, hb1⟩
  have hly := Own.lay n ho
  obtain ⟨k', b', t', ka', kl', kc', ia', il', ic', rfl⟩ := Lay.shape n hly
  obtain ⟨rfl, rfl⟩ := lay_kb n HL.out hly
  have B1 : Hid (Below w.heap.size w w1) := nxt (below_one _ _) hb1
  have X1 : Hid (w1.heap[w.heap.size]? = some (.cells #[.int .i64 k', .int .u64 b', .string t, .slice ka kl kc, .slice ia il ic] 29 (0, 0))) := by
    show _ = _
    rw [hb1.block _ (by simp)]
    exact heap_alloc_new _ _
  have HT : Hid (∀ w2, Below w1.heap.size w1 w2 → Calls Tryz.prog 18 #[mk k' b' t' ka' kl' kc' ia' il' ic'] w2 fun e w' => e = .returned (.tuple #[.bool (trB k' b' (msr (wk n v 1 (0, 0))).2.2).1, .int .i64 (trB k' b' (msr (wk n v 1 (0, 0))).2.2).2]) ∧ Below w2.heap.size w2 w') := fun w2 hb => true_any n v k' b' t' ka' kl' kc' ia' il' ic' w2 (Lay.below n hly hb) _ rfl
  have HR : Hid (∀ w2, Below w1.heap.size w1 w2 → Calls Tryz.prog 20 #[mk k' b' t ka kl kc ia il ic] w2 fun e w' => e = .returned (.tuple #[.bool (trB k' b' (msr (wk n v 1 (0, 0))).2.2).1, .int .i64 (trB k' b' (msr (wk n v 1 (0, 0))).2.2).2]) ∧ Below w2.heap.size w2 w') := fun w2 hb => rtrue_any n v k' b' t ka kl kc ia il ic w2 (Lay.below n HL.out (nxt B1.out hb)) _ rfl
  clear ho hF hb1 hly
  generalize trB k' b' (msr (wk n v 1 (0, 0))).2.2 = r at *
  obtain ⟨p, q⟩ := r
  go_wp2_with (first
    | (go_at_call 18; refine (HT.out _ (Below.refl _ _)).mono ?_; rintro e w2 ⟨rfl, hb2⟩; obtain ⟨x0, x1, x2, x3, x4, -⟩ := box_cells ((hb2.block _ (lt_of_block X1.out)).trans X1.out))
    | (go_at_call 20; refine (HR.out _ hb2).mono ?_; rintro e w3 ⟨rfl, hb3⟩)
    | (go_at_call 14; refine (num_any _ _).mono ?_; rintro e w4 ⟨rfl, rfl⟩)
    | (go_at_call 17; refine (alive_any _).mono ?_; rintro e w5 ⟨rfl, hb5⟩))
  go_ret
  exact ⟨rfl, nxt B1.out (nxt hb2 (nxt hb3 hb5))⟩

set_option maxRecDepth 100000 in
set_option maxHeartbeats 1600000 in
theorem lifted (os : Os) (started : os.Started) (H : Type) (enc : TypeId × Value → H) :
    ReturnsInHanded {} Tryz.checked os 4 .any (Rows.evalTrueSpec.pre6 enc Tryz.prog Tryz.f4 Rows.evalTrueRow.domain false) (Rows.evalTrueSpec.post enc Tryz.prog Tryz.f4 false true false false) := by
  refine returnsInHanded_of_change_sized (C := Tryz.checked) Tryz.own started (by kernel_rfl) Tryz.func4
    (ChangeSpec.witness6 (enc := enc) (C := Tryz.checked) false ⟨#[], #[.agg #[.int .i64 0, .int .u64 0, .string ⟨#[]⟩, .slice none 0 0, .slice none 0 0]], []⟩ 8 (by kernel_rfl) (by kernel_rfl) (by kernel_rfl) (by kernel_rfl)) ?_
  intro W base args ds gs before hval0 hW _ hsz0 _
  have hsz : (DataW.weightsEach Tryz.prog (Tryz.f4.params.toList ++ Rows.evalTrueSpec.plain.varTypes Tryz.prog) (ds ++ gs)).all (· ≤ reachBytes) = true := hsz0
  have hval : ∀ (j : Nat) t v, Tryz.f4.params[j]? = some t → args[j]? = some v → Value.okWide Tryz.prog W .any base t v := hval0
  have hW' := hW
  obtain ⟨p, q, hA0, hV, rfl, hfz, hnd⟩ := hW
  have hA : DataW.TrodAll enc Tryz.prog W 0 (fun _ => true) true Tryz.f4.params.toList args.toList ds p := hA0
  rw [Tryz.params4] at hA hval hsz
  obtain ⟨v0, vs0, d0, ds0, p0, q0, hargs, rfl, rfl, h0, r0⟩ := trodAll_cons hA
  obtain ⟨rfl, rfl, rfl⟩ := trodAll_nil r0
  obtain rfl : args = #[v0] := by cases args; simp_all
  obtain ⟨rfl, rfl⟩ := trodVars_none hV
  clear hA0 hval0
  simp only [List.append_nil] at hW' hsz
  have hlt : ∀ x ∈ p0, x.block < W.heap.size := fun x hx => hW'.lt x (by simpa using hx)
  have hall : ∀ x ∈ DataW.weightsEach Tryz.prog [29] [d0], x ≤ reachBytes := fun x hx => of_decide_eq_true (List.all_eq_true.1 hsz x hx)
  have g0 : ∀ x ∈ d0.weights Tryz.prog 29, x ≤ reachBytes := fun x hx => hall x (DataW.weights_mem_each (j := 0) rfl rfl x hx)
  obtain ⟨u0, l0⟩ := lay_of_arg (k := SizeOf.sizeOf d0) (hval 0 _ v0 rfl rfl) h0 (by omega) g0
  refine (walk _ u0 v0 W l0).mono fun e W' ⟨he, bel⟩ => ?_
  subst he
  exact ⟨_, rfl, _, _, _, [], _, [], hW', trodAll_mk1 (shut_bool Tryz.underlying4 _), (trodAll_cons_mk (Below.trod Tryz.laidOut (by kernel_rfl) (of_decide_eq_true (by kernel_rfl)) h0 bel (fun x hx => hlt x (by simp [hx]))) trodAll_mk0), rfl, bel.frame _, fun h => by cases h⟩

theorem over : Rows.evalTrueRow.holds Tryz.pinned (OpenSpec.ofChange Rows.evalTrueSpec) :=
  OpenClaim.holds_of_wide 4 Tryz.f4 rfl rfl rfl rfl rfl rfl rfl ⟨rfl, rfl, rfl, rfl, rfl⟩ rfl rfl rfl rfl rfl (by kernel_rfl) Tryz.func4 (by kernel_rfl)
    (of_decide_eq_true (by kernel_rfl)) (by unfold Func.isWrapper; first | (rw [if_pos (by decide +kernel)]; kernel_rfl) | (rw [if_neg (by decide +kernel)]; exact ⟨rfl, rfl⟩))
    (fun os started H enc _ => lifted os started H enc)

/-- THE STATEMENT. -/
theorem proved : Rows.EvalTrueSaid := over
#print axioms proved
end Go.Proofs.YtndclldicdfmeaaGreat.evalTrue
