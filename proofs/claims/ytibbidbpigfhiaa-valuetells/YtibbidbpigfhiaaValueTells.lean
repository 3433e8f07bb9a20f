/-
  ValueTells holds for every value: whether it may be, how many parts it has and how deep it is are as the page says, and it stays. No condition.
-/
import Derived.Test.YtibbidbpigfhiaaVaGetOne
import Derived.Test.YtibbidbpigfhiaaVaRefWalk
import Derived.Test.YtibbidbpigfhiaaVaFrame
namespace Go.Proofs.Ytibbidbpigfhiaa.valueTells
open Go.ChangeShapes Go.WideShapes Go.ChangeAt Go.RowKit
open Fl

set_option maxRecDepth 100000 in
set_option maxHeartbeats 3200000 in
theorem walk (n : Nat) (v : V n) (x : Value) (w : World) (h : Lay w n x v) :
    Calls Try.prog 3 #[x] w fun e w' => e = .returned (.bool true) ∧ Below w.heap.size w w' := by
  obtain ⟨k, b, t, ka, kl, kc, ia, il, ic, rfl⟩ := Lay.shape n h
  have HL : Hid (Lay w n (mk k b t ka kl kc ia il ic) v) := h
  clear h
  generalize hr : msr (wk n v 1 (0, 0)) = r
  obtain ⟨c, d, er⟩ := r
  have HR : Hid (msr (wk n v 1 (0, 0)) = (c, d, er)) := hr
  clear hr
  go_enter Try.func3, Try.ntmps3
  go_wp2_with fail
  refine (copy_any n _ _ _ (Lay.below n HL.out (below_one _ _))).mono ?_
  rintro e w1 ⟨y, F, rfl, ho, hF, hb1⟩
  have hly := Own.lay n ho
  obtain ⟨k', b', t', ka', kl', kc', ia', il', ic', rfl⟩ := Lay.shape n hly
  have L1 : Hid (Lay w1 n (mk k' b' t' ka' kl' kc' ia' il' ic') v) := hly
  have B1 : Hid (Below w.heap.size w w1) := nxt (below_one _ _) hb1
  have x1 : Hid (w1.heap[w.heap.size]? = some (.cells #[.int .i64 k, .int .u64 b, .string t, .slice ka kl kc, .slice ia il ic] 26 (0, 0))) := by
    show _ = _
    rw [hb1.block _ (by simp)]
    exact heap_alloc_new _ _
  clear ho hF hb1 hly
  go_wp2_with fail
  refine (size_any n _ _ _ (Lay.below n L1.out (below_one _ _))).mono ?_
  rw [HR.out]
  rintro e w2 ⟨rfl, hb2⟩
  have B2 : Below w1.heap.size w1 w2 := nxt (below_one _ _) hb2
  obtain ⟨q0, q1, q2, q3, q4, -⟩ := box_cells ((B2.block _ (lt_of_block x1.out)).trans x1.out)
  obtain ⟨p0, p1, p2, p3, p4, -⟩ := box_cells ((hb2.block _ (by simp)).trans (heap_alloc_new w1 (.cells #[.int .i64 k', .int .u64 b', .string t', .slice ka' kl' kc', .slice ia' il' ic'] 26)))
  have HB2 : Hid (Below w1.heap.size w1 w2) := B2
  clear hb2 B2
  go_wp2_with fail
  refine (rsize_any n _ _ _ (Lay.below n HL.out (nxt B1.out HB2.out))).mono ?_
  rw [HR.out]
  rintro e w3 ⟨rfl, hb3⟩
  have B3 : Hid (Below w.heap.size w w3) := nxt (nxt B1.out HB2.out) hb3
  have L3 : Hid (Lay w3 n (mk k' b' t' ka' kl' kc' ia' il' ic') v) := Lay.below n L1.out (nxt HB2.out hb3)
  have M3 : Hid (Lay w3 n (mk k b t ka kl kc ia il ic) v) := Lay.below n HL.out B3.out
  have s0 := fun s => Cls.cell (keepc hb3 _ _ q0) s
  have s1 := fun s => Cls.cell (keepc hb3 _ _ q1) s
  have s2 := fun s => Cls.cell (keepc hb3 _ _ q2) s
  have s3 := fun s => Cls.cell (keepc hb3 _ _ q3) s
  have s4 := fun s => Cls.cell (keepc hb3 _ _ q4) s
  have t0 := fun s => Cls.cell (keepc hb3 _ _ p0) s
  have t1 := fun s => Cls.cell (keepc hb3 _ _ p1) s
  have t2 := fun s => Cls.cell (keepc hb3 _ _ p2) s
  have t3 := fun s => Cls.cell (keepc hb3 _ _ p3) s
  have t4 := fun s => Cls.cell (keepc hb3 _ _ p4) s
  have c1 : ∀ s : Cls w3, Calls Try.prog 13 #[mk k' b' t' ka' kl' kc' ia' il' ic'] s.1 fun e w' => e = .returned (.int .i64 er) ∧ Below s.1.heap.size s.1 w' := fun s => by
    have := check_any n _ _ _ (Cls.lay L3.out s)
    rw [HR.out] at this
    exact this
  have c2 : ∀ s : Cls w3, Calls Try.prog 14 #[mk k b t ka kl kc ia il ic] s.1 fun e w' => e = .returned (.int .i64 er) ∧ Below s.1.heap.size s.1 w' := fun s => by
    have := rcheck_any n _ _ _ (Cls.lay M3.out s)
    rw [HR.out] at this
    exact this
  have c3 : ∀ s : Cls w3, Calls Try.prog 15 #[mk k' b' t' ka' kl' kc' ia' il' ic', mk k b t ka kl kc ia il ic] s.1 fun e w' => e = .returned (.bool true) ∧ Below s.1.heap.size s.1 w' := fun s => by
    have := same_any n _ _ _ _ _ (Cls.lay L3.out s) (Cls.lay M3.out s)
    rw [one_true rfl] at this
    exact this
  have inst : Nonempty (Cls w3) := ⟨⟨w3, Below.refl _ _⟩⟩
  have C1 : Hid _ := c1
  have C2 : Hid _ := c2
  have C3 : Hid _ := c3
  clear c1 c2 c3 hb3 q0 q1 q2 q3 q4 p0 p1 p2 p3 p4
  go_wp2_with fail
  refine wp_region_cls (by kernel_rfl) (by kernel_rfl) ?_
  repeat (go_big_quiet_step (first | (go_at_call 13; exact Calls.cls (C1.out _)) | (go_at_call 12; exact Calls.cls_same (num_any _ _)) | (go_at_call 14; exact Calls.cls (C2.out _)) | (go_at_call 15; exact Calls.cls (C3.out _)) | (go_at_call 16; exact Calls.cls (alive_any _))))
  refine wpQuiet_nil ?_
  intro _ hw'
  obtain ⟨s, hw''⟩ := hw'
  subst hw''
  go_wp2_with fail
  go_ret
  exact ⟨rfl, nxt B3.out s.2⟩

set_option maxRecDepth 100000 in
set_option maxHeartbeats 1600000 in
theorem lifted (os : Os) (started : os.Started) (H : Type) (enc : TypeId × Value → H) :
    ReturnsInHanded {} Try.checked os 3 .any (Rows.valueTellsSpec.pre6 enc Try.prog Try.f3 Rows.valueTellsRow.domain false) (Rows.valueTellsSpec.post enc Try.prog Try.f3 false true false false) := by
  refine returnsInHanded_of_change_sized (C := Try.checked) Try.own started (by kernel_rfl) Try.func3
    (ChangeSpec.witness6 (enc := enc) (C := Try.checked) false ⟨#[], #[.agg #[.int .i64 0, .int .u64 0, .string ⟨#[]⟩, .slice none 0 0, .slice none 0 0]], []⟩ 8 (by kernel_rfl) (by kernel_rfl) (by kernel_rfl) (by kernel_rfl)) ?_
  intro W base args ds gs before hval0 hW _ hsz0 _
  have hsz : (DataW.weightsEach Try.prog (Try.f3.params.toList ++ Rows.valueTellsSpec.plain.varTypes Try.prog) (ds ++ gs)).all (· ≤ reachBytes) = true := hsz0
  have hval : ∀ (j : Nat) t v, Try.f3.params[j]? = some t → args[j]? = some v → Value.okWide Try.prog W .any base t v := hval0
  have hW' := hW
  obtain ⟨p, q, hA0, hV, rfl, hfz, hnd⟩ := hW
  have hA : DataW.TrodAll enc Try.prog W 0 (fun _ => true) true Try.f3.params.toList args.toList ds p := hA0
  rw [Try.params3] at hA hval hsz
  obtain ⟨v0, vs0, d0, ds0, p0, q0, hargs, rfl, rfl, h0, r0⟩ := trodAll_cons hA
  obtain ⟨rfl, rfl, rfl⟩ := trodAll_nil r0
  obtain rfl : args = #[v0] := by cases args; simp_all
  obtain ⟨rfl, rfl⟩ := trodVars_none hV
  clear hA0 hval0
  simp only [List.append_nil] at hW' hsz
  have hlt : ∀ x ∈ p0, x.block < W.heap.size := fun x hx => hW'.lt x (by simpa using hx)
  have hall : ∀ x ∈ DataW.weightsEach Try.prog [26] [d0], x ≤ reachBytes := fun x hx => of_decide_eq_true (List.all_eq_true.1 hsz x hx)
  have g0 : ∀ x ∈ d0.weights Try.prog 26, x ≤ reachBytes := fun x hx => hall x (DataW.weights_mem_each (j := 0) rfl rfl x hx)
  obtain ⟨u0, l0⟩ := lay_of_arg (k := SizeOf.sizeOf d0) (hval 0 _ v0 rfl rfl) h0 (by omega) g0
  refine (walk _ u0 v0 W l0).mono fun e W' ⟨he, bel⟩ => ?_
  subst he
  exact ⟨_, rfl, _, _, _, [], _, [], hW', trodAll_mk1 (shut_bool Try.underlying4 _), (trodAll_cons_mk (Below.trod Try.laidOut (by kernel_rfl) (of_decide_eq_true (by kernel_rfl)) h0 bel (fun x hx => hlt x (by simp [hx]))) trodAll_mk0), rfl, bel.frame _, fun h => by cases h⟩

theorem over : Rows.valueTellsRow.holds Try.pinned (OpenSpec.ofChange Rows.valueTellsSpec) :=
  OpenClaim.holds_of_wide 3 Try.f3 rfl rfl rfl rfl rfl rfl rfl ⟨rfl, rfl, rfl, rfl, rfl⟩ rfl rfl rfl rfl rfl (by kernel_rfl) Try.func3 (by kernel_rfl)
    (of_decide_eq_true (by kernel_rfl)) (by unfold Func.isWrapper; first | (rw [if_pos (by decide +kernel)]; kernel_rfl) | (rw [if_neg (by decide +kernel)]; exact ⟨rfl, rfl⟩))
    (fun os started H enc _ => lifted os started H enc)

/-- THE STATEMENT. -/
theorem proved : Rows.ValueTellsSaid := over
#print axioms proved
end Go.Proofs.Ytibbidbpigfhiaa.valueTells
