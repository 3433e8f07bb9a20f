/-
  LisTells holds for every list: the places of its longest rising part, how long that is, and the other places are the page's; the list stays. No condition.
-/
import Derived.Test.YteceljjmandnmaaLiRefL
namespace Go.Proofs.Yteceljjmandnmaa.lisTells
open Go.ChangeShapes Go.WideShapes Go.ChangeAt Go.RowKit Go.Deep
open Li

set_option maxRecDepth 100000 in
set_option maxHeartbeats 3200000 in
theorem walk (ks : List Int) (x0 : Value) (w : World) (hx : NumsArg w x0 ks) :
    Calls Try.prog 3 #[x0] w fun e w' => e = .returned (.bool true) ∧ Below w.heap.size w w' := by
  obtain ⟨a, c, rfl, hnm⟩ := hx
  have HNM : Hid (Nm w a c ks) := hnm
  have hln : ks.length ≤ 140737488351232 := by have := hnm.2.2.2.1; omega
  have HI : Hid (I64 ks ∧ ks.length * 8 ≤ 140737488351232) := ⟨hnm.1.i64, hnm.2.2.2.1⟩
  clear hnm
  go_enter Try.func3, Try.ntmps3
  go_wp2_with fail
  refine (copyI_any ks a c w HNM.out).mono ?_
  rintro e w1 ⟨v, rfl, ho, hb⟩
  obtain ⟨oa, oc, hvs⟩ := ho.shape
  subst hvs
  have K1 : Hid (Nm w1 oa oc ks) := ho.nm HI.out.1 HI.out.2
  have L1 : Hid (Nm w1 a c ks) := HNM.out.below hb
  have B1 : Hid (Below w.heap.size w w1) := hb
  clear ho hb HNM
  go_wp2_with fail
  refine (longest_any ks oa oc w1 K1.out).mono ?_
  rintro e w2 ⟨v2, rfl, ho, hb⟩
  obtain ⟨va2, vc2, hvs⟩ := ho.shape
  subst hvs
  have R2 : Hid (Nm w2 va2 vc2 (lonR ks)) := ho.nm (lonR_i64 ks).1 (by have := (lonR_i64 ks).2; omega)
  have K2 : Hid (Nm w2 oa oc ks) := K1.out.below hb
  have L2 : Hid (Nm w2 a c ks) := L1.out.below hb
  have B2 : Hid (Below w.heap.size w w2) := nxt B1.out hb
  clear ho hb K1 L1 B1
  go_wp2_with fail
  refine (rlongest_any ks a c w2 L2.out).mono ?_
  rintro e w3 ⟨v3, rfl, ho, hb⟩
  obtain ⟨va3, vc3, hvs⟩ := ho.shape
  subst hvs
  have R3 : Hid (Nm w3 va3 vc3 (lonR ks)) := ho.nm (lonR_i64 ks).1 (by have := (lonR_i64 ks).2; omega)
  have K3 : Hid (Nm w3 oa oc ks) := K2.out.below hb
  have L3 : Hid (Nm w3 a c ks) := L2.out.below hb
  have B3 : Hid (Below w.heap.size w w3) := nxt B2.out hb
  replace R2 : Hid (Nm w3 va2 vc2 (lonR ks)) := R2.out.below hb
  clear ho hb K2 L2 B2
  go_wp2_with fail
  refine (length_any ks oa oc w3 K3.out).mono ?_
  rintro e w4 ⟨rfl, hb⟩
  have K4 : Hid (Nm w4 oa oc ks) := K3.out.below hb
  have L4 : Hid (Nm w4 a c ks) := L3.out.below hb
  have B4 : Hid (Below w.heap.size w w4) := nxt B3.out hb
  replace R2 : Hid (Nm w4 va2 vc2 (lonR ks)) := R2.out.below hb
  replace R3 : Hid (Nm w4 va3 vc3 (lonR ks)) := R3.out.below hb
  clear hb K3 L3 B3
  go_wp2_with fail
  refine (rlength_any ks a c w4 L4.out).mono ?_
  rintro e w5 ⟨rfl, hb⟩
  have K5 : Hid (Nm w5 oa oc ks) := K4.out.below hb
  have L5 : Hid (Nm w5 a c ks) := L4.out.below hb
  have B5 : Hid (Below w.heap.size w w5) := nxt B4.out hb
  replace R2 : Hid (Nm w5 va2 vc2 (lonR ks)) := R2.out.below hb
  replace R3 : Hid (Nm w5 va3 vc3 (lonR ks)) := R3.out.below hb
  clear hb K4 L4 B4
  go_wp2_with fail
  refine (moves_any ks oa oc w5 K5.out).mono ?_
  rintro e w6 ⟨v6, rfl, ho, hb⟩
  obtain ⟨va6, vc6, hvs⟩ := ho.shape
  subst hvs
  have R6 : Hid (Nm w6 va6 vc6 (movR ks)) := ho.nm (movR_i64 ks).1 (by have := (movR_i64 ks).2; omega)
  have K6 : Hid (Nm w6 oa oc ks) := K5.out.below hb
  have L6 : Hid (Nm w6 a c ks) := L5.out.below hb
  have B6 : Hid (Below w.heap.size w w6) := nxt B5.out hb
  replace R2 : Hid (Nm w6 va2 vc2 (lonR ks)) := R2.out.below hb
  replace R3 : Hid (Nm w6 va3 vc3 (lonR ks)) := R3.out.below hb
  clear ho hb K5 L5 B5
  go_wp2_with fail
  refine (rmoves_any ks a c w6 L6.out).mono ?_
  rintro e w7 ⟨v7, rfl, ho, hb⟩
  obtain ⟨va7, vc7, hvs⟩ := ho.shape
  subst hvs
  have R7 : Hid (Nm w7 va7 vc7 (movR ks)) := ho.nm (movR_i64 ks).1 (by have := (movR_i64 ks).2; omega)
  have K7 : Hid (Nm w7 oa oc ks) := K6.out.below hb
  have L7 : Hid (Nm w7 a c ks) := L6.out.below hb
  have B7 : Hid (Below w.heap.size w w7) := nxt B6.out hb
  replace R2 : Hid (Nm w7 va2 vc2 (lonR ks)) := R2.out.below hb
  replace R3 : Hid (Nm w7 va3 vc3 (lonR ks)) := R3.out.below hb
  replace R6 : Hid (Nm w7 va6 vc6 (movR ks)) := R6.out.below hb
  clear ho hb K6 L6 B6
  have S1 : Hid (∀ W, Below w7.heap.size w7 W → Calls Try.prog 16 #[.slice va2 (lonR ks).length vc2, .slice va3 (lonR ks).length vc3] W fun e w' => e = .returned (.bool (alike (lonR ks) (lonR ks))) ∧ Below W.heap.size W w') := fun W hb => sameI_any _ _ _ _ _ _ W (R2.out.below hb) (R3.out.below hb)
  have S2 : Hid (∀ W, Below w7.heap.size w7 W → Calls Try.prog 16 #[.slice va6 (movR ks).length vc6, .slice va7 (movR ks).length vc7] W fun e w' => e = .returned (.bool (alike (movR ks) (movR ks))) ∧ Below W.heap.size W w') := fun W hb => sameI_any _ _ _ _ _ _ W (R6.out.below hb) (R7.out.below hb)
  have S3 : Hid (∀ W, Below w7.heap.size w7 W → Calls Try.prog 16 #[.slice oa ks.length oc, .slice a ks.length c] W fun e w' => e = .returned (.bool (alike ks ks)) ∧ Below W.heap.size W w') := fun W hb => sameI_any _ _ _ _ _ _ W (K7.out.below hb) (L7.out.below hb)
  simp only [alike_same] at S1 S2 S3
  clear R2 R3 R6 R7 K7 L7 HI
  generalize errR ks = er
  generalize lenR ks = lr
  go_wp2_with (first
    | (go_at_call 17; refine (num_any _ _).mono ?_; rintro e w99 ⟨rfl, h99⟩; subst w99)
    | (go_at_call_of 16 (Value.slice va2 (lonR ks).length vc2); refine (S1.out _ (Below.refl _ _)).mono ?_; rintro e w8 ⟨rfl, hb8⟩; have B8 : Hid (Below w7.heap.size w7 w8) := hb8; clear hb8)
    | (go_at_call_of 16 (Value.slice va6 (movR ks).length vc6); refine (S2.out _ B8.out).mono ?_; rintro e w9 ⟨rfl, hb9⟩; have B9 : Hid (Below w7.heap.size w7 w9) := nxt B8.out hb9; clear hb9)
    | (go_at_call_of 16 (Value.slice oa ks.length oc); refine (S3.out _ B9.out).mono ?_; rintro e w10 ⟨rfl, hb10⟩; have B10 : Hid (Below w7.heap.size w7 w10) := nxt B9.out hb10; clear hb10)
    | (go_at_call 18; refine (alive_any _).mono ?_; rintro e w11 ⟨rfl, hb11⟩; have B11 : Hid (Below w7.heap.size w7 w11) := nxt B10.out hb11; clear hb11))
  go_ret
  exact ⟨rfl, nxt B7.out B11.out⟩

set_option maxRecDepth 100000 in
set_option maxHeartbeats 1600000 in
theorem lifted (os : Os) (started : os.Started) (H : Type) (enc : TypeId × Value → H) :
    ReturnsInHanded {} Try.checked os 3 .any (Rows.lisTellsSpec.pre6 enc Try.prog Try.f3 Rows.lisTellsRow.domain false) (Rows.lisTellsSpec.post enc Try.prog Try.f3 false true false false) := by
  refine returnsInHanded_of_change_sized (C := Try.checked) Try.own started (by kernel_rfl) Try.func3
    (ChangeSpec.witness6 (enc := enc) (C := Try.checked) false ⟨#[], #[.slice none 0 0], []⟩ 8 (by kernel_rfl) (by kernel_rfl) (by kernel_rfl) (by kernel_rfl)) ?_
  intro W base args ds gs before hval0 hW _ hsz0 _
  have hsz : (DataW.weightsEach Try.prog (Try.f3.params.toList ++ Rows.lisTellsSpec.plain.varTypes Try.prog) (ds ++ gs)).all (· ≤ reachBytes) = true := hsz0
  have hval : ∀ (j : Nat) t v, Try.f3.params[j]? = some t → args[j]? = some v → Value.okWide Try.prog W .any base t v := hval0
  have hW' := hW
  obtain ⟨p, q, hA0, hV, rfl, hfz, hnd⟩ := hW
  have hA : DataW.TrodAll enc Try.prog W 0 (fun _ => true) true Try.f3.params.toList args.toList ds p := hA0
  rw [Try.params3] at hA hval hsz
  obtain ⟨v0, vs0, d0, ds0, p0, q0, hargs, rfl, rfl, h0, r0⟩ := trodAll_cons hA
  obtain ⟨rfl, rfl, rfl⟩ := trodAll_nil r0
  obtain rfl : args = #[v0] := by cases args; simp_all
  obtain ⟨rfl, rfl⟩ := trodVars_none hV
  clear hA0 hval0
  simp only [List.append_nil] at hW' hsz
  have hlt : ∀ x ∈ p0, x.block < W.heap.size := fun x hx => hW'.lt x (by simpa using hx)
  have hall : ∀ x ∈ DataW.weightsEach Try.prog [22] [d0], x ≤ reachBytes := fun x hx => of_decide_eq_true (List.all_eq_true.1 hsz x hx)
  have g0 : ∀ x ∈ d0.weights Try.prog 22, x ≤ reachBytes := fun x hx => hall x (DataW.weights_mem_each (j := 0) rfl rfl x hx)
  obtain ⟨u0, l0⟩ := ints_of_arg (hval 0 _ v0 rfl rfl) h0 g0
  refine (walk u0 v0 W l0).mono fun e W' ⟨he, bel⟩ => ?_
  subst he
  exact ⟨_, rfl, _, _, _, [], _, [], hW', trodAll_mk1 (shut_bool Try.underlying4 _), (trodAll_cons_mk (Below.trod Try.laidOut (by kernel_rfl) (of_decide_eq_true (by kernel_rfl)) h0 bel (fun x hx => hlt x (by simp [hx]))) trodAll_mk0), rfl, bel.frame _, fun h => by cases h⟩

theorem over : Rows.lisTellsRow.holds Try.pinned (OpenSpec.ofChange Rows.lisTellsSpec) :=
  OpenClaim.holds_of_wide 3 Try.f3 rfl rfl rfl rfl rfl rfl rfl ⟨rfl, rfl, rfl, rfl, rfl⟩ rfl rfl rfl rfl rfl (by kernel_rfl) Try.func3 (by kernel_rfl)
    (of_decide_eq_true (by kernel_rfl)) (by unfold Func.isWrapper; first | (rw [if_pos (by decide +kernel)]; kernel_rfl) | (rw [if_neg (by decide +kernel)]; exact ⟨rfl, rfl⟩))
    (fun os started H enc _ => lifted os started H enc)

/-- THE STATEMENT. -/
theorem proved : Rows.LisTellsSaid := over
#print axioms proved
end Go.Proofs.Yteceljjmandnmaa.lisTells
