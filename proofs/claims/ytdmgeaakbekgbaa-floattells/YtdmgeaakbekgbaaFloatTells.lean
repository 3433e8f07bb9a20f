/-
  For every 64 bits b and every whole number n: the one NaN, the class, the place in order, the floor and the whole number of b, and n as a number, are the page's, as the law FloatTells says. No conditions.
-/
import Derived.Test.YtdmgeaakbekgbaaFlRefInt
namespace Go.Proofs.Ytdmgeaakbekgbaa.floatTells
open Go.ChangeShapes Go.WideShapes Go.ChangeAt Go.RowKit
open Fl

set_option maxHeartbeats 1000000 in
theorem walk (a0 a1 : Int) (w0 : (Lit.int .u64 a0).wf = true) (_ : (Lit.int .i64 a1).wf = true) (w : World) :
    Calls Try.prog 3 #[.int .u64 a0, .int .i64 a1] w fun e w' => e = .returned (.bool true) ∧ Below w.heap.size w w' := by
  have HU : Hid (U a0) := U_of_wf w0
  clear w0
  go_enter Try.func3, Try.ntmps3
  go_wp2_with (first | (go_at_call 9; refine (of_all _ _).mono ?_; rintro e w' ⟨rfl, rfl⟩) | (go_at_call 10; refine (rof_all _ _).mono ?_; rintro e w' ⟨rfl, rfl⟩) | (go_at_call 13; refine (canon_any _ _ HU.out).mono ?_; rintro e w' ⟨rfl, rfl⟩) | (go_at_call 14; refine (rcanon_any _ _ HU.out).mono ?_; rintro e w' ⟨rfl, rfl⟩) | (go_at_call 15; refine (class_any _ _ HU.out).mono ?_; rintro e w' ⟨rfl, rfl⟩) | (go_at_call 16; refine (rclass_any _ _ HU.out).mono ?_; rintro e w' ⟨rfl, rfl⟩) | (go_at_call 17; refine (order_any _ _ HU.out).mono ?_; rintro e w' ⟨rfl, rfl⟩) | (go_at_call 18; refine (rorder_any _ _ HU.out).mono ?_; rintro e w' ⟨rfl, rfl⟩) | (go_at_call 21; refine (num_any _ _).mono ?_; rintro e w' ⟨rfl, rfl⟩))
  refine (int_all _ _ HU.out).mono ?_
  rintro e w1 ⟨rfl, k1⟩
  have b1 := k1
  clear k1
  go_wp2_with (first | (go_at_call 9; refine (of_all _ _).mono ?_; rintro e w' ⟨rfl, rfl⟩) | (go_at_call 10; refine (rof_all _ _).mono ?_; rintro e w' ⟨rfl, rfl⟩) | (go_at_call 13; refine (canon_any _ _ HU.out).mono ?_; rintro e w' ⟨rfl, rfl⟩) | (go_at_call 14; refine (rcanon_any _ _ HU.out).mono ?_; rintro e w' ⟨rfl, rfl⟩) | (go_at_call 15; refine (class_any _ _ HU.out).mono ?_; rintro e w' ⟨rfl, rfl⟩) | (go_at_call 16; refine (rclass_any _ _ HU.out).mono ?_; rintro e w' ⟨rfl, rfl⟩) | (go_at_call 17; refine (order_any _ _ HU.out).mono ?_; rintro e w' ⟨rfl, rfl⟩) | (go_at_call 18; refine (rorder_any _ _ HU.out).mono ?_; rintro e w' ⟨rfl, rfl⟩) | (go_at_call 21; refine (num_any _ _).mono ?_; rintro e w' ⟨rfl, rfl⟩))
  refine (rint_all _ _ HU.out).mono ?_
  rintro e w2 ⟨rfl, k2⟩
  have b2 := nxt b1 k2
  clear k2 b1
  go_wp2_with (first | (go_at_call 9; refine (of_all _ _).mono ?_; rintro e w' ⟨rfl, rfl⟩) | (go_at_call 10; refine (rof_all _ _).mono ?_; rintro e w' ⟨rfl, rfl⟩) | (go_at_call 13; refine (canon_any _ _ HU.out).mono ?_; rintro e w' ⟨rfl, rfl⟩) | (go_at_call 14; refine (rcanon_any _ _ HU.out).mono ?_; rintro e w' ⟨rfl, rfl⟩) | (go_at_call 15; refine (class_any _ _ HU.out).mono ?_; rintro e w' ⟨rfl, rfl⟩) | (go_at_call 16; refine (rclass_any _ _ HU.out).mono ?_; rintro e w' ⟨rfl, rfl⟩) | (go_at_call 17; refine (order_any _ _ HU.out).mono ?_; rintro e w' ⟨rfl, rfl⟩) | (go_at_call 18; refine (rorder_any _ _ HU.out).mono ?_; rintro e w' ⟨rfl, rfl⟩) | (go_at_call 21; refine (num_any _ _).mono ?_; rintro e w' ⟨rfl, rfl⟩))
  refine (floor_any _ _ HU.out).mono ?_
  rintro e w3 ⟨rfl, k3⟩
  have b3 := nxt b2 k3
  clear k3 b2
  go_wp2_with (first | (go_at_call 9; refine (of_all _ _).mono ?_; rintro e w' ⟨rfl, rfl⟩) | (go_at_call 10; refine (rof_all _ _).mono ?_; rintro e w' ⟨rfl, rfl⟩) | (go_at_call 13; refine (canon_any _ _ HU.out).mono ?_; rintro e w' ⟨rfl, rfl⟩) | (go_at_call 14; refine (rcanon_any _ _ HU.out).mono ?_; rintro e w' ⟨rfl, rfl⟩) | (go_at_call 15; refine (class_any _ _ HU.out).mono ?_; rintro e w' ⟨rfl, rfl⟩) | (go_at_call 16; refine (rclass_any _ _ HU.out).mono ?_; rintro e w' ⟨rfl, rfl⟩) | (go_at_call 17; refine (order_any _ _ HU.out).mono ?_; rintro e w' ⟨rfl, rfl⟩) | (go_at_call 18; refine (rorder_any _ _ HU.out).mono ?_; rintro e w' ⟨rfl, rfl⟩) | (go_at_call 21; refine (num_any _ _).mono ?_; rintro e w' ⟨rfl, rfl⟩))
  refine (rfloor_any _ _ HU.out).mono ?_
  rintro e w4 ⟨rfl, k4⟩
  have b4 := nxt b3 k4
  clear k4 b3
  go_wp2_with (first | (go_at_call 9; refine (of_all _ _).mono ?_; rintro e w' ⟨rfl, rfl⟩) | (go_at_call 10; refine (rof_all _ _).mono ?_; rintro e w' ⟨rfl, rfl⟩) | (go_at_call 13; refine (canon_any _ _ HU.out).mono ?_; rintro e w' ⟨rfl, rfl⟩) | (go_at_call 14; refine (rcanon_any _ _ HU.out).mono ?_; rintro e w' ⟨rfl, rfl⟩) | (go_at_call 15; refine (class_any _ _ HU.out).mono ?_; rintro e w' ⟨rfl, rfl⟩) | (go_at_call 16; refine (rclass_any _ _ HU.out).mono ?_; rintro e w' ⟨rfl, rfl⟩) | (go_at_call 17; refine (order_any _ _ HU.out).mono ?_; rintro e w' ⟨rfl, rfl⟩) | (go_at_call 18; refine (rorder_any _ _ HU.out).mono ?_; rintro e w' ⟨rfl, rfl⟩) | (go_at_call 21; refine (num_any _ _).mono ?_; rintro e w' ⟨rfl, rfl⟩))
  refine (alive_any _).mono ?_
  rintro e w5 ⟨rfl, k5⟩
  have b5 := nxt b4 k5
  clear k5 b4
  go_wp2
  go_ret
  exact ⟨rfl, b5⟩

theorem own : ownKnob Try.prog.godebug = none := by kernel_rfl

set_option maxRecDepth 100000 in
theorem lifted (os : Os) (started : os.Started) (H : Type) (enc : TypeId × Value → H) :
    ReturnsInHanded {} Try.checked os 3 .any (Rows.floatTellsSpec.pre6 enc Try.prog Try.f3 Rows.floatTellsRow.domain false) (Rows.floatTellsSpec.post enc Try.prog Try.f3 false true false false) := by
  refine returnsInHanded_of_change (C := Try.checked) own started (by kernel_rfl) Try.func3
    (ChangeSpec.witness6 (enc := enc) (C := Try.checked) false ⟨#[], #[.int .u64 0, .int .i64 0], []⟩ 8 (by kernel_rfl) (by kernel_rfl) (by kernel_rfl) (by kernel_rfl)) ?_
  intro W base args ds gs before hval0 hW hcnd _
  have hval : ∀ (j : Nat) t v, Try.f3.params[j]? = some t → args[j]? = some v → Value.okWide Try.prog W .any base t v := hval0
  have hW' := hW
  obtain ⟨p, q, hA0, hV, rfl, hfz, hnd⟩ := hW
  have hA : DataW.TrodAll enc Try.prog W 0 (fun _ => true) true Try.f3.params.toList args.toList ds p := hA0
  rw [Try.params3] at hA hval
  obtain ⟨v0, vs0, d0, ds0, p0, q0, hargs, rfl, rfl, h0, r0⟩ := trodAll_cons hA
  obtain ⟨v1, vs1, d1, ds1, p1, q1, rfl, rfl, rfl, h1, r1⟩ := trodAll_cons r0
  obtain ⟨rfl, rfl, rfl⟩ := trodAll_nil r1
  obtain rfl : args = #[v0, v1] := by cases args; simp_all
  obtain ⟨rfl, rfl⟩ := trodVars_none hV
  obtain ⟨a0, rfl, rfl, rfl, w0⟩ := open_int Try.underlying22 (hval 0 22 v0 rfl rfl) h0
  obtain ⟨a1, rfl, rfl, rfl, w1⟩ := open_int Try.underlying3 (hval 1 3 v1 rfl rfl) h1
  clear hA0 hval0
  simp only [List.append_nil] at hW'
  refine (walk a0 a1 w0 w1 W).mono fun e W' ⟨he, bel⟩ => ?_
  subst he
  exact ⟨_, rfl, _, _, _, [], [], [], hW', trodAll_mk1 (shut_bool Try.underlying4 _), (trodAll_cons_mk (shut_int Try.underlying22 w0) (trodAll_cons_mk (shut_int Try.underlying3 w1) trodAll_mk0)), rfl, bel.frame _, fun h => by cases h⟩

theorem over : Rows.floatTellsRow.holds Try.pinned (OpenSpec.ofChange Rows.floatTellsSpec) :=
  OpenClaim.holds_of_wide 3 Try.f3 rfl rfl rfl rfl rfl rfl rfl ⟨rfl, rfl, rfl, rfl, rfl⟩ rfl rfl rfl rfl rfl (by kernel_rfl) Try.func3 (by kernel_rfl)
    (of_decide_eq_true (by kernel_rfl)) (by unfold Func.isWrapper; first | (rw [if_pos (by decide +kernel)]; kernel_rfl) | (rw [if_neg (by decide +kernel)]; exact ⟨rfl, rfl⟩))
    (fun os started H enc _ => lifted os started H enc)

/-- THE STATEMENT. -/
theorem proved : Rows.FloatTellsSaid := over
#print axioms proved
end Go.Proofs.Ytdmgeaakbekgbaa.floatTells
