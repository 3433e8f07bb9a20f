/-
  For every 64 bits b: the floor of a number that is neither infinite nor a NaN is whole, not above it, and at most one below; else it is the number with the one NaN: as the law FloatFloors says. No conditions.
-/
import Derived.Test.YtdmgeaakbekgbabFlAlive
import Derived.Test.YtdmgeaakbekgbabFlSum
namespace Go.Proofs.Ytdmgeaakbekgbab.floatFloors
open Go.ChangeShapes Go.WideShapes Go.ChangeAt Go.RowKit
open Fl

theorem walk (a0 : Int) (w0 : (Lit.int .u64 a0).wf = true) (w : World) :
    Calls Try.prog 3 #[.int .u64 a0] w fun e w' => e = .returned (.bool true) ∧ Below w.heap.size w w' := by
  have hu : U a0 := U_of_wf w0
  have HU : Hid (U a0) := hu
  have HF : Hid (U (ffl a0)) := U_ffl a0
  have HS : Hid (U (fop .sub a0 (ffl a0))) := U_fop .sub a0 (ffl a0)
  have HO : Hid (U 4607182418800017408) := by show U _; unfold U; decide
  clear w0
  by_cases h4 : 4 ≤ cls a0
  · have t1 : (ffl a0 == can a0) = true := by rw [floor_top hu h4]; simp
    have d4 : decide (4 ≤ cls a0) = true := by simpa using h4
    clear hu h4
    go_enter Try.func3, Try.ntmps3
    go_wp2_with fail
    refine (alive_any _).mono ?_
    rintro e w1 ⟨rfl, k1⟩
    have b1 := k1
    clear k1
    go_wp2_with fail
    refine (floor_any _ _ HU.out).mono ?_
    rintro e w2 ⟨rfl, k2⟩
    have b2 := nxt b1 k2
    clear k2 b1
    go_wp2_with (first | (go_at_call 7; refine (class_any _ _ HU.out).mono ?_; rintro e w' ⟨rfl, rfl⟩) | (go_at_call 8; refine (canon_any _ _ HU.out).mono ?_; rintro e w' ⟨rfl, rfl⟩))
    go_ret
    exact ⟨rfl, b2⟩
  · have t1 : (ffl (ffl a0) == ffl a0) = true := by rw [floor_floor hu (by omega)]; simp
    have t2 : ord (ffl a0) ≤ ord a0 := floor_ord hu (by omega)
    have t3 : ord (fop .sub a0 (ffl a0)) ≤ ord 4607182418800017408 := floor_sub hu (by omega)
    have d4 : decide (4 ≤ cls a0) = false := by simpa using h4
    clear hu h4
    go_enter Try.func3, Try.ntmps3
    go_wp2_with fail
    refine (alive_any _).mono ?_
    rintro e w1 ⟨rfl, k1⟩
    have b1 := k1
    clear k1
    go_wp2_with fail
    refine (floor_any _ _ HU.out).mono ?_
    rintro e w2 ⟨rfl, k2⟩
    have b2 := nxt b1 k2
    clear k2 b1
    go_wp2_with (go_at_call 7; refine (class_any _ _ HU.out).mono ?_; rintro e w' ⟨rfl, rfl⟩)
    refine (floor_any _ _ HF.out).mono ?_
    rintro e w3 ⟨rfl, k3⟩
    have b3 := nxt b2 k3
    clear b2 k3
    go_wp2_with (go_at_call 9; refine (order_any _ _ ?_).mono ?_; (first | exact HF.out | exact HU.out); rintro e w' ⟨rfl, rfl⟩)
    refine (sub_any _ _ _).mono ?_
    rintro e w4 ⟨rfl, k4⟩
    have b4 := nxt b3 k4
    clear b3 k4
    go_wp2_with (go_at_call 9; refine (order_any _ _ ?_).mono ?_; (first | exact HS.out | exact HO.out); rintro e w' ⟨rfl, rfl⟩)
    go_ret
    exact ⟨rfl, b4⟩

theorem own : ownKnob Try.prog.godebug = none := by kernel_rfl

set_option maxRecDepth 100000 in
theorem lifted (os : Os) (started : os.Started) (H : Type) (enc : TypeId × Value → H) :
    ReturnsInHanded {} Try.checked os 3 .any (Rows.floatFloorsSpec.pre6 enc Try.prog Try.f3 Rows.floatFloorsRow.domain false) (Rows.floatFloorsSpec.post enc Try.prog Try.f3 false true false false) := by
  refine returnsInHanded_of_change (C := Try.checked) own started (by kernel_rfl) Try.func3
    (ChangeSpec.witness6 (enc := enc) (C := Try.checked) false ⟨#[], #[.int .u64 0], []⟩ 8 (by kernel_rfl) (by kernel_rfl) (by kernel_rfl) (by kernel_rfl)) ?_
  intro W base args ds gs before hval0 hW hcnd _
  have hval : ∀ (j : Nat) t v, Try.f3.params[j]? = some t → args[j]? = some v → Value.okWide Try.prog W .any base t v := hval0
  have hW' := hW
  obtain ⟨p, q, hA0, hV, rfl, hfz, hnd⟩ := hW
  have hA : DataW.TrodAll enc Try.prog W 0 (fun _ => true) true Try.f3.params.toList args.toList ds p := hA0
  rw [Try.params3] at hA hval
  obtain ⟨v0, vs0, d0, ds0, p0, q0, hargs, rfl, rfl, h0, r0⟩ := trodAll_cons hA
  obtain ⟨rfl, rfl, rfl⟩ := trodAll_nil r0
  obtain rfl : args = #[v0] := by cases args; simp_all
  obtain ⟨rfl, rfl⟩ := trodVars_none hV
  obtain ⟨a0, rfl, rfl, rfl, w0⟩ := open_int Try.underlying22 (hval 0 22 v0 rfl rfl) h0
  clear hA0 hval0
  simp only [List.append_nil] at hW'
  refine (walk a0 w0 W).mono fun e W' ⟨he, bel⟩ => ?_
  subst he
  exact ⟨_, rfl, _, _, _, [], [], [], hW', trodAll_mk1 (shut_bool Try.underlying4 _), (trodAll_cons_mk (shut_int Try.underlying22 w0) trodAll_mk0), rfl, bel.frame _, fun h => by cases h⟩

theorem over : Rows.floatFloorsRow.holds Try.pinned (OpenSpec.ofChange Rows.floatFloorsSpec) :=
  OpenClaim.holds_of_wide 3 Try.f3 rfl rfl rfl rfl rfl rfl rfl ⟨rfl, rfl, rfl, rfl, rfl⟩ rfl rfl rfl rfl rfl (by kernel_rfl) Try.func3 (by kernel_rfl)
    (of_decide_eq_true (by kernel_rfl)) (by unfold Func.isWrapper; first | (rw [if_pos (by decide +kernel)]; kernel_rfl) | (rw [if_neg (by decide +kernel)]; exact ⟨rfl, rfl⟩))
    (fun os started H enc _ => lifted os started H enc)

/-- THE STATEMENT. -/
theorem proved : Rows.FloatFloorsSaid := over
#print axioms proved
end Go.Proofs.Ytdmgeaakbekgbab.floatFloors
