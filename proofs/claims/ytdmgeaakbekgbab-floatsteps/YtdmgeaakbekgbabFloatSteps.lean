/-
  For every 64 bits b: of a number that is neither infinite nor a NaN the next one stands just behind it in the order, as the law FloatSteps says. No conditions.
-/
import Derived.Test.YtdmgeaakbekgbabFlAlive
namespace Go.Proofs.Ytdmgeaakbekgbab.floatSteps
open Go.ChangeShapes Go.WideShapes Go.ChangeAt Go.RowKit
open Fl

theorem ord0 : ord 0 = 9223372036854775808 := by decide +kernel
theorem ordS : ord 9223372036854775808 = 9223372036854775807 := by decide +kernel

theorem up (b : Int) (h : U b) (h1 : ¬ 4 ≤ cls b) (h2 : ¬ b = 9223372036854775808) (h3 : b < 9223372036854775808) : (IntKind.u64.wrap (ord (IntKind.u64.wrap (b + 1)) - ord b) == 1) = true := by
  rw [IntKind.wrap_u64, IntKind.wrap_u64]
  unfold U cls ord at *
  simp only [beq_iff_eq]
  omega
theorem down (b : Int) (h : U b) (h1 : ¬ 4 ≤ cls b) (h2 : ¬ b = 9223372036854775808) (h3 : ¬ b < 9223372036854775808) : (IntKind.u64.wrap (ord (IntKind.u64.wrap (b - 1)) - ord b) == 1) = true := by
  rw [IntKind.wrap_u64, IntKind.wrap_u64]
  unfold U cls ord at *
  simp only [beq_iff_eq]
  omega

theorem walk (a0 : Int) (w0 : (Lit.int .u64 a0).wf = true) (w : World) :
    Calls Try.prog 4 #[.int .u64 a0] w fun e w' => e = .returned (.bool true) ∧ Below w.heap.size w w' := by
  have hu : U a0 := U_of_wf w0
  have HU : Hid (U a0) := hu
  clear w0
  have e0 := ord0
  have eS := ordS
  by_cases h4 : 4 ≤ cls a0
  · clear hu
    go_enter Try.func4, Try.ntmps4
    go_wp2_with fail
    refine (alive_any _).mono ?_
    rintro e w1 ⟨rfl, hb⟩
    go_wp2_with (first | (go_at_call 7; refine (class_any _ _ HU.out).mono ?_; rintro e w' ⟨rfl, rfl⟩) | (go_at_call 9; refine (order_any _ _ (by unfold U; decide)).mono ?_; rintro e w' ⟨rfl, rfl⟩))
    go_ret
    exact ⟨rfl, hb⟩
  · by_cases hS : a0 = 9223372036854775808
    · subst hS
      clear hu
      go_enter Try.func4, Try.ntmps4
      go_wp2_with fail
      refine (alive_any _).mono ?_
      rintro e w1 ⟨rfl, hb⟩
      go_wp2_with (first | (go_at_call 7; refine (class_any _ _ HU.out).mono ?_; rintro e w' ⟨rfl, rfl⟩) | (go_at_call 9; refine (order_any _ _ (by unfold U; decide)).mono ?_; rintro e w' ⟨rfl, rfl⟩))
      go_ret
      exact ⟨rfl, hb⟩
    · by_cases hl : a0 < 9223372036854775808
      · have hup := up a0 hu h4 hS hl
        have d4 : decide (4 ≤ cls a0) = false := by simpa using h4
        have dS : (a0 == 9223372036854775808) = false := by simpa using hS
        clear hu h4 hS
        go_enter Try.func4, Try.ntmps4
        go_wp2_with fail
        refine (alive_any _).mono ?_
        rintro e w1 ⟨rfl, hb⟩
        go_wp2_with (first | (go_at_call 7; refine (class_any _ _ HU.out).mono ?_; rintro e w' ⟨rfl, rfl⟩) | (go_at_call 9; refine (order_any _ _ ?_).mono ?_; (first | exact U_wrap _ | exact HU.out); rintro e w' ⟨rfl, rfl⟩))
        go_ret
        exact ⟨rfl, hb⟩
      · have hup := down a0 hu h4 hS hl
        have d4 : decide (4 ≤ cls a0) = false := by simpa using h4
        have dS : (a0 == 9223372036854775808) = false := by simpa using hS
        clear hu h4 hS
        go_enter Try.func4, Try.ntmps4
        go_wp2_with fail
        refine (alive_any _).mono ?_
        rintro e w1 ⟨rfl, hb⟩
        go_wp2_with (first | (go_at_call 7; refine (class_any _ _ HU.out).mono ?_; rintro e w' ⟨rfl, rfl⟩) | (go_at_call 9; refine (order_any _ _ ?_).mono ?_; (first | exact U_wrap _ | exact HU.out); rintro e w' ⟨rfl, rfl⟩))
        go_ret
        exact ⟨rfl, hb⟩

theorem own : ownKnob Try.prog.godebug = none := by kernel_rfl

set_option maxRecDepth 100000 in
theorem lifted (os : Os) (started : os.Started) (H : Type) (enc : TypeId × Value → H) :
    ReturnsInHanded {} Try.checked os 4 .any (Rows.floatStepsSpec.pre6 enc Try.prog Try.f4 Rows.floatStepsRow.domain false) (Rows.floatStepsSpec.post enc Try.prog Try.f4 false true false false) := by
  refine returnsInHanded_of_change (C := Try.checked) own started (by kernel_rfl) Try.func4
    (ChangeSpec.witness6 (enc := enc) (C := Try.checked) false ⟨#[], #[.int .u64 0], []⟩ 8 (by kernel_rfl) (by kernel_rfl) (by kernel_rfl) (by kernel_rfl)) ?_
  intro W base args ds gs before hval0 hW hcnd _
  have hval : ∀ (j : Nat) t v, Try.f4.params[j]? = some t → args[j]? = some v → Value.okWide Try.prog W .any base t v := hval0
  have hW' := hW
  obtain ⟨p, q, hA0, hV, rfl, hfz, hnd⟩ := hW
  have hA : DataW.TrodAll enc Try.prog W 0 (fun _ => true) true Try.f4.params.toList args.toList ds p := hA0
  rw [Try.params4] at hA hval
  obtain ⟨v0, vs0, d0, ds0, p0, q0, hargs, rfl, rfl, h0, r0⟩ := trodAll_cons hA
  obtain ⟨rfl, rfl, rfl⟩ := trodAll_nil r0
  obtain rfl : args = #[v0] := by cases args; simp_all
  obtain ⟨rfl, rfl⟩ := trodVars_none hV
  obtain ⟨a0, rfl, rfl, rfl, w0⟩ := open_int Try.underlying22 (hval 0 22 v0 rfl rfl) h0
  clear hA0 hval0
  simp only [List.append_nil] at hW'
  refine (walk a0 w0 W).mono fun e W' ⟨he, bel⟩ => ?_
  subst he
  exact ⟨_, rfl, _, _, _, [], [], [], hW', trodAll_mk1 (shut_bool Try.underlying4 _), (trodAll_cons_mk (shut_int Try.underlying22 w0) trodAll_mk0), rfl, bel.frame _, fun h => by cases h⟩

theorem over : Rows.floatStepsRow.holds Try.pinned (OpenSpec.ofChange Rows.floatStepsSpec) :=
  OpenClaim.holds_of_wide 4 Try.f4 rfl rfl rfl rfl rfl rfl rfl ⟨rfl, rfl, rfl, rfl, rfl⟩ rfl rfl rfl rfl rfl (by kernel_rfl) Try.func4 (by kernel_rfl)
    (of_decide_eq_true (by kernel_rfl)) (by unfold Func.isWrapper; first | (rw [if_pos (by decide +kernel)]; kernel_rfl) | (rw [if_neg (by decide +kernel)]; exact ⟨rfl, rfl⟩))
    (fun os started H enc _ => lifted os started H enc)

/-- THE STATEMENT. -/
theorem proved : Rows.FloatStepsSaid := over
#print axioms proved
end Go.Proofs.Ytdmgeaakbekgbab.floatSteps
