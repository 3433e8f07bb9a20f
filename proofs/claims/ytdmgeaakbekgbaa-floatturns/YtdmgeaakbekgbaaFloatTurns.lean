/-
  For every two numbers of 64 bits: sums and products do not hang on the order of two, and a difference is the sum with the other sign, as the law FloatTurns says. No conditions.
-/
import Derived.Test.YtdmgeaakbekgbaaFlAddMul
import Derived.Test.YtdmgeaakbekgbaaFlAlive
import Derived.Test.YtdmgeaakbekgbaaFlTurn
namespace Go.Proofs.Ytdmgeaakbekgbaa.floatTurns
open Go.ChangeShapes Go.WideShapes Go.ChangeAt Go.RowKit
open Fl

theorem walk (a0 a1 : Int) (_ : (Lit.int .u64 a0).wf = true) (w1 : (Lit.int .u64 a1).wf = true) (w : World) :
    Calls Try.prog 7 #[.int .u64 a0, .int .u64 a1] w fun e w' => e = .returned (.bool true) ∧ Below w.heap.size w w' := by
  have HU : Hid (U a1) := U_of_wf w1
  have hx : bits .xor .u64 a1 9223372036854775808 = opp a1 := xor_sign HU.out
  have H1 : Hid (fop .sub a0 a1 = fop .add a0 (opp a1)) := sub_opp a0 HU.out
  have H2 : Hid (fop .add a0 a1 = fop .add a1 a0) := add_comm a0 a1
  have H3 : Hid (fop .mul a0 a1 = fop .mul a1 a0) := mul_comm a0 a1
  clear w1
  by_cases h5 : cls a1 = 5
  · have d5 : (cls a1 != 5) = false := by simpa using h5
    clear h5
    go_enter Try.func7, Try.ntmps7
    go_wp2_with fail
    refine (alive_any _).mono ?_
    rintro e w1 ⟨rfl, k1⟩
    have b1 := k1
    clear k1
    go_wp2_with (first | (go_at_call 15; refine (class_any _ _ HU.out).mono ?_; rintro e w' ⟨rfl, rfl⟩))
    refine (add_any _ _ _).mono ?_
    rintro e w2 ⟨rfl, k2⟩
    have b2 := nxt b1 k2
    clear k2 b1
    go_wp2_with fail
    refine (add_any _ _ _).mono ?_
    rintro e w3 ⟨rfl, k3⟩
    have b3 := nxt b2 k3
    clear k3 b2
    have h2 : (fop .add a0 a1 == fop .add a1 a0) = true := by rw [H2.out]; simp
    go_wp2_with fail
    refine (mul_any _ _ _).mono ?_
    rintro e w4 ⟨rfl, k4⟩
    have b4 := nxt b3 k4
    clear k4 b3
    go_wp2_with fail
    refine (mul_any _ _ _).mono ?_
    rintro e w5 ⟨rfl, k5⟩
    have b5 := nxt b4 k5
    clear k5 b4
    have h3 : (fop .mul a0 a1 == fop .mul a1 a0) = true := by rw [H3.out]; simp
    go_wp2
    go_ret
    exact ⟨rfl, b5⟩
  · have d5 : (cls a1 != 5) = true := by simpa using h5
    have h1 : (fop .sub a0 a1 != fop .add a0 (opp a1)) = false := by rw [H1.out]; simp
    clear h5
    go_enter Try.func7, Try.ntmps7
    go_wp2_with fail
    refine (alive_any _).mono ?_
    rintro e w1 ⟨rfl, k1⟩
    have b1 := k1
    clear k1
    go_wp2_with (first | (go_at_call 15; refine (class_any _ _ HU.out).mono ?_; rintro e w' ⟨rfl, rfl⟩))
    refine (sub_any _ _ _).mono ?_
    rintro e w2 ⟨rfl, k2⟩
    have b2 := nxt b1 k2
    clear k2 b1
    go_wp2_with fail
    refine (add_any _ _ _).mono ?_
    rintro e w3 ⟨rfl, k3⟩
    have b3 := nxt b2 k3
    clear k3 b2
    go_wp2_with fail
    refine (add_any _ _ _).mono ?_
    rintro e w4 ⟨rfl, k4⟩
    have b4 := nxt b3 k4
    clear k4 b3
    go_wp2_with fail
    refine (add_any _ _ _).mono ?_
    rintro e w5 ⟨rfl, k5⟩
    have b5 := nxt b4 k5
    clear k5 b4
    have h2 : (fop .add a0 a1 == fop .add a1 a0) = true := by rw [H2.out]; simp
    go_wp2_with fail
    refine (mul_any _ _ _).mono ?_
    rintro e w6 ⟨rfl, k6⟩
    have b6 := nxt b5 k6
    clear k6 b5
    go_wp2_with fail
    refine (mul_any _ _ _).mono ?_
    rintro e w7 ⟨rfl, k7⟩
    have b7 := nxt b6 k7
    clear k7 b6
    have h3 : (fop .mul a0 a1 == fop .mul a1 a0) = true := by rw [H3.out]; simp
    go_wp2
    go_ret
    exact ⟨rfl, b7⟩

theorem own : ownKnob Try.prog.godebug = none := by kernel_rfl

set_option maxRecDepth 100000 in
theorem lifted (os : Os) (started : os.Started) (H : Type) (enc : TypeId × Value → H) :
    ReturnsInHanded {} Try.checked os 7 .any (Rows.floatTurnsSpec.pre6 enc Try.prog Try.f7 Rows.floatTurnsRow.domain false) (Rows.floatTurnsSpec.post enc Try.prog Try.f7 false true false false) := by
  refine returnsInHanded_of_change (C := Try.checked) own started (by kernel_rfl) Try.func7
    (ChangeSpec.witness6 (enc := enc) (C := Try.checked) false ⟨#[], #[.int .u64 0, .int .u64 0], []⟩ 8 (by kernel_rfl) (by kernel_rfl) (by kernel_rfl) (by kernel_rfl)) ?_
  intro W base args ds gs before hval0 hW hcnd _
  have hval : ∀ (j : Nat) t v, Try.f7.params[j]? = some t → args[j]? = some v → Value.okWide Try.prog W .any base t v := hval0
  have hW' := hW
  obtain ⟨p, q, hA0, hV, rfl, hfz, hnd⟩ := hW
  have hA : DataW.TrodAll enc Try.prog W 0 (fun _ => true) true Try.f7.params.toList args.toList ds p := hA0
  rw [Try.params7] at hA hval
  obtain ⟨v0, vs0, d0, ds0, p0, q0, hargs, rfl, rfl, h0, r0⟩ := trodAll_cons hA
  obtain ⟨v1, vs1, d1, ds1, p1, q1, rfl, rfl, rfl, h1, r1⟩ := trodAll_cons r0
  obtain ⟨rfl, rfl, rfl⟩ := trodAll_nil r1
  obtain rfl : args = #[v0, v1] := by cases args; simp_all
  obtain ⟨rfl, rfl⟩ := trodVars_none hV
  obtain ⟨a0, rfl, rfl, rfl, w0⟩ := open_int Try.underlying22 (hval 0 22 v0 rfl rfl) h0
  obtain ⟨a1, rfl, rfl, rfl, w1⟩ := open_int Try.underlying22 (hval 1 22 v1 rfl rfl) h1
  clear hA0 hval0
  simp only [List.append_nil] at hW'
  refine (walk a0 a1 w0 w1 W).mono fun e W' ⟨he, bel⟩ => ?_
  subst he
  exact ⟨_, rfl, _, _, _, [], [], [], hW', trodAll_mk1 (shut_bool Try.underlying4 _), (trodAll_cons_mk (shut_int Try.underlying22 w0) (trodAll_cons_mk (shut_int Try.underlying22 w1) trodAll_mk0)), rfl, bel.frame _, fun h => by cases h⟩

theorem over : Rows.floatTurnsRow.holds Try.pinned (OpenSpec.ofChange Rows.floatTurnsSpec) :=
  OpenClaim.holds_of_wide 7 Try.f7 rfl rfl rfl rfl rfl rfl rfl ⟨rfl, rfl, rfl, rfl, rfl⟩ rfl rfl rfl rfl rfl (by kernel_rfl) Try.func7 (by kernel_rfl)
    (of_decide_eq_true (by kernel_rfl)) (by unfold Func.isWrapper; first | (rw [if_pos (by decide +kernel)]; kernel_rfl) | (rw [if_neg (by decide +kernel)]; exact ⟨rfl, rfl⟩))
    (fun os started H enc _ => lifted os started H enc)

/-- THE STATEMENT. -/
theorem proved : Rows.FloatTurnsSaid := over
#print axioms proved
end Go.Proofs.Ytdmgeaakbekgbaa.floatTurns
