/-
  For every whole number n: Of refuses it just beyond 2 to the 53; else Int of Of is n, its floor is itself, and one more is the next, as the law FloatBack says. No conditions.
-/
import Derived.Test.YtdmgeaakbekgbaaFlAddMul
import Derived.Test.YtdmgeaakbekgbaaFlInt
namespace Go.Proofs.Ytdmgeaakbekgbaa.floatBack
open Go.ChangeShapes Go.WideShapes Go.ChangeAt Go.RowKit
open Fl

theorem walk (a0 : Int) (_ : (Lit.int .i64 a0).wf = true) (w : World) :
    Calls Try.prog 5 #[.int .i64 a0] w fun e w' => e = .returned (.bool true) ∧ Below w.heap.size w w' := by
  by_cases h1 : a0 < -9007199254740992
  · go_enter Try.func5, Try.ntmps5
    go_wp2_with fail
    refine (alive_any _).mono ?_
    rintro e w1 ⟨rfl, b1⟩
    go_wp2_with (first | (go_at_call 9; refine (of_out _ _ (.inl h1)).mono ?_; rintro e w' ⟨rfl, rfl⟩) | (go_at_call 21; refine (num_any _ _).mono ?_; rintro e w' ⟨rfl, rfl⟩))
    go_ret
    exact ⟨rfl, b1⟩
  by_cases h2 : 9007199254740992 < a0
  · have h1' : decide (a0 < -9007199254740992) = false := by simpa using h1
    go_enter Try.func5, Try.ntmps5
    go_wp2_with fail
    refine (alive_any _).mono ?_
    rintro e w1 ⟨rfl, b1⟩
    go_wp2_with (first | (go_at_call 9; refine (of_out _ _ (.inr h2)).mono ?_; rintro e w' ⟨rfl, rfl⟩) | (go_at_call 21; refine (num_any _ _).mono ?_; rintro e w' ⟨rfl, rfl⟩))
    go_ret
    exact ⟨rfl, b1⟩
  have h3 : -9007199254740992 ≤ a0 := by omega
  have h4 : a0 ≤ 9007199254740992 := by omega
  obtain ⟨c1, c2, c3, c4⟩ := of_back h3 h4
  have HU : Hid (U ((floatOfInt .f64 a0 : Nat) : Int)) := U_of a0
  have HI : Hid (cls (floatOfInt .f64 a0 : Nat) < 4) := c1
  have HF : Hid (ffl (floatOfInt .f64 a0 : Nat) = (floatOfInt .f64 a0 : Nat)) := c2
  have HR : Hid (rng ((floatOfInt .f64 a0 : Nat) : Int).toNat ≤ 4845873199050653696) := by show rng ((floatOfInt .f64 a0 : Nat) : Int).toNat ≤ 4845873199050653696; rw [Int.toNat_natCast]; exact c4
  clear c1 c4 h1 h2
  have t1 : (iv (floatOfInt .f64 a0 : Nat) != a0) = false := by rw [c3]; simp
  have t2 : (ffl (floatOfInt .f64 a0 : Nat) != (floatOfInt .f64 a0 : Nat)) = false := by rw [c2]; simp
  clear c2 c3
  by_cases h5 : a0 = 9007199254740992
  · have d5 : (a0 == 9007199254740992) = true := by simpa using h5
    clear h5
    go_enter Try.func5, Try.ntmps5
    go_wp2_with fail
    refine (alive_any _).mono ?_
    rintro e w1 ⟨rfl, b1⟩
    go_wp2_with (first | (go_at_call 9; refine (of_in _ _ h3 h4).mono ?_; rintro e w' ⟨rfl, rfl⟩) | (go_at_call 21; refine (num_any _ _).mono ?_; rintro e w' ⟨rfl, rfl⟩))
    refine (int_in _ _ HU.out (Int.not_le.2 HI.out) HF.out HR.out).mono ?_
    rintro e w2 ⟨rfl, k2⟩
    have b2 := nxt b1 k2
    clear b1 k2
    go_wp2_with (go_at_call 21; refine (num_any _ _).mono ?_; rintro e w' ⟨rfl, rfl⟩)
    refine (floor_any _ _ HU.out).mono ?_
    rintro e w3 ⟨rfl, k3⟩
    have b3 := nxt b2 k3
    clear b2 k3
    go_wp2
    go_ret
    exact ⟨rfl, b3⟩
  · have d5 : (a0 == 9007199254740992) = false := by simpa using h5
    have h6 : a0 + 1 ≤ 9007199254740992 := by omega
    have h7 : -9007199254740992 ≤ a0 + 1 := by omega
    have t3 : (fop .add (floatOfInt .f64 a0 : Nat) 4607182418800017408 == (floatOfInt .f64 (a0 + 1) : Nat)) = true := by rw [of_next h3 (by omega)]; simp
    clear h5
    go_enter Try.func5, Try.ntmps5
    go_wp2_with fail
    refine (alive_any _).mono ?_
    rintro e w1 ⟨rfl, b1⟩
    go_wp2_with (first | (go_at_call 9; refine (of_in _ _ h3 h4).mono ?_; rintro e w' ⟨rfl, rfl⟩) | (go_at_call 21; refine (num_any _ _).mono ?_; rintro e w' ⟨rfl, rfl⟩))
    refine (int_in _ _ HU.out (Int.not_le.2 HI.out) HF.out HR.out).mono ?_
    rintro e w2 ⟨rfl, k2⟩
    have b2 := nxt b1 k2
    clear b1 k2
    go_wp2_with (go_at_call 21; refine (num_any _ _).mono ?_; rintro e w' ⟨rfl, rfl⟩)
    refine (floor_any _ _ HU.out).mono ?_
    rintro e w3 ⟨rfl, k3⟩
    have b3 := nxt b2 k3
    clear b2 k3
    go_wp2_with (first | (go_at_call 9; refine (of_in _ _ h7 h6).mono ?_; rintro e w' ⟨rfl, rfl⟩) | (go_at_call 21; refine (num_any _ _).mono ?_; rintro e w' ⟨rfl, rfl⟩))
    refine (add_any _ _ _).mono ?_
    rintro e w4 ⟨rfl, k4⟩
    have b4 := nxt b3 k4
    clear b3 k4
    go_wp2
    go_ret
    exact ⟨rfl, b4⟩

theorem own : ownKnob Try.prog.godebug = none := by kernel_rfl

set_option maxRecDepth 100000 in
theorem lifted (os : Os) (started : os.Started) (H : Type) (enc : TypeId × Value → H) :
    ReturnsInHanded {} Try.checked os 5 .any (Rows.floatBackSpec.pre6 enc Try.prog Try.f5 Rows.floatBackRow.domain false) (Rows.floatBackSpec.post enc Try.prog Try.f5 false true false false) := by
  refine returnsInHanded_of_change (C := Try.checked) own started (by kernel_rfl) Try.func5
    (ChangeSpec.witness6 (enc := enc) (C := Try.checked) false ⟨#[], #[.int .i64 0], []⟩ 8 (by kernel_rfl) (by kernel_rfl) (by kernel_rfl) (by kernel_rfl)) ?_
  intro W base args ds gs before hval0 hW hcnd _
  have hval : ∀ (j : Nat) t v, Try.f5.params[j]? = some t → args[j]? = some v → Value.okWide Try.prog W .any base t v := hval0
  have hW' := hW
  obtain ⟨p, q, hA0, hV, rfl, hfz, hnd⟩ := hW
  have hA : DataW.TrodAll enc Try.prog W 0 (fun _ => true) true Try.f5.params.toList args.toList ds p := hA0
  rw [Try.params5] at hA hval
  obtain ⟨v0, vs0, d0, ds0, p0, q0, hargs, rfl, rfl, h0, r0⟩ := trodAll_cons hA
  obtain ⟨rfl, rfl, rfl⟩ := trodAll_nil r0
  obtain rfl : args = #[v0] := by cases args; simp_all
  obtain ⟨rfl, rfl⟩ := trodVars_none hV
  obtain ⟨a0, rfl, rfl, rfl, w0⟩ := open_int Try.underlying3 (hval 0 3 v0 rfl rfl) h0
  clear hA0 hval0
  simp only [List.append_nil] at hW'
  refine (walk a0 w0 W).mono fun e W' ⟨he, bel⟩ => ?_
  subst he
  exact ⟨_, rfl, _, _, _, [], [], [], hW', trodAll_mk1 (shut_bool Try.underlying4 _), (trodAll_cons_mk (shut_int Try.underlying3 w0) trodAll_mk0), rfl, bel.frame _, fun h => by cases h⟩

theorem over : Rows.floatBackRow.holds Try.pinned (OpenSpec.ofChange Rows.floatBackSpec) :=
  OpenClaim.holds_of_wide 5 Try.f5 rfl rfl rfl rfl rfl rfl rfl ⟨rfl, rfl, rfl, rfl, rfl⟩ rfl rfl rfl rfl rfl (by kernel_rfl) Try.func5 (by kernel_rfl)
    (of_decide_eq_true (by kernel_rfl)) (by unfold Func.isWrapper; first | (rw [if_pos (by decide +kernel)]; kernel_rfl) | (rw [if_neg (by decide +kernel)]; exact ⟨rfl, rfl⟩))
    (fun os started H enc _ => lifted os started H enc)

/-- THE STATEMENT. -/
theorem proved : Rows.FloatBackSaid := over
#print axioms proved
end Go.Proofs.Ytdmgeaakbekgbaa.floatBack
