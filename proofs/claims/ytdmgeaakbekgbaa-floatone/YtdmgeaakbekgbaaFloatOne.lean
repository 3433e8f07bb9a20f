/-
  For every two numbers of 64 bits what Canon, Add, Sub, Mul, Div and Floor answer has the one NaN, and Canon leaves it as it is, as the law FloatOne says. No conditions.
-/
import Derived.Test.YtdmgeaakbekgbaaFlAddMul
import Derived.Test.YtdmgeaakbekgbaaFlAlive
namespace Go.Proofs.Ytdmgeaakbekgbaa.floatOne
open Go.ChangeShapes Go.WideShapes Go.ChangeAt Go.RowKit
open Fl

/-- 64 bits, no NaN but the one. -/
def good (x : Int) : Prop := U x ∧ can x = x

theorem good_can {a : Int} (h : U a) : good (can a) := ⟨U_can h, can_can a⟩
theorem good_fop (op : BinOp) (a b : Int) : good (fop op a b) := ⟨U_fop op a b, can_fop op a b⟩
theorem good_ffl (a : Int) : good (ffl a) := ⟨U_ffl a, can_ffl a⟩
theorem good_nan {x : Int} (h : good x) (h5 : cls x = 5) : x = 9221120237041090560 := by
  have h1 := h.2
  rw [← h1] at h5
  rw [← h1]
  exact cls_can x h5

theorem cells_six (w : World) (t : TypeId) (x0 x1 x2 x3 x4 x5 : Int) (g0 : good x0) (g1 : good x1) (g2 : good x2) (g3 : good x3) (g4 : good x4) (g5 : good x5) :
    ∃ v : Nat → Int, (∀ j, j < 6 → good (v j)) ∧ ∀ j, j < 6 → (w.alloc (.cells #[.int .u64 x0, .int .u64 x1, .int .u64 x2, .int .u64 x3, .int .u64 x4, .int .u64 x5] t)).cell? ⟨w.heap.size, j, none⟩ = some (.int .u64 (v j)) := by
  refine ⟨fun j => [x0, x1, x2, x3, x4, x5].getD j 0, fun j hj => ?_, fun j hj => ?_⟩
  · obtain rfl | rfl | rfl | rfl | rfl | rfl : j = 0 ∨ j = 1 ∨ j = 2 ∨ j = 3 ∨ j = 4 ∨ j = 5 := by omega
    all_goals assumption
  · obtain rfl | rfl | rfl | rfl | rfl | rfl : j = 0 ∨ j = 1 ∨ j = 2 ∨ j = 3 ∨ j = 4 ∨ j = 5 := by omega
    all_goals go_simp
    all_goals rfl

theorem cells_drewN {w : World} {b : Nat} {v : Nat → Int} (h : ∀ j, j < 6 → w.cell? ⟨b, j, none⟩ = some (.int .u64 (v j))) {n : Nat} :
    ∀ j, j < 6 → (w.drewN n).cell? ⟨b, j, none⟩ = some (.int .u64 (v j)) := fun j hj => by
  have := h j hj
  go_simp

theorem walk (a0 a1 : Int) (w0 : (Lit.int .u64 a0).wf = true) (_ : (Lit.int .u64 a1).wf = true) (w : World) :
    Calls Try.prog 8 #[.int .u64 a0, .int .u64 a1] w fun e w' => e = .returned (.bool true) ∧ Below w.heap.size w w' := by
  have HU : Hid (U a0) := U_of_wf w0
  clear w0
  go_enter Try.func8, Try.ntmps8
  go_wp2_with fail
  refine (alive_any _).mono ?_
  rintro e w1 ⟨rfl, k1⟩
  have b1 := k1
  clear k1
  go_wp2_with fail
  refine (canon_any _ _ HU.out).mono ?_
  rintro e w' ⟨rfl, rfl⟩
  go_wp2_with fail
  refine (add_any _ _ _).mono ?_
  rintro e w2 ⟨rfl, k2⟩
  have b2 := nxt b1 k2
  clear k2 b1
  go_wp2_with fail
  refine (sub_any _ _ _).mono ?_
  rintro e w3 ⟨rfl, k3⟩
  have b3 := nxt b2 k3
  clear k3 b2
  go_wp2_with fail
  refine (mul_any _ _ _).mono ?_
  rintro e w4 ⟨rfl, k4⟩
  have b4 := nxt b3 k4
  clear k4 b3
  go_wp2_with fail
  refine (div_any _ _ _).mono ?_
  rintro e w5 ⟨rfl, k5⟩
  have b5 := nxt b4 k5
  clear k5 b4
  go_wp2_with fail
  refine (floor_any _ _ HU.out).mono ?_
  rintro e w6 ⟨rfl, k6⟩
  have b6 := nxt b5 k6
  clear k6 b5
  go_wp2
  obtain ⟨v, hg, hc⟩ := cells_six w6 22 _ _ _ _ _ _ (good_can HU.out) (good_fop .add a0 a1) (good_fop .sub a0 a1) (good_fop .mul a0 a1) (good_fop .quo a0 a1) (good_ffl a0)
  go_loopw [6] (fun i wr => ∃ k : Nat, k ≤ 6 ∧ i = .int .i64 k ∧ (∀ j, j < 6 → wr.cell? ⟨w6.heap.size, j, none⟩ = some (.int .u64 (v j))) ∧ Below w.heap.size w wr) (fun i _ => 6 - (intOf i).toNat)
  case atStart => exact ⟨0, by omega, rfl, hc, b6.alloc b6.size _⟩
  case round =>
    obtain ⟨k, hk, rfl, hcell, hb⟩ := hrel
    clear hc b6 HU
    by_cases hlt : k < 6
    · have hck := hcell k hlt
      have gk := hg k hlt
      have HU : Hid (U (v k)) := gk.1
      have HC : Hid (∀ j, j < 6 → wr.cell? ⟨w6.heap.size, j, none⟩ = some (.int .u64 (v j))) := hcell
      have t1 : (can (v k) != v k) = false := by rw [gk.2]; simp
      by_cases h5 : cls (v k) = 5
      · have t2 : (cls (v k) == 5) = true := by simpa using h5
        have t3 : (v k != 9221120237041090560) = false := by rw [good_nan gk h5]; rfl
        clear hg gk h5 hcell
        go_wp2
        go_quiet (first | (go_at_call 13; exact Calls.quiet_of_same (canon_any _ _ HU.out)) | (go_at_call 15; exact Calls.quiet_of_same (class_any _ _ HU.out)))
        go_wp2
        exact ⟨⟨k + 1, by omega, by go_num, cells_drewN HC.out, below_drewN hb _⟩, by simp [intOf]; omega⟩
      · have t2 : (cls (v k) == 5) = false := by simpa using h5
        clear hg gk h5 hcell
        go_wp2
        go_quiet (first | (go_at_call 13; exact Calls.quiet_of_same (canon_any _ _ HU.out)) | (go_at_call 15; exact Calls.quiet_of_same (class_any _ _ HU.out)))
        go_wp2
        exact ⟨⟨k + 1, by omega, by go_num, cells_drewN HC.out, below_drewN hb _⟩, by simp [intOf]; omega⟩
    · go_wp2
      go_ret
      exact ⟨rfl, hb⟩

theorem own : ownKnob Try.prog.godebug = none := by kernel_rfl

set_option maxRecDepth 100000 in
theorem lifted (os : Os) (started : os.Started) (H : Type) (enc : TypeId × Value → H) :
    ReturnsInHanded {} Try.checked os 8 .any (Rows.floatOneSpec.pre6 enc Try.prog Try.f8 Rows.floatOneRow.domain false) (Rows.floatOneSpec.post enc Try.prog Try.f8 false true false false) := by
  refine returnsInHanded_of_change (C := Try.checked) own started (by kernel_rfl) Try.func8
    (ChangeSpec.witness6 (enc := enc) (C := Try.checked) false ⟨#[], #[.int .u64 0, .int .u64 0], []⟩ 8 (by kernel_rfl) (by kernel_rfl) (by kernel_rfl) (by kernel_rfl)) ?_
  intro W base args ds gs before hval0 hW hcnd _
  have hval : ∀ (j : Nat) t v, Try.f8.params[j]? = some t → args[j]? = some v → Value.okWide Try.prog W .any base t v := hval0
  have hW' := hW
  obtain ⟨p, q, hA0, hV, rfl, hfz, hnd⟩ := hW
  have hA : DataW.TrodAll enc Try.prog W 0 (fun _ => true) true Try.f8.params.toList args.toList ds p := hA0
  rw [Try.params8] at hA hval
  obtain ⟨v0, vs0, d0, ds0, p0, q0, hargs, rfl, rfl, h0, r0⟩ := trodAll_cons hA
  obtain ⟨v1, vs1, d1, ds1, p1, q1, rfl, rfl, rfl, h1, r1⟩ := trodAll_cons r0
  obtain ⟨rfl, rfl, rfl⟩ := trodAll_nil r1
  obtain rfl : args = #[v0, v1] := by cases args; simp_all
  obtain ⟨rfl, rfl⟩ := trodVars_none hV
  obtain ⟨a0, rfl, rfl, rfl, w0⟩ := open_int Try.underlying22 (hval 0 22 v0 rfl rfl) h0
  obtain ⟨a1, rfl, rfl, rfl, w1⟩ := open_int Try.underlying22 (hval 1 22 v1 rfl rfl) h1
  clear hA0 hval0
  simp only [List.append_nil] at hW'
  refine (walk a0 a1 w0 w1 W).mono fun e W' ⟨he, bel⟩ => ?_
  subst he
  exact ⟨_, rfl, _, _, _, [], [], [], hW', trodAll_mk1 (shut_bool Try.underlying4 _), (trodAll_cons_mk (shut_int Try.underlying22 w0) (trodAll_cons_mk (shut_int Try.underlying22 w1) trodAll_mk0)), rfl, bel.frame _, fun h => by cases h⟩

theorem over : Rows.floatOneRow.holds Try.pinned (OpenSpec.ofChange Rows.floatOneSpec) :=
  OpenClaim.holds_of_wide 8 Try.f8 rfl rfl rfl rfl rfl rfl rfl ⟨rfl, rfl, rfl, rfl, rfl⟩ rfl rfl rfl rfl rfl (by kernel_rfl) Try.func8 (by kernel_rfl)
    (of_decide_eq_true (by kernel_rfl)) (by unfold Func.isWrapper; first | (rw [if_pos (by decide +kernel)]; kernel_rfl) | (rw [if_neg (by decide +kernel)]; exact ⟨rfl, rfl⟩))
    (fun os started H enc _ => lifted os started H enc)

/-- THE STATEMENT. -/
theorem proved : Rows.FloatOneSaid := over
#print axioms proved
end Go.Proofs.Ytdmgeaakbekgbaa.floatOne
