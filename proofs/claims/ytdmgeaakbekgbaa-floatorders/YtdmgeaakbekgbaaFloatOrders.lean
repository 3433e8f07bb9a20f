/-
  For every three numbers of 64 bits: their order is one order, and of two numbers that are no NaN the one that is less comes first, as the law FloatOrders says. No conditions.
-/
import Derived.Test.YtdmgeaakbekgbaaFlAlive
import Derived.Test.YtdmgeaakbekgbaaFlOrder
namespace Go.Proofs.Ytdmgeaakbekgbaa.floatOrders
open Go.ChangeShapes Go.WideShapes Go.ChangeAt Go.RowKit
open Fl

theorem ord_inj {a b : Int} (ha : U a) (hb : U b) : ((ord a == ord b) != (can a == can b)) = false := by
  have h : ord a = ord b ↔ can a = can b := by unfold U ord can at *; omega
  by_cases e : ord a = ord b
  · have e2 := h.1 e
    rw [e, e2]; simp
  · have e2 : ¬ can a = can b := fun x => e (h.2 x)
    have d1 : (ord a == ord b) = false := by simpa using e
    have d2 : (can a == can b) = false := by simpa using e2
    rw [d1, d2]; rfl

theorem nan_last {a b : Int} (h : cls a = 5) (hb : U b) : ord b ≤ ord a := by
  rw [cls_nan] at h
  unfold U at hb
  unfold ord
  omega

theorem one_order (x y z : Int) (h1 : x < y) (h2 : y < z) : decide (z ≤ x) = false := by
  simp only [decide_eq_false_iff_not]
  omega

/-- The law's walk, with what each of its tests answers. -/
theorem walk (a0 a1 a2 : Int) (w0 : (Lit.int .u64 a0).wf = true) (w1 : (Lit.int .u64 a1).wf = true) (w2 : (Lit.int .u64 a2).wf = true) (w : World) :
    Calls Try.prog 6 #[.int .u64 a0, .int .u64 a1, .int .u64 a2] w fun e w' => e = .returned (.bool true) ∧ Below w.heap.size w w' := by
  have HA : Hid (U a0) := U_of_wf w0
  have HB : Hid (U a1) := U_of_wf w1
  have HC : Hid (U a2) := U_of_wf w2
  have hf := frombits_eq
  have t1 : (ord a0 == ord a1) = (can a0 == can a1) := by simpa using ord_inj HA.out HB.out
  clear w0 w1 w2
  by_cases n0 : cls a0 = 5
  · have d0 : (cls a0 == 5) = true := by simpa using n0
    have e0 : (cls a0 != 5) = false := by simpa using n0
    have hx : ord a1 ≤ ord a0 := nan_last n0 HB.out
    clear n0
    go_enter Try.func6, Try.ntmps6
    go_wp2_with fail
    refine (alive_any _).mono ?_
    rintro e w1 ⟨rfl, b1⟩
    go_wp2_with (first | (go_at_call 17; refine (order_any _ _ ?_).mono ?_; (first | exact HA.out | exact HB.out | exact HC.out); rintro e w' ⟨rfl, rfl⟩) | (go_at_call 13; refine (canon_any _ _ ?_).mono ?_; (first | exact HA.out | exact HB.out); rintro e w' ⟨rfl, rfl⟩) | (go_at_call 15; refine (class_any _ _ ?_).mono ?_; (first | exact HA.out | exact HB.out); rintro e w' ⟨rfl, rfl⟩))
    all_goals go_ret
    all_goals exact ⟨rfl, b1⟩
  · have d0 : (cls a0 == 5) = false := by simpa using n0
    have e0 : (cls a0 != 5) = true := by simpa using n0
    by_cases n1 : cls a1 = 5
    · have d1 : (cls a1 == 5) = true := by simpa using n1
      clear n0 n1
      go_enter Try.func6, Try.ntmps6
      go_wp2_with fail
      refine (alive_any _).mono ?_
      rintro e w1 ⟨rfl, b1⟩
      go_wp2_with (first | (go_at_call 17; refine (order_any _ _ ?_).mono ?_; (first | exact HA.out | exact HB.out | exact HC.out); rintro e w' ⟨rfl, rfl⟩) | (go_at_call 13; refine (canon_any _ _ ?_).mono ?_; (first | exact HA.out | exact HB.out); rintro e w' ⟨rfl, rfl⟩) | (go_at_call 15; refine (class_any _ _ ?_).mono ?_; (first | exact HA.out | exact HB.out); rintro e w' ⟨rfl, rfl⟩))
      all_goals go_ret
      all_goals exact ⟨rfl, b1⟩
    · have d1 : (cls a1 == 5) = false := by simpa using n1
      cases ho : (FloatKind.f64.format.order a0.toNat a1.toNat == some Ordering.gt || FloatKind.f64.format.order a0.toNat a1.toNat == some Ordering.eq) with
      | true =>
        clear n0 n1
        go_enter Try.func6, Try.ntmps6
        go_wp2_with fail
        refine (alive_any _).mono ?_
        rintro e w1 ⟨rfl, b1⟩
        go_wp2_with (first | (go_at_call 17; refine (order_any _ _ ?_).mono ?_; (first | exact HA.out | exact HB.out | exact HC.out); rintro e w' ⟨rfl, rfl⟩) | (go_at_call 13; refine (canon_any _ _ ?_).mono ?_; (first | exact HA.out | exact HB.out); rintro e w' ⟨rfl, rfl⟩) | (go_at_call 15; refine (class_any _ _ ?_).mono ?_; (first | exact HA.out | exact HB.out); rintro e w' ⟨rfl, rfl⟩))
        all_goals go_ret
        all_goals exact ⟨rfl, b1⟩
      | false =>
        have hl : ord a0 < ord a1 := order_ord HA.out HB.out n0 n1 ho
        clear n0 n1
        go_enter Try.func6, Try.ntmps6
        go_wp2_with fail
        refine (alive_any _).mono ?_
        rintro e w1 ⟨rfl, b1⟩
        go_wp2_with (first | (go_at_call 17; refine (order_any _ _ ?_).mono ?_; (first | exact HA.out | exact HB.out | exact HC.out); rintro e w' ⟨rfl, rfl⟩) | (go_at_call 13; refine (canon_any _ _ ?_).mono ?_; (first | exact HA.out | exact HB.out); rintro e w' ⟨rfl, rfl⟩) | (go_at_call 15; refine (class_any _ _ ?_).mono ?_; (first | exact HA.out | exact HB.out); rintro e w' ⟨rfl, rfl⟩))
        all_goals go_ret
        all_goals exact ⟨rfl, b1⟩

theorem own : ownKnob Try.prog.godebug = none := by kernel_rfl

set_option maxRecDepth 100000 in
theorem lifted (os : Os) (started : os.Started) (H : Type) (enc : TypeId × Value → H) :
    ReturnsInHanded {} Try.checked os 6 .any (Rows.floatOrdersSpec.pre6 enc Try.prog Try.f6 Rows.floatOrdersRow.domain false) (Rows.floatOrdersSpec.post enc Try.prog Try.f6 false true false false) := by
  refine returnsInHanded_of_change (C := Try.checked) own started (by kernel_rfl) Try.func6
    (ChangeSpec.witness6 (enc := enc) (C := Try.checked) false ⟨#[], #[.int .u64 0, .int .u64 0, .int .u64 0], []⟩ 8 (by kernel_rfl) (by kernel_rfl) (by kernel_rfl) (by kernel_rfl)) ?_
  intro W base args ds gs before hval0 hW hcnd _
  have hval : ∀ (j : Nat) t v, Try.f6.params[j]? = some t → args[j]? = some v → Value.okWide Try.prog W .any base t v := hval0
  have hW' := hW
  obtain ⟨p, q, hA0, hV, rfl, hfz, hnd⟩ := hW
  have hA : DataW.TrodAll enc Try.prog W 0 (fun _ => true) true Try.f6.params.toList args.toList ds p := hA0
  rw [Try.params6] at hA hval
  obtain ⟨v0, vs0, d0, ds0, p0, q0, hargs, rfl, rfl, h0, r0⟩ := trodAll_cons hA
  obtain ⟨v1, vs1, d1, ds1, p1, q1, rfl, rfl, rfl, h1, r1⟩ := trodAll_cons r0
  obtain ⟨v2, vs2, d2, ds2, p2, q2, rfl, rfl, rfl, h2, r2⟩ := trodAll_cons r1
  obtain ⟨rfl, rfl, rfl⟩ := trodAll_nil r2
  obtain rfl : args = #[v0, v1, v2] := by cases args; simp_all
  obtain ⟨rfl, rfl⟩ := trodVars_none hV
  obtain ⟨a0, rfl, rfl, rfl, w0⟩ := open_int Try.underlying22 (hval 0 22 v0 rfl rfl) h0
  obtain ⟨a1, rfl, rfl, rfl, w1⟩ := open_int Try.underlying22 (hval 1 22 v1 rfl rfl) h1
  obtain ⟨a2, rfl, rfl, rfl, w2⟩ := open_int Try.underlying22 (hval 2 22 v2 rfl rfl) h2
  clear hA0 hval0
  simp only [List.append_nil] at hW'
  refine (walk a0 a1 a2 w0 w1 w2 W).mono fun e W' ⟨he, bel⟩ => ?_
  subst he
  exact ⟨_, rfl, _, _, _, [], [], [], hW', trodAll_mk1 (shut_bool Try.underlying4 _), (trodAll_cons_mk (shut_int Try.underlying22 w0) (trodAll_cons_mk (shut_int Try.underlying22 w1) (trodAll_cons_mk (shut_int Try.underlying22 w2) trodAll_mk0))), rfl, bel.frame _, fun h => by cases h⟩

theorem over : Rows.floatOrdersRow.holds Try.pinned (OpenSpec.ofChange Rows.floatOrdersSpec) :=
  OpenClaim.holds_of_wide 6 Try.f6 rfl rfl rfl rfl rfl rfl rfl ⟨rfl, rfl, rfl, rfl, rfl⟩ rfl rfl rfl rfl rfl (by kernel_rfl) Try.func6 (by kernel_rfl)
    (of_decide_eq_true (by kernel_rfl)) (by unfold Func.isWrapper; first | (rw [if_pos (by decide +kernel)]; kernel_rfl) | (rw [if_neg (by decide +kernel)]; exact ⟨rfl, rfl⟩))
    (fun os started H enc _ => lifted os started H enc)

/-- THE STATEMENT. -/
theorem proved : Rows.FloatOrdersSaid := over
#print axioms proved
end Go.Proofs.Ytdmgeaakbekgbaa.floatOrders
