/-
  What the functions of package float that only look at bits answer: Class, Canon, Order, for every 64 bits.
-/
import Derived.Test.YtndclldicdfmeaaGreatRows
import Derived.WalkKit
import Derived.ProofKit
import Derived.OpenShut
import Derived.WalkLawsBesides
import Derived.BigQuiet
import Derived.Deep.QuietTactic
import Derived.Test.YtndclldicdfmeaaGreatFlMath
namespace Go.Proofs.YtndclldicdfmeaaGreat
open Go.ChangeShapes Go.WideShapes Go.ChangeAt Go.RowKit
open Fl

theorem ret_int {k : IntKind} {a b : Int} (h : a = b) : Ending.returned (.int k a) = .returned (.int k b) := by rw [h]

theorem class_any (b : Int) (w : World) (h : U b) :
    Calls Tryz.prog 138 #[.int .u64 b] w fun e w' => e = .returned (.int .i64 (cls b)) ∧ w' = w := by
  have e1 := and_field h
  have e2 := and_fraction h
  have H1 : Hid (bits .and .u64 b 9218868437227405312 = b / 4503599627370496 % 2048 * 4503599627370496) := e1
  have H2 : Hid (bits .and .u64 b 4503599627370495 = b % 4503599627370496) := e2
  have HU : Hid (U b) := h
  clear e1 e2 h
  go_enter Tryz.func138, Tryz.ntmps138
  go_wp2
  all_goals go_ret
  all_goals
    refine ⟨ret_int ?_, rfl⟩
    have e1 := H1.out
    have e2 := H2.out
    obtain ⟨h0, h1⟩ := HU.out
    simp_all only [beq_iff_eq, bne_iff_ne, ne_eq, beq_eq_false_iff_ne, bne_eq_false_iff_eq]
    unfold cls
    omega

theorem canon_any (b : Int) (w : World) (h : U b) :
    Calls Tryz.prog 98 #[.int .u64 b] w fun e w' => e = .returned (.int .u64 (can b)) ∧ w' = w := by
  have HU : Hid (U b) := h
  clear h
  have HN : Hid (cls b = 5 ↔ 9218868437227405312 < b % 9223372036854775808) := cls_nan b
  by_cases h5 : cls b = 5
  · go_enter Tryz.func98, Tryz.ntmps98
    go_wp2_with (go_at_call 138; refine (class_any _ _ HU.out).mono ?_; rintro e w' ⟨rfl, rfl⟩)
    go_ret
    exact ⟨ret_int (by unfold can; rw [if_pos (HN.out.1 h5)]), rfl⟩
  · go_enter Tryz.func98, Tryz.ntmps98
    go_wp2_with (go_at_call 138; refine (class_any _ _ HU.out).mono ?_; rintro e w' ⟨rfl, rfl⟩)
    go_ret
    exact ⟨ret_int (by unfold can; rw [if_neg (fun x => h5 (HN.out.2 x))]), rfl⟩

theorem order_any (b : Int) (w : World) (h : U b) :
    Calls Tryz.prog 180 #[.int .u64 b] w fun e w' => e = .returned (.int .u64 (ord b)) ∧ w' = w := by
  have HU : Hid (U b) := h
  have HN : Hid (cls b = 5 ↔ 9218868437227405312 < b % 9223372036854775808) := cls_nan b
  have HA : Hid (bits .and .u64 b 9223372036854775808 = b / 9223372036854775808 * 9223372036854775808) := and_sign h
  have HO : Hid (bits .or .u64 b 9223372036854775808 = if b < 9223372036854775808 then b + 9223372036854775808 else b) := or_sign h
  have HX : Hid (bits .xor .u64 18446744073709551615 b = 18446744073709551615 - b) := not_bits h
  have HB : Hid (0 ≤ b ∧ b < 18446744073709551616) := h
  clear h
  by_cases h5 : cls b = 5
  · go_enter Tryz.func180, Tryz.ntmps180
    go_wp2_with (go_at_call 138; refine (class_any _ _ HU.out).mono ?_; rintro e w' ⟨rfl, rfl⟩)
    go_ret
    exact ⟨ret_int (by unfold ord; rw [if_pos (HN.out.1 h5)]), rfl⟩
  · by_cases hs : (bits .and .u64 b 9223372036854775808 != 0) = true
    · go_enter Tryz.func180, Tryz.ntmps180
      go_wp2_with (go_at_call 138; refine (class_any _ _ HU.out).mono ?_; rintro e w' ⟨rfl, rfl⟩)
      go_ret
      refine ⟨ret_int ?_, rfl⟩
      have h1 := HN.out
      have h2 := HB.out
      simp only [bne_iff_ne, ne_eq, HA.out] at hs
      unfold ord
      rw [if_neg (by omega), if_pos (by omega)]
      exact HX.out
    · have hs' : (bits .and .u64 b 9223372036854775808 != 0) = false := by simpa using hs
      clear hs
      go_enter Tryz.func180, Tryz.ntmps180
      go_wp2_with (go_at_call 138; refine (class_any _ _ HU.out).mono ?_; rintro e w' ⟨rfl, rfl⟩)
      go_ret
      refine ⟨ret_int ?_, rfl⟩
      have h1 := HN.out
      have h2 := HB.out
      simp only [bne_eq_false_iff_eq, HA.out] at hs'
      rw [HO.out, if_pos (by omega)]
      unfold ord
      rw [if_neg (by omega), if_neg (by omega)]

end Go.Proofs.YtndclldicdfmeaaGreat
