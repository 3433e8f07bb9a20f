/-
  What the page's own answers for float (package fanlightref01) give: exponent, fraction, Class, Canon, Order, of, Add, Sub, Mul, Div, for every 64 bits.
-/
import Derived.Test.YtnliokikcpnllaaFlWalks
namespace Go.Proofs.Ytnliokikcpnllaa
open Go.ChangeShapes Go.WideShapes Go.ChangeAt Go.RowKit
open Fl

theorem and_exponent {b : Int} (h : U b) : wrap64 (bits .and .u64 (b / 4503599627370496) 2047) = b / 4503599627370496 % 2048 := by
  obtain ⟨h0, h1⟩ := h
  rw [u64_and _ _ (by omega) (by omega) (by decide) (by decide)]
  obtain ⟨n, hn⟩ : ∃ n : Nat, b / 4503599627370496 = n := ⟨(b / 4503599627370496).toNat, by omega⟩
  have e : (2047 : Int).toNat = 2047 := rfl
  rw [e, hn, Int.toNat_natCast, nat_mask11]
  unfold wrap64
  omega

theorem rexponent_any (b : Int) (w : World) (h : U b) :
    Calls Try.prog 70 #[.int .u64 b] w fun e w' => e = .returned (.int .i64 (b / 4503599627370496 % 2048)) ∧ w' = w := by
  go_enter Try.func70, Try.ntmps70
  go_wp2
  go_ret
  exact ⟨ret_int (and_exponent h), rfl⟩

theorem rfraction_any (b : Int) (w : World) (h : U b) :
    Calls Try.prog 71 #[.int .u64 b] w fun e w' => e = .returned (.int .u64 (b % 4503599627370496)) ∧ w' = w := by
  go_enter Try.func71, Try.ntmps71
  go_wp2
  go_ret
  exact ⟨ret_int (and_fraction h), rfl⟩

theorem rclass_any (b : Int) (w : World) (h : U b) :
    Calls Try.prog 62 #[.int .u64 b] w fun e w' => e = .returned (.int .i64 (cls b)) ∧ w' = w := by
  have HU : Hid (U b) := h
  clear h
  go_enter Try.func62, Try.ntmps62
  go_wp2_with (first | (go_at_call 70; refine (rexponent_any _ _ HU.out).mono ?_; rintro e w' ⟨rfl, rfl⟩) | (go_at_call 71; refine (rfraction_any _ _ HU.out).mono ?_; rintro e w' ⟨rfl, rfl⟩))
  all_goals go_ret
  all_goals
    refine ⟨ret_int ?_, rfl⟩
    obtain ⟨h0, h1⟩ := HU.out
    simp_all only [beq_iff_eq, bne_iff_ne, ne_eq, beq_eq_false_iff_ne, bne_eq_false_iff_eq]
    unfold cls
    omega

theorem rcanon_any (b : Int) (w : World) (h : U b) :
    Calls Try.prog 51 #[.int .u64 b] w fun e w' => e = .returned (.int .u64 (can b)) ∧ w' = w := by
  have HU : Hid (U b) := h
  clear h
  have HN : Hid (cls b = 5 ↔ 9218868437227405312 < b % 9223372036854775808) := cls_nan b
  by_cases h5 : cls b = 5
  · go_enter Try.func51, Try.ntmps51
    go_wp2_with (go_at_call 62; refine (rclass_any _ _ HU.out).mono ?_; rintro e w' ⟨rfl, rfl⟩)
    go_ret
    exact ⟨ret_int (by unfold can; rw [if_pos (HN.out.1 h5)]), rfl⟩
  · go_enter Try.func51, Try.ntmps51
    go_wp2_with (go_at_call 62; refine (rclass_any _ _ HU.out).mono ?_; rintro e w' ⟨rfl, rfl⟩)
    go_ret
    exact ⟨ret_int (by unfold can; rw [if_neg (fun x => h5 (HN.out.2 x))]), rfl⟩

end Go.Proofs.Ytnliokikcpnllaa
