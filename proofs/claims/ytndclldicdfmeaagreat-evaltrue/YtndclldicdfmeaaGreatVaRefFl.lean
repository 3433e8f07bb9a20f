/-
  What the page's own answers for float (package fanlightref01) give: exponent, fraction, Class, Canon, Order, of, Add, Sub, Mul, Div, for every 64 bits.
-/
import Derived.Test.YtndclldicdfmeaaGreatFlWalks
namespace Go.Proofs.YtndclldicdfmeaaGreat
open Go.ChangeShapes Go.WideShapes Go.ChangeAt Go.RowKit
open Fl

theorem and_exponent {b : Int} (h : U b) : wrap64 (bits .and .u64 (b / 4503599627370496) 2047) = b / 4503599627370496 % 2048 := by
  obtain ⟨h0, h1⟩ := h
  rw [u64_and _ _ (by omega) (by omega) (by decide) (by decide)]
  obtain ⟨n, hn⟩ : ∃ n : Nat, b / 4503599627370496 = n := ⟨(b / 4503599627370496).toNat, by omega⟩
  have e : (2047 : Int).toNat = 2047 := rfl
  rw [e, hn, Int.toNat_natCast, nat_mask11]
  unfold wrap64
  omega

theorem rexponent_any (b : Int) (w : World) (h : U b) :
    Calls Tryz.prog 128 #[.int .u64 b] w fun e w' => e = .returned (.int .i64 (b / 4503599627370496 % 2048)) ∧ w' = w := by
  go_enter Tryz.func128, Tryz.ntmps128
  go_wp2
  go_ret
  exact ⟨ret_int (and_exponent h), rfl⟩

theorem rfraction_any (b : Int) (w : World) (h : U b) :
    Calls Tryz.prog 131 #[.int .u64 b] w fun e w' => e = .returned (.int .u64 (b % 4503599627370496)) ∧ w' = w := by
  go_enter Tryz.func131, Tryz.ntmps131
  go_wp2
  go_ret
  exact ⟨ret_int (and_fraction h), rfl⟩

theorem rclass_any (b : Int) (w : World) (h : U b) :
    Calls Tryz.prog 100 #[.int .u64 b] w fun e w' => e = .returned (.int .i64 (cls b)) ∧ w' = w := by
  have HU : Hid (U b) := h
  clear h
  go_enter Tryz.func100, Tryz.ntmps100
  go_wp2_with (first | (go_at_call 128; refine (rexponent_any _ _ HU.out).mono ?_; rintro e w' ⟨rfl, rfl⟩) | (go_at_call 131; refine (rfraction_any _ _ HU.out).mono ?_; rintro e w' ⟨rfl, rfl⟩))
  all_goals go_ret
  all_goals
    refine ⟨ret_int ?_, rfl⟩
    obtain ⟨h0, h1⟩ := HU.out
    simp_all only [beq_iff_eq, bne_iff_ne, ne_eq, beq_eq_false_iff_ne, bne_eq_false_iff_eq]
    unfold cls
    omega

theorem rcanon_any (b : Int) (w : World) (h : U b) :
    Calls Tryz.prog 63 #[.int .u64 b] w fun e w' => e = .returned (.int .u64 (can b)) ∧ w' = w := by
  have HU : Hid (U b) := h
  clear h
  have HN : Hid (cls b = 5 ↔ 9218868437227405312 < b % 9223372036854775808) := cls_nan b
  by_cases h5 : cls b = 5
  · go_enter Tryz.func63, Tryz.ntmps63
    go_wp2_with (go_at_call 100; refine (rclass_any _ _ HU.out).mono ?_; rintro e w' ⟨rfl, rfl⟩)
    go_ret
    exact ⟨ret_int (by unfold can; rw [if_pos (HN.out.1 h5)]), rfl⟩
  · go_enter Tryz.func63, Tryz.ntmps63
    go_wp2_with (go_at_call 100; refine (rclass_any _ _ HU.out).mono ?_; rintro e w' ⟨rfl, rfl⟩)
    go_ret
    exact ⟨ret_int (by unfold can; rw [if_neg (fun x => h5 (HN.out.2 x))]), rfl⟩

theorem rorder_any (b : Int) (w : World) (h : U b) :
    Calls Tryz.prog 159 #[.int .u64 b] w fun e w' => e = .returned (.int .u64 (ord b)) ∧ w' = w := by
  have HU : Hid (U b) := h
  have HN : Hid (cls b = 5 ↔ 9218868437227405312 < b % 9223372036854775808) := cls_nan b
  have HO : Hid (bits .or .u64 b 9223372036854775808 = if b < 9223372036854775808 then b + 9223372036854775808 else b) := or_sign h
  have HX : Hid (bits .xor .u64 18446744073709551615 b = 18446744073709551615 - b) := not_bits h
  clear h
  by_cases h5 : cls b = 5
  · go_enter Tryz.func159, Tryz.ntmps159
    go_wp2_with (go_at_call 100; refine (rclass_any _ _ HU.out).mono ?_; rintro e w' ⟨rfl, rfl⟩)
    go_ret
    exact ⟨ret_int (by unfold ord; rw [if_pos (HN.out.1 h5)]), rfl⟩
  · by_cases hs : 9223372036854775808 ≤ b
    · go_enter Tryz.func159, Tryz.ntmps159
      go_wp2_with (go_at_call 100; refine (rclass_any _ _ HU.out).mono ?_; rintro e w' ⟨rfl, rfl⟩)
      go_ret
      refine ⟨ret_int ?_, rfl⟩
      unfold ord
      rw [if_neg (fun x => h5 (HN.out.2 x)), if_pos hs]
      exact HX.out
    · go_enter Tryz.func159, Tryz.ntmps159
      go_wp2_with (go_at_call 100; refine (rclass_any _ _ HU.out).mono ?_; rintro e w' ⟨rfl, rfl⟩)
      go_ret
      refine ⟨ret_int ?_, rfl⟩
      rw [HO.out, if_pos (by omega)]
      unfold ord
      rw [if_neg (fun x => h5 (HN.out.2 x)), if_neg (by omega)]

end Go.Proofs.YtndclldicdfmeaaGreat
