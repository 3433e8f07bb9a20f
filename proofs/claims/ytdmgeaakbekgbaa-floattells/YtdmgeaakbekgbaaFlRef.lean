/-
  What the page's own answers for float (package fanlightref01) give: exponent, fraction, Class, Canon, Order, of, Add, Sub, Mul, Div, for every 64 bits.
-/
import Derived.Test.YtdmgeaakbekgbaaFlAlive
namespace Go.Proofs.Ytdmgeaakbekgbaa
open Go.ChangeShapes Go.WideShapes Go.ChangeAt Go.RowKit
open Fl

theorem and_exponent {b : Int} (h : U b) : wrap64 (bits .and .u64 (b / 4503599627370496) 2047) = b / 4503599627370496 % 2048 := by
  obtain ⟨h0, h1⟩ := h
  rw [u64_and _ _ (by omega) (by omega) (by decide) (by decide)]
  obtain ⟨n, hn⟩ : ∃ n : Nat, b / 4503599627370496 = n := ⟨(b / 4503599627370496).toNat, by omega⟩
  have e : (2047 : Int).toNat = 2047 := rfl
  rw [e, hn, Int.toNat_natCast, nat_mask11]
  unfold wrap64
  omega

theorem rexponent_any (b : Int) (w : World) (h : U b) :
    Calls Try.prog 34 #[.int .u64 b] w fun e w' => e = .returned (.int .i64 (b / 4503599627370496 % 2048)) ∧ w' = w := by
  go_enter Try.func34, Try.ntmps34
  go_wp2
  go_ret
  exact ⟨ret_int (and_exponent h), rfl⟩

theorem rfraction_any (b : Int) (w : World) (h : U b) :
    Calls Try.prog 35 #[.int .u64 b] w fun e w' => e = .returned (.int .u64 (b % 4503599627370496)) ∧ w' = w := by
  go_enter Try.func35, Try.ntmps35
  go_wp2
  go_ret
  exact ⟨ret_int (and_fraction h), rfl⟩

theorem rclass_any (b : Int) (w : World) (h : U b) :
    Calls Try.prog 16 #[.int .u64 b] w fun e w' => e = .returned (.int .i64 (cls b)) ∧ w' = w := by
  have HU : Hid (U b) := h
  clear h
  go_enter Try.func16, Try.ntmps16
  go_wp2_with (first | (go_at_call 34; refine (rexponent_any _ _ HU.out).mono ?_; rintro e w' ⟨rfl, rfl⟩) | (go_at_call 35; refine (rfraction_any _ _ HU.out).mono ?_; rintro e w' ⟨rfl, rfl⟩))
  all_goals go_ret
  all_goals
    refine ⟨ret_int ?_, rfl⟩
    obtain ⟨h0, h1⟩ := HU.out
    simp_all only [beq_iff_eq, bne_iff_ne, ne_eq, beq_eq_false_iff_ne, bne_eq_false_iff_eq]
    unfold cls
    omega

theorem rcanon_any (b : Int) (w : World) (h : U b) :
    Calls Try.prog 14 #[.int .u64 b] w fun e w' => e = .returned (.int .u64 (can b)) ∧ w' = w := by
  have HU : Hid (U b) := h
  clear h
  have HN : Hid (cls b = 5 ↔ 9218868437227405312 < b % 9223372036854775808) := cls_nan b
  by_cases h5 : cls b = 5
  · go_enter Try.func14, Try.ntmps14
    go_wp2_with (go_at_call 16; refine (rclass_any _ _ HU.out).mono ?_; rintro e w' ⟨rfl, rfl⟩)
    go_ret
    exact ⟨ret_int (by unfold can; rw [if_pos (HN.out.1 h5)]), rfl⟩
  · go_enter Try.func14, Try.ntmps14
    go_wp2_with (go_at_call 16; refine (rclass_any _ _ HU.out).mono ?_; rintro e w' ⟨rfl, rfl⟩)
    go_ret
    exact ⟨ret_int (by unfold can; rw [if_neg (fun x => h5 (HN.out.2 x))]), rfl⟩

theorem rorder_any (b : Int) (w : World) (h : U b) :
    Calls Try.prog 18 #[.int .u64 b] w fun e w' => e = .returned (.int .u64 (ord b)) ∧ w' = w := by
  have HU : Hid (U b) := h
  have HN : Hid (cls b = 5 ↔ 9218868437227405312 < b % 9223372036854775808) := cls_nan b
  have HO : Hid (bits .or .u64 b 9223372036854775808 = if b < 9223372036854775808 then b + 9223372036854775808 else b) := or_sign h
  have HX : Hid (bits .xor .u64 18446744073709551615 b = 18446744073709551615 - b) := not_bits h
  clear h
  by_cases h5 : cls b = 5
  · go_enter Try.func18, Try.ntmps18
    go_wp2_with (go_at_call 16; refine (rclass_any _ _ HU.out).mono ?_; rintro e w' ⟨rfl, rfl⟩)
    go_ret
    exact ⟨ret_int (by unfold ord; rw [if_pos (HN.out.1 h5)]), rfl⟩
  · by_cases hs : 9223372036854775808 ≤ b
    · go_enter Try.func18, Try.ntmps18
      go_wp2_with (go_at_call 16; refine (rclass_any _ _ HU.out).mono ?_; rintro e w' ⟨rfl, rfl⟩)
      go_ret
      refine ⟨ret_int ?_, rfl⟩
      unfold ord
      rw [if_neg (fun x => h5 (HN.out.2 x)), if_pos hs]
      exact HX.out
    · go_enter Try.func18, Try.ntmps18
      go_wp2_with (go_at_call 16; refine (rclass_any _ _ HU.out).mono ?_; rintro e w' ⟨rfl, rfl⟩)
      go_ret
      refine ⟨ret_int ?_, rfl⟩
      rw [HO.out, if_pos (by omega)]
      unfold ord
      rw [if_neg (fun x => h5 (HN.out.2 x)), if_neg (by omega)]

theorem rof_any (n : Nat) (w : World) (h : n < 18446744073709551616) :
    Calls Try.prog 40 #[.float .f64 n] w fun e w' => e = .returned (.int .u64 (can n)) ∧ w' = w := by
  have hb := tobits_eq
  have HU : Hid (U (n : Int)) := ⟨by omega, by omega⟩
  clear h
  go_enter Try.func40, Try.ntmps40
  go_wp2_with (go_at_call 14; refine (rcanon_any _ _ HU.out).mono ?_; rintro e w' ⟨rfl, rfl⟩)
  go_ret
  exact ⟨rfl, rfl⟩

theorem can_flo {op : BinOp} {a b : Int} {r : Nat} (h : floatBits op .f64 a.toNat b.toNat = some r) : can (r : Int) = fop op a b := by
  have hf : fop op a b = (r : Int) := by unfold fop; rw [h]; rfl
  rw [← hf]
  exact can_fop op a b

theorem below_drew (w : World) : Below w.heap.size w w.drew := (Below.refl _ _).drew

theorem radd_any (a b : Int) (w : World) :
    Calls Try.prog 24 #[.int .u64 a, .int .u64 b] w fun e w' => e = .returned (.int .u64 (fop .add a b)) ∧ Below w.heap.size w w' := by
  have hf := frombits_eq
  cases h : floatBits .add .f64 a.toNat b.toNat with
  | some r =>
    have hr := fun (w : World) => run_float_arith (P := Try.prog) w .add 40 .f64 _ _ _ h
    have HB : Hid (r < 18446744073709551616) := (bits_num h).2
    have HC : Hid (can (r : Int) = fop .add a b) := can_flo h
    clear h
    go_enter Try.func24, Try.ntmps24
    go_wp2_with (go_at_call 40; refine (rof_any _ _ HB.out).mono ?_; rintro e w' ⟨rfl, rfl⟩)
    go_ret
    exact ⟨ret_int HC.out, Below.refl _ _⟩
  | none =>
    obtain ⟨g, hg⟩ := run_nan (P := Try.prog) (op := .add) (by simp) 40 _ _ h
    have hr := fun (w : World) => (hg w).2
    have HG : Hid (∀ w : World, 9218868437227405312 < g w % 9223372036854775808 ∧ g w < 18446744073709551616) := fun w => (hg w).1
    have HF : Hid (fop .add a b = flo none) := by show fop .add a b = flo none; unfold fop; rw [h]
    clear hg h
    go_enter Try.func24, Try.ntmps24
    go_wp2_with (go_at_call 40; refine (rof_any _ _ (HG.out _).2).mono ?_; rintro e w' ⟨rfl, rfl⟩)
    go_ret
    exact ⟨ret_int (by rw [HF.out]; exact flo_nan _ (HG.out _).1), below_drew _⟩

theorem rsub_any (a b : Int) (w : World) :
    Calls Try.prog 26 #[.int .u64 a, .int .u64 b] w fun e w' => e = .returned (.int .u64 (fop .sub a b)) ∧ Below w.heap.size w w' := by
  have hf := frombits_eq
  cases h : floatBits .sub .f64 a.toNat b.toNat with
  | some r =>
    have hr := fun (w : World) => run_float_arith (P := Try.prog) w .sub 40 .f64 _ _ _ h
    have HB : Hid (r < 18446744073709551616) := (bits_num h).2
    have HC : Hid (can (r : Int) = fop .sub a b) := can_flo h
    clear h
    go_enter Try.func26, Try.ntmps26
    go_wp2_with (go_at_call 40; refine (rof_any _ _ HB.out).mono ?_; rintro e w' ⟨rfl, rfl⟩)
    go_ret
    exact ⟨ret_int HC.out, Below.refl _ _⟩
  | none =>
    obtain ⟨g, hg⟩ := run_nan (P := Try.prog) (op := .sub) (by simp) 40 _ _ h
    have hr := fun (w : World) => (hg w).2
    have HG : Hid (∀ w : World, 9218868437227405312 < g w % 9223372036854775808 ∧ g w < 18446744073709551616) := fun w => (hg w).1
    have HF : Hid (fop .sub a b = flo none) := by show fop .sub a b = flo none; unfold fop; rw [h]
    clear hg h
    go_enter Try.func26, Try.ntmps26
    go_wp2_with (go_at_call 40; refine (rof_any _ _ (HG.out _).2).mono ?_; rintro e w' ⟨rfl, rfl⟩)
    go_ret
    exact ⟨ret_int (by rw [HF.out]; exact flo_nan _ (HG.out _).1), below_drew _⟩

theorem rmul_any (a b : Int) (w : World) :
    Calls Try.prog 28 #[.int .u64 a, .int .u64 b] w fun e w' => e = .returned (.int .u64 (fop .mul a b)) ∧ Below w.heap.size w w' := by
  have hf := frombits_eq
  cases h : floatBits .mul .f64 a.toNat b.toNat with
  | some r =>
    have hr := fun (w : World) => run_float_arith (P := Try.prog) w .mul 40 .f64 _ _ _ h
    have HB : Hid (r < 18446744073709551616) := (bits_num h).2
    have HC : Hid (can (r : Int) = fop .mul a b) := can_flo h
    clear h
    go_enter Try.func28, Try.ntmps28
    go_wp2_with (go_at_call 40; refine (rof_any _ _ HB.out).mono ?_; rintro e w' ⟨rfl, rfl⟩)
    go_ret
    exact ⟨ret_int HC.out, Below.refl _ _⟩
  | none =>
    obtain ⟨g, hg⟩ := run_nan (P := Try.prog) (op := .mul) (by simp) 40 _ _ h
    have hr := fun (w : World) => (hg w).2
    have HG : Hid (∀ w : World, 9218868437227405312 < g w % 9223372036854775808 ∧ g w < 18446744073709551616) := fun w => (hg w).1
    have HF : Hid (fop .mul a b = flo none) := by show fop .mul a b = flo none; unfold fop; rw [h]
    clear hg h
    go_enter Try.func28, Try.ntmps28
    go_wp2_with (go_at_call 40; refine (rof_any _ _ (HG.out _).2).mono ?_; rintro e w' ⟨rfl, rfl⟩)
    go_ret
    exact ⟨ret_int (by rw [HF.out]; exact flo_nan _ (HG.out _).1), below_drew _⟩

theorem rdiv_any (a b : Int) (w : World) :
    Calls Try.prog 30 #[.int .u64 a, .int .u64 b] w fun e w' => e = .returned (.int .u64 (fop .quo a b)) ∧ Below w.heap.size w w' := by
  have hf := frombits_eq
  cases h : floatBits .quo .f64 a.toNat b.toNat with
  | some r =>
    have hr := fun (w : World) => run_float_arith (P := Try.prog) w .quo 40 .f64 _ _ _ h
    have HB : Hid (r < 18446744073709551616) := (bits_num h).2
    have HC : Hid (can (r : Int) = fop .quo a b) := can_flo h
    clear h
    go_enter Try.func30, Try.ntmps30
    go_wp2_with (go_at_call 40; refine (rof_any _ _ HB.out).mono ?_; rintro e w' ⟨rfl, rfl⟩)
    go_ret
    exact ⟨ret_int HC.out, Below.refl _ _⟩
  | none =>
    obtain ⟨g, hg⟩ := run_nan (P := Try.prog) (op := .quo) (by simp) 40 _ _ h
    have hr := fun (w : World) => (hg w).2
    have HG : Hid (∀ w : World, 9218868437227405312 < g w % 9223372036854775808 ∧ g w < 18446744073709551616) := fun w => (hg w).1
    have HF : Hid (fop .quo a b = flo none) := by show fop .quo a b = flo none; unfold fop; rw [h]
    clear hg h
    go_enter Try.func30, Try.ntmps30
    go_wp2_with (go_at_call 40; refine (rof_any _ _ (HG.out _).2).mono ?_; rintro e w' ⟨rfl, rfl⟩)
    go_ret
    exact ⟨ret_int (by rw [HF.out]; exact flo_nan _ (HG.out _).1), below_drew _⟩

end Go.Proofs.Ytdmgeaakbekgbaa
