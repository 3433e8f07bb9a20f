/-
  What Sub and Div of package float answer, for every two numbers.
-/
import Derived.Test.YtdmgeaakbekgbaaFlArith
namespace Go.Proofs.Ytdmgeaakbekgbaa
open Go.ChangeShapes Go.WideShapes Go.ChangeAt Go.RowKit
open Fl

set_option maxHeartbeats 400000 in
theorem subC_any (a b : Int) (pa pb : Addr) (w : World) (ha : w.cell? pa = some (.int .u64 a)) (hb : w.cell? pb = some (.int .u64 b)) :
    Calls Try.prog 41 #[.pointer (some pa), .pointer (some pb)] w (reckons (fop .sub a b) w) := by
  cases h : floatBits .sub .f64 a.toNat b.toNat with
  | some r =>
    have hr := fun (w : World) => run_float_arith (P := Try.prog) w .sub 40 .f64 _ _ _ h
    go_enter Try.func41, Try.ntmps41
    go_wp2
    go_quiet ((go_at_call 33; exact Calls.quiet_of_same (number_any _ _)))
    go_wp2
    go_ret
    exact reckons_some rfl h rfl
  | none =>
    obtain ⟨g, hg⟩ := run_nan (P := Try.prog) (op := .sub) (by simp) 40 _ _ h
    have hr := fun (w : World) => (hg w).2
    have hn : Hid (∀ w : World, 9218868437227405312 < g w % 9223372036854775808 ∧ g w < 18446744073709551616) := fun w => (hg w).1
    clear hg
    go_enter Try.func41, Try.ntmps41
    go_wp2
    go_region_with ((go_at_call 33; refine (number_any _ _).mono ?_; rintro e w' ⟨rfl, rfl⟩))
    all_goals go_wp2
    all_goals go_ret
    all_goals exact reckons_none (r := g _) (k := 2) rfl h (hn.out _) rfl

set_option maxHeartbeats 400000 in
theorem divC_any (a b : Int) (pa pb : Addr) (w : World) (ha : w.cell? pa = some (.int .u64 a)) (hb : w.cell? pb = some (.int .u64 b)) :
    Calls Try.prog 43 #[.pointer (some pa), .pointer (some pb)] w (reckons (fop .quo a b) w) := by
  cases h : floatBits .quo .f64 a.toNat b.toNat with
  | some r =>
    have hr := fun (w : World) => run_float_arith (P := Try.prog) w .quo 40 .f64 _ _ _ h
    go_enter Try.func43, Try.ntmps43
    go_wp2
    go_quiet ((go_at_call 33; exact Calls.quiet_of_same (number_any _ _)))
    go_wp2
    go_ret
    exact reckons_some rfl h rfl
  | none =>
    obtain ⟨g, hg⟩ := run_nan (P := Try.prog) (op := .quo) (by simp) 40 _ _ h
    have hr := fun (w : World) => (hg w).2
    have hn : Hid (∀ w : World, 9218868437227405312 < g w % 9223372036854775808 ∧ g w < 18446744073709551616) := fun w => (hg w).1
    clear hg
    go_enter Try.func43, Try.ntmps43
    go_wp2
    go_region_with ((go_at_call 33; refine (number_any _ _).mono ?_; rintro e w' ⟨rfl, rfl⟩))
    all_goals go_wp2
    all_goals go_ret
    all_goals exact reckons_none (r := g _) (k := 2) rfl h (hn.out _) rfl

theorem sub_any (a b : Int) (w : World) :
    Calls Try.prog 25 #[.int .u64 a, .int .u64 b] w fun e w' => e = .returned (.int .u64 (fop .sub a b)) ∧ Below w.heap.size w w' := by
  have hmf := makeFunc_run
  have hb := tobits_eq
  go_enter Try.func25, Try.ntmps25
  go_wp2_with (first | (go_at_call 36; go_in) | (go_at_call 41; refine (subC_any a b _ _ _ ?_ ?_).mono ?_))
  · go_simp
  · go_simp
  rintro e w' ⟨n, k, rfl, hn1, hn2, rfl⟩
  have HN : Hid (U (n : Int)) := ⟨by omega, hn1⟩
  clear hn1
  go_wp2_with (go_at_call 13; refine (canon_any _ _ HN.out).mono ?_; rintro e w' ⟨rfl, rfl⟩)
  go_ret
  exact ⟨rfl, below_two _ _ _ _⟩

theorem div_any (a b : Int) (w : World) :
    Calls Try.prog 29 #[.int .u64 a, .int .u64 b] w fun e w' => e = .returned (.int .u64 (fop .quo a b)) ∧ Below w.heap.size w w' := by
  have hmf := makeFunc_run
  have hb := tobits_eq
  go_enter Try.func29, Try.ntmps29
  go_wp2_with (first | (go_at_call 36; go_in) | (go_at_call 43; refine (divC_any a b _ _ _ ?_ ?_).mono ?_))
  · go_simp
  · go_simp
  rintro e w' ⟨n, k, rfl, hn1, hn2, rfl⟩
  have HN : Hid (U (n : Int)) := ⟨by omega, hn1⟩
  clear hn1
  go_wp2_with (go_at_call 13; refine (canon_any _ _ HN.out).mono ?_; rintro e w' ⟨rfl, rfl⟩)
  go_ret
  exact ⟨rfl, below_two _ _ _ _⟩

end Go.Proofs.Ytdmgeaakbekgbaa
