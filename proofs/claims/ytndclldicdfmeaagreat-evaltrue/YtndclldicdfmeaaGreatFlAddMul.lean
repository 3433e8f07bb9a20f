/-
  What Add and Mul of package float answer, for every two numbers.
-/
import Derived.Test.YtndclldicdfmeaaGreatFlArith
namespace Go.Proofs.YtndclldicdfmeaaGreat.Fq
open Go.ChangeShapes Go.WideShapes Go.ChangeAt Go.RowKit
open Fl

set_option maxHeartbeats 400000 in
theorem addC_any (a b : Int) (pa pb : Addr) (w : World) (ha : w.cell? pa = some (.int .u64 a)) (hb : w.cell? pb = some (.int .u64 b)) :
    Calls Tryz.prog 113 #[.pointer (some pa), .pointer (some pb)] w (reckons (fop .add a b) w) := by
  cases h : floatBits .add .f64 a.toNat b.toNat with
  | some r =>
    have hr := fun (w : World) => run_float_arith (P := Tryz.prog) w .add 146 .f64 _ _ _ h
    go_enter Tryz.func113, Tryz.ntmps113
    go_wp2
    go_quiet ((go_at_call 114; exact Calls.quiet_of_same (number_any _ _)))
    go_wp2
    go_ret
    exact reckons_some rfl h rfl
  | none =>
    obtain ⟨g, hg⟩ := run_nan (P := Tryz.prog) (op := .add) (by simp) 146 _ _ h
    have hr := fun (w : World) => (hg w).2
    have hn : Hid (∀ w : World, 9218868437227405312 < g w % 9223372036854775808 ∧ g w < 18446744073709551616) := fun w => (hg w).1
    clear hg
    go_enter Tryz.func113, Tryz.ntmps113
    go_wp2
    go_region_with ((go_at_call 114; refine (number_any _ _).mono ?_; rintro e w' ⟨rfl, rfl⟩))
    all_goals go_wp2
    all_goals go_ret
    all_goals exact reckons_none (r := g _) (k := 2) rfl h (hn.out _) rfl

set_option maxHeartbeats 400000 in
theorem mulC_any (a b : Int) (pa pb : Addr) (w : World) (ha : w.cell? pa = some (.int .u64 a)) (hb : w.cell? pb = some (.int .u64 b)) :
    Calls Tryz.prog 116 #[.pointer (some pa), .pointer (some pb)] w (reckons (fop .mul a b) w) := by
  cases h : floatBits .mul .f64 a.toNat b.toNat with
  | some r =>
    have hr := fun (w : World) => run_float_arith (P := Tryz.prog) w .mul 146 .f64 _ _ _ h
    go_enter Tryz.func116, Tryz.ntmps116
    go_wp2
    go_quiet ((go_at_call 114; exact Calls.quiet_of_same (number_any _ _)))
    go_wp2
    go_ret
    exact reckons_some rfl h rfl
  | none =>
    obtain ⟨g, hg⟩ := run_nan (P := Tryz.prog) (op := .mul) (by simp) 146 _ _ h
    have hr := fun (w : World) => (hg w).2
    have hn : Hid (∀ w : World, 9218868437227405312 < g w % 9223372036854775808 ∧ g w < 18446744073709551616) := fun w => (hg w).1
    clear hg
    go_enter Tryz.func116, Tryz.ntmps116
    go_wp2
    go_region_with ((go_at_call 114; refine (number_any _ _).mono ?_; rintro e w' ⟨rfl, rfl⟩))
    all_goals go_wp2
    all_goals go_ret
    all_goals exact reckons_none (r := g _) (k := 2) rfl h (hn.out _) rfl

theorem add_any (a b : Int) (w : World) :
    Calls Tryz.prog 76 #[.int .u64 a, .int .u64 b] w fun e w' => e = .returned (.int .u64 (fop .add a b)) ∧ Below w.heap.size w w' := by
  have hmf := makeFunc_run
  have hb := tobits_eq
  go_enter Tryz.func76, Tryz.ntmps76
  go_wp2_with (first | (go_at_call 112; go_in) | (go_at_call 113; refine (addC_any a b _ _ _ ?_ ?_).mono ?_))
  · go_simp
  · go_simp
  rintro e w' ⟨n, k, rfl, hn1, hn2, rfl⟩
  have HN : Hid (U (n : Int)) := ⟨by omega, hn1⟩
  clear hn1
  go_wp2_with (go_at_call 98; refine (canon_any _ _ HN.out).mono ?_; rintro e w' ⟨rfl, rfl⟩)
  go_ret
  exact ⟨rfl, below_two _ _ _ _⟩

theorem mul_any (a b : Int) (w : World) :
    Calls Tryz.prog 79 #[.int .u64 a, .int .u64 b] w fun e w' => e = .returned (.int .u64 (fop .mul a b)) ∧ Below w.heap.size w w' := by
  have hmf := makeFunc_run
  have hb := tobits_eq
  go_enter Tryz.func79, Tryz.ntmps79
  go_wp2_with (first | (go_at_call 112; go_in) | (go_at_call 116; refine (mulC_any a b _ _ _ ?_ ?_).mono ?_))
  · go_simp
  · go_simp
  rintro e w' ⟨n, k, rfl, hn1, hn2, rfl⟩
  have HN : Hid (U (n : Int)) := ⟨by omega, hn1⟩
  clear hn1
  go_wp2_with (go_at_call 98; refine (canon_any _ _ HN.out).mono ?_; rintro e w' ⟨rfl, rfl⟩)
  go_ret
  exact ⟨rfl, below_two _ _ _ _⟩

end Go.Proofs.YtndclldicdfmeaaGreat.Fq
