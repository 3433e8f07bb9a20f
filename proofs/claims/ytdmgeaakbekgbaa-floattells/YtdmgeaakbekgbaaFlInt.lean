/-
  What Int of package float answers for every 64 bits.
-/
import Derived.Test.YtdmgeaakbekgbaaFlAlive
import Derived.Test.YtdmgeaakbekgbaaFlWhole
namespace Go.Proofs.Ytdmgeaakbekgbaa
open Go.ChangeShapes Go.WideShapes Go.ChangeAt Go.RowKit
open Fl

theorem int_top (b : Int) (w : World) (h : U b) (h4 : 4 ≤ cls b) :
    Calls Try.prog 11 #[.int .u64 b] w fun e w' => e = .returned (.tuple #[.int .i64 0, .int .i64 7]) ∧ Below w.heap.size w w' := by
  have HU : Hid (U b) := h
  have d4 : decide (4 ≤ cls b) = true := by simpa using h4
  clear h
  go_enter Try.func11, Try.ntmps11
  go_wp2_with (go_at_call 15; refine (class_any _ _ HU.out).mono ?_; rintro e w' ⟨rfl, rfl⟩)
  go_ret2
  exact ⟨rfl, Below.refl _ _⟩

theorem int_part (b : Int) (w : World) (h : U b) (h4 : ¬ 4 ≤ cls b) (hf : ¬ ffl b = b) :
    Calls Try.prog 11 #[.int .u64 b] w fun e w' => e = .returned (.tuple #[.int .i64 0, .int .i64 7]) ∧ Below w.heap.size w w' := by
  have HU : Hid (U b) := h
  have d4 : decide (4 ≤ cls b) = false := by simpa using h4
  have df : (ffl b != b) = true := by simpa using hf
  clear h h4 hf
  go_enter Try.func11, Try.ntmps11
  go_wp2_with (go_at_call 15; refine (class_any _ _ HU.out).mono ?_; rintro e w' ⟨rfl, rfl⟩)
  refine (floor_any _ _ HU.out).mono ?_
  rintro e w1 ⟨rfl, b1⟩
  go_wp2
  go_ret2
  exact ⟨rfl, b1⟩

theorem int_far (b : Int) (w : World) (h : U b) (h4 : ¬ 4 ≤ cls b) (hf : ffl b = b) (h53 : 4845873199050653696 < rng b.toNat) :
    Calls Try.prog 11 #[.int .u64 b] w fun e w' => e = .returned (.tuple #[.int .i64 0, .int .i64 4]) ∧ Below w.heap.size w w' := by
  have HU : Hid (U b) := h
  have d4 : decide (4 ≤ cls b) = false := by simpa using h4
  have df : (ffl b != b) = false := by simpa using hf
  have b1 := below53 h (by omega)
  have b2 := above53 h (by omega)
  rw [decide_eq_true h53] at b1 b2
  clear h h4 hf h53
  cases hs : sgn b.toNat
  · rw [hs] at b1 b2
    have o1 : (FloatKind.f64.format.order b.toNat 14069245235905429504 == some Ordering.lt) = false := b1
    have o2 : (FloatKind.f64.format.order b.toNat 4845873199050653696 == some Ordering.gt) = true := b2
    clear b1 b2 hs
    go_enter Try.func11, Try.ntmps11
    go_wp2_with (go_at_call 15; refine (class_any _ _ HU.out).mono ?_; rintro e w' ⟨rfl, rfl⟩)
    refine (floor_any _ _ HU.out).mono ?_
    rintro e w1 ⟨rfl, b1⟩
    go_wp2_with (go_at_call 33; refine (number_any _ _).mono ?_; rintro e w' ⟨rfl, rfl⟩)
    go_ret2
    exact ⟨rfl, b1⟩
  · rw [hs] at b1 b2
    have o1 : (FloatKind.f64.format.order b.toNat 14069245235905429504 == some Ordering.lt) = true := b1
    clear b1 b2 hs
    go_enter Try.func11, Try.ntmps11
    go_wp2_with (go_at_call 15; refine (class_any _ _ HU.out).mono ?_; rintro e w' ⟨rfl, rfl⟩)
    refine (floor_any _ _ HU.out).mono ?_
    rintro e w1 ⟨rfl, b1⟩
    go_wp2_with (go_at_call 33; refine (number_any _ _).mono ?_; rintro e w' ⟨rfl, rfl⟩)
    go_ret2
    exact ⟨rfl, b1⟩

theorem conv_run (b : Int) (h : U b) (h4 : cls b < 4) (h53 : rng b.toNat ≤ 4845873199050653696) (w : World) :
    (convert 40 3 (.float .f64 b.toNat)).run Try.prog w = .ok (.int .i64 (iv b)) w :=
  run_convert_float_int w 40 3 .f64 .i64 b.toNat (iv b) (by kernel_rfl) Try.underlying3 (to_int_val h h4 h53)

theorem int_in (b : Int) (w : World) (h : U b) (h4 : ¬ 4 ≤ cls b) (hf : ffl b = b) (h53 : rng b.toNat ≤ 4845873199050653696) :
    Calls Try.prog 11 #[.int .u64 b] w fun e w' => e = .returned (.tuple #[.int .i64 (iv b), .int .i64 0]) ∧ Below w.heap.size w w' := by
  have HU : Hid (U b) := h
  have d4 : decide (4 ≤ cls b) = false := by simpa using h4
  have df : (ffl b != b) = false := by simpa using hf
  have b1 := below53 h (by omega)
  have b2 := above53 h (by omega)
  have hc := conv_run b h (by omega) h53
  have o1 : (FloatKind.f64.format.order b.toNat 14069245235905429504 == some Ordering.lt) = false := by rw [b1, decide_eq_false (by omega), Bool.and_false]
  have o2 : (FloatKind.f64.format.order b.toNat 4845873199050653696 == some Ordering.gt) = false := by rw [b2, decide_eq_false (by omega), Bool.and_false]
  clear h h4 hf h53 b1 b2
  go_enter Try.func11, Try.ntmps11
  go_wp2_with (go_at_call 15; refine (class_any _ _ HU.out).mono ?_; rintro e w' ⟨rfl, rfl⟩)
  refine (floor_any _ _ HU.out).mono ?_
  rintro e w1 ⟨rfl, b1⟩
  go_wp2_with (go_at_call 33; refine (number_any _ _).mono ?_; rintro e w' ⟨rfl, rfl⟩)
  go_ret2
  exact ⟨rfl, b1⟩

end Go.Proofs.Ytdmgeaakbekgbaa
