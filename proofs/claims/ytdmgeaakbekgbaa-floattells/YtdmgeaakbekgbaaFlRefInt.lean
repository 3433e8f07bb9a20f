/-
  Of and Int, of package float and of the page's own answers (package fanlightref01), said by one function each, for every whole number and every 64 bits.
-/
import Derived.Test.YtdmgeaakbekgbaaFlRefFloor
import Derived.Test.YtdmgeaakbekgbaaFlInt
namespace Go.Proofs.Ytdmgeaakbekgbaa
open Go.ChangeShapes Go.WideShapes Go.ChangeAt Go.RowKit
open Fl

/-- What Of answers. -/
def ofv (n : Int) : Int := if n < -9007199254740992 ∨ 9007199254740992 < n then 0 else (floatOfInt .f64 n : Nat)
def ofe (n : Int) : Int := if n < -9007199254740992 ∨ 9007199254740992 < n then 4 else 0
/-- What Int answers. -/
def inv (b : Int) : Int := if 4 ≤ cls b ∨ ¬ ffl b = b then 0 else if 4845873199050653696 < rng b.toNat then 0 else iv b
def ine (b : Int) : Int := if 4 ≤ cls b ∨ ¬ ffl b = b then 7 else if 4845873199050653696 < rng b.toNat then 4 else 0

theorem rof_in (n : Int) (w : World) (h1 : -9007199254740992 ≤ n) (h2 : n ≤ 9007199254740992) :
    Calls Try.prog 10 #[.int .i64 n] w fun e w' => e = .returned (.tuple #[.int .u64 (floatOfInt .f64 n : Nat), .int .i64 0]) ∧ w' = w := by
  have hb := tobits_eq
  go_enter Try.func10, Try.ntmps10
  go_wp2
  go_ret2
  exact ⟨rfl, rfl⟩

theorem rof_out (n : Int) (w : World) (h : n < -9007199254740992 ∨ 9007199254740992 < n) :
    Calls Try.prog 10 #[.int .i64 n] w fun e w' => e = .returned (.tuple #[.int .u64 0, .int .i64 4]) ∧ w' = w := by
  rcases h with h | h
  · go_enter Try.func10, Try.ntmps10
    go_wp2
    go_ret2
    exact ⟨rfl, rfl⟩
  · have h' : ¬ n < -9007199254740992 := by omega
    go_enter Try.func10, Try.ntmps10
    go_wp2
    go_ret2
    exact ⟨rfl, rfl⟩

theorem of_all (n : Int) (w : World) :
    Calls Try.prog 9 #[.int .i64 n] w fun e w' => e = .returned (.tuple #[.int .u64 (ofv n), .int .i64 (ofe n)]) ∧ w' = w := by
  by_cases h : n < -9007199254740992 ∨ 9007199254740992 < n
  · have e1 : ofv n = 0 := by unfold ofv; rw [if_pos h]
    have e2 : ofe n = 4 := by unfold ofe; rw [if_pos h]
    rw [e1, e2]
    exact of_out n w h
  · have e1 : ofv n = (floatOfInt .f64 n : Nat) := by unfold ofv; rw [if_neg h]
    have e2 : ofe n = 0 := by unfold ofe; rw [if_neg h]
    rw [e1, e2]
    exact of_in n w (by omega) (by omega)

theorem rof_all (n : Int) (w : World) :
    Calls Try.prog 10 #[.int .i64 n] w fun e w' => e = .returned (.tuple #[.int .u64 (ofv n), .int .i64 (ofe n)]) ∧ w' = w := by
  by_cases h : n < -9007199254740992 ∨ 9007199254740992 < n
  · have e1 : ofv n = 0 := by unfold ofv; rw [if_pos h]
    have e2 : ofe n = 4 := by unfold ofe; rw [if_pos h]
    rw [e1, e2]
    exact rof_out n w h
  · have e1 : ofv n = (floatOfInt .f64 n : Nat) := by unfold ofv; rw [if_neg h]
    have e2 : ofe n = 0 := by unfold ofe; rw [if_neg h]
    rw [e1, e2]
    exact rof_in n w (by omega) (by omega)

theorem int_all (b : Int) (w : World) (h : U b) :
    Calls Try.prog 11 #[.int .u64 b] w fun e w' => e = .returned (.tuple #[.int .i64 (inv b), .int .i64 (ine b)]) ∧ Below w.heap.size w w' := by
  by_cases h1 : 4 ≤ cls b ∨ ¬ ffl b = b
  · have e1 : inv b = 0 := by unfold inv; rw [if_pos h1]
    have e2 : ine b = 7 := by unfold ine; rw [if_pos h1]
    rw [e1, e2]
    by_cases h4 : 4 ≤ cls b
    · exact int_top b w h h4
    · exact int_part b w h h4 (h1.resolve_left h4)
  · have h4 : ¬ 4 ≤ cls b := fun x => h1 (.inl x)
    have hf : ffl b = b := Decidable.byContradiction fun x => h1 (.inr x)
    by_cases h53 : 4845873199050653696 < rng b.toNat
    · have e1 : inv b = 0 := by unfold inv; rw [if_neg h1, if_pos h53]
      have e2 : ine b = 4 := by unfold ine; rw [if_neg h1, if_pos h53]
      rw [e1, e2]
      exact int_far b w h h4 hf h53
    · have e1 : inv b = iv b := by unfold inv; rw [if_neg h1, if_neg h53]
      have e2 : ine b = 0 := by unfold ine; rw [if_neg h1, if_neg h53]
      rw [e1, e2]
      exact int_in b w h h4 hf (by omega)

theorem rint_top (b : Int) (w : World) (h : U b) (h4 : 4 ≤ cls b) :
    Calls Try.prog 12 #[.int .u64 b] w fun e w' => e = .returned (.tuple #[.int .i64 0, .int .i64 7]) ∧ Below w.heap.size w w' := by
  have HU : Hid (U b) := h
  have d4 : decide (4 ≤ cls b) = true := by simpa using h4
  clear h
  go_enter Try.func12, Try.ntmps12
  go_wp2_with (first | (go_at_call 16; refine (rclass_any _ _ HU.out).mono ?_; rintro e w' ⟨rfl, rfl⟩) | (go_at_call 34; refine (rexponent_any _ _ HU.out).mono ?_; rintro e w' ⟨rfl, rfl⟩) | (go_at_call 35; refine (rfraction_any _ _ HU.out).mono ?_; rintro e w' ⟨rfl, rfl⟩))
  go_ret2
  exact ⟨rfl, Below.refl _ _⟩

theorem rint_part (b : Int) (w : World) (h : U b) (h4 : ¬ 4 ≤ cls b) (hf : ¬ ffl b = b) :
    Calls Try.prog 12 #[.int .u64 b] w fun e w' => e = .returned (.tuple #[.int .i64 0, .int .i64 7]) ∧ Below w.heap.size w w' := by
  have HU : Hid (U b) := h
  have d4 : decide (4 ≤ cls b) = false := by simpa using h4
  have df : (ffl b != b) = true := by simpa using hf
  clear h h4 hf
  go_enter Try.func12, Try.ntmps12
  go_wp2_with (first | (go_at_call 16; refine (rclass_any _ _ HU.out).mono ?_; rintro e w' ⟨rfl, rfl⟩) | (go_at_call 34; refine (rexponent_any _ _ HU.out).mono ?_; rintro e w' ⟨rfl, rfl⟩) | (go_at_call 35; refine (rfraction_any _ _ HU.out).mono ?_; rintro e w' ⟨rfl, rfl⟩))
  refine (rfloor_any _ _ HU.out).mono ?_
  rintro e w1 ⟨rfl, b1⟩
  go_wp2
  go_ret2
  exact ⟨rfl, b1⟩

theorem rint_far (b : Int) (w : World) (h : U b) (h4 : ¬ 4 ≤ cls b) (hf : ffl b = b) (h53 : 4845873199050653696 < rng b.toNat) :
    Calls Try.prog 12 #[.int .u64 b] w fun e w' => e = .returned (.tuple #[.int .i64 0, .int .i64 4]) ∧ Below w.heap.size w w' := by
  have HU : Hid (U b) := h
  have d4 : decide (4 ≤ cls b) = false := by simpa using h4
  have df : (ffl b != b) = false := by simpa using hf
  have hr := rng_int h
  have hx : 1076 < b / 4503599627370496 % 2048 ∨ b / 4503599627370496 % 2048 = 1076 ∧ 0 < b % 4503599627370496 := by unfold U at h; omega
  clear h h4 hf h53 hr
  rcases hx with hx | ⟨hx, hy⟩
  · go_enter Try.func12, Try.ntmps12
    go_wp2_with (first | (go_at_call 16; refine (rclass_any _ _ HU.out).mono ?_; rintro e w' ⟨rfl, rfl⟩) | (go_at_call 34; refine (rexponent_any _ _ HU.out).mono ?_; rintro e w' ⟨rfl, rfl⟩) | (go_at_call 35; refine (rfraction_any _ _ HU.out).mono ?_; rintro e w' ⟨rfl, rfl⟩))
    refine (rfloor_any _ _ HU.out).mono ?_
    rintro e w1 ⟨rfl, b1⟩
    go_wp2_with (first | (go_at_call 16; refine (rclass_any _ _ HU.out).mono ?_; rintro e w' ⟨rfl, rfl⟩) | (go_at_call 34; refine (rexponent_any _ _ HU.out).mono ?_; rintro e w' ⟨rfl, rfl⟩) | (go_at_call 35; refine (rfraction_any _ _ HU.out).mono ?_; rintro e w' ⟨rfl, rfl⟩))
    go_ret2
    exact ⟨rfl, b1⟩
  · go_enter Try.func12, Try.ntmps12
    go_wp2_with (first | (go_at_call 16; refine (rclass_any _ _ HU.out).mono ?_; rintro e w' ⟨rfl, rfl⟩) | (go_at_call 34; refine (rexponent_any _ _ HU.out).mono ?_; rintro e w' ⟨rfl, rfl⟩) | (go_at_call 35; refine (rfraction_any _ _ HU.out).mono ?_; rintro e w' ⟨rfl, rfl⟩))
    refine (rfloor_any _ _ HU.out).mono ?_
    rintro e w1 ⟨rfl, b1⟩
    go_wp2_with (first | (go_at_call 16; refine (rclass_any _ _ HU.out).mono ?_; rintro e w' ⟨rfl, rfl⟩) | (go_at_call 34; refine (rexponent_any _ _ HU.out).mono ?_; rintro e w' ⟨rfl, rfl⟩) | (go_at_call 35; refine (rfraction_any _ _ HU.out).mono ?_; rintro e w' ⟨rfl, rfl⟩))
    go_ret2
    exact ⟨rfl, b1⟩

theorem rint_in (b : Int) (w : World) (h : U b) (h4 : ¬ 4 ≤ cls b) (hf : ffl b = b) (h53 : rng b.toNat ≤ 4845873199050653696) :
    Calls Try.prog 12 #[.int .u64 b] w fun e w' => e = .returned (.tuple #[.int .i64 (iv b), .int .i64 0]) ∧ Below w.heap.size w w' := by
  have HU : Hid (U b) := h
  have d4 : decide (4 ≤ cls b) = false := by simpa using h4
  have df : (ffl b != b) = false := by simpa using hf
  have hfb := frombits_eq
  have hc := conv_run b h (by omega) h53
  have hr := rng_int h
  have hx : b / 4503599627370496 % 2048 < 1076 ∨ b / 4503599627370496 % 2048 = 1076 ∧ b % 4503599627370496 = 0 := by unfold U at h; omega
  clear h h4 hf h53 hr
  rcases hx with hx | ⟨hx, hy⟩
  · have hx' : (b / 4503599627370496 % 2048 - 1023 == 53) = false := by simp; omega
    go_enter Try.func12, Try.ntmps12
    go_wp2_with (first | (go_at_call 16; refine (rclass_any _ _ HU.out).mono ?_; rintro e w' ⟨rfl, rfl⟩) | (go_at_call 34; refine (rexponent_any _ _ HU.out).mono ?_; rintro e w' ⟨rfl, rfl⟩) | (go_at_call 35; refine (rfraction_any _ _ HU.out).mono ?_; rintro e w' ⟨rfl, rfl⟩))
    refine (rfloor_any _ _ HU.out).mono ?_
    rintro e w1 ⟨rfl, b1⟩
    go_wp2_with (first | (go_at_call 16; refine (rclass_any _ _ HU.out).mono ?_; rintro e w' ⟨rfl, rfl⟩) | (go_at_call 34; refine (rexponent_any _ _ HU.out).mono ?_; rintro e w' ⟨rfl, rfl⟩) | (go_at_call 35; refine (rfraction_any _ _ HU.out).mono ?_; rintro e w' ⟨rfl, rfl⟩))
    go_ret2
    exact ⟨rfl, b1⟩
  · go_enter Try.func12, Try.ntmps12
    go_wp2_with (first | (go_at_call 16; refine (rclass_any _ _ HU.out).mono ?_; rintro e w' ⟨rfl, rfl⟩) | (go_at_call 34; refine (rexponent_any _ _ HU.out).mono ?_; rintro e w' ⟨rfl, rfl⟩) | (go_at_call 35; refine (rfraction_any _ _ HU.out).mono ?_; rintro e w' ⟨rfl, rfl⟩))
    refine (rfloor_any _ _ HU.out).mono ?_
    rintro e w1 ⟨rfl, b1⟩
    go_wp2_with (first | (go_at_call 16; refine (rclass_any _ _ HU.out).mono ?_; rintro e w' ⟨rfl, rfl⟩) | (go_at_call 34; refine (rexponent_any _ _ HU.out).mono ?_; rintro e w' ⟨rfl, rfl⟩) | (go_at_call 35; refine (rfraction_any _ _ HU.out).mono ?_; rintro e w' ⟨rfl, rfl⟩))
    go_ret2
    exact ⟨rfl, b1⟩

theorem rint_all (b : Int) (w : World) (h : U b) :
    Calls Try.prog 12 #[.int .u64 b] w fun e w' => e = .returned (.tuple #[.int .i64 (inv b), .int .i64 (ine b)]) ∧ Below w.heap.size w w' := by
  by_cases h1 : 4 ≤ cls b ∨ ¬ ffl b = b
  · have e1 : inv b = 0 := by unfold inv; rw [if_pos h1]
    have e2 : ine b = 7 := by unfold ine; rw [if_pos h1]
    rw [e1, e2]
    by_cases h4 : 4 ≤ cls b
    · exact rint_top b w h h4
    · exact rint_part b w h h4 (h1.resolve_left h4)
  · have h4 : ¬ 4 ≤ cls b := fun x => h1 (.inl x)
    have hf : ffl b = b := Decidable.byContradiction fun x => h1 (.inr x)
    by_cases h53 : 4845873199050653696 < rng b.toNat
    · have e1 : inv b = 0 := by unfold inv; rw [if_neg h1, if_pos h53]
      have e2 : ine b = 4 := by unfold ine; rw [if_neg h1, if_pos h53]
      rw [e1, e2]
      exact rint_far b w h h4 hf h53
    · have e1 : inv b = iv b := by unfold inv; rw [if_neg h1, if_neg h53]
      have e2 : ine b = 0 := by unfold ine; rw [if_neg h1, if_neg h53]
      rw [e1, e2]
      exact rint_in b w h h4 hf (by omega)

end Go.Proofs.Ytdmgeaakbekgbaa
