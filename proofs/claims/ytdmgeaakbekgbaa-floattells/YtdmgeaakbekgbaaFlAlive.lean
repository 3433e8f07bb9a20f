/-
  What Of of package float answers for every whole number, and that the page's examples hold.
-/
import Derived.Test.YtdmgeaakbekgbaaFlSubDiv
namespace Go.Proofs.Ytdmgeaakbekgbaa
open Go.ChangeShapes Go.WideShapes Go.ChangeAt Go.RowKit
open Fl

theorem of_in (n : Int) (w : World) (h1 : -9007199254740992 ≤ n) (h2 : n ≤ 9007199254740992) :
    Calls Try.prog 9 #[.int .i64 n] w fun e w' => e = .returned (.tuple #[.int .u64 (floatOfInt .f64 n : Nat), .int .i64 0]) ∧ w' = w := by
  have hb := tobits_eq
  go_enter Try.func9, Try.ntmps9
  go_wp2
  go_ret2
  exact ⟨rfl, rfl⟩

theorem of_out (n : Int) (w : World) (h : n < -9007199254740992 ∨ 9007199254740992 < n) :
    Calls Try.prog 9 #[.int .i64 n] w fun e w' => e = .returned (.tuple #[.int .u64 0, .int .i64 4]) ∧ w' = w := by
  rcases h with h | h
  · go_enter Try.func9, Try.ntmps9
    go_wp2
    go_ret2
    exact ⟨rfl, rfl⟩
  · have h' : ¬ n < -9007199254740992 := by omega
    go_enter Try.func9, Try.ntmps9
    go_wp2
    go_ret2
    exact ⟨rfl, rfl⟩

theorem of_one : ((floatOfInt .f64 1 : Nat) : Int) = 4607182418800017408 := by decide +kernel
theorem cls_sign : cls 9223372036854775808 = 1 := by decide +kernel
theorem div_ex : fop .quo 4607182418800017408 9223372036854775808 = 18442240474082181120 := by decide +kernel
theorem floor_ex : ffl 13826050856027422720 = 13830554455654793216 := by decide +kernel

theorem num_any (n : Int) (w : World) :
    Calls Try.prog 21 #[.int .i64 n] w fun e w' => e = .returned (.int .i64 n) ∧ w' = w := by
  go_enter Try.func21, Try.ntmps21
  go_wp2
  go_ret
  exact ⟨rfl, rfl⟩

theorem alive_any (w : World) :
    Calls Try.prog 22 #[] w fun e w' => e = .returned (.bool true) ∧ Below w.heap.size w w' := by
  have e1 := of_one
  have e2 := cls_sign
  have e3 := div_ex
  have e4 := floor_ex
  go_enter Try.func22, Try.ntmps22
  go_wp2_with (first | (go_at_call 9; refine (of_in _ _ (by decide) (by decide)).mono ?_; rintro e w' ⟨rfl, rfl⟩) | (go_at_call 21; refine (num_any _ _).mono ?_; rintro e w' ⟨rfl, rfl⟩) | (go_at_call 15; refine (class_any _ _ (by unfold U; decide)).mono ?_; rintro e w' ⟨rfl, rfl⟩))
  refine (div_any _ _ _).mono ?_
  rintro e w1 ⟨rfl, hb1⟩
  go_wp2_with fail
  refine (floor_any _ _ (by unfold U; decide)).mono ?_
  rintro e w2 ⟨rfl, hb2⟩
  go_wp2
  go_ret
  exact ⟨rfl, hb1.trans (hb2.mono hb1.size)⟩

end Go.Proofs.Ytdmgeaakbekgbaa
