/-
  What the page's own Floor, Of and Int (package fanlightref01) answer, for every 64 bits and every whole number.
-/
import Derived.Test.YtdmgeaakbekgbaaFlRefMath
namespace Go.Proofs.Ytdmgeaakbekgbaa
open Go.ChangeShapes Go.WideShapes Go.ChangeAt Go.RowKit
open Fl

theorem rfloor_any (b : Int) (w : World) (h : U b) :
    Calls Try.prog 20 #[.int .u64 b] w fun e w' => e = .returned (.int .u64 (ffl b)) ∧ Below w.heap.size w w' := by
  have HU : Hid (U b) := h
  have hb := tobits_eq
  by_cases h5 : cls b = 5
  · have HF : Hid (9221120237041090560 = ffl b) := by show _ = _; rw [floor_top h (by omega)]; unfold can; rw [if_pos ((cls_nan b).1 h5)]
    have d5 : (cls b == 5) = true := by simpa using h5
    clear h h5
    go_enter Try.func20, Try.ntmps20
    go_wp2_with (first | (go_at_call 16; refine (rclass_any _ _ HU.out).mono ?_; rintro e w' ⟨rfl, rfl⟩) | (go_at_call 34; refine (rexponent_any _ _ HU.out).mono ?_; rintro e w' ⟨rfl, rfl⟩))
    go_ret
    exact ⟨ret_int HF.out, Below.refl _ _⟩
  have d5 : (cls b == 5) = false := by simpa using h5
  by_cases hc : cls b < 2 ∨ 1075 ≤ b / 4503599627370496 % 2048
  · have HF : Hid (b = ffl b) := (ffl_same h h5 hc).symm
    clear h h5
    by_cases h2 : cls b < 2
    · clear hc
      go_enter Try.func20, Try.ntmps20
      go_wp2_with (first | (go_at_call 16; refine (rclass_any _ _ HU.out).mono ?_; rintro e w' ⟨rfl, rfl⟩) | (go_at_call 34; refine (rexponent_any _ _ HU.out).mono ?_; rintro e w' ⟨rfl, rfl⟩))
      go_ret
      exact ⟨ret_int HF.out, Below.refl _ _⟩
    · have h3 : 1075 ≤ b / 4503599627370496 % 2048 := by omega
      have d2 : decide (cls b < 2) = false := by simpa using h2
      clear hc h2
      go_enter Try.func20, Try.ntmps20
      go_wp2_with (first | (go_at_call 16; refine (rclass_any _ _ HU.out).mono ?_; rintro e w' ⟨rfl, rfl⟩) | (go_at_call 34; refine (rexponent_any _ _ HU.out).mono ?_; rintro e w' ⟨rfl, rfl⟩))
      go_ret
      exact ⟨ret_int HF.out, Below.refl _ _⟩
  have h2 : 2 ≤ cls b := by omega
  have e2 : b / 4503599627370496 % 2048 < 1075 := by omega
  have h4 : cls b < 4 := by unfold cls at h5 ⊢; unfold U at h; omega
  clear hc
  by_cases e1 : 1023 ≤ b / 4503599627370496 % 2048
  · have hD := dig_bd e1 e2
    have a1 := and_low h hD
    have a2 := andNot_low h hD
    by_cases hz : b.toNat % 2 ^ dig b = 0
    · have t1 : (bits .and .u64 b (IntKind.u64.wrap (IntKind.u64.wrap (2 ^ (52 - (b / 4503599627370496 % 2048 - 1023)).toNat) - 1)) == 0) = true := by
        show (bits .and .u64 b (low (dig b)) == 0) = true
        rw [a1, hz]; rfl
      have HF : Hid (b = ffl b) := (mid_whole h h4 e1 e2 hz).symm
      clear h h5 a1 a2 hz h4
      go_enter Try.func20, Try.ntmps20
      go_wp2_with (first | (go_at_call 16; refine (rclass_any _ _ HU.out).mono ?_; rintro e w' ⟨rfl, rfl⟩) | (go_at_call 34; refine (rexponent_any _ _ HU.out).mono ?_; rintro e w' ⟨rfl, rfl⟩))
      go_ret
      exact ⟨ret_int HF.out, Below.refl _ _⟩
    · have t1 : (bits .and .u64 b (IntKind.u64.wrap (IntKind.u64.wrap (2 ^ (52 - (b / 4503599627370496 % 2048 - 1023)).toNat) - 1)) == 0) = false := by
        show (bits .and .u64 b (low (dig b)) == 0) = false
        rw [a1]
        simp only [beq_eq_false_iff_ne]
        omega
      have t2 : bits .andNot .u64 b (IntKind.u64.wrap (IntKind.u64.wrap (2 ^ (52 - (b / 4503599627370496 % 2048 - 1023)).toNat) - 1)) = ((b.toNat - b.toNat % 2 ^ dig b : Nat) : Int) := a2
      by_cases hs : b < 9223372036854775808
      · have HF : Hid (((b.toNat - b.toNat % 2 ^ dig b : Nat) : Int) = ffl b) := mid_pos h h4 e1 e2 hs
        have HT : Hid (bits .andNot .u64 b (IntKind.u64.wrap (IntKind.u64.wrap (2 ^ (52 - (b / 4503599627370496 % 2048 - 1023)).toNat) - 1)) = ((b.toNat - b.toNat % 2 ^ dig b : Nat) : Int)) := t2
        clear h h5 a1 a2 hz t2 h4
        go_enter Try.func20, Try.ntmps20
        go_wp2_with (first | (go_at_call 16; refine (rclass_any _ _ HU.out).mono ?_; rintro e w' ⟨rfl, rfl⟩) | (go_at_call 34; refine (rexponent_any _ _ HU.out).mono ?_; rintro e w' ⟨rfl, rfl⟩))
        go_ret
        exact ⟨ret_int (HT.out.trans HF.out), Below.refl _ _⟩
      · have HF : Hid (fop .sub ((b.toNat - b.toNat % 2 ^ dig b : Nat) : Int) 4607182418800017408 = ffl b) := mid_neg h h4 e1 e2 hs hz
        have HT : Hid (bits .andNot .u64 b (IntKind.u64.wrap (IntKind.u64.wrap (2 ^ (52 - (b / 4503599627370496 % 2048 - 1023)).toNat) - 1)) = ((b.toNat - b.toNat % 2 ^ dig b : Nat) : Int)) := t2
        clear h h5 a1 a2 hz t2 h4
        go_enter Try.func20, Try.ntmps20
        go_wp2_with (first | (go_at_call 16; refine (rclass_any _ _ HU.out).mono ?_; rintro e w' ⟨rfl, rfl⟩) | (go_at_call 34; refine (rexponent_any _ _ HU.out).mono ?_; rintro e w' ⟨rfl, rfl⟩))
        refine (rsub_any _ _ _).mono ?_
        rintro e w1 ⟨rfl, b1⟩
        go_wp2
        go_ret
        exact ⟨ret_int (by rw [HT.out]; exact HF.out), b1⟩
  · have HF : Hid (ffl b = if b < 9223372036854775808 then 0 else 13830554455654793216) := ffl_under h h2 h4 (by omega)
    by_cases hs : b < 9223372036854775808
    · clear h h5 h4
      go_enter Try.func20, Try.ntmps20
      go_wp2_with (first | (go_at_call 16; refine (rclass_any _ _ HU.out).mono ?_; rintro e w' ⟨rfl, rfl⟩) | (go_at_call 34; refine (rexponent_any _ _ HU.out).mono ?_; rintro e w' ⟨rfl, rfl⟩))
      go_ret
      exact ⟨ret_int (by rw [HF.out, if_pos hs]), Below.refl _ _⟩
    · clear h h5 h4
      go_enter Try.func20, Try.ntmps20
      go_wp2_with (first | (go_at_call 16; refine (rclass_any _ _ HU.out).mono ?_; rintro e w' ⟨rfl, rfl⟩) | (go_at_call 34; refine (rexponent_any _ _ HU.out).mono ?_; rintro e w' ⟨rfl, rfl⟩))
      go_ret
      exact ⟨ret_int (by rw [HF.out, if_neg (by omega)]), Below.refl _ _⟩

end Go.Proofs.Ytdmgeaakbekgbaa
