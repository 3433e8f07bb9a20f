/-
  The program's bounds of an op; may a part be?
-/
import Derived.Test.YtndclldicdfmeaaGreatExMath
import Derived.Test.YtndclldicdfmeaaGreatFlWalks
import Derived.Deep.RegionHeld3
namespace Go.Proofs.YtndclldicdfmeaaGreat.Xp
open Go.ChangeShapes Go.WideShapes Go.ChangeAt Go.RowKit
open Fl

theorem below_draw1 (w : World) (o : Obj) : Below w.heap.size w ((w.alloc o).drew) := (below_one w o).drew

theorem within_any (n l m : Int) (w : World) : Calls Tryz.prog 144 #[.int .i64 n, .int .i64 l, .int .i64 m] w fun e w' => e = .returned (.bool (withinB n l m)) ∧ w' = w := by
  by_cases h1 : l ≤ n
  · by_cases h2 : n ≤ m
    · have HE : Hid (withinB n l m = true) := by show _ = _; unfold withinB; rw [decide_eq_true h1, decide_eq_true h2]; rfl
      rw [HE.out]
      clear HE
      go_enter Tryz.func144, Tryz.ntmps144
      go_wp2_with fail
      go_ret
      exact ⟨rfl, rfl⟩
    · have HE : Hid (withinB n l m = false) := by show _ = _; unfold withinB; rw [decide_eq_false h2, Bool.and_false]
      have d2 : decide (n ≤ m) = false := decide_eq_false h2
      clear h2
      rw [HE.out]
      clear HE
      go_enter Tryz.func144, Tryz.ntmps144
      go_wp2_with fail
      go_ret
      exact ⟨rfl, rfl⟩
  · have HE : Hid (withinB n l m = false) := by show _ = _; unfold withinB; rw [decide_eq_false h1, Bool.false_and]
    have d1 : decide (l ≤ n) = false := decide_eq_false h1
    clear h1
    rw [HE.out]
    clear HE
    go_enter Tryz.func144, Tryz.ntmps144
    go_wp2_with fail
    go_ret
    exact ⟨rfl, rfl⟩

theorem isop_any (k : Int) (w : World) : Calls Tryz.prog 142 #[.int .i64 k] w fun e w' => e = .returned (.bool (withinB k 0 29)) ∧ w' = w := by
  have HC := within_any k 0 29
  generalize withinB k 0 29 = B at *
  go_enter Tryz.func142, Tryz.ntmps142
  go_wp2_with (go_at_call 144; refine (HC _).mono ?_; rintro e w1 ⟨rfl, rfl⟩)
  go_ret
  exact ⟨rfl, rfl⟩

set_option maxRecDepth 100000 in
set_option maxHeartbeats 3200000 in
theorem texb_any (k : Int) (w : World) : Calls Tryz.prog 140 #[.int .i64 k] w fun e w' => e = .returned (.tuple #[.int .i64 (texB k).1, .int .i64 (texB k).2]) ∧ w' = w := by
  by_cases h4 : k = 4
  · subst h4
    go_enter Tryz.func140, Tryz.ntmps140
    go_wp2_with fail
    go_ret2
    exact ⟨rfl, rfl⟩
  by_cases h8 : k = 8
  · subst h8
    go_enter Tryz.func140, Tryz.ntmps140
    go_wp2_with fail
    go_ret2
    exact ⟨rfl, rfl⟩
  by_cases h25 : k = 25
  · subst h25
    go_enter Tryz.func140, Tryz.ntmps140
    go_wp2_with fail
    go_ret2
    exact ⟨rfl, rfl⟩
  have d4 : (k == 4) = false := by simpa using h4
  have d8 : (k == 8) = false := by simpa using h8
  have d25 : (k == 25) = false := by simpa using h25
  have HE : Hid (texB k = (0, 0)) := by show _ = _; unfold texB; simp [h4, h8, h25]
  rw [HE.out]
  clear h4 h8 h25 HE
  go_enter Tryz.func140, Tryz.ntmps140
  go_wp2_with fail
  go_ret2
  exact ⟨rfl, rfl⟩

set_option maxRecDepth 100000 in
set_option maxHeartbeats 3200000 in
theorem argb_any (k : Int) (w : World) : Calls Tryz.prog 141 #[.int .i64 k] w fun e w' => e = .returned (.tuple #[.int .i64 (argB k).1, .int .i64 (argB k).2]) ∧ w' = w := by
  by_cases h8 : k = 8
  · subst h8
    go_enter Tryz.func141, Tryz.ntmps141
    go_wp2_with fail
    go_ret2
    exact ⟨rfl, rfl⟩
  by_cases h10 : k = 10
  · subst h10
    go_enter Tryz.func141, Tryz.ntmps141
    go_wp2_with fail
    go_ret2
    exact ⟨rfl, rfl⟩
  by_cases h15 : k = 15
  · subst h15
    go_enter Tryz.func141, Tryz.ntmps141
    go_wp2_with fail
    go_ret2
    exact ⟨rfl, rfl⟩
  by_cases h20 : k = 20
  · subst h20
    go_enter Tryz.func141, Tryz.ntmps141
    go_wp2_with fail
    go_ret2
    exact ⟨rfl, rfl⟩
  by_cases h26 : k = 26
  · subst h26
    go_enter Tryz.func141, Tryz.ntmps141
    go_wp2_with fail
    go_ret2
    exact ⟨rfl, rfl⟩
  by_cases h9 : k = 9
  · subst h9
    go_enter Tryz.func141, Tryz.ntmps141
    go_wp2_with fail
    go_ret2
    exact ⟨rfl, rfl⟩
  by_cases h11 : k = 11
  · subst h11
    go_enter Tryz.func141, Tryz.ntmps141
    go_wp2_with fail
    go_ret2
    exact ⟨rfl, rfl⟩
  by_cases h12 : k = 12
  · subst h12
    go_enter Tryz.func141, Tryz.ntmps141
    go_wp2_with fail
    go_ret2
    exact ⟨rfl, rfl⟩
  by_cases h13 : k = 13
  · subst h13
    go_enter Tryz.func141, Tryz.ntmps141
    go_wp2_with fail
    go_ret2
    exact ⟨rfl, rfl⟩
  by_cases h14 : k = 14
  · subst h14
    go_enter Tryz.func141, Tryz.ntmps141
    go_wp2_with fail
    go_ret2
    exact ⟨rfl, rfl⟩
  by_cases h16 : k = 16
  · subst h16
    go_enter Tryz.func141, Tryz.ntmps141
    go_wp2_with fail
    go_ret2
    exact ⟨rfl, rfl⟩
  by_cases h17 : k = 17
  · subst h17
    go_enter Tryz.func141, Tryz.ntmps141
    go_wp2_with fail
    go_ret2
    exact ⟨rfl, rfl⟩
  by_cases h18 : k = 18
  · subst h18
    go_enter Tryz.func141, Tryz.ntmps141
    go_wp2_with fail
    go_ret2
    exact ⟨rfl, rfl⟩
  by_cases h19 : k = 19
  · subst h19
    go_enter Tryz.func141, Tryz.ntmps141
    go_wp2_with fail
    go_ret2
    exact ⟨rfl, rfl⟩
  by_cases h22 : k = 22
  · subst h22
    go_enter Tryz.func141, Tryz.ntmps141
    go_wp2_with fail
    go_ret2
    exact ⟨rfl, rfl⟩
  by_cases h24 : k = 24
  · subst h24
    go_enter Tryz.func141, Tryz.ntmps141
    go_wp2_with fail
    go_ret2
    exact ⟨rfl, rfl⟩
  by_cases h25 : k = 25
  · subst h25
    go_enter Tryz.func141, Tryz.ntmps141
    go_wp2_with fail
    go_ret2
    exact ⟨rfl, rfl⟩
  by_cases h27 : k = 27
  · subst h27
    go_enter Tryz.func141, Tryz.ntmps141
    go_wp2_with fail
    go_ret2
    exact ⟨rfl, rfl⟩
  by_cases h28 : k = 28
  · subst h28
    go_enter Tryz.func141, Tryz.ntmps141
    go_wp2_with fail
    go_ret2
    exact ⟨rfl, rfl⟩
  by_cases h29 : k = 29
  · subst h29
    go_enter Tryz.func141, Tryz.ntmps141
    go_wp2_with fail
    go_ret2
    exact ⟨rfl, rfl⟩
  by_cases h21 : k = 21
  · subst h21
    go_enter Tryz.func141, Tryz.ntmps141
    go_wp2_with fail
    go_ret2
    exact ⟨rfl, rfl⟩
  by_cases h23 : k = 23
  · subst h23
    go_enter Tryz.func141, Tryz.ntmps141
    go_wp2_with fail
    go_ret2
    exact ⟨rfl, rfl⟩
  have d8 : (k == 8) = false := by simpa using h8
  have d10 : (k == 10) = false := by simpa using h10
  have d15 : (k == 15) = false := by simpa using h15
  have d20 : (k == 20) = false := by simpa using h20
  have d26 : (k == 26) = false := by simpa using h26
  have d9 : (k == 9) = false := by simpa using h9
  have d11 : (k == 11) = false := by simpa using h11
  have d12 : (k == 12) = false := by simpa using h12
  have d13 : (k == 13) = false := by simpa using h13
  have d14 : (k == 14) = false := by simpa using h14
  have d16 : (k == 16) = false := by simpa using h16
  have d17 : (k == 17) = false := by simpa using h17
  have d18 : (k == 18) = false := by simpa using h18
  have d19 : (k == 19) = false := by simpa using h19
  have d22 : (k == 22) = false := by simpa using h22
  have d24 : (k == 24) = false := by simpa using h24
  have d25 : (k == 25) = false := by simpa using h25
  have d27 : (k == 27) = false := by simpa using h27
  have d28 : (k == 28) = false := by simpa using h28
  have d29 : (k == 29) = false := by simpa using h29
  have d21 : (k == 21) = false := by simpa using h21
  have d23 : (k == 23) = false := by simpa using h23
  have HE : Hid (argB k = (0, 0)) := by show _ = _; unfold argB; simp [h8, h10, h15, h20, h26, h9, h11, h12, h13, h14, h16, h17, h18, h19, h22, h24, h25, h27, h28, h29, h21, h23]
  rw [HE.out]
  clear h8 h10 h15 h20 h26 h9 h11 h12 h13 h14 h16 h17 h18 h19 h22 h24 h25 h27 h28 h29 h21 h23 HE
  go_enter Tryz.func141, Tryz.ntmps141
  go_wp2_with fail
  go_ret2
  exact ⟨rfl, rfl⟩

set_option maxRecDepth 100000 in
set_option maxHeartbeats 1600000 in
theorem bits_may (k b : Int) (t : ByteArray) (ia : Option Addr) (il ic : Nat) (hb : U b) (w : World) :
    Calls Tryz.prog 143 #[mkX k b t ia il ic] w fun e w' => e = .returned (.bool (bitB k b)) ∧ Below w.heap.size w w' := by
  have HU : Hid (U b) := hb
  clear hb
  by_cases h3 : k = 3
  · subst h3
    have HE : Hid (bitB 3 b = (can b == b)) := rfl
    rw [HE.out]
    clear HE
    go_enter Tryz.func143, Tryz.ntmps143
    go_wp2_with fail
    go_region_held3 (fun w' => w'.cell? ⟨w.heap.size, 1, none⟩ = some (.int .u64 b)) (go_keep) ((go_at_call 98; refine (canon_any _ _ HU.out).mono ?_; rintro e w' ⟨rfl, rfl⟩))
    go_wp2_with fail
    go_ret
    exact ⟨rfl, below_draw1 _ _⟩
  · have d3 : (k == 3) = false := by simpa using h3
    have HE : Hid (bitB k b = (b == 0)) := by show _ = _; unfold bitB; rw [if_neg h3]
    rw [HE.out]
    clear HE h3
    go_enter Tryz.func143, Tryz.ntmps143
    go_wp2_with fail
    go_ret
    exact ⟨rfl, below_one _ _⟩

set_option maxRecDepth 100000 in
set_option maxHeartbeats 3200000 in
theorem part_may (k b : Int) (t : ByteArray) (ia : Option Addr) (il ic : Nat) (hf : FitX k b t il ic) (w : World) :
    Calls Tryz.prog 104 #[mkX k b t ia il ic] w fun e w' => e = .returned (.bool (mayX k b t il)) ∧ Below w.heap.size w w' := by
  obtain ⟨-, hb, ht, h1, h2, h3⟩ := hf
  have HB := bits_may k b t ia il ic hb
  have HT := texb_any k
  have HA := argb_any k
  have HO := isop_any k
  have HM : Hid (mayX k b t il = (withinB k 0 29 && bitB k b && withinB (t.size : Int) (texB k).1 (texB k).2 && withinB (il : Int) (argB k).1 (argB k).2)) := rfl
  rw [HM.out]
  clear HM hb
  generalize (texB k).1 = tl at *
  generalize (texB k).2 = tm at *
  generalize (argB k).1 = al at *
  generalize (argB k).2 = am at *
  generalize withinB k 0 29 = B1 at *
  generalize bitB k b = B2 at *
  cases B1 with
  | false =>
    go_enter Tryz.func104, Tryz.ntmps104
    go_wp2_with (first
      | (go_at_call 140; refine (HT _).mono ?_; rintro e w1 ⟨rfl, rfl⟩)
      | (go_at_call 141; refine (HA _).mono ?_; rintro e w1 ⟨rfl, rfl⟩)
      | (go_at_call 142; refine (HO _).mono ?_; rintro e w1 ⟨rfl, rfl⟩))
    go_ret
    exact ⟨by simp, below_one _ _⟩
  | true =>
    cases B2 with
    | false =>
      go_enter Tryz.func104, Tryz.ntmps104
      go_wp2_with (first
        | (go_at_call 140; refine (HT _).mono ?_; rintro e w1 ⟨rfl, rfl⟩)
        | (go_at_call 141; refine (HA _).mono ?_; rintro e w1 ⟨rfl, rfl⟩)
        | (go_at_call 142; refine (HO _).mono ?_; rintro e w1 ⟨rfl, rfl⟩)
        | (go_at_call 143; refine (HB _).mono ?_; rintro e w1 ⟨rfl, hb1⟩))
      go_ret
      exact ⟨by simp, nxt (below_one _ _) hb1⟩
    | true =>
      cases h3 : withinB (t.size : Int) tl tm with
      | false =>
        have H3 : Hid (withinB (t.size : Int) tl tm = false) := h3
        clear h3
        go_enter Tryz.func104, Tryz.ntmps104
        go_wp2_with (first
          | (go_at_call 140; refine (HT _).mono ?_; rintro e w1 ⟨rfl, rfl⟩)
          | (go_at_call 141; refine (HA _).mono ?_; rintro e w1 ⟨rfl, rfl⟩)
          | (go_at_call 142; refine (HO _).mono ?_; rintro e w1 ⟨rfl, rfl⟩)
          | (go_at_call 144; refine (within_any _ _ _ _).mono ?_; rw [H3.out]; rintro e w1 ⟨rfl, rfl⟩)
          | (go_at_call 143; refine (HB _).mono ?_; rintro e w1 ⟨rfl, hb1⟩; obtain ⟨z0, z1, z2, z3, -⟩ := box4 (g := w.heap.size) ((hb1.block w.heap.size (by simp)).trans (heap_alloc_new w _))))
        go_ret
        exact ⟨by simp, nxt (below_one _ _) hb1⟩
      | true =>
        have H3 : Hid (withinB (t.size : Int) tl tm = true) := h3
        clear h3
        obtain ⟨B4, h4⟩ : ∃ B, withinB (il : Int) al am = B := ⟨_, rfl⟩
        have H4 : Hid (withinB (il : Int) al am = B4) := h4
        rw [h4]
        clear h4
        go_enter Tryz.func104, Tryz.ntmps104
        go_wp2_with (first
          | (go_at_call 140; refine (HT _).mono ?_; rintro e w1 ⟨rfl, rfl⟩)
          | (go_at_call 141; refine (HA _).mono ?_; rintro e w1 ⟨rfl, rfl⟩)
          | (go_at_call 142; refine (HO _).mono ?_; rintro e w1 ⟨rfl, rfl⟩)
          | (go_at_call 144; refine (within_any _ _ _ _).mono ?_; (first | rw [H3.out] | rw [H4.out]); rintro e w1 ⟨rfl, rfl⟩)
          | (go_at_call 143; refine (HB _).mono ?_; rintro e w1 ⟨rfl, hb1⟩; obtain ⟨z0, z1, z2, z3, -⟩ := box4 (g := w.heap.size) ((hb1.block w.heap.size (by simp)).trans (heap_alloc_new w _))))
        go_ret
        exact ⟨by simp, nxt (below_one _ _) hb1⟩

end Go.Proofs.YtndclldicdfmeaaGreat.Xp
