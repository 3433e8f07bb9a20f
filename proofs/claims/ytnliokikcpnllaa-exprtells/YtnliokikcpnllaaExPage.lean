/-
  The page's bounds of an op; may a part be?
-/
import Derived.Test.YtnliokikcpnllaaExMay
import Derived.Test.YtnliokikcpnllaaExPart
import Derived.Test.YtnliokikcpnllaaVaRefFl
namespace Go.Proofs.Ytnliokikcpnllaa
open Go.ChangeShapes Go.WideShapes Go.ChangeAt Go.RowKit
open Fl

/-- How many parts an op has, as the page has it. -/
def rargN (k : Int) : Int := if withinB k 0 29 = true then (if k = 23 then -1 else (argB k).1) else -2

set_option maxRecDepth 100000 in
set_option maxHeartbeats 3200000 in
theorem rargs_any (k : Int) (w : World) : Calls Try.prog 48 #[.int .i64 k] w fun e w' => e = .returned (.int .i64 (rargN k)) ∧ w' = w := by
  by_cases hk : 0 ≤ k ∧ k ≤ 29
  · obtain ⟨kn, hkn, rfl⟩ : ∃ kn : Nat, kn ≤ 29 ∧ k = (kn : Int) := ⟨k.toNat, by omega, by omega⟩
    clear hk
    by_cases h0 : kn = 0
    · subst h0
      go_enter Try.func48, Try.ntmps48
      go_wp2_with fail
      go_ret
      exact ⟨rfl, rfl⟩
    by_cases h1 : kn = 1
    · subst h1
      go_enter Try.func48, Try.ntmps48
      go_wp2_with fail
      go_ret
      exact ⟨rfl, rfl⟩
    by_cases h2 : kn = 2
    · subst h2
      go_enter Try.func48, Try.ntmps48
      go_wp2_with fail
      go_ret
      exact ⟨rfl, rfl⟩
    by_cases h3 : kn = 3
    · subst h3
      go_enter Try.func48, Try.ntmps48
      go_wp2_with fail
      go_ret
      exact ⟨rfl, rfl⟩
    by_cases h4 : kn = 4
    · subst h4
      go_enter Try.func48, Try.ntmps48
      go_wp2_with fail
      go_ret
      exact ⟨rfl, rfl⟩
    by_cases h5 : kn = 5
    · subst h5
      go_enter Try.func48, Try.ntmps48
      go_wp2_with fail
      go_ret
      exact ⟨rfl, rfl⟩
    by_cases h6 : kn = 6
    · subst h6
      go_enter Try.func48, Try.ntmps48
      go_wp2_with fail
      go_ret
      exact ⟨rfl, rfl⟩
    by_cases h7 : kn = 7
    · subst h7
      go_enter Try.func48, Try.ntmps48
      go_wp2_with fail
      go_ret
      exact ⟨rfl, rfl⟩
    by_cases h8 : kn = 8
    · subst h8
      go_enter Try.func48, Try.ntmps48
      go_wp2_with fail
      go_ret
      exact ⟨rfl, rfl⟩
    by_cases h9 : kn = 9
    · subst h9
      go_enter Try.func48, Try.ntmps48
      go_wp2_with fail
      go_ret
      exact ⟨rfl, rfl⟩
    by_cases h10 : kn = 10
    · subst h10
      go_enter Try.func48, Try.ntmps48
      go_wp2_with fail
      go_ret
      exact ⟨rfl, rfl⟩
    by_cases h11 : kn = 11
    · subst h11
      go_enter Try.func48, Try.ntmps48
      go_wp2_with fail
      go_ret
      exact ⟨rfl, rfl⟩
    by_cases h12 : kn = 12
    · subst h12
      go_enter Try.func48, Try.ntmps48
      go_wp2_with fail
      go_ret
      exact ⟨rfl, rfl⟩
    by_cases h13 : kn = 13
    · subst h13
      go_enter Try.func48, Try.ntmps48
      go_wp2_with fail
      go_ret
      exact ⟨rfl, rfl⟩
    by_cases h14 : kn = 14
    · subst h14
      go_enter Try.func48, Try.ntmps48
      go_wp2_with fail
      go_ret
      exact ⟨rfl, rfl⟩
    by_cases h15 : kn = 15
    · subst h15
      go_enter Try.func48, Try.ntmps48
      go_wp2_with fail
      go_ret
      exact ⟨rfl, rfl⟩
    by_cases h16 : kn = 16
    · subst h16
      go_enter Try.func48, Try.ntmps48
      go_wp2_with fail
      go_ret
      exact ⟨rfl, rfl⟩
    by_cases h17 : kn = 17
    · subst h17
      go_enter Try.func48, Try.ntmps48
      go_wp2_with fail
      go_ret
      exact ⟨rfl, rfl⟩
    by_cases h18 : kn = 18
    · subst h18
      go_enter Try.func48, Try.ntmps48
      go_wp2_with fail
      go_ret
      exact ⟨rfl, rfl⟩
    by_cases h19 : kn = 19
    · subst h19
      go_enter Try.func48, Try.ntmps48
      go_wp2_with fail
      go_ret
      exact ⟨rfl, rfl⟩
    by_cases h20 : kn = 20
    · subst h20
      go_enter Try.func48, Try.ntmps48
      go_wp2_with fail
      go_ret
      exact ⟨rfl, rfl⟩
    by_cases h21 : kn = 21
    · subst h21
      go_enter Try.func48, Try.ntmps48
      go_wp2_with fail
      go_ret
      exact ⟨rfl, rfl⟩
    by_cases h22 : kn = 22
    · subst h22
      go_enter Try.func48, Try.ntmps48
      go_wp2_with fail
      go_ret
      exact ⟨rfl, rfl⟩
    by_cases h23 : kn = 23
    · subst h23
      go_enter Try.func48, Try.ntmps48
      go_wp2_with fail
      go_ret
      exact ⟨rfl, rfl⟩
    by_cases h24 : kn = 24
    · subst h24
      go_enter Try.func48, Try.ntmps48
      go_wp2_with fail
      go_ret
      exact ⟨rfl, rfl⟩
    by_cases h25 : kn = 25
    · subst h25
      go_enter Try.func48, Try.ntmps48
      go_wp2_with fail
      go_ret
      exact ⟨rfl, rfl⟩
    by_cases h26 : kn = 26
    · subst h26
      go_enter Try.func48, Try.ntmps48
      go_wp2_with fail
      go_ret
      exact ⟨rfl, rfl⟩
    by_cases h27 : kn = 27
    · subst h27
      go_enter Try.func48, Try.ntmps48
      go_wp2_with fail
      go_ret
      exact ⟨rfl, rfl⟩
    by_cases h28 : kn = 28
    · subst h28
      go_enter Try.func48, Try.ntmps48
      go_wp2_with fail
      go_ret
      exact ⟨rfl, rfl⟩
    by_cases h29 : kn = 29
    · subst h29
      go_enter Try.func48, Try.ntmps48
      go_wp2_with fail
      go_ret
      exact ⟨rfl, rfl⟩
    exact absurd hkn (by omega)
  · have HE : Hid (rargN k = -2) := by
      show _ = _
      unfold rargN
      rw [if_neg (by rw [within_iff]; exact hk)]
    rw [HE.out]
    clear HE
    by_cases h0 : k < 0
    · clear hk
      go_enter Try.func48, Try.ntmps48
      go_wp2_with fail
      go_ret
      exact ⟨rfl, rfl⟩
    · have h1 : (30 : Int) ≤ k := by omega
      have d0 : decide (k < 0) = false := by simpa using h0
      clear hk h0
      go_enter Try.func48, Try.ntmps48
      go_wp2_with fail
      go_ret
      exact ⟨rfl, rfl⟩

set_option maxRecDepth 100000 in
theorem rtexts_any (k : Int) (w : World) : Calls Try.prog 52 #[.int .i64 k] w fun e w' => e = .returned (.tuple #[.int .i64 (texB k).1, .int .i64 (texB k).2]) ∧ w' = w := by
  by_cases h4 : k = 4
  · subst h4
    go_enter Try.func52, Try.ntmps52
    go_wp2_with fail
    go_ret2
    exact ⟨rfl, rfl⟩
  by_cases h8 : k = 8
  · subst h8
    go_enter Try.func52, Try.ntmps52
    go_wp2_with fail
    go_ret2
    exact ⟨rfl, rfl⟩
  by_cases h25 : k = 25
  · subst h25
    go_enter Try.func52, Try.ntmps52
    go_wp2_with fail
    go_ret2
    exact ⟨rfl, rfl⟩
  have d4 : (k == 4) = false := by simpa using h4
  have d8 : (k == 8) = false := by simpa using h8
  have d25 : (k == 25) = false := by simpa using h25
  have HE : Hid (texB k = (0, 0)) := by show _ = _; unfold texB; simp [h4, h8, h25]
  rw [HE.out]
  clear h4 h8 h25 HE
  go_enter Try.func52, Try.ntmps52
  go_wp2_with fail
  go_ret2
  exact ⟨rfl, rfl⟩

theorem argB_small {k : Int} (h : k ≠ 23) : (argB k).1 = (argB k).2 ∧ 0 ≤ (argB k).1 ∧ (argB k).1 ≤ 3 := by
  unfold argB
  by_cases h1 : k = 8 ∨ k = 10 ∨ k = 15 ∨ k = 20 ∨ k = 26
  · rw [if_pos h1]; exact ⟨rfl, by decide, by decide⟩
  · rw [if_neg h1]
    by_cases h2 : k = 9 ∨ k = 11 ∨ k = 12 ∨ k = 13 ∨ k = 14 ∨ k = 16 ∨ k = 17 ∨ k = 18 ∨ k = 19 ∨ k = 22 ∨ k = 24 ∨ k = 25 ∨ k = 27 ∨ k = 28 ∨ k = 29
    · rw [if_pos h2]; exact ⟨rfl, by decide, by decide⟩
    · rw [if_neg h2]
      by_cases h3 : k = 21
      · rw [if_pos h3]; exact ⟨rfl, by decide, by decide⟩
      · rw [if_neg h3, if_neg h]; exact ⟨rfl, by decide, by decide⟩

theorem not_may {k b : Int} {t : ByteArray} {n : Nat} (h : ¬ ((0 ≤ k ∧ k ≤ 29) ∧ bitB k b = true ∧ ((texB k).1 ≤ (t.size : Int) ∧ (t.size : Int) ≤ (texB k).2) ∧ ((argB k).1 ≤ (n : Int) ∧ (n : Int) ≤ (argB k).2))) : mayX k b t n = false := by
  cases e : mayX k b t n with
  | false => rfl
  | true => exact absurd (mayX_iff.1 e) h

set_option maxRecDepth 100000 in
set_option maxHeartbeats 6400000 in
theorem rpart_may (k b : Int) (t : ByteArray) (ia : Option Addr) (il ic : Nat) (hf : FitX k b t il ic) (w : World) :
    Calls Try.prog 40 #[mkX k b t ia il ic] w fun e w' => e = .returned (.bool (mayX k b t il)) ∧ Below w.heap.size w w' := by
  have hsz : il * 56 ≤ 140737488351232 := hf.2.2.2.2.2
  have hts : t.size ≤ 140737488351232 := hf.2.2.1
  have HU : Hid (U b) := hf.2.1
  have HA := rargs_any k
  have HT := rtexts_any k
  clear hf
  by_cases hk : 0 ≤ k ∧ k ≤ 29
  · have hw : rargN k = (if k = 23 then -1 else (argB k).1) := by unfold rargN; rw [if_pos (within_iff.2 hk)]
    rw [hw] at HA
    clear hw
    have REST : Hid (∀ nv : Int, (∀ w, Calls Try.prog 48 #[.int .i64 k] w fun e w' => e = .returned (.int .i64 nv) ∧ w' = w) → (nv = -1 ∨ nv = (il : Int)) → il ≤ 8 → ((argB k).1 ≤ (il : Int) ∧ (il : Int) ≤ (argB k).2) →
        Calls Try.prog 40 #[mkX k b t ia il ic] w fun e w' => e = .returned (.bool (mayX k b t il)) ∧ Below w.heap.size w w') := by
      intro nv HA hnv h8 harg
      have d2 : (nv == -2) = false := by simp; omega
      have d8 : decide ((8 : Int) < (il : Int)) = false := by simp; omega
      by_cases hlo : (t.size : Int) < (texB k).1
      · have HM : Hid (mayX k b t il = false) := not_may fun h => by omega
        rw [HM.out]
        clear HM harg hk
        generalize (texB k).1 = tl at *
        generalize (texB k).2 = tm at *
        rcases hnv with rfl | rfl
        · go_enter Try.func40, Try.ntmps40
          go_wp2_with (first
            | (go_at_call 48; refine (HA _).mono ?_; rintro e w1 ⟨rfl, rfl⟩)
            | (go_at_call 52; refine (HT _).mono ?_; rintro e w1 ⟨rfl, rfl⟩))
          go_ret
          exact ⟨rfl, below_one _ _⟩
        · go_enter Try.func40, Try.ntmps40
          go_wp2_with (first
            | (go_at_call 48; refine (HA _).mono ?_; rintro e w1 ⟨rfl, rfl⟩)
            | (go_at_call 52; refine (HT _).mono ?_; rintro e w1 ⟨rfl, rfl⟩))
          go_ret
          exact ⟨rfl, below_one _ _⟩
      · by_cases hhi : (texB k).2 < (t.size : Int)
        · have HM : Hid (mayX k b t il = false) := not_may fun h => by omega
          rw [HM.out]
          have dlo : decide ((t.size : Int) < (texB k).1) = false := by simpa using hlo
          clear HM harg hk hlo
          generalize (texB k).1 = tl at *
          generalize (texB k).2 = tm at *
          rcases hnv with rfl | rfl
          · go_enter Try.func40, Try.ntmps40
            go_wp2_with (first
              | (go_at_call 48; refine (HA _).mono ?_; rintro e w1 ⟨rfl, rfl⟩)
              | (go_at_call 52; refine (HT _).mono ?_; rintro e w1 ⟨rfl, rfl⟩))
            go_ret
            exact ⟨rfl, below_one _ _⟩
          · go_enter Try.func40, Try.ntmps40
            go_wp2_with (first
              | (go_at_call 48; refine (HA _).mono ?_; rintro e w1 ⟨rfl, rfl⟩)
              | (go_at_call 52; refine (HT _).mono ?_; rintro e w1 ⟨rfl, rfl⟩))
            go_ret
            exact ⟨rfl, below_one _ _⟩
        · have dlo : decide ((t.size : Int) < (texB k).1) = false := by simpa using hlo
          have dhi : decide ((texB k).2 < (t.size : Int)) = false := by simpa using hhi
          have HM : Hid (mayX k b t il = bitB k b) := by
            show _ = _
            cases hb : bitB k b with
            | false => exact not_may fun h => by rw [hb] at h; exact absurd h.2.1 (by simp)
            | true => exact mayX_iff.2 ⟨hk, hb, ⟨by omega, by omega⟩, harg⟩
          rw [HM.out]
          clear HM harg hlo hhi
          generalize (texB k).1 = tl at *
          generalize (texB k).2 = tm at *
          by_cases k3 : k = 3
          · subst k3
            have HB : Hid (bitB 3 b = (can b == b)) := rfl
            rw [HB.out]
            clear HB hk
            rcases hnv with rfl | rfl
            · go_enter Try.func40, Try.ntmps40
              go_wp2_with (first
                | (go_at_call 48; refine (HA _).mono ?_; rintro e w1 ⟨rfl, rfl⟩)
                | (go_at_call 52; refine (HT _).mono ?_; rintro e w1 ⟨rfl, rfl⟩))
              go_region_held3 (fun w' => w'.cell? ⟨w.heap.size, 1, none⟩ = some (.int .u64 b)) (go_keep) ((go_at_call 51; refine (rcanon_any _ _ HU.out).mono ?_; rintro e w' ⟨rfl, rfl⟩))
              go_wp2_with fail
              go_ret
              exact ⟨rfl, below_draw1 _ _⟩
            · go_enter Try.func40, Try.ntmps40
              go_wp2_with (first
                | (go_at_call 48; refine (HA _).mono ?_; rintro e w1 ⟨rfl, rfl⟩)
                | (go_at_call 52; refine (HT _).mono ?_; rintro e w1 ⟨rfl, rfl⟩))
              go_region_held3 (fun w' => w'.cell? ⟨w.heap.size, 1, none⟩ = some (.int .u64 b)) (go_keep) ((go_at_call 51; refine (rcanon_any _ _ HU.out).mono ?_; rintro e w' ⟨rfl, rfl⟩))
              go_wp2_with fail
              go_ret
              exact ⟨rfl, below_draw1 _ _⟩
          · have HB : Hid (bitB k b = (b == 0)) := by show _ = _; unfold bitB; rw [if_neg k3]
            have d3 : (k == 3) = false := by simpa using k3
            rw [HB.out]
            clear HB hk k3
            rcases hnv with rfl | rfl
            · go_enter Try.func40, Try.ntmps40
              go_wp2_with (first
                | (go_at_call 48; refine (HA _).mono ?_; rintro e w1 ⟨rfl, rfl⟩)
                | (go_at_call 52; refine (HT _).mono ?_; rintro e w1 ⟨rfl, rfl⟩))
              go_ret
              exact ⟨rfl, below_one _ _⟩
            · go_enter Try.func40, Try.ntmps40
              go_wp2_with (first
                | (go_at_call 48; refine (HA _).mono ?_; rintro e w1 ⟨rfl, rfl⟩)
                | (go_at_call 52; refine (HT _).mono ?_; rintro e w1 ⟨rfl, rfl⟩))
              go_ret
              exact ⟨rfl, below_one _ _⟩
    by_cases k23 : k = 23
    · subst k23
      rw [if_pos rfl] at HA
      by_cases h8 : il ≤ 8
      · exact REST.out (-1) HA (Or.inl rfl) h8 ⟨by have : (argB 23).1 = 0 := by decide
                                                   omega, by have : (argB 23).2 = 8 := by decide
                                                             omega⟩
      · have h82 : (argB 23).2 = 8 := by decide
        have HM : Hid (mayX 23 b t il = false) := not_may fun h => by omega
        have h8' : (8 : Int) < (il : Int) := by omega
        rw [HM.out]
        clear HM REST hk
        generalize (texB 23).1 = tl at *
        generalize (texB 23).2 = tm at *
        go_enter Try.func40, Try.ntmps40
        go_wp2_with (first
          | (go_at_call 48; refine (HA _).mono ?_; rintro e w1 ⟨rfl, rfl⟩)
          | (go_at_call 52; refine (HT _).mono ?_; rintro e w1 ⟨rfl, rfl⟩))
        go_ret
        exact ⟨rfl, below_one _ _⟩
    · rw [if_neg k23] at HA
      have hsm := argB_small k23
      by_cases hne : (il : Int) = (argB k).1
      · exact REST.out (il : Int) (by rw [← hne] at HA; exact HA) (Or.inr rfl) (by omega) ⟨by omega, by omega⟩
      · have HM : Hid (mayX k b t il = false) := not_may fun h => by omega
        have h0 : (0 : Int) ≤ (argB k).1 := hsm.2.1
        have d2 : ((argB k).1 == -2) = false := by simp; omega
        have dne : ((il : Int) != (argB k).1) = true := by simpa using hne
        have dne' : ((il : Int) == (argB k).1) = false := by simpa using hne
        rw [HM.out]
        clear HM REST hk hsm hne
        generalize (argB k).1 = al at *
        generalize (texB k).1 = tl at *
        generalize (texB k).2 = tm at *
        go_enter Try.func40, Try.ntmps40
        go_wp2_with (first
          | (go_at_call 48; refine (HA _).mono ?_; rintro e w1 ⟨rfl, rfl⟩)
          | (go_at_call 52; refine (HT _).mono ?_; rintro e w1 ⟨rfl, rfl⟩))
        go_ret
        exact ⟨rfl, below_one _ _⟩
  · have HE : Hid (rargN k = -2) := by
      show _ = _
      unfold rargN
      rw [if_neg (by rw [within_iff]; exact hk)]
    have HM : Hid (mayX k b t il = false) := not_may fun h => hk h.1
    rw [HE.out] at HA
    rw [HM.out]
    clear HE HM hk
    generalize (texB k).1 = tl at *
    generalize (texB k).2 = tm at *
    go_enter Try.func40, Try.ntmps40
    go_wp2_with (first
      | (go_at_call 48; refine (HA _).mono ?_; rintro e w1 ⟨rfl, rfl⟩)
      | (go_at_call 52; refine (HT _).mono ?_; rintro e w1 ⟨rfl, rfl⟩))
    go_ret
    exact ⟨rfl, below_one _ _⟩
end Go.Proofs.Ytnliokikcpnllaa
