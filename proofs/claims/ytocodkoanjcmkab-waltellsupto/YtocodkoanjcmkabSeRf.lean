/-
  The page's sum, octets, numbers.
-/
import Derived.Test.YtocodkoanjcmkabSeBk
namespace Go.Proofs.Ytocodkoanjcmkab
open Go.ChangeShapes Go.WideShapes Go.ChangeAt Go.RowKit Go.Deep
open Se

theorem sh_odd {c : Nat} (h : c % 2 = 1) : sh c = c / 2 ^^^ 3945912366 := by unfold sh; rw [if_pos h]
theorem sh_even {c : Nat} (h : c % 2 = 0) : sh c = c / 2 := by unfold sh; rw [if_neg (by omega), Nat.xor_zero]

set_option maxRecDepth 100000 in
set_option maxHeartbeats 1600000 in
theorem rsum_any (a : Option Addr) (c : Nat) (l : List UInt8) (w : World) (hl : LayB w a l) (hlen : l.length ≤ 200000000000000) :
    Calls Try.prog 51 #[.slice a l.length c] w fun e w' => e = .returned (.int .u32 (sum l : Nat)) ∧ w' = w := by
  have HL : Hid (LayB w a l) := hl
  clear hl
  go_enter Try.func51, Try.ntmps51
  go_wp2_with fail
  go_loopw [3, 4] (fun r i wr => ∃ m : Nat, m ≤ l.length ∧ i = .int .i64 m ∧ r = .int .u32 (reg 4294967295 (l.take m) : Nat) ∧ Hid (wr = w)) (fun _ i _ => l.length - (intOf i).toNat)
  case atStart => exact ⟨0, by omega, rfl, rfl, rfl⟩
  case round =>
    obtain ⟨m, hm, rfl, rfl, hw⟩ := hrel
    obtain rfl : wr = w := hw
    have hr : reg 4294967295 (l.take m) < 4294967296 := reg_lt (by decide)
    by_cases hlt : m < l.length
    · have hm1 : (m : Int) < l.length := by omega
      obtain ⟨b, off, rfl, hc⟩ := layB_get HL.out hlt
      have HS : Hid (shn 8 (reg 4294967295 (l.take m) ^^^ (l[m]).toNat) = reg 4294967295 (l.take (m + 1))) := by
        show _ = _
        rw [List.take_succ_eq_append_getElem hlt, reg_append]
        rfl
      have ho := u8_lt l[m]
      generalize hR : reg 4294967295 (l.take m) = r at *
      generalize hO : (l[m]).toNat = o at *
      have hx : bits .xor .u32 (r : Int) (o : Int) = ((r ^^^ o : Nat) : Int) := u32_xor_nat _ _ hr (by omega)
      have HX : Hid (r ^^^ o < 4294967296) := Nat.xor_lt_two_pow (n := 32) hr (by omega)
      clear hR hO hr
      go_wp2_with fail
      generalize r ^^^ o = q at *
      go_loopw [3, 5] (fun r i wr2 => ∃ n : Nat, n ≤ 8 ∧ i = .int .i64 n ∧ r = .int .u32 (shn n q : Nat) ∧ Hid (wr2 = wr)) (fun _ i _ => 8 - (intOf i).toNat)
      case atStart => exact ⟨0, by omega, rfl, rfl, rfl⟩
      case round =>
        obtain ⟨n, hn, rfl, rfl, hw⟩ := hrel
        obtain rfl := hw.out
        have hq : shn n q < 4294967296 := shn_lt HX.out
        by_cases hn8 : n < 8
        · have hn1 : (n : Int) < 8 := by omega
          have HN : Hid (shn (n + 1) q = sh (shn n q)) := by
            show _ = _
            rw [shn_add]
            rfl
          generalize shn n q = t at *
          have ht2 : ((t : Int)).tmod 2 = ((t % 2 : Nat) : Int) := by rw [Int.tmod_eq_emod_of_nonneg (by omega)]; simp
          by_cases hod : t % 2 = 1
          · have hb : (((t : Int)).tmod 2 == 1) = true := by rw [ht2, hod]; rfl
            have hx2 : bits .xor .u32 ((t : Int) / 2) 3945912366 = ((t / 2 ^^^ 3945912366 : Nat) : Int) := by
              have := u32_xor_nat (t / 2) 3945912366 (by omega) (by decide)
              rw [← this]
              simp
            clear ht2
            go_wp2_with fail
            exact ⟨⟨n + 1, by omega, by go_num, by rw [HN.out, sh_odd hod], True.intro⟩, by simp [intOf]; omega⟩
          · have hod0 : t % 2 = 0 := by omega
            have hb : (((t : Int)).tmod 2 == 1) = false := by rw [ht2, hod0]; rfl
            clear ht2
            go_wp2_with fail
            exact ⟨⟨n + 1, by omega, by go_num, by rw [HN.out, sh_even hod0]; simp, True.intro⟩, by simp [intOf]; omega⟩
        · have hn8' : n = 8 := by omega
          subst hn8'
          rw [HS.out]
          go_wp2_with fail
          exact ⟨⟨m + 1, by omega, by go_num, rfl, True.intro⟩, by simp [intOf]; omega⟩
    · have hme : m = l.length := by omega
      subst hme
      rw [List.take_of_length_le (Nat.le_refl _)] at hr ⊢
      have hn : bits .xor .u32 IntKind.u32.max (reg 4294967295 l : Nat) = ((sum l : Nat) : Int) := u32_not hr
      go_wp2_with fail
      go_ret
      exact ⟨rfl, rfl⟩
end Go.Proofs.Ytocodkoanjcmkab
