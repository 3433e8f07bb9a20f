/-
  Plain facts on IEEE 754's numbers of 64 bits, with no program in sight: what a rung is worth, that greater rungs are worth more,
  and that rounding to the nearest keeps the order and what can be said exactly.
-/
import Derived.Test.YtdmgeaakbekgbaaFlIeee
namespace Go.Proofs.Ytdmgeaakbekgbaa.Fl

theorem dbl_frac : Ieee.double.fractionBits = 52 := rfl

/-- What a rung is worth, as a multiple of the least number above nought (2 to the -1074). -/
def val (r : Nat) : Nat :=
  if r < 4503599627370496 then r else (4503599627370496 + r % 4503599627370496) * 2 ^ (r / 4503599627370496 - 1)

theorem val_small {r : Nat} (h : r < 4503599627370496) : val r = r := by unfold val; rw [if_pos h]
theorem val_big {r : Nat} (h : 4503599627370496 ≤ r) : val r = (4503599627370496 + r % 4503599627370496) * 2 ^ (r / 4503599627370496 - 1) := by
  unfold val; rw [if_neg (by omega)]

theorem pow_succ' (k : Nat) (h : 0 < k) : 2 ^ k = 2 * 2 ^ (k - 1) := by
  obtain ⟨j, rfl⟩ : ∃ j, k = j + 1 := ⟨k - 1, by omega⟩
  rw [Nat.pow_succ, Nat.mul_comm]
  rfl

theorem pow_le {j k : Nat} (h : j ≤ k) : 2 ^ j ≤ 2 ^ k := Nat.pow_le_pow_right (by decide) h

theorem val_lt (r : Nat) : val r < 4503599627370496 * 2 ^ (r / 4503599627370496) := by
  by_cases h : r < 4503599627370496
  · rw [val_small h, Nat.div_eq_of_lt h]; omega
  · rw [val_big (by omega)]
    have hq : 0 < r / 4503599627370496 := by omega
    rw [pow_succ' _ hq, ← Nat.mul_assoc]
    exact Nat.mul_lt_mul_of_pos_right (by omega) (Nat.two_pow_pos _)

theorem le_val {r : Nat} (h : 4503599627370496 ≤ r) : 4503599627370496 * 2 ^ (r / 4503599627370496 - 1) ≤ val r := by
  rw [val_big h]
  exact Nat.mul_le_mul_right _ (by omega)

theorem val_strict {r s : Nat} (h : r < s) : val r < val s := by
  by_cases hq : r / 4503599627370496 = s / 4503599627370496
  · by_cases h1 : s < 4503599627370496
    · rw [val_small h1, val_small (by omega)]; exact h
    · rw [val_big (r := r) (by omega), val_big (r := s) (by omega), hq]
      exact Nat.mul_lt_mul_of_pos_right (by omega) (Nat.two_pow_pos _)
  · have hs : 4503599627370496 ≤ s := by omega
    have h1 := val_lt r
    have h2 := le_val hs
    have h3 : 4503599627370496 * 2 ^ (r / 4503599627370496) ≤ 4503599627370496 * 2 ^ (s / 4503599627370496 - 1) :=
      Nat.mul_le_mul_left _ (pow_le (by clear h1 h2; omega))
    exact Nat.lt_of_lt_of_le h1 (Nat.le_trans h3 h2)

theorem val_le_iff {r s : Nat} : val r ≤ val s ↔ r ≤ s := by
  constructor
  · intro h
    refine Decidable.byContradiction fun hn => ?_
    have := val_strict (show s < r by omega)
    omega
  · intro h
    by_cases e : r = s
    · rw [e]; exact Nat.le_refl _
    · exact Nat.le_of_lt (val_strict (by omega))

theorem val_inj {r s : Nat} (h : val r = val s) : r = s :=
  Nat.le_antisymm (val_le_iff.1 (by omega)) (val_le_iff.1 (by omega))

/-- A significand q at the level k. -/
theorem val_at (k q : Nat) (h : k = 0 ∨ 4503599627370496 ≤ q) (h2 : q ≤ 9007199254740992) : val (k * 4503599627370496 + q) = q * 2 ^ k := by
  by_cases h1 : q < 4503599627370496
  · obtain rfl : k = 0 := by omega
    rw [val_small (by omega)]
    omega
  · by_cases h3 : q = 9007199254740992
    · subst h3
      rw [val_big (by omega)]
      have e1 : (k * 4503599627370496 + 9007199254740992) % 4503599627370496 = 0 := by omega
      have e2 : (k * 4503599627370496 + 9007199254740992) / 4503599627370496 - 1 = k + 1 := by omega
      rw [e1, e2, Nat.pow_succ]
      omega
    · rw [val_big (by omega)]
      have e1 : (k * 4503599627370496 + q) % 4503599627370496 = q - 4503599627370496 := by omega
      have e2 : (k * 4503599627370496 + q) / 4503599627370496 - 1 = k := by omega
      have e3 : 4503599627370496 + (q - 4503599627370496) = q := by omega
      rw [e1, e2, e3]

/-- What has at most 53 digits is some rung's worth. -/
theorem val_has (k : Nat) : ∀ v : Nat, v ≤ 9007199254740992 → ∃ r, val r = v * 2 ^ k ∧ r ≤ (k + 2) * 4503599627370496 := by
  induction k with
  | zero =>
    intro v hv
    have e : 0 * 4503599627370496 + v = v := by omega
    have h := val_at 0 v (.inl rfl) hv
    rw [e] at h
    exact ⟨v, h, by omega⟩
  | succ k ih =>
    intro v hv
    by_cases h : 4503599627370496 ≤ v
    · exact ⟨(k + 1) * 4503599627370496 + v, val_at (k + 1) v (.inr h) hv, by omega⟩
    · obtain ⟨r, hr, hb⟩ := ih (2 * v) (by omega)
      refine ⟨r, ?_, Nat.le_trans hb (Nat.mul_le_mul_right _ (Nat.le_succ _))⟩
      rw [hr, Nat.pow_succ, Nat.mul_comm 2 v, Nat.mul_assoc, Nat.mul_comm 2 (2 ^ k)]

/-- A rung of a level at or above k is worth a multiple of 2 ^ k. -/
theorem val_mult {k r : Nat} (h : k = 0 ∨ (k + 1) * 4503599627370496 ≤ r) : ∃ v, val r = v * 2 ^ k := by
  by_cases h1 : r < 4503599627370496
  · obtain rfl : k = 0 := by omega
    exact ⟨val r, by rw [Nat.pow_zero, Nat.mul_one]⟩
  · refine ⟨(4503599627370496 + r % 4503599627370496) * 2 ^ (r / 4503599627370496 - 1 - k), ?_⟩
    have e : r / 4503599627370496 - 1 - k + k = r / 4503599627370496 - 1 := by omega
    rw [val_big (by omega), Nat.mul_assoc, ← Nat.pow_add, e]

theorem cut_even (neg : Bool) (n : Nat) {drop : Nat} (h : drop ≤ n.log2 + 2) :
    ∃ c, Ieee.Toward.even.cut neg n drop = c ∧ n / 2 ^ drop ≤ c ∧ c ≤ n / 2 ^ drop + 1 ∧ (n % 2 ^ drop = 0 → c = n / 2 ^ drop) := by
  refine ⟨_, rfl, ?_⟩
  unfold Ieee.Toward.cut
  simp only [Nat.min_eq_left h, Nat.one_shiftLeft]
  have hp : 0 < 2 ^ drop := Nat.two_pow_pos _
  refine ⟨by omega, ?_, ?_⟩
  · have : ∀ b : Bool, b.toNat ≤ 1 := by decide
    have := this (decide (2 ^ drop < 2 * (n % 2 ^ drop)) || 2 ^ drop == 2 * (n % 2 ^ drop) && n / 2 ^ drop % 2 == 1)
    omega
  · intro hr
    rw [hr]
    have e1 : decide (2 ^ drop < 2 * 0) = false := by simp
    have e2 : (2 ^ drop == 2 * 0) = false := by simp
    rw [e1, e2]
    rfl

/-- Rounding to the nearest, of a number that is a multiple of the least: it keeps the order. -/
theorem nearest_rung (m : Nat) (p : Int) (hm : 0 < m) (hp : -1074 ≤ p) : ∃ R, R ≤ 9218868437227405312 ∧ (∀ neg, Ieee.double.nearest neg m p = Ieee.double.word neg R) ∧
    (∀ r, m * 2 ^ (p + 1074).toNat ≤ val r → R ≤ r) ∧ (∀ r, r ≤ 9218868437227405312 → val r ≤ m * 2 ^ (p + 1074).toNat → r ≤ R) := by
  have hl1 : 2 ^ m.log2 ≤ m := Nat.log2_self_le (by omega)
  have hl2 : m < 2 ^ (m.log2 + 1) := Nat.lt_log2_self
  -- the place of the last digit kept, and its level
  obtain ⟨last, hlast⟩ : ∃ last : Int, last = max (p + m.log2 - 52) (-1074) := ⟨_, rfl⟩
  obtain ⟨k, hk⟩ : ∃ k : Nat, (k : Int) = last + 1074 := ⟨(last + 1074).toNat, by omega⟩
  have near : ∀ neg, Ieee.double.nearest neg m p =
      Ieee.double.word neg (min (k * 4503599627370496 + Ieee.Toward.even.cut neg (m <<< (p - last).toNat) (last - p).toNat) 9218868437227405312) := by
    intro neg
    unfold Ieee.Format.nearest
    rw [if_neg (by omega)]
    simp only [dbl_inf, dbl_binade, dbl_least, dbl_frac, Int.cast_ofNat_Int]
    rw [← hlast]
    have e2 : (last - -1074).toNat = k := by omega
    rw [e2]
  by_cases hA : last ≤ p
  · -- nothing is cut off
    have e0 : (last - p).toNat = 0 := by omega
    obtain ⟨j, hj⟩ : ∃ j : Nat, (j : Int) = p - last := ⟨(p - last).toNat, by omega⟩
    have ej : (p - last).toNat = j := by omega
    obtain ⟨x, hx⟩ : ∃ x, x = m * 2 ^ j := ⟨_, rfl⟩
    have hkj : (p + 1074).toNat = j + k := by omega
    have hxk : m * 2 ^ (p + 1074).toNat = x * 2 ^ k := by rw [hkj, Nat.pow_add, ← Nat.mul_assoc, hx]
    have hjl : j + m.log2 ≤ 52 := by omega
    have hx2 : x < 9007199254740992 := by
      have h1 : x < 2 ^ (m.log2 + 1) * 2 ^ j := by rw [hx]; exact Nat.mul_lt_mul_of_pos_right hl2 (Nat.two_pow_pos _)
      have h2 : 2 ^ (m.log2 + 1) * 2 ^ j ≤ 2 ^ 53 := by rw [← Nat.pow_add]; exact pow_le (by omega)
      omega
    have hx1 : k = 0 ∨ 4503599627370496 ≤ x := by
      by_cases h0 : k = 0
      · exact .inl h0
      · refine .inr ?_
        have h1 : 2 ^ m.log2 * 2 ^ j ≤ x := by rw [hx]; exact Nat.mul_le_mul_right _ hl1
        have h2 : 2 ^ m.log2 * 2 ^ j = 2 ^ 52 := by rw [← Nat.pow_add, show m.log2 + j = 52 by omega]
        omega
    have hv := val_at k x hx1 (by omega)
    have hcut : ∀ neg, Ieee.Toward.even.cut neg (m <<< j) 0 = x := by
      intro neg
      obtain ⟨c, h1, h2, h3, h4⟩ := cut_even neg (m <<< j) (Nat.zero_le _)
      rw [h1, h4 (by simp [Nat.mod_one]), Nat.shiftLeft_eq, ← hx]
      simp
    refine ⟨min (k * 4503599627370496 + x) 9218868437227405312, Nat.min_le_right _ _, ?_, ?_, ?_⟩
    · intro neg
      rw [near, e0, ej, hcut]
    · intro r hr
      rw [hxk, ← hv] at hr
      exact Nat.le_trans (Nat.min_le_left _ _) (val_le_iff.1 hr)
    · intro r hr1 hr2
      rw [hxk, ← hv] at hr2
      exact Nat.le_min.2 ⟨val_le_iff.1 hr2, hr1⟩
  · -- digits are cut off
    have e0 : (p - last).toNat = 0 := by omega
    obtain ⟨D, hD⟩ : ∃ D : Nat, (D : Int) = last - p := ⟨(last - p).toNat, by omega⟩
    have eD : (last - p).toNat = D := by omega
    have hDl : D + 52 = m.log2 := by omega
    have hkD : k = (p + 1074).toNat + D := by omega
    obtain ⟨c, hc⟩ : ∃ c : Nat, (∀ neg, Ieee.Toward.even.cut neg (m <<< 0) D = c) := by
      refine ⟨Ieee.Toward.even.cut false (m <<< 0) D, fun neg => ?_⟩
      cases neg <;> rfl
    obtain ⟨c', h1, h2, h3, h4⟩ := cut_even false (m <<< 0) (show D ≤ (m <<< 0).log2 + 2 by rw [Nat.shiftLeft_zero]; omega)
    rw [hc false] at h1
    subst h1
    rw [Nat.shiftLeft_zero] at h2 h3 h4
    have hp2 : 0 < 2 ^ D := Nat.two_pow_pos _
    have hlo : 4503599627370496 ≤ m / 2 ^ D := by
      rw [Nat.le_div_iff_mul_le hp2]
      have : 4503599627370496 * 2 ^ D = 2 ^ m.log2 := by rw [← hDl, Nat.pow_add, Nat.mul_comm]
      omega
    have hhi : m / 2 ^ D < 9007199254740992 := by
      rw [Nat.div_lt_iff_lt_mul hp2]
      have : 9007199254740992 * 2 ^ D = 2 ^ (m.log2 + 1) := by rw [← hDl, show D + 52 + 1 = D + 53 by omega, Nat.pow_add, Nat.mul_comm]
      omega
    have hc1 : 4503599627370496 ≤ c := by omega
    have hc2 : c ≤ 9007199254740992 := by omega
    have hv := val_at k c (.inr hc1) hc2
    have hdm := Nat.div_add_mod m (2 ^ D)
    have hml := Nat.mod_lt m hp2
    have hpk : 2 ^ k = 2 ^ (p + 1074).toNat * 2 ^ D := by rw [hkD, Nat.pow_add]
    have hpe : 0 < 2 ^ (p + 1074).toNat := Nat.two_pow_pos _
    have low : m / 2 ^ D * 2 ^ k ≤ m * 2 ^ (p + 1074).toNat := by
      rw [hpk, Nat.mul_comm (2 ^ (p + 1074).toNat), ← Nat.mul_assoc]
      exact Nat.mul_le_mul_right _ (Nat.div_mul_le_self _ _)
    have high : m * 2 ^ (p + 1074).toNat < (m / 2 ^ D + 1) * 2 ^ k := by
      rw [hpk, Nat.mul_comm (2 ^ (p + 1074).toNat), ← Nat.mul_assoc]
      refine Nat.mul_lt_mul_of_pos_right ?_ hpe
      rw [Nat.add_mul, Nat.one_mul, Nat.mul_comm (m / 2 ^ D)]
      omega
    have lowS : 0 < m % 2 ^ D → m / 2 ^ D * 2 ^ k < m * 2 ^ (p + 1074).toNat := by
      intro hr
      rw [hpk, Nat.mul_comm (2 ^ (p + 1074).toNat), ← Nat.mul_assoc]
      refine Nat.mul_lt_mul_of_pos_right ?_ hpe
      rw [Nat.mul_comm (m / 2 ^ D)]
      omega
    have hpk0 : 0 < 2 ^ k := Nat.two_pow_pos _
    have hcB : (k + 1) * 4503599627370496 ≤ k * 4503599627370496 + c := by clear hv low high lowS hpk hdm hml; omega
    refine ⟨min (k * 4503599627370496 + c) 9218868437227405312, Nat.min_le_right _ _, ?_, ?_, ?_⟩
    · intro neg
      rw [near, e0, eD, hc]
    · intro r hr
      refine Nat.le_trans (Nat.min_le_left _ _) ?_
      by_cases hb : (k + 1) * 4503599627370496 ≤ r
      · obtain ⟨v, hvr⟩ := val_mult (.inr hb)
        refine val_le_iff.1 ?_
        rw [hv, hvr]
        refine Nat.mul_le_mul_right _ ?_
        rw [hvr] at hr
        by_cases hz : m % 2 ^ D = 0
        · rw [h4 hz]
          exact Nat.le_of_mul_le_mul_right (Nat.le_trans low hr) hpk0
        · have h8 := Nat.lt_of_mul_lt_mul_right (Nat.lt_of_lt_of_le (lowS (Nat.pos_of_ne_zero hz)) hr)
          exact Nat.le_trans h3 h8
      · exfalso
        have hrk : r / 4503599627370496 ≤ k := by clear hv low high lowS hpk hdm hml hr; omega
        have h5 := val_lt r
        have h6 : 4503599627370496 * 2 ^ (r / 4503599627370496) ≤ 4503599627370496 * 2 ^ k := Nat.mul_le_mul_left _ (pow_le hrk)
        have h7 : 4503599627370496 * 2 ^ k ≤ m / 2 ^ D * 2 ^ k := Nat.mul_le_mul_right _ hlo
        exact Nat.lt_irrefl _ (Nat.lt_of_lt_of_le h5 (Nat.le_trans h6 (Nat.le_trans h7 (Nat.le_trans low hr))))
    · intro r hr1 hr2
      refine Nat.le_min.2 ⟨?_, hr1⟩
      by_cases hb : (k + 1) * 4503599627370496 ≤ r
      · obtain ⟨v, hvr⟩ := val_mult (.inr hb)
        refine val_le_iff.1 ?_
        rw [hv, hvr]
        refine Nat.mul_le_mul_right _ ?_
        rw [hvr] at hr2
        have h8 := Nat.lt_of_mul_lt_mul_right (Nat.lt_of_le_of_lt hr2 high)
        exact Nat.le_trans (Nat.le_of_lt_succ h8) h2
      · exact Nat.le_trans (Nat.le_of_lt (Nat.lt_of_not_le hb)) hcB

/-- What is some rung's worth is written as that rung. -/
theorem nearest_exact {m : Nat} {p : Int} {r : Nat} (neg : Bool) (hm : 0 < m) (hp : -1074 ≤ p) (hr : r ≤ 9218868437227405312) (h : m * 2 ^ (p + 1074).toNat = val r) :
    Ieee.double.nearest neg m p = Ieee.double.word neg r := by
  obtain ⟨R, _, h2, h3, h4⟩ := nearest_rung m p hm hp
  rw [h2, Nat.le_antisymm (h3 r (Nat.le_of_eq h)) (h4 r hr (Nat.le_of_eq h.symm))]

theorem nearest_zero (neg : Bool) (p : Int) : Ieee.double.nearest neg 0 p = Ieee.double.word neg 0 := by
  unfold Ieee.Format.nearest
  rw [if_pos rfl]

end Go.Proofs.Ytdmgeaakbekgbaa.Fl
