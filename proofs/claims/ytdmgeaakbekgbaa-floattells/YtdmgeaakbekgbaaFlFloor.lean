/-
  Plain facts on IEEE 754's numbers of 64 bits, with no program in sight: the floor of a number, and what is reckoned exactly.
-/
import Derived.Test.YtdmgeaakbekgbaaFlOrder
namespace Go.Proofs.Ytdmgeaakbekgbaa.Fl

/-- How many places the least number lies below the point. -/
def lp : Nat := 1074
theorem lp_eq : lp = 1074 := rfl
/-- One, as a multiple of the least number. -/
def one : Nat := 2 ^ lp
theorem one_eq : one = 2 ^ lp := rfl
theorem one_pos : 0 < one := by rw [one_eq]; exact Nat.two_pow_pos _

theorem val_one : val 4607182418800017408 = one := by
  rw [val_big (by omega)]
  have e1 : 4607182418800017408 % 4503599627370496 = 0 := by omega
  have e2 : 4607182418800017408 / 4503599627370496 - 1 = lp - 52 := by rw [lp_eq]
  have e3 : 4503599627370496 + 0 = 2 ^ 52 := by omega
  have e4 : 52 + (lp - 52) = lp := by rw [lp_eq]
  rw [e1, e2, e3, ← Nat.pow_add, one_eq, e4]

theorem val_two53 : val 4845873199050653696 = 9007199254740992 * one := by
  rw [val_big (by omega)]
  have e1 : 4845873199050653696 % 4503599627370496 = 0 := by omega
  have e2 : 4845873199050653696 / 4503599627370496 - 1 = 1 + lp := by rw [lp_eq]
  have e3 : 4503599627370496 + 0 = 2 ^ 52 := by omega
  have e4 : 9007199254740992 = 2 ^ 52 * 2 ^ 1 := by omega
  rw [e1, e2, e3, e4, one_eq, Nat.pow_add, Nat.mul_assoc]

theorem cut_exact (n D : Nat) : (1 <<< min D (n.log2 + 2)) ∣ (1 <<< D) ∧ n / (1 <<< min D (n.log2 + 2)) = n / 2 ^ D ∧ n % (1 <<< min D (n.log2 + 2)) = n % 2 ^ D := by
  simp only [Nat.one_shiftLeft]
  by_cases h : D ≤ n.log2 + 2
  · rw [Nat.min_eq_left h]
    exact ⟨Nat.dvd_refl _, rfl, rfl⟩
  · rw [Nat.min_eq_right (by omega)]
    have hn : n < 2 ^ (n.log2 + 2) := Nat.lt_of_lt_of_le Nat.lt_log2_self (pow_le (by omega))
    have hd : n < 2 ^ D := Nat.lt_of_lt_of_le hn (pow_le (by omega))
    refine ⟨Nat.pow_dvd_pow 2 (by omega), ?_, ?_⟩
    · rw [Nat.div_eq_of_lt hn, Nat.div_eq_of_lt hd]
    · rw [Nat.mod_eq_of_lt hn, Nat.mod_eq_of_lt hd]

theorem cut_down (s : Bool) (n D : Nat) : Ieee.Toward.down.cut s n D = n / 2 ^ D + (s && n % 2 ^ D != 0).toNat := by
  obtain ⟨_, h1, h2⟩ := cut_exact n D
  unfold Ieee.Toward.cut
  simp only [h1, h2]

theorem cut_zero (s : Bool) (n D : Nat) : Ieee.Toward.zero.cut s n D = n / 2 ^ D := by
  obtain ⟨_, h1, h2⟩ := cut_exact n D
  unfold Ieee.Toward.cut
  simp only [h1, Bool.toNat_false, Nat.add_zero]

/-- The whole part of a worth, and what is left, by its digits. -/
theorem split (m : Nat) (p : Int) (hp : -1074 ≤ p) : (m <<< p.toNat) / 2 ^ (-p).toNat = m * 2 ^ (p + 1074).toNat / one ∧
    ((m <<< p.toNat) % 2 ^ (-p).toNat = 0 ↔ m * 2 ^ (p + 1074).toNat % one = 0) := by
  rw [Nat.shiftLeft_eq, one_eq]
  by_cases h : 0 ≤ p
  · have e1 : (-p).toNat = 0 := by omega
    have e2 : (p + 1074).toNat = p.toNat + lp := by rw [lp_eq]; omega
    rw [e1, e2, Nat.pow_zero, Nat.div_one, Nat.mod_one, Nat.pow_add, ← Nat.mul_assoc, Nat.mul_div_cancel _ (Nat.two_pow_pos _), Nat.mul_mod_left]
    exact ⟨rfl, Iff.rfl⟩
  · have e1 : p.toNat = 0 := by omega
    have e2 : lp = (-p).toNat + (p + 1074).toNat := by rw [lp_eq]; omega
    have e3 : 2 ^ lp = 2 ^ (-p).toNat * 2 ^ (p + 1074).toNat := by rw [← Nat.pow_add, ← e2]
    have hq : 0 < 2 ^ (p + 1074).toNat := Nat.two_pow_pos _
    rw [e1, Nat.pow_zero, Nat.mul_one, e3, Nat.mul_div_mul_right _ _ hq, Nat.mul_mod_mul_right]
    refine ⟨rfl, fun h => by rw [h, Nat.zero_mul], fun h => ?_⟩
    exact (Nat.mul_eq_zero.1 h).resolve_right (by omega)

/-- The whole number at or below, of a worth and a sign (as a magnitude). -/
def whole (s : Bool) (v : Nat) : Nat := v / one + (s && v % one != 0).toNat

theorem integral_down {x : Nat} (h : rng x < 9218868437227405312) : (Ieee.double.read x).integral .down = .number (sgn x) (whole (sgn x) (val (rng x))) 0 := by
  obtain ⟨m, p, e, hp, hv, _⟩ := read_fin h
  rw [e]
  show Ieee.Datum.number (sgn x) (Ieee.Toward.down.cut (sgn x) (m <<< p.toNat) (-p).toNat) 0 = _
  obtain ⟨h1, h2⟩ := split m p hp
  rw [hv] at h1 h2
  rw [cut_down, h1]
  unfold whole
  have h3 : ((m <<< p.toNat) % 2 ^ (-p).toNat != 0) = (val (rng x) % one != 0) := by
    by_cases hz : val (rng x) % one = 0
    · rw [hz, h2.2 hz]
    · have hz' : ¬ (m <<< p.toNat) % 2 ^ (-p).toNat = 0 := fun y => hz (h2.1 y)
      have d1 : (val (rng x) % one != 0) = true := by simpa using hz
      have d2 : ((m <<< p.toNat) % 2 ^ (-p).toNat != 0) = true := by simpa using hz'
      rw [d1, d2]
  rw [h3]

theorem integral_zero {x : Nat} (h : rng x < 9218868437227405312) : (Ieee.double.read x).integral .zero = .number (sgn x) (val (rng x) / one) 0 := by
  obtain ⟨m, p, e, hp, hv, _⟩ := read_fin h
  rw [e]
  show Ieee.Datum.number (sgn x) (Ieee.Toward.zero.cut (sgn x) (m <<< p.toNat) (-p).toNat) 0 = _
  obtain ⟨h1, _⟩ := split m p hp
  rw [hv] at h1
  rw [cut_zero, h1]

/-- A whole number whose worth is some rung's is written as that rung. -/
theorem write_whole (s : Bool) {n r : Nat} (hr : r ≤ 9218868437227405312) (h : val r = n * one) : Ieee.double.write (.number s n 0) = Ieee.double.word s r := by
  show Ieee.double.nearest s n 0 = _
  by_cases hn : n = 0
  · subst hn
    have h0 : val r = val 0 := by rw [h, Nat.zero_mul, val_small (by omega)]
    rw [nearest_zero, val_inj h0]
  · refine nearest_exact s (Nat.pos_of_ne_zero hn) (by omega) hr ?_
    have e : ((0 : Int) + 1074).toNat = lp := rfl
    rw [e, h, one_eq]

/-- A worth that is not whole is below 2 ^ 52. -/
theorem val_whole {r : Nat} (h : 4841369599423283200 ≤ r) : val r % one = 0 := by
  rw [val_big (by omega)]
  have e : r / 4503599627370496 - 1 = (r / 4503599627370496 - 1 - lp) + lp := by rw [lp_eq]; omega
  rw [e, Nat.pow_add, ← Nat.mul_assoc, one_eq, Nat.mul_mod_left]

theorem div_lt_of (v n : Nat) (h : v < n * one) : v / one < n := (Nat.div_lt_iff_lt_mul one_pos).2 h

/-- The floor of a number is some number, of the same sign, whose worth is the whole number at or below. -/
theorem floor_rung {x : Nat} (h : rng x < 9218868437227405312) : ∃ r, r < 9218868437227405312 ∧ val r = whole (sgn x) (val (rng x)) * one ∧
    Ieee.double.write ((Ieee.double.read x).integral .down) = Ieee.double.word (sgn x) r := by
  rw [integral_down h]
  by_cases hz : val (rng x) % one = 0
  · have hw : whole (sgn x) (val (rng x)) * one = val (rng x) := by
      unfold whole
      rw [hz]
      have e : (sgn x && (0 != 0)) = false := by simp
      rw [e]
      have := Nat.div_add_mod (val (rng x)) one
      rw [hz, Nat.add_zero] at this
      rw [Bool.toNat_false, Nat.add_zero, Nat.mul_comm, this]
    exact ⟨rng x, h, hw.symm, write_whole _ (Nat.le_of_lt h) hw.symm⟩
  · have hlt : rng x < 4845873199050653696 := Nat.lt_of_not_le fun hn => hz (val_whole (Nat.le_trans (by decide) hn))
    have hv : val (rng x) < 9007199254740992 * one := by rw [← val_two53]; exact val_strict hlt
    have hd := div_lt_of _ _ hv
    have hb : ∀ b : Bool, b.toNat ≤ 1 := by decide
    have hw : whole (sgn x) (val (rng x)) ≤ 9007199254740992 := by
      unfold whole
      have := hb (sgn x && val (rng x) % one != 0)
      exact Nat.le_trans (Nat.add_le_add_left this _) hd
    obtain ⟨r, h1, h2⟩ := val_has lp _ hw
    rw [← one_eq] at h1
    have hr : r < 9218868437227405312 := Nat.lt_of_le_of_lt h2 (by rw [lp_eq]; decide)
    exact ⟨r, hr, h1, write_whole _ (Nat.le_of_lt hr) h1⟩

theorem sgn_word (s : Bool) {r : Nat} (h : r ≤ 9218868437227405312) : sgn (Ieee.double.word s r) = s := by
  unfold sgn Ieee.Format.word
  rw [dbl_sign]
  cases s
  · have : r / 9223372036854775808 % 2 = 0 := by omega
    show (r / 9223372036854775808 % 2 == 1) = false
    rw [this]; rfl
  · have : (9223372036854775808 + r) / 9223372036854775808 % 2 = 1 := by omega
    show ((9223372036854775808 + r) / 9223372036854775808 % 2 == 1) = true
    rw [this]; rfl

theorem rng_word (s : Bool) {r : Nat} (h : r ≤ 9218868437227405312) : rng (Ieee.double.word s r) = r := by
  unfold rng Ieee.Format.word
  rw [dbl_sign]
  split <;> omega

theorem word_back {x : Nat} (h : x < 18446744073709551616) : Ieee.double.word (sgn x) (rng x) = x := by
  unfold sgn rng Ieee.Format.word
  rw [dbl_sign]
  by_cases hs : x / 9223372036854775808 % 2 = 1
  · rw [hs]
    show 9223372036854775808 + x % 9223372036854775808 = x
    omega
  · have : x / 9223372036854775808 % 2 = 0 := by omega
    rw [this]
    show x % 9223372036854775808 = x
    omega

end Go.Proofs.Ytdmgeaakbekgbaa.Fl
