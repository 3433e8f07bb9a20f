/-
  What the page's own answers for float (package fanlightref01) give: Floor, Of, Int, for every 64 bits and every whole number: the same as the plain functions that package float answers by.
-/
import Derived.Test.YtdmgeaakbekgbaaFlRef
import Derived.Test.YtdmgeaakbekgbaaFlWhole
namespace Go.Proofs.Ytdmgeaakbekgbaa.Fl

/-- The low D bits, as the text makes the mask. -/
def low (D : Nat) : Int := IntKind.u64.wrap (IntKind.u64.wrap ((2 : Int) ^ D) - 1)

theorem low_eq {D : Nat} (h : D ≤ 52) : low D = ((2 ^ D - 1 : Nat) : Int) := by
  have h1 : 2 ^ D ≤ 2 ^ 52 := pow_le h
  have h2 : 0 < 2 ^ D := Nat.two_pow_pos _
  unfold low
  rw [IntKind.wrap_u64, IntKind.wrap_u64]
  have e : ((2 : Int) ^ D) = ((2 ^ D : Nat) : Int) := by rw [Int.natCast_pow]; rfl
  rw [e]
  generalize 2 ^ D = p at *
  omega

theorem and_low {b : Int} (h : U b) {D : Nat} (hD : D ≤ 52) : bits .and .u64 b (low D) = ((b.toNat % 2 ^ D : Nat) : Int) := by
  obtain ⟨h0, h1⟩ := h
  have h2 : 2 ^ D ≤ 2 ^ 52 := pow_le hD
  have h3 : 0 < 2 ^ D := Nat.two_pow_pos _
  rw [low_eq hD, u64_and b _ h0 h1 (by omega) (by omega), Int.toNat_natCast, Nat.and_two_pow_sub_one_eq_mod]

theorem nat_high (n D : Nat) (hD : D ≤ 52) (hn : n < 2 ^ 64) : n &&& (2 ^ 64 - 1 - (2 ^ D - 1)) = n - n % 2 ^ D := by
  have h3 : 0 < 2 ^ D := Nat.two_pow_pos _
  have e0 : 2 ^ 64 = 2 ^ (64 - D) * 2 ^ D := by rw [← Nat.pow_add, show 64 - D + D = 64 by omega]
  have e1 : 2 ^ 64 - 1 - (2 ^ D - 1) = (2 ^ (64 - D) - 1) <<< D := by
    rw [Nat.shiftLeft_eq, Nat.sub_mul, Nat.one_mul, ← e0]
    omega
  have e2 : n - n % 2 ^ D = (n >>> D) <<< D := by
    rw [Nat.shiftLeft_eq, Nat.shiftRight_eq_div_pow]
    have := Nat.div_add_mod n (2 ^ D)
    rw [Nat.mul_comm] at this
    omega
  rw [e1, e2]
  apply Nat.eq_of_testBit_eq
  intro i
  simp only [Nat.testBit_and, Nat.testBit_shiftLeft, Nat.testBit_two_pow_sub_one, Nat.testBit_shiftRight]
  by_cases hi : D ≤ i
  · have e3 : D + (i - D) = i := by omega
    rw [e3]
    by_cases hj : i < 64
    · have : i - D < 64 - D := by omega
      simp [hi, this]
    · have hb : n.testBit i = false := Nat.testBit_lt_two_pow (Nat.lt_of_lt_of_le hn (pow_le (by omega)))
      simp [hb]
  · simp [hi]

theorem andNot_low {b : Int} (h : U b) {D : Nat} (hD : D ≤ 52) : bits .andNot .u64 b (low D) = ((b.toNat - b.toNat % 2 ^ D : Nat) : Int) := by
  obtain ⟨h0, h1⟩ := h
  have h2 : 2 ^ D ≤ 2 ^ 52 := pow_le hD
  have h3 : 0 < 2 ^ D := Nat.two_pow_pos _
  rw [low_eq hD, u64_andNot b _ h0 h1 (by omega) (by omega), Int.toNat_natCast]
  have e : 18446744073709551615 - (2 ^ D - 1) = 2 ^ 64 - 1 - (2 ^ D - 1) := rfl
  rw [e, nat_high _ _ hD (by omega)]

theorem word_of {b : Int} (h : U b) : ((Ieee.double.word (sgn b.toNat) (rng b.toNat) : Nat) : Int) = b := by
  unfold U at h
  rw [word_back (by omega)]
  omega

/-- A number that is whole is its floor. -/
theorem ffl_whole {b : Int} (h : U b) (h4 : cls b < 4) (hz : val (rng b.toNat) % one = 0) : ffl b = b := by
  obtain ⟨r, h1, h2, h3⟩ := ffl_fin h h4
  have e : val (rng b.toNat) = val (rng b.toNat) / one * one := by
    have := Nat.div_add_mod (val (rng b.toNat)) one
    rw [hz, Nat.add_zero, Nat.mul_comm] at this
    exact this.symm
  rw [e, whole_whole, ← e] at h2
  rw [h3, val_inj h2, word_of h]

theorem ffl_same {b : Int} (h : U b) (h5 : ¬ cls b = 5) (hc : cls b < 2 ∨ 1075 ≤ b / 4503599627370496 % 2048) : ffl b = b := by
  by_cases h4 : 4 ≤ cls b
  · rw [floor_top h h4]
    unfold can
    rw [if_neg (fun x => h5 ((cls_nan b).2 x))]
  · refine ffl_whole h (by omega) ?_
    have hr := rng_int h
    rcases hc with hc | hc
    · have : rng b.toNat = 0 := by unfold cls at hc; unfold U at h; omega
      rw [this, val_small (by omega), Nat.zero_mod]
    · exact val_whole (by unfold U at h; omega)

theorem val_under {r : Nat} (h0 : 0 < r) (h : r < 4607182418800017408) : 0 < val r ∧ val r < one := by
  have h1 := val_strict h0
  have h2 := val_strict h
  rw [val_one] at h2
  rw [val_small (r := 0) (by omega)] at h1
  exact ⟨h1, h2⟩

theorem whole_under (s : Bool) {v : Nat} (h0 : 0 < v) (h1 : v < one) : whole s v = s.toNat := by
  unfold whole
  rw [Nat.div_eq_of_lt h1, Nat.mod_eq_of_lt h1]
  have e : (v != 0) = true := by simp; omega
  rw [e, Bool.and_true, Nat.zero_add]

/-- The floor of a number between nought and one, and of one between minus one and nought. -/
theorem ffl_under {b : Int} (h : U b) (h2 : 2 ≤ cls b) (h4 : cls b < 4) (he : b / 4503599627370496 % 2048 < 1023) :
    ffl b = if b < 9223372036854775808 then 0 else 13830554455654793216 := by
  obtain ⟨r, k1, k2, k3⟩ := ffl_fin h h4
  have hr := rng_int h
  have hb : 0 < rng b.toNat ∧ rng b.toNat < 4607182418800017408 := by unfold cls at h2; unfold U at h; omega
  obtain ⟨v0, v1⟩ := val_under hb.1 hb.2
  rw [whole_under _ v0 v1] at k2
  have hs := sgn_int h
  by_cases hb : b < 9223372036854775808
  · rw [decide_eq_false (by omega)] at hs
    rw [hs, Bool.toNat_false, Nat.zero_mul] at k2
    have r0 : r = 0 := val_inj (by rw [k2, val_small (by omega)])
    rw [if_pos hb, k3, hs, r0]
    rfl
  · rw [decide_eq_true (by omega)] at hs
    rw [hs, Bool.toNat_true, Nat.one_mul, ← val_one] at k2
    rw [if_neg hb, k3, hs, val_inj k2]
    rfl

/-- Where the low bits of a number that has a point among its digits are cut off. -/
theorem val_cut {r D : Nat} (h1 : 4607182418800017408 ≤ r) (h2 : r < 4841369599423283200) (hD : D = 1075 - r / 4503599627370496) :
    val (r - r % 2 ^ D) = val r / one * one ∧ (val r % one = 0 ↔ r % 2 ^ D = 0) := by
  have hq1 : 1023 ≤ r / 4503599627370496 := by omega
  have hq2 : r / 4503599627370496 < 1075 := by omega
  have hp : 0 < 2 ^ D := Nat.two_pow_pos _
  have hB : 4503599627370496 = 2 ^ (52 - D) * 2 ^ D := by rw [← Nat.pow_add, show 52 - D + D = 52 by omega]
  have hone : one = 2 ^ D * 2 ^ (r / 4503599627370496 - 1) := by rw [one_eq, ← Nat.pow_add, show D + (r / 4503599627370496 - 1) = lp by rw [lp_eq]; omega]
  have hm : (4503599627370496 + r % 4503599627370496) % 2 ^ D = r % 2 ^ D := by
    rw [Nat.add_mod, Nat.mod_mod_of_dvd r (show 2 ^ D ∣ 4503599627370496 from ⟨2 ^ (52 - D), by rw [Nat.mul_comm]; exact hB⟩)]
    have : 4503599627370496 % 2 ^ D = 0 := Nat.mod_eq_zero_of_dvd ⟨2 ^ (52 - D), by rw [Nat.mul_comm]; exact hB⟩
    rw [this, Nat.zero_add, Nat.mod_mod]
  have hpe : 0 < 2 ^ (r / 4503599627370496 - 1) := Nat.two_pow_pos _
  have hlow : r % 4503599627370496 % 2 ^ D = r % 2 ^ D := Nat.mod_mod_of_dvd r ⟨2 ^ (52 - D), by rw [Nat.mul_comm]; exact hB⟩
  have hle : r % 2 ^ D ≤ r % 4503599627370496 := by rw [← hlow]; exact Nat.mod_le _ _
  have hv : val r = (4503599627370496 + r % 4503599627370496) * 2 ^ (r / 4503599627370496 - 1) := val_big (by omega)
  constructor
  · have e1 : (r - r % 2 ^ D) / 4503599627370496 = r / 4503599627370496 := by clear hm hlow hone hv hB; generalize r % 2 ^ D = z at *; omega
    have e2 : (r - r % 2 ^ D) % 4503599627370496 = r % 4503599627370496 - r % 2 ^ D := by clear hm hlow hone hv hB; generalize r % 2 ^ D = z at *; omega
    have e3 : 4503599627370496 ≤ r - r % 2 ^ D := by clear hm hlow hone hv hB; generalize r % 2 ^ D = z at *; omega
    rw [val_big e3, e1, e2, hv, hone, Nat.mul_div_mul_right _ _ hpe, ← Nat.mul_assoc]
    have e4 : (4503599627370496 + r % 4503599627370496) / 2 ^ D * 2 ^ D = 4503599627370496 + (r % 4503599627370496 - r % 2 ^ D) := by
      have h5 := Nat.div_add_mod (4503599627370496 + r % 4503599627370496) (2 ^ D)
      rw [hm, Nat.mul_comm] at h5
      clear hm hlow hone hv hB e1 e2 e3
      generalize (4503599627370496 + r % 4503599627370496) / 2 ^ D * 2 ^ D = y at *
      generalize r % 2 ^ D = z at *
      omega
    rw [e4]
  · rw [hv, hone, Nat.mul_mod_mul_right, hm]
    exact ⟨fun h => (Nat.mul_eq_zero.1 h).resolve_right (by omega), fun h => by rw [h, Nat.zero_mul]⟩

/-- How many digits lie below the point. -/
def dig (b : Int) : Nat := (52 - (b / 4503599627370496 % 2048 - 1023)).toNat

theorem dig_bd {b : Int} (e1 : 1023 ≤ b / 4503599627370496 % 2048) (e2 : b / 4503599627370496 % 2048 < 1075) : dig b ≤ 52 := by unfold dig; omega

theorem dig_rng {b : Int} (h : U b) (e1 : 1023 ≤ b / 4503599627370496 % 2048) (e2 : b / 4503599627370496 % 2048 < 1075) :
    4607182418800017408 ≤ rng b.toNat ∧ rng b.toNat < 4841369599423283200 ∧ dig b = 1075 - rng b.toNat / 4503599627370496 ∧ b.toNat % 2 ^ dig b = rng b.toNat % 2 ^ dig b := by
  have hr := rng_int h
  have hd := dig_bd e1 e2
  obtain ⟨h0, h1⟩ := h
  refine ⟨by omega, by omega, by unfold dig; omega, ?_⟩
  unfold rng
  rw [Nat.mod_mod_of_dvd]
  exact ⟨2 ^ (63 - dig b), by rw [← Nat.pow_add, show dig b + (63 - dig b) = 63 by omega]⟩

theorem mid_whole {b : Int} (h : U b) (h4 : cls b < 4) (e1 : 1023 ≤ b / 4503599627370496 % 2048) (e2 : b / 4503599627370496 % 2048 < 1075) (hz : b.toNat % 2 ^ dig b = 0) : ffl b = b := by
  obtain ⟨h1, h2, h3, h5⟩ := dig_rng h e1 e2
  refine ffl_whole h h4 ?_
  rw [h5] at hz
  exact (val_cut h1 h2 h3).2.2 hz

theorem rng_cut {b : Int} (h : U b) (e1 : 1023 ≤ b / 4503599627370496 % 2048) (e2 : b / 4503599627370496 % 2048 < 1075) :
    b.toNat - b.toNat % 2 ^ dig b = Ieee.double.word (sgn b.toNat) (rng b.toNat - rng b.toNat % 2 ^ dig b) := by
  obtain ⟨h1, h2, h3, h5⟩ := dig_rng h e1 e2
  have hs := sgn_int h
  have hr := rng_int h
  have hl : b.toNat % 2 ^ dig b ≤ rng b.toNat := by rw [h5]; exact Nat.mod_le _ _
  rw [← h5]
  obtain ⟨h0, h6⟩ := h
  have hw := word_int (sgn b.toNat) (rng b.toNat - b.toNat % 2 ^ dig b)
  generalize Ieee.double.word (sgn b.toNat) (rng b.toNat - b.toNat % 2 ^ dig b) = x at *
  generalize b.toNat % 2 ^ dig b = z at *
  by_cases hb : 9223372036854775808 ≤ b
  · rw [hs, decide_eq_true hb, if_pos rfl] at hw
    omega
  · rw [hs, decide_eq_false hb, if_neg (by decide)] at hw
    omega

theorem mid_pos {b : Int} (h : U b) (h4 : cls b < 4) (e1 : 1023 ≤ b / 4503599627370496 % 2048) (e2 : b / 4503599627370496 % 2048 < 1075) (hb : b < 9223372036854775808) :
    ((b.toNat - b.toNat % 2 ^ dig b : Nat) : Int) = ffl b := by
  obtain ⟨h1, h2, h3, h5⟩ := dig_rng h e1 e2
  obtain ⟨r, k1, k2, k3⟩ := ffl_fin h h4
  have hs := sgn_int h
  rw [decide_eq_false (by omega)] at hs
  rw [hs, whole_false, ← (val_cut h1 h2 h3).1] at k2
  rw [k3, rng_cut h e1 e2, val_inj k2]

theorem mid_neg {b : Int} (h : U b) (h4 : cls b < 4) (e1 : 1023 ≤ b / 4503599627370496 % 2048) (e2 : b / 4503599627370496 % 2048 < 1075) (hb : ¬ b < 9223372036854775808) (hz : ¬ b.toNat % 2 ^ dig b = 0) :
    fop .sub ((b.toNat - b.toNat % 2 ^ dig b : Nat) : Int) 4607182418800017408 = ffl b := by
  obtain ⟨h1, h2, h3, h5⟩ := dig_rng h e1 e2
  obtain ⟨r, k1, k2, k3⟩ := ffl_fin h h4
  obtain ⟨c1, c2⟩ := val_cut h1 h2 h3
  have hs := sgn_int h
  rw [decide_eq_true (by omega)] at hs
  have hw : whole true (val (rng b.toNat)) = val (rng b.toNat) / one + 1 := by
    unfold whole
    have e : (val (rng b.toNat) % one != 0) = true := by
      have : ¬ val (rng b.toNat) % one = 0 := fun x => hz (by rw [h5]; exact c2.1 x)
      simpa using this
    rw [e]
    rfl
  rw [hs, hw, Nat.add_mul, Nat.one_mul, ← c1] at k2
  have hc := rng_cut h e1 e2
  rw [hs] at hc k3
  have hq : rng b.toNat - rng b.toNat % 2 ^ dig b < 9218868437227405312 := Nat.lt_of_le_of_lt (Nat.sub_le _ _) (by omega)
  have g1 := sgn_word true (Nat.le_of_lt hq)
  have g2 := rng_word true (Nat.le_of_lt hq)
  obtain ⟨T, base, t1, t2, t3⟩ := sub_fin (x := Ieee.double.word true (rng b.toNat - rng b.toNat % 2 ^ dig b)) (y := 4607182418800017408) (by rw [g2]; exact hq) (by rw [rng_unit]; omega)
  rw [g1, g2, rng_unit, sgn_unit, val_one, Bool.not_false, sv_true, sv_true] at t2
  rw [g1, sgn_unit, Bool.not_false, Bool.and_true] at t3
  have hz0 : -(val (rng b.toNat - rng b.toNat % 2 ^ dig b) : Int) + -(one : Int) = -((val r : Nat) : Int) := by rw [k2, Int.natCast_add, Int.neg_add]
  rw [hz0] at t2
  have hp : 0 < val r := by rw [k2]; exact Nat.lt_of_lt_of_le one_pos (Nat.le_add_left _ _)
  have ex := sum_exact t1 t2 (Nat.le_of_lt k1) (Int.natAbs_neg _) true
  have hsg : (if -((val r : Nat) : Int) = 0 then true else decide (-((val r : Nat) : Int) < 0)) = true := by
    generalize val r = y at hp
    rw [if_neg (by omega), decide_eq_true (by omega)]
  rw [hsg] at ex
  unfold fop
  have e : floatBits .sub .f64 ((b.toNat - b.toNat % 2 ^ dig b : Nat) : Int).toNat (4607182418800017408 : Int).toNat = Ieee.double.sub (b.toNat - b.toNat % 2 ^ dig b) 4607182418800017408 := rfl
  rw [e, hc, t3, ex, k3]
  rfl

end Go.Proofs.Ytdmgeaakbekgbaa.Fl
