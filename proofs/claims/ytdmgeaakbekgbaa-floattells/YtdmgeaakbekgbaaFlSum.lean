/-
  Plain facts on IEEE 754's numbers of 64 bits, with no program in sight: sums and differences that can be said exactly, and the three facts of the law FloatFloors.
-/
import Derived.Test.YtdmgeaakbekgbaaFlFloor
import Derived.Test.YtdmgeaakbekgbaaFlTurn
namespace Go.Proofs.Ytdmgeaakbekgbaa.Fl

/-- A sum of two numbers that are neither infinite nor NaN: an exact sum of multiples of one least place, written. -/
theorem sum_fin (s t : Bool) (m n : Nat) (p q : Int) (hp : -1074 ≤ p) (hq : -1074 ≤ q) : ∃ (T base : Int), -1074 ≤ base ∧
    T * ((2 ^ (base + 1074).toNat : Nat) : Int) = sv s (m * 2 ^ (p + 1074).toNat) + sv t (n * 2 ^ (q + 1074).toNat) ∧
    (Ieee.Datum.number s m p).sum (.number t n q) = some (.number (if T = 0 then s && t else decide (T < 0)) T.natAbs base) := by
  refine ⟨Ieee.signed s m (p - min p q).toNat + Ieee.signed t n (q - min p q).toNat, min p q, by omega, ?_, rfl⟩
  rw [Int.add_mul, sv_scale _ _ _ _ (by omega) (by omega), sv_scale _ _ _ _ (by omega) (by omega)]

theorem add_fin {x y : Nat} (hx : rng x < 9218868437227405312) (hy : rng y < 9218868437227405312) : ∃ (T base : Int), -1074 ≤ base ∧
    T * ((2 ^ (base + 1074).toNat : Nat) : Int) = sv (sgn x) (val (rng x)) + sv (sgn y) (val (rng y)) ∧
    Ieee.double.add x y = some (Ieee.double.nearest (if T = 0 then sgn x && sgn y else decide (T < 0)) T.natAbs base) := by
  obtain ⟨m, p, e, hp, hv, _⟩ := read_fin hx
  obtain ⟨n, q, e2, hq, hw, _⟩ := read_fin hy
  obtain ⟨T, base, h1, h2, h3⟩ := sum_fin (sgn x) (sgn y) m n p q hp hq
  rw [hv, hw] at h2
  refine ⟨T, base, h1, h2, ?_⟩
  unfold Ieee.Format.add
  rw [e, e2, h3]
  rfl

theorem sub_fin {x y : Nat} (hx : rng x < 9218868437227405312) (hy : rng y < 9218868437227405312) : ∃ (T base : Int), -1074 ≤ base ∧
    T * ((2 ^ (base + 1074).toNat : Nat) : Int) = sv (sgn x) (val (rng x)) + sv (!sgn y) (val (rng y)) ∧
    Ieee.double.sub x y = some (Ieee.double.nearest (if T = 0 then sgn x && !sgn y else decide (T < 0)) T.natAbs base) := by
  obtain ⟨m, p, e, hp, hv, _⟩ := read_fin hx
  obtain ⟨n, q, e2, hq, hw, _⟩ := read_fin hy
  obtain ⟨T, base, h1, h2, h3⟩ := sum_fin (sgn x) (!sgn y) m n p q hp hq
  rw [hv, hw] at h2
  refine ⟨T, base, h1, h2, ?_⟩
  unfold Ieee.Format.sub
  rw [e, e2]
  show (((Ieee.Datum.number (sgn x) m p).sum (Ieee.Datum.number (!sgn y) n q)).map Ieee.double.write) = _
  rw [h3]
  rfl

/-- What an exact sum tells of the number of least places. -/
theorem scaled {T Z : Int} {c : Nat} (hc : 0 < c) (h : T * (c : Int) = Z) : (T = 0 ↔ Z = 0) ∧ (T < 0 ↔ Z < 0) ∧ T.natAbs * c = Z.natAbs := by
  have hc' : (0 : Int) < c := Int.natCast_pos.2 hc
  subst h
  refine ⟨⟨fun e => by rw [e, Int.zero_mul], fun e => (Int.mul_eq_zero.1 e).resolve_right (by omega)⟩, ⟨fun e => Int.mul_neg_of_neg_of_pos e hc', fun e => ?_⟩, ?_⟩
  · refine Decidable.byContradiction fun hn => ?_
    have := Int.mul_nonneg (show 0 ≤ T by omega) (show (0 : Int) ≤ c by omega)
    omega
  · rw [Int.natAbs_mul, Int.natAbs_natCast]

/-- A sum that is some rung's worth is written as that rung. -/
theorem sum_exact {T base Z : Int} (hb : -1074 ≤ base) (h : T * ((2 ^ (base + 1074).toNat : Nat) : Int) = Z) {r : Nat} (hr : r ≤ 9218868437227405312) (hz : Z.natAbs = val r) (z : Bool) :
    Ieee.double.nearest (if T = 0 then z else decide (T < 0)) T.natAbs base = Ieee.double.word (if Z = 0 then z else decide (Z < 0)) r := by
  obtain ⟨h1, h2, h3⟩ := scaled (Nat.two_pow_pos _) h
  by_cases h0 : T = 0
  · have z0 := h1.1 h0
    have r0 : r = 0 := val_inj (by rw [← hz, z0, val_small (by omega)]; rfl)
    rw [if_pos h0, if_pos z0, h0, r0]
    exact nearest_zero _ _
  · have z0 : ¬ Z = 0 := fun e => h0 (h1.2 e)
    rw [if_neg h0, if_neg z0, decide_eq_decide.2 h2]
    refine nearest_exact _ ?_ hb hr ?_
    · omega
    · rw [h3, hz]

/-- A sum that is above nought and no greater than some rung's worth is written as no greater a rung, without a sign. -/
theorem sum_small {T base Z : Int} (hb : -1074 ≤ base) (h : T * ((2 ^ (base + 1074).toNat : Nat) : Int) = Z) {r : Nat} (hz0 : 0 ≤ Z) (hz : Z.natAbs ≤ val r) (z : Bool) (hzz : Z = 0 → z = false) :
    ∃ R, R ≤ r ∧ R ≤ 9218868437227405312 ∧ Ieee.double.nearest (if T = 0 then z else decide (T < 0)) T.natAbs base = Ieee.double.word false R := by
  obtain ⟨h1, h2, h3⟩ := scaled (Nat.two_pow_pos _) h
  by_cases h0 : T = 0
  · have z0 := h1.1 h0
    refine ⟨0, Nat.zero_le _, Nat.zero_le _, ?_⟩
    rw [if_pos h0, h0, hzz z0]
    exact nearest_zero _ _
  · have hn : ¬ T < 0 := fun e => by have := h2.1 e; omega
    obtain ⟨R, k1, k2, k3, _⟩ := nearest_rung T.natAbs base (by omega) hb
    refine ⟨R, k3 r (by rw [h3]; exact hz), k1, ?_⟩
    rw [if_neg h0, k2, decide_eq_false hn]

theorem fin_of_cls {b : Int} (h : U b) (h4 : cls b < 4) : rng b.toNat < 9218868437227405312 := by
  have := rng_int h
  unfold cls at h4
  omega

theorem num_of_cls {b : Int} (h : U b) (h4 : cls b < 4) : ¬ 9218868437227405312 < b.toNat % 9223372036854775808 := by
  have := fin_of_cls h h4
  unfold rng at this
  omega

theorem ffl_fin {b : Int} (h : U b) (h4 : cls b < 4) : ∃ r, r < 9218868437227405312 ∧ val r = whole (sgn b.toNat) (val (rng b.toNat)) * one ∧ ffl b = (Ieee.double.word (sgn b.toNat) r : Nat) := by
  obtain ⟨r, h1, h2, h3⟩ := floor_rung (fin_of_cls h h4)
  refine ⟨r, h1, h2, ?_⟩
  unfold ffl
  rw [if_neg (num_of_cls h h4), h3]

theorem whole_whole (s : Bool) (n : Nat) : whole s (n * one) = n := by
  unfold whole
  rw [Nat.mul_mod_left, Nat.mul_div_cancel _ one_pos]
  have e : (s && (0 != 0)) = false := by simp
  rw [e]
  rfl

theorem whole_false (v : Nat) : whole false v = v / one := by unfold whole; rfl
theorem whole_le (v : Nat) : whole false v * one ≤ v := by rw [whole_false]; exact Nat.div_mul_le_self _ _
theorem whole_lt (v : Nat) : v < whole false v * one + one := by
  rw [whole_false]
  have h1 := Nat.div_add_mod v one
  have h2 := Nat.mod_lt v one_pos
  rw [Nat.mul_comm] at h1
  omega
theorem le_whole (v : Nat) : v ≤ whole true v * one ∧ whole true v * one < v + one := by
  unfold whole
  have h1 := Nat.div_add_mod v one
  have h2 := Nat.mod_lt v one_pos
  have h3 := one_pos
  rw [Nat.mul_comm] at h1
  by_cases h : v % one = 0
  · have e : (true && (v % one != 0)) = false := by rw [h]; rfl
    rw [e, Bool.toNat_false, Nat.add_zero]
    omega
  · have e : (true && (v % one != 0)) = true := by simpa using h
    rw [e, Bool.toNat_true, Nat.add_mul, Nat.one_mul]
    omega

theorem word_int (s : Bool) (r : Nat) : ((Ieee.double.word s r : Nat) : Int) = if s then 9223372036854775808 + (r : Int) else r := by
  unfold Ieee.Format.word
  rw [dbl_sign]
  cases s <;> simp

theorem U_word (s : Bool) {r : Nat} (h : r ≤ 9218868437227405312) : U ((Ieee.double.word s r : Nat) : Int) := by
  have := word_num s h
  unfold U
  omega

theorem cls_word (s : Bool) {r : Nat} (h : r < 9218868437227405312) : cls ((Ieee.double.word s r : Nat) : Int) < 4 := by
  rw [word_int]
  unfold cls
  cases s
  · simp only [Bool.false_eq_true, if_false]
    rw [if_neg (by omega), if_neg (by omega)]
    omega
  · simp only [if_true]
    rw [if_neg (by omega), if_neg (by omega)]
    omega

theorem ord_word (s : Bool) {r : Nat} (h : r ≤ 9218868437227405312) : ord ((Ieee.double.word s r : Nat) : Int) = if s then 9223372036854775807 - (r : Int) else r + 9223372036854775808 := by
  rw [word_int]
  unfold ord
  cases s
  · simp only [Bool.false_eq_true, if_false]
    omega
  · simp only [if_true]
    omega

/-- The floor of a floor. -/
theorem floor_floor {b : Int} (h : U b) (h4 : cls b < 4) : ffl (ffl b) = ffl b := by
  obtain ⟨r, h1, h2, h3⟩ := ffl_fin h h4
  obtain ⟨r', k1, k2, k3⟩ := ffl_fin (U_word (sgn b.toNat) (Nat.le_of_lt h1)) (cls_word (sgn b.toNat) h1)
  rw [h3, k3]
  rw [Int.toNat_natCast, rng_word _ (Nat.le_of_lt h1), sgn_word _ (Nat.le_of_lt h1), h2, whole_whole, ← h2] at k2
  rw [Int.toNat_natCast, sgn_word _ (Nat.le_of_lt h1), val_inj k2]

/-- A floor is not above. -/
theorem floor_ord {b : Int} (h : U b) (h4 : cls b < 4) : ord (ffl b) ≤ ord b := by
  obtain ⟨r, h1, h2, h3⟩ := ffl_fin h h4
  have hf := fin_of_cls h h4
  have hb : b = ((Ieee.double.word (sgn b.toNat) (rng b.toNat) : Nat) : Int) := by
    have h' := h
    unfold U at h'
    rw [word_back (by omega)]
    omega
  have e := ord_word (sgn b.toNat) (Nat.le_of_lt hf)
  rw [← hb] at e
  rw [h3, e, ord_word _ (Nat.le_of_lt h1)]
  have w1 := whole_le (val (rng b.toNat))
  have w2 := (le_whole (val (rng b.toNat))).1
  cases hs : sgn b.toNat
  · rw [hs] at h2
    rw [← h2] at w1
    have := val_le_iff.1 w1
    simp only [Bool.false_eq_true, if_false]
    omega
  · rw [hs] at h2
    rw [← h2] at w2
    have := val_le_iff.1 w2
    simp only [if_true]
    omega

theorem sv_false (v : Nat) : sv false v = (v : Int) := rfl
theorem sv_true (v : Nat) : sv true v = -(v : Int) := rfl

theorem gap_up (v u o : Nat) (h1 : u ≤ v) (h2 : v < u + o) : 0 ≤ (v : Int) + -(u : Int) ∧ ((v : Int) + -(u : Int)).natAbs ≤ o := by omega
theorem gap_down (v u o : Nat) (h1 : v ≤ u) (h2 : u < v + o) : 0 ≤ -(v : Int) + (u : Int) ∧ (-(v : Int) + (u : Int)).natAbs ≤ o := by omega

theorem floor_gap (s : Bool) (v : Nat) : 0 ≤ sv s v + sv (!s) (whole s v * one) ∧ (sv s v + sv (!s) (whole s v * one)).natAbs ≤ one := by
  cases s
  · rw [Bool.not_false, sv_false, sv_true]
    exact gap_up v _ _ (whole_le v) (whole_lt v)
  · rw [Bool.not_true, sv_false, sv_true]
    exact gap_down v _ _ (le_whole v).1 (le_whole v).2

theorem rung_one (n : Nat) (h : n ≤ one) : n ≤ val 4607182418800017408 := by rw [val_one]; exact h

theorem ord_one : ord 4607182418800017408 = 13830554455654793216 := by decide +kernel

theorem floor_diff {b : Int} (h : U b) (h4 : cls b < 4) : ∃ R, R ≤ 4607182418800017408 ∧ R ≤ 9218868437227405312 ∧ fop .sub b (ffl b) = ((Ieee.double.word false R : Nat) : Int) := by
  obtain ⟨r, h1, h2, h3⟩ := ffl_fin h h4
  have hr := rng_word (sgn b.toNat) (Nat.le_of_lt h1)
  have hs := sgn_word (sgn b.toNat) (Nat.le_of_lt h1)
  obtain ⟨T, base, k1, k2, k3⟩ := sub_fin (fin_of_cls h h4) (show rng (Ieee.double.word (sgn b.toNat) r) < 9218868437227405312 by rw [hr]; exact h1)
  rw [hr, hs, h2] at k2
  rw [hs] at k3
  obtain ⟨g1, g2⟩ := floor_gap (sgn b.toNat) (val (rng b.toNat))
  obtain ⟨R, r1, r2, r3⟩ := sum_small k1 k2 g1 (rung_one _ g2) (sgn b.toNat && !sgn b.toNat) (fun _ => Bool.and_not_self _)
  refine ⟨R, r1, r2, ?_⟩
  unfold fop
  have e : floatBits .sub .f64 b.toNat (ffl b).toNat = Ieee.double.sub b.toNat (ffl b).toNat := rfl
  rw [e, h3, Int.toNat_natCast, k3, r3]
  rfl

/-- A floor is at most one below. -/
theorem floor_sub {b : Int} (h : U b) (h4 : cls b < 4) : ord (fop .sub b (ffl b)) ≤ ord 4607182418800017408 := by
  obtain ⟨R, h1, h2, h3⟩ := floor_diff h h4
  rw [h3, ord_word false h2, ord_one]
  simp only [Bool.false_eq_true, if_false]
  omega

theorem floor_top {b : Int} (h : U b) (h4 : 4 ≤ cls b) : ffl b = can b := by
  have hr := rng_int h
  unfold ffl can
  by_cases h5 : 9218868437227405312 < b % 9223372036854775808
  · rw [if_pos h5, if_pos (by unfold rng at hr; omega)]
  · rw [if_neg h5, if_neg (by unfold rng at hr; omega)]
    have hi : rng b.toNat = 9218868437227405312 := by
      unfold cls at h4
      omega
    rw [read_inf hi]
    show ((Ieee.double.word (sgn b.toNat) 9218868437227405312 : Nat) : Int) = b
    have h' := h
    unfold U at h'
    rw [← hi, word_back (by omega)]
    omega

end Go.Proofs.Ytdmgeaakbekgbaa.Fl
