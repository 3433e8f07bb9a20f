/-
  Plain facts on IEEE 754's numbers of 64 bits, with no program in sight: which whole number a number is, whether it lies beyond 2 to the 53, and whole numbers as numbers.
-/
import Derived.Test.YtdmgeaakbekgbaaFlSum
namespace Go.Proofs.Ytdmgeaakbekgbaa.Fl

/-- The whole number that a number is, cut towards nought. -/
def iv (b : Int) : Int := sv (sgn b.toNat) (val (rng b.toNat) / one)

theorem to_int {b : Int} (h : U b) (h4 : cls b < 4) : (FloatKind.f64.decode b.toNat).toInt .zero = some (iv b) := by
  have e : (FloatKind.f64.decode b.toNat).integral .zero = .number (sgn b.toNat) (val (rng b.toNat) / one) 0 := integral_zero (fin_of_cls h h4)
  unfold Ieee.Datum.toInt
  rw [e]
  show some (Ieee.signed (sgn b.toNat) (val (rng b.toNat) / one) 0) = _
  rw [signed_sv, Nat.pow_zero, Nat.mul_one]
  rfl

theorem sv_bd (s : Bool) {v n : Nat} (h : v ≤ n) : -(n : Int) ≤ sv s v ∧ sv s v ≤ n := by
  cases s
  · rw [sv_false]; omega
  · rw [sv_true]; omega

theorem iv_bd {b : Int} (h53 : rng b.toNat ≤ 4845873199050653696) : -9007199254740992 ≤ iv b ∧ iv b ≤ 9007199254740992 := by
  have h1 : val (rng b.toNat) ≤ 9007199254740992 * one := by rw [← val_two53]; exact val_le_iff.2 h53
  have h2 : val (rng b.toNat) / one ≤ 9007199254740992 := by
    refine Nat.le_trans (Nat.div_le_div_right h1) ?_
    rw [Nat.mul_div_cancel _ one_pos]
    exact Nat.le_refl _
  exact sv_bd (sgn b.toNat) h2

theorem to_int_val {b : Int} (h : U b) (h4 : cls b < 4) (h53 : rng b.toNat ≤ 4845873199050653696) : floatToIntVal .f64 b.toNat .i64 = some (iv b) := by
  unfold floatToIntVal
  rw [to_int h h4]
  have hb := iv_bd h53
  have e1 : IntKind.i64.min = -9223372036854775808 := rfl
  have e2 : IntKind.i64.max = 9223372036854775807 := rfl
  show (if IntKind.i64.min ≤ iv b ∧ iv b ≤ IntKind.i64.max then some (iv b) else none) = some (iv b)
  rw [e1, e2, if_pos (by omega)]

theorem rng_c1 : rng 14069245235905429504 = 4845873199050653696 := by unfold rng; omega
theorem rng_c2 : rng 4845873199050653696 = 4845873199050653696 := by unfold rng; omega
theorem sgn_c1 : sgn 14069245235905429504 = true := by decide
theorem sgn_c2 : sgn 4845873199050653696 = false := by decide

theorem cmp_is_lt (a b : Int) : (some (compare a b) == some Ordering.lt) = decide (a < b) := by
  by_cases h : a < b
  · rw [cmp_lt h, decide_eq_true h]; rfl
  · rw [decide_eq_false h, cmp_eq, if_neg h]
    split <;> rfl

theorem cmp_is_gt (a b : Int) : (some (compare a b) == some Ordering.gt) = decide (b < a) := by
  by_cases h : b < a
  · rw [cmp_gt h, decide_eq_true h]; rfl
  · rw [decide_eq_false h, cmp_eq]
    by_cases h1 : a < b
    · rw [if_pos h1]; rfl
    · rw [if_neg h1, if_pos (by omega)]; rfl

theorem far_neg (s : Bool) (v n : Nat) : decide (sv s v < sv true n) = (s && decide (n < v)) := by
  cases s
  · rw [sv_false, sv_true, decide_eq_false (by omega)]; rfl
  · rw [sv_true, sv_true, Bool.true_and]
    exact decide_eq_decide.2 (by omega)

theorem far_pos (s : Bool) (v n : Nat) : decide (sv false n < sv s v) = (!s && decide (n < v)) := by
  cases s
  · rw [sv_false, sv_false, Bool.not_false, Bool.true_and]
    exact decide_eq_decide.2 (by omega)
  · rw [sv_false, sv_true, decide_eq_false (by omega)]; rfl

theorem val_lt_iff {r s : Nat} : val r < val s ↔ r < s :=
  ⟨fun h => Nat.lt_of_not_le fun k => Nat.lt_irrefl _ (Nat.lt_of_lt_of_le h (val_le_iff.2 k)), val_strict⟩

theorem below53 {b : Int} (h : U b) (h4 : cls b < 4) : (FloatKind.f64.format.order b.toNat 14069245235905429504 == some Ordering.lt) = (sgn b.toNat && decide (4845873199050653696 < rng b.toNat)) := by
  have e : FloatKind.f64.format.order b.toNat 14069245235905429504 = Ieee.double.order b.toNat 14069245235905429504 := rfl
  rw [e, order_sv (Nat.le_of_lt (fin_of_cls h h4)) (by rw [rng_c1]; omega), cmp_is_lt, rng_c1, sgn_c1, far_neg]
  rw [decide_eq_decide.2 (val_lt_iff (r := 4845873199050653696) (s := rng b.toNat))]

theorem above53 {b : Int} (h : U b) (h4 : cls b < 4) : (FloatKind.f64.format.order b.toNat 4845873199050653696 == some Ordering.gt) = (!sgn b.toNat && decide (4845873199050653696 < rng b.toNat)) := by
  have e : FloatKind.f64.format.order b.toNat 4845873199050653696 = Ieee.double.order b.toNat 4845873199050653696 := rfl
  rw [e, order_sv (Nat.le_of_lt (fin_of_cls h h4)) (by rw [rng_c2]; omega), cmp_is_gt, rng_c2, sgn_c2, far_pos]
  rw [decide_eq_decide.2 (val_lt_iff (r := 4845873199050653696) (s := rng b.toNat))]

/-- A whole number within 2 to the 53, as a number. -/
theorem of_rung {n : Int} (h1 : -9007199254740992 ≤ n) (h2 : n ≤ 9007199254740992) : ∃ r, r ≤ 4845873199050653696 ∧ val r = n.natAbs * one ∧ floatOfInt .f64 n = Ieee.double.word (decide (n < 0)) r := by
  obtain ⟨r, k1, k2⟩ := val_has lp n.natAbs (by omega)
  rw [← one_eq] at k1
  have h3 : r ≤ 9218868437227405312 := Nat.le_trans k2 (by rw [lp_eq]; decide)
  have h4 : r ≤ 4845873199050653696 := by
    refine val_le_iff.1 ?_
    rw [k1, val_two53]
    exact Nat.mul_le_mul_right _ (by omega)
  exact ⟨r, h4, k1, write_whole _ h3 k1⟩

theorem U_of (n : Int) : U ((floatOfInt .f64 n : Nat) : Int) := by
  have h : floatOfInt .f64 n = Ieee.double.nearest (decide (n < 0)) n.natAbs 0 := rfl
  have := nearest_num (decide (n < 0)) n.natAbs 0
  rw [h]
  unfold U
  omega

theorem sv_abs (n : Int) (o : Nat) : sv (decide (n < 0)) (n.natAbs * o) = n * (o : Int) := by
  rw [sv_mul]
  by_cases h : n < 0
  · rw [decide_eq_true h, sv_true]
    have : -(n.natAbs : Int) = n := by omega
    rw [this]
  · rw [decide_eq_false h, sv_false]
    have : (n.natAbs : Int) = n := by omega
    rw [this]

/-- What a whole number is as a number: its class, its floor, the whole number that it is. -/
theorem of_back {n : Int} (h1 : -9007199254740992 ≤ n) (h2 : n ≤ 9007199254740992) :
    cls (floatOfInt .f64 n : Nat) < 4 ∧ ffl (floatOfInt .f64 n : Nat) = (floatOfInt .f64 n : Nat) ∧ iv (floatOfInt .f64 n : Nat) = n ∧ rng (floatOfInt .f64 n) ≤ 4845873199050653696 := by
  obtain ⟨r, k1, k2, k3⟩ := of_rung h1 h2
  have hr : r < 9218868437227405312 := by omega
  have hc := cls_word (decide (n < 0)) hr
  have hs := sgn_word (decide (n < 0)) (Nat.le_of_lt hr)
  have hg := rng_word (decide (n < 0)) (Nat.le_of_lt hr)
  rw [k3]
  refine ⟨hc, ?_, ?_, by rw [hg]; exact k1⟩
  · obtain ⟨r', j1, j2, j3⟩ := ffl_fin (U_word (decide (n < 0)) (Nat.le_of_lt hr)) hc
    rw [Int.toNat_natCast, hs, hg, k2, whole_whole, ← k2] at j2
    rw [j3, Int.toNat_natCast, hs, val_inj j2]
  · unfold iv
    rw [Int.toNat_natCast, hs, hg, k2, Nat.mul_div_cancel _ one_pos]
    have := sv_abs n 1
    rw [Nat.mul_one] at this
    rw [this]
    omega

theorem rng_unit : rng 4607182418800017408 = 4607182418800017408 := by unfold rng; omega
theorem sgn_unit : sgn 4607182418800017408 = false := by decide

/-- One more is the next. -/
theorem of_next {n : Int} (h1 : -9007199254740992 ≤ n) (h2 : n < 9007199254740992) : fop .add (floatOfInt .f64 n : Nat) 4607182418800017408 = (floatOfInt .f64 (n + 1) : Nat) := by
  obtain ⟨r, k1, k2, k3⟩ := of_rung h1 (show n ≤ 9007199254740992 by omega)
  obtain ⟨r', j1, j2, j3⟩ := of_rung (show -9007199254740992 ≤ n + 1 by omega) (show n + 1 ≤ 9007199254740992 by omega)
  have hr : r < 9218868437227405312 := by omega
  have hr' : r' ≤ 9218868437227405312 := by omega
  have hs := sgn_word (decide (n < 0)) (Nat.le_of_lt hr)
  have hg := rng_word (decide (n < 0)) (Nat.le_of_lt hr)
  obtain ⟨T, base, t1, t2, t3⟩ := add_fin (x := Ieee.double.word (decide (n < 0)) r) (y := 4607182418800017408) (by rw [hg]; exact hr) (by rw [rng_unit]; omega)
  rw [hs, hg, rng_unit, sgn_unit, val_one, k2, sv_abs, sv_false] at t2
  rw [hs, sgn_unit] at t3
  have hz : n * (one : Int) + (one : Int) = (n + 1) * (one : Int) := by rw [Int.add_mul, Int.one_mul]
  rw [hz] at t2
  have ho : (0 : Int) < (one : Int) := Int.natCast_pos.2 one_pos
  obtain ⟨z1, z2, z3⟩ := scaled (T := n + 1) (c := one) one_pos rfl
  have ex := sum_exact t1 t2 hr' (by rw [← z3, j2]) (decide (n < 0) && false)
  unfold fop
  have e : floatBits .add .f64 ((floatOfInt .f64 n : Nat) : Int).toNat (4607182418800017408 : Int).toNat = Ieee.double.add (floatOfInt .f64 n) 4607182418800017408 := rfl
  rw [e, k3, t3, ex, j3]
  show ((Ieee.double.word _ r' : Nat) : Int) = _
  have hsg : (if (n + 1) * (one : Int) = 0 then (decide (n < 0) && false) else decide ((n + 1) * (one : Int) < 0)) = decide (n + 1 < 0) := by
    by_cases h0 : n + 1 = 0
    · rw [if_pos (z1.1 h0), Bool.and_false, decide_eq_false (by omega)]
    · rw [if_neg (fun x => h0 (z1.2 x)), decide_eq_decide.2 z2]
  rw [hsg]

end Go.Proofs.Ytdmgeaakbekgbaa.Fl
