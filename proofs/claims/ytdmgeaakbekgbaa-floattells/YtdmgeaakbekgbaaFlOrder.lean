/-
  Plain facts on IEEE 754's numbers of 64 bits, with no program in sight: how two numbers that are no NaN stand to each other is told by their rungs and signs.
-/
import Derived.Test.YtdmgeaakbekgbaaFlVal
namespace Go.Proofs.Ytdmgeaakbekgbaa.Fl

/-- Its sign. -/
def sgn (x : Nat) : Bool := x / 9223372036854775808 % 2 == 1
/-- Its rung. -/
def rng (x : Nat) : Nat := x % 9223372036854775808
/-- What a number is worth, as a multiple of the least. -/
def sv (s : Bool) (v : Nat) : Int := if s then -(v : Int) else v

theorem read_fin {x : Nat} (h : rng x < 9218868437227405312) : ∃ (m : Nat) (p : Int), Ieee.double.read x = .number (sgn x) m p ∧ -1074 ≤ p ∧ m * 2 ^ (p + 1074).toNat = val (rng x) ∧
    (rng x < 4503599627370496 → m = rng x ∧ p = -1074) ∧
    (4503599627370496 ≤ rng x → m = 4503599627370496 + rng x % 4503599627370496 ∧ p = -1074 + ((rng x / 4503599627370496 - 1 : Nat) : Int)) := by
  unfold rng at *
  by_cases h1 : x % 9223372036854775808 < 4503599627370496
  · refine ⟨x % 9223372036854775808, -1074, ?_, by omega, ?_, fun _ => ⟨rfl, rfl⟩, fun h2 => absurd h1 (Nat.not_lt.2 h2)⟩
    · rw [read_eq, if_pos h1]; rfl
    · rw [val_small h1]; exact Nat.mul_one _
  · refine ⟨4503599627370496 + x % 9223372036854775808 % 4503599627370496, -1074 + ((x % 9223372036854775808 / 4503599627370496 - 1 : Nat) : Int), ?_, by omega, ?_, fun h2 => absurd h2 h1, fun _ => ⟨rfl, rfl⟩⟩
    · rw [read_eq, if_neg h1, if_pos h]; rfl
    · rw [val_big (Nat.not_lt.1 h1)]
      have e : (-1074 + ((x % 9223372036854775808 / 4503599627370496 - 1 : Nat) : Int) + 1074).toNat = x % 9223372036854775808 / 4503599627370496 - 1 := by omega
      rw [e]

theorem read_inf {x : Nat} (h : rng x = 9218868437227405312) : Ieee.double.read x = .infinity (sgn x) := by
  unfold rng at h
  rw [read_eq, if_neg (by omega), if_neg (by omega), if_pos h]
  rfl

theorem cmp_eq (a b : Int) : compare a b = if a < b then .lt else if a = b then .eq else .gt := rfl

theorem cmp_lt {a b : Int} (h : a < b) : compare a b = .lt := by rw [cmp_eq, if_pos h]
theorem cmp_gt {a b : Int} (h : b < a) : compare a b = .gt := by rw [cmp_eq, if_neg (by omega), if_neg (by omega)]
theorem cmp_self (a : Int) : compare a a = .eq := by rw [cmp_eq, if_neg (by omega), if_pos rfl]

theorem cmp_mul (a b c : Int) (hc : 0 < c) : compare (a * c) (b * c) = compare a b := by
  rw [cmp_eq, cmp_eq]
  by_cases h : a < b
  · rw [if_pos h, if_pos (Int.mul_lt_mul_of_pos_right h hc)]
  · by_cases e : a = b
    · rw [if_neg h, if_pos e, e, if_neg (Int.lt_irrefl _), if_pos rfl]
    · have h1 : b * c < a * c := Int.mul_lt_mul_of_pos_right (by omega) hc
      rw [if_neg h, if_neg e, if_neg (by omega), if_neg (by omega)]

theorem signed_sv (s : Bool) (m k : Nat) : Ieee.signed s m k = sv s (m * 2 ^ k) := by
  unfold Ieee.signed sv
  rw [Nat.shiftLeft_eq]

theorem sv_mul (s : Bool) (a c : Nat) : sv s (a * c) = sv s a * (c : Int) := by
  unfold sv
  cases s
  · simp
  · simp [Int.neg_mul]

theorem sv_scale (s : Bool) (m : Nat) (i base : Int) (h1 : base ≤ i) (h2 : -1074 ≤ base) :
    Ieee.signed s m (i - base).toNat * ((2 ^ (base + 1074).toNat : Nat) : Int) = sv s (m * 2 ^ (i + 1074).toNat) := by
  rw [signed_sv, ← sv_mul, Nat.mul_assoc, ← Nat.pow_add]
  have e : (i - base).toNat + (base + 1074).toNat = (i + 1074).toNat := by omega
  rw [e]

/-- How two numbers that are no NaN stand to each other. -/
theorem order_sv {x y : Nat} (hx : rng x ≤ 9218868437227405312) (hy : rng y ≤ 9218868437227405312) :
    Ieee.double.order x y = some (compare (sv (sgn x) (val (rng x))) (sv (sgn y) (val (rng y)))) := by
  have mono : ∀ r, r < 9218868437227405312 → val r < val 9218868437227405312 := fun r h => val_strict h
  unfold Ieee.Format.order
  by_cases h1 : rng x = 9218868437227405312
  · rw [read_inf h1, h1]
    by_cases h2 : rng y = 9218868437227405312
    · rw [read_inf h2, h2]
      have hp : 0 < val 9218868437227405312 := Nat.lt_of_le_of_lt (Nat.zero_le _) (mono 0 (by decide))
      generalize val 9218868437227405312 = v at hp ⊢
      cases sgn x <;> cases sgn y
      · show some Ordering.eq = some (compare (v : Int) v); rw [cmp_self]
      · show some Ordering.gt = some (compare (v : Int) (-(v : Int))); rw [cmp_gt (by omega)]
      · show some Ordering.lt = some (compare (-(v : Int)) (v : Int)); rw [cmp_lt (by omega)]
      · show some Ordering.eq = some (compare (-(v : Int)) (-(v : Int))); rw [cmp_self]
    · obtain ⟨m, p, e, _, _, _⟩ := read_fin (Nat.lt_of_le_of_ne hy h2)
      have hv := mono _ (Nat.lt_of_le_of_ne hy h2)
      rw [e]
      generalize val 9218868437227405312 = v at hv ⊢
      generalize val (rng y) = u at hv ⊢
      cases sgn x <;> cases sgn y
      · show some Ordering.gt = some (compare (v : Int) u); rw [cmp_gt (by omega)]
      · show some Ordering.gt = some (compare (v : Int) (-(u : Int))); rw [cmp_gt (by omega)]
      · show some Ordering.lt = some (compare (-(v : Int)) (u : Int)); rw [cmp_lt (by omega)]
      · show some Ordering.lt = some (compare (-(v : Int)) (-(u : Int))); rw [cmp_lt (by omega)]
  · obtain ⟨m, p, e, hp, hm, _⟩ := read_fin (Nat.lt_of_le_of_ne hx h1)
    rw [e]
    by_cases h2 : rng y = 9218868437227405312
    · have hv := mono _ (Nat.lt_of_le_of_ne hx h1)
      rw [read_inf h2, h2]
      generalize val 9218868437227405312 = v at hv ⊢
      generalize val (rng x) = u at hv ⊢
      cases sgn x <;> cases sgn y
      · show some Ordering.lt = some (compare (u : Int) v); rw [cmp_lt (by omega)]
      · show some Ordering.gt = some (compare (u : Int) (-(v : Int))); rw [cmp_gt (by omega)]
      · show some Ordering.lt = some (compare (-(u : Int)) (v : Int)); rw [cmp_lt (by omega)]
      · show some Ordering.gt = some (compare (-(u : Int)) (-(v : Int))); rw [cmp_gt (by omega)]
    · obtain ⟨n, q, e2, hq, hn, _⟩ := read_fin (Nat.lt_of_le_of_ne hy h2)
      rw [e2]
      simp only [Ieee.Datum.order]
      rw [← cmp_mul _ _ ((2 ^ (min p q + 1074).toNat : Nat) : Int) (Int.natCast_pos.2 (Nat.two_pow_pos _)), sv_scale _ _ _ _ (by omega) (by omega), sv_scale _ _ _ _ (by omega) (by omega), hm, hn]

theorem rng_int {b : Int} (h : U b) : (rng b.toNat : Int) = b % 9223372036854775808 := by
  unfold U at h
  unfold rng
  omega

theorem sgn_int {b : Int} (h : U b) : sgn b.toNat = decide (9223372036854775808 ≤ b) := by
  unfold U at h
  unfold sgn
  by_cases hb : 9223372036854775808 ≤ b
  · have : b.toNat / 9223372036854775808 % 2 = 1 := by omega
    rw [this, decide_eq_true hb]; rfl
  · have : b.toNat / 9223372036854775808 % 2 = 0 := by omega
    rw [this, decide_eq_false hb]; rfl

/-- One that is less, as numbers, comes first. -/
theorem order_ord {a b : Int} (ha : U a) (hb : U b) (na : ¬ cls a = 5) (nb : ¬ cls b = 5)
    (h : (Ieee.double.order a.toNat b.toNat == some .gt || Ieee.double.order a.toNat b.toNat == some .eq) = false) : ord a < ord b := by
  rw [cls_nan] at na nb
  have ra := rng_int ha
  have rb := rng_int hb
  rw [order_sv (by omega) (by omega), sgn_int ha, sgn_int hb] at h
  have key : sv (decide (9223372036854775808 ≤ a)) (val (rng a.toNat)) < sv (decide (9223372036854775808 ≤ b)) (val (rng b.toNat)) := by
    rw [cmp_eq] at h
    refine Decidable.byContradiction fun hn => ?_
    rw [if_neg hn] at h
    by_cases he : sv (decide (9223372036854775808 ≤ a)) (val (rng a.toNat)) = sv (decide (9223372036854775808 ≤ b)) (val (rng b.toNat))
    · rw [if_pos he] at h; cases h
    · rw [if_neg he] at h; cases h
  clear h
  have m1 := @val_le_iff (rng a.toNat) (rng b.toNat)
  have m2 := @val_le_iff (rng b.toNat) (rng a.toNat)
  unfold sv at key
  generalize val (rng a.toNat) = va at *
  generalize val (rng b.toNat) = vb at *
  generalize rng a.toNat = na' at *
  generalize rng b.toNat = nb' at *
  unfold U at ha hb
  unfold ord
  rw [if_neg na, if_neg nb]
  by_cases h1 : 9223372036854775808 ≤ a <;> by_cases h2 : 9223372036854775808 ≤ b
  · rw [if_pos h1, if_pos h2]
    simp only [h1, h2, decide_true, if_true] at key
    omega
  · rw [if_pos h1, if_neg h2]
    omega
  · simp only [h1, h2, decide_true, decide_false, if_true, Bool.false_eq_true, if_false] at key
    omega
  · rw [if_neg h1, if_neg h2]
    simp only [h1, h2, decide_false, Bool.false_eq_true, if_false] at key
    omega

end Go.Proofs.Ytdmgeaakbekgbaa.Fl
