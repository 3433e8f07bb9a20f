/-
  Plain facts on the 64 bits of a float64, with no program in sight: its class, the one NaN, its place in the order,
  and what the masks and shifts of the text make of the bits. No conditions but that a number has 64 bits.
-/
import Derived.Laws.FloatArith
import Derived.Laws.BitsAllLaws
import Derived.OpenShut
namespace Go.Proofs.YtndclldicdfmeaaGreat.Fl

/-- Of 64 bits. -/
def U (b : Int) : Prop := 0 ≤ b ∧ b < 18446744073709551616

theorem U_of_wf {b : Int} (h : (Lit.int .u64 b).wf = true) : U b := by
  have := bounds_u64 h
  unfold U
  omega

theorem U_wrap (x : Int) : U (IntKind.u64.wrap x) := by
  rw [IntKind.wrap_u64]
  unfold U
  omega

/-- The class of a number. -/
def cls (b : Int) : Int :=
  if 9218868437227405312 < b % 9223372036854775808 then 5
  else if b % 9223372036854775808 = 9218868437227405312 then 4
  else if 4503599627370496 ≤ b % 9223372036854775808 then 3
  else if b % 9223372036854775808 ≠ 0 then 2
  else if b = 9223372036854775808 then 1 else 0

/-- The number, or the one NaN. -/
def can (b : Int) : Int := if 9218868437227405312 < b % 9223372036854775808 then 9221120237041090560 else b

/-- Its place in the order. -/
def ord (b : Int) : Int :=
  if 9218868437227405312 < b % 9223372036854775808 then 18446744073709551615
  else if 9223372036854775808 ≤ b then 18446744073709551615 - b else b + 9223372036854775808

theorem U_can {b : Int} (h : U b) : U (can b) := by unfold U can at *; omega
theorem U_ord {b : Int} (h : U b) : U (ord b) := by unfold U ord at *; omega
theorem cls_bd (b : Int) : 0 ≤ cls b ∧ cls b ≤ 5 := by unfold cls; omega
theorem cls_nan (b : Int) : cls b = 5 ↔ 9218868437227405312 < b % 9223372036854775808 := by unfold cls; omega
theorem can_can (b : Int) : can (can b) = can b := by unfold can; omega
theorem cls_can (b : Int) (h : cls (can b) = 5) : can b = 9221120237041090560 := by unfold cls can at *; omega

theorem nat_field (x : Nat) : x &&& 9218868437227405312 = x / 4503599627370496 % 2048 * 4503599627370496 := by
  have e1 : 9218868437227405312 = (2 ^ 11 - 1) <<< 52 := by decide
  have e2 : x / 4503599627370496 % 2048 * 4503599627370496 = (x >>> 52 % 2 ^ 11) <<< 52 := by
    rw [Nat.shiftLeft_eq, Nat.shiftRight_eq_div_pow]
  rw [e2, e1]
  apply Nat.eq_of_testBit_eq
  intro i
  simp only [Nat.testBit_and, Nat.testBit_shiftLeft, Nat.testBit_two_pow_sub_one, Nat.testBit_mod_two_pow, Nat.testBit_shiftRight]
  by_cases h : 52 ≤ i
  · have : 52 + (i - 52) = i := by omega
    simp only [ge_iff_le, h, decide_true, Bool.true_and, this]
    exact Bool.and_comm _ _
  · simp [h]

theorem and_field {b : Int} (h : U b) : bits .and .u64 b 9218868437227405312 = b / 4503599627370496 % 2048 * 4503599627370496 := by
  obtain ⟨h0, h1⟩ := h
  rw [u64_and b _ h0 h1 (by decide) (by decide)]
  obtain ⟨n, rfl⟩ : ∃ n : Nat, b = n := ⟨b.toNat, by omega⟩
  have : (9218868437227405312 : Int).toNat = 9218868437227405312 := rfl
  rw [this, Int.toNat_natCast, nat_field]
  omega

theorem and_fraction {b : Int} (h : U b) : bits .and .u64 b 4503599627370495 = b % 4503599627370496 := by
  obtain ⟨h0, h1⟩ := h
  rw [u64_and b _ h0 h1 (by decide) (by decide)]
  obtain ⟨n, rfl⟩ : ∃ n : Nat, b = n := ⟨b.toNat, by omega⟩
  have : (4503599627370495 : Int).toNat = 2 ^ 52 - 1 := rfl
  rw [this, Int.toNat_natCast, Nat.and_two_pow_sub_one_eq_mod]
  omega

theorem and_sign {b : Int} (h : U b) : bits .and .u64 b 9223372036854775808 = b / 9223372036854775808 * 9223372036854775808 := by
  obtain ⟨h0, h1⟩ := h
  rw [u64_and b _ h0 h1 (by decide) (by decide)]
  obtain ⟨n, rfl⟩ : ∃ n : Nat, b = n := ⟨b.toNat, by omega⟩
  have : (9223372036854775808 : Int).toNat = 2 ^ 63 := rfl
  rw [this, Int.toNat_natCast, nat_bit]
  omega

theorem or_sign {b : Int} (h : U b) : bits .or .u64 b 9223372036854775808 = if b < 9223372036854775808 then b + 9223372036854775808 else b := by
  obtain ⟨h0, h1⟩ := h
  rw [u64_or b _ h0 h1 (by decide) (by decide)]
  obtain ⟨n, rfl⟩ : ∃ n : Nat, b = n := ⟨b.toNat, by omega⟩
  have e : (9223372036854775808 : Int).toNat = 2 ^ 63 := rfl
  rw [e, Int.toNat_natCast]
  by_cases hs : n < 2 ^ 63
  · rw [Nat.or_comm, nat_join 63 (2 ^ 63) n (by decide) hs, if_pos (by omega)]
    omega
  · have e2 : n = 2 ^ 63 + n % 2 ^ 63 := by omega
    have e3 : n ||| 2 ^ 63 = n := by
      rw [e2, ← nat_join 63 (2 ^ 63) (n % 2 ^ 63) (by decide) (Nat.mod_lt _ (by decide))]
      rw [Nat.or_assoc, Nat.or_comm (n % 2 ^ 63), ← Nat.or_assoc, Nat.or_self]
    rw [e3, if_neg (by omega)]

theorem not_bits {b : Int} (h : U b) : bits .xor .u64 18446744073709551615 b = 18446744073709551615 - b := by
  obtain ⟨h0, h1⟩ := h
  obtain ⟨n, rfl⟩ : ∃ n : Nat, b = n := ⟨b.toNat, by omega⟩
  show IntKind.u64.wrap ((BitVec.ofInt 64 18446744073709551615 ^^^ BitVec.ofInt 64 (n : Int)).toNat : Int) = _
  have h1 : BitVec.ofInt 64 18446744073709551615 = BitVec.allOnes 64 := by decide
  rw [h1, BitVec.allOnes_xor, BitVec.toNat_not, ofInt_u64 n (by omega), IntKind.wrap_u64]
  omega

end Go.Proofs.YtndclldicdfmeaaGreat.Fl
