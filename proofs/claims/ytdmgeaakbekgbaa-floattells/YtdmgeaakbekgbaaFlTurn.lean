/-
  Plain facts on IEEE 754's operations, with no program in sight: sums and products do not hang on the order of two;
  a difference is the sum with the other sign.
-/
import Derived.Test.YtdmgeaakbekgbaaFlIeee
namespace Go.Proofs.Ytdmgeaakbekgbaa.Fl

theorem sum_comm (d e : Ieee.Datum) : d.sum e = e.sum d := by
  cases d with
  | nan s t => cases e <;> rfl
  | infinity s =>
    cases e with
    | nan _ _ => rfl
    | number _ _ _ => rfl
    | infinity t =>
      simp only [Ieee.Datum.sum]
      by_cases h : s = t
      · rw [if_pos h, if_pos h.symm, h]
      · rw [if_neg h, if_neg (fun x => h x.symm)]
  | number s m i =>
    cases e with
    | nan _ _ => rfl
    | infinity _ => rfl
    | number t n j =>
      simp only [Ieee.Datum.sum]
      rw [Int.min_comm i j, Int.add_comm (Ieee.signed s m _), Bool.and_comm s t]

theorem product_comm (d e : Ieee.Datum) : d.product e = e.product d := by
  cases d with
  | nan s t => cases e <;> rfl
  | infinity s =>
    cases e with
    | nan _ _ => rfl
    | number _ _ _ => rfl
    | infinity t => simp only [Ieee.Datum.product]; rw [Bool.xor_comm]
  | number s m i =>
    cases e with
    | nan _ _ => rfl
    | infinity _ => rfl
    | number t n j => simp only [Ieee.Datum.product]; rw [Bool.xor_comm, Nat.mul_comm, Int.add_comm]

theorem add_comm (a b : Int) : fop .add a b = fop .add b a := by
  unfold fop
  show flo (Ieee.double.add _ _) = flo (Ieee.double.add _ _)
  unfold Ieee.Format.add
  rw [sum_comm]

theorem mul_comm (a b : Int) : fop .mul a b = fop .mul b a := by
  unfold fop
  show flo (Ieee.double.mul _ _) = flo (Ieee.double.mul _ _)
  unfold Ieee.Format.mul
  rw [product_comm]

/-- The other sign. -/
def opp (b : Int) : Int := if b < 9223372036854775808 then b + 9223372036854775808 else b - 9223372036854775808

theorem xor_sign {b : Int} (h : U b) : bits .xor .u64 b 9223372036854775808 = opp b := by
  obtain ⟨h0, h1⟩ := h
  rw [u64_xor b _ h0 h1 (by decide) (by decide)]
  obtain ⟨n, rfl⟩ : ∃ n : Nat, b = n := ⟨b.toNat, by omega⟩
  have e : (9223372036854775808 : Int).toNat = 2 ^ 63 := rfl
  rw [e, Int.toNat_natCast]
  unfold opp
  by_cases hs : n < 2 ^ 63
  · have hx : n ^^^ 2 ^ 63 = 2 ^ 63 + n := by
      rw [Nat.xor_comm, ← nat_join 63 (2 ^ 63) n (by decide) hs]
      apply Nat.eq_of_testBit_eq
      intro i
      simp only [Nat.testBit_xor, Nat.testBit_or, Nat.testBit_two_pow]
      by_cases hi : 63 = i
      · subst hi
        have := Nat.testBit_lt_two_pow hs
        simp [this]
      · simp [hi]
    rw [hx, if_pos (by omega)]
    omega
  · have e2 : n = 2 ^ 63 ||| n % 2 ^ 63 := by
      rw [nat_join 63 (2 ^ 63) (n % 2 ^ 63) (by decide) (Nat.mod_lt _ (by decide))]
      omega
    have hx : n ^^^ 2 ^ 63 = n % 2 ^ 63 := by
      apply Nat.eq_of_testBit_eq
      intro i
      have hb : n.testBit i = (2 ^ 63 ||| n % 2 ^ 63).testBit i := by rw [← e2]
      rw [Nat.testBit_xor, hb]
      simp only [Nat.testBit_or, Nat.testBit_two_pow]
      by_cases hi : 63 = i
      · subst hi
        have := Nat.testBit_lt_two_pow (Nat.mod_lt n (show 0 < 2 ^ 63 by decide))
        rw [this]
        decide
      · simp [hi]
    rw [hx, if_neg (by omega)]
    omega

theorem U_opp {b : Int} (h : U b) : U (opp b) := by unfold U opp at *; omega

theorem read_opp {b : Int} (h : U b) : Ieee.double.read (opp b).toNat = (Ieee.double.read b.toNat).opposite := by
  obtain ⟨h0, h1⟩ := h
  have hr : (opp b).toNat % 9223372036854775808 = b.toNat % 9223372036854775808 := by unfold opp; omega
  have hs : ((opp b).toNat / 9223372036854775808 % 2 == 1) = !(b.toNat / 9223372036854775808 % 2 == 1) := by
    unfold opp
    by_cases hb : b < 9223372036854775808
    · have e1 : (b + 9223372036854775808).toNat / 9223372036854775808 % 2 = 1 := by omega
      have e2 : b.toNat / 9223372036854775808 % 2 = 0 := by omega
      rw [if_pos hb, e1, e2]; rfl
    · have e1 : (b - 9223372036854775808).toNat / 9223372036854775808 % 2 = 0 := by omega
      have e2 : b.toNat / 9223372036854775808 % 2 = 1 := by omega
      rw [if_neg hb, e1, e2]; rfl
  rw [read_eq, read_eq, hr, hs]
  split
  · rfl
  split
  · rfl
  split <;> rfl

theorem sub_opp (a : Int) {b : Int} (h : U b) : fop .sub a b = fop .add a (opp b) := by
  unfold fop
  show flo (Ieee.double.sub _ _) = flo (Ieee.double.add _ _)
  unfold Ieee.Format.sub Ieee.Format.add
  rw [read_opp h]

end Go.Proofs.Ytdmgeaakbekgbaa.Fl
