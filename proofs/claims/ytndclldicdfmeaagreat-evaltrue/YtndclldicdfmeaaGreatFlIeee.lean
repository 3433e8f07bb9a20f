/-
  Plain facts on IEEE 754's operations over 64 bits, with no program in sight: what Add, Sub, Mul, Div answer as numbers
  with the one NaN; that a sum or a product does not hang on the order of two; that a difference is the sum with the other sign.
-/
import Derived.Test.YtndclldicdfmeaaGreatFlMath
import Derived.Laws.NewFold
namespace Go.Proofs.YtndclldicdfmeaaGreat.Fl

/-- A result that may have no answer, with the one NaN. -/
def flo (o : Option Nat) : Int := match o with | some r => (r : Int) | none => 9221120237041090560

/-- What is reckoned of two numbers. -/
def fop (op : BinOp) (a b : Int) : Int := flo (floatBits op .f64 a.toNat b.toNat)

theorem dbl_sign : Ieee.double.signWeight = 9223372036854775808 := rfl
theorem dbl_inf : Ieee.double.infRung = 9218868437227405312 := rfl
theorem dbl_binade : Ieee.double.binade = 4503599627370496 := rfl
theorem dbl_least : Ieee.double.leastPlace = -1074 := rfl

theorem word_num (neg : Bool) {r : Nat} (h : r ≤ 9218868437227405312) : Ieee.double.word neg r % 9223372036854775808 ≤ 9218868437227405312 ∧ Ieee.double.word neg r < 18446744073709551616 := by
  unfold Ieee.Format.word
  rw [dbl_sign]
  split <;> omega

theorem nearest_num (neg : Bool) (m : Nat) (p : Int) : Ieee.double.nearest neg m p % 9223372036854775808 ≤ 9218868437227405312 ∧ Ieee.double.nearest neg m p < 18446744073709551616 := by
  unfold Ieee.Format.nearest
  split
  · exact word_num _ (by omega)
  · exact word_num _ (by rw [dbl_inf]; omega)

theorem write_num (d : Ieee.Datum) (h : d.isNaN = false) : Ieee.double.write d % 9223372036854775808 ≤ 9218868437227405312 ∧ Ieee.double.write d < 18446744073709551616 := by
  cases d with
  | number s m p => exact nearest_num s m p
  | infinity s => exact word_num s (by rw [dbl_inf]; omega)
  | nan s t => cases h

theorem sum_num {d e f : Ieee.Datum} (h : d.sum e = some f) : f.isNaN = false := by
  cases d <;> cases e <;> simp only [Ieee.Datum.sum] at h
  all_goals first | (cases h; done) | (split at h <;> cases h <;> rfl) | (cases h; rfl)

theorem product_num {d e f : Ieee.Datum} (h : d.product e = some f) : f.isNaN = false := by
  cases d <;> cases e <;> simp only [Ieee.Datum.product] at h
  all_goals first | (cases h; done) | (split at h <;> cases h <;> rfl) | (cases h; rfl)

theorem quotient_num {n : Nat} {d e f : Ieee.Datum} (h : d.quotient n e = some f) : f.isNaN = false := by
  cases d <;> cases e <;> simp only [Ieee.Datum.quotient] at h
  all_goals first | (cases h; done) | (cases h; rfl) | skip
  split at h
  · split at h <;> cases h; rfl
  · cases h; rfl

theorem map_num {o : Option Ieee.Datum} {r : Nat} (h : o.map Ieee.double.write = some r) (hn : ∀ f, o = some f → f.isNaN = false) :
    r % 9223372036854775808 ≤ 9218868437227405312 ∧ r < 18446744073709551616 := by
  cases o with
  | none => cases h
  | some d => cases h; exact write_num d (hn d rfl)

theorem bits_num {op : BinOp} {x y r : Nat} (h : floatBits op .f64 x y = some r) : r % 9223372036854775808 ≤ 9218868437227405312 ∧ r < 18446744073709551616 := by
  unfold floatBits at h
  split at h
  · exact map_num h fun _ => sum_num
  · exact map_num h fun _ => sum_num
  · exact map_num h fun _ => product_num
  · exact map_num h fun _ => quotient_num
  · cases h

theorem U_fop (op : BinOp) (a b : Int) : U (fop op a b) := by
  unfold fop flo U
  split
  · rename_i r h
    have := bits_num h
    omega
  · omega

theorem can_fop (op : BinOp) (a b : Int) : can (fop op a b) = fop op a b := by
  unfold fop flo can
  split
  · rename_i r h
    have := bits_num h
    rw [if_neg (by omega)]
  · rfl

theorem nan_word (s q : Nat) (hs : s < 2) (hq : q < 4503599627370495) : 9218868437227405312 < (s * 9223372036854775808 + 9218868437227405312 + 1 + q) % 9223372036854775808 ∧ s * 9223372036854775808 + 9218868437227405312 + 1 + q < 18446744073709551616 := by
  obtain rfl | rfl : s = 0 ∨ s = 1 := by omega
  · omega
  · omega

/-- Where there is an answer, it is the operation's; else the run draws some NaN. -/
theorem run_nan {P : Program} {op : BinOp} (hop : op = .add ∨ op = .sub ∨ op = .mul ∨ op = .quo) (t : TypeId) (x y : Nat) (h : floatBits op .f64 x y = none) :
    ∃ g : World → Nat, ∀ w, (9218868437227405312 < g w % 9223372036854775808 ∧ g w < 18446744073709551616) ∧ (binOp op t (.float .f64 x) (.float .f64 y)).run P w = .ok (.float .f64 (g w)) w.drew := by
  refine ⟨fun w => (Question.nanBits .f64 x y).cut (w.tape w.drawn (.nanBits .f64 x y)), fun w => ⟨?_, ?_⟩⟩
  · exact nan_word _ _ (Nat.mod_lt _ (by decide)) (Nat.mod_lt _ (by decide))
  · unfold floatBits at h
    rcases hop with rfl | rfl | rfl | rfl <;> simp only at h <;> simp [binOp, Op.floatArith, h, Question.forced]

theorem flo_nan (g : Nat) (h : 9218868437227405312 < g % 9223372036854775808) : can (g : Int) = flo none := by
  unfold can flo
  rw [if_pos (by omega)]

/-- Reading 64 bits, with the numbers written out. -/
theorem read_eq (x : Nat) : Ieee.double.read x =
    if x % 9223372036854775808 < 4503599627370496 then .number (x / 9223372036854775808 % 2 == 1) (x % 9223372036854775808) (-1074)
    else if x % 9223372036854775808 < 9218868437227405312 then
      .number (x / 9223372036854775808 % 2 == 1) (4503599627370496 + x % 9223372036854775808 % 4503599627370496) (-1074 + ((x % 9223372036854775808 / 4503599627370496 - 1 : Nat) : Int))
    else if x % 9223372036854775808 = 9218868437227405312 then .infinity (x / 9223372036854775808 % 2 == 1)
    else .nan (x / 9223372036854775808 % 2 == 1) (x % 9223372036854775808 - 9218868437227405312) := rfl

theorem read_nan {x : Nat} (h : 9218868437227405312 < x % 9223372036854775808) :
    Ieee.double.read x = .nan (x / 9223372036854775808 % 2 == 1) (x % 9223372036854775808 - 9218868437227405312) := by
  rw [read_eq, if_neg (by omega), if_neg (by omega), if_neg (by omega)]

theorem read_num {x : Nat} (h : ¬ 9218868437227405312 < x % 9223372036854775808) : (Ieee.double.read x).isNaN = false := by
  rw [read_eq]
  split
  · rfl
  split
  · rfl
  rw [if_pos (by omega)]
  rfl

/-- The floor of a number, with the one NaN. -/
def ffl (b : Int) : Int :=
  if 9218868437227405312 < b.toNat % 9223372036854775808 then 9221120237041090560
  else (Ieee.double.write ((Ieee.double.read b.toNat).integral .down) : Nat)

theorem integral_num {d : Ieee.Datum} (h : d.isNaN = false) (way : Ieee.Toward) : (d.integral way).isNaN = false := by
  cases d with
  | number s m p => rfl
  | infinity s => rfl
  | nan s t => cases h

theorem U_ffl (b : Int) : U (ffl b) := by
  unfold ffl U
  split
  · omega
  · rename_i h
    have := write_num _ (integral_num (read_num h) .down)
    omega

theorem can_ffl (b : Int) : can (ffl b) = ffl b := by
  unfold ffl can
  split
  · rfl
  · rename_i h
    have := write_num _ (integral_num (read_num h) .down)
    rw [if_neg (by omega)]

theorem quiet_pos (t : Nat) (h : t < 4503599627370496) : 0 < Ieee.double.quiet t % 4503599627370496 := by
  have e : Ieee.double.quiet t = t ||| 2 ^ 51 := rfl
  have l : t ||| 2 ^ 51 < 2 ^ 52 := Nat.or_lt_two_pow (by omega) (by decide)
  have g : 2 ^ 51 ≤ t ||| 2 ^ 51 := Nat.right_le_or
  rw [e]
  omega

theorem quiet_nan (s : Bool) (t : Nat) (h : t < 4503599627370496) :
    9218868437227405312 < FloatKind.f64.encode (.nan s (FloatKind.f64.format.quiet t)) % 9223372036854775808 ∧ FloatKind.f64.encode (.nan s (FloatKind.f64.format.quiet t)) < 18446744073709551616 := by
  have q := quiet_pos t h
  show 9218868437227405312 < Ieee.double.word s (9218868437227405312 + Ieee.double.quiet t % 4503599627370496) % 9223372036854775808 ∧ Ieee.double.word s (9218868437227405312 + Ieee.double.quiet t % 4503599627370496) < 18446744073709551616
  have l : Ieee.double.quiet t % 4503599627370496 < 4503599627370496 := Nat.mod_lt _ (by decide)
  unfold Ieee.Format.word
  rw [dbl_sign]
  split <;> omega

theorem floor_step : ∃ q : Question, q.forced = false ∧ ∀ x : Nat, Extern.MathFloor.toIntegral "math.archFloor" .down #[.float .f64 x] =
    (match FloatKind.f64.decode x with
    | .nan s t => if FloatKind.f64.format.quiet t = t then pure (.float .f64 x) else do
        let kept ← choose q
        pure (.float .f64 (if kept == 1 then x else FloatKind.f64.encode (.nan s (FloatKind.f64.format.quiet t))))
    | d => pure (.float .f64 (FloatKind.f64.encode (d.integral .down)))) := by
  refine ⟨_, ?_, fun x => rfl⟩
  rfl

/-- The floor that the machine has: of a number its floor; of a NaN some NaN. -/
theorem run_floor_num {P : Program} {x : Nat} (h : ¬ 9218868437227405312 < x % 9223372036854775808) (w : World) :
    (Extern.MathFloor.toIntegral "math.archFloor" .down #[.float .f64 x]).run P w = .ok (.float .f64 (Ieee.double.write ((Ieee.double.read x).integral .down))) w := by
  have hn := read_num h
  have e : FloatKind.f64.decode x = Ieee.double.read x := rfl
  obtain ⟨q, _, hq⟩ := floor_step
  rw [hq, e]
  cases hd : Ieee.double.read x with
  | number s m p => rfl
  | infinity s => rfl
  | nan s t => rw [hd] at hn; cases hn

theorem run_floor_nan {P : Program} {x : Nat} (hx : x < 18446744073709551616) (h : 9218868437227405312 < x % 9223372036854775808) :
    (∀ w, (Extern.MathFloor.toIntegral "math.archFloor" .down #[.float .f64 x]).run P w = .ok (.float .f64 x) w) ∨
    ∃ g : World → Nat, ∀ w, (9218868437227405312 < g w % 9223372036854775808 ∧ g w < 18446744073709551616) ∧
      (Extern.MathFloor.toIntegral "math.archFloor" .down #[.float .f64 x]).run P w = .ok (.float .f64 (g w)) w.drew := by
  have e : FloatKind.f64.decode x = .nan (x / 9223372036854775808 % 2 == 1) (x % 9223372036854775808 - 9218868437227405312) := read_nan h
  obtain ⟨c, hc, hs⟩ := floor_step
  by_cases hq : FloatKind.f64.format.quiet (x % 9223372036854775808 - 9218868437227405312) = x % 9223372036854775808 - 9218868437227405312
  · refine .inl fun w => ?_
    rw [hs, e]
    simp only [hq, if_true]
    rfl
  · refine .inr ⟨fun w => if (c.cut (w.tape w.drawn c) == 1) = true then x
        else FloatKind.f64.encode (.nan (x / 9223372036854775808 % 2 == 1) (FloatKind.f64.format.quiet (x % 9223372036854775808 - 9218868437227405312))), fun w => ⟨?_, ?_⟩⟩
    · dsimp only
      split
      · exact ⟨h, hx⟩
      · exact quiet_nan _ _ (by omega)
    · rw [hs, e]
      simp [hq, hc]

end Go.Proofs.YtndclldicdfmeaaGreat.Fl
