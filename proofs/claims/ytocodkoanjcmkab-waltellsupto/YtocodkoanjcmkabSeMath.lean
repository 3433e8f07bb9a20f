/-
  The sum as plain mathematics: a register that is shifted, what it makes of octets, and that up to 32 bits in a row that are turned are told. No program in sight.
-/
namespace Go.Proofs.Ytocodkoanjcmkab.Se

/-- One bit falls out. -/
def sh (c : Nat) : Nat := c / 2 ^^^ (if c % 2 = 1 then 3945912366 else 0)
def shn : Nat → Nat → Nat
  | 0, c => c
  | n + 1, c => shn n (sh c)

theorem shn_add (m n c : Nat) : shn (m + n) c = shn n (shn m c) := by
  induction m generalizing c with
  | zero => simp [shn]
  | succ m ih => rw [Nat.succ_add]; exact ih _

theorem xor_half (a b : Nat) : (a ^^^ b) / 2 = a / 2 ^^^ b / 2 := by
  have := Nat.shiftRight_xor_distrib (a := a) (b := b) (i := 1)
  simpa [Nat.shiftRight_eq_div_pow] using this
theorem xor_odd (a b : Nat) : (a ^^^ b) % 2 = (a % 2 + b % 2) % 2 := by
  have h := Nat.xor_mod_two_eq_one (a := a) (b := b)
  rcases Nat.mod_two_eq_zero_or_one (a ^^^ b) with h0 | h0 <;> rcases Nat.mod_two_eq_zero_or_one a with h1 | h1 <;> rcases Nat.mod_two_eq_zero_or_one b with h2 | h2 <;> simp_all

theorem sh_xor (a b : Nat) : sh (a ^^^ b) = sh a ^^^ sh b := by
  unfold sh
  rw [xor_half, xor_odd]
  rcases Nat.mod_two_eq_zero_or_one a with h1 | h1 <;> rcases Nat.mod_two_eq_zero_or_one b with h2 | h2
  · simp [h1, h2]
  · simp [h1, h2, Nat.xor_assoc]
  · simp only [h1, h2, if_true, if_false, Nat.xor_zero, Nat.zero_ne_one, Nat.add_zero, Nat.mod_succ]
    rw [Nat.xor_assoc, Nat.xor_assoc, Nat.xor_comm (b / 2)]
  · simp only [h1, h2, if_true, show (1 + 1) % 2 = 0 by decide, Nat.zero_ne_one, if_false, Nat.xor_zero]
    rw [Nat.xor_assoc, Nat.xor_comm 3945912366 (b / 2 ^^^ 3945912366), Nat.xor_assoc, Nat.xor_self, Nat.xor_zero]
theorem shn_xor (n a b : Nat) : shn n (a ^^^ b) = shn n a ^^^ shn n b := by
  induction n generalizing a b with
  | zero => rfl
  | succ n ih => simp only [shn]; rw [sh_xor, ih]

theorem sh_double (y : Nat) : sh (2 * y) = y := by
  unfold sh
  rw [if_neg (by omega), Nat.xor_zero]
  omega
theorem shn_pow (n y : Nat) : shn n (2 ^ n * y) = y := by
  induction n generalizing y with
  | zero => simp [shn]
  | succ n ih =>
    simp only [shn]
    rw [Nat.pow_succ, show 2 ^ n * 2 * y = 2 * (2 ^ n * y) by rw [Nat.mul_comm (2 ^ n) 2, Nat.mul_assoc], sh_double, ih]

theorem sh_lt {c : Nat} (h : c < 4294967296) : sh c < 4294967296 := by
  unfold sh
  refine Nat.xor_lt_two_pow (n := 32) (by omega) ?_
  split <;> decide
theorem sh_pos {c : Nat} (h : c < 4294967296) (h0 : c ≠ 0) : sh c ≠ 0 := by
  unfold sh
  split
  · intro e
    have e2 : c / 2 ^^^ 3945912366 ^^^ 3945912366 = 0 ^^^ 3945912366 := by rw [e]
    rw [Nat.xor_assoc, Nat.xor_self, Nat.xor_zero, Nat.zero_xor] at e2
    omega
  · rw [Nat.xor_zero]
    omega
theorem shn_lt {n c : Nat} (h : c < 4294967296) : shn n c < 4294967296 := by
  induction n generalizing c with
  | zero => exact h
  | succ n ih => exact ih (sh_lt h)
theorem shn_ne {n c : Nat} (h : c < 4294967296) (h0 : c ≠ 0) : shn n c ≠ 0 := by
  induction n generalizing c with
  | zero => exact h0
  | succ n ih => exact ih (sh_lt h) (sh_pos h h0)

/-- What two bits leave behind. -/
def tab (k : Nat) : Nat := if k = 0 then 0 else if k = 1 then 1972956183 else if k = 2 then 3945912366 else 2661889081
theorem tab_lt (k : Nat) : tab k < 4294967296 := by
  unfold tab
  split
  · decide
  · split
    · decide
    · split <;> decide
theorem sh_two (c : Nat) : sh (sh c) = c / 4 ^^^ tab (c % 4) := by
  have e : c % 4 = 0 ∨ c % 4 = 1 ∨ c % 4 = 2 ∨ c % 4 = 3 := by omega
  have o : ∀ x : Nat, (x ^^^ 3945912366) % 2 = x % 2 := fun x => by rw [xor_odd]; omega
  have d : ∀ x : Nat, (x ^^^ 3945912366) / 2 = x / 2 ^^^ 1972956183 := fun x => by rw [xor_half]
  have q : c / 2 / 2 = c / 4 := by omega
  unfold sh
  rcases e with e | e | e | e
  · rw [if_neg (show ¬ c % 2 = 1 by omega), Nat.xor_zero, if_neg (by omega), q, e]; rfl
  · rw [if_pos (show c % 2 = 1 by omega), o, d, if_neg (by omega), q, e, Nat.xor_zero]; rfl
  · rw [if_neg (show ¬ c % 2 = 1 by omega), Nat.xor_zero, if_pos (by omega), q, e]; rfl
  · rw [if_pos (show c % 2 = 1 by omega), o, d, if_pos (by omega), q, e, Nat.xor_assoc]; rfl

/-- An octet is taken in. -/
def fo (c : Nat) (o : UInt8) : Nat := shn 8 (c ^^^ o.toNat)
def reg (c : Nat) (l : List UInt8) : Nat := l.foldl fo c
theorem u8_lt (o : UInt8) : o.toNat < 256 := o.toNat_lt
theorem fo_lt {c : Nat} {o : UInt8} (h : c < 4294967296) : fo c o < 4294967296 :=
  shn_lt (Nat.xor_lt_two_pow (n := 32) h (by have := u8_lt o; omega))
theorem reg_lt {l : List UInt8} : ∀ {c : Nat}, c < 4294967296 → reg c l < 4294967296 := by
  induction l with
  | nil => exact fun h => h
  | cons o l ih => exact fun h => ih (c := fo _ o) (fo_lt h)
theorem reg_append (c : Nat) (l m : List UInt8) : reg c (l ++ m) = reg (reg c l) m := List.foldl_append

/-- Octets as one number, the lowest first. -/
def val : List UInt8 → Nat
  | [] => 0
  | o :: l => o.toNat + 256 * val l

theorem add_xor (o : UInt8) (y : Nat) : o.toNat + 256 * y = o.toNat ^^^ 2 ^ 8 * y := by
  have h := u8_lt o
  have h2 : 2 ^ 8 * y + o.toNat = 2 ^ 8 * y ^^^ o.toNat := by
    apply Nat.eq_of_testBit_eq
    intro i
    rw [Nat.testBit_two_pow_mul_add _ (show o.toNat < 2 ^ 8 from h), Nat.testBit_xor, Nat.testBit_two_pow_mul]
    by_cases hi : i < 8
    · simp [hi, Nat.not_le.2 hi]
    · have : o.toNat.testBit i = false := Nat.testBit_lt_two_pow (Nat.lt_of_lt_of_le (show o.toNat < 2 ^ 8 from h) (Nat.pow_le_pow_right (by decide) (by omega)))
      simp [hi, this, Nat.le_of_not_lt hi]
  rw [Nat.xor_comm, ← h2]
  omega

theorem reg_val (l : List UInt8) : ∀ c : Nat, reg c l = shn (8 * l.length) (c ^^^ val l) := by
  induction l with
  | nil => intro c; simp [reg, val, shn]
  | cons o l ih =>
    intro c
    show reg (fo c o) l = _
    rw [ih, List.length_cons, show 8 * (l.length + 1) = 8 + 8 * l.length by omega, shn_add, val, add_xor, ← Nat.xor_assoc, shn_xor 8, shn_pow]
    rfl

theorem val_append (l m : List UInt8) : val (l ++ m) = val l + 2 ^ (8 * l.length) * val m := by
  induction l with
  | nil => simp [val]
  | cons o l ih =>
    show o.toNat + 256 * val (l ++ m) = o.toNat + 256 * val l + _
    rw [ih, List.length_cons, show 8 * (l.length + 1) = 8 * l.length + 8 by omega, Nat.pow_add, Nat.mul_add, Nat.add_assoc]
    congr 2
    rw [← Nat.mul_assoc, Nat.mul_comm 256 (2 ^ (8 * l.length))]
theorem val_lt (l : List UInt8) : val l < 2 ^ (8 * l.length) := by
  induction l with
  | nil => simp [val]
  | cons o l ih =>
    show o.toNat + 256 * val l < _
    have := u8_lt o
    rw [List.length_cons, show 8 * (l.length + 1) = 8 * l.length + 8 by omega, Nat.pow_add]
    omega

/-- A bit of an octet is turned. -/
theorem val_set (l : List UInt8) (j b : Nat) (o o' : UInt8) (hj : l[j]? = some o) (ho : o'.toNat = o.toNat ^^^ 2 ^ b) : val (l.set j o') = val l ^^^ 2 ^ (8 * j + b) := by
  induction l generalizing j with
  | nil => simp at hj
  | cons q l ih =>
    cases j with
    | zero =>
      simp only [List.getElem?_cons_zero, Option.some.injEq] at hj
      subst hj
      simp only [List.set_cons_zero, val]
      rw [add_xor, add_xor, ho, Nat.mul_zero, Nat.zero_add, Nat.xor_assoc, Nat.xor_comm (2 ^ b), ← Nat.xor_assoc]
    | succ j =>
      simp only [List.getElem?_cons_succ] at hj
      simp only [List.set_cons_succ, val]
      rw [ih j hj, add_xor, add_xor, Nat.xor_assoc]
      congr 1
      rw [show 8 * (j + 1) + b = 8 + (8 * j + b) by omega, Nat.pow_add 2 8]
      have := Nat.shiftLeft_xor_distrib (a := val l) (b := 2 ^ (8 * j + b)) (i := 8)
      simpa [Nat.shiftLeft_eq, Nat.mul_comm] using this

/-- The sum. -/
def sum (l : List UInt8) : Nat := 4294967295 - reg 4294967295 l
theorem ones_xor {x : Nat} (h : x < 4294967296) : 4294967295 - x = x ^^^ 4294967295 := by
  rw [Nat.xor_comm]
  apply Nat.eq_of_testBit_eq
  intro i
  have e := Nat.testBit_two_pow_sub_succ (show x < 2 ^ 32 from h) i
  rw [Nat.testBit_xor, show (4294967295 : Nat) = 2 ^ 32 - 1 by decide, Nat.testBit_two_pow_sub_one]
  rw [show 2 ^ 32 - 1 - x = 2 ^ 32 - (x + 1) by omega, e]
  by_cases hi : i < 32
  · simp [hi]
  · have : x.testBit i = false := Nat.testBit_lt_two_pow (Nat.lt_of_lt_of_le (show x < 2 ^ 32 from h) (Nat.pow_le_pow_right (by decide) (by omega)))
    simp [hi, this]
theorem sum_lt (l : List UInt8) : sum l < 4294967296 := by unfold sum; omega

/-- A sum's octets, the lowest first. -/
def le4 (s : Nat) : List UInt8 := [UInt8.ofNat s, UInt8.ofNat (s / 256), UInt8.ofNat (s / 65536), UInt8.ofNat (s / 16777216)]
theorem le4_length (s : Nat) : (le4 s).length = 4 := rfl
theorem le4_val {s : Nat} (h : s < 4294967296) : val (le4 s) = s := by
  simp only [le4, val, UInt8.toNat_ofNat']
  omega
theorem le4_of_val {l : List UInt8} (h : l.length = 4) {s : Nat} (hs : s < 4294967296) (hv : val l = s) : l = le4 s := by
  match l, h with
  | [a, b, c, d], _ =>
    have ha := u8_lt a
    have hb := u8_lt b
    have hc := u8_lt c
    have hd := u8_lt d
    simp only [val] at hv
    simp only [le4, List.cons.injEq, and_true]
    refine ⟨?_, ?_, ?_, ?_⟩ <;> apply UInt8.toNat_inj.1 <;> rw [UInt8.toNat_ofNat'] <;> omega

/-- A frame that is whole leaves the same behind, whatever it holds. -/
theorem whole (l s : List UInt8) (hs : s.length = 4) (h : val s = sum l) : reg 4294967295 (l ++ s) = shn 32 4294967295 := by
  have hr : reg 4294967295 l < 4294967296 := reg_lt (by decide)
  rw [reg_append, reg_val s, hs, h, sum, ones_xor hr, ← Nat.xor_assoc, Nat.xor_self, Nat.zero_xor]

/-- Up to 32 bits in a row that are turned are told. -/
theorem told (l s l' s' : List UInt8) (hl : l'.length = l.length) (hs : s.length = 4) (hs' : s'.length = 4) (h : val s = sum l) (at' turn : Nat) (ht : turn < 4294967296) (ht0 : turn ≠ 0)
    (hat : at' + 32 ≤ 8 * (l.length + 4)) (hv : val (l' ++ s') = val (l ++ s) ^^^ turn * 2 ^ at') : val s' ≠ sum l' := by
  intro h'
  have e1 := whole l s hs h
  have e2 := whole l' s' hs' h'
  rw [reg_val] at e1 e2
  rw [List.length_append, hl, hs', hv, ← Nat.xor_assoc, shn_xor] at e2
  rw [List.length_append, hs] at e1
  rw [e1] at e2
  have e3 : shn (8 * (l.length + 4)) (turn * 2 ^ at') = 0 := by
    have e4 : shn 32 4294967295 ^^^ (shn 32 4294967295 ^^^ shn (8 * (l.length + 4)) (turn * 2 ^ at')) = shn 32 4294967295 ^^^ shn 32 4294967295 := by rw [e2]
    rwa [← Nat.xor_assoc, Nat.xor_self, Nat.zero_xor] at e4
  rw [show 8 * (l.length + 4) = at' + (8 * (l.length + 4) - at') by omega, shn_add, Nat.mul_comm turn, shn_pow] at e3
  exact shn_ne ht ht0 e3
end Go.Proofs.Ytocodkoanjcmkab.Se
