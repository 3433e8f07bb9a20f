/-
  Plain facts on the 64 bits of a float64, with no program in sight: its class, the one NaN, its place in the order,
  and what the masks and shifts of the text make of the bits. No conditions but that a number has 64 bits.
-/
import Derived.Laws.FloatArith
import Derived.Laws.BitsAllLaws
import Derived.OpenShut
import Derived.Test.YtfdbhojghkdlkaaRows
import Derived.WalkKit
import Derived.ProofKit
import Derived.WalkLawsBesides
import Derived.BigQuiet
import Derived.Deep.QuietTactic
import Derived.Test.YtfdbhojghkdlkaaVaSame
namespace Go.Proofs.Ytfdbhojghkdlkaa.Fl

/-- Of 64 bits. -/
def U (b : Int) : Prop := 0 ≤ b ∧ b < 18446744073709551616

theorem U_of_wf {b : Int} (h : (Lit.int .u64 b).wf = true) : U b := by
  have := bounds_u64 h
  unfold U
  omega

theorem U_wrap (x : Int) : U (IntKind.u64.wrap x) := by
  rw [IntKind.wrap_u64]
  unfold U
  omega

/-- The class of a number. -/
def cls (b : Int) : Int :=
  if 9218868437227405312 < b % 9223372036854775808 then 5
  else if b % 9223372036854775808 = 9218868437227405312 then 4
  else if 4503599627370496 ≤ b % 9223372036854775808 then 3
  else if b % 9223372036854775808 ≠ 0 then 2
  else if b = 9223372036854775808 then 1 else 0

/-- The number, or the one NaN. -/
def can (b : Int) : Int := if 9218868437227405312 < b % 9223372036854775808 then 9221120237041090560 else b

/-- Its place in the order. -/
def ord (b : Int) : Int :=
  if 9218868437227405312 < b % 9223372036854775808 then 18446744073709551615
  else if 9223372036854775808 ≤ b then 18446744073709551615 - b else b + 9223372036854775808

theorem U_can {b : Int} (h : U b) : U (can b) := by unfold U can at *; omega
theorem U_ord {b : Int} (h : U b) : U (ord b) := by unfold U ord at *; omega
theorem cls_bd (b : Int) : 0 ≤ cls b ∧ cls b ≤ 5 := by unfold cls; omega
theorem cls_nan (b : Int) : cls b = 5 ↔ 9218868437227405312 < b % 9223372036854775808 := by unfold cls; omega
theorem can_can (b : Int) : can (can b) = can b := by unfold can; omega
theorem cls_can (b : Int) (h : cls (can b) = 5) : can b = 9221120237041090560 := by unfold cls can at *; omega

theorem nat_field (x : Nat) : x &&& 9218868437227405312 = x / 4503599627370496 % 2048 * 4503599627370496 := by
  have e1 : 9218868437227405312 = (2 ^ 11 - 1) <<< 52 := by decide
  have e2 : x / 4503599627370496 % 2048 * 4503599627370496 = (x >>> 52 % 2 ^ 11) <<< 52 := by
    rw [Nat.shiftLeft_eq, Nat.shiftRight_eq_div_pow]
  rw [e2, e1]
  apply Nat.eq_of_testBit_eq
  intro i
  simp only [Nat.testBit_and, Nat.testBit_shiftLeft, Nat.testBit_two_pow_sub_one, Nat.testBit_mod_two_pow, Nat.testBit_shiftRight]
  by_cases h : 52 ≤ i
  · have : 52 + (i - 52) = i := by omega
    simp only [ge_iff_le, h, decide_true, Bool.true_and, this]
    exact Bool.and_comm _ _
  · simp [h]

theorem and_field {b : Int} (h : U b) : bits .and .u64 b 9218868437227405312 = b / 4503599627370496 % 2048 * 4503599627370496 := by
  obtain ⟨h0, h1⟩ := h
  rw [u64_and b _ h0 h1 (by decide) (by decide)]
  obtain ⟨n, rfl⟩ : ∃ n : Nat, b = n := ⟨b.toNat, by omega⟩
  have : (9218868437227405312 : Int).toNat = 9218868437227405312 := rfl
  rw [this, Int.toNat_natCast, nat_field]
  omega

theorem and_fraction {b : Int} (h : U b) : bits .and .u64 b 4503599627370495 = b % 4503599627370496 := by
  obtain ⟨h0, h1⟩ := h
  rw [u64_and b _ h0 h1 (by decide) (by decide)]
  obtain ⟨n, rfl⟩ : ∃ n : Nat, b = n := ⟨b.toNat, by omega⟩
  have : (4503599627370495 : Int).toNat = 2 ^ 52 - 1 := rfl
  rw [this, Int.toNat_natCast, Nat.and_two_pow_sub_one_eq_mod]
  omega

theorem and_sign {b : Int} (h : U b) : bits .and .u64 b 9223372036854775808 = b / 9223372036854775808 * 9223372036854775808 := by
  obtain ⟨h0, h1⟩ := h
  rw [u64_and b _ h0 h1 (by decide) (by decide)]
  obtain ⟨n, rfl⟩ : ∃ n : Nat, b = n := ⟨b.toNat, by omega⟩
  have : (9223372036854775808 : Int).toNat = 2 ^ 63 := rfl
  rw [this, Int.toNat_natCast, nat_bit]
  omega

theorem or_sign {b : Int} (h : U b) : bits .or .u64 b 9223372036854775808 = if b < 9223372036854775808 then b + 9223372036854775808 else b := by
  obtain ⟨h0, h1⟩ := h
  rw [u64_or b _ h0 h1 (by decide) (by decide)]
  obtain ⟨n, rfl⟩ : ∃ n : Nat, b = n := ⟨b.toNat, by omega⟩
  have e : (9223372036854775808 : Int).toNat = 2 ^ 63 := rfl
  rw [e, Int.toNat_natCast]
  by_cases hs : n < 2 ^ 63
  · rw [Nat.or_comm, nat_join 63 (2 ^ 63) n (by decide) hs, if_pos (by omega)]
    omega
  · have e2 : n = 2 ^ 63 + n % 2 ^ 63 := by omega
    have e3 : n ||| 2 ^ 63 = n := by
      rw [e2, ← nat_join 63 (2 ^ 63) (n % 2 ^ 63) (by decide) (Nat.mod_lt _ (by decide))]
      rw [Nat.or_assoc, Nat.or_comm (n % 2 ^ 63), ← Nat.or_assoc, Nat.or_self]
    rw [e3, if_neg (by omega)]

theorem not_bits {b : Int} (h : U b) : bits .xor .u64 18446744073709551615 b = 18446744073709551615 - b := by
  obtain ⟨h0, h1⟩ := h
  obtain ⟨n, rfl⟩ : ∃ n : Nat, b = n := ⟨b.toNat, by omega⟩
  show IntKind.u64.wrap ((BitVec.ofInt 64 18446744073709551615 ^^^ BitVec.ofInt 64 (n : Int)).toNat : Int) = _
  have h1 : BitVec.ofInt 64 18446744073709551615 = BitVec.allOnes 64 := by decide
  rw [h1, BitVec.allOnes_xor, BitVec.toNat_not, ofInt_u64 n (by omega), IntKind.wrap_u64]
  omega

end Go.Proofs.Ytfdbhojghkdlkaa.Fl

/-
  What the functions of package float that only look at bits answer: Class, Canon, Order, for every 64 bits.
-/
namespace Go.Proofs.Ytfdbhojghkdlkaa
open Go.ChangeShapes Go.WideShapes Go.ChangeAt Go.RowKit
open Fl

theorem ret_int {k : IntKind} {a b : Int} (h : a = b) : Ending.returned (.int k a) = .returned (.int k b) := by rw [h]

theorem class_any (b : Int) (w : World) (h : U b) :
    Calls Try.prog 81 #[.int .u64 b] w fun e w' => e = .returned (.int .i64 (cls b)) ∧ w' = w := by
  have e1 := and_field h
  have e2 := and_fraction h
  have H1 : Hid (bits .and .u64 b 9218868437227405312 = b / 4503599627370496 % 2048 * 4503599627370496) := e1
  have H2 : Hid (bits .and .u64 b 4503599627370495 = b % 4503599627370496) := e2
  have HU : Hid (U b) := h
  clear e1 e2 h
  go_enter Try.func81, Try.ntmps81
  go_wp2
  all_goals go_ret
  all_goals
    refine ⟨ret_int ?_, rfl⟩
    have e1 := H1.out
    have e2 := H2.out
    obtain ⟨h0, h1⟩ := HU.out
    simp_all only [beq_iff_eq, bne_iff_ne, ne_eq, beq_eq_false_iff_ne, bne_eq_false_iff_eq]
    unfold cls
    omega

theorem canon_any (b : Int) (w : World) (h : U b) :
    Calls Try.prog 76 #[.int .u64 b] w fun e w' => e = .returned (.int .u64 (can b)) ∧ w' = w := by
  have HU : Hid (U b) := h
  clear h
  have HN : Hid (cls b = 5 ↔ 9218868437227405312 < b % 9223372036854775808) := cls_nan b
  by_cases h5 : cls b = 5
  · go_enter Try.func76, Try.ntmps76
    go_wp2_with (go_at_call 81; refine (class_any _ _ HU.out).mono ?_; rintro e w' ⟨rfl, rfl⟩)
    go_ret
    exact ⟨ret_int (by unfold can; rw [if_pos (HN.out.1 h5)]), rfl⟩
  · go_enter Try.func76, Try.ntmps76
    go_wp2_with (go_at_call 81; refine (class_any _ _ HU.out).mono ?_; rintro e w' ⟨rfl, rfl⟩)
    go_ret
    exact ⟨ret_int (by unfold can; rw [if_neg (fun x => h5 (HN.out.2 x))]), rfl⟩

end Go.Proofs.Ytfdbhojghkdlkaa

/-
  May a part be, but for its items? What the program's and the page's functions answer.
-/
namespace Go.Proofs.Ytfdbhojghkdlkaa
open Go.ChangeShapes Go.WideShapes Go.ChangeAt Go.RowKit
open Fl

/-- May a text be a key? -/
def keyB (s : ByteArray) : Bool := decide (1 ≤ s.size) && decide (s.size ≤ 16)

/-- Is a key one that may be, and behind the one ahead of it? -/
def goodAt (ks : List ByteArray) (i : Nat) : Bool := keyB (ks.getD i ⟨#[]⟩) && (i == 0 || Op.bytesLess (ks.getD (i - 1) ⟨#[]⟩).toList (ks.getD i ⟨#[]⟩).toList)

/-- May keys be, and do they rise? -/
def keysB (ks : List ByteArray) : Bool := (List.range ks.length).all (goodAt ks)

/-- May a part be, but for its items? -/
def mayB (k b : Int) (t : ByteArray) (ks : List ByteArray) (il : Nat) : Bool :=
  if k = 0 then b == 0 && (t.toList.isEmpty && ((ks.length : Int) == 0 && (il : Int) == 0))
  else if k = 1 then decide (b ≤ 1) && (t.toList.isEmpty && ((ks.length : Int) == 0 && (il : Int) == 0))
  else if k = 2 then can b == b && (t.toList.isEmpty && ((ks.length : Int) == 0 && (il : Int) == 0))
  else if k = 3 then b == 0 && (decide ((t.size : Int) ≤ 128) && ((ks.length : Int) == 0 && (il : Int) == 0))
  else if k = 4 then b == 0 && (t.toList.isEmpty && ((ks.length : Int) == 0 && decide ((il : Int) ≤ 32)))
  else if k = 5 then b == 0 && (t.toList.isEmpty && (decide ((il : Int) ≤ 32) && ((ks.length : Int) == il && keysB ks)))
  else false

theorem key_any (s : ByteArray) (w : World) (h : s.size ≤ 140737488351232) :
    Calls Try.prog 82 #[.string s] w fun e w' => e = .returned (.bool (keyB s)) ∧ w' = w := by
  by_cases h1 : 1 ≤ s.size
  · have HB : Hid (keyB s = decide (s.size ≤ 16)) := by simp [Hid, keyB, h1]
    have h2 : (1 : Int) ≤ (s.size : Int) := by omega
    go_enter Try.func82, Try.ntmps82
    go_wp2_with fail
    go_ret
    exact ⟨ret_bool (by rw [HB.out]; simp; omega), rfl⟩
  · have HB : Hid (keyB s = false) := by simp [Hid, keyB, h1]
    have h2 : ¬ (1 : Int) ≤ (s.size : Int) := by omega
    go_enter Try.func82, Try.ntmps82
    go_wp2_with fail
    go_ret
    exact ⟨ret_bool HB.out.symm, rfl⟩


theorem rkey_any (s : ByteArray) (w : World) (h : s.size ≤ 140737488351232) :
    Calls Try.prog 70 #[.string s] w fun e w' => e = .returned (.bool (keyB s)) ∧ w' = w := by
  by_cases h1 : 1 ≤ s.size
  · have HB : Hid (keyB s = decide (s.size ≤ 16)) := by simp [Hid, keyB, h1]
    have h2 : (1 : Int) ≤ (s.size : Int) := by omega
    go_enter Try.func70, Try.ntmps70
    go_wp2_with fail
    go_ret
    exact ⟨ret_bool (by rw [HB.out]; simp; omega), rfl⟩
  · have HB : Hid (keyB s = false) := by simp [Hid, keyB, h1]
    have h2 : ¬ (1 : Int) ≤ (s.size : Int) := by omega
    go_enter Try.func70, Try.ntmps70
    go_wp2_with fail
    go_ret
    exact ⟨ret_bool HB.out.symm, rfl⟩

theorem getD_at {ks : List ByteArray} {i : Nat} (h : i < ks.length) : ks.getD i ⟨#[]⟩ = ks[i] := by simp [List.getD, h]

theorem goodAt_zero {ks : List ByteArray} (h : 0 < ks.length) : goodAt ks 0 = keyB ks[0] := by simp [goodAt, h]

theorem goodAt_succ {ks : List ByteArray} {i : Nat} (h : i < ks.length) (h0 : 0 < i) : goodAt ks i = (keyB ks[i] && Op.bytesLess (ks[i - 1]'(by omega)).toList ks[i].toList) := by
  have e : (i == 0) = false := by simp; omega
  have h1 : i - 1 < ks.length := by omega
  simp [goodAt, h, h1, e]

theorem keysB_true {ks : List ByteArray} (h : ∀ j, j < ks.length → goodAt ks j = true) : keysB ks = true := by
  unfold keysB
  rw [List.all_eq_true]
  intro j hj
  exact h j (List.mem_range.1 hj)

theorem keysB_false {ks : List ByteArray} {j : Nat} (hj : j < ks.length) (h : goodAt ks j = false) : keysB ks = false := by
  unfold keysB
  rw [List.all_eq_false]
  exact ⟨j, List.mem_range.2 hj, by rw [h]; simp⟩

theorem good_next {ks : List ByteArray} {m : Nat} (h : ∀ j, j < m → goodAt ks j = true) (hm : goodAt ks m = true) : ∀ j, j < m + 1 → goodAt ks j = true := by
  intro j hj
  by_cases e : j = m
  · rw [e]; exact hm
  · exact h j (by omega)

set_option maxRecDepth 100000 in
set_option maxHeartbeats 1600000 in
theorem keys_any (ks : List ByteArray) (ka : Option Addr) (kc : Nat) (w : World) (hk : LayS w ka ks) (bk : ks.length * 16 ≤ 140737488351232) :
    Calls Try.prog 77 #[.slice ka ks.length kc] w fun e w' => e = .returned (.bool (keysB ks)) ∧ w' = w := by
  have HK : Hid (LayS w ka ks) := hk
  clear hk
  go_enter Try.func77, Try.ntmps77
  go_wp2_with fail
  go_loopw [7] (fun i wr => ∃ m : Nat, m ≤ ks.length ∧ i = .int .i64 m ∧ Hid (∀ j, j < m → goodAt ks j = true) ∧ wr = w) (fun i _ => ks.length - (intOf i).toNat)
  case atStart => exact ⟨0, Nat.zero_le _, rfl, fun j hj => by omega, rfl⟩
  case round =>
    obtain ⟨m, hm, rfl, HG, rfl⟩ := hrel
    by_cases hlt : m < ks.length
    · obtain ⟨b1, o1, rfl, q1, z1⟩ := HK.out m ks[m] (by simp [hlt])
      by_cases hkey : keyB ks[m] = true
      · by_cases h0 : 0 < m
        · obtain ⟨b2, o2, e2, q2, z2⟩ := HK.out (m - 1) (ks[m - 1]'(by omega)) (by simp)
          cases e2
          have hm1 : ((m : Int) - 1).toNat = m - 1 := by omega
          have HS := goodAt_succ hlt h0
          rw [hkey] at HS
          have HS' : Hid (goodAt ks m = (true && Op.bytesLess (ks[m - 1]'(by omega)).toList ks[m].toList)) := HS
          clear HS
          by_cases hless : Op.bytesLess (ks[m - 1]'(by omega)).toList ks[m].toList = true
          · go_wp2_with (go_at_call 82; refine (key_any _ _ z1).mono ?_; rintro e w' ⟨rfl, rfl⟩)
            go_roundw
            case rel => exact ⟨m + 1, by omega, by go_num, good_next HG.out (by rw [HS'.out, hless]; rfl), by first | trivial | rfl⟩
            case measure => simp [intOf]; omega
          · have hl : Op.bytesLess (ks[m - 1]'(by omega)).toList ks[m].toList = false := by simpa using hless
            go_wp2_with (go_at_call 82; refine (key_any _ _ z1).mono ?_; rintro e w' ⟨rfl, rfl⟩)
            go_ret
            exact ⟨ret_bool (keysB_false hlt (by rw [HS'.out, hl]; rfl)).symm, rfl⟩
        · have hz : m = 0 := by omega
          subst hz
          have q0 : wr.cell? ⟨b1, o1, none⟩ = some (.string ks[0]) := by simpa using q1
          go_wp2_with (go_at_call 82; refine (key_any _ _ z1).mono ?_; rintro e w' ⟨rfl, rfl⟩)
          go_roundw
          case rel => exact ⟨1, by omega, by go_num, good_next HG.out (by rw [goodAt_zero hlt]; exact hkey), by first | trivial | rfl⟩
          case measure => simp [intOf]; omega
      · have hkf : keyB ks[m] = false := by simpa using hkey
        have HF : Hid (goodAt ks m = false) := by
          by_cases h0 : 0 < m
          · exact (goodAt_succ hlt h0).trans (by rw [hkf]; rfl)
          · have : m = 0 := by omega
            subst this
            exact (goodAt_zero hlt).trans hkf
        go_wp2_with (go_at_call 82; refine (key_any _ _ z1).mono ?_; rintro e w' ⟨rfl, rfl⟩)
        go_ret
        exact ⟨ret_bool (keysB_false hlt HF.out).symm, rfl⟩
    · go_wp2_with fail
      go_ret
      exact ⟨ret_bool (keysB_true fun j hj => HG.out j (by omega)).symm, rfl⟩


theorem below_draw (w : World) (o : Obj) (n : Nat) : Below w.heap.size w ((w.alloc o).drewN n) := ((Below.refl _ _).alloc (Nat.le_refl _) _).trans (Below_drewN _ _ _)

set_option maxRecDepth 100000 in
set_option maxHeartbeats 1600000 in
theorem part_any (k b : Int) (t : ByteArray) (ks : List ByteArray) (ka : Option Addr) (kc : Nat) (ia : Option Addr) (il ic : Nat) (w : World) (hk : LayS w ka ks) (hf : Fit k b t ks.length kc il ic) :
    Calls Try.prog 69 #[mk k b t ka ks.length kc ia il ic] w fun e w' => e = .returned (.bool (mayB k b t ks il)) ∧ Below w.heap.size w w' := by
  have HK : Hid (LayS w ka ks) := hk
  obtain ⟨-, hb, ht, -, -, bk, -, -, bi⟩ := hf
  have HU : Hid (U b) := hb
  clear hk
  by_cases k0 : k = 0
  · subst k0
    clear hb
    go_enter Try.func69, Try.ntmps69
    go_wp2_with fail
    go_quiet (fail)
    go_wp2_with fail
    go_quiet (fail)
    go_wp2_with fail
    all_goals (go_ret; refine ⟨ret_bool ?_, below_draw _ _ _⟩; simp_all [mayB]; try (intros; omega))
  by_cases k1 : k = 1
  · subst k1
    clear hb k0
    go_enter Try.func69, Try.ntmps69
    go_wp2_with fail
    go_quiet (fail)
    go_wp2_with fail
    go_quiet (fail)
    go_wp2_with fail
    all_goals (go_ret; refine ⟨ret_bool ?_, below_draw _ _ _⟩; simp_all [mayB]; try (intros; omega))
  by_cases k3 : k = 3
  · subst k3
    clear hb k0 k1
    go_enter Try.func69, Try.ntmps69
    go_wp2_with fail
    go_quiet (fail)
    go_wp2_with fail
    go_quiet (fail)
    go_wp2_with fail
    all_goals (go_ret; refine ⟨ret_bool ?_, below_draw _ _ _⟩; simp_all [mayB]; try (intros; omega))
  by_cases k4 : k = 4
  · subst k4
    clear hb k0 k1 k3
    go_enter Try.func69, Try.ntmps69
    go_wp2_with fail
    go_quiet (fail)
    go_wp2_with fail
    go_quiet (fail)
    go_wp2_with fail
    all_goals (go_ret; refine ⟨ret_bool ?_, below_draw _ _ _⟩; simp_all [mayB]; try (intros; omega))
  by_cases k2 : k = 2
  · subst k2
    clear hb k0 k1 k3 k4
    go_enter Try.func69, Try.ntmps69
    go_wp2_with fail
    go_quiet (fail)
    go_wp2_with fail
    go_quiet (fail)
    go_wp2_with fail
    go_region_held3 (fun w' => w'.cell? ⟨w.heap.size, 1, none⟩ = some (.int .u64 b)) (go_keep) ((go_at_call 76; refine (canon_any _ _ HU.out).mono ?_; rintro e w' ⟨rfl, rfl⟩))
    go_wp2_with fail
    all_goals (go_ret; refine ⟨ret_bool ?_, below_draw _ _ _⟩; simp_all [mayB]; try (intros; omega))
  by_cases k5 : k = 5
  · subst k5
    clear hb k0 k1 k3 k4 k2
    by_cases hl : ks.length = il
    · subst hl
      go_enter Try.func69, Try.ntmps69
      go_wp2_with fail
      go_quiet (fail)
      go_wp2_with fail
      go_quiet (fail)
      go_wp2_with (go_at_call 77; refine (keys_any _ _ _ _ (LayS.below HK.out (below_draw _ _ _)) bk).mono ?_; rintro e w' ⟨rfl, rfl⟩)
      all_goals (go_ret; refine ⟨ret_bool ?_, below_draw _ _ _⟩; simp_all [mayB]; try (intros; omega))
    · have hd : ((ks.length : Int) == (il : Int)) = false := by simp; omega
      have HL : Hid (¬ ks.length = il) := hl
      clear hl
      go_enter Try.func69, Try.ntmps69
      go_wp2_with fail
      go_quiet (fail)
      go_wp2_with fail
      go_quiet (fail)
      go_wp2_with fail
      all_goals (go_ret; refine ⟨ret_bool ?_, below_draw _ _ _⟩; have HL' := HL.out; simp_all [mayB]; try (intros; omega))
  have d0 : (k == 0) = false := by simpa using k0
  have d1 : (k == 1) = false := by simpa using k1
  have d2 : (k == 2) = false := by simpa using k2
  have d3 : (k == 3) = false := by simpa using k3
  have d4 : (k == 4) = false := by simpa using k4
  have d5 : (k == 5) = false := by simpa using k5
  have HM : Hid (mayB k b t ks il = false) := by simp [Hid, mayB, k0, k1, k2, k3, k4, k5]
  clear hb k0 k1 k2 k3 k4 k5
  go_enter Try.func69, Try.ntmps69
  go_wp2_with fail
  go_quiet (fail)
  go_wp2_with fail
  go_quiet (fail)
  go_wp2_with fail
  go_ret
  exact ⟨ret_bool HM.out.symm, below_draw _ _ _⟩
end Go.Proofs.Ytfdbhojghkdlkaa

/-
  The walk through a value's parts, as plain mathematics: the first error, or how many parts and how deep.
-/
namespace Go.Proofs.Ytfdbhojghkdlkaa
open Go.ChangeShapes Go.WideShapes Go.ChangeAt Go.RowKit
open Fl

/-- One after another, as far as no error comes. -/
def foldE {α S : Type} (f : α → S → Except Int S) : List α → S → Except Int S
  | [], s => .ok s
  | a :: r, s => match f a s with
    | .error e => .error e
    | .ok s' => foldE f r s'

/-- The walk: level, and what was met so far (parts, depth). -/
def wk : (n : Nat) → V n → Int → Nat × Int → Except Int (Nat × Int)
  | 0, _, _, _ => .error 0
  | n + 1, (k, b, t, ks, its), l, (c, d) =>
    if 8 < l then .error 10 else if 512 ≤ c then .error 3 else if mayB k b t ks its.length = true then foldE (fun u s => wk n u (l + 1) s) its (c + 1, max d l) else .error 9

theorem foldE_append {α S : Type} (f : α → S → Except Int S) : ∀ (l r : List α) (s : S), foldE f (l ++ r) s = match foldE f l s with | .error e => .error e | .ok s' => foldE f r s'
  | [], _, _ => rfl
  | a :: l, r, s => by
    simp only [List.cons_append, foldE]
    cases f a s with
    | error e => rfl
    | ok s' => exact foldE_append f l r s'

theorem foldE_next {α S : Type} {f : α → S → Except Int S} {l : List α} {m : Nat} {s s' : S} (hm : m < l.length) (h : foldE f (l.take m) s = .ok s') : foldE f (l.take (m + 1)) s = f l[m] s' := by
  rw [List.take_succ_eq_append_getElem hm, foldE_append, h]
  simp only [foldE]
  cases f l[m] s' <;> rfl

theorem foldE_stop {α S : Type} {f : α → S → Except Int S} {l : List α} {m : Nat} {s : S} {e : Int} (h : foldE f (l.take m) s = .error e) : foldE f l s = .error e := by
  have := foldE_append f (l.take m) (l.drop m) s
  rw [List.take_append_drop, h] at this
  exact this

theorem foldE_all {α S : Type} {f : α → S → Except Int S} {l : List α} {m : Nat} {s : S} (h : l.length ≤ m) : foldE f (l.take m) s = foldE f l s := by rw [List.take_of_length_le h]

theorem foldE_keeps {α S : Type} {f : α → S → Except Int S} {p : S → Prop} (hf : ∀ a s s', p s → f a s = .ok s' → p s') : ∀ (l : List α) (s s' : S), p s → foldE f l s = .ok s' → p s'
  | [], s, s', hp, h => by simp only [foldE, Except.ok.injEq] at h; rw [← h]; exact hp
  | a :: l, s, s', hp, h => by
    simp only [foldE] at h
    cases hfa : f a s with
    | error e => rw [hfa] at h; cases h
    | ok s1 => rw [hfa] at h; exact foldE_keeps hf l s1 s' (hf a s s1 hp hfa) h

/-- What is met stays within its limits. -/
def Met (s : Nat × Int) : Prop := s.1 ≤ 512 ∧ 0 ≤ s.2 ∧ s.2 ≤ 8

theorem wk_met (n : Nat) : ∀ (v : V n) (l : Int) (s s' : Nat × Int), 0 ≤ l → Met s → wk n v l s = .ok s' → Met s' := by
  induction n with
  | zero => intro v; exact v.elim
  | succ n ih =>
    rintro ⟨k, b, t, ks, its⟩ l ⟨c, d⟩ s' hl hm h
    simp only [wk] at h
    split at h
    · cases h
    · split at h
      · cases h
      · split at h
        · refine foldE_keeps (p := Met) (fun u s s' hs hu => ih u (l + 1) s s' (by omega) hs hu) its _ s' ?_ h
          obtain ⟨h1, h2, h3⟩ := hm
          simp only at h1 h2 h3
          unfold Met
          simp only
          omega
        · cases h

end Go.Proofs.Ytfdbhojghkdlkaa
