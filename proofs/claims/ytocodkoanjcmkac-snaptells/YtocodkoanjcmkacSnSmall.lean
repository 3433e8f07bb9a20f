/-
  The program's Check, numberOf, isBlank; the page's Check.
-/
import Derived.Test.YtocodkoanjcmkacSnMath
import Derived.Laws.CopyOwn
namespace Go.Proofs.Ytocodkoanjcmkac
open Go.ChangeShapes Go.WideShapes Go.ChangeAt Go.RowKit Go.Deep
open Se

set_option maxRecDepth 100000 in
set_option maxHeartbeats 1600000 in
theorem check_any (e q : Int) (a : Option Addr) (n c : Nat) (w : World) :
    Calls Try.prog 19 #[.agg #[.int .i64 e, .int .i64 q, .slice a n c]] w fun x w' => x = .returned (.int .i64 (chkS e q n)) ∧ Below w.heap.size w w' := by
  have HR1 : Hid (e < 0 ∨ 1099511627776 < e ∨ q < 0 ∨ 1099511627776 < q → chkS e q n = 4) := fun h => by unfold chkS; rw [if_pos h]
  have HR2 : Hid (0 ≤ e ∧ e ≤ 1099511627776 ∧ 0 ≤ q ∧ q ≤ 1099511627776 → 8000 < n → chkS e q n = 5) := fun h h' => by unfold chkS; rw [if_neg (by omega), if_pos h']
  have HR3 : Hid (0 ≤ e ∧ e ≤ 1099511627776 ∧ 0 ≤ q ∧ q ≤ 1099511627776 → n ≤ 8000 → chkS e q n = 0) := fun h h' => by unfold chkS; rw [if_neg (by omega), if_neg (by omega)]
  generalize chkS e q n = R at *
  by_cases h1 : e < 0
  · have HR : Hid (R = 4) := HR1.out (by omega)
    clear HR1 HR2 HR3
    go_enter Try.func19, Try.ntmps19
    go_wp2_with fail
    go_ret
    exact ⟨by rw [HR.out]; rfl, below_one _ _⟩
  by_cases h2 : 1099511627776 < e
  · have HR : Hid (R = 4) := HR1.out (by omega)
    clear HR1 HR2 HR3
    go_enter Try.func19, Try.ntmps19
    go_wp2_with fail
    go_ret
    exact ⟨by rw [HR.out]; rfl, below_one _ _⟩
  by_cases h3 : q < 0
  · have HR : Hid (R = 4) := HR1.out (by omega)
    clear HR1 HR2 HR3
    go_enter Try.func19, Try.ntmps19
    go_wp2_with fail
    go_ret
    exact ⟨by rw [HR.out]; rfl, below_one _ _⟩
  by_cases h4 : 1099511627776 < q
  · have HR : Hid (R = 4) := HR1.out (by omega)
    clear HR1 HR2 HR3
    go_enter Try.func19, Try.ntmps19
    go_wp2_with fail
    go_ret
    exact ⟨by rw [HR.out]; rfl, below_one _ _⟩
  by_cases h5 : 8000 < n
  · have HR : Hid (R = 5) := HR2.out (by omega) h5
    have h5' : (8000 : Int) < n := by omega
    clear HR1 HR2 HR3
    go_enter Try.func19, Try.ntmps19
    go_wp2_with fail
    go_ret
    exact ⟨by rw [HR.out]; rfl, below_one _ _⟩
  · have HR : Hid (R = 0) := HR3.out (by omega) (by omega)
    have h5' : ¬ (8000 : Int) < n := by omega
    clear HR1 HR2 HR3
    go_enter Try.func19, Try.ntmps19
    go_wp2_with fail
    go_ret
    exact ⟨by rw [HR.out]; rfl, below_one _ _⟩

/-- A number of 64 bits, read with its sign. -/
def sgn (x : Int) : Int := (x + 9223372036854775808) % 18446744073709551616 - 9223372036854775808
theorem sgn_small {x : Int} (h0 : 0 ≤ x) (h1 : x < 9223372036854775808) : sgn x = x := by unfold sgn; omega

theorem or_octet_i {x : Int} (o : UInt8) (h0 : 0 ≤ x) (h1 : x < 72057594037927936) : bits .or .i64 (IntKind.i64.wrap (x * 256)) (o.toNat : Int) = sgn (x * 256 + (o.toNat : Int)) := by
  have h2 := o.toNat_lt
  obtain ⟨n, rfl⟩ : ∃ n : Nat, x = n := ⟨x.toNat, by omega⟩
  have e1 : (BitVec.ofInt 64 (IntKind.i64.wrap ((n : Int) * 256))).toNat = 2 ^ 8 * n := by
    rw [IntKind.wrap_i64, BitVec.toNat_ofInt]
    omega
  have e2 : (BitVec.ofInt 64 (o.toNat : Int)).toNat = o.toNat := by
    rw [BitVec.ofInt_natCast, BitVec.toNat_ofNat]; exact Nat.mod_eq_of_lt (by omega)
  show IntKind.i64.wrap ((BitVec.ofInt 64 (IntKind.i64.wrap ((n : Int) * 256)) ||| BitVec.ofInt 64 (o.toNat : Int)).toNat : Int) = _
  rw [BitVec.toNat_or, e1, e2, IntKind.wrap_i64, ← Nat.two_pow_add_eq_or_of_lt h2]
  unfold sgn
  omega

set_option maxRecDepth 100000 in
set_option maxHeartbeats 1600000 in
theorem numberOf_any (a : Option Addr) (c : Nat) (l : List UInt8) (w : World) (hl : LayB w a l) (h8 : l.length ≤ 8) :
    Calls Try.prog 38 #[.slice a l.length c] w fun e w' => e = .returned (.int .i64 (sgn (numO l))) ∧ w' = w := by
  have HL : Hid (LayB w a l) := hl
  clear hl
  go_enter Try.func38, Try.ntmps38
  go_wp2_with fail
  go_loopw [3, 8] (fun b i wr => ∃ (m : Nat), m ≤ l.length ∧ i = .int .i64 m ∧ b = .int .i64 (sgn (numO (l.take m))) ∧ Hid (wr = w)) (fun _ i _ => l.length - (intOf i).toNat)
  case atStart => exact ⟨0, by omega, rfl, rfl, rfl⟩
  case round =>
    obtain ⟨m, hm, rfl, rfl, HW⟩ := hrel
    obtain rfl := HW.out
    by_cases hlt8 : m < l.length
    · have hm1 : (m : Int) < (l.length : Int) := by omega
      obtain ⟨o, hoo⟩ : ∃ o, l[m]? = some o := ⟨l[m]'(by omega), by simp⟩
      obtain ⟨gb, go, rfl, hc⟩ := HL.out m o hoo
      have ho := u8_lt o
      have hb := numO_bound m (l.take m) (by rw [List.length_take]; omega)
      have hp : (256 : Int) ^ m ≤ 256 ^ 7 := by
        have : (256 : Nat) ^ m ≤ 256 ^ 7 := Nat.pow_le_pow_right (by decide) (by omega)
        exact_mod_cast this
      have hnb : 0 ≤ numO (l.take m) ∧ numO (l.take m) < 72057594037927936 := by omega
      have HS : Hid (bits .or .i64 (IntKind.i64.wrap (numO (l.take m) * 256)) (o.toNat : Int) = sgn (numO (l.take (m + 1)))) := by
        show _ = _
        obtain ⟨hml, heq⟩ := List.getElem?_eq_some_iff.1 hoo
        rw [or_octet_i o hnb.1 hnb.2, List.take_succ_eq_append_getElem hml, heq, numO_snoc]
      rw [sgn_small hnb.1 (by omega)]
      clear hoo hb hp
      generalize numO (l.take m) = nb at *
      go_wp2_with fail
      refine ⟨⟨m + 1, by omega, by go_num, by rw [← HS.out, IntKind.wrap_i64]; simp only [wrap64], trivial⟩, ?_⟩
      simp [intOf]
      omega
    · rw [List.take_of_length_le (by omega)]
      go_wp2_with fail
      go_ret
      exact ⟨rfl, rfl⟩

set_option maxRecDepth 100000 in
set_option maxHeartbeats 1600000 in
theorem blank_any (a : Option Addr) (c : Nat) (l : List UInt8) (w : World) (hl : LayB w a l) (hn : l.length ≤ 200000000000000) :
    Calls Try.prog 29 #[.slice a l.length c] w fun e w' => e = .returned (.bool (decide (allZ l))) ∧ w' = w := by
  have HL : Hid (LayB w a l) := hl
  clear hl
  obtain ⟨R, hR⟩ : ∃ R, decide (allZ l) = R := ⟨_, rfl⟩
  have HR : Hid (decide (allZ l) = R) := hR
  rw [hR]
  clear hR
  go_enter Try.func29, Try.ntmps29
  go_wp2_with fail
  go_loopw [7] (fun i wr => ∃ m : Nat, m ≤ l.length ∧ i = .int .i64 m ∧ Hid (allZ (l.take m)) ∧ Hid (wr = w)) (fun i _ => l.length - (intOf i).toNat)
  case atStart => exact ⟨0, by omega, rfl, (fun o h => by simp at h), rfl⟩
  case round =>
    obtain ⟨m, hm, rfl, HZ, HW⟩ := hrel
    obtain rfl := HW.out
    by_cases hlt : m < l.length
    · have hlt1 : (m : Int) < (l.length : Int) := by omega
      obtain ⟨o, ho⟩ : ∃ o, l[m]? = some o := ⟨l[m], List.getElem?_eq_getElem hlt⟩
      obtain ⟨b, off, rfl, q⟩ := HL.out m o ho
      have HT : Hid (l.take (m + 1) = l.take m ++ [o]) := by
        show _ = _
        obtain ⟨h1, h2⟩ := List.getElem?_eq_some_iff.1 ho
        rw [List.take_succ_eq_append_getElem h1, h2]
      have HM : Hid (o ∈ l) := List.mem_of_getElem? ho
      clear ho
      by_cases hz : o = 0
      · have hzb : (((o.toNat : Nat) : Int) != 0) = false := by rw [hz]; decide
        have HA : Hid (allZ (l.take (m + 1))) := by
          intro x hx
          rw [HT.out] at hx
          rcases List.mem_append.1 hx with h | h
          · exact HZ.out x h
          · simp at h; rw [h, hz]
        clear hz
        go_wp2_with fail
        exact ⟨⟨m + 1, by omega, by go_num, HA.out, trivial⟩, by simp [intOf]; omega⟩
      · have hzb : (((o.toNat : Nat) : Int) != 0) = true := by
          have : o.toNat ≠ 0 := fun e => hz (UInt8.toNat_inj.1 (by simpa using e))
          simpa using this
        have HA : Hid (R = false) := by show _ = _; rw [← HR.out]; simpa using fun h : allZ l => hz (h o HM.out)
        clear hz
        go_wp2_with fail
        go_ret
        exact ⟨by rw [HA.out]; rfl, rfl⟩
    · have hme : m = l.length := by omega
      subst hme
      have HA : Hid (R = true) := by show _ = _; rw [← HR.out]; simpa using (by have h := HZ.out; rwa [List.take_length] at h : allZ l)
      go_wp2_with fail
      go_ret
      exact ⟨by rw [HA.out]; rfl, rfl⟩

set_option maxRecDepth 100000 in
set_option maxHeartbeats 1600000 in
theorem rcheck_any (e q : Int) (a : Option Addr) (n c : Nat) (w : World) :
    Calls Try.prog 20 #[.agg #[.int .i64 e, .int .i64 q, .slice a n c]] w fun x w' => x = .returned (.int .i64 (chkS e q n)) ∧ Below w.heap.size w w' := by
  have HR1 : Hid (e < 0 ∨ 1099511627776 < e ∨ q < 0 ∨ 1099511627776 < q → chkS e q n = 4) := fun h => by unfold chkS; rw [if_pos h]
  have HR2 : Hid (0 ≤ e ∧ e ≤ 1099511627776 ∧ 0 ≤ q ∧ q ≤ 1099511627776 → 8000 < n → chkS e q n = 5) := fun h h' => by unfold chkS; rw [if_neg (by omega), if_pos h']
  have HR3 : Hid (0 ≤ e ∧ e ≤ 1099511627776 ∧ 0 ≤ q ∧ q ≤ 1099511627776 → n ≤ 8000 → chkS e q n = 0) := fun h h' => by unfold chkS; rw [if_neg (by omega), if_neg (by omega)]
  generalize chkS e q n = R at *
  have hc : (e < 0 ∧ R = 4) ∨ (¬ e < 0 ∧ 1099511627776 < e ∧ R = 4) ∨ (¬ e < 0 ∧ ¬ 1099511627776 < e ∧ q < 0 ∧ R = 4) ∨ (¬ e < 0 ∧ ¬ 1099511627776 < e ∧ ¬ q < 0 ∧ 1099511627776 < q ∧ R = 4) ∨ (¬ e < 0 ∧ ¬ 1099511627776 < e ∧ ¬ q < 0 ∧ ¬ 1099511627776 < q ∧ 8000 < (n : Int) ∧ R = 5) ∨ (¬ e < 0 ∧ ¬ 1099511627776 < e ∧ ¬ q < 0 ∧ ¬ 1099511627776 < q ∧ ¬ 8000 < (n : Int) ∧ R = 0) := by
    by_cases h1 : e < 0
    · exact Or.inl ⟨h1, HR1.out (by omega)⟩
    by_cases h2 : 1099511627776 < e
    · exact Or.inr (Or.inl ⟨h1, h2, HR1.out (by omega)⟩)
    by_cases h3 : q < 0
    · exact Or.inr (Or.inr (Or.inl ⟨h1, h2, h3, HR1.out (by omega)⟩))
    by_cases h4 : 1099511627776 < q
    · exact Or.inr (Or.inr (Or.inr (Or.inl ⟨h1, h2, h3, h4, HR1.out (by omega)⟩)))
    by_cases h5 : 8000 < n
    · exact Or.inr (Or.inr (Or.inr (Or.inr (Or.inl ⟨h1, h2, h3, h4, by omega, HR2.out (by omega) h5⟩))))
    · exact Or.inr (Or.inr (Or.inr (Or.inr (Or.inr ⟨h1, h2, h3, h4, by omega, HR3.out (by omega) (by omega)⟩))))
  clear HR1 HR2 HR3
  rcases hc with ⟨h1, rfl⟩ | ⟨h1, h2, rfl⟩ | ⟨h1, h2, h3, rfl⟩ | ⟨h1, h2, h3, h4, rfl⟩ | ⟨h1, h2, h3, h4, h5, rfl⟩ | ⟨h1, h2, h3, h4, h5, rfl⟩
  all_goals
    go_enter Try.func20, Try.ntmps20
    go_wp2_with fail
    go_ret
    exact ⟨rfl, below_one _ _⟩
end Go.Proofs.Ytocodkoanjcmkac
