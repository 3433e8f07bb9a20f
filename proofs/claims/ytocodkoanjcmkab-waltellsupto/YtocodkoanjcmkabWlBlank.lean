/-
  The program's isBlank.
-/
import Derived.Test.YtocodkoanjcmkabWlDrop
namespace Go.Proofs.Ytocodkoanjcmkab
open Go.ChangeShapes Go.WideShapes Go.ChangeAt Go.RowKit Go.Deep
open Se

theorem nonzero_any (o : Int) (w : World) : Calls Try.prog 48 #[.int .u8 o] w fun e w' => e = .returned (.bool (o != 0)) ∧ w' = w := by
  go_enter Try.func48, Try.ntmps48
  go_wp2_with fail
  go_ret
  exact ⟨rfl, rfl⟩

/-- Nothing but zeros. -/
def allZ (l : List UInt8) : Prop := ∀ o ∈ l, o = 0
set_option maxRecDepth 100000 in
set_option maxHeartbeats 1600000 in
theorem index_any (a : Option Addr) (c : Nat) (l : List UInt8) (w : World) (hl : LayB w a l) (hn : l.length ≤ 480) :
    Calls Try.prog 53 #[.slice a l.length c, .func (.func 48) #[] #[]] w fun e w' => ∃ i : Int, e = .returned (.int .i64 i) ∧ ((allZ l ∧ i = -1) ∨ (¬ allZ l ∧ 0 ≤ i)) ∧ w' = w := by
  have HL : Hid (LayB w a l) := hl
  clear hl
  go_enter Try.func53, Try.ntmps53
  go_wp2_with fail
  go_loopw [8] (fun i wr => ∃ m : Nat, m ≤ l.length ∧ i = .int .i64 m ∧ Hid (allZ (l.take m)) ∧ Hid (wr = w)) (fun i _ => l.length - (intOf i).toNat)
  case atStart => exact ⟨0, by omega, rfl, (fun o h => by simp at h), rfl⟩
  case round =>
    obtain ⟨m, hm, rfl, HZ, HW⟩ := hrel
    obtain rfl := HW.out
    by_cases hlt : m < l.length
    · have hlt1 : (m : Int) < (l.length : Int) := by omega
      obtain ⟨o, ho⟩ : ∃ o, l[m]? = some o := ⟨l[m], List.getElem?_eq_getElem hlt⟩
      obtain ⟨b, off, rfl, q⟩ := HL.out m o ho
      have HT : Hid (l.take (m + 1) = l.take m ++ [o]) := by
        show _ = _
        obtain ⟨h1, h2⟩ := List.getElem?_eq_some_iff.1 ho
        rw [List.take_succ_eq_append_getElem h1, h2]
      have HM : Hid (o ∈ l) := List.mem_of_getElem? ho
      have HNZ : Hid (Calls Try.prog 48 #[.int .u8 (o.toNat : Int)] wr _) := nonzero_any (o.toNat : Int) wr
      clear ho
      by_cases hz : o = 0
      · have hzb : (((o.toNat : Nat) : Int) != 0) = false := by rw [hz]; decide
        have HA : Hid (allZ (l.take (m + 1))) := by
          intro x hx
          rw [HT.out] at hx
          rcases List.mem_append.1 hx with h | h
          · exact HZ.out x h
          · simp at h; rw [h, hz]
        rw [hzb] at HNZ
        clear hz
        go_wp2_with (refine HNZ.out.mono ?_; rintro e w2 ⟨rfl, hw2⟩; subst w2)
        exact ⟨⟨m + 1, by omega, by go_num, HA.out, trivial⟩, by simp [intOf]; omega⟩
      · have hzb : (((o.toNat : Nat) : Int) != 0) = true := by
          have : o.toNat ≠ 0 := fun e => hz (UInt8.toNat_inj.1 (by simpa using e))
          simpa using this
        have HA : Hid (¬ allZ l) := fun h => hz (h o HM.out)
        rw [hzb] at HNZ
        clear hz
        go_wp2_with (refine HNZ.out.mono ?_; rintro e w2 ⟨rfl, hw2⟩; subst w2)
        go_ret
        exact ⟨m, rfl, Or.inr ⟨HA.out, by omega⟩, rfl⟩
    · have hme : m = l.length := by omega
      subst hme
      go_wp2_with fail
      go_ret
      have h := HZ.out
      rw [List.take_length] at h
      exact ⟨-1, rfl, Or.inl ⟨h, rfl⟩, rfl⟩

theorem contains_any (a : Option Addr) (c : Nat) (l : List UInt8) (w : World) (hl : LayB w a l) (hn : l.length ≤ 480) :
    Calls Try.prog 47 #[.slice a l.length c, .func (.func 48) #[] #[]] w fun e w' => ∃ b : Bool, e = .returned (.bool b) ∧ ((allZ l ∧ b = false) ∨ (¬ allZ l ∧ b = true)) ∧ w' = w := by
  have HI : Hid (Calls Try.prog 53 #[.slice a l.length c, .func (.func 48) #[] #[]] w _) := index_any a c l w hl hn
  clear hl
  go_enter Try.func47, Try.ntmps47
  go_wp2_with fail
  refine HI.out.mono ?_
  rintro e w1 ⟨i, rfl, hc, rfl⟩
  rcases hc with ⟨h, rfl⟩ | ⟨h, h0⟩
  · have HH : Hid (allZ l) := h
    clear h
    go_wp2_with fail
    go_ret
    exact ⟨false, rfl, Or.inl ⟨HH.out, rfl⟩, rfl⟩
  · have HH : Hid (¬ allZ l) := h
    clear h
    go_wp2_with fail
    go_ret
    exact ⟨true, rfl, Or.inr ⟨HH.out, rfl⟩, rfl⟩

theorem blank_any (a : Option Addr) (c : Nat) (l : List UInt8) (w : World) (hl : LayB w a l) (hn : l.length ≤ 480) :
    Calls Try.prog 38 #[.slice a l.length c] w fun e w' => ∃ b : Bool, e = .returned (.bool b) ∧ ((allZ l ∧ b = true) ∨ (¬ allZ l ∧ b = false)) ∧ w' = w := by
  have HI : Hid (Calls Try.prog 47 #[.slice a l.length c, .func (.func 48) #[] #[]] w _) := contains_any a c l w hl hn
  clear hl
  go_enter Try.func38, Try.ntmps38
  go_wp2_with fail
  refine HI.out.mono ?_
  rintro e w1 ⟨b, rfl, hc, rfl⟩
  rcases hc with ⟨h, rfl⟩ | ⟨h, rfl⟩
  · have HH : Hid (allZ l) := h
    clear h
    go_wp2_with fail
    go_ret
    exact ⟨true, rfl, Or.inl ⟨HH.out, rfl⟩, rfl⟩
  · have HH : Hid (¬ allZ l) := h
    clear h
    go_wp2_with fail
    go_ret
    exact ⟨false, rfl, Or.inr ⟨HH.out, rfl⟩, rfl⟩
end Go.Proofs.Ytocodkoanjcmkab
