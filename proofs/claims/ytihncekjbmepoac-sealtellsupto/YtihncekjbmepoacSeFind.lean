/-
  Turned bits are told, as mathematics; an octet of a row of one's own is written over.
-/
import Derived.Test.YtihncekjbmepoacSeBack
namespace Go.Proofs.Ytihncekjbmepoac
open Go.ChangeShapes Go.WideShapes Go.ChangeAt Go.RowKit Go.Deep
open Se

theorem getD_take {l m : List UInt8} {i j : Nat} (h : l.take j = m.take j) (hi : i < j) : l.getD i 0 = m.getD i 0 := by
  have e : (l.take j)[i]? = (m.take j)[i]? := by rw [h]
  rw [List.getElem?_take_of_lt hi, List.getElem?_take_of_lt hi] at e
  rw [List.getD_eq_getElem?_getD, List.getD_eq_getElem?_getD, e]

theorem get_turned {k : Int} {d X : List UInt8} (hk : 1 ≤ k ∧ k ≤ 255) (hd : d.length ≤ 65536) (hl : X.length = (frame k d).length) (h4 : X.take 4 = (frame k d).take 4) (A turn : Nat) (ht : turn < 4294967296) (ht0 : turn ≠ 0)
    (hA : A + 32 ≤ 8 * (frame k d).length) (hv : val X = val (frame k d) ^^^ turn * 2 ^ A) : getR X = (21, 0, [], 0) := by
  have hfl := frame_length k d
  have hn : lenO X = d.length := by
    have e : lenO X = lenO (hdr k d ++ le4 (sum (hdr k d))) := by
      simp only [lenO]
      rw [getD_take h4 (by decide : 1 < 4), getD_take h4 (by decide : 2 < 4), getD_take h4 (by decide : 3 < 4)]
      rfl
    rw [e]
    exact lenO_hdr k d _ hd
  have ho : (X.getD 0 0).toNat = k.toNat := by
    rw [getD_take h4 (by decide : 0 < 4)]
    exact kind_hdr k d _ hk
  have hs4 : (X.drop (4 + d.length)).length = 4 := by rw [List.length_drop]; omega
  have htl : (X.take (4 + d.length)).length = (hdr k d).length := by rw [List.length_take, hdr_length]; omega
  have hne := told (hdr k d) (le4 (sum (hdr k d))) (X.take (4 + d.length)) (X.drop (4 + d.length)) htl (le4_length _) hs4 (le4_val (sum_lt _)) A turn ht ht0 (by rw [hdr_length]; omega) (by rw [List.take_append_drop]; exact hv)
  unfold getR
  rw [if_neg (by omega), if_neg (by omega), hn, if_neg (by omega), if_neg (by omega), if_neg]
  intro e
  apply hne
  have e2 : (X.drop (4 + d.length)).take 4 = X.drop (4 + d.length) := List.take_of_length_le (by omega)
  rw [e2] at e
  rw [← e]
  exact le4_val (sum_lt _)

theorem Bs.set {w : World} {B g n c : Nat} {l : List UInt8} (h : Bs w B (.slice (some ⟨g, 0, none⟩) n c) l) (j : Nat) (o : UInt8) :
    Bs (w.setCell ⟨g, j, none⟩ (.int .u8 (o.toNat : Int))) B (.slice (some ⟨g, 0, none⟩) n c) (l.set j o) := by
  obtain ⟨h1, h2⟩ := h
  rcases h2 with ⟨h3, -⟩ | ⟨g', cap, cur, h3, h4, h5, h6, h7, h8, h9⟩
  · simp at h3
  · simp only [Value.slice.injEq, Option.some.injEq, Addr.mk.injEq, and_true] at h3
    obtain ⟨rfl, rfl, rfl⟩ := h3
    refine ⟨by simp [cellsO], Or.inr ⟨g, c, _, by simp, h4, set_one_cell h5 _, by simpa using h6, h7, by simpa using h8, ?_⟩⟩
    have hc : cellsO (l.set j o) = (cellsO l).set j (.int .u8 (o.toNat : Int)) := by simp [cellsO, List.map_set]
    rw [hc, ← h9]
    simp [List.take_set]

theorem Bs.cell {w : World} {B g n c : Nat} {l : List UInt8} (h : Bs w B (.slice (some ⟨g, 0, none⟩) n c) l) {j : Nat} {o : UInt8} (hj : l[j]? = some o) : w.cell? ⟨g, j, none⟩ = some (.int .u8 (o.toNat : Int)) ∧ w.frozen? ⟨g, j, none⟩ = false := by
  have hc : (cellsO l)[j]? = some (.int .u8 (o.toNat : Int)) := by simp [cellsO, hj]
  obtain ⟨h1, h2⟩ := h
  rcases h2 with ⟨h3, -⟩ | ⟨g', cap, cur, h3, h4, h5, h6, h7, h8, h9⟩
  · simp at h3
  · simp only [Value.slice.injEq, Option.some.injEq, Addr.mk.injEq, and_true] at h3
    obtain ⟨rfl, rfl, rfl⟩ := h3
    have hlt : j < l.length := (List.getElem?_eq_some_iff.1 hj).1
    obtain ⟨q1, q2⟩ := cell_of h5 j
    refine ⟨q1.trans ?_, q2⟩
    rw [← hc, ← h9, List.getElem?_take_of_lt (by omega), Array.getElem?_toList]
theorem Bs.spot {w : World} {B : Nat} {a : Option Addr} {n c : Nat} {l : List UInt8} (h : Bs w B (.slice a n c) l) (hl : 0 < l.length) : ∃ g, a = some ⟨g, 0, none⟩ ∧ B ≤ g := by
  obtain ⟨h1, h2⟩ := h
  rcases h2 with ⟨h3, h4⟩ | ⟨g', cap, cur, h3, h4, h5⟩
  · omega
  · simp only [Value.slice.injEq] at h3
    exact ⟨g', h3.1, h4⟩

theorem place (at0 : Int) (L : Nat) (h8 : 8 ≤ L) (hm : L ≤ 100000) : ∃ A : Nat, wrap64 (32 + (wrap64 (at0.tmod (8 * ((L : Int) - 4) - 31) + (8 * ((L : Int) - 4) - 31))).tmod (8 * ((L : Int) - 4) - 31)) = (A : Int) ∧ 32 ≤ A ∧ A + 32 ≤ 8 * L := by
  have hn : 0 < 8 * ((L : Int) - 4) - 31 := by omega
  have hn2 : 8 * ((L : Int) - 4) - 31 = 8 * (L : Int) - 63 := by omega
  rw [hn2] at hn ⊢
  generalize hN : 8 * (L : Int) - 63 = n at *
  have h1 := Int.tmod_lt_of_pos at0 hn
  have h2 := Int.lt_tmod_of_pos at0 hn
  rw [IntWalk.wrap64_in (at0.tmod n + n) (by omega)]
  have h3 := Int.tmod_lt_of_pos (at0.tmod n + n) hn
  have h4 : 0 ≤ (at0.tmod n + n).tmod n := Int.tmod_nonneg _ (by omega)
  rw [IntWalk.wrap64_in _ (by omega)]
  exact ⟨(32 + (at0.tmod n + n).tmod n).toNat, by omega, by omega, by omega⟩

/-- One bit more. -/
theorem turn_step (t m : Nat) : t % 2 ^ (m + 1) = t % 2 ^ m + (t / 2 ^ m % 2) * 2 ^ m := by
  rw [Nat.pow_succ, Nat.mod_mul]
  rw [Nat.mul_comm]
theorem turn_xor (t m A : Nat) (hb : t / 2 ^ m % 2 = 1) : (t % 2 ^ (m + 1)) * 2 ^ A = (t % 2 ^ m) * 2 ^ A ^^^ 2 ^ (A + m) := by
  rw [turn_step, hb, Nat.one_mul]
  have h1 : t % 2 ^ m + 2 ^ m = (t % 2 ^ m) ^^^ 2 ^ m := by
    have hlt : t % 2 ^ m < 2 ^ m := Nat.mod_lt _ (Nat.two_pow_pos m)
    apply Nat.eq_of_testBit_eq
    intro i
    have e : t % 2 ^ m + 2 ^ m = 2 ^ m * 1 + t % 2 ^ m := by omega
    rw [e, Nat.testBit_two_pow_mul_add _ hlt, Nat.testBit_xor, Nat.testBit_two_pow]
    by_cases hi : i < m
    · have : ¬ m = i := by omega
      simp [hi, this]
    · have hz : (t % 2 ^ m).testBit i = false := Nat.testBit_lt_two_pow (Nat.lt_of_lt_of_le hlt (Nat.pow_le_pow_right (by decide) (by omega)))
      rw [if_neg hi, hz, Bool.false_xor]
      by_cases him : m = i
      · subst him; simp
      · have : (1 : Nat).testBit (i - m) = false := Nat.testBit_lt_two_pow (Nat.lt_of_lt_of_le (by decide : 1 < 2 ^ 1) (Nat.pow_le_pow_right (by decide) (by omega)))
        rw [this]
        simp [him]
  rw [h1]
  have h2 := Nat.shiftLeft_xor_distrib (a := t % 2 ^ m) (b := 2 ^ m) (i := A)
  rw [Nat.shiftLeft_eq, Nat.shiftLeft_eq, Nat.shiftLeft_eq] at h2
  rw [h2, Nat.pow_add, Nat.mul_comm (2 ^ A)]
theorem turn_same (t m A : Nat) (hb : t / 2 ^ m % 2 = 0) : (t % 2 ^ (m + 1)) * 2 ^ A = (t % 2 ^ m) * 2 ^ A := by rw [turn_step, hb, Nat.zero_mul, Nat.add_zero]
end Go.Proofs.Ytihncekjbmepoac
