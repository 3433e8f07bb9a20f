/-
  A box's octets, as mathematics; the program's appendNumber.
-/
import Derived.Test.YtclmlifhhfkagaaPkLaw
import Derived.Test.YtclmlifhhfkagaaObChk
namespace Go.Proofs.Ytclmlifhhfkagaa
open Go.ChangeShapes Go.WideShapes Go.ChangeAt Go.RowKit
open Fl

/-- A number in so many octets, the highest first. -/
def octK (k : Nat) (b : Int) (i : Nat) : UInt8 := UInt8.ofNat (b.toNat / 2 ^ (8 * (k - 1 - i)))
def octsK (k : Nat) (b : Int) : List UInt8 := (List.range k).map (octK k b)
theorem octsK_length (k : Nat) (b : Int) : (octsK k b).length = k := by simp [octsK]
theorem octsK_eight (b : Int) : octsK 8 b = octs b := rfl
theorem octsK_take {k : Nat} {b : Int} {m : Nat} (h : m < k) : (octsK k b).take (m + 1) = (octsK k b).take m ++ [octK k b m] := by
  have hl : m < (octsK k b).length := by rw [octsK_length]; exact h
  rw [List.take_succ_eq_append_getElem hl]
  simp [octsK]

theorem octK_val {k : Nat} {b : Int} (h0 : 0 ≤ b) (m : Nat) : b / 2 ^ (8 * (k - 1 - m)) % 256 = ((octK k b m).toNat : Int) := by
  obtain ⟨n, rfl⟩ : ∃ n : Nat, b = n := ⟨b.toNat, by omega⟩
  simp only [octK, Int.toNat_natCast, UInt8.toNat_ofNat']
  generalize 8 * (k - 1 - m) = j
  rw [Int.natCast_emod, Int.natCast_ediv, Int.natCast_pow]
  rfl

/-- An item's octets; a box's. -/
def encI {n : Nat} (u : Tm n) : List UInt8 := octs u.1 ++ (txt u.2.1 ++ enc n u.2.2)
def encIs {n : Nat} : List (Tm n) → List UInt8
  | [] => []
  | u :: r => encI u ++ encIs r
theorem encIs_append {n : Nat} (a b : List (Tm n)) : encIs (a ++ b) = encIs a ++ encIs b := by
  induction a with
  | nil => rfl
  | cons u r ih => simp [encIs, ih]
theorem encIs_take {n : Nat} (l : List (Tm n)) (m : Nat) (h : m < l.length) : encIs (l.take (m + 1)) = encIs (l.take m) ++ encI l[m] := by
  rw [List.take_succ_eq_append_getElem h, encIs_append]
  simp [encIs]
def encB {n : Nat} (L : Int) (its : List (Tm n)) : List UInt8 := octs L ++ (octsK 2 (its.length : Int) ++ encIs its)

set_option maxRecDepth 100000 in
set_option maxHeartbeats 1600000 in
theorem appNum_any (k : Nat) (hk : k = 8 ∨ k = 2) (b : Int) (s : Value) (l : List UInt8) (B : Nat) (w : World) (hs : Bs w B s l) (hB : B ≤ w.heap.size) (hl : l.length ≤ 1000000000) (h0 : 0 ≤ b) :
    Calls Try.prog 16 #[s, .int .i64 b, .int .i64 k] w fun e w' => ∃ s', e = .returned s' ∧ Bs w' B s' (l ++ octsK k b) ∧ RowTo w w' s s' := by
  have HS : Hid (Bs w B s l) := hs
  clear hs
  have hk1 : 1 ≤ k ∧ k ≤ 8 := by omega
  obtain ⟨hk1, hk2⟩ := hk1
  go_enter Try.func16, Try.ntmps16
  go_wp2_with fail
  go_loopw [0, 7] (fun v i wr => ∃ (m : Nat), m ≤ k ∧ i = .int .i64 (8 * ((k : Int) - 1 - (m : Int))) ∧ Hid (Bs wr B v (l ++ (octsK k b).take m)) ∧ Hid (RowTo w wr s v)) (fun _ i _ => (intOf i + 8).toNat)
  case atStart => exact ⟨0, Nat.zero_le _, by go_num, (by show Bs _ _ _ _; simpa using HS.out), RowTo.refl _ _⟩
  case round =>
    obtain ⟨m, hm, rfl, HR, HT⟩ := hrel
    have hsz := HT.out.grown.size
    by_cases hlt : m < k
    · have hm1 : (0 : Int) ≤ 8 * ((k : Int) - 1 - (m : Int)) := by omega
      have hm2 : 8 * ((k : Int) - 1 - (m : Int)) ≤ 56 := by omega
      have e1 : (8 * ((k : Int) - 1 - (m : Int))).toNat = 8 * (k - 1 - m) := by omega
      go_wp2_with (at_builtin; refine wpList_app _ rfl _ _ rfl B _ (l ++ (octsK k b).take m) [octK k b m] rfl ?d0 ⟨wr.heap.size, 0, none⟩ 1 rfl ?d1 ?d2 ?d3 ?_)
      case d0 => exact HR.out.below (below_one _ _)
      case d1 => exact new_octets wr _ _ _ (by simp [cellsO, octK_val h0])
      case d2 => have := List.length_take_le m (octsK k b); simp only [List.length_singleton, List.length_append]; omega
      case d3 => simp; omega
      intro s1 w1 q1 q2
      have R1 : Hid (RowTo w w1 s s1) := HT.out.trans (q2.pre (below_one _ _))
      have H1 : Hid (Bs w1 B s1 (l ++ (octsK k b).take (m + 1))) := by
        show Bs _ _ _ _
        rw [octsK_take hlt]
        exact q1
      clear q1 q2
      go_wp2_with fail
      go_roundw
      case rel => exact ⟨m + 1, by omega, by go_num, H1.out, R1.out⟩
      case measure => simp [intOf]; omega
    · have hme : m = k := by omega
      subst hme
      have hd : decide ((0 : Int) ≤ 8 * ((m : Int) - 1 - (m : Int))) = false := decide_eq_false (by omega)
      go_wp2_with fail
      go_ret
      refine ⟨_, rfl, ?_, HT.out⟩
      have := HR.out
      rw [List.take_of_length_le (by rw [octsK_length]; omega)] at this
      exact this
end Go.Proofs.Ytclmlifhhfkagaa
