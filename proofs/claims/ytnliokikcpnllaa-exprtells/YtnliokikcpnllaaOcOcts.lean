/-
  Numbers in eight octets, the highest first; the page's Octets.
-/
import Derived.Test.YtnliokikcpnllaaOcStep
namespace Go.Proofs.Ytnliokikcpnllaa
open Go.ChangeShapes Go.WideShapes Go.ChangeAt Go.RowKit Go.Deep

/-- A number in eight octets, the highest first. -/
def oct (b : Int) (i : Nat) : UInt8 := UInt8.ofNat (b.toNat / 2 ^ (8 * (7 - i)))
def octs (b : Int) : List UInt8 := (List.range 8).map (oct b)
theorem octs_length (b : Int) : (octs b).length = 8 := by simp [octs]
theorem octs_take {b : Int} {m : Nat} (h : m < 8) : (octs b).take (m + 1) = (octs b).take m ++ [oct b m] := by
  rw [List.take_succ_eq_append_getElem (by rw [octs_length]; omega)]
  simp [octs]
theorem oct_val {b : Int} (h0 : 0 ≤ b) (m : Nat) : b / 2 ^ (8 * (7 - m)) % 256 = ((oct b m).toNat : Int) := by
  obtain ⟨n, rfl⟩ : ∃ n : Nat, b = n := ⟨b.toNat, by omega⟩
  simp only [oct, Int.toNat_natCast, UInt8.toNat_ofNat']
  generalize 8 * (7 - m) = k
  rw [Int.natCast_emod, Int.natCast_ediv, Int.natCast_pow]
  rfl
theorem numO_octs {b : Int} (h0 : 0 ≤ b) (h1 : b < 18446744073709551616) : numO (octs b) = b := by
  obtain ⟨n, rfl⟩ : ∃ n : Nat, b = n := ⟨b.toNat, by omega⟩
  simp only [octs, numO, List.range, List.range.loop, List.map_cons, List.map_nil, List.foldl_cons, List.foldl_nil, oct, UInt8.toNat_ofNat', Int.toNat_natCast]
  simp only [show 8 * (7 - 0) = 56 by rfl, show 8 * (7 - 1) = 48 by rfl, show 8 * (7 - 2) = 40 by rfl, show 8 * (7 - 3) = 32 by rfl, show 8 * (7 - 4) = 24 by rfl, show 8 * (7 - 5) = 16 by rfl, show 8 * (7 - 6) = 8 by rfl, show 8 * (7 - 7) = 0 by rfl]
  omega

set_option maxRecDepth 100000 in
set_option maxHeartbeats 1600000 in
theorem roct8_any (b : Int) (w : World) (h0 : 0 ≤ b) :
    Calls Try.prog 44 #[.int .u64 b, .int .i64 8] w fun e w' => ∃ s, e = .returned s ∧ Bs w' w.heap.size s (octs b) ∧ Below w.heap.size w w' := by
  have HU : Hid (0 ≤ b) := h0
  go_enter Try.func44, Try.ntmps44
  go_wp2_with fail
  go_loopw [5, 6] (fun v i wr => ∃ (m : Nat), m ≤ 8 ∧ i = .int .i64 (7 - (m : Int)) ∧ Hid (Bs wr w.heap.size v ((octs b).take m)) ∧ Hid (RowTo w wr (.slice none 0 0) v)) (fun _ i _ => (intOf i + 1).toNat)
  case atStart => exact ⟨0, by omega, rfl, Bs.nil _ _, RowTo.refl _ _⟩
  case round =>
    obtain ⟨m, hm, rfl, HR, HT⟩ := hrel
    have hsz := HT.out.grown.size
    by_cases hlt : m < 8
    · have hm1 : (0 : Int) ≤ 7 - (m : Int) := by omega
      have hm2 : (7 : Int) - (m : Int) ≤ 7 := by omega
      have e1 : ((8 : Int) * (7 - (m : Int))).toNat = 8 * (7 - m) := by omega
      go_wp2_with (at_builtin; refine wpList_app _ rfl _ _ rfl w.heap.size _ ((octs b).take m) [oct b m] rfl ?d0 ⟨wr.heap.size, 0, none⟩ 1 rfl ?d1 ?d2 ?d3 ?_)
      case d0 => exact HR.out.below (below_one _ _)
      case d1 => exact new_octets wr _ _ _ (by simp [cellsO, oct_val HU.out])
      case d2 => have := List.length_take_le m (octs b); simp only [List.length_singleton]; omega
      case d3 => simp; omega
      intro s1 w1 h1 h2
      have R1 : Hid (RowTo w w1 (.slice none 0 0) s1) := HT.out.trans (h2.pre (below_one _ _))
      have H1 : Hid (Bs w1 w.heap.size s1 ((octs b).take (m + 1))) := by
        show Bs _ _ _ _
        rw [octs_take hlt]
        exact h1
      clear h1 h2
      go_wp2_with fail
      go_roundw
      case rel => exact ⟨m + 1, by omega, by congr 1; omega, H1.out, R1.out⟩
      case measure => simp [intOf]; omega
    · have hme : m = 8 := by omega
      subst hme
      go_wp2_with fail
      go_ret
      refine ⟨_, rfl, ?_, HT.out.below (Nat.le_refl _) fun g hg => by simp [Value.ownBlock] at hg⟩
      have := HR.out
      rw [List.take_of_length_le (by rw [octs_length]; omega)] at this
      exact this

end Go.Proofs.Ytnliokikcpnllaa
