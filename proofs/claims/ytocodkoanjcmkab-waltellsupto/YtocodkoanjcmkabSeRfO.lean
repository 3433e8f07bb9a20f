/-
  The page's octets of a length, a sum's octets, a copy.
-/
import Derived.Test.YtocodkoanjcmkabSeRf
import Derived.Test.YtocodkoanjcmkabOcNum
namespace Go.Proofs.Ytocodkoanjcmkab
open Go.ChangeShapes Go.WideShapes Go.ChangeAt Go.RowKit Go.Deep
open Se

/-- A number in three octets, the highest first. -/
def oct3 (n : Nat) : List UInt8 := [UInt8.ofNat (n / 65536), UInt8.ofNat (n / 256), UInt8.ofNat n]
theorem oct3_at {n m : Nat} (h : m < 3) : ∃ o, (oct3 n)[m]? = some o ∧ (o.toNat : Int) = (n : Int) / 2 ^ (8 * (2 - m)) % 256 := by
  have e : m = 0 ∨ m = 1 ∨ m = 2 := by omega
  rcases e with rfl | rfl | rfl
  · exact ⟨_, rfl, by rw [UInt8.toNat_ofNat']; simp⟩
  · exact ⟨_, rfl, by rw [UInt8.toNat_ofNat']; simp⟩
  · exact ⟨_, rfl, by rw [UInt8.toNat_ofNat']; simp⟩

set_option maxRecDepth 100000 in
set_option maxHeartbeats 1600000 in
theorem roct3_any (n : Nat) (_hn : n < 18446744073709551616) (w : World) :
    Calls Try.prog 46 #[.int .u64 n, .int .i64 3] w fun e w' => ∃ s, e = .returned s ∧ Bs w' w.heap.size s (oct3 n) ∧ Below w.heap.size w w' := by
  go_enter Try.func46, Try.ntmps46
  go_wp2_with fail
  go_loopw [5, 6] (fun v i wr => ∃ (m : Nat), m ≤ 3 ∧ i = .int .i64 (2 - (m : Int)) ∧ Hid (Bs wr w.heap.size v ((oct3 n).take m)) ∧ Hid (RowTo w wr (.slice none 0 0) v)) (fun _ i _ => (intOf i + 1).toNat)
  case atStart => exact ⟨0, by omega, rfl, Bs.nil _ _, RowTo.refl _ _⟩
  case round =>
    obtain ⟨m, hm, rfl, HR, HT⟩ := hrel
    have hsz := HT.out.grown.size
    by_cases hlt : m < 3
    · have hm1 : (0 : Int) ≤ 2 - (m : Int) := by omega
      have hm2 : (2 : Int) - (m : Int) ≤ 2 := by omega
      have e1 : ((8 : Int) * (2 - (m : Int))).toNat = 8 * (2 - m) := by omega
      obtain ⟨o, ho1, ho2⟩ := oct3_at (n := n) hlt
      have HO1 : Hid ((oct3 n).take (m + 1) = (oct3 n).take m ++ [o]) := by
        show _ = _
        obtain ⟨h1, h2⟩ := List.getElem?_eq_some_iff.1 ho1
        rw [List.take_succ_eq_append_getElem h1, h2]
      have HO2 : Hid ((o.toNat : Int) = (n : Int) / 2 ^ (8 * (2 - m)) % 256) := ho2
      clear ho1 ho2
      go_wp2_with (at_builtin; refine wpList_app _ rfl _ _ rfl w.heap.size _ ((oct3 n).take m) [o] rfl ?d0 ⟨wr.heap.size, 0, none⟩ 1 rfl ?d1 ?d2 ?d3 ?_)
      case d0 => exact HR.out.below (below_one _ _)
      case d1 => exact new_octets wr _ _ _ (by simp [cellsO, HO2.out])
      case d2 => have := List.length_take_le m (oct3 n); simp only [List.length_singleton]; omega
      case d3 => simp; omega
      intro s1 w1 h1 h2
      have R1 : Hid (RowTo w w1 (.slice none 0 0) s1) := HT.out.trans (h2.pre (below_one _ _))
      have H1 : Hid (Bs w1 w.heap.size s1 ((oct3 n).take (m + 1))) := by
        show Bs _ _ _ _
        rw [HO1.out]
        exact h1
      clear h1 h2
      go_wp2_with fail
      go_roundw
      case rel => exact ⟨m + 1, by omega, by congr 1; omega, H1.out, R1.out⟩
      case measure => simp [intOf]; omega
    · have hme : m = 3 := by omega
      subst hme
      go_wp2_with fail
      go_ret
      exact ⟨_, rfl, HR.out, HT.out.below (Nat.le_refl _) fun g hg => by simp [Value.ownBlock] at hg⟩

set_option maxRecDepth 100000 in
theorem laid_any (s : Nat) (hs : s < 4294967296) (w : World) :
    Calls Try.prog 50 #[.int .u32 s] w fun e w' => ∃ v, e = .returned v ∧ Bs w' w.heap.size v (le4 s) ∧ Below w.heap.size w w' := by
  go_enter Try.func50, Try.ntmps50
  go_wp2_with fail
  go_ret
  refine ⟨_, rfl, Bs.made w (le4 s) _ ?_ w.heap.size (Nat.le_refl _) (by simp [le4]), below_one _ _⟩
  simp [cellsO, le4]
  omega

set_option maxRecDepth 100000 in
theorem copied_any (a : Option Addr) (c : Nat) (l : List UInt8) (w : World) (ho : Oct w a c l) (hl : l.length ≤ 140737488351232) :
    Calls Try.prog 39 #[.slice a l.length c] w fun e w' => ∃ s, e = .returned s ∧ Bs w' w.heap.size s l ∧ Below w.heap.size w w' := by
  have HO : Hid (Oct w a c l) := ho
  clear ho
  go_enter Try.func39, Try.ntmps39
  go_wp2_with (at_builtin; refine wpList_appO _ rfl _ _ rfl w.heap.size _ [] l rfl (Bs.nil _ _) a c rfl HO.out ?d0 ?d1 ?_)
  case d0 => simp; omega
  case d1 => exact Nat.le_refl _
  intro s w1 h1 h2
  have H1 : Hid (Bs w1 w.heap.size s l) := by show Bs _ _ _ _; simpa using h1
  have B1 : Hid (Below w.heap.size w w1) := h2.below (Nat.le_refl _) (fun g hg => by simp [Value.ownBlock] at hg)
  clear h1 h2
  go_wp2_with fail
  go_ret
  exact ⟨s, rfl, H1.out, B1.out⟩
end Go.Proofs.Ytocodkoanjcmkab
