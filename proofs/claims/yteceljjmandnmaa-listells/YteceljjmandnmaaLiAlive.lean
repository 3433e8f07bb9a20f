/-
  The page's examples.
-/
import Derived.Test.YteceljjmandnmaaLiSplit
namespace Go.Proofs.Yteceljjmandnmaa
open Go.ChangeShapes Go.WideShapes Go.ChangeAt Go.RowKit Go.Deep
open Li

/-- Numbers just laid. -/
theorem Nm.new (w : World) (t : TypeId) (l : List Int) (cs : Array Value) (h : cs.toList = l.map fun k => Value.int .i64 k) (hi : I64 l) (hl : l.length ≤ 1000) : Nm (w.alloc (.cells cs t)) (some ⟨w.heap.size, 0, none⟩) l.length l := by
  refine ⟨fun i v hv => ⟨w.heap.size, 0, rfl, ?_, hi v (List.mem_of_getElem? hv)⟩, Nat.le_refl _, by omega, by omega, (fun e => by cases e), (fun ad e _ => by cases e; rfl)⟩
  have := newCells w cs t i (.int .i64 v) (by rw [← Array.getElem?_toList, h, List.getElem?_map, hv]; rfl)
  rwa [add_plain] at this

theorem lonR_i64 (ks : List Int) : I64 (lonR ks) ∧ (lonR ks).length ≤ 256 := by
  unfold lonR
  split
  · rename_i h
    have h1 := lon_length ks
    have h2 := heads_le_len ks
    refine ⟨fun x hx => ?_, by rw [ints_length]; omega⟩
    simp only [ints, List.mem_map] at hx
    obtain ⟨q, hq, rfl⟩ := hx
    have := (sp_range (fr ks) (len ks) 0).1 q hq
    rw [fr_length] at this
    omega
  · exact ⟨fun x hx => (by cases hx), by simp⟩

theorem movR_i64 (ks : List Int) : I64 (movR ks) ∧ (movR ks).length ≤ 256 := by
  unfold movR
  split
  · rename_i h
    have h1 := mov_length ks
    refine ⟨fun x hx => ?_, by rw [ints_length]; omega⟩
    simp only [ints, List.mem_map] at hx
    obtain ⟨q, hq, rfl⟩ := hx
    have := (sp_range (fr ks) (len ks) 0).2 q hq
    rw [fr_length] at this
    omega
  · exact ⟨fun x hx => (by cases hx), by simp⟩

set_option maxRecDepth 100000 in
set_option maxHeartbeats 1600000 in
theorem alive_any (w : World) : Calls Try.prog 18 #[] w fun e w' => e = .returned (.bool true) ∧ Below w.heap.size w w' := by
  have C1 : Hid (Calls Try.prog 10 #[.slice (some ⟨w.heap.size, 0, none⟩) 3 3] (w.alloc (.cells #[.int .i64 3, .int .i64 1, .int .i64 2] 3)) _) := longest_any [3, 1, 2] _ 3 _ (Nm.new w _ [3, 1, 2] _ rfl (fun x hx => by simp at hx; omega) (by decide))
  have E1 : Hid (lonR [3, 1, 2] = [1, 2] ∧ lonR [2, 1] = [0] ∧ errR [3, 1, 2] = 0 ∧ errR [2, 1] = 0) := by show _ ∧ _; decide +kernel
  go_enter Try.func18, Try.ntmps18
  go_wp2_with (fail)
  refine C1.out.mono ?_
  rintro e w1 ⟨v, rfl, h1, h2⟩
  rw [E1.out.1] at h1
  rw [E1.out.2.2.1]
  obtain ⟨va, vc, rfl⟩ := h1.shape
  have B1 : Hid (Below w.heap.size w w1) := nxt (below_one _ _) h2
  have O1 : Hid (OwnI w1 (w.heap.size) (.slice va [1, 2].length vc) [1, 2]) := h1.less (by simp)
  clear h1 h2
  have C2 : Hid (Calls Try.prog 10 #[.slice (some ⟨w1.heap.size, 0, none⟩) 2 2] (w1.alloc (.cells #[.int .i64 2, .int .i64 1] 3)) _) := longest_any [2, 1] _ 2 _ (Nm.new w1 _ [2, 1] _ rfl (fun x hx => by simp at hx; omega) (by decide))
  go_wp2_with fail
  refine C2.out.mono ?_
  rintro e w2 ⟨u, rfl, h1, h2⟩
  rw [E1.out.2.1] at h1
  rw [E1.out.2.2.2]
  obtain ⟨ua, uc, rfl⟩ := h1.shape
  have B2 : Hid (Below w.heap.size w w2) := nxt B1.out (nxt (below_one _ _) h2)
  have O1' : Hid (OwnI w2 w.heap.size (.slice va [1, 2].length vc) [1, 2]) := O1.out.below (nxt (below_one _ _) h2)
  have O2 : Hid (OwnI w2 w.heap.size (.slice ua [0].length uc) [0]) := h1.less (by have := B1.out.size; simp; omega)
  clear h1 h2 O1 C1 C2 E1
  have i1 : I64 [1, 2] := fun x hx => by simp at hx; omega
  have i2 : I64 [0] := fun x hx => by simp at hx; omega
  have D1 : Hid (Calls Try.prog 16 #[.slice va 2 vc, .slice (some ⟨w2.heap.size, 0, none⟩) 2 2] (w2.alloc (.cells #[.int .i64 1, .int .i64 2] 3)) fun e w' => e = .returned (.bool true) ∧ Below (w2.alloc (.cells #[.int .i64 1, .int .i64 2] 3)).heap.size (w2.alloc (.cells #[.int .i64 1, .int .i64 2] 3)) w') := by
    have := sameI_any [1, 2] [1, 2] va (some ⟨w2.heap.size, 0, none⟩) vc 2 (w2.alloc (.cells #[.int .i64 1, .int .i64 2] 3)) ((O1'.out.below (below_one _ _)).nm i1 (by decide)) (Nm.new w2 _ [1, 2] _ rfl i1 (by decide))
    rw [alike_same] at this
    exact this
  have D2 : Hid (∀ w3, Below w2.heap.size w2 w3 → Calls Try.prog 16 #[.slice ua 1 uc, .slice (some ⟨w3.heap.size, 0, none⟩) 1 1] (w3.alloc (.cells #[.int .i64 0] 3)) fun e w' => e = .returned (.bool true) ∧ Below (w3.alloc (.cells #[.int .i64 0] 3)).heap.size (w3.alloc (.cells #[.int .i64 0] 3)) w') := by
    intro w3 hb
    have := sameI_any [0] [0] ua (some ⟨w3.heap.size, 0, none⟩) uc 1 (w3.alloc (.cells #[.int .i64 0] 3)) ((O2.out.below (nxt hb (below_one _ _))).nm i2 (by decide)) (Nm.new w3 _ [0] _ rfl i2 (by decide))
    rw [alike_same] at this
    exact this
  clear i1 i2
  go_wp2_with (first
    | (go_at_call 17; refine (num_any _ _).mono ?_; rintro e w9 ⟨rfl, h9⟩; subst w9)
    | (go_at_call_of 16 (Value.slice va 2 vc); refine D1.out.mono ?_; rintro e w3 ⟨rfl, hb3⟩; have B3 : Hid (Below w2.heap.size w2 w3) := nxt (below_one _ _) hb3; clear hb3 D1)
    | (go_at_call_of 16 (Value.slice ua 1 uc); refine (D2.out _ B3.out).mono ?_; rintro e w4 ⟨rfl, hb4⟩; have B4 : Hid (Below w2.heap.size w2 w4) := nxt B3.out (nxt (below_one _ _) hb4); clear hb4 D2))
  go_ret
  exact ⟨rfl, nxt B2.out B4.out⟩
end Go.Proofs.Yteceljjmandnmaa
