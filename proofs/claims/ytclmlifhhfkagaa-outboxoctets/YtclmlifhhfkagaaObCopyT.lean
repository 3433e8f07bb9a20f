/-
  Items in memory of their own: the program's copyOf, CopyItems.
-/
import Derived.Test.YtclmlifhhfkagaaObCopy
namespace Go.Proofs.Ytclmlifhhfkagaa
open Go.ChangeShapes Go.WideShapes Go.ChangeAt Go.RowKit

set_option maxRecDepth 100000 in
set_option maxHeartbeats 3200000 in
theorem bcopy_any {n : Nat} (its : List (Tm n)) (ia : Option Addr) (ic : Nat) (w : World) (hT : TIs w n ia ic its) (hc : ∀ u ∈ its, chk u.2.2 = 0) : Calls Try.prog 45 #[.slice ia its.length ic] w (RowPost (shT n) w its) := by
  have HT : Hid (TIs w n ia ic its) := hT
  have hlen := hT.2.2.1
  clear hT
  have HC : Hid (∀ u ∈ its, chk u.2.2 = 0) := hc
  clear hc
  go_enter Try.func45, Try.ntmps45
  go_wp2_with fail
  go_loopw [3, 8] (fun v i wr => ∃ (m : Nat) (H : Nat → Prop), m ≤ its.length ∧ i = .int .i64 m ∧ Hid (CopyInv (shT n) w wr v (its.take m) H)) (fun _ i _ => its.length - (intOf i).toNat)
  case atStart => exact ⟨0, fun _ => False, Nat.zero_le _, rfl, CopyInv.start _ _⟩
  case round =>
    obtain ⟨m, H, hm, rfl, HI⟩ := hrel
    by_cases hlt : m < its.length
    · obtain ⟨b, o, k, bb, t, ka, kl, kc, ja, jl, jc, rfl, q0, q1, q2, q3, q4, q5, q6, hl, hk⟩ := (HT.out.below HI.out.2.2).at m hlt
      have hm1 : (m : Int) < (its.length : Int) := by omega
      have HL : Hid (Lay wr n (mk k bb t ka kl kc ja jl jc) its[m].2.2) := hl
      have HTK : Hid (its.take (m + 1) = its.take m ++ [its[m]]) := List.take_succ_eq_append_getElem hlt
      have HLn : Hid ((its.take m).length = m) := by show _ = _; rw [List.length_take]; omega
      clear hl
      have HE : Hid (∃ u : Tm n, u = its[m]) := ⟨_, rfl⟩
      obtain ⟨u, hu⟩ := HE.out
      clear HE
      have HU : Hid (chk its[m].2.2 = 0 → chk u.2.2 = 0) := by rw [hu]; exact id
      rw [← hu] at q0 q1 HL HTK
      clear hu
      obtain ⟨id, nm, u⟩ := u
      simp only at q0 q1 HL HTK HU
      have B1 : Hid (Below wr.heap.size wr (wr.alloc (.cells #[.int .i64 id, .string nm, .int .i64 k, .int .u64 bb, .string t, .slice ka kl kc, .slice ja jl jc] 54))) := below_one _ _
      have X1 : Hid ((wr.alloc (.cells #[.int .i64 id, .string nm, .int .i64 k, .int .u64 bb, .string t, .slice ka kl kc, .slice ja jl jc] 54)).heap[wr.heap.size]? = some (.cells #[.int .i64 id, .string nm, .int .i64 k, .int .u64 bb, .string t, .slice ka kl kc, .slice ja jl jc] 54 (0, 0))) := heap_alloc_new _ _
      go_wp2_with (first
        | (go_at_call 60; refine (get_nil n _ _ _ _ _ _ _ _ _ _ _ (Lay.below n HL.out B1.out) (HU.out (HC.out _ (List.getElem_mem hlt)))).mono ?_; rintro e w1 ⟨y, F, rfl, ho, hF, hbel⟩; obtain ⟨k', b', t', ka', kl', kc', ia', il', ic', rfl⟩ := Lay.shape n (Own.lay n ho); have hX := (hbel.block _ (lt_of_block X1.out)).trans X1.out; obtain ⟨y0, y1, y2, y3, y4, y5, y6⟩ := box7 hX; obtain ⟨-, z2⟩ := cell_of hX 2; obtain ⟨-, z3⟩ := cell_of hX 3; obtain ⟨-, z4⟩ := cell_of hX 4; obtain ⟨-, z5⟩ := cell_of hX 5; obtain ⟨-, z6⟩ := cell_of hX 6; clear hX;
            have SD : Hid _ := CopyInv.side5 HI.out hbel ho hF 2 3 4 5 6 (.int .i64 k') (.int .u64 b') (.string t') (.slice ka' kl' kc') (.slice ia' il' ic') (.cells #[.int .i64 id, .string nm, .int .i64 k', .int .u64 b', .string t', .slice ka' kl' kc', .slice ia' il' ic'] 54) _ rfl; clear hF ho)
        | (at_builtin; refine wpList_pushT _ rfl _ _ rfl _ (its.take m) H rfl SD.out.1 (id, nm, u) F (.int .i64 k') (.int .u64 b') (.string t') (.slice ka' kl' kc') (.slice ia' il' ic') SD.out.2.1 SD.out.2.2.1 SD.out.2.2.2.1 SD.out.2.2.2.2.1 ⟨w1.heap.size, 0, none⟩ 1 rfl (fun j y hj => news5 _ _ _ _ _ _ _ _ _ _ _ _ _ _ j y hj) ?d6 ?_))
      case d6 => rw [HLn.out]; omega
      intro v' w4 p1 p2 p3 p4
      have R : Hid (CopyInv (shT n) w w4 v' (its.take (m + 1)) (fun b => H b ∨ F b ∨ v'.ownBlock = some b)) := by
        rw [HTK.out]
        exact CopyInv.next HI.out SD.out.2.2.2.2.2.1 SD.out.2.2.2.2.2.2.1 SD.out.2.2.2.2.2.2.2 p1 p2 (by simpa [World.setCell] using p3) p4
      clear p1 p2 p3 p4 SD
      go_wp2_with fail
      go_roundw
      case rel => exact ⟨m + 1, _, by omega, by go_num, R.out⟩
      case measure => simp [intOf]; omega
    · have hme : m = its.length := by omega
      subst hme
      go_wp2_with fail
      go_ret
      have h := HI.out
      rw [List.take_length] at h
      exact ⟨_, H, rfl, h⟩

set_option maxRecDepth 100000 in
set_option maxHeartbeats 3200000 in
theorem copyItems_any {n : Nat} (its : List (Tm n)) (ia : Option Addr) (ic : Nat) (w : World) (hT : TIs w n ia ic its) : Calls Try.prog 14 #[.slice ia its.length ic] w (RowPost (shT n) w its) := by
  have HT : Hid (TIs w n ia ic its) := hT
  have hlen := hT.2.2.1
  clear hT
  go_enter Try.func14, Try.ntmps14
  go_wp2_with fail
  go_loopw [3, 4] (fun v i wr => ∃ (m : Nat) (H : Nat → Prop), m ≤ its.length ∧ i = .int .i64 m ∧ Hid (CopyInv (shT n) w wr v (its.take m) H)) (fun _ i _ => its.length - (intOf i).toNat)
  case atStart => exact ⟨0, fun _ => False, Nat.zero_le _, rfl, CopyInv.start _ _⟩
  case round =>
    obtain ⟨m, H, hm, rfl, HI⟩ := hrel
    by_cases hlt : m < its.length
    · obtain ⟨b, o, k, bb, t, ka, kl, kc, ja, jl, jc, rfl, q0, q1, q2, q3, q4, q5, q6, hl, hk⟩ := (HT.out.below HI.out.2.2).at m hlt
      have hm1 : (m : Int) < (its.length : Int) := by omega
      have HL : Hid (Lay wr n (mk k bb t ka kl kc ja jl jc) its[m].2.2) := hl
      have HTK : Hid (its.take (m + 1) = its.take m ++ [its[m]]) := List.take_succ_eq_append_getElem hlt
      have HLn : Hid ((its.take m).length = m) := by show _ = _; rw [List.length_take]; omega
      clear hl
      have HE : Hid (∃ u : Tm n, u = its[m]) := ⟨_, rfl⟩
      obtain ⟨u, hu⟩ := HE.out
      clear HE
      have HU : Hid (chk its[m].2.2 = 0 → chk u.2.2 = 0) := by rw [hu]; exact id
      rw [← hu] at q0 q1 HL HTK
      clear hu
      obtain ⟨id, nm, u⟩ := u
      simp only at q0 q1 HL HTK HU
      have B1 : Hid (Below wr.heap.size wr (wr.alloc (.cells #[.int .i64 id, .string nm, .int .i64 k, .int .u64 bb, .string t, .slice ka kl kc, .slice ja jl jc] 54))) := below_one _ _
      have X1 : Hid ((wr.alloc (.cells #[.int .i64 id, .string nm, .int .i64 k, .int .u64 bb, .string t, .slice ka kl kc, .slice ja jl jc] 54)).heap[wr.heap.size]? = some (.cells #[.int .i64 id, .string nm, .int .i64 k, .int .u64 bb, .string t, .slice ka kl kc, .slice ja jl jc] 54 (0, 0))) := heap_alloc_new _ _
      go_wp2_with (first
        | (go_at_call 30; refine (copy_any n _ _ _ (Lay.below n HL.out B1.out)).mono ?_; rintro e w1 ⟨y, F, rfl, ho, hF, hbel⟩; obtain ⟨k', b', t', ka', kl', kc', ia', il', ic', rfl⟩ := Lay.shape n (Own.lay n ho); have hX := (hbel.block _ (lt_of_block X1.out)).trans X1.out; obtain ⟨y0, y1, y2, y3, y4, y5, y6⟩ := box7 hX; obtain ⟨-, z2⟩ := cell_of hX 2; obtain ⟨-, z3⟩ := cell_of hX 3; obtain ⟨-, z4⟩ := cell_of hX 4; obtain ⟨-, z5⟩ := cell_of hX 5; obtain ⟨-, z6⟩ := cell_of hX 6; clear hX;
            have SD : Hid _ := CopyInv.side5 HI.out hbel ho hF 2 3 4 5 6 (.int .i64 k') (.int .u64 b') (.string t') (.slice ka' kl' kc') (.slice ia' il' ic') (.cells #[.int .i64 id, .string nm, .int .i64 k', .int .u64 b', .string t', .slice ka' kl' kc', .slice ia' il' ic'] 54) _ rfl; clear hF ho)
        | (at_builtin; refine wpList_pushT _ rfl _ _ rfl _ (its.take m) H rfl SD.out.1 (id, nm, u) F (.int .i64 k') (.int .u64 b') (.string t') (.slice ka' kl' kc') (.slice ia' il' ic') SD.out.2.1 SD.out.2.2.1 SD.out.2.2.2.1 SD.out.2.2.2.2.1 ⟨w1.heap.size, 0, none⟩ 1 rfl (fun j y hj => news5 _ _ _ _ _ _ _ _ _ _ _ _ _ _ j y hj) ?d6 ?_))
      case d6 => rw [HLn.out]; omega
      intro v' w4 p1 p2 p3 p4
      have R : Hid (CopyInv (shT n) w w4 v' (its.take (m + 1)) (fun b => H b ∨ F b ∨ v'.ownBlock = some b)) := by
        rw [HTK.out]
        exact CopyInv.next HI.out SD.out.2.2.2.2.2.1 SD.out.2.2.2.2.2.2.1 SD.out.2.2.2.2.2.2.2 p1 p2 (by simpa [World.setCell] using p3) p4
      clear p1 p2 p3 p4 SD
      go_wp2_with fail
      go_roundw
      case rel => exact ⟨m + 1, _, by omega, by go_num, R.out⟩
      case measure => simp [intOf]; omega
    · have hme : m = its.length := by omega
      subst hme
      go_wp2_with fail
      go_ret
      have h := HI.out
      rw [List.take_length] at h
      exact ⟨_, H, rfl, h⟩

end Go.Proofs.Ytclmlifhhfkagaa
