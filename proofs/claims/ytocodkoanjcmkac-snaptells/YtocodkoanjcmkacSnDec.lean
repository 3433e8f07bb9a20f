/-
  The program's snapOf and Decode.
-/
import Derived.Test.YtocodkoanjcmkacSnFrame
namespace Go.Proofs.Ytocodkoanjcmkac
open Go.ChangeShapes Go.WideShapes Go.ChangeAt Go.RowKit Go.Deep
open Se

theorem boxed3 {W : World} {g : Nat} {a b c : Value} {T : TypeId} (h : W.heap[g]? = some (.cells #[a, b, c] T (0, 0))) (x y z : Value) : (((W.setCell ⟨g, 0, none⟩ x).setCell ⟨g, 1, none⟩ y).setCell ⟨g, 2, none⟩ z).heap[g]? = some (.cells #[x, y, z] T (0, 0)) := by
  rw [set_one_cell (set_one_cell (set_one_cell h x) y) z]
  rfl
theorem Below.box3 {B g : Nat} {w W : World} (h : Below B w W) (hg : B ≤ g) (x y z : Value) : Below B w (((W.setCell ⟨g, 0, none⟩ x).setCell ⟨g, 1, none⟩ y).setCell ⟨g, 2, none⟩ z) := ((h.setCell hg x).setCell hg y).setCell hg z
/-- No octets lie anywhere. -/
theorem Oct.none (w : World) (a : Option Addr) : Oct w a 0 [] := ⟨fun i o h => by simp at h, Nat.le_refl _, by omega, by simp, fun _ => rfl, fun _ _ h => by omega⟩

set_option maxRecDepth 100000 in
set_option maxHeartbeats 3200000 in
theorem snapOf_any (a : Option Addr) (c : Nat) (l : List UInt8) (w : World) (ho : Oct w a c l) (h16 : 16 ≤ l.length) (hl : l.length ≤ 100000) :
    Calls Try.prog 28 #[.slice a l.length c] w fun x w' => ∃ a2 c2, x = .returned (.agg #[.int .i64 (sgn (numO (l.take 8))), .int .i64 (sgn (numO ((l.take 16).drop 8))), .slice a2 (l.length - 16) c2]) ∧ Oct w' a2 c2 (l.drop 16) ∧ (∀ ad, a2 = some ad → ∃ ad', a = some ad' ∧ ad'.block = ad.block) ∧ Below w.heap.size w w' := by
  have HO : Hid (Oct w a c l) := ho
  obtain ⟨hL, hcl, hc63, hdl, hnil, had⟩ := ho
  obtain ⟨b, off, rfl, -⟩ := layB_get hL (show 0 < l.length by omega)
  clear hL hnil had
  obtain ⟨v0, v1, v2, v3, v4, v5, v6, v7, v8, v9, v10, v11, v12, v13, v14, v15, hv⟩ : ∃ v0 v1 v2 v3 v4 v5 v6 v7 v8 v9 v10 v11 v12 v13 v14 v15 : Nat, cellsO (l.take 16) = [.int .u8 (v0 : Int), .int .u8 (v1 : Int), .int .u8 (v2 : Int), .int .u8 (v3 : Int), .int .u8 (v4 : Int), .int .u8 (v5 : Int), .int .u8 (v6 : Int), .int .u8 (v7 : Int), .int .u8 (v8 : Int), .int .u8 (v9 : Int), .int .u8 (v10 : Int), .int .u8 (v11 : Int), .int .u8 (v12 : Int), .int .u8 (v13 : Int), .int .u8 (v14 : Int), .int .u8 (v15 : Int)] := by
    have hl16 : (l.take 16).length = 16 := by rw [List.length_take]; omega
    match hm : l.take 16, hl16 with
    | [x0, x1, x2, x3, x4, x5, x6, x7, x8, x9, x10, x11, x12, x13, x14, x15], _ => exact ⟨_, _, _, _, _, _, _, _, _, _, _, _, _, _, _, _, rfl⟩
  have HV : Hid (cellsO (l.take 16) = [.int .u8 (v0 : Int), .int .u8 (v1 : Int), .int .u8 (v2 : Int), .int .u8 (v3 : Int), .int .u8 (v4 : Int), .int .u8 (v5 : Int), .int .u8 (v6 : Int), .int .u8 (v7 : Int), .int .u8 (v8 : Int), .int .u8 (v9 : Int), .int .u8 (v10 : Int), .int .u8 (v11 : Int), .int .u8 (v12 : Int), .int .u8 (v13 : Int), .int .u8 (v14 : Int), .int .u8 (v15 : Int)]) := hv
  have HQ : Hid (∀ j v, [Value.int .u8 (v0 : Int), .int .u8 (v1 : Int), .int .u8 (v2 : Int), .int .u8 (v3 : Int), .int .u8 (v4 : Int), .int .u8 (v5 : Int), .int .u8 (v6 : Int), .int .u8 (v7 : Int), .int .u8 (v8 : Int), .int .u8 (v9 : Int), .int .u8 (v10 : Int), .int .u8 (v11 : Int), .int .u8 (v12 : Int), .int .u8 (v13 : Int), .int .u8 (v14 : Int), .int .u8 (v15 : Int)][j]? = some v → w.cell? ⟨b, off + j, none⟩ = some v) := by
    intro j v hj
    rw [← hv] at hj
    simp only [cellsO, List.getElem?_map, Option.map_eq_some_iff, List.getElem?_take] at hj
    obtain ⟨o', ho', rfl⟩ := hj
    split at ho'
    · obtain ⟨b', off', e', hc⟩ := HO.out.1 j o' ho'
      cases e'
      exact hc
    · cases ho'
  clear hv
  have q0 : ∀ o, (w.alloc o).cell? ⟨b, off, none⟩ = some (.int .u8 (v0 : Int)) := fun o => keepc (below_one _ _) _ _ (HQ.out 0 _ rfl)
  have q1 : ∀ o, (w.alloc o).cell? ⟨b, off + 1, none⟩ = some (.int .u8 (v1 : Int)) := fun o => keepc (below_one _ _) _ _ (HQ.out 1 _ rfl)
  have q2 : ∀ o, (w.alloc o).cell? ⟨b, off + 2, none⟩ = some (.int .u8 (v2 : Int)) := fun o => keepc (below_one _ _) _ _ (HQ.out 2 _ rfl)
  have q3 : ∀ o, (w.alloc o).cell? ⟨b, off + 3, none⟩ = some (.int .u8 (v3 : Int)) := fun o => keepc (below_one _ _) _ _ (HQ.out 3 _ rfl)
  have q4 : ∀ o, (w.alloc o).cell? ⟨b, off + 4, none⟩ = some (.int .u8 (v4 : Int)) := fun o => keepc (below_one _ _) _ _ (HQ.out 4 _ rfl)
  have q5 : ∀ o, (w.alloc o).cell? ⟨b, off + 5, none⟩ = some (.int .u8 (v5 : Int)) := fun o => keepc (below_one _ _) _ _ (HQ.out 5 _ rfl)
  have q6 : ∀ o, (w.alloc o).cell? ⟨b, off + 6, none⟩ = some (.int .u8 (v6 : Int)) := fun o => keepc (below_one _ _) _ _ (HQ.out 6 _ rfl)
  have q7 : ∀ o, (w.alloc o).cell? ⟨b, off + 7, none⟩ = some (.int .u8 (v7 : Int)) := fun o => keepc (below_one _ _) _ _ (HQ.out 7 _ rfl)
  have q8 : ∀ o, (w.alloc o).cell? ⟨b, off + 8, none⟩ = some (.int .u8 (v8 : Int)) := fun o => keepc (below_one _ _) _ _ (HQ.out 8 _ rfl)
  have q9 : ∀ o, (w.alloc o).cell? ⟨b, off + 9, none⟩ = some (.int .u8 (v9 : Int)) := fun o => keepc (below_one _ _) _ _ (HQ.out 9 _ rfl)
  have q10 : ∀ o, (w.alloc o).cell? ⟨b, off + 10, none⟩ = some (.int .u8 (v10 : Int)) := fun o => keepc (below_one _ _) _ _ (HQ.out 10 _ rfl)
  have q11 : ∀ o, (w.alloc o).cell? ⟨b, off + 11, none⟩ = some (.int .u8 (v11 : Int)) := fun o => keepc (below_one _ _) _ _ (HQ.out 11 _ rfl)
  have q12 : ∀ o, (w.alloc o).cell? ⟨b, off + 12, none⟩ = some (.int .u8 (v12 : Int)) := fun o => keepc (below_one _ _) _ _ (HQ.out 12 _ rfl)
  have q13 : ∀ o, (w.alloc o).cell? ⟨b, off + 13, none⟩ = some (.int .u8 (v13 : Int)) := fun o => keepc (below_one _ _) _ _ (HQ.out 13 _ rfl)
  have q14 : ∀ o, (w.alloc o).cell? ⟨b, off + 14, none⟩ = some (.int .u8 (v14 : Int)) := fun o => keepc (below_one _ _) _ _ (HQ.out 14 _ rfl)
  have q15 : ∀ o, (w.alloc o).cell? ⟨b, off + 15, none⟩ = some (.int .u8 (v15 : Int)) := fun o => keepc (below_one _ _) _ _ (HQ.out 15 _ rfl)
  have hA : ∀ w', Sem.run Try.prog (Instr.arrayAt 67 (.slice (some ⟨b, off, none⟩) 16 c)) w' = .ok (.pointer (some ⟨b, off, none⟩)) w' := fun w' => by simp [Instr.arrayAt, run_underlying Try.underlying67]
  have B0 : Hid (Below w.heap.size w ((w.alloc (.cells #[.int .i64 0, .int .i64 0, .slice none 0 0] 25)).alloc (.cells #[.int .u8 (v0 : Int), .int .u8 (v1 : Int), .int .u8 (v2 : Int), .int .u8 (v3 : Int), .int .u8 (v4 : Int), .int .u8 (v5 : Int), .int .u8 (v6 : Int), .int .u8 (v7 : Int), .int .u8 (v8 : Int), .int .u8 (v9 : Int), .int .u8 (v10 : Int), .int .u8 (v11 : Int), .int .u8 (v12 : Int), .int .u8 (v13 : Int), .int .u8 (v14 : Int), .int .u8 (v15 : Int)] 67))) := nxt (below_one _ _) (below_one _ _)
  have X0 : Hid (((w.alloc (.cells #[.int .i64 0, .int .i64 0, .slice none 0 0] 25)).alloc (.cells #[.int .u8 (v0 : Int), .int .u8 (v1 : Int), .int .u8 (v2 : Int), .int .u8 (v3 : Int), .int .u8 (v4 : Int), .int .u8 (v5 : Int), .int .u8 (v6 : Int), .int .u8 (v7 : Int), .int .u8 (v8 : Int), .int .u8 (v9 : Int), .int .u8 (v10 : Int), .int .u8 (v11 : Int), .int .u8 (v12 : Int), .int .u8 (v13 : Int), .int .u8 (v14 : Int), .int .u8 (v15 : Int)] 67)).heap[w.heap.size]? = some (.cells #[.int .i64 0, .int .i64 0, .slice none 0 0] 25 (0, 0))) := (Below.heap_alloc _ _ _ (by simp)).trans (heap_alloc_new _ _)
  have Y0 : Hid (((w.alloc (.cells #[.int .i64 0, .int .i64 0, .slice none 0 0] 25)).alloc (.cells #[.int .u8 (v0 : Int), .int .u8 (v1 : Int), .int .u8 (v2 : Int), .int .u8 (v3 : Int), .int .u8 (v4 : Int), .int .u8 (v5 : Int), .int .u8 (v6 : Int), .int .u8 (v7 : Int), .int .u8 (v8 : Int), .int .u8 (v9 : Int), .int .u8 (v10 : Int), .int .u8 (v11 : Int), .int .u8 (v12 : Int), .int .u8 (v13 : Int), .int .u8 (v14 : Int), .int .u8 (v15 : Int)] 67)).heap[w.heap.size + 1]? = some (.cells (cellsO (l.take 16)).toArray 67 (0, 0))) := by show _ = _; rw [HV.out]; exact heap_new2 _ _ _
  go_enter Try.func28, Try.ntmps28
  go_wp2_with fail
  generalize (w.alloc (.cells #[.int .i64 0, .int .i64 0, .slice none 0 0] 25)).alloc (.cells #[.int .u8 (v0 : Int), .int .u8 (v1 : Int), .int .u8 (v2 : Int), .int .u8 (v3 : Int), .int .u8 (v4 : Int), .int .u8 (v5 : Int), .int .u8 (v6 : Int), .int .u8 (v7 : Int), .int .u8 (v8 : Int), .int .u8 (v9 : Int), .int .u8 (v10 : Int), .int .u8 (v11 : Int), .int .u8 (v12 : Int), .int .u8 (v13 : Int), .int .u8 (v14 : Int), .int .u8 (v15 : Int)] 67) = W at *
  have HLA : Hid (LayB W.drew (some ⟨w.heap.size + 1, 0, none⟩) (l.take 16)) := fun j o hj => ⟨_, _, rfl, (cell_of (w := W.drew) Y0.out _).1.trans (by rw [List.getElem?_toArray]; simp only [cellsO, List.getElem?_map]; rw [Nat.zero_add, hj]; rfl)⟩
  have e8 : (l.take 8).length = 8 := by rw [List.length_take]; omega
  have e8' : ((l.take 16).drop 8).length = 8 := by rw [List.length_drop, List.length_take]; omega
  obtain ⟨N, hN0, hN8⟩ : ∃ N : Nat → Int, N 0 = sgn (numO (l.take 8)) ∧ N 8 = sgn (numO ((l.take 16).drop 8)) := ⟨fun o => if o = 0 then sgn (numO (l.take 8)) else sgn (numO ((l.take 16).drop 8)), rfl, rfl⟩
  have HNN : Hid (∀ o k : Nat, (o = 0 ∨ o = 8) → Calls Try.prog 38 #[.slice (some ⟨w.heap.size + 1, o, none⟩) 8 k] W.drew fun x w' => x = .returned (.int .i64 (N o)) ∧ w' = W.drew) := by
    intro o k ho
    rcases ho with rfl | rfl
    · have := numberOf_any (some ⟨w.heap.size + 1, 0, none⟩) k (l.take 8) W.drew (fun j o hj => HLA.out j o (by rw [List.getElem?_take] at hj ⊢; split at hj; rw [if_pos (by omega)]; exact hj; cases hj)) (by omega)
      rw [e8, ← hN0] at this
      exact this
    · have := numberOf_any (some ⟨w.heap.size + 1, 8, none⟩) k ((l.take 16).drop 8) W.drew (fun j o hj => by
        rw [List.getElem?_drop] at hj
        obtain ⟨b', off', e', hc⟩ := HLA.out _ o hj
        cases e'
        exact ⟨_, _, rfl, by rw [Nat.zero_add] at hc; exact hc⟩) (by omega)
      rw [e8', ← hN8] at this
      exact this
  have HN0 : Hid (N 0 = sgn (numO (l.take 8)) ∧ N 8 = sgn (numO ((l.take 16).drop 8))) := ⟨hN0, hN8⟩
  clear hN0 hN8
  have x0 := (cell_of (w := W.drew) X0.out 0)
  have x1 := (cell_of (w := W.drew) X0.out 1)
  have x2 := (cell_of (w := W.drew) X0.out 2)
  simp at x0 x1 x2
  obtain ⟨x0, f0⟩ := x0
  obtain ⟨x1, f1⟩ := x1
  obtain ⟨x2, f2⟩ := x2
  clear e8 e8' HLA HQ HV q0 q1 q2 q3 q4 q5 q6 q7 q8 q9 q10 q11 q12 q13 q14 q15 hA
  have h16' : (16 : Int) ≤ l.length := by omega
  by_cases hc16 : c = 16
  · subst hc16
    go_region_with ((go_at_call 38; refine (HNN.out _ _ (by first | exact Or.inl rfl | exact Or.inr rfl)).mono ?_; rintro x w1 ⟨rfl, hw1⟩; subst w1))
    have S3 := boxed3 X0.out (.int .i64 (N 0)) (.int .i64 (N 8)) (.slice (some ⟨b, off, none⟩) 0 0)
    have BB : Below w.heap.size w (((W.setCell ⟨w.heap.size, 0, none⟩ (.int .i64 (N 0))).setCell ⟨w.heap.size, 1, none⟩ (.int .i64 (N 8))).setCell ⟨w.heap.size, 2, none⟩ (.slice (some ⟨b, off, none⟩) 0 0)).drew := (Below.box3 B0.out (Nat.le_refl _) _ _ _).trans (Below.refl _ _).drew
    have S3d : Hid ((((W.setCell ⟨w.heap.size, 0, none⟩ (.int .i64 (N 0))).setCell ⟨w.heap.size, 1, none⟩ (.int .i64 (N 8))).setCell ⟨w.heap.size, 2, none⟩ (.slice (some ⟨b, off, none⟩) 0 0)).drew.heap[w.heap.size]? = some (.cells #[.int .i64 (N 0), .int .i64 (N 8), .slice (some ⟨b, off, none⟩) 0 0] 25 (0, 0))) := S3
    have HBB : Hid (Below w.heap.size w (((W.setCell ⟨w.heap.size, 0, none⟩ (.int .i64 (N 0))).setCell ⟨w.heap.size, 1, none⟩ (.int .i64 (N 8))).setCell ⟨w.heap.size, 2, none⟩ (.slice (some ⟨b, off, none⟩) 0 0)).drew) := BB
    clear S3 BB x0 x1 x2 f0 f1 f2 HNN X0 Y0 B0
    generalize (((W.setCell ⟨w.heap.size, 0, none⟩ (.int .i64 (N 0))).setCell ⟨w.heap.size, 1, none⟩ (.int .i64 (N 8))).setCell ⟨w.heap.size, 2, none⟩ (.slice (some ⟨b, off, none⟩) 0 0)).drew = W4 at *
    obtain ⟨s0, -⟩ := cell_of S3d.out 0
    obtain ⟨s1, -⟩ := cell_of S3d.out 1
    obtain ⟨s2, -⟩ := cell_of S3d.out 2
    simp at s0 s1 s2
    go_wp2_with fail
    refine bodyPost_ret (v := .agg #[.int .i64 (N 0), .int .i64 (N 8), .slice (some ⟨b, off, none⟩) 0 0]) (by simp [results, Try.results28, go_sem, s0, s1, s2]) rfl ?_
    have hl0 : l.length = 16 := by omega
    refine ⟨some ⟨b, off, none⟩, 0, by rw [HN0.out.1, HN0.out.2, hl0], ?_, (fun ad h => ⟨_, rfl, by cases h; rfl⟩), HBB.out⟩
    have : l.drop 16 = [] := List.drop_eq_nil_of_le (by omega)
    rw [this]
    exact Oct.none _ _
  · have hc16' : ¬ (16 : Nat) = c := fun e => hc16 e.symm
    go_region_with ((go_at_call 38; refine (HNN.out _ _ (by first | exact Or.inl rfl | exact Or.inr rfl)).mono ?_; rintro x w1 ⟨rfl, hw1⟩; subst w1))
    have S3 := boxed3 X0.out (.int .i64 (N 0)) (.int .i64 (N 8)) (.slice (some ⟨b, off + 16, none⟩) (l.length - 16) (c - 16))
    have BB : Below w.heap.size w (((W.setCell ⟨w.heap.size, 0, none⟩ (.int .i64 (N 0))).setCell ⟨w.heap.size, 1, none⟩ (.int .i64 (N 8))).setCell ⟨w.heap.size, 2, none⟩ (.slice (some ⟨b, off + 16, none⟩) (l.length - 16) (c - 16))).drew := (Below.box3 B0.out (Nat.le_refl _) _ _ _).trans (Below.refl _ _).drew
    have S3d : Hid ((((W.setCell ⟨w.heap.size, 0, none⟩ (.int .i64 (N 0))).setCell ⟨w.heap.size, 1, none⟩ (.int .i64 (N 8))).setCell ⟨w.heap.size, 2, none⟩ (.slice (some ⟨b, off + 16, none⟩) (l.length - 16) (c - 16))).drew.heap[w.heap.size]? = some (.cells #[.int .i64 (N 0), .int .i64 (N 8), .slice (some ⟨b, off + 16, none⟩) (l.length - 16) (c - 16)] 25 (0, 0))) := S3
    have HBB : Hid (Below w.heap.size w (((W.setCell ⟨w.heap.size, 0, none⟩ (.int .i64 (N 0))).setCell ⟨w.heap.size, 1, none⟩ (.int .i64 (N 8))).setCell ⟨w.heap.size, 2, none⟩ (.slice (some ⟨b, off + 16, none⟩) (l.length - 16) (c - 16))).drew) := BB
    clear S3 BB x0 x1 x2 f0 f1 f2 HNN X0 Y0 B0
    generalize (((W.setCell ⟨w.heap.size, 0, none⟩ (.int .i64 (N 0))).setCell ⟨w.heap.size, 1, none⟩ (.int .i64 (N 8))).setCell ⟨w.heap.size, 2, none⟩ (.slice (some ⟨b, off + 16, none⟩) (l.length - 16) (c - 16))).drew = W4 at *
    obtain ⟨s0, -⟩ := cell_of S3d.out 0
    obtain ⟨s1, -⟩ := cell_of S3d.out 1
    obtain ⟨s2, -⟩ := cell_of S3d.out 2
    simp at s0 s1 s2
    go_wp2_with fail
    refine bodyPost_ret (v := .agg #[.int .i64 (N 0), .int .i64 (N 8), .slice (some ⟨b, off + 16, none⟩) (l.length - 16) (c - 16)]) (by simp [results, Try.results28, go_sem, s0, s1, s2]) rfl ?_
    refine ⟨some ⟨b, off + 16, none⟩, c - 16, by rw [HN0.out.1, HN0.out.2], ?_, (fun ad h => ⟨_, rfl, by cases h; rfl⟩), HBB.out⟩
    have := Oct.part (HO.out.below HBB.out) 16 l.length (by omega) (Nat.le_refl _)
    rw [List.take_length] at this
    exact this
end Go.Proofs.Ytocodkoanjcmkac
