/-
  The page's example: what Eval checks, the copy of a number, Eval of a sum of two numbers over an empty scope.
-/
import Derived.Test.YtndclldicdfmeaaGreatEvRun
import Derived.Test.YtndclldicdfmeaaGreatExOfW
import Derived.Test.YtndclldicdfmeaaGreatExArg
namespace Go.Proofs.YtndclldicdfmeaaGreat
open Go.ChangeShapes Go.WideShapes Go.ChangeAt Go.RowKit Go.Deep

theorem cells_in {w : World} {g : Nat} {cs : Array Value} {t : TypeId} (h : w.heap[g]? = some (.cells cs t (0, 0))) : ∀ j v, cs[j]? = some v → w.cell? ⟨g, j, none⟩ = some v := fun j v hj => by simp [World.cell?, h, hj]

theorem box_new2 (w : World) (o : Obj) (c0 c1 c2 c3 c4 : Value) (t : TypeId) : ((w.alloc o).alloc (.cells #[c0, c1, c2, c3, c4] t)).heap[w.heap.size + 1]? = some (.cells #[c0, c1, c2, c3, c4] t (0, 0)) := heap_new2 _ _ _

set_option maxRecDepth 100000 in
set_option maxHeartbeats 1600000 in
theorem copy_leaf (k b : Int) (t : ByteArray) (w : World) :
    Calls Tryz.prog 26 #[mk k b t none 0 0 none 0 0] w fun e w' => e = .returned (mk k b t none 0 0 none 0 0) ∧ Below w.heap.size w w' := by
  go_enter Tryz.func26, Tryz.ntmps26
  go_wp2_with fail
  refine wp_loop_rounds 1 ?_
  rw [rounds_succ]
  go_wp2_with fail
  obtain ⟨z0, z1, z2, z3, z4⟩ := fresh5b w (.cells #[.int .i64 k, .int .u64 b, .string t, .slice none 0 0, .slice none 0 0] 29) (.int .i64 k) (.int .u64 b) (.string t) (.slice none 0 0) (.slice none 0 0) 29
  refine bodyPost_ret (v := mk k b t none 0 0 none 0 0) (by simp [results, Tryz.results26, go_sem, z0, z1, z2, z3, z4]) rfl ⟨rfl, nxt (below_one _ _) (below_one _ _)⟩

theorem lay_zero (w : World) : Lay w 1 (mk 0 0 ⟨#[]⟩ none 0 0 none 0 0) ((0, 0, ⟨#[]⟩, [], []) : V 1) :=
  ⟨none, 0, none, 0, rfl, ⟨by omega, by omega, by decide, by decide, by decide, by decide, by decide, by decide, by decide⟩, by simp, by simp, fun i s h => by simp at h, fun i u h => by simp at h⟩

theorem msr_zero : (msr (wk 1 ((0, 0, ⟨#[]⟩, [], []) : V 1) 1 (0, 0))).2.2 = 0 := by first | kernel_rfl | decide +kernel | (simp [wk, msr]; rfl)

theorem check_zeroV (w : World) : Calls Tryz.prog 21 #[mk 0 0 ⟨#[]⟩ none 0 0 none 0 0] w fun e w' => e = .returned (.int .i64 0) ∧ Below w.heap.size w w' := by
  have := check_any 1 _ _ w (lay_zero w)
  rw [msr_zero] at this
  exact this

theorem index_0 (w : World) : Sem.run Tryz.prog (Instr.index 74 (.agg #[.int .i64 0, .int .u64 0, .string ⟨#[]⟩, .slice none 0 0, .slice none 0 0, .int .i64 0, .int .u64 0, .string ⟨#[]⟩, .slice none 0 0, .slice none 0 0, .int .i64 0, .int .u64 0, .string ⟨#[]⟩, .slice none 0 0, .slice none 0 0]) (.int .i64 0)) w = .ok (mk 0 0 ⟨#[]⟩ none 0 0 none 0 0) w := by
  simp [Instr.index, run_underlying Tryz.underlying74, part, go_sem]

theorem index_1 (w : World) : Sem.run Tryz.prog (Instr.index 74 (.agg #[.int .i64 0, .int .u64 0, .string ⟨#[]⟩, .slice none 0 0, .slice none 0 0, .int .i64 0, .int .u64 0, .string ⟨#[]⟩, .slice none 0 0, .slice none 0 0, .int .i64 0, .int .u64 0, .string ⟨#[]⟩, .slice none 0 0, .slice none 0 0]) (.int .i64 1)) w = .ok (mk 0 0 ⟨#[]⟩ none 0 0 none 0 0) w := by
  simp [Instr.index, run_underlying Tryz.underlying74, part, go_sem]

theorem index_2 (w : World) : Sem.run Tryz.prog (Instr.index 74 (.agg #[.int .i64 0, .int .u64 0, .string ⟨#[]⟩, .slice none 0 0, .slice none 0 0, .int .i64 0, .int .u64 0, .string ⟨#[]⟩, .slice none 0 0, .slice none 0 0, .int .i64 0, .int .u64 0, .string ⟨#[]⟩, .slice none 0 0, .slice none 0 0]) (.int .i64 2)) w = .ok (mk 0 0 ⟨#[]⟩ none 0 0 none 0 0) w := by
  simp [Instr.index, run_underlying Tryz.underlying74, part, go_sem]

set_option maxRecDepth 100000 in
set_option maxHeartbeats 1600000 in
theorem check_zero (n : Nat) (v : Xp.X n) (k b : Int) (t : ByteArray) (ea : Option Addr) (el ec : Nat) (w : World) (h : Xp.LayX w n (Xp.mkX k b t ea el ec) v) (h0 : (Xp.msrX (Xp.pre Xp.stM n v 1 (0, 0))).2.2 = 0) :
    Calls Tryz.prog 24 #[.agg #[.int .i64 k, .int .u64 b, .string t, .slice ea el ec], .agg #[.int .i64 0, .int .u64 0, .string ⟨#[]⟩, .slice none 0 0, .slice none 0 0, .int .i64 0, .int .u64 0, .string ⟨#[]⟩, .slice none 0 0, .slice none 0 0, .int .i64 0, .int .u64 0, .string ⟨#[]⟩, .slice none 0 0, .slice none 0 0], .int .i64 5] w fun e w' => e = .returned (.int .i64 0) ∧ Below w.heap.size w w' := by
  have HC : Hid (∀ w', Below w.heap.size w w' → Calls Tryz.prog 33 #[.agg #[.int .i64 k, .int .u64 b, .string t, .slice ea el ec]] w' fun e w2 => e = .returned (.int .i64 0) ∧ Below w'.heap.size w' w2) := fun w' hb => by
    have := Xp.checkX_any n v _ w' (Xp.LayX.below n h hb)
    rw [h0] at this
    exact this
  clear h h0
  have i0 := index_0
  have i1 := index_1
  have i2 := index_2
  go_enter Tryz.func24, Tryz.ntmps24
  go_wp2_with (first
    | (go_at_call 33; refine (HC.out _ (nxt (below_one _ _) (below_one _ _))).mono ?_; rintro e w1 ⟨rfl, hb1⟩; have K1 := cells_in ((hb1.block (w.heap.size + 1) (by simp)).trans (heap_new2 _ _ _)); have s0 := K1 0 _ rfl; have s1 := K1 1 _ rfl; have s2 := K1 2 _ rfl; have s3 := K1 3 _ rfl; have s4 := K1 4 _ rfl; have s5 := K1 5 _ rfl; have s6 := K1 6 _ rfl; have s7 := K1 7 _ rfl; have s8 := K1 8 _ rfl; have s9 := K1 9 _ rfl; have s10 := K1 10 _ rfl; have s11 := K1 11 _ rfl; have s12 := K1 12 _ rfl; have s13 := K1 13 _ rfl; have s14 := K1 14 _ rfl))
  refine wp_loop_rounds 4 ?_
  rw [rounds_succ]
  go_wp2_with (go_at_call 21; refine (check_zeroV _).mono ?_; rintro e w2 ⟨rfl, hb2⟩)
  rw [rounds_succ]
  go_wp2_with (go_at_call 21; refine (check_zeroV _).mono ?_; rintro e w3 ⟨rfl, hb3⟩)
  rw [rounds_succ]
  go_wp2_with (go_at_call 21; refine (check_zeroV _).mono ?_; rintro e w4 ⟨rfl, hb4⟩)
  rw [rounds_succ]
  go_wp2_with fail
  go_ret
  exact ⟨rfl, nxt (nxt (nxt (below_one _ _) (below_one _ _)) hb1) (nxt (nxt (below_one _ _) hb2) (nxt (nxt (below_one _ _) hb3) (nxt (below_one _ _) hb4)))⟩
end Go.Proofs.YtndclldicdfmeaaGreat
