/-
  run, where nothing is thrown: what its deferred function leaves, the answer.
-/
import Derived.Test.YtndclldicdfmeaaGreatEvAdd
import Derived.Test.YtndclldicdfmeaaGreatExCaught
namespace Go.Proofs.YtndclldicdfmeaaGreat
open Go.ChangeShapes Go.WideShapes Go.ChangeAt Go.RowKit Go.Deep

set_option maxRecDepth 100000 in
theorem run_idle (q : Nat) (w : World) :
    CallsD Tryz.prog 34 #[.pointer (some ⟨q, 0, none⟩)] .returning w fun e u' w' => e = .returned (.tuple #[]) ∧ u' = .returning ∧ w' = w := by
  refine callsD_of_wpS Tryz.func34 rfl fun c₀ cs hu => ?_
  apply wpS_seq
  apply wpS_region
  simp [wpOpsS, go_sem, recoverD, hu, Tryz.ntmps34, Exit.thenS]
  refine wpS_of_wp ?_
  simp [Array.replicate]
  go_wp2_with fail
  refine ⟨rfl, _, ?_, .tuple #[], by simp [results, Tryz.results34], rfl, rfl, rfl⟩
  cases c₀
  simp_all

set_option maxRecDepth 100000 in
theorem run_thrown (q : Nat) (c : Int) (er : Int) (older : List PanicEntry) (w : World) (hq : w.heap[q]? = some (.cells #[.int .i64 c] 38 (0, 0))) :
    CallsD Tryz.prog 34 #[.pointer (some ⟨q, 0, none⟩)] (.panicking ({ v := .iface 38 (.int .i64 er), recovered := false } :: older)) w fun e u' w' =>
      e = .returned (.tuple #[]) ∧ u' = .panicking ({ v := .iface 38 (.int .i64 er), recovered := true } :: older) ∧ w' = w.setCell ⟨q, 0, none⟩ (.int .i64 er) := by
  refine callsD_of_wpS Tryz.func34 rfl fun c₀ cs hu => ?_
  apply wpS_seq
  apply wpS_region
  simp [wpOpsS, go_sem, recoverD, hu, Tryz.ntmps34, Exit.thenS]
  have q0 : w.cell? ⟨q, 0, none⟩ = some (.int .i64 c) := by simp [World.cell?, hq]
  have g0 : w.frozen? ⟨q, 0, none⟩ = false := by simp [World.frozen?, hq]
  refine wpS_of_wp ?_
  simp [Array.replicate]
  have hta := Xp.assert_errnoX
  go_wp2_with fail
  exact ⟨rfl, _, rfl, .tuple #[], by simp [results, Tryz.results34], rfl, rfl, rfl⟩

theorem one_cells {w : World} {g : Nat} {c : Value} {t : TypeId} (h : w.heap[g]? = some (.cells #[c] t (0, 0))) : w.cell? ⟨g, 0, none⟩ = some c ∧ w.frozen? ⟨g, 0, none⟩ = false := by simp [World.cell?, World.frozen?, h]

/-- What three new variables leave. -/
theorem three_new5 (w : World) (o : Obj) (z0 z1 z2 z3 z4 y : Value) (t t' : TypeId) :
    (((w.alloc o).alloc (.cells #[z0, z1, z2, z3, z4] t)).alloc (.cells #[y] t')).heap[w.heap.size + 1]? = some (.cells #[z0, z1, z2, z3, z4] t (0, 0)) ∧
      (((w.alloc o).alloc (.cells #[z0, z1, z2, z3, z4] t)).alloc (.cells #[y] t')).heap[w.heap.size + 2]? = some (.cells #[y] t' (0, 0)) ∧
      (((w.alloc o).alloc (.cells #[z0, z1, z2, z3, z4] t)).alloc (.cells #[y] t')).heap.size = w.heap.size + 3 := by
  refine ⟨?_, ?_, by simp⟩
  · rw [Below.heap_alloc _ _ _ (by simp)]
    exact heap_new2 _ _ _
  · have := heap_alloc_new ((w.alloc o).alloc (.cells #[z0, z1, z2, z3, z4] t)) (.cells #[y] t')
    simpa using this

set_option maxRecDepth 100000 in
set_option maxHeartbeats 3200000 in
/-- run, where reckon answers. -/
theorem run_ok (M : Nat) (s : List Value) (f f' : Int) (k b : Int) (t : ByteArray) (ea : Option Addr) (el ec : Nat) (k' b' : Int) (t' : ByteArray) (ka : Option Addr) (kl kc : Nat) (ia : Option Addr) (il ic : Nat) (w : World) (hm : Mc w M s f)
    (hr : ∀ w1, Below w.heap.size w w1 → Calls Tryz.prog 35 #[.pointer (some ⟨M, 0, none⟩), (.agg #[.int .i64 k, .int .u64 b, .string t, .slice ea el ec])] w1 fun e w' => e = .returned (mk k' b' t' ka kl kc ia il ic) ∧ Mc w' M s f' ∧ w1.grownBy w' (some M)) :
    Calls Tryz.prog 25 #[.pointer (some ⟨M, 0, none⟩), (.agg #[.int .i64 k, .int .u64 b, .string t, .slice ea el ec])] w fun e w' =>
      e = .returned (.tuple #[mk k' b' t' ka kl kc ia il ic, .int .i64 0]) ∧ Mc w' M s f' ∧ w.grownBy w' (some M) := by
  have hmf : ∀ (fn : Fn) (first cap : Array Value) (w : World), (Instr.makeFunc fn first cap).run Tryz.prog w = .ok (.func fn first cap) w := fun _ _ _ _ => rfl
  have HB : Hid (Below w.heap.size w (((w.alloc (.cells #[.int .i64 k, .int .u64 b, .string t, .slice ea el ec] 34)).alloc (.cells #[.int .i64 0, .int .u64 0, .string ⟨#[]⟩, .slice none 0 0, .slice none 0 0] 29)).alloc (.cells #[.int .i64 0] 38))) := nxt (nxt (below_one _ _) (below_one _ _)) (below_one _ _)
  have HT : Hid ((((w.alloc (.cells #[.int .i64 k, .int .u64 b, .string t, .slice ea el ec] 34)).alloc (.cells #[.int .i64 0, .int .u64 0, .string ⟨#[]⟩, .slice none 0 0, .slice none 0 0] 29)).alloc (.cells #[.int .i64 0] 38)).heap[w.heap.size + 1]? = some (.cells #[.int .i64 0, .int .u64 0, .string ⟨#[]⟩, .slice none 0 0, .slice none 0 0] 29 (0, 0))) := (three_new5 _ _ _ _ _ _ _ _ _ _).1
  have HE : Hid ((((w.alloc (.cells #[.int .i64 k, .int .u64 b, .string t, .slice ea el ec] 34)).alloc (.cells #[.int .i64 0, .int .u64 0, .string ⟨#[]⟩, .slice none 0 0, .slice none 0 0] 29)).alloc (.cells #[.int .i64 0] 38)).heap[w.heap.size + 1 + 1]? = some (.cells #[.int .i64 0] 38 (0, 0))) := (three_new5 _ _ _ _ _ _ _ _ _ _).2.1
  have HL : Hid (M < w.heap.size) := hm.lt
  have HC : Hid (Calls Tryz.prog 35 #[.pointer (some ⟨M, 0, none⟩), (.agg #[.int .i64 k, .int .u64 b, .string t, .slice ea el ec])] (((w.alloc (.cells #[.int .i64 k, .int .u64 b, .string t, .slice ea el ec] 34)).alloc (.cells #[.int .i64 0, .int .u64 0, .string ⟨#[]⟩, .slice none 0 0, .slice none 0 0] 29)).alloc (.cells #[.int .i64 0] 38)) _) := hr _ HB.out
  clear hm hr
  go_enter_defers Tryz.func25, Tryz.ntmps25
  go_wp2_with (go_at_call 35; refine HC.out.mono ?_; rintro e w1 ⟨rfl, hm1, hg1⟩; have T1 := (hg1.block _ (lt_of_block HT.out) (fun e => by have := HL.out; cases e; omega)).trans HT.out; have E1 := (hg1.block _ (lt_of_block HE.out) (fun e => by have := HL.out; cases e; omega)).trans HE.out; obtain ⟨z0, z1, z2, z3, z4, f0, f1, f2, f3, f4⟩ := box_cells T1; obtain ⟨e0, ef0⟩ := one_cells E1)
  have T2 : (((((w1.setCell ⟨w.heap.size + 1, 0, none⟩ (.int .i64 k')).setCell ⟨w.heap.size + 1, 1, none⟩ (.int .u64 b')).setCell ⟨w.heap.size + 1, 2, none⟩ (.string t')).setCell ⟨w.heap.size + 1, 3, none⟩ (.slice ka kl kc)).setCell ⟨w.heap.size + 1, 4, none⟩ (.slice ia il ic)).heap[w.heap.size + 1]? = some (.cells #[.int .i64 k', .int .u64 b', .string t', .slice ka kl kc, .slice ia il ic] 29 (0, 0)) := (five_set T1 _ _ _ _ _).1
  have T3 : ((((((w1.setCell ⟨w.heap.size + 1, 0, none⟩ (.int .i64 k')).setCell ⟨w.heap.size + 1, 1, none⟩ (.int .u64 b')).setCell ⟨w.heap.size + 1, 2, none⟩ (.string t')).setCell ⟨w.heap.size + 1, 3, none⟩ (.slice ka kl kc)).setCell ⟨w.heap.size + 1, 4, none⟩ (.slice ia il ic)).setCell ⟨w.heap.size + 1 + 1, 0, none⟩ (.int .i64 0)).heap[w.heap.size + 1]? = _ := (Below.heap_setCell _ _ _ _ (show w.heap.size + 1 ≠ w.heap.size + 1 + 1 by omega)).trans T2
  have E2 : (((((w1.setCell ⟨w.heap.size + 1, 0, none⟩ (.int .i64 k')).setCell ⟨w.heap.size + 1, 1, none⟩ (.int .u64 b')).setCell ⟨w.heap.size + 1, 2, none⟩ (.string t')).setCell ⟨w.heap.size + 1, 3, none⟩ (.slice ka kl kc)).setCell ⟨w.heap.size + 1, 4, none⟩ (.slice ia il ic)).heap[w.heap.size + 1 + 1]? = some (.cells #[.int .i64 0] 38 (0, 0)) := ((five_set T1 _ _ _ _ _).2.1 _ (by omega)).trans E1
  have E3 : ((((((w1.setCell ⟨w.heap.size + 1, 0, none⟩ (.int .i64 k')).setCell ⟨w.heap.size + 1, 1, none⟩ (.int .u64 b')).setCell ⟨w.heap.size + 1, 2, none⟩ (.string t')).setCell ⟨w.heap.size + 1, 3, none⟩ (.slice ka kl kc)).setCell ⟨w.heap.size + 1, 4, none⟩ (.slice ia il ic)).setCell ⟨w.heap.size + 1 + 1, 0, none⟩ (.int .i64 0)).heap[w.heap.size + 1 + 1]? = some (.cells #[.int .i64 0] 38 (0, 0)) := by
    have := Xp.set_one_cell (o := 0) E2 (.int .i64 0)
    simpa using this
  have G5 : w.grownBy ((((((w1.setCell ⟨w.heap.size + 1, 0, none⟩ (.int .i64 k')).setCell ⟨w.heap.size + 1, 1, none⟩ (.int .u64 b')).setCell ⟨w.heap.size + 1, 2, none⟩ (.string t')).setCell ⟨w.heap.size + 1, 3, none⟩ (.slice ka kl kc)).setCell ⟨w.heap.size + 1, 4, none⟩ (.slice ia il ic)).setCell ⟨w.heap.size + 1 + 1, 0, none⟩ (.int .i64 0)) (some M) := grown_setE (grown_setE (grown_setE (grown_setE (grown_setE (grown_setE (grown_trans (grown_of_below HB.out) hg1) (by omega) _) (by omega) _) (by omega) _) (by omega) _) (by omega) _) (by omega) _
  have M5 : Mc ((((((w1.setCell ⟨w.heap.size + 1, 0, none⟩ (.int .i64 k')).setCell ⟨w.heap.size + 1, 1, none⟩ (.int .u64 b')).setCell ⟨w.heap.size + 1, 2, none⟩ (.string t')).setCell ⟨w.heap.size + 1, 3, none⟩ (.slice ka kl kc)).setCell ⟨w.heap.size + 1, 4, none⟩ (.slice ia il ic)).setCell ⟨w.heap.size + 1 + 1, 0, none⟩ (.int .i64 0)) M s f' := (((((hm1.other (by have := HL.out; omega) _).other (by have := HL.out; omega) _).other (by have := HL.out; omega) _).other (by have := HL.out; omega) _).other (by have := HL.out; omega) _).other (by have := HL.out; omega) _
  generalize ((((((w1.setCell ⟨w.heap.size + 1, 0, none⟩ (.int .i64 k')).setCell ⟨w.heap.size + 1, 1, none⟩ (.int .u64 b')).setCell ⟨w.heap.size + 1, 2, none⟩ (.string t')).setCell ⟨w.heap.size + 1, 3, none⟩ (.slice ka kl kc)).setCell ⟨w.heap.size + 1, 4, none⟩ (.slice ia il ic)).setCell ⟨w.heap.size + 1 + 1, 0, none⟩ (.int .i64 0)) = W9 at *
  refine leaves_cons (f := 34) (args := #[.pointer (some ⟨w.heap.size + 1 + 1, 0, none⟩)]) (by simp) (by simp [go_sem]) ?_
  refine (run_idle _ _).mono ?_
  rintro e u' w3 ⟨rfl, rfl, rfl⟩
  obtain ⟨v0, v1, v2, v3, v4, -⟩ := box_cells T3
  have y0 : w3.cell? ⟨w.heap.size + 1 + 1, 0, none⟩ = some (.int .i64 0) := by simp [World.cell?, E3]
  simp [Leaves, settle, results, Tryz.results25, go_sem, v0, v1, v2, v3, v4, y0]
  exact ⟨M5, G5⟩
end Go.Proofs.YtndclldicdfmeaaGreat
