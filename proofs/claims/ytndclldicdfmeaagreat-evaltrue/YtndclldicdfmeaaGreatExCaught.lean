/-
  The panic caught: measure, Check, Size.
-/
import Derived.Test.YtndclldicdfmeaaGreatExMeas
namespace Go.Proofs.YtndclldicdfmeaaGreat.Xp
open Go.ChangeShapes Go.WideShapes Go.ChangeAt Go.RowKit
open Fl

theorem assert_errnoX (v : Value) (w : World) : Sem.run Tryz.prog (Instr.typeAssert (Value.iface 38 v) 20 38 false) w = .ok v w := by
  simp [Instr.typeAssert, run_underlying Tryz.underlying38]

set_option maxRecDepth 100000 in
theorem catchT_panicking (q : Nat) (c : Int) (er : Int) (older : List PanicEntry) (w : World) (hq : w.heap[q]? = some (.cells #[.int .i64 c] 38 (0, 0))) :
    CallsD Tryz.prog 101 #[.pointer (some ⟨q, 0, none⟩)] (.panicking ({ v := .iface 38 (.int .i64 er), recovered := false } :: older)) w fun e u' w' =>
      e = .returned (.tuple #[]) ∧ u' = .panicking ({ v := .iface 38 (.int .i64 er), recovered := true } :: older) ∧ w' = w.setCell ⟨q, 0, none⟩ (.int .i64 er) := by
  refine callsD_of_wpS Tryz.func101 rfl fun c₀ cs hu => ?_
  apply wpS_seq
  apply wpS_region
  simp [wpOpsS, go_sem, recoverD, hu, Tryz.ntmps101, Exit.thenS]
  have q0 : w.cell? ⟨q, 0, none⟩ = some (.int .i64 c) := by simp [World.cell?, hq]
  have g0 : w.frozen? ⟨q, 0, none⟩ = false := by simp [World.frozen?, hq]
  refine wpS_of_wp ?_
  simp [Array.replicate]
  have hta := assert_errnoX
  go_wp2_with fail
  exact ⟨rfl, _, rfl, .tuple #[], by simp [results, Tryz.results101], rfl, rfl, rfl⟩

set_option maxRecDepth 100000 in
theorem catchT_idle (q : Nat) (w : World) :
    CallsD Tryz.prog 101 #[.pointer (some ⟨q, 0, none⟩)] .returning w fun e u' w' => e = .returned (.tuple #[]) ∧ u' = .returning ∧ w' = w := by
  refine callsD_of_wpS Tryz.func101 rfl fun c₀ cs hu => ?_
  apply wpS_seq
  apply wpS_region
  simp [wpOpsS, go_sem, recoverD, hu, Tryz.ntmps101, Exit.thenS]
  refine wpS_of_wp ?_
  simp [Array.replicate]
  go_wp2_with fail
  refine ⟨rfl, _, ?_, .tuple #[], by simp [results, Tryz.results101], rfl, rfl, rfl⟩
  cases c₀
  simp_all

set_option maxRecDepth 100000 in
set_option maxHeartbeats 1600000 in
theorem caughtT_any (n : Nat) (v : X n) (k b : Int) (t : ByteArray) (ia : Option Addr) (il ic : Nat) (Pt : Nat) (w : World) (hp : w.heap[Pt]? = some (.cells #[.int .i64 k, .int .u64 b, .string t, .slice ia il ic] 34 (0, 0))) (hl : LayX w n (mkX k b t ia il ic) v) :
    Calls Tryz.prog 65 #[.func (.func 66) #[] #[.pointer (some ⟨Pt, 0, none⟩)]] w fun e w' =>
      e = .returned (.tuple #[.agg #[.int .i64 (msrX (pre stM n v 1 (0, 0))).1, .int .i64 (msrX (pre stM n v 1 (0, 0))).2.1], .int .i64 (msrX (pre stM n v 1 (0, 0))).2.2]) ∧ Below w.heap.size w w' := by
  have hmf : ∀ (fn : Fn) (first cap : Array Value) (w : World), (Instr.makeFunc fn first cap).run Tryz.prog w = .ok (.func fn first cap) w := fun _ _ _ _ => rfl
  have HB2 : Hid (Below w.heap.size w ((w.alloc (.cells #[.int .i64 0, .int .i64 0] 84)).alloc (.cells #[.int .i64 0] 38))) := nxt (below_one _ _) (below_one _ _)
  have HP2 : Hid (((w.alloc (.cells #[.int .i64 0, .int .i64 0] 84)).alloc (.cells #[.int .i64 0] 38)).heap[Pt]? = some (.cells #[.int .i64 k, .int .u64 b, .string t, .slice ia il ic] 34 (0, 0))) := (HB2.out.block _ (lt_of_block hp)).trans hp
  have HL2 : Hid (LayX ((w.alloc (.cells #[.int .i64 0, .int .i64 0] 84)).alloc (.cells #[.int .i64 0] 38)) n (mkX k b t ia il ic) v) := LayX.below n hl HB2.out
  have HM : Hid (Calls Tryz.prog 66 #[.pointer (some ⟨Pt, 0, none⟩)] ((w.alloc (.cells #[.int .i64 0, .int .i64 0] 84)).alloc (.cells #[.int .i64 0] 38)) (MeasPost (pre stM n v 1 (0, 0)) _)) := measure1_any n v k b t ia il ic Pt _ HP2.out HL2.out
  have HT2 : Hid (((w.alloc (.cells #[.int .i64 0, .int .i64 0] 84)).alloc (.cells #[.int .i64 0] 38)).heap[w.heap.size]? = some (.cells #[.int .i64 0, .int .i64 0] 84 (0, 0))) := (Below.heap_alloc _ _ _ (by simp)).trans (heap_alloc_new _ _)
  have HE2 : Hid (((w.alloc (.cells #[.int .i64 0, .int .i64 0] 84)).alloc (.cells #[.int .i64 0] 38)).heap[w.heap.size + 1]? = some (.cells #[.int .i64 0] 38 (0, 0))) := heap_new2 _ _ _
  have hsz2 : ((w.alloc (.cells #[.int .i64 0, .int .i64 0] 84)).alloc (.cells #[.int .i64 0] 38)).heap.size = w.heap.size + 2 := by simp
  have HS2 : Hid (((w.alloc (.cells #[.int .i64 0, .int .i64 0] 84)).alloc (.cells #[.int .i64 0] 38)).heap.size = w.heap.size + 2) := hsz2
  clear hp hl HP2 HL2 hsz2
  cases hr : pre stM n v 1 (0, 0) with
  | error er =>
    rw [hr] at HM
    clear hr
    go_enter_defers Tryz.func65, Tryz.ntmps65
    go_wp2_with (go_at_call 66; refine HM.out.mono ?_; rintro e w1 ⟨hb1, hp1⟩; rcases hp1 with ⟨s, h1, -⟩ | ⟨er', h1, rfl⟩; cases h1; cases h1)
    have T1 : w1.heap[w.heap.size]? = _ := (hb1.block _ (lt_of_block HT2.out)).trans HT2.out
    have E1 : w1.heap[w.heap.size + 1]? = _ := (hb1.block _ (lt_of_block HE2.out)).trans HE2.out
    have B1 := nxt HB2.out hb1
    refine leaves_cons (f := 101) (args := #[.pointer (some ⟨w.heap.size + 1, 0, none⟩)]) (by simp) (by simp [go_sem]) ?_
    refine (catchT_panicking _ _ er [] _ E1).mono ?_
    rintro e u' w3 ⟨rfl, rfl, rfl⟩
    have T3 : (w1.setCell ⟨w.heap.size + 1, 0, none⟩ (.int .i64 er)).heap[w.heap.size]? = _ := (Below.heap_setCell _ _ _ _ (show w.heap.size ≠ w.heap.size + 1 by omega)).trans T1
    have E3 := set_one_cell (o := 0) E1 (.int .i64 er)
    obtain ⟨y0, -⟩ := cell_of T3 0
    obtain ⟨y1, -⟩ := cell_of T3 1
    obtain ⟨y2, -⟩ := cell_of E3 0
    simp at y0 y1 y2
    simp [Leaves, settle, results, Tryz.results65, go_sem, y0, y1, y2, msrX]
    exact B1.setCell (by simp) _
  | ok s =>
    rw [hr] at HM
    clear hr
    obtain ⟨c, d⟩ := s
    go_enter_defers Tryz.func65, Tryz.ntmps65
    go_wp2_with (go_at_call 66; refine HM.out.mono ?_; rintro e w1 ⟨hb1, hp1⟩; rcases hp1 with ⟨s, h1, rfl⟩ | ⟨er', h1, -⟩; rotate_left; cases h1; cases h1; have T1 := (hb1.block _ (lt_of_block HT2.out)).trans HT2.out; have E1 := (hb1.block _ (lt_of_block HE2.out)).trans HE2.out; obtain ⟨y0, yf0⟩ := cell_of T1 0; obtain ⟨y1, yf1⟩ := cell_of T1 1; obtain ⟨z0, zf0⟩ := cell_of E1 0; simp at y0 y1 z0)
    have T2 := two_set T1 (.int .i64 (c : Int)) (.int .i64 d)
    have T3 : (((w1.setCell ⟨w.heap.size, 0, none⟩ (.int .i64 (c : Int))).setCell ⟨w.heap.size, 1, none⟩ (.int .i64 d)).setCell ⟨w.heap.size + 1, 0, none⟩ (.int .i64 0)).heap[w.heap.size]? = _ := (Below.heap_setCell _ _ _ _ (show w.heap.size ≠ w.heap.size + 1 by omega)).trans T2
    have E2 : ((w1.setCell ⟨w.heap.size, 0, none⟩ (.int .i64 (c : Int))).setCell ⟨w.heap.size, 1, none⟩ (.int .i64 d)).heap[w.heap.size + 1]? = _ := (Below.heap_setCell _ _ _ _ (show w.heap.size + 1 ≠ w.heap.size by omega)).trans ((Below.heap_setCell _ _ _ _ (show w.heap.size + 1 ≠ w.heap.size by omega)).trans E1)
    have E3 := set_one_cell (o := 0) E2 (.int .i64 0)
    have B3 : Below w.heap.size w (((w1.setCell ⟨w.heap.size, 0, none⟩ (.int .i64 (c : Int))).setCell ⟨w.heap.size, 1, none⟩ (.int .i64 d)).setCell ⟨w.heap.size + 1, 0, none⟩ (.int .i64 0)) := (((nxt HB2.out hb1).setCell (by simp) _).setCell (by simp) _).setCell (by simp) _
    generalize ((w1.setCell ⟨w.heap.size, 0, none⟩ (.int .i64 (c : Int))).setCell ⟨w.heap.size, 1, none⟩ (.int .i64 d)).setCell ⟨w.heap.size + 1, 0, none⟩ (.int .i64 0) = W5 at *
    refine leaves_cons (f := 101) (args := #[.pointer (some ⟨w.heap.size + 1, 0, none⟩)]) (by simp) (by simp [go_sem]) ?_
    refine (catchT_idle _ _).mono ?_
    rintro e u' w3 ⟨rfl, rfl, rfl⟩
    obtain ⟨v0, -⟩ := cell_of T3 0
    obtain ⟨v1, -⟩ := cell_of T3 1
    obtain ⟨v2, -⟩ := cell_of E3 0
    simp at v0 v1 v2
    simp [Leaves, settle, results, Tryz.results65, go_sem, v0, v1, v2, msrX]
    exact B3

set_option maxRecDepth 100000 in
set_option maxHeartbeats 1600000 in
theorem measX_any (n : Nat) (v : X n) (x : Value) (w : World) (h : LayX w n x v) :
    Calls Tryz.prog 42 #[x] w fun e w' => e = .returned (.tuple #[.agg #[.int .i64 (msrX (pre stM n v 1 (0, 0))).1, .int .i64 (msrX (pre stM n v 1 (0, 0))).2.1], .int .i64 (msrX (pre stM n v 1 (0, 0))).2.2]) ∧ Below w.heap.size w w' := by
  obtain ⟨k, b, t, ia, il, ic, rfl⟩ := LayX.shape n h
  have hmf : ∀ (fn : Fn) (first cap : Array Value) (w : World), (Instr.makeFunc fn first cap).run Tryz.prog w = .ok (.func fn first cap) w := fun _ _ _ _ => rfl
  have HB2 : Hid (Below w.heap.size w ((w.alloc (.cells #[.int .i64 k, .int .u64 b, .string t, .slice ia il ic] 34)).alloc (.cells #[.int .i64 0, .int .i64 0] 84))) := nxt (below_one _ _) (below_one _ _)
  have HP2 : Hid (((w.alloc (.cells #[.int .i64 k, .int .u64 b, .string t, .slice ia il ic] 34)).alloc (.cells #[.int .i64 0, .int .i64 0] 84)).heap[w.heap.size]? = some (.cells #[.int .i64 k, .int .u64 b, .string t, .slice ia il ic] 34 (0, 0))) := (Below.heap_alloc _ _ _ (by simp)).trans (heap_alloc_new _ _)
  have HT2 : Hid (((w.alloc (.cells #[.int .i64 k, .int .u64 b, .string t, .slice ia il ic] 34)).alloc (.cells #[.int .i64 0, .int .i64 0] 84)).heap[w.heap.size + 1]? = some (.cells #[.int .i64 0, .int .i64 0] 84 (0, 0))) := heap_new2 _ _ _
  have HC : Hid (Calls Tryz.prog 65 #[.func (.func 66) #[] #[.pointer (some ⟨w.heap.size, 0, none⟩)]] ((w.alloc (.cells #[.int .i64 k, .int .u64 b, .string t, .slice ia il ic] 34)).alloc (.cells #[.int .i64 0, .int .i64 0] 84)) _) :=
    caughtT_any n v k b t ia il ic w.heap.size _ HP2.out (LayX.below n h HB2.out)
  clear h HP2
  generalize hr : msrX (pre stM n v 1 (0, 0)) = r at *
  obtain ⟨c, d, er⟩ := r
  clear hr
  go_enter Tryz.func42, Tryz.ntmps42
  go_wp2_with (go_at_call 65; refine HC.out.mono ?_; rintro e w1 ⟨rfl, hb1⟩; have T1 := (hb1.block _ (lt_of_block HT2.out)).trans HT2.out; obtain ⟨y0, yf0⟩ := cell_of T1 0; obtain ⟨y1, yf1⟩ := cell_of T1 1; simp at y0 y1)
  have T2 := two_set T1 (.int .i64 c) (.int .i64 d)
  have B3 : Below w.heap.size w ((w1.setCell ⟨w.heap.size + 1, 0, none⟩ (.int .i64 c)).setCell ⟨w.heap.size + 1, 1, none⟩ (.int .i64 d)) := ((nxt HB2.out hb1).setCell (by simp) _).setCell (by simp) _
  generalize (w1.setCell ⟨w.heap.size + 1, 0, none⟩ (.int .i64 c)).setCell ⟨w.heap.size + 1, 1, none⟩ (.int .i64 d) = W5 at *
  obtain ⟨v0, -⟩ := cell_of T2 0
  obtain ⟨v1, -⟩ := cell_of T2 1
  simp at v0 v1
  refine bodyPost_ret (v := .tuple #[.agg #[.int .i64 c, .int .i64 d], .int .i64 er]) (by simp [results, Tryz.results42, go_sem, v0, v1]) rfl ?_
  exact ⟨rfl, B3⟩

set_option maxRecDepth 100000 in
theorem checkX_any (n : Nat) (v : X n) (x : Value) (w : World) (h : LayX w n x v) :
    Calls Tryz.prog 33 #[x] w fun e w' => e = .returned (.int .i64 (msrX (pre stM n v 1 (0, 0))).2.2) ∧ Below w.heap.size w w' := by
  obtain ⟨k, b, t, ia, il, ic, rfl⟩ := LayX.shape n h
  have HC : Hid (Calls Tryz.prog 42 #[mkX k b t ia il ic] (w.alloc (.cells #[.int .i64 k, .int .u64 b, .string t, .slice ia il ic] 34)) _) := measX_any n v _ _ (LayX.below n h (below_one _ _))
  clear h
  generalize hr : msrX (pre stM n v 1 (0, 0)) = r at *
  obtain ⟨c, d, er⟩ := r
  clear hr
  go_enter Tryz.func33, Tryz.ntmps33
  go_wp2_with (go_at_call 42; refine HC.out.mono ?_; rintro e w1 ⟨rfl, hb1⟩)
  go_ret
  exact ⟨rfl, (nxt (below_one _ _) hb1).alloc (by have := hb1.size; simp at this; omega) _⟩

end Go.Proofs.YtndclldicdfmeaaGreat.Xp
