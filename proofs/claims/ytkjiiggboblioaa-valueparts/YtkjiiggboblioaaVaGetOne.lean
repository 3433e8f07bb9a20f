/-
  The page's example: Get of the key that was set; and that the example holds.
-/
import Derived.Test.YtkjiiggboblioaaVaSetOne
namespace Go.Proofs.Ytkjiiggboblioaa
open Go.ChangeShapes Go.WideShapes Go.ChangeAt Go.RowKit
open Fl

set_option maxRecDepth 100000 in
theorem findKey_one (gk ck : Nat) (ia : Option Addr) (ic : Nat) (w : World) (h : w.cell? ⟨gk, 0, none⟩ = some (.string keyb)) :
    Calls Try.prog 23 #[mk 5 0 ⟨#[]⟩ (some ⟨gk, 0, none⟩) 1 ck ia 1 ic, .string keyb] w fun e w' => e = .returned (.tuple #[.int .i64 0, .int .i64 0]) ∧ Below w.heap.size w w' := by
  have HK : Hid (w.cell? ⟨gk, 0, none⟩ = some (.string keyb)) := h
  clear h
  go_enter Try.func23, Try.ntmps23
  go_wp2_with (go_at_call 27; refine (bs_one _ _ _ _ (keepc (below_one _ _) _ _ HK.out)).mono ?_; rintro e w' ⟨rfl, rfl⟩)
  go_ret2
  exact ⟨rfl, below_one _ _⟩

set_option maxRecDepth 100000 in
theorem find_one (gk ck : Nat) (ia : Option Addr) (ic : Nat) (w : World) (h : w.cell? ⟨gk, 0, none⟩ = some (.string keyb)) :
    Calls Try.prog 13 #[mk 5 0 ⟨#[]⟩ (some ⟨gk, 0, none⟩) 1 ck ia 1 ic, .agg #[.bool true, .string keyb, .int .i64 0]] w fun e w' => e = .returned (.tuple #[.int .i64 0, .int .i64 0]) ∧ Below w.heap.size w w' := by
  have HK : Hid (w.cell? ⟨gk, 0, none⟩ = some (.string keyb)) := h
  clear h
  go_enter Try.func13, Try.ntmps13
  go_wp2_with (go_at_call 23; refine (findKey_one _ _ _ _ _ (keepc (below_two _ _ _) _ _ HK.out)).mono ?_; rintro e w1 ⟨rfl, hb1⟩)
  go_ret2
  exact ⟨rfl, nxt (below_two _ _ _) hb1⟩

theorem box_low {w w1 : World} {o' : Obj} {a0 a1 a2 a3 a4 : Value} {t : TypeId} (hb : Below ((w.alloc (.cells #[a0, a1, a2, a3, a4] t)).alloc o').heap.size ((w.alloc (.cells #[a0, a1, a2, a3, a4] t)).alloc o') w1) :
    w1.cell? ⟨w.heap.size, 0, none⟩ = some a0 ∧ w1.cell? ⟨w.heap.size, 1, none⟩ = some a1 ∧ w1.cell? ⟨w.heap.size, 2, none⟩ = some a2 ∧ w1.cell? ⟨w.heap.size, 3, none⟩ = some a3 ∧ w1.cell? ⟨w.heap.size, 4, none⟩ = some a4 ∧
    w1.frozen? ⟨w.heap.size, 0, none⟩ = false ∧ w1.frozen? ⟨w.heap.size, 1, none⟩ = false ∧ w1.frozen? ⟨w.heap.size, 2, none⟩ = false ∧ w1.frozen? ⟨w.heap.size, 3, none⟩ = false ∧ w1.frozen? ⟨w.heap.size, 4, none⟩ = false := by
  have h : w1.heap[w.heap.size]? = some (.cells #[a0, a1, a2, a3, a4] t (0, 0)) := by
    rw [hb.block _ (by simp; omega), Below.heap_alloc _ _ _ (by simp)]
    exact heap_alloc_new _ _
  exact box_cells h

theorem five_all {w : World} {g : Nat} {a0 a1 a2 a3 a4 : Value} {t : TypeId} (h : w.heap[g]? = some (.cells #[a0, a1, a2, a3, a4] t (0, 0))) (v0 v1 v2 v3 v4 : Value) :
    (((((w.setCell ⟨g, 0, none⟩ v0).setCell ⟨g, 1, none⟩ v1).setCell ⟨g, 2, none⟩ v2).setCell ⟨g, 3, none⟩ v3).setCell ⟨g, 4, none⟩ v4).heap[g]? = some (.cells #[v0, v1, v2, v3, v4] t (0, 0)) := by
  simp [World.setCell, Array.getElem?_modify, h]

theorem One5.key {w : World} {gk gi ck ci : Nat} (h : One5 w gk gi ck ci) : w.cell? ⟨gk, 0, none⟩ = some (.string keyb) := by
  obtain ⟨⟨base, hK⟩, _⟩ := h
  obtain ⟨g', e', hc⟩ := cells_of_own hK 0 (.string keyb) rfl
  simp only [Option.some.injEq, Addr.mk.injEq, and_true] at e'
  subst e'
  exact hc

theorem One5.item {w : World} {gk gi ck ci : Nat} (h : One5 w gk gi ck ci) : w.cell? ⟨gi, 0, none⟩ = some (.int .i64 4) ∧ w.cell? ⟨gi, 1, none⟩ = some (.int .u64 0) ∧ w.cell? ⟨gi, 2, none⟩ = some (.string ⟨#[]⟩) ∧ w.cell? ⟨gi, 3, none⟩ = some (.slice none 0 0) ∧ w.cell? ⟨gi, 4, none⟩ = some (.slice none 0 0) := by
  obtain ⟨_, cur', q3, e0, e1, e2, e3, e4, _⟩ := h
  have cells : ∀ i, w.cell? ⟨gi, i, none⟩ = cur'[i]? := fun i => by simp [World.cell?, q3]
  exact ⟨(cells 0).trans e0, (cells 1).trans e1, (cells 2).trans e2, (cells 3).trans e3, (cells 4).trans e4⟩

theorem One5.below {w w' : World} {gk gi ck ci : Nat} (h : One5 w gk gi ck ci) (hb : Below w.heap.size w w') : One5 w' gk gi ck ci := h.same (hb.block _ h.lt.1) (hb.block _ h.lt.2)

set_option maxRecDepth 100000 in
set_option maxHeartbeats 3200000 in
theorem get_one (g gk gi ck ci : Nat) (w : World) (g0 : w.cell? ⟨g, 0, none⟩ = some (.bool true)) (g1 : w.cell? ⟨g, 1, none⟩ = some (.string keyb)) (g2 : w.cell? ⟨g, 2, none⟩ = some (.int .i64 0)) (h : One5 w gk gi ck ci) :
    Calls Try.prog 5 #[mk 5 0 ⟨#[]⟩ (some ⟨gk, 0, none⟩) 1 ck (some ⟨gi, 0, none⟩) 1 ci, .slice (some ⟨g, 0, none⟩) 1 1] w fun e w' =>
      e = .returned (.tuple #[mk 4 0 ⟨#[]⟩ none 0 0 none 0 0, .int .i64 0]) ∧ Below w.heap.size w w' := by
  have HO : Hid (One5 w gk gi ck ci) := h
  have hchk : (msr (wk 2 one5 1 (0, 0))).2.2 = 0 := chk51
  have HC : Hid ((msr (wk 2 one5 1 (0, 0))).2.2 = 0) := hchk
  clear h hchk
  go_enter Try.func5, Try.ntmps5
  go_wp2_with fail
  refine (check_any 2 _ _ _ (Lay.below 2 HO.out.lay (below_two _ _ _))).mono ?_
  rw [HC.out]
  rintro e w1 ⟨rfl, hb1⟩
  go_wp2_with fail
  refine wp_loop_rounds 2 ?_
  rw [rounds_succ]
  have B1 := nxt (below_two _ _ _) hb1
  have c0 := keepc B1 _ _ g0
  have c1 := keepc B1 _ _ g1
  have c2 := keepc B1 _ _ g2
  obtain ⟨x0, x1, x2, x3, x4, y0, y1, y2, y3, y4⟩ := box_low hb1
  have X0 : ∀ o, (w1.alloc o).cell? ⟨w.heap.size, 0, none⟩ = some (.int .i64 5) := fun o => keepc (below_one _ _) _ _ x0
  have X1 : ∀ o, (w1.alloc o).cell? ⟨w.heap.size, 1, none⟩ = some (.int .u64 0) := fun o => keepc (below_one _ _) _ _ x1
  have X2 : ∀ o, (w1.alloc o).cell? ⟨w.heap.size, 2, none⟩ = some (.string ⟨#[]⟩) := fun o => keepc (below_one _ _) _ _ x2
  have X3 : ∀ o, (w1.alloc o).cell? ⟨w.heap.size, 3, none⟩ = some (.slice (some ⟨gk, 0, none⟩) 1 ck) := fun o => keepc (below_one _ _) _ _ x3
  have X4 : ∀ o, (w1.alloc o).cell? ⟨w.heap.size, 4, none⟩ = some (.slice (some ⟨gi, 0, none⟩) 1 ci) := fun o => keepc (below_one _ _) _ _ x4
  have HB1 : Hid (Below w.heap.size w w1) := B1
  have HZ1 : Hid (w1.heap[w.heap.size + 1]? = some (.cells #[.int .i64 0, .int .u64 0, .string ⟨#[]⟩, .slice none 0 0, .slice none 0 0] 26 (0, 0))) := by
    show _ = _
    rw [hb1.block _ (by simp)]
    exact heap_new2 _ _ _
  have HX1 : Hid (w1.heap[w.heap.size]? = some (.cells #[.int .i64 5, .int .u64 0, .string ⟨#[]⟩, .slice (some ⟨gk, 0, none⟩) 1 ck, .slice (some ⟨gi, 0, none⟩) 1 ci] 26 (0, 0))) := by
    show _ = _
    rw [hb1.block _ (by simp; omega), Below.heap_alloc _ _ _ (by simp)]
    exact heap_alloc_new _ _
  have hw1 := lt_of_cell x0
  have HX : Hid (w.heap.size < w1.heap.size) := hw1
  clear hb1 B1 hw1
  go_wp2_with (go_at_call 13; refine (find_one _ _ _ _ _ (keepc (nxt HB1.out (below_one _ _)) _ _ HO.out.key)).mono ?_; rintro e w2 ⟨rfl, hb2⟩; have B2 := nxt (below_one _ _) hb2; have z0 := keepc B2 _ _ x0; have z1 := keepc B2 _ _ x1; have z2 := keepc B2 _ _ x2; have z3 := keepc B2 _ _ x3; have z4 := keepc B2 _ _ x4; have r0 := (B2.frozen (lt_of_cell x0)).trans y0; have r1 := (B2.frozen (lt_of_cell x1)).trans y1; have r2 := (B2.frozen (lt_of_cell x2)).trans y2; have r3 := (B2.frozen (lt_of_cell x3)).trans y3; have r4 := (B2.frozen (lt_of_cell x4)).trans y4; obtain ⟨i0, i1, i2, i3, i4⟩ := One5.item (One5.below HO.out (nxt HB1.out B2)))
  have hX2 : w2.heap[w.heap.size]? = some (.cells #[.int .i64 5, .int .u64 0, .string ⟨#[]⟩, .slice (some ⟨gk, 0, none⟩) 1 ck, .slice (some ⟨gi, 0, none⟩) 1 ci] 26 (0, 0)) := by rw [B2.block _ HX.out]; exact HX1.out
  have hZ2 : w2.heap[w.heap.size + 1]? = some (.cells #[.int .i64 0, .int .u64 0, .string ⟨#[]⟩, .slice none 0 0, .slice none 0 0] 26 (0, 0)) := by rw [B2.block _ (lt_of_block HZ1.out)]; exact HZ1.out
  obtain ⟨k1, k2, -⟩ := five_sets hX2 (by simp) (.int .i64 4) (.int .u64 0) (.string ⟨#[]⟩) (.slice none 0 0) (.slice none 0 0)
  have hX3 := five_all hX2 (.int .i64 4) (.int .u64 0) (.string ⟨#[]⟩) (.slice none 0 0) (.slice none 0 0)
  have hZ3 := (k1 (w.heap.size + 1) (by omega)).trans hZ2
  have B3 : Below w.heap.size w (((((w2.setCell ⟨w.heap.size, 0, none⟩ (.int .i64 4)).setCell ⟨w.heap.size, 1, none⟩ (.int .u64 0)).setCell ⟨w.heap.size, 2, none⟩ (.string ⟨#[]⟩)).setCell ⟨w.heap.size, 3, none⟩ (.slice none 0 0)).setCell ⟨w.heap.size, 4, none⟩ (.slice none 0 0)) :=
    (((((nxt HB1.out B2).setCell (Nat.le_refl _) _).setCell (Nat.le_refl _) _).setCell (Nat.le_refl _) _).setCell (Nat.le_refl _) _).setCell (Nat.le_refl _) _
  clear k1 k2 hX2 hZ2 z0 z1 z2 z3 z4 r0 r1 r2 r3 r4 i0 i1 i2 i3 i4 X0 X1 X2 X3 X4 x0 x1 x2 x3 x4 y0 y1 y2 y3 y4 c0 c1 c2
  generalize hW : ((((w2.setCell ⟨w.heap.size, 0, none⟩ (.int .i64 4)).setCell ⟨w.heap.size, 1, none⟩ (.int .u64 0)).setCell ⟨w.heap.size, 2, none⟩ (.string ⟨#[]⟩)).setCell ⟨w.heap.size, 3, none⟩ (.slice none 0 0)).setCell ⟨w.heap.size, 4, none⟩ (.slice none 0 0) = W3
  rw [hW] at hX3 hZ3 B3
  clear hW
  obtain ⟨x0, x1, x2, x3, x4, -⟩ := box_cells hX3
  have HZ3 : Hid (W3.heap[w.heap.size + 1]? = some (.cells #[.int .i64 0, .int .u64 0, .string ⟨#[]⟩, .slice none 0 0, .slice none 0 0] 26 (0, 0))) := hZ3
  have HB3 : Hid (Below w.heap.size w W3) := B3
  clear hX3 hZ3 B3
  rw [rounds_succ]
  go_wp2_with (go_at_call 14; refine (copyOf_none _ _ _ _).mono ?_; rintro e w4 ⟨rfl, hb4⟩; obtain ⟨z0, z1, z2, z3, z4, r0, r1, r2, r3, r4⟩ := box_cells ((hb4.block _ (lt_of_block HZ3.out)).trans HZ3.out))
  refine bodyPost_ret (v := .tuple #[mk 4 0 ⟨#[]⟩ none 0 0 none 0 0, .int .i64 0]) (by simp [results, Try.results5, go_sem, z0, z1, z2, z3, z4]) rfl ⟨rfl, ?_⟩
  exact (((((nxt HB3.out hb4).setCell (by simp) _).setCell (by simp) _).setCell (by simp) _).setCell (by simp) _).setCell (by simp) _

set_option maxRecDepth 100000 in
set_option maxHeartbeats 3200000 in
theorem alive_any (w : World) : Calls Try.prog 11 #[] w fun e w' => e = .returned (.bool true) ∧ Below w.heap.size w w' := by
  go_enter Try.func11, Try.ntmps11
  go_wp2_with fail
  obtain ⟨g0, g1, g2, -⟩ := step_new w (.bool true) (.string keyb) (.int .i64 0) 42
  refine (set_one w.heap.size _ g0 g1 g2).mono ?_
  rintro e w1 ⟨gk, gi, ck, ci, rfl, hO, hb1⟩
  have HO : Hid (One5 w1 gk gi ck ci) := hO
  have HB1 : Hid (Below w.heap.size w w1) := nxt (below_one _ _) hb1
  clear hO hb1 g0 g1 g2
  go_wp2_with fail
  obtain ⟨g0, g1, g2, -⟩ := step_new (w1.alloc (.cells #[.int .i64 5, .int .u64 0, .string ⟨#[]⟩, .slice (some ⟨gk, 0, none⟩) 1 ck, .slice (some ⟨gi, 0, none⟩) 1 ci] 26)) (.bool true) (.string keyb) (.int .i64 0) 42
  have es : (w1.alloc (.cells #[.int .i64 5, .int .u64 0, .string ⟨#[]⟩, .slice (some ⟨gk, 0, none⟩) 1 ck, .slice (some ⟨gi, 0, none⟩) 1 ci] 26)).heap.size = w1.heap.size + 1 := by simp
  rw [es] at g0 g1 g2
  refine (get_one (w1.heap.size + 1) gk gi ck ci _ g0 g1 g2 (One5.below HO.out (below_two _ _ _))).mono ?_
  rintro e w2 ⟨rfl, hb2⟩
  have hV : ∀ o, (w2.alloc o).cell? ⟨w1.heap.size, 3, none⟩ = some (.slice (some ⟨gk, 0, none⟩) 1 ck) := fun o => keepc (nxt hb2 (below_one _ _)) _ _ (keepc (below_one _ _) _ _ (box_cells (heap_alloc_new _ _)).2.2.2.1)
  have HB2 : Hid (Below w.heap.size w w2) := nxt (nxt HB1.out (below_two _ _ _)) hb2
  clear hb2 g0 g1 g2 es
  go_wp2_with (go_at_call 10; refine (num_any _ _).mono ?_; rintro e w' ⟨rfl, rfl⟩)
  go_ret
  exact ⟨rfl, nxt HB2.out (below_one _ _)⟩
end Go.Proofs.Ytkjiiggboblioaa
