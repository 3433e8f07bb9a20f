/-
  The program's measure, Check, Size.
-/
import Derived.Test.YtcdnakcojanaeabGreatTrWalk
namespace Go.Proofs.YtcdnakcojanaeabGreat
open Go.ChangeShapes Go.WideShapes Go.ChangeAt Go.RowKit

theorem sizeT_node {n : Nat} (g k t : ByteArray) (ats : List Atr) (its : List (T n)) : sizeT (n := n + 1) (g, k, t, ats, its) = if g.size = 0 then (9, 0, 0) else if (wk (n := n + 1) (g, k, t, ats, its) 1 0).1 = 0 then wk (n := n + 1) (g, k, t, ats, its) 1 0 else ((wk (n := n + 1) (g, k, t, ats, its) 1 0).1, 0, 0) := rfl

theorem two_of {w : World} {g : Nat} {x y : Value} {t : TypeId} (h : w.heap[g]? = some (.cells #[x, y] t (0, 0))) : w.cell? ⟨g, 0, none⟩ = some x ∧ w.cell? ⟨g, 1, none⟩ = some y ∧ w.frozen? ⟨g, 0, none⟩ = false ∧ w.frozen? ⟨g, 1, none⟩ = false := by
  simp [World.cell?, World.frozen?, h]

theorem boxed2 {w w1 : World} {o o' : Obj} (hb : Below ((w.alloc o).alloc o').heap.size ((w.alloc o).alloc o') w1) : w1.heap[w.heap.size]? = some o ∧ w1.heap[w.heap.size + 1]? = some o' :=
  ⟨(hb.block _ (by simp; omega)).trans ((Below.heap_alloc _ _ _ (by simp)).trans (heap_alloc_new _ _)), (hb.block _ (by simp)).trans (heap_new2 _ _ _)⟩

theorem below2 (w : World) (o o' : Obj) : Below w.heap.size w ((w.alloc o).alloc o') := nxt (below_one w o) (below_one _ o')

set_option maxRecDepth 100000 in
set_option maxHeartbeats 3200000 in
theorem measure_any (n : Nat) (v : T n) (x : Value) (w : World) (hv : LayT w n x v) :
    Calls Tryz.prog 78 #[x] w fun e w' => e = .returned (.tuple #[.agg #[.int .i64 ((sizeT v).2.1 : Int), .int .i64 ((sizeT v).2.2 : Int)], .int .i64 (sizeT v).1]) ∧ Below w.heap.size w w' := by
  cases n with
  | zero => exact v.elim
  | succ n =>
    have HV : Hid (LayT w (n + 1) x v) := hv
    obtain ⟨g, k, t, ats, its⟩ := v
    have HR : Hid (sizeT (n := n + 1) (g, k, t, ats, its) = _) := sizeT_node g k t ats its
    have CW : Hid (∀ P w1, Below w.heap.size w w1 → w.heap.size ≤ P → w1.heap[P]? = some (.cells #[.int .i64 0, .int .i64 0] 107 (0, 0)) → Calls Tryz.prog 91 #[.pointer (some ⟨P, 0, none⟩), x, .int .i64 1] w1 fun e w' => e = .returned (.int .i64 (wk (n := n + 1) (g, k, t, ats, its) 1 0).1) ∧ WkPost w1 w' P 0 (wk (n := n + 1) (g, k, t, ats, its) 1 0)) :=
      fun P w1 h1 h2 h3 => walk_any (n + 1) (g, k, t, ats, its) x P 0 0 1 w w1 hv h1 h2 h3 (by omega) (by omega) (by omega)
    obtain ⟨aa, ac, ia, ic, rfl, -⟩ := hv
    generalize wk (n := n + 1) (g, k, t, ats, its) 1 0 = R at *
    generalize sizeT (n := n + 1) (g, k, t, ats, its) = S at *
    have C0 : Hid (∀ W, Calls Tryz.prog 90 #[mkT g k t aa ats.length ac ia its.length ic] W fun e w' => e = .returned (.bool g.toList.isEmpty) ∧ Below W.heap.size W w') := fun W => istext_any _ _ _ _ _ W
    clear HV
    by_cases h0 : g.size = 0
    · have d0 := empty_true h0
      have E : Hid (S = (9, 0, 0)) := by show _ = _; rw [HR.out, if_pos h0]
      rw [d0] at C0
      rw [E.out]
      go_enter Tryz.func78, Tryz.ntmps78
      go_wp2_with (go_at_call 90; refine (C0.out _).mono ?_; rintro e w1 ⟨rfl, hb1⟩; obtain ⟨-, X2⟩ := boxed2 hb1; obtain ⟨r0, r1, r2, r3⟩ := two_of X2)
      refine bodyPost_ret (v := .tuple #[.agg #[.int .i64 0, .int .i64 0], .int .i64 9]) (by simp [results, Tryz.results78, go_sem, r0, r1]) rfl ⟨rfl, ?_⟩
      exact ((nxt (below2 _ _ _) hb1).setCell (by simp) _).setCell (by simp) _
    · have d0 := empty_false h0
      rw [d0] at C0
      have hR2 := HR.out
      rw [if_neg h0] at hR2
      have HR2 : Hid (S = _) := hR2
      clear hR2 HR h0
      obtain ⟨er, cr, dr⟩ := R
      by_cases he : er = 0
      · subst he
        have E : Hid (S = (0, cr, dr)) := by show _ = _; rw [HR2.out, if_pos rfl]
        rw [E.out]
        clear HR2
        go_enter Tryz.func78, Tryz.ntmps78
        go_wp2_with (go_at_call 90; refine (C0.out _).mono ?_; rintro e w1 ⟨rfl, hb1⟩; obtain ⟨X1, X2⟩ := boxed2 hb1; obtain ⟨x0, x1, x2, x3, x4, -⟩ := box_cells X1; have B1 := nxt (below2 _ _ _) hb1; have hlt := lt_of_block X2; obtain ⟨y0, y1, y2, y3, y4, -⟩ := box_cells ((Below.heap_alloc w1 (.cells #[.int .i64 0, .int .i64 0] 107) _ (lt_of_block X1)).trans X1))
        refine (CW.out w1.heap.size _ (nxt B1 (below_one _ _)) B1.size (heap_alloc_new _ _)).mono ?_
        rintro e w3 ⟨rfl, hk3, a3, b3, hp3, h3⟩
        obtain ⟨rfl, rfl⟩ := h3 rfl
        have X3 := (hk3.block (w.heap.size + 1) (by simp; omega) (by omega)).trans ((Below.heap_alloc _ _ _ (lt_of_block X2)).trans X2)
        obtain ⟨r0, r1, r2, r3⟩ := two_of X3
        obtain ⟨s0, s1, s2, s3⟩ := two_of hp3
        simp only
        go_wp2_with fail
        refine bodyPost_ret (v := .tuple #[.agg #[.int .i64 (cr : Int), .int .i64 (dr : Int)], .int .i64 0]) (by simp [results, Tryz.results78, go_sem, r0, r1]) rfl ⟨rfl, ?_⟩
        exact (((nxt B1 (below_one _ _)).trans (hk3.low (B := w.heap.size) (fun j e => by rw [e]; exact B1.size) (nxt B1 (below_one _ _)).size)).setCell (by simp) _).setCell (by simp) _
      · have E : Hid (S = (er, 0, 0)) := by show _ = _; rw [HR2.out, if_neg he]
        have hd1 : (er == 0) = false := by simpa using he
        have hd2 : (er != 0) = true := by simpa using he
        rw [E.out]
        clear HR2 he
        go_enter Tryz.func78, Tryz.ntmps78
        go_wp2_with (go_at_call 90; refine (C0.out _).mono ?_; rintro e w1 ⟨rfl, hb1⟩; obtain ⟨X1, X2⟩ := boxed2 hb1; obtain ⟨x0, x1, x2, x3, x4, -⟩ := box_cells X1; have B1 := nxt (below2 _ _ _) hb1; have hlt := lt_of_block X2; obtain ⟨y0, y1, y2, y3, y4, -⟩ := box_cells ((Below.heap_alloc w1 (.cells #[.int .i64 0, .int .i64 0] 107) _ (lt_of_block X1)).trans X1))
        refine (CW.out w1.heap.size _ (nxt B1 (below_one _ _)) B1.size (heap_alloc_new _ _)).mono ?_
        rintro e w3 ⟨rfl, hk3, a3, b3, hp3, h3⟩
        have X3 := (hk3.block (w.heap.size + 1) (by simp; omega) (by omega)).trans ((Below.heap_alloc _ _ _ (lt_of_block X2)).trans X2)
        obtain ⟨r0, r1, r2, r3⟩ := two_of X3
        obtain ⟨s0, s1, s2, s3⟩ := two_of hp3
        simp only
        go_wp2_with fail
        refine bodyPost_ret (v := .tuple #[.agg #[.int .i64 0, .int .i64 0], .int .i64 er]) (by simp [results, Tryz.results78, go_sem, r0, r1]) rfl ⟨rfl, ?_⟩
        exact (((nxt B1 (below_one _ _)).trans (hk3.low (B := w.heap.size) (fun j e => by rw [e]; exact B1.size) (nxt B1 (below_one _ _)).size)).setCell (by simp) _).setCell (by simp) _

set_option maxRecDepth 100000 in
theorem check_any (n : Nat) (v : T n) (x : Value) (w : World) (hv : LayT w n x v) :
    Calls Tryz.prog 55 #[x] w fun e w' => e = .returned (.int .i64 (sizeT v).1) ∧ Below w.heap.size w w' := by
  have HV : Hid (LayT w n x v) := hv
  obtain ⟨g, k, t, aa, al, ac, ia, il, ic, rfl⟩ := LayT.shape n hv
  clear hv
  go_enter Tryz.func55, Tryz.ntmps55
  go_wp2_with (go_at_call 78; refine (measure_any n v _ _ (HV.out.below n (below_one _ _))).mono ?_; rintro e w1 ⟨rfl, hb1⟩)
  go_ret
  exact ⟨rfl, nxt (nxt (below_one _ _) hb1) (below_one _ _)⟩

theorem ret_size {a a' b b' c c' : Int} (h1 : a = a') (h2 : b = b') (h3 : c = c') : Ending.returned (.tuple #[.int .i64 a, .int .i64 b, .int .i64 c]) = .returned (.tuple #[.int .i64 a', .int .i64 b', .int .i64 c']) := by rw [h1, h2, h3]

end Go.Proofs.YtcdnakcojanaeabGreat
