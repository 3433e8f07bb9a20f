/-
  A write is taken: it waits.
-/
import Derived.Test.YtokebdeaahdcjabDkTake
namespace Go.Proofs.Ytokebdeaahdcjab
open Go.ChangeShapes Go.WideShapes Go.ChangeAt Go.RowKit Go.Deep
open Dk (Wr St)

theorem OwnW.row {W : World} {B : Nat} {v : Value} {ws : List Wr} (h : OwnW W B v ws) : ∀ g, v.ownBlock = some g → B ≤ g ∧ g < W.heap.size ∧ ∃ cur, W.heap[g]? = some (.cells cur 28 (0, 0)) := by
  intro g hg
  obtain ⟨xs, h1, -⟩ := h
  have h3 := h1.lt g hg
  refine ⟨h3.1, h3.2, ?_⟩
  rcases h1.2 with ⟨h4, -⟩ | ⟨g', cap, cur, h4, h5, h6, -⟩
  · rw [h4] at hg; simp [Value.ownBlock] at hg
  · rw [h4] at hg
    simp only [Value.ownBlock, Option.some.injEq] at hg
    subst hg
    exact ⟨cur, h6⟩

/-- Windows stay where a row of writes grows. -/
theorem Wn.rowTo {W W' : World} {B T : Nat} {wins : List (Option (Nat × Nat))} {ss : List (List UInt8)} {v v' : Value} {ws : List Wr} (h : Wn W T wins ss) (ho : OwnW W B v ws) (hr : RowTo W W' v v') : Wn W' T wins ss := by
  obtain ⟨tab, t1, t2, t3⟩ := h.tab
  have hne : ∀ (k : Nat) (cs' : Array Value) (t' : TypeId) (r' : Nat × Nat), t' ≠ 28 → W.heap[k]? = some (.cells cs' t' r') → W'.heap[k]? = some (.cells cs' t' r') := by
    intro k cs' t' r' ht hk
    rw [hr.block (lt_of_block hk) ?_]
    · exact hk
    · intro e
      obtain ⟨-, -, cur, q⟩ := ho.row k e
      rw [q] at hk
      simp only [Option.some.injEq, Obj.cells.injEq] at hk
      exact ht hk.2.1.symm
  refine ⟨h.len, tab, hne _ _ _ _ (by decide) t1, t2, fun q wq lq e1 e2 => ?_⟩
  obtain ⟨xq, f1, f2⟩ := t3 q wq lq e1 e2
  refine ⟨xq, f1, ?_⟩
  cases wq with
  | none => exact f2
  | some pq =>
    obtain ⟨cq, curq, k1, k2, k3, k4, k5, k6⟩ := f2
    exact ⟨cq, curq, k1, k2, k3, k4, hne _ _ _ _ (by decide) k5, k6⟩

set_option maxRecDepth 100000 in
set_option maxHeartbeats 6400000 in
theorem take_write (ss : List (List UInt8)) (ws : List Wr) (T c cw B : Nat) (wins : List (Option (Nat × Nat))) (aw xa : Option Addr) (xc : Nat) (sec : Int) (d : List UInt8) (w : World)
    (hwn : Wn w T wins ss) (how : OwnW w B (.slice aw ws.length cw) ws) (hB : B ≤ w.heap.size) (hx : Oct w xa xc d) (hf : Fit ⟨false, sec, d⟩) (hm : ws.length ≤ 4096) :
    Calls Try.prog 30 #[.agg #[.slice (some ⟨T, 0, none⟩) ss.length c, .slice aw ws.length cw], .agg #[.bool false, .int .i64 sec, .slice xa d.length xc]] w fun e w' => ∃ aw' cw', e = .returned (.agg #[.slice (some ⟨T, 0, none⟩) ss.length c, .slice aw' (ws.length + 1) cw']) ∧
      Wn w' T wins ss ∧ OwnW w' B (.slice aw' (ws.length + 1) cw') (ws ++ [⟨false, sec, d⟩]) ∧ Below B w w' := by
  have HB : Hid (Below w.heap.size w (((w.alloc (.cells #[.slice (some ⟨T, 0, none⟩) ss.length c, .slice aw ws.length cw] 30)).alloc (.cells #[.bool false, .int .i64 sec, .slice xa d.length xc] 28)).alloc (.cells #[.slice none 0 0, .slice none 0 0] 30))) := nxt (nxt (below_one _ _) (below_one _ _)) (below_one _ _)
  have X0 : Hid ((((w.alloc (.cells #[.slice (some ⟨T, 0, none⟩) ss.length c, .slice aw ws.length cw] 30)).alloc (.cells #[.bool false, .int .i64 sec, .slice xa d.length xc] 28)).alloc (.cells #[.slice none 0 0, .slice none 0 0] 30)).heap[w.heap.size]? = some (.cells #[.slice (some ⟨T, 0, none⟩) ss.length c, .slice aw ws.length cw] 30 (0, 0))) :=
    ((nxt (below_one _ _) (below_one _ _)).block _ (by simp)).trans (heap_alloc_new _ _)
  have V0 : Hid ((((w.alloc (.cells #[.slice (some ⟨T, 0, none⟩) ss.length c, .slice aw ws.length cw] 30)).alloc (.cells #[.bool false, .int .i64 sec, .slice xa d.length xc] 28)).alloc (.cells #[.slice none 0 0, .slice none 0 0] 30)).heap[w.heap.size + 1]? = some (.cells #[.bool false, .int .i64 sec, .slice xa d.length xc] 28 (0, 0))) :=
    (Below.heap_alloc _ _ _ (by simp)).trans (heap_new2 _ _ _)
  have Y0 : Hid ((((w.alloc (.cells #[.slice (some ⟨T, 0, none⟩) ss.length c, .slice aw ws.length cw] 30)).alloc (.cells #[.bool false, .int .i64 sec, .slice xa d.length xc] 28)).alloc (.cells #[.slice none 0 0, .slice none 0 0] 30)).heap[w.heap.size + 1 + 1]? = some (.cells #[.slice none 0 0, .slice none 0 0] 30 (0, 0))) := by
    have h := heap_alloc_new ((w.alloc (.cells #[.slice (some ⟨T, 0, none⟩) ss.length c, .slice aw ws.length cw] 30)).alloc (.cells #[.bool false, .int .i64 sec, .slice xa d.length xc] 28)) (.cells #[.slice none 0 0, .slice none 0 0] 30)
    simp only [World.size_alloc] at h
    exact h
  have HWN : Hid (Wn w T wins ss) := hwn
  have HOW : Hid (OwnW w B (.slice aw ws.length cw) ws) := how
  have HX : Hid (Oct w xa xc d) := hx
  have HF : Hid (Fit ⟨false, sec, d⟩) := hf
  clear hwn how hx hf
  go_enter Try.func30, Try.ntmps30
  go_wp2_with fail
  generalize ((w.alloc (.cells #[.slice (some ⟨T, 0, none⟩) ss.length c, .slice aw ws.length cw] 30)).alloc (.cells #[.bool false, .int .i64 sec, .slice xa d.length xc] 28)).alloc (.cells #[.slice none 0 0, .slice none 0 0] 30) = W at *
  have x1 : W.drew.cell? ⟨w.heap.size, 1, none⟩ = some (.slice aw ws.length cw) := (cell_of X0.out 1).1
  have v0 : W.drew.cell? ⟨w.heap.size + 1, 0, none⟩ = some (.bool false) := (cell_of V0.out 0).1
  have v1 : W.drew.cell? ⟨w.heap.size + 1, 1, none⟩ = some (.int .i64 sec) := (cell_of V0.out 1).1
  have v2 : W.drew.cell? ⟨w.heap.size + 1, 2, none⟩ = some (.slice xa d.length xc) := (cell_of V0.out 2).1
  have hlen40 : (ws.length + 1) * 40 ≤ 140737488355328 := by omega
  go_cut [] (fun wc => ∃ aw' cw', Hid (wc.heap[w.heap.size]? = some (.cells #[.slice (some ⟨T, 0, none⟩) ss.length c, .slice aw' (ws.length + 1) cw'] 30 (0, 0))) ∧ Hid (wc.heap[w.heap.size + 1 + 1]? = some (.cells #[.slice none 0 0, .slice none 0 0] 30 (0, 0))) ∧
      Hid (Wn wc T wins ss) ∧ Hid (OwnW wc B (.slice aw' (ws.length + 1) cw') (ws ++ [⟨false, sec, d⟩])) ∧ Hid (Below B w wc))
  case first =>
    go_region_law (first
      | (refine step_call1 rfl 45 (by intros; go_simp) _ _ rfl (.agg #[.bool false, .int .i64 sec, .slice xa d.length xc]) (by first | (simp [Act.eval]; done) | simp [Act.eval, Act.put]) (fun y w' => ∃ s, y = .agg #[.bool false, .int .i64 sec, s] ∧ Bs w' W.heap.size s d ∧ Below W.heap.size W.drew w') ((copyW_any false sec xa xc d _ (HX.out.below (HB.out.drew)) HF.out.1).mono fun e w' ⟨s, q1, q2, q3⟩ => ⟨_, q1, s, rfl, q2, q3⟩) ?_; intro y w1 hR; obtain ⟨s1, rfl, hs1, hb1⟩ := hR; obtain ⟨a2, c2, rfl⟩ := hs1.shape
         have BW : Below W.heap.size W w1 := ((Below.refl _ W).drew).trans hb1
         have z1 := keepc BW _ _ (show W.cell? ⟨w.heap.size, 1, none⟩ = _ from x1)
         have z1' : ∀ o, (w1.alloc o).cell? ⟨w.heap.size, 1, none⟩ = some (.slice aw ws.length cw) := fun o => keepc (below_one _ _) _ _ z1)
      | (refine step_pushW rfl _ _ rfl B (.slice aw ws.length cw) ws (by first | (simp [Act.eval]; done) | simp [Act.eval, Act.put]) (HOW.out.below (nxt HB.out (nxt BW (below_one _ _)))) ⟨false, sec, d⟩ a2 c2 ((hs1.up (fun g _ => Nat.zero_le _)).below (below_one _ _)) HF.out ⟨w1.heap.size, 0, none⟩ (by first | (simp [Act.eval]; done) | simp [Act.eval, Act.put]) (fun j u hj => newCells w1 _ _ j u (by simpa using hj)) hlen40 (by have h1 := HB.out.size; have h2 := BW.size; simp; omega) ?_; intro v' w5 k1 k2
         obtain ⟨aw', cw', rfl⟩ := k1.shape
         rw [List.length_append, List.length_singleton] at *
         have hw5 : w5.heap[w.heap.size]? = some (.cells #[.slice (some ⟨T, 0, none⟩) ss.length c, .slice aw ws.length cw] 30 (0, 0)) := by
           have hq := ((nxt BW (below_one w1 (.cells #[.bool false, .int .i64 sec, .slice a2 d.length c2] 28))).block _ (lt_of_block X0.out)).trans X0.out
           rw [k2.block (lt_of_block hq) (fun e => by have := (HOW.out.row _ e).2.1; omega)]
           exact hq
         have hy5 : w5.heap[w.heap.size + 1 + 1]? = some (.cells #[.slice none 0 0, .slice none 0 0] 30 (0, 0)) := by
           have hq := ((nxt BW (below_one w1 (.cells #[.bool false, .int .i64 sec, .slice a2 d.length c2] 28))).block _ (lt_of_block Y0.out)).trans Y0.out
           rw [k2.block (lt_of_block hq) (fun e => by have := (HOW.out.row _ e).2.1; omega)]
           exact hq
         have hc5 := (cell_of hw5 1).1
         have hf5 := (cell_of hw5 1).2
         simp at hc5))
    all_goals
      go_wp2_with fail
      go_meet
      refine ⟨aw', cw', ?_, ?_, ?_, ?_, ?_⟩
      · show _ = _
        rw [set_one_cell (o := 1) hw5]
        simp
      · show _ = _
        rw [Below.heap_setCell _ _ _ _ (by show w.heap.size + 1 + 1 ≠ w.heap.size; omega)]
        exact hy5
      · exact (Wn.rowTo (HWN.out.keep (KpC.below (nxt HB.out (nxt BW (below_one _ _))))) (HOW.out.below (nxt HB.out (nxt BW (below_one _ _)))) k2).set hw5 (by decide) (by decide) _
      · exact k1.set hw5 (by decide) (by decide) _
      · have hb5 : Below B w w5 := ((nxt HB.out (nxt BW (below_one w1 _))).mono hB).trans (k2.below (by have h1 := HB.out.size; have h2 := BW.size; simp; omega) (fun g hg => (HOW.out.row g hg).1))
        exact hb5.setCell (by show B ≤ w.heap.size; omega) _
  case rest =>
    obtain ⟨aw', cw', HX5, HY5, HW5, HO5, HB5⟩ := hcut
    obtain ⟨x0', -⟩ := cell_of HX5.out 0
    obtain ⟨x1', -⟩ := cell_of HX5.out 1
    obtain ⟨y0, f0⟩ := cell_of HY5.out 0
    obtain ⟨y1, f1⟩ := cell_of HY5.out 1
    simp at x0' x1' y0 y1
    clear x1 v0 v1 v2
    go_wp2_with fail
    have hset1 := set_one_cell (o := 0) HY5.out (.slice (some ⟨T, 0, none⟩) ss.length c)
    have hset2 := set_one_cell (o := 1) hset1 (.slice aw' (ws.length + 1) cw')
    have r0 := (cell_of hset2 0).1
    have r1 := (cell_of hset2 1).1
    simp at r0 r1
    refine bodyPost_ret (v := .agg #[.slice (some ⟨T, 0, none⟩) ss.length c, .slice aw' (ws.length + 1) cw']) (by simp [results, Try.results30, go_sem, r0, r1]) rfl ?_
    refine ⟨aw', cw', rfl, (HW5.out.set HY5.out (by decide) (by decide) _).set hset1 (by decide) (by decide) _, (HO5.out.set HY5.out (by decide) (by decide) _).set hset1 (by decide) (by decide) _, ?_⟩
    exact (HB5.out.setCell (by show B ≤ w.heap.size + 1 + 1; omega) _).setCell (by show B ≤ w.heap.size + 1 + 1; omega) _
end Go.Proofs.Ytokebdeaahdcjab
