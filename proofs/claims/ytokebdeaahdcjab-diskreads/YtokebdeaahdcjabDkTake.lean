/-
  A write is taken, or a barrier: the program's take.
-/
import Derived.Test.YtokebdeaahdcjabDkCopyS
namespace Go.Proofs.Ytokebdeaahdcjab
open Go.ChangeShapes Go.WideShapes Go.ChangeAt Go.RowKit Go.Deep
open Dk (Wr St)

/-- A call of one argument, as one step. -/
theorem step_call1 {ops : Array Oper} {o : Oper} {a : Act} {w : World} {K : Act → World → Prop} {Q : Exit → Act → World → Prop} {E : Prop} (hg : o.guard = none) (f : FuncId) (hf : ∀ x1 w, Sem.run Try.prog (callFunc f #[x1]) w = .ok (.enter f #[x1]) w) (s1 : Operand) (ts : Array TypeId)
    (ho : o.op = .call { callee := .value (.func f), args := #[s1], argTypes := ts }) (x1 : Value) (h1 : a.eval s1 = x1) (R : Value → World → Prop)
    (hc : Calls Try.prog f #[x1] w fun e w' => ∃ y, e = .returned y ∧ R y w') (h : ∀ y w', R y w' → K (a.put o.dst y) w') :
    if Region.wanted o (yielded ops a.tmps) = true then Oper.wp Try.prog o a w K Q else E := by
  have hw : Region.wanted o (yielded ops a.tmps) = true := by simp [Region.wanted, hg]
  rw [if_pos hw]
  have hrun : (execOp a.eval o).run Try.prog w = .ok (.enter f #[x1]) w := by
    unfold execOp
    simp only [ho, resolve, invoke, List.map_toArray, List.map_cons, List.map_nil, h1]
    go_simp
  unfold Oper.wp
  rw [hrun, Oper.upon_enter]
  refine hc.mono fun e w' he => ?_
  obtain ⟨y, rfl, hy⟩ := he
  exact h y w' hy

/-- append of one write, as one step. -/
theorem step_pushW {ops : Array Oper} {o : Oper} {a : Act} {w : World} {K : Act → World → Prop} {Q : Exit → Act → World → Prop} {E : Prop} (hg : o.guard = none) (sl x : Operand)
    (ho : o.op = .call { callee := .builtin .append, args := #[sl, x], argTypes := #[23, 23] })
    (B : Nat) (v : Value) (ws : List Wr) (hs : a.eval sl = v) (hown : OwnW w B v ws) (y : Wr) (ya : Option Addr) (yc : Nat) (hy : Bs w 0 (.slice ya y.d.length yc) y.d) (hf : Fit y) (ad : Addr) (hx : a.eval x = .slice (some ad) 1 1)
    (hnews : ∀ j u, [Value.bool y.fl, .int .i64 y.sec, .slice ya y.d.length yc][j]? = some u → w.cell? (ad.add j) = some u) (hlen : (ws.length + 1) * 40 ≤ 140737488355328) (hbase : B ≤ w.heap.size)
    (h : ∀ v' w', OwnW w' B v' (ws ++ [y]) → RowTo w w' v v' → K (a.put o.dst v') w') : if Region.wanted o (yielded ops a.tmps) = true then Oper.wp Try.prog o a w K Q else E := by
  obtain ⟨i0, hi, hz0, hz1, hz2⟩ := info_parts Try.infoWr
  obtain ⟨xs, hr, hit⟩ := hown
  refine step_append hg sl x 23 ho B 28 i0 _ 3 40 Try.underlying23 hi hz0 hz1 hz2 rfl (by decide) v ws.length xs hs hr ad 1 1 _ hx rfl hnews (by simp [Value.oneCell']) (by unfold maxLen; omega) hlen hbase ?_
  intro v' w' h1 h2 h3
  exact h v' w' (OwnW.pushed hr hit h1 h2 hy hf) ⟨h2, h3⟩

theorem whole_any (i : Int) (w : World) : Calls Try.prog 40 #[.int .i64 i] w fun e w' => e = .returned (.int .i64 4096) ∧ w' = w := by
  go_enter Try.func40, Try.ntmps40
  go_wp2_with fail
  go_ret
  exact ⟨rfl, rfl⟩

set_option maxRecDepth 100000 in
set_option maxHeartbeats 3200000 in
theorem take_flush (ss : List (List UInt8)) (ws : List Wr) (T c cw : Nat) (wins : List (Option (Nat × Nat))) (aw xa : Option Addr) (xc xn : Nat) (sec : Int) (w0 w : World)
    (hb : Below w0.heap.size w0 w) (hwn : Wn w T wins ss) (hap : Apart wins) (hup : WinsUp w0.heap.size wins) (hlw : LayW w0 aw ws) (hok : ∀ x ∈ ws, Dk.OkW ss.length x) (hn : ss.length ≤ 4096) (hm : ws.length ≤ 4096) :
    Calls Try.prog 30 #[.agg #[.slice (some ⟨T, 0, none⟩) ss.length c, .slice aw ws.length cw], .agg #[.bool true, .int .i64 sec, .slice xa xn xc]] w fun e w' => e = .returned (.agg #[.slice (some ⟨T, 0, none⟩) ss.length c, .slice none 0 0]) ∧
      Wn w' T wins (Dk.layA (fun _ => 4096) 0 ss ws) ∧ Below w0.heap.size w0 w' := by
  have HLAY : Hid (∀ W, Below w0.heap.size w0 W → Wn W T wins ss → Calls Try.prog 37 #[.slice (some ⟨T, 0, none⟩) ss.length c, .slice aw ws.length cw, .func (.func 40) #[] #[]] W fun e w' => e = .returned (.tuple #[]) ∧ Wn w' T wins (Dk.layA (fun _ => 4096) 0 ss ws) ∧ Below w0.heap.size w0 w' ∧ KpN W w') :=
    fun W h1 h2 => lay_any 40 #[] (fun _ => 4096) w0 W T c wins ss ws aw cw (enters_of Try.func40 (by kernel_rfl) rfl) (fun i W' _ _ => by simpa using whole_any i W') (fun _ => by omega) h1 h2 hap hup hlw hok hn hm
  have hsz := hb.size
  have HB : Hid (Below w0.heap.size w0 (((w.alloc (.cells #[.slice (some ⟨T, 0, none⟩) ss.length c, .slice aw ws.length cw] 30)).alloc (.cells #[.bool true, .int .i64 sec, .slice xa xn xc] 28)).alloc (.cells #[.slice none 0 0, .slice none 0 0] 30))) := hb.trans ((nxt (nxt (below_one _ _) (below_one _ _)) (below_one _ _)).mono hsz)
  have HWN : Hid (Wn (((w.alloc (.cells #[.slice (some ⟨T, 0, none⟩) ss.length c, .slice aw ws.length cw] 30)).alloc (.cells #[.bool true, .int .i64 sec, .slice xa xn xc] 28)).alloc (.cells #[.slice none 0 0, .slice none 0 0] 30)) T wins ss) := hwn.keep (KpC.below (nxt (nxt (below_one _ _) (below_one _ _)) (below_one _ _)))
  have X0 : Hid ((((w.alloc (.cells #[.slice (some ⟨T, 0, none⟩) ss.length c, .slice aw ws.length cw] 30)).alloc (.cells #[.bool true, .int .i64 sec, .slice xa xn xc] 28)).alloc (.cells #[.slice none 0 0, .slice none 0 0] 30)).heap[w.heap.size]? = some (.cells #[.slice (some ⟨T, 0, none⟩) ss.length c, .slice aw ws.length cw] 30 (0, 0))) :=
    ((nxt (below_one _ _) (below_one _ _)).block _ (by simp)).trans (heap_alloc_new _ _)
  have Y0 : Hid ((((w.alloc (.cells #[.slice (some ⟨T, 0, none⟩) ss.length c, .slice aw ws.length cw] 30)).alloc (.cells #[.bool true, .int .i64 sec, .slice xa xn xc] 28)).alloc (.cells #[.slice none 0 0, .slice none 0 0] 30)).heap[w.heap.size + 1 + 1]? = some (.cells #[.slice none 0 0, .slice none 0 0] 30 (0, 0))) := by
    have h := heap_alloc_new ((w.alloc (.cells #[.slice (some ⟨T, 0, none⟩) ss.length c, .slice aw ws.length cw] 30)).alloc (.cells #[.bool true, .int .i64 sec, .slice xa xn xc] 28)) (.cells #[.slice none 0 0, .slice none 0 0] 30)
    simp only [World.size_alloc] at h
    exact h
  clear hb hwn hap hup hlw hok
  go_enter Try.func30, Try.ntmps30
  go_wp2_with (go_at_call 37; refine (HLAY.out _ HB.out HWN.out).mono ?_; rintro e w1 ⟨rfl, hw1, hb1, hk1⟩; have HW1 : Hid (Wn w1 T wins (Dk.layA (fun _ => 4096) 0 ss ws)) := hw1; have HB1 : Hid (Below w0.heap.size w0 w1) := hb1; have hx1 := hk1.2 _ _ X0.out (by intro cs r e; simp at e); have hy1 := hk1.2 _ _ Y0.out (by intro cs r e; simp at e); have HY1 : Hid (w1.heap[w.heap.size + 1 + 1]? = some (.cells #[.slice none 0 0, .slice none 0 0] 30 (0, 0))) := hy1; obtain ⟨x0, -⟩ := cell_of hx1 0; obtain ⟨y0, f0⟩ := cell_of hy1 0; obtain ⟨y1, f1⟩ := cell_of hy1 1; simp at x0 y0 y1; clear hw1 hb1 hk1 hx1 hy1)
  have hset1 := set_one_cell (o := 0) HY1.out (.slice (some ⟨T, 0, none⟩) ss.length c)
  have hset2 := set_one_cell (o := 1) hset1 (.slice none 0 0)
  have r0 := (cell_of hset2 0).1
  have r1 := (cell_of hset2 1).1
  simp at r0 r1
  refine bodyPost_ret (v := .agg #[.slice (some ⟨T, 0, none⟩) ss.length c, .slice none 0 0]) (by simp [results, Try.results30, go_sem, r0, r1]) rfl ?_
  refine ⟨rfl, (HW1.out.set HY1.out (by decide) (by decide) _).set hset1 (by decide) (by decide) _, ?_⟩
  exact (HB1.out.setCell (by show w0.heap.size ≤ w.heap.size + 1 + 1; omega) _).setCell (by show w0.heap.size ≤ w.heap.size + 1 + 1; omega) _
end Go.Proofs.Ytokebdeaahdcjab
