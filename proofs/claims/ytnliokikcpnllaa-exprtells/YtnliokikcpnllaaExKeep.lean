/-
  What the reader keeps of a part; a row of parts that grows.
-/
import Derived.Test.YtnliokikcpnllaaExRdM
namespace Go.Proofs.Ytnliokikcpnllaa
open Go.ChangeShapes Go.WideShapes Go.ChangeAt Go.RowKit Go.Deep
open Fl

theorem RowX.more {e : TypeId} {w : World} {B n : Nat} {v : Value} {l r : List (X n)} {m : Nat} {xs : List Value} {G : Nat → Nat → Prop} (h : RowX e w B v n l m xs G) (hm : m ≤ l.length) : RowX e w B v n (l ++ r) m xs G :=
  ⟨h.row, fun i u hi hu => h.items i u hi (by rwa [List.getElem?_append_left (by omega)] at hu), h.rng, h.apart⟩

/-- What keeping leaves. -/
def KeepPost (w : World) (B : Nat) (v : Value) (m : Nat) (xs : List Value) (k b : Int) (t : ByteArray) (ja : Option Addr) (jl jc : Nat) (e : Ending) (w' : World) : Prop :=
  ∃ v' w1, e = .returned v' ∧ Below w.heap.size w w1 ∧ w'.ownsRow B 29 4 v' (m + 1) (xs ++ [.int .i64 k, .int .u64 b, .string t, .slice ja jl jc]) ∧ w1.grownBy w' v.ownBlock ∧ (v'.ownBlock = v.ownBlock ∨ ∀ g, v'.ownBlock = some g → w1.heap.size ≤ g)

theorem rdX_cells {w : World} {p : Nat} {s : SX} (h : RdX w p s) : w.cell? ⟨p, 1, none⟩ = some (.int .i64 (s.2 : Int)) := by
  obtain ⟨a, c, hb, -⟩ := h
  obtain ⟨x1, -⟩ := cell_of hb 1
  simpa using x1

set_option maxRecDepth 100000 in
theorem keepX_nil (p : Nat) (s : SX) (v : Value) (x : Value) (k b : Int) (t : ByteArray) (ja : Option Addr) (jl jc : Nat) (hx : x = mkX k b t ja jl jc) (w : World) (hr : RdX w p s) (h : 64 < s.2) :
    Calls Try.prog 61 #[.pointer (some ⟨p, 0, none⟩), v, x] w fun e w' => e = .returned (.slice none 0 0) ∧ Below w.heap.size w w' := by
  subst hx
  have x1 := rdX_cells (hr.below (below_one w (.cells #[.int .i64 k, .int .u64 b, .string t, .slice ja jl jc] 29)))
  have hd : (64 : Int) < (s.2 : Int) := by omega
  clear hr
  go_enter Try.func61, Try.ntmps61
  go_wp2_with fail
  go_ret
  exact ⟨rfl, below_one _ _⟩

set_option maxRecDepth 100000 in
set_option maxHeartbeats 1600000 in
theorem keepX_row (p : Nat) (s : SX) (B : Nat) (v : Value) (m : Nat) (xs : List Value) (k b : Int) (t : ByteArray) (ja : Option Addr) (jl jc : Nat) (w : World) (hr : RdX w p s) (h : s.2 ≤ 64) (hrow : w.ownsRow B 29 4 v m xs) (hm : m ≤ 1000) (hB : B ≤ w.heap.size) :
    Calls Try.prog 61 #[.pointer (some ⟨p, 0, none⟩), v, mkX k b t ja jl jc] w (KeepPost w B v m xs k b t ja jl jc) := by
  obtain ⟨i0, hi, hz0, hz1, hz2⟩ := info_parts Try.infoExpr
  have x1 := rdX_cells (hr.below (below_one w (.cells #[.int .i64 k, .int .u64 b, .string t, .slice ja jl jc] 29)))
  have hd : decide ((64 : Int) < (s.2 : Int)) = false := by simp; omega
  obtain ⟨z0, z1, z2, z3, -⟩ := box4 (heap_alloc_new w (.cells #[.int .i64 k, .int .u64 b, .string t, .slice ja jl jc] 29))
  obtain ⟨va, vc, rfl⟩ := slice_of_own hrow
  have HROW : Hid (w.ownsRow B 29 4 (.slice va m vc) m xs) := hrow
  clear hr hrow
  go_enter Try.func61, Try.ntmps61
  go_wp2_with (at_builtin; refine wpList_append_apart _ rfl _ _ 27 rfl B 29 i0 _ 4 56 Try.underlying27 hi hz0 hz1 hz2 rfl (by decide) _ m xs rfl ?d0 (some ⟨w.heap.size + 1, 0, none⟩) 1 1 [.int .i64 k, .int .u64 b, .string t, .slice ja jl jc] rfl (by simp) rfl ?d1 ?d2 ?d3 ?d4 ?d5 ?_)
  case d0 => exact ownsRow_same HROW.out fun g hg => (nxt (below_one w _) (below_one _ _)).block g (HROW.out.lt g hg).2
  case d1 =>
    intro ad e j u hj
    cases e
    have := heap_new2 w (.cells #[.int .i64 k, .int .u64 b, .string t, .slice ja jl jc] 29) (.cells #[.int .i64 k, .int .u64 b, .string t, .slice ja jl jc] 29)
    rw [add_plain]
    simp only [World.cell?, this]
    simpa using hj
  case d2 => intro u hu; simp at hu; rcases hu with rfl | rfl | rfl | rfl <;> rfl
  case d3 => unfold maxLen; omega
  case d4 => omega
  case d5 => simp; omega
  intro v' w2 h1 h2 h3
  obtain ⟨va', vc', rfl⟩ := slice_of_own h1
  have HK : Hid (KeepPost w B (.slice va m vc) m xs k b t ja jl jc (.returned (.slice va' (m + 1) vc')) w2) := ⟨_, _, rfl, nxt (below_one w _) (below_one _ _), h1, h2, h3.imp id fun q g hg => by have := q g hg; simpa using this⟩
  clear h1 h2 h3
  go_wp2_with fail
  go_ret
  exact HK.out

/-- What the loop over the parts keeps: the row in the box E, the reader; the row is whole while not too many parts were begun. -/
structure KidsI (w : World) (p E : Nat) (n : Nat) (k b : Int) (t : ByteArray) (wr : World) (s : SX) (l : List (X n)) (va : Option Addr) (vl vc : Nat) : Prop where
  box : wr.heap[E]? = some (.cells #[.int .i64 k, .int .u64 b, .string t, .slice va vl vc] 29 (0, 0))
  rd : RdX wr p s
  grown : w.grownBy wr (some p)
  row : s.2 ≤ 64 → vl = l.length ∧ ∃ xs G, RowX 29 wr (E + 1) (.slice va vl vc) n l l.length xs G

/-- What a part's reading leaves. -/
def PartPost (n : Nat) (r : Except Int (X n × SX)) (p : Nat) (w : World) (e : Ending) (w' : World) : Prop :=
  w.grownBy w' (some p) ∧ ((∃ er, r = .error er ∧ e = panX er) ∨ (∃ v s', r = .ok (v, s') ∧ RdX w' p s' ∧ ∃ k b t ia il ic, e = .returned (mkX k b t ia il ic) ∧
    (s'.2 ≤ 64 → ∃ F, OwnX 29 w' n (mkX k b t ia il ic) v F ∧ ∀ b, F b → w.heap.size ≤ b ∧ b < w'.heap.size)))

theorem PartPost.err {n : Nat} {er : Int} {p : Nat} {w w' : World} {e : Ending} (h : PartPost n (.error er) p w e w') : e = panX er ∧ w.grownBy w' (some p) := by
  obtain ⟨hg, h⟩ := h
  rcases h with ⟨er', h1, h2⟩ | ⟨v, s', h1, _⟩
  · cases h1; exact ⟨h2, hg⟩
  · cases h1

theorem PartPost.ok {n : Nat} {v : X n} {s' : SX} {p : Nat} {w w' : World} {e : Ending} (h : PartPost n (.ok (v, s')) p w e w') : ∃ k b t ia il ic, e = .returned (mkX k b t ia il ic) ∧ w.grownBy w' (some p) ∧ RdX w' p s' ∧
    (s'.2 ≤ 64 → ∃ F, OwnX 29 w' n (mkX k b t ia il ic) v F ∧ ∀ b, F b → w.heap.size ≤ b ∧ b < w'.heap.size) := by
  obtain ⟨hg, h⟩ := h
  rcases h with ⟨er', h1, _⟩ | ⟨v', s2, h1, h2, k, b, t, ia, il, ic, h3, h4⟩
  · cases h1
  · cases h1; exact ⟨k, b, t, ia, il, ic, h3, hg, h2, h4⟩

theorem op_callP {o : Oper} {d : Option Tmp} {a : Act} {w : World} {K : Act → World → Prop} {Q : Exit → Act → World → Prop} (hd : o.dst = d) (f : FuncId) (hf : ∀ x1 x2 w, Sem.run Try.prog (callFunc f #[x1, x2]) w = .ok (.enter f #[x1, x2]) w) (s1 s2 : Operand) (ts : Array TypeId)
    (ho : o.op = .call { callee := .value (.func f), args := #[s1, s2], argTypes := ts }) (x1 x2 : Value) (h1 : a.eval s1 = x1) (h2 : a.eval s2 = x2) (hc : Calls Try.prog f #[x1, x2] w fun e w' => (∃ y, e = .returned y ∧ K (a.put d y) w') ∨ (∃ ch, e = .panicked ch ∧ Q (.panic ch) a w')) : Oper.wp Try.prog o a w K Q := by
  subst hd
  have hrun : (execOp a.eval o).run Try.prog w = .ok (.enter f #[x1, x2]) w := by
    unfold execOp
    simp only [ho, resolve, invoke, List.map_toArray, List.map_cons, List.map_nil, h1, h2]
    exact hf x1 x2 w
  unfold Oper.wp
  rw [hrun, Oper.upon_enter]
  refine hc.mono fun e w' he => ?_
  rcases he with ⟨y, rfl, hy⟩ | ⟨ch, rfl, hy⟩
  · exact hy
  · exact hy

theorem op_call3X {o : Oper} {d : Option Tmp} {a : Act} {w : World} {K : Act → World → Prop} {Q : Exit → Act → World → Prop} (hd : o.dst = d) (f : FuncId) (hf : ∀ x1 x2 x3 w, Sem.run Try.prog (callFunc f #[x1, x2, x3]) w = .ok (.enter f #[x1, x2, x3]) w) (s1 s2 s3 : Operand) (ts : Array TypeId)
    (ho : o.op = .call { callee := .value (.func f), args := #[s1, s2, s3], argTypes := ts }) (x1 x2 x3 : Value) (h1 : a.eval s1 = x1) (h2 : a.eval s2 = x2) (h3 : a.eval s3 = x3) (hc : Calls Try.prog f #[x1, x2, x3] w fun e w' => ∃ y, e = .returned y ∧ K (a.put d y) w') : Oper.wp Try.prog o a w K Q := by
  subst hd
  have hrun : (execOp a.eval o).run Try.prog w = .ok (.enter f #[x1, x2, x3]) w := by
    unfold execOp
    simp only [ho, resolve, invoke, List.map_toArray, List.map_cons, List.map_nil, h1, h2, h3]
    exact hf x1 x2 x3 w
  unfold Oper.wp
  rw [hrun, Oper.upon_enter]
  refine hc.mono fun e w' he => ?_
  obtain ⟨y, rfl, hy⟩ := he
  exact hy

/-- One part read and kept. -/
theorem KidsI.push {w : World} {p E n : Nat} {k b : Int} {t : ByteArray} {wr w1 w2 w3 : World} {s s' : SX} {l : List (X n)} {va : Option Addr} {vl vc : Nat} (hpw : p < w.heap.size) (hE : w.heap.size ≤ E) (h : KidsI w p E n k b t wr s l va vl vc)
    (hbd : Below wr.heap.size wr w1) {u : X n} {k2 b2 : Int} {t2 : ByteArray} {ja : Option Addr} {jl jc : Nat} (hg : w1.grownBy w2 (some p)) (hr2 : RdX w2 p s') (hO : s'.2 ≤ 64 → ∃ F, OwnX 29 w2 n (mkX k2 b2 t2 ja jl jc) u F ∧ ∀ b, F b → w1.heap.size ≤ b ∧ b < w2.heap.size)
    {v' : Value} (hk : (64 < s'.2 ∧ v' = .slice none 0 0 ∧ Below w2.heap.size w2 w3) ∨ (s'.2 ≤ 64 ∧ ∃ xs, (∃ G, RowX 29 wr (E + 1) (.slice va vl vc) n l l.length xs G) ∧ KeepPost w2 (E + 1) (.slice va vl vc) l.length xs k2 b2 t2 ja jl jc (.returned v') w3)) :
    (∀ i, i < E + 1 → w3.heap[i]? = w2.heap[i]?) ∧ w3.heap[E]? = some (.cells #[.int .i64 k, .int .u64 b, .string t, .slice va vl vc] 29 (0, 0)) ∧ ∃ va' vl' vc', v' = .slice va' vl' vc' ∧ KidsI w p E n k b t (w3.setCell ⟨E, 3, none⟩ (.slice va' vl' vc')) s' (l ++ [u]) va' vl' vc' := by
  have hEw := lt_of_block h.box
  have h1E : w1.heap[E]? = _ := (hbd.block _ hEw).trans h.box
  have h2E : w2.heap[E]? = _ := (hg.block E (lt_of_block h1E) (by simp; omega)).trans h1E
  have hs1 := hbd.size
  have hs2 := hg.size
  have up : ∀ j, j < E + 1 → j ≠ E → ∀ wx : World, (∀ i, i < E + 1 → wx.heap[i]? = w2.heap[i]?) → ∀ y, (wx.setCell ⟨E, 3, none⟩ y).heap[j]? = w2.heap[j]? := fun j hj hne wx hx y => (Below.heap_setCell _ _ _ _ hne).trans (hx j hj)
  have g2 : w.grownBy w2 (some p) := grown_transX (grown_belowX h.grown hbd) hg
  have fin : ∀ (y : Value), w2.heap.size ≤ w3.heap.size → (∀ i, i < E + 1 → w3.heap[i]? = w2.heap[i]?) → w3.os = w2.os → w3.tape = w2.tape → w3.output = w2.output →
      w3.heap[E]? = some (.cells #[.int .i64 k, .int .u64 b, .string t, .slice va vl vc] 29 (0, 0)) ∧ RdX (w3.setCell ⟨E, 3, none⟩ y) p s' ∧ w.grownBy (w3.setCell ⟨E, 3, none⟩ y) (some p) ∧
        (w3.setCell ⟨E, 3, none⟩ y).heap[E]? = some (.cells #[.int .i64 k, .int .u64 b, .string t, y] 29 (0, 0)) := by
    intro y hsz hx ho hta hou
    have h3E := (hx E (by omega)).trans h2E
    refine ⟨h3E, hr2.upto fun j hj => up j (by omega) (by omega) w3 hx y, ⟨ho.trans g2.os, hta.trans g2.tape, hou.trans g2.output, ?_, fun j hj hne => (up j (by omega) (by omega) w3 hx y).trans (g2.block j hj hne)⟩, ?_⟩
    · have := g2.size
      simp [World.setCell]
      omega
    · simp [World.setCell, Array.getElem?_modify, h3E]
  rcases hk with ⟨h64, rfl, hb3⟩ | ⟨h64, xs, ⟨G, hrow⟩, v2, w4, hv, hb4, hr4, hg4, hp4⟩
  · obtain ⟨q1, q2, q3, q4⟩ := fin (.slice none 0 0) hb3.size (fun i hi => hb3.block i (by have := lt_of_block h2E; omega)) hb3.os hb3.tape hb3.output
    exact ⟨fun i hi => hb3.block i (by have := lt_of_block h2E; omega), q1, none, 0, 0, rfl, q4, q2, q3, fun h => absurd h (by omega)⟩
  · cases hv
    have hs4 := hb4.size
    have hs5 := hg4.size
    have rge : ∀ g, (Value.slice va vl vc).ownBlock = some g → E + 1 ≤ g := fun g hg' => (hrow.row.lt g hg').1
    have hx : ∀ i, i < E + 1 → w3.heap[i]? = w2.heap[i]? := fun i hi => (hg4.block i (by have := lt_of_block h2E; omega) fun e => by have := rge i e.symm; omega).trans (hb4.block i (by have := lt_of_block h2E; omega))
    obtain ⟨va', vc', rfl⟩ := slice_of_own hr4
    obtain ⟨q1, q2, q3, q4⟩ := fin (.slice va' (l.length + 1) vc') (by omega) hx (hg4.os.trans hb4.os) (hg4.tape.trans hb4.tape) (hg4.output.trans hb4.output)
    refine ⟨hx, q1, va', l.length + 1, vc', rfl, q4, q2, q3, fun _ => ⟨by simp, ?_⟩⟩
    obtain ⟨F, hO1, hO2⟩ := hO h64
    have row2 : RowX 29 w2 (E + 1) (.slice va vl vc) n (l ++ [u]) l.length xs G := ((hrow.below hbd).same hs2 fun j hj1 hj2 => hg.block j hj2 (by simp; omega)).more (Nat.le_refl _)
    have hFF : ∀ b, F b → w2.heap.size ≤ b ∨ (w1.heap.size ≤ b ∧ b < w2.heap.size) := fun b hb => Or.inr (hO2 b hb)
    obtain ⟨G', hG'⟩ := RowX.push (w0 := w1) (w1 := w4) (w2 := w3) (F := F) ((hrow.below hbd).more (r := [u]) (Nat.le_refl _)) (u := u) (c0 := .int .i64 k2) (c1 := .int .u64 b2) (c2 := .string t2) (c3 := .slice ja jl jc) (by simp) (by omega) (by omega) (fun j hj1 hj2 => (hb4.block j (by omega)).trans (hg.block j hj2 (by simp; omega))) (hO1.same n fun b hb => hb4.block b (hO2 b hb).2) (fun b hb => ⟨(hO2 b hb).1, by have := (hO2 b hb).2; omega⟩) hr4 hg4 hp4
    exact ⟨_, G', by simpa using hG'.same (by simp [World.setCell]) fun j hj _ => Below.heap_setCell _ _ _ _ (show j ≠ E by omega)⟩
end Go.Proofs.Ytnliokikcpnllaa
