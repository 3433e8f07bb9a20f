/-
  The page's row of parts that grows beside its reader. (Printed by wip/make/mkexrkids.py.)
-/
import Derived.Test.YtnliokikcpnllaaExRRead
namespace Go.Proofs.Ytnliokikcpnllaa
open Go.ChangeShapes Go.WideShapes Go.ChangeAt Go.RowKit Go.Deep
open Fl

theorem Try.infoRefX : (Try.prog.info? 25).map (fun i => (i.zero, i.size, i.bytes)) = some (some (mkX 0 0 ⟨#[]⟩ none 0 0), 4, 56) := by kernel_rfl

/-- The append of one part, at the operation. -/
theorem op_pushR {o : Oper} {d : Option Tmp} (hd : o.dst = d) {a : Act} {w : World} {K : Act → World → Prop} {Q : Exit → Act → World → Prop} (hgd : o.guard = none) (s x : Operand)
    (hop : o.op = .call { callee := .builtin .append, args := #[s, x], argTypes := #[23, 23] })
    (B : Nat) (v : Value) (m : Nat) (cs : List Value) (hs : a.eval s = v) (hL : w.ownsRow B 25 4 v m cs) (k b : Int) (t : ByteArray) (ja : Option Addr) (jl jc : Nat) (ad : Addr) (c : Nat) (hx : a.eval x = .slice (some ad) 1 c)
    (hnews : ∀ j u, [Value.int .i64 k, .int .u64 b, .string t, .slice ja jl jc][j]? = some u → w.cell? (ad.add j) = some u) (hlen : (m + 1) * 56 ≤ 140737488355328) (hB : B ≤ w.heap.size)
    (h : ∀ v' w', w'.ownsRow B 25 4 v' (m + 1) (cs ++ [.int .i64 k, .int .u64 b, .string t, .slice ja jl jc]) → w.grownBy w' v.ownBlock → (v'.ownBlock = v.ownBlock ∨ ∀ g, v'.ownBlock = some g → w.heap.size ≤ g) → K (a.put d v') w') : Oper.wp Try.prog o a w K Q := by
  subst hd
  have hw : Region.wanted o (yielded #[] a.tmps) = true := by simp [Region.wanted, hgd]
  obtain ⟨i0, hi, hz0, hz1, hz2⟩ := info_parts Try.infoRefX
  have := step_append (ops := #[]) (E := True) (Q := Q) hgd s x 23 hop B 25 i0 _ 4 56 Try.underlying23 hi hz0 hz1 hz2 rfl (by decide) v m cs hs hL ad 1 c [.int .i64 k, .int .u64 b, .string t, .slice ja jl jc] hx rfl hnews (by
    intro y hy
    simp at hy
    rcases hy with rfl | rfl | rfl | rfl <;> rfl) (by unfold maxLen; omega) hlen hB h
  rwa [if_pos hw] at this

theorem op_call2R {o : Oper} {d : Option Tmp} {a : Act} {w : World} {K : Act → World → Prop} {Q : Exit → Act → World → Prop} (hd : o.dst = d) (f : FuncId) (hf : ∀ x1 x2 w, Sem.run Try.prog (callFunc f #[x1, x2]) w = .ok (.enter f #[x1, x2]) w) (s1 s2 : Operand) (ts : Array TypeId)
    (ho : o.op = .call { callee := .value (.func f), args := #[s1, s2], argTypes := ts }) (x1 x2 : Value) (h1 : a.eval s1 = x1) (h2 : a.eval s2 = x2) (hc : Calls Try.prog f #[x1, x2] w fun e w' => ∃ y, e = .returned y ∧ K (a.put d y) w') : Oper.wp Try.prog o a w K Q := by
  subst hd
  have hrun : (execOp a.eval o).run Try.prog w = .ok (.enter f #[x1, x2]) w := by
    unfold execOp
    simp only [ho, resolve, invoke, List.map_toArray, List.map_cons, List.map_nil, h1, h2]
    exact hf x1 x2 w
  unfold Oper.wp
  rw [hrun, Oper.upon_enter]
  refine hc.mono fun e w' he => ?_
  obtain ⟨y, rfl, hy⟩ := he
  exact hy

/-- What the loop over the parts keeps, without an error. -/
structure RKidsI (w : World) (p : Nat) (a : Option Addr) (c : Nat) (bs : List UInt8) (E : Nat) (n : Nat) (k b : Int) (t : ByteArray) (wr : World) (s : SX) (l : List (X n)) (va : Option Addr) (vc : Nat) : Prop where
  box : wr.heap[E]? = some (.cells #[.int .i64 k, .int .u64 b, .string t, .slice va l.length vc] 25 (0, 0))
  zero : wr.heap[w.heap.size]? = some (.cells #[.int .i64 0, .int .u64 0, .string ⟨#[]⟩, .slice none 0 0] 25 (0, 0))
  rd : RAtX wr p a c bs s
  grown : w.grownBy wr (some p)
  row : ∃ xs G, RowX 25 wr (E + 1) (.slice va l.length vc) n l l.length xs G

/-- The same, an error met. -/
structure RKidsE (w : World) (p : Nat) (E : Nat) (k b : Int) (t : ByteArray) (wr : World) (er : Int) (va : Option Addr) (vl vc : Nat) : Prop where
  box : wr.heap[E]? = some (.cells #[.int .i64 k, .int .u64 b, .string t, .slice va vl vc] 25 (0, 0))
  zero : wr.heap[w.heap.size]? = some (.cells #[.int .i64 0, .int .u64 0, .string ⟨#[]⟩, .slice none 0 0] 25 (0, 0))
  rd : ∃ K, RErrX wr p K er
  grown : w.grownBy wr (some p)

/-- What stays where a part is read and put into the row. -/
theorem RKidsI.stay {w : World} {p : Nat} {a : Option Addr} {c : Nat} {bs : List UInt8} {E n : Nat} {k b : Int} {t : ByteArray} {wr w1 w2 w3 w4 : World} {s : SX} {l : List (X n)} {va : Option Addr} {vc : Nat} (hpw : p < w.heap.size) (hE : w.heap.size < E) (h : RKidsI w p a c bs E n k b t wr s l va vc)
    (hbd : Below wr.heap.size wr w1) (hg : w1.grownBy w2 (some p)) (hb3 : Below w2.heap.size w2 w3) (hg4 : w3.grownBy w4 (Value.slice va l.length vc).ownBlock) (v' : Value) :
    w4.heap[E]? = some (.cells #[.int .i64 k, .int .u64 b, .string t, .slice va l.length vc] 25 (0, 0)) ∧ (w4.setCell ⟨E, 3, none⟩ v').heap[E]? = some (.cells #[.int .i64 k, .int .u64 b, .string t, v'] 25 (0, 0)) ∧
      (w4.setCell ⟨E, 3, none⟩ v').heap[w.heap.size]? = some (.cells #[.int .i64 0, .int .u64 0, .string ⟨#[]⟩, .slice none 0 0] 25 (0, 0)) ∧ (w4.setCell ⟨E, 3, none⟩ v').heap[p]? = w2.heap[p]? ∧ w.grownBy (w4.setCell ⟨E, 3, none⟩ v') (some p) := by
  obtain ⟨xs, G, hrow⟩ := h.row
  have hv : ∀ g, (Value.slice va l.length vc).ownBlock = some g → E + 1 ≤ g := fun g hg => (hrow.row.lt g hg).1
  have hEw := lt_of_block h.box
  have h1 := hbd.size
  have h2 := hg.size
  have h3 := hb3.size
  have h4 := hg4.size
  have hp0 : p < wr.heap.size := by omega
  have e2 : ∀ j, j < wr.heap.size → j ≠ p → w2.heap[j]? = wr.heap[j]? := fun j hj hne => (hg.block j (by omega) (by simp; omega)).trans (hbd.block j hj)
  have e4 : ∀ j, j < E + 1 → w4.heap[j]? = w2.heap[j]? := fun j hj => (hg4.block j (by omega) (fun e => by have := hv j e.symm; omega)).trans (hb3.block j (by omega))
  have hE4 : w4.heap[E]? = _ := (e4 E (by omega)).trans ((e2 E hEw (by omega)).trans h.box)
  refine ⟨hE4, by simp [World.setCell, Array.getElem?_modify, hE4], ?_, ?_, ?_⟩
  · rw [Below.heap_setCell _ _ _ _ (by show w.heap.size ≠ E; omega)]
    exact (e4 _ (by omega)).trans ((e2 _ (by omega) (by omega)).trans h.zero)
  · rw [Below.heap_setCell _ _ _ _ (by show p ≠ E; omega)]
    exact e4 p (by omega)
  · have g2 : w.grownBy w3 (some p) := grown_belowX (grown_transX (grown_belowX h.grown hbd) hg) hb3
    refine ⟨hg4.os.trans g2.os, hg4.tape.trans g2.tape, hg4.output.trans g2.output, by have := g2.size; simp [World.setCell]; omega, fun j hj hne => ?_⟩
    rw [Below.heap_setCell _ _ _ _ (by show j ≠ E; omega)]
    exact (hg4.block j (by omega) (fun e => by have := hv j e.symm; omega)).trans (g2.block j hj hne)

/-- One part more. -/
theorem RKidsI.push {w : World} {p : Nat} {a : Option Addr} {c : Nat} {bs : List UInt8} {E n : Nat} {k b : Int} {t : ByteArray} {wr w1 w2 w3 w4 : World} {s s' : SX} {l : List (X n)} {va : Option Addr} {vc : Nat} (hpw : p < w.heap.size) (hE : w.heap.size < E) (h : RKidsI w p a c bs E n k b t wr s l va vc)
    (hbd : Below wr.heap.size wr w1) (hg : w1.grownBy w2 (some p)) (hr2 : RAtX w2 p a c bs s') {u : X n} {k2 b2 : Int} {t2 : ByteArray} {ja : Option Addr} {jl jc : Nat} {F : Nat → Prop} (ho : OwnX 25 w2 n (mkX k2 b2 t2 ja jl jc) u F) (hF : ∀ g, F g → w1.heap.size ≤ g ∧ g < w2.heap.size)
    (hb3 : Below w2.heap.size w2 w3) {xs : List Value} (hxs : ∃ G, RowX 25 wr (E + 1) (.slice va l.length vc) n l l.length xs G) {v' : Value} (h4 : w4.ownsRow (E + 1) 25 4 v' (l.length + 1) (xs ++ [.int .i64 k2, .int .u64 b2, .string t2, .slice ja jl jc]))
    (hg4 : w3.grownBy w4 (Value.slice va l.length vc).ownBlock) (hv' : v'.ownBlock = (Value.slice va l.length vc).ownBlock ∨ ∀ g, v'.ownBlock = some g → w3.heap.size ≤ g) :
    ∃ va' vc', v' = .slice va' (l ++ [u]).length vc' ∧ RKidsI w p a c bs E n k b t (w4.setCell ⟨E, 3, none⟩ v') s' (l ++ [u]) va' vc' := by
  obtain ⟨G, hrow⟩ := hxs
  obtain ⟨-, q2, q3, q4, q5⟩ := h.stay hpw hE hbd hg hb3 hg4 v'
  have hEw := lt_of_block h.box
  have s1 := hbd.size
  have s2 := hg.size
  have s3 := hb3.size
  have s4 := hg4.size
  obtain ⟨G', hR⟩ := (hrow.more (r := [u]) (Nat.le_refl _)).push (u := u) (c0 := .int .i64 k2) (c1 := .int .u64 b2) (c2 := .string t2) (c3 := .slice ja jl jc) (F := F) (w1 := w3) (by simp) (by omega) (by omega)
    (fun j hj hjw => (hb3.block j (by omega)).trans ((hg.block j (by omega) (by simp; omega)).trans (hbd.block j hjw))) (ho.same n fun g hg' => hb3.block g (hF g hg').2) (fun g hg' => ⟨by have := (hF g hg').1; omega, by have := (hF g hg').2; omega⟩) h4 hg4 hv'
  obtain ⟨va', vc', rfl⟩ := slice_of_own hR.row
  have hle : (l ++ [u]).length = l.length + 1 := by simp
  rw [hle]
  refine ⟨va', vc', rfl, ⟨by rw [hle]; exact q2, q3, hr2.same q4, q5, ?_⟩⟩
  rw [hle]
  exact ⟨_, G', hR.same (by simp [World.setCell]) fun j hj _ => Below.heap_setCell _ _ _ _ (by show j ≠ E; omega)⟩

/-- A part that met an error. -/
theorem RKidsI.pushE {w : World} {p : Nat} {a : Option Addr} {c : Nat} {bs : List UInt8} {E n : Nat} {k b : Int} {t : ByteArray} {wr w1 w2 w3 w4 : World} {s : SX} {l : List (X n)} {va : Option Addr} {vc : Nat} (hpw : p < w.heap.size) (hE : w.heap.size < E) (h : RKidsI w p a c bs E n k b t wr s l va vc)
    (hbd : Below wr.heap.size wr w1) (hg : w1.grownBy w2 (some p)) {K : Nat} {er : Int} (hr2 : RErrX w2 p K er) (hb3 : Below w2.heap.size w2 w3) {v' : Value} {m : Nat} {cs : List Value} (h4 : w4.ownsRow (E + 1) 25 4 v' m cs)
    (hg4 : w3.grownBy w4 (Value.slice va l.length vc).ownBlock) : ∃ va' vc', v' = .slice va' m vc' ∧ RKidsE w p E k b t (w4.setCell ⟨E, 3, none⟩ v') er va' m vc' := by
  obtain ⟨-, q2, q3, q4, q5⟩ := h.stay hpw hE hbd hg hb3 hg4 v'
  obtain ⟨va', vc', rfl⟩ := slice_of_own h4
  exact ⟨va', vc', rfl, q2, q3, ⟨K, hr2.same q4⟩, q5⟩
end Go.Proofs.Ytnliokikcpnllaa
