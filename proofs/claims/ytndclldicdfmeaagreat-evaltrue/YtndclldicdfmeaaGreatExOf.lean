/-
  Of: whatever expression it is handed, what it answers reads as the same tree, in new memory of its own; nothing that was there has turned.
-/
import Derived.Test.YtndclldicdfmeaaGreatExBase
import Derived.Test.YtndclldicdfmeaaGreatOcStep
import Derived.Test.YtndclldicdfmeaaGreatRgTill
namespace Go.Proofs.YtndclldicdfmeaaGreat.Xp
open Go.ChangeShapes Go.WideShapes Go.ChangeAt Go.RowKit Go.Deep

theorem Tryz.infoExpr : (Tryz.prog.info? 34).map (fun i => (i.zero, i.size, i.bytes)) = some (some (mkX 0 0 ⟨#[]⟩ none 0 0), 4, 56) := by kernel_rfl

theorem getElem?_four {xs : List Value} {c0 c1 c2 c3 : Value} {m : Nat} (h : xs.length = m * 4) :
    (xs ++ [c0, c1, c2, c3])[m * 4]? = some c0 ∧ (xs ++ [c0, c1, c2, c3])[m * 4 + 1]? = some c1 ∧ (xs ++ [c0, c1, c2, c3])[m * 4 + 2]? = some c2 ∧ (xs ++ [c0, c1, c2, c3])[m * 4 + 3]? = some c3 := by
  refine ⟨?_, ?_, ?_, ?_⟩
  all_goals
    rw [List.getElem?_append_right (by omega)]
    simp [h]

/-- A row of expressions of one's own: its parts beside it, none of them shared. -/
structure RowX (e : TypeId) (w : World) (B : Nat) (v : Value) (n : Nat) (its : List (X n)) (m : Nat) (xs : List Value) (G : Nat → Nat → Prop) : Prop where
  row : w.ownsRow B e 4 v m xs
  items : ItemsJ (OwnX e w n) its m xs G
  rng : ∀ i b, i < m → G i b → B ≤ b ∧ b < w.heap.size ∧ v.ownBlock ≠ some b
  apart : ∀ i j b, i < m → j < m → G i b → G j b → i = j

theorem RowX.nil {e : TypeId} (w : World) (B : Nat) (n : Nat) (its : List (X n)) : RowX e w B (.slice none 0 0) n its 0 [] (fun _ _ => False) :=
  ⟨World.ownsRow_nil _ _ _ _, fun i _ hi => by omega, fun i _ hi => by omega, fun i _ _ hi => by omega⟩

theorem RowX.same {e : TypeId} {w w' : World} {B n : Nat} {v : Value} {its : List (X n)} {m : Nat} {xs : List Value} {G : Nat → Nat → Prop} (h : RowX e w B v n its m xs G) (hs : w.heap.size ≤ w'.heap.size) (hh : ∀ b, B ≤ b → b < w.heap.size → w'.heap[b]? = w.heap[b]?) : RowX e w' B v n its m xs G := by
  refine ⟨ownsRow_same h.row fun g hg => hh g (h.row.lt g hg).1 (h.row.lt g hg).2, ?_, fun i b hi hb => ?_, h.apart⟩
  · intro i u hi hu
    obtain ⟨c0, c1, c2, c3, e0, e1, e2, e3, ho⟩ := h.items i u hi hu
    exact ⟨c0, c1, c2, c3, e0, e1, e2, e3, ho.same n fun b hb => hh b (h.rng i b hi hb).1 (h.rng i b hi hb).2.1⟩
  · have := h.rng i b hi hb
    exact ⟨this.1, by omega, this.2.2⟩

theorem RowX.below {e : TypeId} {w w' : World} {B n : Nat} {v : Value} {its : List (X n)} {m : Nat} {xs : List Value} {G : Nat → Nat → Prop} (h : RowX e w B v n its m xs G) (hb : Below w.heap.size w w') : RowX e w' B v n its m xs G :=
  h.same hb.size fun b _ hb' => hb.block b hb'

/-- One part more. -/
theorem RowX.push {e : TypeId} {w0 w1 w2 : World} {B n : Nat} {v v' : Value} {its : List (X n)} {m : Nat} {xs : List Value} {G : Nat → Nat → Prop} (h : RowX e w0 B v n its m xs G) {u : X n} {c0 c1 c2 c3 : Value} {F : Nat → Prop} (hm : its[m]? = some u) (hB : B ≤ w0.heap.size)
    (hs1 : w0.heap.size ≤ w1.heap.size) (hbb : ∀ j, B ≤ j → j < w0.heap.size → w1.heap[j]? = w0.heap[j]?) (ho : OwnX e w1 n (.agg #[c0, c1, c2, c3]) u F) (hF : ∀ b, F b → w0.heap.size ≤ b ∧ b < w1.heap.size)
    (hr : w2.ownsRow B e 4 v' (m + 1) (xs ++ [c0, c1, c2, c3])) (hg : w1.grownBy w2 v.ownBlock) (hv' : v'.ownBlock = v.ownBlock ∨ ∀ g, v'.ownBlock = some g → w1.heap.size ≤ g) :
    ∃ G', RowX e w2 B v' n its (m + 1) (xs ++ [c0, c1, c2, c3]) G' := by
  have hlen : xs.length = m * 4 := h.row.1
  have hvb : ∀ g, v.ownBlock = some g → g < w0.heap.size := fun g hg => (h.row.lt g hg).2
  have hs2 := hg.size
  have keep1 : ∀ j, j < w1.heap.size → v.ownBlock ≠ some j → w2.heap[j]? = w1.heap[j]? := fun j hj hne => hg.block j hj (fun e => hne e.symm)
  have keep : ∀ j, B ≤ j → j < w0.heap.size → v.ownBlock ≠ some j → w2.heap[j]? = w0.heap[j]? := fun j hBj hj hne => (keep1 j (by omega) hne).trans (hbb j hBj hj)
  have q := getElem?_four (c0 := c0) (c1 := c1) (c2 := c2) (c3 := c3) hlen
  refine ⟨fun i b => if i = m then F b else G i b, hr, ?_, ?_, ?_⟩
  · intro i u' hi hu'
    by_cases him : i = m
    · subst him
      rw [hm] at hu'
      cases hu'
      refine ⟨c0, c1, c2, c3, q.1, q.2.1, q.2.2.1, q.2.2.2, ?_⟩
      simp only [if_true]
      exact ho.same n fun b hbF => keep1 b (hF b hbF).2 (fun e => by have := hvb b e; have := (hF b hbF).1; omega)
    · obtain ⟨d0, d1, d2, d3, e0, e1, e2, e3, hO⟩ := h.items i u' (by omega) hu'
      refine ⟨d0, d1, d2, d3, ?_, ?_, ?_, ?_, ?_⟩
      · rw [List.getElem?_append_left (by omega)]; exact e0
      · rw [List.getElem?_append_left (by omega)]; exact e1
      · rw [List.getElem?_append_left (by omega)]; exact e2
      · rw [List.getElem?_append_left (by omega)]; exact e3
      · simp only [him, if_false]
        exact hO.same n fun b hbG => keep b (h.rng i b (by omega) hbG).1 (h.rng i b (by omega) hbG).2.1 (h.rng i b (by omega) hbG).2.2
  · intro i b hi hGi
    by_cases him : i = m
    · simp only [him, if_true] at hGi
      have := hF b hGi
      refine ⟨by omega, by omega, fun e => ?_⟩
      rcases hv' with hv' | hv'
      · have := hvb b (by rw [← hv']; exact e); omega
      · have := hv' b e; omega
    · simp only [him, if_false] at hGi
      have := h.rng i b (by omega) hGi
      refine ⟨by omega, by omega, fun e => ?_⟩
      rcases hv' with hv' | hv'
      · exact this.2.2 (by rw [← hv']; exact e)
      · have := hv' b e; omega
  · intro i j b hi hj hGi hGj
    by_cases him : i = m <;> by_cases hjm : j = m
    · omega
    · simp only [him, if_true] at hGi
      simp only [hjm, if_false] at hGj
      have := hF b hGi
      have := h.rng j b (by omega) hGj
      omega
    · simp only [him, if_false] at hGi
      simp only [hjm, if_true] at hGj
      have := hF b hGj
      have := h.rng i b (by omega) hGi
      omega
    · simp only [him, if_false] at hGi
      simp only [hjm, if_false] at hGj
      exact h.apart i j b (by omega) (by omega) hGi hGj

/-- A part out of its row. -/
theorem RowX.own {e : TypeId} {w w' : World} {B n : Nat} {ia : Option Addr} {ic : Nat} {its : List (X n)} {xs : List Value} {G : Nat → Nat → Prop} {k b : Int} {t : ByteArray} (h : RowX e w B (.slice ia its.length ic) n its its.length xs G)
    (hk : -9223372036854775808 ≤ k ∧ k ≤ 9223372036854775807) (hb : 0 ≤ b ∧ b < 18446744073709551616) (ht : t.size ≤ 140737488351232) (hl : its.length * 56 ≤ 140737488351232) (hh : ∀ j, B ≤ j → j < w.heap.size → w'.heap[j]? = w.heap[j]?) :
    OwnX e w' (n + 1) (mkX k b t ia its.length ic) (k, b, t, its) (fun g => B ≤ g ∧ g < w.heap.size) := by
  have c := cap_of_own h.row
  refine ⟨ia, ic, xs, G, rfl, ⟨hk, hb, ht, c.1, c.2, hl⟩, ownsRow_same (w := w) (ownsRow_base0 h.row) fun g hg => hh g (h.row.lt g hg).1 (h.row.lt g hg).2, fun b hb => h.row.lt b hb, ?_, fun i b hi hb => ⟨⟨(h.rng i b hi hb).1, (h.rng i b hi hb).2.1⟩, (h.rng i b hi hb).2.2⟩, h.apart⟩
  intro i u hi hu
  obtain ⟨c0, c1, c2, c3, e0, e1, e2, e3, ho⟩ := h.items i u hi hu
  exact ⟨c0, c1, c2, c3, e0, e1, e2, e3, ho.same n fun b hb => hh b (h.rng i b hi hb).1 (h.rng i b hi hb).2.1⟩

/-- The append of one part, at the operation. -/
theorem op_pushX {o : Oper} {d : Option Tmp} (hd : o.dst = d) {a : Act} {w : World} {K : Act → World → Prop} {Q : Exit → Act → World → Prop} (hgd : o.guard = none) (s x : Operand)
    (hop : o.op = .call { callee := .builtin .append, args := #[s, x], argTypes := #[32, 32] })
    (B : Nat) (v : Value) (m : Nat) (cs : List Value) (hs : a.eval s = v) (hL : w.ownsRow B 34 4 v m cs) (k b : Int) (t : ByteArray) (ja : Option Addr) (jl jc : Nat) (ad : Addr) (c : Nat) (hx : a.eval x = .slice (some ad) 1 c)
    (hnews : ∀ j u, [Value.int .i64 k, .int .u64 b, .string t, .slice ja jl jc][j]? = some u → w.cell? (ad.add j) = some u) (hlen : (m + 1) * 56 ≤ 140737488355328) (hB : B ≤ w.heap.size)
    (h : ∀ v' w', w'.ownsRow B 34 4 v' (m + 1) (cs ++ [.int .i64 k, .int .u64 b, .string t, .slice ja jl jc]) → w.grownBy w' v.ownBlock → (v'.ownBlock = v.ownBlock ∨ ∀ g, v'.ownBlock = some g → w.heap.size ≤ g) → K (a.put d v') w') : Oper.wp Tryz.prog o a w K Q := by
  subst hd
  have hw : Region.wanted o (yielded #[] a.tmps) = true := by simp [Region.wanted, hgd]
  obtain ⟨i0, hi, hz0, hz1, hz2⟩ := info_parts Tryz.infoExpr
  have := step_append (ops := #[]) (E := True) (Q := Q) hgd s x 32 hop B 34 i0 _ 4 56 Tryz.underlying32 hi hz0 hz1 hz2 rfl (by decide) v m cs hs hL ad 1 c [.int .i64 k, .int .u64 b, .string t, .slice ja jl jc] hx rfl hnews (by
    intro y hy
    simp at hy
    rcases hy with rfl | rfl | rfl | rfl <;> rfl) (by unfold maxLen; omega) hlen hB h
  rwa [if_pos hw] at this

theorem op_callX {o : Oper} {d : Option Tmp} {a : Act} {w : World} {K : Act → World → Prop} {Q : Exit → Act → World → Prop} (hd : o.dst = d) (f : FuncId) (hf : ∀ x1 w, Sem.run Tryz.prog (callFunc f #[x1]) w = .ok (.enter f #[x1]) w) (s1 : Operand) (ts : Array TypeId)
    (ho : o.op = .call { callee := .value (.func f), args := #[s1], argTypes := ts }) (x1 : Value) (h1 : a.eval s1 = x1) (hc : Calls Tryz.prog f #[x1] w fun e w' => ∃ y, e = .returned y ∧ K (a.put d y) w') : Oper.wp Tryz.prog o a w K Q := by
  subst hd
  have hrun : (execOp a.eval o).run Tryz.prog w = .ok (.enter f #[x1]) w := by
    unfold execOp
    simp only [ho, resolve, invoke, List.map_toArray, List.map_cons, List.map_nil, h1]
    exact hf x1 w
  unfold Oper.wp
  rw [hrun, Oper.upon_enter]
  refine hc.mono fun e w' he => ?_
  obtain ⟨y, rfl, hy⟩ := he
  exact hy

/-- What the loop keeps. -/
structure OfX (k b : Int) (t : ByteArray) (ia : Option Addr) (il ic : Nat) (w wr : World) (n : Nat) (its : List (X n)) (m : Nat) (v : Value) (xs : List Value) (G : Nat → Nat → Prop) : Prop where
  row : RowX 34 wr (w.heap.size + 3) v n its m xs G
  var : wr.heap[w.heap.size + 2]? = some (.cells #[.int .i64 k, .int .u64 b, .string t, v] 34 (0, 0))
  arg : wr.heap[w.heap.size]? = some (.cells #[.int .i64 k, .int .u64 b, .string t, .slice ia il ic] 25 (0, 0))
  res : wr.heap[w.heap.size + 1]? = some (.cells #[.int .i64 0, .int .u64 0, .string ⟨#[]⟩, .slice none 0 0] 34 (0, 0))
  bel : Below w.heap.size w wr

theorem OfX.push {k b : Int} {t : ByteArray} {ia : Option Addr} {il ic : Nat} {w w0 w1 w2 w3 : World} {n : Nat} {its : List (X n)} {m : Nat} {v v' : Value} {xs : List Value} {G : Nat → Nat → Prop} (h : OfX k b t ia il ic w w0 n its m v xs G) {u : X n} {c0 c1 c2 c3 : Value} {F : Nat → Prop} (hm : its[m]? = some u)
    (hb : Below w0.heap.size w0 w1) (ho : OwnX 34 w1 n (.agg #[c0, c1, c2, c3]) u F) (hF : ∀ b, F b → w0.heap.size ≤ b ∧ b < w1.heap.size) (hb2 : Below w1.heap.size w1 w2)
    (hr : w3.ownsRow (w.heap.size + 3) 34 4 v' (m + 1) (xs ++ [c0, c1, c2, c3])) (hg : w2.grownBy w3 v.ownBlock) (hv' : v'.ownBlock = v.ownBlock ∨ ∀ g, v'.ownBlock = some g → w2.heap.size ≤ g) :
    (w3.heap[w.heap.size]? = some (.cells #[.int .i64 k, .int .u64 b, .string t, .slice ia il ic] 25 (0, 0)) ∧ w3.heap[w.heap.size + 2]? = some (.cells #[.int .i64 k, .int .u64 b, .string t, v] 34 (0, 0)) ∧ Below w.heap.size w w3) ∧ ∃ G', OfX k b t ia il ic w (w3.setCell ⟨w.heap.size + 2, 3, none⟩ v') n its (m + 1) v' (xs ++ [c0, c1, c2, c3]) G' := by
  have hsz := lt_of_block h.var
  have hbb := nxt hb hb2
  have rowge : ∀ g, v.ownBlock = some g → w.heap.size + 3 ≤ g := fun g hg' => (h.row.row.lt g hg').1
  have keep : ∀ j, j < w.heap.size + 3 → w3.heap[j]? = w0.heap[j]? := fun j hj => (hg.block j (by have := hbb.size; omega) fun e => by have := rowge j e.symm; omega).trans (hbb.block j (by omega))
  have b3 : Below w.heap.size w w3 := ⟨hg.os.trans ((hbb.os).trans h.bel.os), hg.tape.trans (hbb.tape.trans h.bel.tape), hg.output.trans (hbb.output.trans h.bel.output), by have := hg.size; have := hbb.size; have := h.bel.size; omega, fun j hj => (keep j (by omega)).trans (h.bel.block j hj)⟩
  obtain ⟨G', hG'⟩ := h.row.push hm (by omega) hbb.size (fun j _ hj => hbb.block j hj) (ho.same n fun b hb => hb2.block b (hF b hb).2) (fun b hb => ⟨(hF b hb).1, by have := (hF b hb).2; have := hb2.size; omega⟩) hr hg hv'
  have v3 : w3.heap[w.heap.size + 2]? = _ := (keep _ (by omega)).trans h.var
  refine ⟨⟨(keep _ (by omega)).trans h.arg, v3, b3⟩, G', ?_, ?_, ?_, ?_, b3.setCell (by simp) _⟩
  · exact hG'.same (by simp [World.setCell]) fun j hj _ => Below.heap_setCell _ _ _ _ (show j ≠ w.heap.size + 2 by omega)
  · simp [World.setCell, Array.getElem?_modify, v3]
  · exact (Below.heap_setCell _ _ _ _ (show w.heap.size ≠ w.heap.size + 2 by omega)).trans ((keep _ (by omega)).trans h.arg)
  · exact (Below.heap_setCell _ _ _ _ (show w.heap.size + 1 ≠ w.heap.size + 2 by omega)).trans ((keep _ (by omega)).trans h.res)

end Go.Proofs.YtndclldicdfmeaaGreat.Xp
