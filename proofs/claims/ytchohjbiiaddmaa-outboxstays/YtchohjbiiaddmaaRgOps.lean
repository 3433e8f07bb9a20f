/-
  Single operations, as they run on whatever frame: what a reading operation gives; a call entered.
-/
import Derived.Test.YtchohjbiiaddmaaRgCall
namespace Go.Proofs.Ytchohjbiiaddmaa.Rg
open Go.ChangeShapes Go.WideShapes Go.ChangeAt Go.RowKit

theorem Sees.at {ops : Array Oper} {ia is : Nat} {a0 : Act} {val : Value → Nat → Value} {y : Value} {o : Oper} {ρ : Operand → Value} (h : Sees ops ia is a0 val y o ρ) (j : Nat) (d : Tmp) (hj : (o.after.any fun e => Region.binds .any e && e.on == j) = true) (h1 : j ≠ ia) (h2 : j ≠ is) (hd : (dsts ops)[j]? = some (some d)) : ρ (.tmp d) = val y j := by
  obtain ⟨e, he, hp⟩ := Array.any_eq_true'.1 hj
  simp only [Bool.and_eq_true, beq_iff_eq] at hp
  obtain ⟨hb, rfl⟩ := hp
  exact h.got e he hb h1 h2 d hd

theorem Sees.free {ops : Array Oper} {ia is : Nat} {a0 : Act} {val : Value → Nat → Value} {y : Value} {o : Oper} {ρ : Operand → Value} (h : Sees ops ia is a0 val y o ρ) (s : Tmp) (hs : ((dsts ops).all fun d => d != some s) = true) : ρ (.tmp s) = a0.eval (.tmp s) := by
  refine h.old s fun k hk => ?_
  have := List.all_eq_true.1 hs _ (List.mem_of_getElem? hk)
  simp at this

theorem x_move {o : Oper} {ρ : Operand → Value} {w : World} {x : Operand} {v : Value} (ho : o.op = .move x ∨ o.op = .assign x) (hx : ρ x = v) : (execOp ρ o).run Try.prog w = .ok (.value v) w := by
  subst hx
  unfold execOp
  rcases ho with ho | ho <;> simp only [ho] <;> rfl

theorem x_extract {o : Oper} {ρ : Operand → Value} {w : World} {x : Operand} {k : Nat} {vs : Array Value} {v : Value} (ho : o.op = .extract x k) (hx : ρ x = .tuple vs) (hk : vs[k]? = some v) : (execOp ρ o).run Try.prog w = .ok (.value v) w := by
  unfold execOp
  simp only [ho, hx]
  go_simp

theorem x_load {o : Oper} {ρ : Operand → Value} {w : World} {x : Operand} {ty : TypeId} {b off : Nat} {cs : List Value} {d : TypeDesc} (ho : o.op = .load ty x) (hx : ρ x = .pointer (some ⟨b, off, none⟩)) (hc : w.rangeAt b off cs)
    (hu : Try.prog.underlying ty = some d) (hd : d.isRow = true) (hi : (Try.prog.info? ty).map (·.size) = some cs.length) : (execOp ρ o).run Try.prog w = .ok (.value (.agg cs.toArray)) w := by
  unfold execOp
  simp only [ho, hx, Instr.loadAt, Instr.sureAddr, Sem.run_bind, Sem.run_pure, Result.andThen_ok, run_loadVar_mid w b off ty cs d hc hu hd hi]

theorem x_call2 {o : Oper} {ρ : Operand → Value} {w : World} {f : FuncId} {s1 s2 : Operand} {ts : Array TypeId} {x1 x2 : Value} (hf : ∀ y1 y2 w, Sem.run Try.prog (callFunc f #[y1, y2]) w = .ok (.enter f #[y1, y2]) w) (hfn : ρ (.func f) = .func (.func f) #[] #[])
    (ho : o.op = .call { callee := .value (.func f), args := #[s1, s2], argTypes := ts }) (h1 : ρ s1 = x1) (h2 : ρ s2 = x2) : (execOp ρ o).run Try.prog w = .ok (.enter f #[x1, x2]) w := by
  unfold execOp
  simp only [ho, resolve, invoke, List.map_toArray, List.map_cons, List.map_nil, h1, h2, hfn]
  go_simp

theorem x_call3 {o : Oper} {ρ : Operand → Value} {w : World} {f : FuncId} {s1 s2 s3 : Operand} {ts : Array TypeId} {x1 x2 x3 : Value} (hf : ∀ y1 y2 y3 w, Sem.run Try.prog (callFunc f #[y1, y2, y3]) w = .ok (.enter f #[y1, y2, y3]) w) (hfn : ρ (.func f) = .func (.func f) #[] #[])
    (ho : o.op = .call { callee := .value (.func f), args := #[s1, s2, s3], argTypes := ts }) (h1 : ρ s1 = x1) (h2 : ρ s2 = x2) (h3 : ρ s3 = x3) : (execOp ρ o).run Try.prog w = .ok (.enter f #[x1, x2, x3]) w := by
  unfold execOp
  simp only [ho, resolve, invoke, List.map_toArray, List.map_cons, List.map_nil, h1, h2, h3, hfn]
  go_simp

theorem x_size {e : TypeId} {z : Nat} (hz : (Try.prog.info? e).map (·.size) = some z) (w : World) : ∃ i, (sizeOf e).run Try.prog w = .ok i w := by
  cases hi : Try.prog.info? e with
  | none => rw [hi] at hz; simp at hz
  | some i => exact ⟨_, run_sizeOf (P := Try.prog) w hi⟩

theorem x_sliceHi {o : Oper} {ρ : Operand → Value} {w : World} {T e : TypeId} {x hi : Operand} {a : Option Addr} {n c j z : Nat} (ho : o.op = .slice T x none (some hi) none) (hx : ρ x = .slice a n c) (hh : ρ hi = .int .i64 (j : Nat)) (hj : j ≤ c) (hu : Try.prog.underlying T = some (.slice e)) (hz : (Try.prog.info? e).map (·.size) = some z) :
    (execOp ρ o).run Try.prog w = .ok (.value (.slice a j c)) w := by
  have hj1 : (j : Int) ≤ (c : Int) := by omega
  obtain ⟨i, hi⟩ := x_size hz w
  unfold execOp
  simp only [ho, hx, hh, Option.map]
  go_simp

theorem x_index1 {o : Oper} {ρ : Operand → Value} {w : World} {T e : TypeId} {x ix : Operand} {g off n c q : Nat} (ho : o.op = .indexAddr T x ix) (hx : ρ x = .slice (some ⟨g, off, none⟩) n c) (hi : ρ ix = .int .i64 (q : Nat)) (hq : q < n) (hu : Try.prog.underlying T = some (.slice e)) (hz : (Try.prog.info? e).map (·.size) = some 1) :
    (execOp ρ o).run Try.prog w = .ok (.value (.pointer (some ⟨g, off + q, none⟩))) w := by
  have hq1 : (q : Int) < (n : Int) := by omega
  have hi2 : (sizeOf e).run Try.prog w = .ok 1 w := by
    cases hi' : Try.prog.info? e with
    | none => rw [hi'] at hz; simp at hz
    | some i =>
      rw [run_sizeOf (P := Try.prog) w hi', Program.cellsOf, hi']
      rw [hi'] at hz
      simpa using hz
  unfold execOp
  simp only [ho, hx, hi]
  go_simp

theorem x_loadInt {o : Oper} {ρ : Operand → Value} {w : World} {T : TypeId} {x : Operand} {g q : Nat} {v : Int} (ho : o.op = .load T x) (hx : ρ x = .pointer (some ⟨g, q, none⟩)) (hu : Try.prog.underlying T = some (.int .i64)) (hc : w.cell? ⟨g, q, none⟩ = some (.int .i64 v)) :
    (execOp ρ o).run Try.prog w = .ok (.value (.int .i64 v)) w := by
  have hA : (isAgg T).run Try.prog w = .ok false w := by
    unfold isAgg
    rw [Sem.run_bind, run_underlying hu w]
    rfl
  unfold execOp
  simp only [ho, hx]
  go_simp
end Go.Proofs.Ytchohjbiiaddmaa.Rg
