/-
  What follows of a disk, as mathematics.
-/
import Derived.Test.YtokebdeaahdcjabDkAlive
import Derived.Test.YtokebdeaahdcjabDkOfS
import Derived.Test.YtokebdeaahdcjabDkRefC
import Derived.Test.YtokebdeaahdcjabDkArg
namespace Go.Proofs.Ytokebdeaahdcjab
open Go.ChangeShapes Go.WideShapes Go.ChangeAt Go.RowKit Go.Deep
open Dk (Wr St)

theorem full_length (s : St) : (Dk.full s).length = s.secs.length := Dk.layA_length _ _ _ _

theorem full_rows {s : St} (h : Dk.Ok s) : ∀ l ∈ Dk.full s, l.length = 48 := Dk.layA_rows _ _ _ _ h.rows (fun x hx => (h.fits x hx).2.2.2.1)

theorem full_nil (ss : List (List UInt8)) : Dk.full ⟨ss, []⟩ = ss := rfl

theorem full_ok {s : St} (h : Dk.Ok s) : Dk.Ok ⟨Dk.full s, []⟩ :=
  ⟨by show 1 ≤ (Dk.full s).length; rw [full_length]; exact h.lo, by show (Dk.full s).length ≤ 4096; rw [full_length]; exact h.hi, by simp, full_rows h, fun x hx => by simp at hx⟩

/-- A barrier. -/
theorem do_flush (s : St) : (Dk.doR s ⟨true, 0, []⟩).1 = Dk.chk s ∧ (Dk.chk s = 0 → (Dk.doR s ⟨true, 0, []⟩).2 = ⟨Dk.full s, []⟩) := by
  have hr : Dk.refusal s ⟨true, 0, []⟩ = 0 := by simp [Dk.refusal]
  unfold Dk.doR
  by_cases h : Dk.chk s = 0
  · rw [if_neg (by rw [h]; simp), if_neg (by rw [hr]; simp)]
    exact ⟨h.symm, fun _ => rfl⟩
  · rw [if_pos h]
    exact ⟨rfl, fun h' => absurd h' h⟩

theorem crash_ok {s : St} (h : Dk.Ok s) (ks : List Int) : Dk.crashR s ks = (0, ⟨Dk.layA (fun i => ks.getD i 0) 0 s.secs s.cache, []⟩) := by
  unfold Dk.crashR
  rw [if_neg (by rw [Dk.chk_zero.2 h]; simp)]

theorem read_ok {s : St} (h : Dk.Ok s) (lo n : Nat) (hl : lo + n ≤ s.secs.length) : Dk.readR s lo n = (0, (((Dk.full s).drop lo).take n).flatten) := by
  unfold Dk.readR
  rw [if_neg (by rw [Dk.chk_zero.2 h]; simp), if_neg (by omega)]
  simp

theorem read_all {s : St} (h : Dk.Ok s) : Dk.readR s 0 s.secs.length = (0, (Dk.full s).flatten) := by
  have := read_ok h 0 s.secs.length (by omega)
  rw [← full_length, List.drop_zero, List.take_length, full_length] at this
  exact this

/-- A call of three arguments, as one step. -/
theorem step_call3 {ops : Array Oper} {o : Oper} {a : Act} {w : World} {K : Act → World → Prop} {Q : Exit → Act → World → Prop} {E : Prop} (hg : o.guard = none) (f : FuncId) (hf : ∀ x1 x2 x3 w, Sem.run Try.prog (callFunc f #[x1, x2, x3]) w = .ok (.enter f #[x1, x2, x3]) w) (s1 s2 s3 : Operand) (ts : Array TypeId)
    (ho : o.op = .call { callee := .value (.func f), args := #[s1, s2, s3], argTypes := ts }) (x1 x2 x3 : Value) (h1 : a.eval s1 = x1) (h2 : a.eval s2 = x2) (h3 : a.eval s3 = x3) (R : Value → World → Prop)
    (hc : Calls Try.prog f #[x1, x2, x3] w fun e w' => ∃ y, e = .returned y ∧ R y w') (h : ∀ y w', R y w' → K (a.put o.dst y) w') :
    if Region.wanted o (yielded ops a.tmps) = true then Oper.wp Try.prog o a w K Q else E := by
  have hw : Region.wanted o (yielded ops a.tmps) = true := by simp [Region.wanted, hg]
  rw [if_pos hw]
  have hrun : (execOp a.eval o).run Try.prog w = .ok (.enter f #[x1, x2, x3]) w := by
    unfold execOp
    simp only [ho, resolve, invoke, List.map_toArray, List.map_cons, List.map_nil, h1, h2, h3]
    go_simp
  unfold Oper.wp
  rw [hrun, Oper.upon_enter]
  refine hc.mono fun e w' he => ?_
  obtain ⟨y, rfl, hy⟩ := he
  exact h y w' hy

/-- Of, for a state that came in. -/
theorem of_st (s : St) (v : Value) (w : World) (h : StArg w v s) : Calls Try.prog 9 #[v] w fun e w' => ∃ y, e = .returned y ∧ StIs w' y s ∧ Below w.heap.size w w' := by
  obtain ⟨a, c, a', c', rfl, h1, h2, h3, h4⟩ := h
  refine (of_any s a a' c c' w h1 h2 h3 h4).mono ?_
  rintro e w' ⟨b, d, b', d', rfl, q1, q2, q3⟩
  exact ⟨_, rfl, ⟨b, d, b', d', rfl, q1, q2, by omega, by omega⟩, q3⟩

theorem rcheck_st (s : St) (v : Value) (w : World) (h : StArg w v s) : Calls Try.prog 21 #[v] w fun e w' => e = .returned (.int .i64 (Dk.chk s)) ∧ Below w.heap.size w w' := by
  obtain ⟨a, c, a', c', rfl, h1, h2, h3, h4⟩ := h
  exact rcheck_any s a a' c c' w h1 h2 (by omega) (by omega)

theorem StIs.shape {w : World} {v : Value} {s : St} (h : StIs w v s) : ∃ a c a' c', v = .agg #[.slice a s.secs.length c, .slice a' s.cache.length c'] := by
  obtain ⟨a, c, a', c', e, -⟩ := h
  exact ⟨a, c, a', c', e⟩
end Go.Proofs.Ytokebdeaahdcjab
