/-
  For OutboxStays: the first of some effects; a remainder by a number made positive; what Add answers where it refuses and where not.
-/
import Derived.Test.YtchohjbiiaddmaaObInts
import Derived.Test.YtchohjbiiaddmaaObArg
namespace Go.Proofs.Ytchohjbiiaddmaa
open Go.ChangeShapes Go.WideShapes Go.ChangeAt Go.RowKit

theorem EIs.take {w : World} {n : Nat} {ia : Option Addr} {ic : Nat} {l : List (Ef n)} (h : EIs w n ia ic l) (k : Nat) : EIs w n ia ic (l.take k) := by
  obtain ⟨h1, h2, h3, h4, h5, h6, h7⟩ := h
  have : (l.take k).length ≤ l.length := by simp; omega
  exact ⟨by omega, h2, by omega, (fun e => ⟨by have := (h4 e).1; omega, (h4 e).2⟩), h5, fun u hu => h6 u (List.mem_of_mem_take hu), h7.take k⟩

theorem placeQ (v q : Int) (hq : 0 < q) (hq2 : q ≤ 1000000) : ∃ r : Nat, (r : Int) < q ∧ (wrap64 (v.tmod q + q)).tmod q = r := by
  obtain ⟨r1, r2, r, r3, r4⟩ := tmod_pos v q hq
  have e : wrap64 (v.tmod q + q) = v.tmod q + q := by
    generalize v.tmod q = t at r1 r2 ⊢
    clear r4
    exact IntWalk.wrap64_in _ (by omega)
  exact ⟨r, r3, by rw [e, r4]⟩

theorem tmod4 (m : Nat) : ((m : Int)).tmod 4 = ((m % 4 : Nat) : Int) := by
  rw [Int.tmod_eq_emod_of_nonneg (by omega)]
  omega

theorem addR_none {n : Nat} {L s : Int} {its : List (Tm n)} {l : List (Ef n)} (h : ¬ (addR L its s l).1 = 0) : (addR L its s l).2.2 = [] := by
  unfold addR at h ⊢
  by_cases h0 : chkB L its = 0
  · rw [if_pos h0] at h ⊢
    by_cases h1 : evE L s l = 0
    · rw [if_pos h1] at h ⊢
      by_cases h2 : its.length + l.length ≤ 256
      · rw [if_pos h2] at h; exact absurd rfl h
      · rw [if_neg h2]
    · rw [if_neg h1]
  · rw [if_neg h0]

theorem addR_some {n : Nat} {L s : Int} {its : List (Tm n)} {l : List (Ef n)} (h : (addR L its s l).1 = 0) : addR L its s l = (0, s, its ++ nums s 0 l) ∧ chkB s (its ++ nums s 0 l) = 0 := by
  unfold addR at h ⊢
  by_cases h0 : chkB L its = 0
  · rw [if_pos h0] at h ⊢
    by_cases h1 : evE L s l = 0
    · rw [if_pos h1] at h ⊢
      by_cases h2 : its.length + l.length ≤ 256
      · rw [if_pos h2]; exact ⟨rfl, add_ok h0 h1 h2⟩
      · rw [if_neg h2] at h; simp at h
    · rw [if_neg h1] at h; exact absurd h h1
  · rw [if_neg h0] at h; simp at h

/-- What is acknowledged twice: the second time nothing. -/
theorem ack_twice {n : Nat} {L id : Int} {its : List (Tm n)} (h0 : chkB L its = 0) (h1 : 32 ≤ id ∧ id < 32 * (L + 1)) : ackR L (rem id its) id = (0, false, L, rem id its) := by
  have hg := rem_gone id its
  unfold ackR
  rw [if_pos (rem_ok h0), if_pos h1, any_false hg, rem_none hg]

/-- A call of three arguments, as one step. -/
theorem step_call3 {ops : Array Oper} {o : Oper} {a : Act} {w : World} {K : Act → World → Prop} {Q : Exit → Act → World → Prop} {E : Prop} (hg : o.guard = none) (f : FuncId) (_hf : ∀ x1 x2 x3 w, Sem.run Try.prog (callFunc f #[x1, x2, x3]) w = .ok (.enter f #[x1, x2, x3]) w) (s1 s2 s3 : Operand) (ts : Array TypeId)
    (ho : o.op = .call { callee := .value (.func f), args := #[s1, s2, s3], argTypes := ts }) (x1 x2 x3 : Value) (h1 : a.eval s1 = x1) (h2 : a.eval s2 = x2) (h3 : a.eval s3 = x3) (R : Value → World → Prop)
    (hc : Calls Try.prog f #[x1, x2, x3] w fun e w' => ∃ y, e = .returned y ∧ R y w') (h : ∀ y w', R y w' → K (a.put o.dst y) w') :
    if Region.wanted o (yielded ops a.tmps) = true then Oper.wp Try.prog o a w K Q else E := by
  have hw : Region.wanted o (yielded ops a.tmps) = true := by simp [Region.wanted, hg]
  rw [if_pos hw]
  have hrun : (execOp a.eval o).run Try.prog w = .ok (.enter f #[x1, x2, x3]) w := by
    unfold execOp
    simp only [ho, resolve, invoke, List.map_toArray, List.map_cons, List.map_nil, h1, h2, h3]
    go_simp
  unfold Oper.wp
  rw [hrun, Oper.upon_enter]
  refine hc.mono fun e w' he => ?_
  obtain ⟨y, rfl, hy⟩ := he
  exact h y w' hy

/-- append of numbers that are read, their count by another name. -/
theorem wpList_appJ (w : World) {ops : Array Oper} {rest : List Oper} {o : Oper} {a : Act} {Q : Exit → Act → World → Prop} (hgd : o.guard = none) (s x : Operand)
    (hop : o.op = .call { callee := .builtin .append, args := #[s, x], argTypes := #[43, 43] })
    (B : Nat) (v : Value) (ks js : List Int) (m : Nat) (hs : a.eval s = v) (hL : OwnI w B v ks) (ia : Option Addr) (c : Nat) (hx : a.eval x = .slice ia m c) (hm : js.length = m) (hnone : ia = none → js.length = 0 ∧ c = 0) (hnews : ∀ ad, ia = some ad → ∀ i k, js[i]? = some k → w.cell? (ad.add i) = some (.int .i64 k)) (hlen : (ks.length + js.length) * 8 ≤ 140737488355328) (hB : B ≤ w.heap.size)
    (h : ∀ v' w', OwnI w' B v' (ks ++ js) → w.grownBy w' v.ownBlock → (v'.ownBlock = v.ownBlock ∨ ∀ g, v'.ownBlock = some g → w.heap.size ≤ g) → wpList Try.prog ops Q rest (a.put o.dst v') w') : wpList Try.prog ops Q (o :: rest) a w := by
  subst hm
  exact wpList_appI w hgd s x hop B v ks js hs hL ia c hx hnone hnews hlen hB h

theorem OwnI.cap {w : World} {B : Nat} {a : Option Addr} {n c : Nat} {ks : List Int} (h : OwnI w B (.slice a n c) ks) : n ≤ c ∧ c ≤ 9223372036854775807 := by
  have e := cap_of_own (show World.ownsRow _ _ _ _ _ _ _ from h)
  exact ⟨by have := e.1; exact this, e.2⟩
end Go.Proofs.Ytchohjbiiaddmaa
