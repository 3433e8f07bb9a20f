/-
  The page's put: one key and one item more, as steps of a region whose order is open; what the loop keeps.
-/
import Derived.Test.YtkjiiggboblioaaVaRAll
import Derived.Test.YtkjiiggboblioaaVaSetsMath
namespace Go.Proofs.Ytkjiiggboblioaa
open Go.ChangeShapes Go.WideShapes Go.ChangeAt Go.RowKit
open Fl

theorem blk_new (U : World) (o : Obj) (N : Nat) (h : U.heap.size = N) : (U.alloc o).heap[N]? = some o := by
  subst h
  exact heap_alloc_new _ _

/-- A key more. -/
theorem step_allK {ops : Array Oper} {o : Oper} {A : Act} {w W : World} {K : Act → World → Prop} {Q : Exit → Act → World → Prop} {E : Prop} {a b c d : Obj} {n : Nat} {kv iv : Value} {kacc : List ByteArray} {iacc : List (V n)} {P : Nat → Prop} (hgd : o.guard = none) (s x : Operand)
    (hop : o.op = .call { callee := .builtin .append, args := #[s, x], argTypes := #[23, 23] }) (hs : A.eval s = kv) (h : All w W a b c d kv kacc iv iacc P) (key : ByteArray) (N e : Nat) (hx : A.eval x = .slice (some ⟨N, 0, none⟩) 1 e)
    (hN : W.heap[N]? = some (.cells #[.string key] 9 (0, 0))) (hlen : (kacc.length + 1) * 16 ≤ 140737488355328)
    (k : ∀ kv' W', All w W' a b c d kv' (kacc ++ [key]) iv iacc P → (∀ g, g < W.heap.size → kv.ownBlock ≠ some g → W'.heap[g]? = W.heap[g]?) → K (A.put o.dst kv') W') :
    if Region.wanted o (yielded ops A.tmps) = true then Oper.wp Try.prog o A W K Q else E := by
  refine step_addK hgd s x hop kv kacc hs h.keys key ⟨N, 0, none⟩ e hx ?_ hlen fun kv' W' q1 q2 q3 => k kv' W' (h.addK q1 q2 q3) fun g hg hn => q2.block g hg fun e => hn e.symm
  rw [add_plain]
  simp [World.cell?, hN]

/-- An item more. -/
theorem step_allI {ops : Array Oper} {o : Oper} {A : Act} {w W : World} {K : Act → World → Prop} {Q : Exit → Act → World → Prop} {E : Prop} {a b c d : Obj} {n : Nat} {kv iv : Value} {kacc : List ByteArray} {iacc : List (V n)} {P : Nat → Prop} (hgd : o.guard = none) (s x : Operand)
    (hop : o.op = .call { callee := .builtin .append, args := #[s, x], argTypes := #[24, 24] }) (hs : A.eval s = iv) (h : All w W a b c d kv kacc iv iacc P) (u : V n) (Fu : Nat → Prop) (c0 c1 c2 c3 c4 : Value) (ho : Own w n (.agg #[c0, c1, c2, c3, c4]) u Fu) (hFu : ∀ g, Fu g → g < w.heap.size ∧ ¬ P g) (N e : Nat) (hx : A.eval x = .slice (some ⟨N, 0, none⟩) 1 e)
    (hN : W.heap[N]? = some (.cells #[c0, c1, c2, c3, c4] 26 (0, 0))) (hlen : (iacc.length + 1) * 80 ≤ 140737488355328)
    (k : ∀ iv' W', All w W' a b c d kv kacc iv' (iacc ++ [u]) (fun g => P g ∨ Fu g) → (∀ g, g < W.heap.size → iv.ownBlock ≠ some g → W'.heap[g]? = W.heap[g]?) → K (A.put o.dst iv') W') :
    if Region.wanted o (yielded ops A.tmps) = true then Oper.wp Try.prog o A W K Q else E := by
  obtain ⟨H, h1, h2, h3⟩ := h.items
  have hs4 := h.size
  refine step_push hgd s x hop iv iacc H hs h1 u Fu c0 c1 c2 c3 c4 (ho.same n fun g hg => h.below.block g (hFu g hg).1) ?_ (fun g hg => (h3 g hg).2) (fun g hg => by have := (hFu g hg).1; omega) ⟨N, 0, none⟩ e hx ?_ hlen
    fun iv' W' q1 q2 q3 => k iv' W' (h.push ⟨h2, h3⟩ (fun g hg => (h1.lt g hg).1) (fun g hg => (hFu g hg).1) q1 q2 q3) fun g hg hn => q2.block g hg fun e => hn e.symm
  · intro g hg hH
    rcases (h3 g hH).1 with q | q
    · exact (hFu g hg).2 q
    · have := (hFu g hg).1
      omega
  · intro j u' hj
    rw [add_plain]
    simp only [World.cell?, hN]
    simpa using hj

/-- The items of a value of one's own, and their cells. -/
theorem own_cells {w : World} {n : Nat} {k b : Int} {t : ByteArray} {ks : List ByteArray} {its : List (V n)} {x : Value} {F : Nat → Prop} (ho : Own w (n + 1) x (k, b, t, ks, its) F) :
    ∃ (ka : Option Addr) (kc : Nat) (ia : Option Addr) (ic : Nat) (G : Nat → Nat → Prop), x = mk k b t ka ks.length kc ia its.length ic ∧ Fit k b t ks.length kc its.length ic ∧ (∀ s ∈ ks, s.size ≤ 140737488351232) ∧ LayS w ka ks ∧
      (∀ i u, its[i]? = some u → ∃ gi k5 b5 t5 ka5 kl5 kc5 ia5 il5 ic5, ia = some ⟨gi, 0, none⟩ ∧ w.cell? ⟨gi, i * 5, none⟩ = some (.int .i64 k5) ∧ w.cell? ⟨gi, i * 5 + 1, none⟩ = some (.int .u64 b5) ∧ w.cell? ⟨gi, i * 5 + 2, none⟩ = some (.string t5) ∧ w.cell? ⟨gi, i * 5 + 3, none⟩ = some (.slice ka5 kl5 kc5) ∧ w.cell? ⟨gi, i * 5 + 4, none⟩ = some (.slice ia5 il5 ic5) ∧
        Own w n (mk k5 b5 t5 ka5 kl5 kc5 ia5 il5 ic5) u (G i)) ∧ (∀ i b, i < its.length → G i b → F b) ∧ ∀ i j b, i < its.length → j < its.length → G i b → G j b → i = j := by
  have hl := Own.lay (n + 1) ho
  obtain ⟨ka, kc, ia, ic, xs, G, rfl, hfit, hs, hK, hI, fK, fI, hit, hG, hd⟩ := ho
  obtain ⟨ka', kc', ia', ic', hxe, -, -, -, hS, -⟩ := hl
  simp only [mk, Value.agg.injEq, Array.mk.injEq, List.cons.injEq, Value.slice.injEq, and_true, true_and] at hxe
  obtain ⟨⟨rfl, rfl⟩, ⟨rfl, rfl⟩⟩ := hxe
  refine ⟨ka, kc, ia, ic, G, rfl, hfit, hs, hS, ?_, fun i b hi hb => (hG i b hi hb).1, hd⟩
  intro i u hu
  have hi : i < its.length := by
    by_cases h : i < its.length
    · exact h
    · rw [List.getElem?_eq_none (by omega)] at hu
      cases hu
  obtain ⟨hlx, hcase⟩ := hI
  rcases hcase with ⟨h1, h2⟩ | ⟨gi, cap, cur, h1, _, hcur, hnc, hcm, hcs, hxs⟩
  · omega
  · simp only [Value.slice.injEq] at h1
    obtain ⟨rfl, _, rfl⟩ := h1
    obtain ⟨c0, c1, c2, c3, c4, e0, e1, e2, e3, e4, hO⟩ := hit i u hi hu
    obtain ⟨a0, a1, a2, a3, a4⟩ := five_at hxs hi e0 e1 e2 e3 e4
    obtain ⟨k5, b5, t5, ka5, kl5, kc5, ia5, il5, ic5, hsh⟩ := Lay.shape n (Own.lay n hO)
    simp only [mk, Value.agg.injEq, Array.mk.injEq, List.cons.injEq, and_true] at hsh
    obtain ⟨rfl, rfl, rfl, rfl, rfl⟩ := hsh
    exact ⟨gi, k5, b5, t5, ka5, kl5, kc5, ia5, il5, ic5, rfl, (cell_of hcur _).1.trans a0, (cell_of hcur _).1.trans a1, (cell_of hcur _).1.trans a2, (cell_of hcur _).1.trans a3, (cell_of hcur _).1.trans a4, hO⟩

/-- What the loop keeps of a list: its rest, behind what was built. -/
def Built {α : Type} (l acc : List α) (m r : Nat) (x : α) (ld : Bool) : Prop := acc ++ l.drop m = if ld = true then ins l r x else l

theorem Built.next {α : Type} {l acc : List α} {m r : Nat} {x : α} {ld : Bool} (h : Built l acc m r x ld) {y : α} (hy : l[m]? = some y) : Built l (acc ++ [y]) (m + 1) r x ld := by
  unfold Built at *
  have hm : m < l.length := by
    by_cases h : m < l.length
    · exact h
    · rw [List.getElem?_eq_none (by omega)] at hy
      cases hy
  have e : l.drop m = y :: l.drop (m + 1) := by
    rw [List.drop_eq_getElem_cons hm]
    rw [List.getElem?_eq_getElem hm] at hy
    cases hy
    rfl
  rw [← h, e]
  simp

theorem Built.laid {α : Type} {l acc : List α} {r : Nat} {x : α} (h : Built l acc r r x false) : Built l (acc ++ [x]) r r x true := by
  unfold Built at *
  have e : acc = l.take r := by
    have h2 : acc ++ l.drop r = l.take r ++ l.drop r := by rw [List.take_append_drop]; exact h
    exact List.append_cancel_right h2
  rw [e]
  simp [ins]

theorem Built.done {α : Type} {l acc : List α} {r : Nat} {x : α} (h : Built l acc l.length r x true) : acc = ins l r x := by
  unfold Built at h
  simpa using h

theorem Built.length {α : Type} {l acc : List α} {m r : Nat} {x : α} {ld : Bool} (h : Built l acc m r x ld) (hr : r ≤ l.length) : acc.length ≤ l.length + 1 := by
  unfold Built at h
  have := congrArg List.length h
  cases ld with
  | true =>
    simp only [if_true, List.length_append] at this
    rw [ins_length _ _ _ hr] at this
    omega
  | false =>
    simp at this
    omega
end Go.Proofs.Ytkjiiggboblioaa
