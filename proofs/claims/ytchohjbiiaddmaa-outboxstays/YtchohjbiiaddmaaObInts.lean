/-
  For OutboxStays: rows of whole numbers of one's own; the numbers of a box's items.
-/
import Derived.Test.YtchohjbiiaddmaaObVar
namespace Go.Proofs.Ytchohjbiiaddmaa
open Go.ChangeShapes Go.WideShapes Go.ChangeAt Go.RowKit

/-- The numbers of items. -/
def ids {n : Nat} (its : List (Tm n)) : List Int := its.map fun u => u.1

theorem ids_length {n : Nat} (its : List (Tm n)) : (ids its).length = its.length := by simp [ids]

theorem ids_snoc {n : Nat} (s : Int) (l : List (Ef n)) (its : List (Tm n)) (m : Nat) (h : m < l.length) : ids (its ++ nums s 0 (l.take (m + 1))) = ids (its ++ nums s 0 (l.take m)) ++ [32 * s + m] := by
  rw [nums_snoc s l m h, ← List.append_assoc]
  simp [ids]

/-- The numbers without that of the item that is acknowledged. -/
theorem ids_rem {n : Nat} {L lo : Int} {its : List (Tm n)} (ho : okT L lo its = true) (m : Nat) (h : m < its.length) : ids (rem its[m].1 its) = (ids its).take m ++ (ids its).drop (m + 1) := by
  rw [← rem_at ho m h]
  simp [ids, List.map_take, List.map_drop]

theorem ids_at {n : Nat} {its : List (Tm n)} {m : Nat} (h : m < its.length) : (ids its)[m]'(by rw [ids_length]; exact h) = its[m].1 := by simp [ids]

/-- What is acknowledged is there no more. -/
theorem rem_gone {n : Nat} (id : Int) (its : List (Tm n)) : ∀ u ∈ rem id its, ¬ u.1 = id := by
  intro u hu
  have := (List.mem_filter.1 hu).2
  simpa using this

theorem Try.infoInt : (Try.prog.info? 3).map (fun i => (i.zero, i.size, i.bytes)) = some (some (.int .i64 0), 1, 8) := by kernel_rfl

/-- A row of whole numbers of one's own. -/
def OwnI (w : World) (B : Nat) (v : Value) (ks : List Int) : Prop := w.ownsRow B 3 1 v ks.length (ks.map fun k => Value.int .i64 k)

theorem OwnI.nil (w : World) (B : Nat) : OwnI w B (.slice none 0 0) [] := World.ownsRow_nil _ _ _ _
theorem OwnI.shape {w : World} {B : Nat} {v : Value} {ks : List Int} (h : OwnI w B v ks) : ∃ a c, v = .slice a ks.length c := slice_of_own h
theorem OwnI.same {w w' : World} {B : Nat} {v : Value} {ks : List Int} (h : OwnI w B v ks) (hk : ∀ b, v.ownBlock = some b → w'.heap[b]? = w.heap[b]?) : OwnI w' B v ks := ownsRow_same h hk
theorem OwnI.below {w w' : World} {B : Nat} {v : Value} {ks : List Int} (h : OwnI w B v ks) (hb : Below w.heap.size w w') : OwnI w' B v ks := ownsRow_same h fun g hg => hb.block g (h.lt g hg).2

/-- A number of it. -/
theorem OwnI.at {w : World} {B : Nat} {a : Option Addr} {c n : Nat} {ks : List Int} (h : OwnI w B (.slice a n c) ks) (m : Nat) (hm : m < ks.length) : ∃ g, a = some ⟨g, 0, none⟩ ∧ w.cell? ⟨g, 0 + m, none⟩ = some (.int .i64 ks[m]) :=
  cells_of_own h m _ (by simp [hm])

/-- append of one number. -/
theorem wpList_pushI (w : World) {ops : Array Oper} {rest : List Oper} {o : Oper} {a : Act} {Q : Exit → Act → World → Prop} (hgd : o.guard = none) (s x : Operand)
    (hop : o.op = .call { callee := .builtin .append, args := #[s, x], argTypes := #[43, 43] })
    (B : Nat) (v : Value) (ks : List Int) (hs : a.eval s = v) (hL : OwnI w B v ks) (k : Int) (ad : Addr) (c : Nat) (hx : a.eval x = .slice (some ad) 1 c) (hnews : w.cell? (ad.add 0) = some (.int .i64 k)) (hlen : (ks.length + 1) * 8 ≤ 140737488355328) (hB : B ≤ w.heap.size)
    (h : ∀ v' w', OwnI w' B v' (ks ++ [k]) → w.grownBy w' v.ownBlock → (v'.ownBlock = v.ownBlock ∨ ∀ g, v'.ownBlock = some g → w.heap.size ≤ g) → wpList Try.prog ops Q rest (a.put o.dst v') w') : wpList Try.prog ops Q (o :: rest) a w := by
  obtain ⟨i0, hi, hz0, hz1, hz2⟩ := info_parts Try.infoInt
  refine wpList_append_apart w hgd s x 43 hop B 3 i0 _ 1 8 Try.underlying43 hi hz0 hz1 hz2 rfl (by decide) v ks.length _ hs hL (some ad) 1 c [.int .i64 k] hx (by simp) rfl ?_ ?_ (by unfold maxLen; omega) hlen hB ?_
  · intro ad' e j u hj
    cases e
    cases j with
    | zero => cases hj; exact hnews
    | succ j => simp at hj
  · intro y hy
    simp at hy
    subst hy
    rfl
  · intro v' w' q1 q2 q3
    refine h v' w' ?_ q2 q3
    unfold OwnI
    rw [List.length_append, List.map_append]
    exact q1

/-- append of numbers that are read. -/
theorem wpList_appI (w : World) {ops : Array Oper} {rest : List Oper} {o : Oper} {a : Act} {Q : Exit → Act → World → Prop} (hgd : o.guard = none) (s x : Operand)
    (hop : o.op = .call { callee := .builtin .append, args := #[s, x], argTypes := #[43, 43] })
    (B : Nat) (v : Value) (ks js : List Int) (hs : a.eval s = v) (hL : OwnI w B v ks) (ia : Option Addr) (c : Nat) (hx : a.eval x = .slice ia js.length c) (hnone : ia = none → js.length = 0 ∧ c = 0) (hnews : ∀ ad, ia = some ad → ∀ i k, js[i]? = some k → w.cell? (ad.add i) = some (.int .i64 k)) (hlen : (ks.length + js.length) * 8 ≤ 140737488355328) (hB : B ≤ w.heap.size)
    (h : ∀ v' w', OwnI w' B v' (ks ++ js) → w.grownBy w' v.ownBlock → (v'.ownBlock = v.ownBlock ∨ ∀ g, v'.ownBlock = some g → w.heap.size ≤ g) → wpList Try.prog ops Q rest (a.put o.dst v') w') : wpList Try.prog ops Q (o :: rest) a w := by
  obtain ⟨i0, hi, hz0, hz1, hz2⟩ := info_parts Try.infoInt
  refine wpList_append_apart w hgd s x 43 hop B 3 i0 _ 1 8 Try.underlying43 hi hz0 hz1 hz2 rfl (by decide) v ks.length _ hs hL ia js.length c (js.map fun k => Value.int .i64 k) hx hnone (by simp) ?_ ?_ (by unfold maxLen; omega) hlen hB ?_
  · intro ad e j u hj
    simp only [List.getElem?_map, Option.map_eq_some_iff] at hj
    obtain ⟨k, hk, rfl⟩ := hj
    exact hnews ad e j k hk
  · intro y hy
    obtain ⟨k, -, rfl⟩ := List.mem_map.1 hy
    rfl
  · intro v' w' q1 q2 q3
    refine h v' w' ?_ q2 q3
    unfold OwnI
    rw [List.length_append, List.map_append]
    exact q1

/-- A box in a variable P whose items are apart from the row v besides. -/
def BoxW {n : Nat} (wr : World) (B P : Nat) (L : Int) (its : List (Tm n)) (v : Value) : Prop := ∃ a c H, wr.heap[P]? = some (.cells #[.int .i64 L, .slice a its.length c] 26 (0, 0)) ∧ OwnR (shT n) wr (.slice a its.length c) its H ∧ ∀ b, H b → B ≤ b ∧ b ≠ P ∧ b < wr.heap.size ∧ v.ownBlock ≠ some b

theorem BoxW.toV {n : Nat} {wr : World} {B P : Nat} {L : Int} {its : List (Tm n)} {v : Value} (h : BoxW wr B P L its v) : BoxV wr B P L its := by
  obtain ⟨a, c, H, h1, h2, h3⟩ := h
  exact ⟨a, c, H, h1, h2, fun b hb => ⟨(h3 b hb).1, (h3 b hb).2.1, (h3 b hb).2.2.1⟩⟩

/-- Items from B on are apart from a row that lies ahead of B. -/
theorem BoxV.toW {n : Nat} {wr : World} {B P : Nat} {L : Int} {its : List (Tm n)} (h : BoxV wr B P L its) {v : Value} (hv : ∀ g, v.ownBlock = some g → g < B) : BoxW wr B P L its v := by
  obtain ⟨a, c, H, h1, h2, h3⟩ := h
  exact ⟨a, c, H, h1, h2, fun b hb => ⟨(h3 b hb).1, (h3 b hb).2.1, (h3 b hb).2.2, fun e => by have := hv b e; have := (h3 b hb).1; omega⟩⟩

theorem BoxW.more {n : Nat} {wr : World} {B B' P : Nat} {L : Int} {its : List (Tm n)} {v : Value} (h : BoxW wr B P L its v) (hb : B' ≤ B) : BoxW wr B' P L its v := by
  obtain ⟨a, c, H, h1, h2, h3⟩ := h
  exact ⟨a, c, H, h1, h2, fun b hb => ⟨by have := (h3 b hb).1; omega, (h3 b hb).2⟩⟩

theorem BoxW.below {n : Nat} {wr wr' : World} {B P : Nat} {L : Int} {its : List (Tm n)} {v : Value} (h : BoxW wr B P L its v) (hb : Below wr.heap.size wr wr') : BoxW wr' B P L its v := by
  obtain ⟨a, c, H, h1, h2, h3⟩ := h
  have := hb.size
  exact ⟨a, c, H, (hb.block _ (lt_of_block h1)).trans h1, h2.same fun b hb' => hb.block b (h3 b hb').2.2.1, fun b hb' => ⟨(h3 b hb').1, (h3 b hb').2.1, by have := (h3 b hb').2.2.1; omega, (h3 b hb').2.2.2⟩⟩

/-- The row is appended to: the box stays, and apart from the row. -/
theorem BoxW.grow {n : Nat} {wr w' : World} {B P : Nat} {L : Int} {its : List (Tm n)} {v v' : Value} (h : BoxW wr B P L its v) (hP : v.ownBlock ≠ some P) (hg : wr.grownBy w' v.ownBlock) (hv : v'.ownBlock = v.ownBlock ∨ ∀ g, v'.ownBlock = some g → wr.heap.size ≤ g) : BoxW w' B P L its v' := by
  obtain ⟨a, c, H, h1, h2, h3⟩ := h
  have := hg.size
  refine ⟨a, c, H, (hg.block _ (lt_of_block h1) (fun e => hP e.symm)).trans h1, h2.same fun b hb => hg.block b (h3 b hb).2.2.1 (fun e => (h3 b hb).2.2.2 e.symm), fun b hb => ⟨(h3 b hb).1, (h3 b hb).2.1, by have := (h3 b hb).2.2.1; omega, fun e => ?_⟩⟩
  rcases hv with hv | hv
  · exact (h3 b hb).2.2.2 (by rw [← hv]; exact e)
  · have := hv b e; have := (h3 b hb).2.2.1; omega

/-- Parts of a row of numbers, to be read. -/
theorem OwnI.take {w : World} {B : Nat} {a : Option Addr} {c n : Nat} {ks : List Int} (h : OwnI w B (.slice a n c) ks) (m : Nat) : ∀ ad, a = some ad → ∀ i k, (ks.take m)[i]? = some k → w.cell? (ad.add i) = some (.int .i64 k) := by
  intro ad e i k hk
  rw [List.getElem?_take] at hk
  split at hk
  · obtain ⟨g, e', q⟩ := cells_of_own h i (.int .i64 k) (by simp [hk])
    rw [e] at e'
    cases e'
    rw [add_plain]
    exact q
  · cases hk
theorem OwnI.drop {w : World} {B : Nat} {a : Option Addr} {c n : Nat} {ks : List Int} (h : OwnI w B (.slice a n c) ks) (m : Nat) : ∀ g, a = some ⟨g, 0, none⟩ → ∀ i k, (ks.drop m)[i]? = some k → w.cell? ((⟨g, m, none⟩ : Addr).add i) = some (.int .i64 k) := by
  intro g e i k hk
  rw [List.getElem?_drop] at hk
  obtain ⟨g', e', q⟩ := cells_of_own h (m + i) (.int .i64 k) (by simp [hk])
  rw [e] at e'
  cases e'
  rw [add_plain]
  rwa [Nat.zero_add] at q
end Go.Proofs.Ytchohjbiiaddmaa
