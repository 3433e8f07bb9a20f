/-
  A row of octets of one's own, and what is appended to it.
-/
import Derived.Test.YtclmlifhhfkagaaPkCut
import Derived.Test.YtclmlifhhfkagaaVaTwo
import Derived.Lib.AppendStr
namespace Go.Proofs.Ytclmlifhhfkagaa
open Go.ChangeShapes Go.WideShapes Go.ChangeAt Go.RowKit
open Fl

/-- Octets as cells. -/
def cellsO (l : List UInt8) : List Value := l.map fun o => Value.int .u8 (o.toNat : Int)

theorem cellsO_append (l m : List UInt8) : cellsO (l ++ m) = cellsO l ++ cellsO m := by simp [cellsO]
theorem cellsO_length (l : List UInt8) : (cellsO l).length = l.length := by simp [cellsO]

/-- A row of octets of one's own. -/
def Bs (w : World) (B : Nat) (s : Value) (l : List UInt8) : Prop := w.ownsRow B 5 1 s l.length (cellsO l)

/-- A row has become another: nothing but the row has turned. -/
structure RowTo (w w' : World) (s s' : Value) : Prop where
  grown : w.grownBy w' s.ownBlock
  place : s'.ownBlock = s.ownBlock ∨ ∀ g, s'.ownBlock = some g → w.heap.size ≤ g

theorem RowTo.refl (w : World) (s : Value) : RowTo w w s s := ⟨World.grownBy.refl _ _, Or.inl rfl⟩
theorem RowTo.trans {w w1 w2 : World} {s s1 s2 : Value} (h : RowTo w w1 s s1) (k : RowTo w1 w2 s1 s2) : RowTo w w2 s s2 := by
  have hs := h.grown.size
  refine ⟨⟨k.grown.os.trans h.grown.os, k.grown.tape.trans h.grown.tape, k.grown.output.trans h.grown.output, Nat.le_trans hs k.grown.size, ?_⟩, ?_⟩
  · intro j hj hn
    rw [k.grown.block j (by omega) ?_]
    · exact h.grown.block j hj hn
    · rcases h.place with e | e
      · rw [e]; exact hn
      · intro e'; have := e j e'.symm; omega
  · rcases k.place with e | e
    · rcases h.place with e' | e'
      · exact Or.inl (e.trans e')
      · exact Or.inr fun g hg => e' g (by rw [← e]; exact hg)
    · exact Or.inr fun g hg => Nat.le_trans hs (e g hg)
theorem RowTo.pre {w w1 w2 : World} {s s' : Value} (h : Below w.heap.size w w1) (k : RowTo w1 w2 s s') : RowTo w w2 s s' := by
  have hs := h.size
  refine ⟨⟨k.grown.os.trans h.os, k.grown.tape.trans h.tape, k.grown.output.trans h.output, Nat.le_trans hs k.grown.size, fun j hj hn => (k.grown.block j (by omega) hn).trans (h.block j hj)⟩, k.place.imp id fun e g hg => Nat.le_trans hs (e g hg)⟩
theorem RowTo.post {w w1 w2 : World} {s s' : Value} (k : RowTo w w1 s s') (h : Below w1.heap.size w1 w2) : RowTo w w2 s s' := by
  have hs := k.grown.size
  refine ⟨⟨h.os.trans k.grown.os, h.tape.trans k.grown.tape, h.output.trans k.grown.output, Nat.le_trans hs h.size, fun j hj hn => (h.block j (by omega)).trans (k.grown.block j hj hn)⟩, k.place⟩
theorem RowTo.below {w w' : World} {s s' : Value} {B : Nat} (k : RowTo w w' s s') (hB : B ≤ w.heap.size) (hs : ∀ g, s.ownBlock = some g → B ≤ g) : Below B w w' :=
  ⟨k.grown.os, k.grown.tape, k.grown.output, k.grown.size, fun j hj => k.grown.block j (by omega) fun e => by have := hs j e.symm; omega⟩
theorem RowTo.block {w w' : World} {s s' : Value} (k : RowTo w w' s s') {g : Nat} (hg : g < w.heap.size) (hn : s.ownBlock ≠ some g) : w'.heap[g]? = w.heap[g]? := k.grown.block g hg fun e => hn e.symm

theorem Bs.base {w : World} {B : Nat} {s : Value} {l : List UInt8} (h : Bs w B s l) : ∀ g, s.ownBlock = some g → B ≤ g ∧ g < w.heap.size := h.lt
theorem Bs.nil (w : World) (B : Nat) : Bs w B (.slice none 0 0) [] := World.ownsRow_nil _ _ _ _
theorem Bs.below {w w' : World} {B : Nat} {s : Value} {l : List UInt8} (h : Bs w B s l) (hb : Below w.heap.size w w') : Bs w' B s l := ownsRow_same h fun g hg => hb.block g (h.lt g hg).2
theorem Bs.shape {w : World} {B : Nat} {s : Value} {l : List UInt8} (h : Bs w B s l) : ∃ a c, s = .slice a l.length c := slice_of_own h
theorem Bs.up {w : World} {B B' : Nat} {s : Value} {l : List UInt8} (h : Bs w B s l) (hn : ∀ g, s.ownBlock = some g → B' ≤ g) : Bs w B' s l := by
  obtain ⟨h1, h2⟩ := h
  rcases h2 with ⟨rfl, h3⟩ | ⟨g, cap, cur, rfl, hg, r⟩
  · exact ⟨h1, Or.inl ⟨rfl, h3⟩⟩
  · exact ⟨h1, Or.inr ⟨g, cap, cur, rfl, hn g rfl, r⟩⟩

theorem Try.infoU8 : (Try.prog.info? 5).map (fun i => (i.zero, i.size, i.bytes)) = some (some (.int .u8 0), 1, 1) := by kernel_rfl

theorem one_cells (l : List UInt8) : ∀ u ∈ cellsO l, u.oneCell' = true := by
  intro u hu
  simp only [cellsO, List.mem_map] at hu
  obtain ⟨o, _, rfl⟩ := hu
  rfl

/-- append of octets that lie somewhere. -/
theorem wpList_app (w : World) {ops : Array Oper} {rest : List Oper} {o : Oper} {a : Act} {Q : Exit → Act → World → Prop} (hgd : o.guard = none) (sl x : Operand)
    (ho : o.op = .call { callee := .builtin .append, args := #[sl, x], argTypes := #[25, 25] })
    (B : Nat) (s : Value) (l m : List UInt8) (hs : a.eval sl = s) (hown : Bs w B s l) (ad : Addr) (c : Nat) (hx : a.eval x = .slice (some ad) m.length c)
    (hnews : ∀ j u, m[j]? = some u → w.cell? (ad.add j) = some (.int .u8 (u.toNat : Int))) (hlen : l.length + m.length ≤ 140737488355328) (hbase : B ≤ w.heap.size)
    (h : ∀ s' w', Bs w' B s' (l ++ m) → RowTo w w' s s' → wpList Try.prog ops Q rest (a.put o.dst s') w') : wpList Try.prog ops Q (o :: rest) a w := by
  obtain ⟨i0, hi, hz0, hz1, hz2⟩ := info_parts Try.infoU8
  refine wpList_append_apart w hgd sl x 25 ho B 5 i0 _ 1 1 Try.underlying25 hi hz0 hz1 hz2 rfl (by decide) s l.length (cellsO l) hs hown (some ad) m.length c (cellsO m) hx (by simp) (by rw [cellsO_length]; omega) ?_ (one_cells m) (by unfold maxLen; omega) (by omega) hbase ?_
  · intro ad' e j u hj
    cases e
    simp only [cellsO, List.getElem?_map, Option.map_eq_some_iff] at hj
    obtain ⟨o', ho', rfl⟩ := hj
    exact hnews j o' ho'
  · intro v' w' h1 h2 h3
    refine h v' w' ?_ ⟨h2, h3⟩
    unfold Bs
    rw [List.length_append, cellsO_append]
    exact h1

theorem strCells_eq (t : ByteArray) : Go.Lib.strCells t = cellsO t.toList := by
  rw [ByteArray.toList_eq]
  rfl
theorem toList_length (t : ByteArray) : t.toList.length = t.size := by rw [ByteArray.toList_eq]; rfl

theorem heap_alloc_old' (w : World) (o : Obj) (k : Nat) (h : k < w.heap.size) : (w.alloc o).heap[k]? = w.heap[k]? := Below.heap_alloc _ _ _ h

/-- append of a text's octets. -/
theorem wpList_apps (w : World) {ops : Array Oper} {rest : List Oper} {o : Oper} {a : Act} {Q : Exit → Act → World → Prop} (hgd : o.guard = none) (sl x : Operand)
    (ho : o.op = .call { callee := .builtin .append, args := #[sl, x], argTypes := #[25, 9] })
    (B : Nat) (s : Value) (l : List UInt8) (t : ByteArray) (hs : a.eval sl = s) (hown : Bs w B s l) (hx : a.eval x = .string t)
    (hlen : l.length + t.size ≤ 140737488355328) (hbase : B ≤ w.heap.size)
    (h : ∀ s' w', Bs w' B s' (l ++ t.toList) → RowTo w w' s s' → wpList Try.prog ops Q rest (a.put o.dst s') w') : wpList Try.prog ops Q (o :: rest) a w := by
  obtain ⟨i0, hi, hz0, hz1, hz2⟩ := info_parts Try.infoU8
  have hmax : l.length + t.size ≤ maxLen := by unfold maxLen; omega
  have fin : ∀ {w' : World} {v' : Value} {B' : Nat}, w'.ownsRow B' 5 1 v' (l.length + t.size) (cellsO l ++ Go.Lib.strCells t) → Bs w' B' v' (l ++ t.toList) := by
    intro w' v' B' q
    unfold Bs
    rw [List.length_append, toList_length, cellsO_append, ← strCells_eq]
    exact q
  obtain ⟨l0, hcase⟩ := hown
  rcases hcase with ⟨rfl, hl0⟩ | ⟨g, cap, cur, rfl, hg, hh, hnc, r⟩
  · have hnil : l = [] := List.eq_nil_of_length_eq_zero hl0
    subst hnil
    refine Go.Lib.wpList_append_own_string w hgd sl x 25 9 ho w.heap.size 5 i0 Try.underlying25 Try.underlying9 hi hz0 hz1 hz2 _ 0 [] hs (World.ownsRow_nil _ _ _ _) t hx (by simpa using hmax) (by simpa using hlen) (Nat.le_refl _) ?_
    intro v' w' h1 h2 _
    have h3 := fin (w' := w') (v' := v') (B' := w.heap.size) (by simpa [cellsO] using h1)
    exact h v' w' (h3.up fun g hg => Nat.le_trans hbase (h3.base g hg).1) ⟨h2, Or.inr fun g hg => (h3.base g hg).1⟩
  · have hown : w.ownsRow B 5 1 (.slice (some ⟨g, 0, none⟩) l.length cap) l.length (cellsO l) := ⟨l0, Or.inr ⟨g, cap, cur, rfl, hg, hh, hnc, r⟩⟩
    by_cases hroom : l.length + t.size ≤ cap
    · obtain ⟨hcm, hcs, htake⟩ := r
      have hcs' : cur.size = cap := by simpa using hcs
      have hr := Go.Lib.run_append_room_string (P := Try.prog) w 25 9 o.type 5 i0 Try.underlying25 Try.underlying9 hi hz1 g l.length cap cur hh t hroom (by omega)
      refine wpList_plain hgd fun K hK => ?_
      unfold Oper.wp execOp
      simp only [ho, resolve, invoke, builtin, Sem.run_bind, Sem.run_pure, Result.andThen_ok, List.map_toArray, List.map_cons, List.map_nil, hs, hx, hr]
      have hl2 : (cellsO l ++ Go.Lib.strCells t).length = (l.length + t.size) * 1 := by rw [List.length_append, cellsO_length, Go.Lib.strCells_length]; omega
      refine hK _ _ (h _ _ (fin ⟨hl2, .inr ⟨g, cap, _, rfl, hg, setRow_heap w g cur _ 5 _ hh, hroom, hcm, ?_, ?_⟩⟩) ⟨⟨rfl, rfl, rfl, by simp, fun k _ hk => setRow_other w g k _ (fun e => hk (by simp [Value.ownBlock, e]))⟩, Or.inl rfl⟩)
      · simp only [List.size_toArray, List.length_append, List.length_take, List.length_drop, Array.length_toList, Go.Lib.strCells_length]
        omega
      · have ht' : cur.toList.take l.length = cellsO l := by simpa using htake
        rw [ht', ← hl2]
        exact List.take_left
    · refine wpList_plain hgd fun K hK => ?_
      have hr := Go.Lib.run_append_grow_string (P := Try.prog) w 25 9 o.type 5 i0 _ Try.underlying25 Try.underlying9 hi hz0 ⟨g, 0, none⟩ l.length cap (cellsO l) (by rw [hz1, cellsO_length]; omega) (hown.cells (g := g) rfl) t (by omega) (by unfold maxLen at hmax; omega) (by rw [hz2]; exact growslice_fits (by omega) (by omega))
      unfold Oper.wp execOp
      simp only [ho, resolve, invoke, builtin, Sem.run_bind, Sem.run_pure, Result.andThen_ok, List.map_toArray, List.map_cons, List.map_nil, hs, hx, hr]
      refine hK _ _ (h _ _ (fin ?_) ⟨?_, Or.inr fun g' hg' => ?_⟩)
      · have hge := grownCap_ge w (l.length + t.size) cap 5
        have hcm := grownCap_le_maxLen w (l.length + t.size) cap 5 hmax
        refine ⟨by rw [List.length_append, cellsO_length, Go.Lib.strCells_length]; omega, Or.inr ⟨w.heap.size, _, _, rfl, hbase, heap_alloc_new w.drew _, hge, hcm, ?_, ?_⟩⟩
        · have hz1 : (Value.int IntKind.u8 0).cells.size = 1 := rfl
          simp only [Array.size_append, List.size_toArray, size_zeroCells, hz1, cellsO_length, Go.Lib.strCells_length]
          omega
        · simp only [Array.toList_append]
          rw [show (l.length + t.size) * 1 = (cellsO l ++ Go.Lib.strCells t).length by rw [List.length_append, cellsO_length, Go.Lib.strCells_length]; omega]
          exact List.take_left
      · exact ⟨rfl, rfl, rfl, by simp, fun k hk _ => heap_alloc_old' w.drew _ k hk⟩
      · simp only [Value.ownBlock, Option.some.injEq] at hg'; omega
end Go.Proofs.Ytclmlifhhfkagaa
