/-
  append of a text's octets to a row of octets of one's own (as layer 3 has it).
-/
import Derived.Test.YtnliokikcpnllaaOcBase
import Derived.Lib.AppendStr
namespace Go.Proofs.Ytnliokikcpnllaa
open Go.ChangeShapes Go.WideShapes Go.ChangeAt Go.RowKit

theorem strCells_eq (t : ByteArray) : Go.Lib.strCells t = cellsO t.toList := by
  rw [ByteArray.toList_eq]
  rfl
theorem toList_length (t : ByteArray) : t.toList.length = t.size := by rw [ByteArray.toList_eq]; rfl

/-- append of a text's octets. -/
theorem wpList_apps (w : World) {ops : Array Oper} {rest : List Oper} {o : Oper} {a : Act} {Q : Exit → Act → World → Prop} (hgd : o.guard = none) (sl x : Operand)
    (ho : o.op = .call { callee := .builtin .append, args := #[sl, x], argTypes := #[26, 9] })
    (B : Nat) (s : Value) (l : List UInt8) (t : ByteArray) (hs : a.eval sl = s) (hown : Bs w B s l) (hx : a.eval x = .string t)
    (hlen : l.length + t.size ≤ 140737488355328) (hbase : B ≤ w.heap.size)
    (h : ∀ s' w', Bs w' B s' (l ++ t.toList) → RowTo w w' s s' → wpList Try.prog ops Q rest (a.put o.dst s') w') : wpList Try.prog ops Q (o :: rest) a w := by
  obtain ⟨i0, hi, hz0, hz1, hz2⟩ := info_parts Try.infoU8
  have hmax : l.length + t.size ≤ maxLen := by unfold maxLen; omega
  have fin : ∀ {w' : World} {v' : Value} {B' : Nat}, w'.ownsRow B' 5 1 v' (l.length + t.size) (cellsO l ++ Go.Lib.strCells t) → Bs w' B' v' (l ++ t.toList) := by
    intro w' v' B' q
    unfold Bs
    rw [List.length_append, toList_length, cellsO_append, ← strCells_eq]
    exact q
  obtain ⟨l0, hcase⟩ := hown
  rcases hcase with ⟨rfl, hl0⟩ | ⟨g, cap, cur, rfl, hg, hh, hnc, r⟩
  · have hnil : l = [] := List.eq_nil_of_length_eq_zero hl0
    subst hnil
    refine Go.Lib.wpList_append_own_string w hgd sl x 26 9 ho w.heap.size 5 i0 Try.underlying26 Try.underlying9 hi hz0 hz1 hz2 _ 0 [] hs (World.ownsRow_nil _ _ _ _) t hx (by simpa using hmax) (by simpa using hlen) (Nat.le_refl _) ?_
    intro v' w' h1 h2 _
    have h3 := fin (w' := w') (v' := v') (B' := w.heap.size) (by simpa [cellsO] using h1)
    exact h v' w' (h3.up fun g hg => Nat.le_trans hbase (h3.base g hg).1) ⟨h2, Or.inr fun g hg => (h3.base g hg).1⟩
  · have hown : w.ownsRow B 5 1 (.slice (some ⟨g, 0, none⟩) l.length cap) l.length (cellsO l) := ⟨l0, Or.inr ⟨g, cap, cur, rfl, hg, hh, hnc, r⟩⟩
    by_cases hroom : l.length + t.size ≤ cap
    · obtain ⟨hcm, hcs, htake⟩ := r
      have hcs' : cur.size = cap := by simpa using hcs
      have hr := Go.Lib.run_append_room_string (P := Try.prog) w 26 9 o.type 5 i0 Try.underlying26 Try.underlying9 hi hz1 g l.length cap cur hh t hroom (by omega)
      refine wpList_plain hgd fun K hK => ?_
      unfold Oper.wp execOp
      simp only [ho, resolve, invoke, builtin, Sem.run_bind, Sem.run_pure, Result.andThen_ok, List.map_toArray, List.map_cons, List.map_nil, hs, hx, hr]
      have hl2 : (cellsO l ++ Go.Lib.strCells t).length = (l.length + t.size) * 1 := by rw [List.length_append, cellsO_length, Go.Lib.strCells_length]; omega
      refine hK _ _ (h _ _ (fin ⟨hl2, .inr ⟨g, cap, _, rfl, hg, setRow_heap w g cur _ 5 _ hh, hroom, hcm, ?_, ?_⟩⟩) ⟨⟨rfl, rfl, rfl, by simp, fun k _ hk => setRow_other w g k _ (fun e => hk (by simp [Value.ownBlock, e]))⟩, Or.inl rfl⟩)
      · simp only [List.size_toArray, List.length_append, List.length_take, List.length_drop, Array.length_toList, Go.Lib.strCells_length]
        omega
      · have ht' : cur.toList.take l.length = cellsO l := by simpa using htake
        rw [ht', ← hl2]
        exact List.take_left
    · refine wpList_plain hgd fun K hK => ?_
      have hr := Go.Lib.run_append_grow_string (P := Try.prog) w 26 9 o.type 5 i0 _ Try.underlying26 Try.underlying9 hi hz0 ⟨g, 0, none⟩ l.length cap (cellsO l) (by rw [hz1, cellsO_length]; omega) (hown.cells (g := g) rfl) t (by omega) (by unfold maxLen at hmax; omega) (by rw [hz2]; exact growslice_fits (by omega) (by omega))
      unfold Oper.wp execOp
      simp only [ho, resolve, invoke, builtin, Sem.run_bind, Sem.run_pure, Result.andThen_ok, List.map_toArray, List.map_cons, List.map_nil, hs, hx, hr]
      refine hK _ _ (h _ _ (fin ?_) ⟨?_, Or.inr fun g' hg' => ?_⟩)
      · have hge := grownCap_ge w (l.length + t.size) cap 5
        have hcm := grownCap_le_maxLen w (l.length + t.size) cap 5 hmax
        refine ⟨by rw [List.length_append, cellsO_length, Go.Lib.strCells_length]; omega, Or.inr ⟨w.heap.size, _, _, rfl, hbase, heap_alloc_new w.drew _, hge, hcm, ?_, ?_⟩⟩
        · have hz1 : (Value.int IntKind.u8 0).cells.size = 1 := rfl
          simp only [Array.size_append, List.size_toArray, size_zeroCells, hz1, cellsO_length, Go.Lib.strCells_length]
          omega
        · simp only [Array.toList_append]
          rw [show (l.length + t.size) * 1 = (cellsO l ++ Go.Lib.strCells t).length by rw [List.length_append, cellsO_length, Go.Lib.strCells_length]; omega]
          exact List.take_left
      · exact ⟨rfl, rfl, rfl, by simp, fun k hk _ => heap_alloc_old' w.drew _ k hk⟩
      · simp only [Value.ownBlock, Option.some.injEq] at hg'; omega
end Go.Proofs.Ytnliokikcpnllaa
