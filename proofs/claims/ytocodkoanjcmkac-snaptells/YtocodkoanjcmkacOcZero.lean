/-
  append of zeros ('append(b, make([]byte, k)...)': the builtin gets the number).
-/
import Derived.Test.YtocodkoanjcmkacOcStep
import Derived.Lib.AppendZerosOnto
namespace Go.Proofs.Ytocodkoanjcmkac
open Go.ChangeShapes Go.WideShapes Go.ChangeAt Go.RowKit Go.Deep

theorem zeroCells_octets (k : Nat) : Builtin.zeroCells (Value.int .u8 0).cells k = (cellsO (List.replicate k 0)).toArray := by
  have e : (Value.int IntKind.u8 0).cells = #[.int .u8 0] := rfl
  rw [e]
  apply Array.ext
  · simp [Builtin.zeroCells, cellsO]
  · intro i h1 h2
    simp [Builtin.zeroCells, cellsO, Nat.mod_one]

theorem run_zeros_room (w : World) (ty g n cap k : Nat) (cur : Array Value) (hg : w.heap[g]? = some (.cells cur 5 (0, 0))) (h0 : 0 < k) (hroom : n + k ≤ cap) (hcs : cur.size = cap) (hk : k ≤ 1000000) :
    (Builtin.append_ #[22, 3] ty #[.slice (some ⟨g, 0, none⟩) n cap, .int .i64 k]).run Try.prog w =
      .ok (.slice (some ⟨g, 0, none⟩) (n + k) cap) (w.setRow g (cur.toList.take n ++ cellsO (List.replicate k 0) ++ cur.toList.drop (n + k)).toArray) := by
  obtain ⟨i0, hi, hz0, hz1, hz2⟩ := info_parts Try.infoU8
  have hl : (cellsO (List.replicate k 0)).length = k := by rw [cellsO_length, List.length_replicate]
  have hst := run_storeCells_at Try.prog g (n * i0.size) 5 (cellsO (List.replicate k 0)) 0 cur w hg (by rw [hl, hz1]; omega) (one_cells _)
  simp only [Nat.add_zero, hz1, Nat.mul_one, hl] at hst
  have hw : IntKind.i64.wrap (k : Int) = k := by rw [IntKind.wrap_i64]; omega
  have hneg : ¬ ((k : Int) < 0) := by omega
  have h48i : ¬ (281474976710656 < (k : Int) * (i0.bytes : Int)) := by rw [hz2]; omega
  have hk0 : k ≠ 0 := by omega
  have hzc := zeroCells_octets k
  simp [Builtin.append_, run_underlying Try.underlying22, run_underlying Try.underlying3, sizeOf, typeInfo, zeroValue, hi, hz0, hz1, asInt, asIntOf, hw, hneg, h48i, hk0, hroom, hzc, Addr.add_lit, hst]

/-- append of so many zeros. -/
theorem wpList_zeros (w : World) {ops : Array Oper} {rest : List Oper} {o : Oper} {a : Act} {Q : Exit → Act → World → Prop} (hgd : o.guard = none) (sl x : Operand)
    (ho : o.op = .call { callee := .builtin .append, args := #[sl, x], argTypes := #[22, 3] })
    (B : Nat) (s : Value) (l : List UInt8) (hs : a.eval sl = s) (hown : Bs w B s l) (K : Int) (k : Nat) (hx : a.eval x = .int .i64 K) (hK : K = (k : Int)) (h0 : 0 < k) (hlen : l.length + k ≤ 1000000) (hbase : B ≤ w.heap.size)
    (h : ∀ s' w', Bs w' B s' (l ++ List.replicate k 0) → RowTo w w' s s' → wpList Try.prog ops Q rest (a.put o.dst s') w') : wpList Try.prog ops Q (o :: rest) a w := by
  subst hK
  obtain ⟨i0, hi, hz0, hz1, hz2⟩ := info_parts Try.infoU8
  have hzl : (cellsO (List.replicate k 0)).length = k := by rw [cellsO_length, List.length_replicate]
  have fin : ∀ {w' : World} {v' : Value}, w'.ownsRow B 5 1 v' (l.length + k) (cellsO l ++ cellsO (List.replicate k 0)) → Bs w' B v' (l ++ List.replicate k 0) := by
    intro w' v' q
    unfold Bs
    rw [List.length_append, cellsO_append, List.length_replicate]
    exact q
  have hl2 : (cellsO l ++ cellsO (List.replicate k 0)).length = (l.length + k) * 1 := by rw [List.length_append, cellsO_length, hzl]; omega
  have grown : ∀ (old : Nat), (w.drew.alloc (.cells ((cellsO l).toArray ++ (cellsO (List.replicate k 0)).toArray ++ Builtin.zeroCells (Value.int .u8 0).cells (grownCap w (l.length + k) old 5 - (l.length + k))) 5)).ownsRow B 5 1
          (.slice (some ⟨w.heap.size, 0, none⟩) (l.length + k) (grownCap w (l.length + k) old 5)) (l.length + k) (cellsO l ++ cellsO (List.replicate k 0)) := by
    intro old
    have hge := grownCap_ge w (l.length + k) old 5
    have hcm := grownCap_le_maxLen w (l.length + k) old 5 (by unfold maxLen; omega)
    refine ⟨hl2, Or.inr ⟨w.heap.size, _, _, rfl, hbase, heap_alloc_new w.drew _, hge, hcm, ?_, ?_⟩⟩
    · have hz1 : (Value.int IntKind.u8 0).cells.size = 1 := rfl
      simp only [Array.size_append, List.size_toArray, size_zeroCells, hz1, cellsO_length, List.length_replicate]
      omega
    · simp only [Array.toList_append]
      rw [← hl2]
      exact List.take_left
  obtain ⟨l0, hcase⟩ := hown
  rcases hcase with ⟨rfl, hl0⟩ | ⟨g, cap, cur, rfl, hg, hh, hnc, hcm, hcs, htake⟩
  · have hnil : l = [] := List.eq_nil_of_length_eq_zero hl0
    subst hnil
    have hr := Go.Lib.run_append_nil_zeros (P := Try.prog) w 22 3 o.type 5 i0 _ .i64 .i64 Try.underlying22 Try.underlying3 hi hz0 k h0 (by rw [hz1]; decide) (by omega) (by rw [hz2]; simp at hlen; omega)
    rw [zeroCells_octets k] at hr
    have hgr := grown 0
    simp only [List.length_nil, Nat.zero_add, cellsO, List.map_nil, List.nil_append, Array.empty_append] at hgr
    refine Go.Lib.wpList_append_run w hgd sl x _ _ ho _ _ hs hx _ _ hr (h _ _ (fin (by simpa [cellsO] using hgr)) ⟨⟨rfl, rfl, rfl, by simp, fun k hk _ => heap_alloc_old' w.drew _ k hk⟩, Or.inr fun g' hg' => ?_⟩)
    simp only [Value.ownBlock, Option.some.injEq] at hg'
    omega
  · have hcs' : cur.size = cap := by simpa using hcs
    by_cases hroom : l.length + k ≤ cap
    · have hr := run_zeros_room w o.type g l.length cap k cur hh h0 hroom hcs' (by omega)
      refine Go.Lib.wpList_append_run w hgd sl x _ _ ho _ _ hs hx _ _ hr (h _ _ (fin ⟨hl2, .inr ⟨g, cap, _, rfl, hg, setRow_heap w g cur _ 5 _ hh, hroom, hcm, ?_, ?_⟩⟩) ⟨⟨rfl, rfl, rfl, by simp, fun k _ hk => setRow_other w g k _ (fun e => hk (by simp [Value.ownBlock, e]))⟩, Or.inl rfl⟩)
      · simp only [List.size_toArray, List.length_append, List.length_take, List.length_drop, Array.length_toList, cellsO_length, List.length_replicate]
        omega
      · have ht' : cur.toList.take l.length = cellsO l := by simpa using htake
        rw [ht', ← hl2]
        exact List.take_left
    · have hown : w.ownsRow B 5 1 (.slice (some ⟨g, 0, none⟩) l.length cap) l.length (cellsO l) := ⟨l0, Or.inr ⟨g, cap, cur, rfl, hg, hh, hnc, hcm, hcs, htake⟩⟩
      have hold := run_firstCells_some (P := Try.prog) w.drew i0.size l.length ⟨g, 0, none⟩ l.length cap (cellsO l) (by rw [hz1, cellsO_length]; omega) (hown.cells (g := g) rfl)
      have hr := Go.Lib.run_append_grow_zeros (P := Try.prog) w 22 3 o.type 5 i0 _ .i64 .i64 Try.underlying22 Try.underlying3 hi hz0 (some ⟨g, 0, none⟩) l.length cap (cellsO l) hold k h0 (by rw [hz1]; decide) (by omega) (by omega) (by rw [hz2]; omega) (by rw [hz2]; have := next_sharp (show cap < l.length + k by omega); omega)
      rw [zeroCells_octets k] at hr
      refine Go.Lib.wpList_append_run w hgd sl x _ _ ho _ _ hs hx _ _ hr (h _ _ (fin (grown cap)) ⟨⟨rfl, rfl, rfl, by simp, fun k hk _ => heap_alloc_old' w.drew _ k hk⟩, Or.inr fun g' hg' => ?_⟩)
      simp only [Value.ownBlock, Option.some.injEq] at hg'
      omega
end Go.Proofs.Ytocodkoanjcmkac
