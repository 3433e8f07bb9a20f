/-
  CopyBytes and Spoil.
-/
import Derived.Test.YtclmlifhhfkagaaPkLaw
import Derived.Test.YtclmlifhhfkagaaVaSpoil
namespace Go.Proofs.Ytclmlifhhfkagaa
open Go.ChangeShapes Go.WideShapes Go.ChangeAt Go.RowKit
open Fl

/-- append of octets that came from somewhere, or of none. -/
theorem wpList_appO (w : World) {ops : Array Oper} {rest : List Oper} {o : Oper} {a : Act} {Q : Exit → Act → World → Prop} (hgd : o.guard = none) (sl x : Operand)
    (ho : o.op = .call { callee := .builtin .append, args := #[sl, x], argTypes := #[25, 25] })
    (B : Nat) (s : Value) (l m : List UInt8) (hs : a.eval sl = s) (hown : Bs w B s l) (ao : Option Addr) (c : Nat) (hx : a.eval x = .slice ao m.length c) (hm : Oct w ao c m) (hlen : l.length + m.length ≤ 140737488355328) (hbase : B ≤ w.heap.size)
    (h : ∀ s' w', Bs w' B s' (l ++ m) → RowTo w w' s s' → wpList Try.prog ops Q rest (a.put o.dst s') w') : wpList Try.prog ops Q (o :: rest) a w := by
  obtain ⟨i0, hi, hz0, hz1, hz2⟩ := info_parts Try.infoU8
  refine wpList_append_apart w hgd sl x 25 ho B 5 i0 _ 1 1 Try.underlying25 hi hz0 hz1 hz2 rfl (by decide) s l.length (cellsO l) hs hown ao m.length c (cellsO m) hx (fun e => by have h1 := hm.2.2.2.2.1 e; have h2 := hm.2.1; omega) (by rw [cellsO_length]; omega) ?_ (one_cells m) (by unfold maxLen; omega) (by omega) hbase ?_
  · intro ad' e j u hj
    subst e
    simp only [cellsO, List.getElem?_map, Option.map_eq_some_iff] at hj
    obtain ⟨o', ho', rfl⟩ := hj
    obtain ⟨b, off, e, hc⟩ := hm.1 j o' ho'
    cases e
    rw [add_plain]
    exact hc
  · intro v' w' h1 h2 h3
    refine h v' w' ?_ ⟨h2, h3⟩
    unfold Bs
    rw [List.length_append, cellsO_append]
    exact h1

/-- How far append grows. -/
theorem next_sharp {need old : Nat} (h : old < need) : Builtin.nextslicecap need old ≤ need + need / 4 + 768 := by
  unfold Builtin.nextslicecap
  split
  · omega
  · split
    · omega
    · rw [growBy_four]
      repeat' split
      all_goals omega

/-- append of many octets. -/
theorem wpList_appL (w : World) {ops : Array Oper} {rest : List Oper} {o : Oper} {a : Act} {Q : Exit → Act → World → Prop} (hgd : o.guard = none) (sl x : Operand)
    (ho : o.op = .call { callee := .builtin .append, args := #[sl, x], argTypes := #[25, 25] })
    (B : Nat) (s : Value) (l m : List UInt8) (hs : a.eval sl = s) (hown : Bs w B s l) (ao : Option Addr) (c : Nat) (hx : a.eval x = .slice ao m.length c) (hm : Oct w ao c m) (hlen : l.length + m.length ≤ 150000000000000) (hbase : B ≤ w.heap.size)
    (h : ∀ s' w', Bs w' B s' (l ++ m) → RowTo w w' s s' → wpList Try.prog ops Q rest (a.put o.dst s') w') : wpList Try.prog ops Q (o :: rest) a w := by
  by_cases hsmall : l.length + m.length ≤ 140737488355328
  · exact wpList_appO w hgd sl x ho B s l m hs hown ao c hx hm hsmall hbase h
  obtain ⟨i0, hi, hz0, hz1, hz2⟩ := info_parts Try.infoU8
  have hmax : l.length + m.length ≤ maxLen := by unfold maxLen; omega
  have fin : ∀ {w' : World} {v' : Value} {B' : Nat}, w'.ownsRow B' 5 1 v' (l.length + m.length) (cellsO l ++ cellsO m) → Bs w' B' v' (l ++ m) := by
    intro w' v' B' q
    unfold Bs
    rw [List.length_append, cellsO_append]
    exact q
  cases ao with
  | none =>
    have hc := hm.2.2.2.2.1 rfl
    have hml : m.length = 0 := by have := hm.2.1; omega
    have hm0 : m = [] := List.eq_nil_of_length_eq_zero hml
    subst hm0 hc
    refine wpList_append_own_none hgd sl x 25 ho B 5 i0 1 Try.underlying25 hi s l.length (cellsO l) hs hown hx ?_
    exact h s w (by rw [List.append_nil]; exact hown) (RowTo.refl _ _)
  | some ad =>
    have hnews : ∀ j u, (cellsO m)[j]? = some u → w.cell? (ad.add j) = some u := by
      intro j u hj
      simp only [cellsO, List.getElem?_map, Option.map_eq_some_iff] at hj
      obtain ⟨o', ho', rfl⟩ := hj
      obtain ⟨b, off, e, hc⟩ := hm.1 j o' ho'
      cases e
      rw [add_plain]
      exact hc
    have hl2 : (cellsO l ++ cellsO m).length = (l.length + m.length) * 1 := by rw [List.length_append, cellsO_length, cellsO_length]; omega
    have grown : ∀ (old : Nat), old < l.length + m.length →
        (w.drew.alloc (.cells ((cellsO l).toArray ++ (cellsO m).toArray ++ Builtin.zeroCells (Value.int .u8 0).cells (grownCap w (l.length + m.length) old 5 - (l.length + m.length))) 5)).ownsRow B 5 1
          (.slice (some ⟨w.heap.size, 0, none⟩) (l.length + m.length) (grownCap w (l.length + m.length) old 5)) (l.length + m.length) (cellsO l ++ cellsO m) := by
      intro old hold
      have hge := grownCap_ge w (l.length + m.length) old 5
      have hcm := grownCap_le_maxLen w (l.length + m.length) old 5 hmax
      refine ⟨hl2, Or.inr ⟨w.heap.size, _, _, rfl, hbase, heap_alloc_new w.drew _, hge, hcm, ?_, ?_⟩⟩
      · have hz1 : (Value.int IntKind.u8 0).cells.size = 1 := rfl
        simp only [Array.size_append, List.size_toArray, size_zeroCells, hz1, cellsO_length]
        omega
      · simp only [Array.toList_append]
        rw [← hl2]
        exact List.take_left
    obtain ⟨l0, hcase⟩ := hown
    rcases hcase with ⟨rfl, hl0⟩ | ⟨g, cap, cur, rfl, hg, hh, hnc, r⟩
    · have hnil : l = [] := List.eq_nil_of_length_eq_zero hl0
      subst hnil
      have hr := run_append_nil (P := Try.prog) w 25 o.type 5 i0 _ Try.underlying25 hi hz0 ad m.length c (cellsO m) (by rw [hz1, cellsO_length]; omega) hnews (by simp at hsmall; omega) (by simp at hlen; omega) (by rw [hz2]; simp at hlen; omega)
      have hgr := grown 0 (by simp at hsmall ⊢; omega)
      simp only [List.length_nil, Nat.zero_add, cellsO, List.map_nil, List.nil_append, Array.empty_append] at hgr
      refine wpList_plain hgd fun K hK => ?_
      unfold Oper.wp execOp
      simp only [ho, resolve, invoke, builtin, Sem.run_bind, Sem.run_pure, Result.andThen_ok, List.map_toArray, List.map_cons, List.map_nil, hs, hx, hr]
      refine hK _ _ (h _ _ (fin (by simpa [cellsO] using hgr)) ⟨⟨rfl, rfl, rfl, by simp, fun k hk _ => heap_alloc_old' w.drew _ k hk⟩, Or.inr fun g' hg' => ?_⟩)
      simp only [Value.ownBlock, Option.some.injEq] at hg'; omega
    · have hown : w.ownsRow B 5 1 (.slice (some ⟨g, 0, none⟩) l.length cap) l.length (cellsO l) := ⟨l0, Or.inr ⟨g, cap, cur, rfl, hg, hh, hnc, r⟩⟩
      by_cases hroom : l.length + m.length ≤ cap
      · obtain ⟨hcm, hcs, htake⟩ := r
        have hcs' : cur.size = cap := by simpa using hcs
        have hr := run_append_room (P := Try.prog) w 25 o.type 5 i0 Try.underlying25 hi g l.length cap cur hh ad m.length c (cellsO m) (by rw [hz1, cellsO_length]; omega) hnews (one_cells m) hroom (by rw [hz1, cellsO_length]; omega)
        rw [hz1] at hr
        refine wpList_plain hgd fun K hK => ?_
        unfold Oper.wp execOp
        simp only [ho, resolve, invoke, builtin, Sem.run_bind, Sem.run_pure, Result.andThen_ok, List.map_toArray, List.map_cons, List.map_nil, hs, hx, hr]
        refine hK _ _ (h _ _ (fin ⟨hl2, .inr ⟨g, cap, _, rfl, hg, setRow_heap w g cur _ 5 _ hh, hroom, hcm, ?_, ?_⟩⟩) ⟨⟨rfl, rfl, rfl, by simp, fun k _ hk => setRow_other w g k _ (fun e => hk (by simp [Value.ownBlock, e]))⟩, Or.inl rfl⟩)
        · simp only [List.size_toArray, List.length_append, List.length_take, List.length_drop, Array.length_toList, cellsO_length]
          omega
        · have ht' : cur.toList.take (l.length * 1) = cellsO l := htake
          rw [ht', ← hl2]
          exact List.take_left
      · have hr := run_append_grow (P := Try.prog) w 25 o.type 5 i0 _ Try.underlying25 hi hz0 ⟨g, 0, none⟩ l.length cap (cellsO l) (by rw [hz1, cellsO_length]; omega) (hown.cells (g := g) rfl) ad m.length c (cellsO m) (by rw [hz1, cellsO_length]; omega) hnews (by omega) (by omega) (by rw [hz2]; have := next_sharp (show cap < l.length + m.length by omega); omega)
        refine wpList_plain hgd fun K hK => ?_
        unfold Oper.wp execOp
        simp only [ho, resolve, invoke, builtin, Sem.run_bind, Sem.run_pure, Result.andThen_ok, List.map_toArray, List.map_cons, List.map_nil, hs, hx, hr]
        refine hK _ _ (h _ _ (fin (grown cap (by omega))) ⟨⟨rfl, rfl, rfl, by simp, fun k hk _ => heap_alloc_old' w.drew _ k hk⟩, Or.inr fun g' hg' => ?_⟩)
        simp only [Value.ownBlock, Option.some.injEq] at hg'; omega

set_option maxRecDepth 100000 in
theorem copyB_any (a : Option Addr) (c : Nat) (l : List UInt8) (w : World) (ho : Oct w a c l) (hl : l.length ≤ 140737488351232) :
    Calls Try.prog 5 #[.slice a l.length c] w fun e w' => ∃ s, e = .returned s ∧ Bs w' w.heap.size s l ∧ Below w.heap.size w w' := by
  have HO : Hid (Oct w a c l) := ho
  clear ho
  go_enter Try.func5, Try.ntmps5
  go_wp2_with (at_builtin; refine wpList_appO _ rfl _ _ rfl w.heap.size _ [] l rfl (Bs.nil _ _) a c rfl HO.out ?d0 ?d1 ?_)
  case d0 => simp; omega
  case d1 => exact Nat.le_refl _
  intro s w1 h1 h2
  have H1 : Hid (Bs w1 w.heap.size s l) := by show Bs _ _ _ _; simpa using h1
  have B1 : Hid (Below w.heap.size w w1) := h2.below (Nat.le_refl _) (fun g hg => by simp [Value.ownBlock] at hg)
  clear h1 h2
  go_wp2_with fail
  go_ret
  exact ⟨s, rfl, H1.out, B1.out⟩

end Go.Proofs.Ytclmlifhhfkagaa
