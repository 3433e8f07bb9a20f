/-
  Octets among the arguments; CopyBytes, Spoil.
-/
import Derived.Test.YtndclldicdfmeaaGreatOcBase
namespace Go.Proofs.YtndclldicdfmeaaGreat.Xp
open Go.ChangeShapes Go.WideShapes Go.ChangeAt Go.RowKit Go.Deep

/-- A slice of octets that came in. -/
def BytesIs (w : World) (x : Value) (bs : List UInt8) : Prop := ∃ a c, x = .slice a bs.length c ∧ Oct w a c bs ∧ bs.length ≤ 140737488351232

theorem Tryz.cellsU8 : Tryz.prog.cellsOf 5 = 1 := by kernel_rfl

theorem Tryz.bytesU8 : Tryz.prog.bytesOf 5 = 1 := by kernel_rfl

theorem cells_one {w : World} {a : Addr} {cs : List Value} (h : w.cells? 0 a 1 = some cs) : ∃ c0, cs = [c0] ∧ w.cell? (a.add 0) = some c0 := by
  simp only [World.cells?, Nat.zero_le, if_true, show List.range 1 = [0] from rfl, List.mapM_cons, List.mapM_nil] at h
  cases h0 : w.cell? (a.add 0) with
  | none => simp [h0] at h
  | some c0 =>
    simp [h0] at h
    exact ⟨c0, h.symm, rfl⟩

set_option maxRecDepth 100000 in
theorem bytes_of_trod {H : Type} {enc : TypeId × Value → H} {w : World} {d : DataW H} {fuel : Nat} {c : Value} {pl : List MemPlace} (hwt : ∀ n ∈ d.weights Tryz.prog 158, n ≤ reachBytes)
    (h : DataW.trod enc Tryz.prog w 0 (fun _ => true) true fuel 158 [c] = some (d, pl)) : ∃ bs : List UInt8, BytesIs w c bs := by
  rcases open_slice Tryz.underlying158 h with ⟨h1, h2⟩ | ⟨a, len, cap, m, n', D, Pl, h1, _, hl1, hm1, hm2, h2, h3⟩
  · simp only [List.cons.injEq, and_true] at h1
    exact ⟨[], none, 0, h1, ⟨fun i s hi => by simp at hi, by simp, by simp, by simp, fun _ => rfl, fun ad h => by cases h⟩, by simp⟩
  · simp only [List.cons.injEq, and_true] at h1
    simp only [if_true] at hm2
    subst hm2
    rw [Tryz.cellsU8] at h2 h3
    have h2' : d = .slice ((List.range len).map D) ((List.range (m - len)).map fun j => D (len + j)) := congrArg Prod.fst h2
    rw [h2'] at hwt
    unfold maxLen at hm1
    have spot : 0 < m → a = ⟨a.block, a.off, none⟩ := by
      intro hm0
      obtain ⟨cs0, q0, _⟩ := h3 0 hm0
      obtain ⟨z0, _, p0⟩ := cells_one q0
      have hs := spot_none p0
      simpa only [Nat.zero_mul, Addr.add, if_true] using hs
    have each : ∀ i, i < len → ∃ o : UInt8, ∃ b off, some a = some (⟨b, off, none⟩ : Addr) ∧ w.cell? ⟨b, off + i, none⟩ = some (.int .u8 (o.toNat : Int)) := by
      intro i hi
      obtain ⟨cs', q, htr⟩ := h3 i (by omega)
      obtain ⟨c0, rfl, p0⟩ := cells_one q
      obtain ⟨kk, e2, -, w2⟩ := DataW.trod_int Tryz.underlying5 htr
      have e2' : c0 = .int .u8 kk := by simpa using e2
      subst e2'
      have b2 := bounds_u8 w2
      refine ⟨UInt8.ofNat kk.toNat, a.block, a.off, by rw [← spot (by omega)], ?_⟩
      have hk : ((UInt8.ofNat kk.toNat).toNat : Int) = kk := by
        rw [UInt8.toNat_ofNat']
        omega
      rw [hk]
      have hs := spot (by omega)
      generalize a.block = ab at *
      generalize a.off = ao at *
      subst hs
      rw [add_plain, add_plain] at p0
      simpa using p0
    obtain ⟨bs, hlen', hbs⟩ := list_of each
    have hbl : bs.length ≤ 140737488351232 := ?_
    · exact ⟨bs, some a, m, by rw [hlen']; exact h1, ⟨fun i o hi => hbs i o hi, by omega, hm1, by omega, by simp, fun ad h => by cases h; exact spot⟩, hbl⟩
    have := hwt _ (by simp only [DataW.weights, Tryz.underlying158]; exact List.mem_cons_self)
    simp only [List.length_map, List.length_range, Tryz.bytesU8] at this
    rw [reach_eq] at this
    omega

set_option maxRecDepth 100000 in
theorem bytes_of_arg {H : Type} {enc : TypeId × Value → H} {w : World} {base : Nat} {x : Value} {d : DataW H} {pl : List MemPlace} (hx : Value.okWide Tryz.prog w .any base 158 x) (h : DataW.Trod enc Tryz.prog w 0 (fun _ => true) true 158 x d pl)
    (hw : ∀ n ∈ d.weights Tryz.prog 158, n ≤ reachBytes) : ∃ bs : List UInt8, BytesIs w x bs := by
  obtain ⟨fuel, hf⟩ := h
  unfold Value.okWide at hx
  rw [Tryz.underlying158] at hx
  have hc : x.cells = #[x] ∨ ∃ cs, x = .agg cs := by cases x <;> simp [Value.cells]
  rcases hc with hc | ⟨cs, rfl⟩
  · rw [hc] at hf
    exact bytes_of_trod hw hf
  · exfalso
    simp [Cell.okWide, Cell.ok, Tryz.underlying158] at hx

/-- append of octets that came from somewhere, or of none. -/
theorem wpList_appO (w : World) {ops : Array Oper} {rest : List Oper} {o : Oper} {a : Act} {Q : Exit → Act → World → Prop} (hgd : o.guard = none) (sl x : Operand)
    (ho : o.op = .call { callee := .builtin .append, args := #[sl, x], argTypes := #[158, 158] })
    (B : Nat) (s : Value) (l m : List UInt8) (hs : a.eval sl = s) (hown : Bs w B s l) (ao : Option Addr) (c : Nat) (hx : a.eval x = .slice ao m.length c) (hm : Oct w ao c m) (hlen : l.length + m.length ≤ 140737488355328) (hbase : B ≤ w.heap.size)
    (h : ∀ s' w', Bs w' B s' (l ++ m) → RowTo w w' s s' → wpList Tryz.prog ops Q rest (a.put o.dst s') w') : wpList Tryz.prog ops Q (o :: rest) a w := by
  obtain ⟨i0, hi, hz0, hz1, hz2⟩ := info_parts Tryz.infoU8
  refine wpList_append_apart w hgd sl x 158 ho B 5 i0 _ 1 1 Tryz.underlying158 hi hz0 hz1 hz2 rfl (by decide) s l.length (cellsO l) hs hown ao m.length c (cellsO m) hx (fun e => by have h1 := hm.2.2.2.2.1 e; have h2 := hm.2.1; omega) (by rw [cellsO_length]; omega) ?_ (one_cells m) (by unfold maxLen; omega) (by omega) hbase ?_
  · intro ad' e j u hj
    subst e
    simp only [cellsO, List.getElem?_map, Option.map_eq_some_iff] at hj
    obtain ⟨o', ho', rfl⟩ := hj
    obtain ⟨b, off, e, hc⟩ := hm.1 j o' ho'
    cases e
    rw [add_plain]
    exact hc
  · intro v' w' h1 h2 h3
    refine h v' w' ?_ ⟨h2, h3⟩
    unfold Bs
    rw [List.length_append, cellsO_append]
    exact h1

/-- How far append grows. -/
theorem next_sharp {need old : Nat} (h : old < need) : Builtin.nextslicecap need old ≤ need + need / 4 + 768 := by
  unfold Builtin.nextslicecap
  split
  · omega
  · split
    · omega
    · rw [growBy_four]
      repeat' split
      all_goals omega

/-- append of many octets. -/
theorem wpList_appL (w : World) {ops : Array Oper} {rest : List Oper} {o : Oper} {a : Act} {Q : Exit → Act → World → Prop} (hgd : o.guard = none) (sl x : Operand)
    (ho : o.op = .call { callee := .builtin .append, args := #[sl, x], argTypes := #[158, 158] })
    (B : Nat) (s : Value) (l m : List UInt8) (hs : a.eval sl = s) (hown : Bs w B s l) (ao : Option Addr) (c : Nat) (hx : a.eval x = .slice ao m.length c) (hm : Oct w ao c m) (hlen : l.length + m.length ≤ 150000000000000) (hbase : B ≤ w.heap.size)
    (h : ∀ s' w', Bs w' B s' (l ++ m) → RowTo w w' s s' → wpList Tryz.prog ops Q rest (a.put o.dst s') w') : wpList Tryz.prog ops Q (o :: rest) a w := by
  by_cases hsmall : l.length + m.length ≤ 140737488355328
  · exact wpList_appO w hgd sl x ho B s l m hs hown ao c hx hm hsmall hbase h
  obtain ⟨i0, hi, hz0, hz1, hz2⟩ := info_parts Tryz.infoU8
  have hmax : l.length + m.length ≤ maxLen := by unfold maxLen; omega
  have fin : ∀ {w' : World} {v' : Value} {B' : Nat}, w'.ownsRow B' 5 1 v' (l.length + m.length) (cellsO l ++ cellsO m) → Bs w' B' v' (l ++ m) := by
    intro w' v' B' q
    unfold Bs
    rw [List.length_append, cellsO_append]
    exact q
  cases ao with
  | none =>
    have hc := hm.2.2.2.2.1 rfl
    have hml : m.length = 0 := by have := hm.2.1; omega
    have hm0 : m = [] := List.eq_nil_of_length_eq_zero hml
    subst hm0 hc
    refine wpList_append_own_none hgd sl x 158 ho B 5 i0 1 Tryz.underlying158 hi s l.length (cellsO l) hs hown hx ?_
    exact h s w (by rw [List.append_nil]; exact hown) (RowTo.refl _ _)
  | some ad =>
    have hnews : ∀ j u, (cellsO m)[j]? = some u → w.cell? (ad.add j) = some u := by
      intro j u hj
      simp only [cellsO, List.getElem?_map, Option.map_eq_some_iff] at hj
      obtain ⟨o', ho', rfl⟩ := hj
      obtain ⟨b, off, e, hc⟩ := hm.1 j o' ho'
      cases e
      rw [add_plain]
      exact hc
    have hl2 : (cellsO l ++ cellsO m).length = (l.length + m.length) * 1 := by rw [List.length_append, cellsO_length, cellsO_length]; omega
    have grown : ∀ (old : Nat), old < l.length + m.length →
        (w.drew.alloc (.cells ((cellsO l).toArray ++ (cellsO m).toArray ++ Builtin.zeroCells (Value.int .u8 0).cells (grownCap w (l.length + m.length) old 5 - (l.length + m.length))) 5)).ownsRow B 5 1
          (.slice (some ⟨w.heap.size, 0, none⟩) (l.length + m.length) (grownCap w (l.length + m.length) old 5)) (l.length + m.length) (cellsO l ++ cellsO m) := by
      intro old hold
      have hge := grownCap_ge w (l.length + m.length) old 5
      have hcm := grownCap_le_maxLen w (l.length + m.length) old 5 hmax
      refine ⟨hl2, Or.inr ⟨w.heap.size, _, _, rfl, hbase, heap_alloc_new w.drew _, hge, hcm, ?_, ?_⟩⟩
      · have hz1 : (Value.int IntKind.u8 0).cells.size = 1 := rfl
        simp only [Array.size_append, List.size_toArray, size_zeroCells, hz1, cellsO_length]
        omega
      · simp only [Array.toList_append]
        rw [← hl2]
        exact List.take_left
    obtain ⟨l0, hcase⟩ := hown
    rcases hcase with ⟨rfl, hl0⟩ | ⟨g, cap, cur, rfl, hg, hh, hnc, r⟩
    · have hnil : l = [] := List.eq_nil_of_length_eq_zero hl0
      subst hnil
      have hr := run_append_nil (P := Tryz.prog) w 158 o.type 5 i0 _ Tryz.underlying158 hi hz0 ad m.length c (cellsO m) (by rw [hz1, cellsO_length]; omega) hnews (by simp at hsmall; omega) (by simp at hlen; omega) (by rw [hz2]; simp at hlen; omega)
      have hgr := grown 0 (by simp at hsmall ⊢; omega)
      simp only [List.length_nil, Nat.zero_add, cellsO, List.map_nil, List.nil_append, Array.empty_append] at hgr
      refine wpList_plain hgd fun K hK => ?_
      unfold Oper.wp execOp
      simp only [ho, resolve, invoke, builtin, Sem.run_bind, Sem.run_pure, Result.andThen_ok, List.map_toArray, List.map_cons, List.map_nil, hs, hx, hr]
      refine hK _ _ (h _ _ (fin (by simpa [cellsO] using hgr)) ⟨⟨rfl, rfl, rfl, by simp, fun k hk _ => heap_alloc_old' w.drew _ k hk⟩, Or.inr fun g' hg' => ?_⟩)
      simp only [Value.ownBlock, Option.some.injEq] at hg'; omega
    · have hown : w.ownsRow B 5 1 (.slice (some ⟨g, 0, none⟩) l.length cap) l.length (cellsO l) := ⟨l0, Or.inr ⟨g, cap, cur, rfl, hg, hh, hnc, r⟩⟩
      by_cases hroom : l.length + m.length ≤ cap
      · obtain ⟨hcm, hcs, htake⟩ := r
        have hcs' : cur.size = cap := by simpa using hcs
        have hr := run_append_room (P := Tryz.prog) w 158 o.type 5 i0 Tryz.underlying158 hi g l.length cap cur hh ad m.length c (cellsO m) (by rw [hz1, cellsO_length]; omega) hnews (one_cells m) hroom (by rw [hz1, cellsO_length]; omega)
        rw [hz1] at hr
        refine wpList_plain hgd fun K hK => ?_
        unfold Oper.wp execOp
        simp only [ho, resolve, invoke, builtin, Sem.run_bind, Sem.run_pure, Result.andThen_ok, List.map_toArray, List.map_cons, List.map_nil, hs, hx, hr]
        refine hK _ _ (h _ _ (fin ⟨hl2, .inr ⟨g, cap, _, rfl, hg, setRow_heap w g cur _ 5 _ hh, hroom, hcm, ?_, ?_⟩⟩) ⟨⟨rfl, rfl, rfl, by simp, fun k _ hk => setRow_other w g k _ (fun e => hk (by simp [Value.ownBlock, e]))⟩, Or.inl rfl⟩)
        · simp only [List.size_toArray, List.length_append, List.length_take, List.length_drop, Array.length_toList, cellsO_length]
          omega
        · have ht' : cur.toList.take (l.length * 1) = cellsO l := htake
          rw [ht', ← hl2]
          exact List.take_left
      · have hr := run_append_grow (P := Tryz.prog) w 158 o.type 5 i0 _ Tryz.underlying158 hi hz0 ⟨g, 0, none⟩ l.length cap (cellsO l) (by rw [hz1, cellsO_length]; omega) (hown.cells (g := g) rfl) ad m.length c (cellsO m) (by rw [hz1, cellsO_length]; omega) hnews (by omega) (by omega) (by rw [hz2]; have := next_sharp (show cap < l.length + m.length by omega); omega)
        refine wpList_plain hgd fun K hK => ?_
        unfold Oper.wp execOp
        simp only [ho, resolve, invoke, builtin, Sem.run_bind, Sem.run_pure, Result.andThen_ok, List.map_toArray, List.map_cons, List.map_nil, hs, hx, hr]
        refine hK _ _ (h _ _ (fin (grown cap (by omega))) ⟨⟨rfl, rfl, rfl, by simp, fun k hk _ => heap_alloc_old' w.drew _ k hk⟩, Or.inr fun g' hg' => ?_⟩)
        simp only [Value.ownBlock, Option.some.injEq] at hg'; omega

end Go.Proofs.YtndclldicdfmeaaGreat.Xp
