/-
  Octets among the arguments; CopyBytes, Spoil.
-/
import Derived.Test.YtnliokikcpnllaaOcBase
namespace Go.Proofs.Ytnliokikcpnllaa
open Go.ChangeShapes Go.WideShapes Go.ChangeAt Go.RowKit Go.Deep

/-- A slice of octets that came in. -/
def BytesIs (w : World) (x : Value) (bs : List UInt8) : Prop := ∃ a c, x = .slice a bs.length c ∧ Oct w a c bs ∧ bs.length ≤ 140737488351232

theorem Try.cellsU8 : Try.prog.cellsOf 5 = 1 := by kernel_rfl

theorem Try.bytesU8 : Try.prog.bytesOf 5 = 1 := by kernel_rfl

theorem cells_one {w : World} {a : Addr} {cs : List Value} (h : w.cells? 0 a 1 = some cs) : ∃ c0, cs = [c0] ∧ w.cell? (a.add 0) = some c0 := by
  simp only [World.cells?, Nat.zero_le, if_true, show List.range 1 = [0] from rfl, List.mapM_cons, List.mapM_nil] at h
  cases h0 : w.cell? (a.add 0) with
  | none => simp [h0] at h
  | some c0 =>
    simp [h0] at h
    exact ⟨c0, h.symm, rfl⟩

set_option maxRecDepth 100000 in
theorem bytes_of_trod {H : Type} {enc : TypeId × Value → H} {w : World} {d : DataW H} {fuel : Nat} {c : Value} {pl : List MemPlace} (hwt : ∀ n ∈ d.weights Try.prog 26, n ≤ reachBytes)
    (h : DataW.trod enc Try.prog w 0 (fun _ => true) true fuel 26 [c] = some (d, pl)) : ∃ bs : List UInt8, BytesIs w c bs := by
  rcases open_slice Try.underlying26 h with ⟨h1, h2⟩ | ⟨a, len, cap, m, n', D, Pl, h1, _, hl1, hm1, hm2, h2, h3⟩
  · simp only [List.cons.injEq, and_true] at h1
    exact ⟨[], none, 0, h1, ⟨fun i s hi => by simp at hi, by simp, by simp, by simp, fun _ => rfl, fun ad h => by cases h⟩, by simp⟩
  · simp only [List.cons.injEq, and_true] at h1
    simp only [if_true] at hm2
    subst hm2
    rw [Try.cellsU8] at h2 h3
    have h2' : d = .slice ((List.range len).map D) ((List.range (m - len)).map fun j => D (len + j)) := congrArg Prod.fst h2
    rw [h2'] at hwt
    unfold maxLen at hm1
    have spot : 0 < m → a = ⟨a.block, a.off, none⟩ := by
      intro hm0
      obtain ⟨cs0, q0, _⟩ := h3 0 hm0
      obtain ⟨z0, _, p0⟩ := cells_one q0
      have hs := spot_none p0
      simpa only [Nat.zero_mul, Addr.add, if_true] using hs
    have each : ∀ i, i < len → ∃ o : UInt8, ∃ b off, some a = some (⟨b, off, none⟩ : Addr) ∧ w.cell? ⟨b, off + i, none⟩ = some (.int .u8 (o.toNat : Int)) := by
      intro i hi
      obtain ⟨cs', q, htr⟩ := h3 i (by omega)
      obtain ⟨c0, rfl, p0⟩ := cells_one q
      obtain ⟨kk, e2, -, w2⟩ := DataW.trod_int Try.underlying5 htr
      have e2' : c0 = .int .u8 kk := by simpa using e2
      subst e2'
      have b2 := bounds_u8 w2
      refine ⟨UInt8.ofNat kk.toNat, a.block, a.off, by rw [← spot (by omega)], ?_⟩
      have hk : ((UInt8.ofNat kk.toNat).toNat : Int) = kk := by
        rw [UInt8.toNat_ofNat']
        omega
      rw [hk]
      have hs := spot (by omega)
      generalize a.block = ab at *
      generalize a.off = ao at *
      subst hs
      rw [add_plain, add_plain] at p0
      simpa using p0
    obtain ⟨bs, hlen', hbs⟩ := list_of each
    have hbl : bs.length ≤ 140737488351232 := ?_
    · exact ⟨bs, some a, m, by rw [hlen']; exact h1, ⟨fun i o hi => hbs i o hi, by omega, hm1, by omega, by simp, fun ad h => by cases h; exact spot⟩, hbl⟩
    have := hwt _ (by simp only [DataW.weights, Try.underlying26]; exact List.mem_cons_self)
    simp only [List.length_map, List.length_range, Try.bytesU8] at this
    rw [reach_eq] at this
    omega

theorem bytes_of_arg {H : Type} {enc : TypeId × Value → H} {w : World} {base : Nat} {x : Value} {d : DataW H} {pl : List MemPlace} (hx : Value.okWide Try.prog w .any base 26 x) (h : DataW.Trod enc Try.prog w 0 (fun _ => true) true 26 x d pl)
    (hw : ∀ n ∈ d.weights Try.prog 26, n ≤ reachBytes) : ∃ bs : List UInt8, BytesIs w x bs := by
  obtain ⟨fuel, hf⟩ := h
  unfold Value.okWide at hx
  rw [Try.underlying26] at hx
  have hc : x.cells = #[x] ∨ ∃ cs, x = .agg cs := by cases x <;> simp [Value.cells]
  rcases hc with hc | ⟨cs, rfl⟩
  · rw [hc] at hf
    exact bytes_of_trod hw hf
  · exfalso
    simp [Cell.okWide, Cell.ok, Try.underlying26] at hx

/-- append of octets that came from somewhere, or of none. -/
theorem wpList_appO (w : World) {ops : Array Oper} {rest : List Oper} {o : Oper} {a : Act} {Q : Exit → Act → World → Prop} (hgd : o.guard = none) (sl x : Operand)
    (ho : o.op = .call { callee := .builtin .append, args := #[sl, x], argTypes := #[26, 26] })
    (B : Nat) (s : Value) (l m : List UInt8) (hs : a.eval sl = s) (hown : Bs w B s l) (ao : Option Addr) (c : Nat) (hx : a.eval x = .slice ao m.length c) (hm : Oct w ao c m) (hlen : l.length + m.length ≤ 140737488355328) (hbase : B ≤ w.heap.size)
    (h : ∀ s' w', Bs w' B s' (l ++ m) → RowTo w w' s s' → wpList Try.prog ops Q rest (a.put o.dst s') w') : wpList Try.prog ops Q (o :: rest) a w := by
  obtain ⟨i0, hi, hz0, hz1, hz2⟩ := info_parts Try.infoU8
  refine wpList_append_apart w hgd sl x 26 ho B 5 i0 _ 1 1 Try.underlying26 hi hz0 hz1 hz2 rfl (by decide) s l.length (cellsO l) hs hown ao m.length c (cellsO m) hx (fun e => by have h1 := hm.2.2.2.2.1 e; have h2 := hm.2.1; omega) (by rw [cellsO_length]; omega) ?_ (one_cells m) (by unfold maxLen; omega) (by omega) hbase ?_
  · intro ad' e j u hj
    subst e
    simp only [cellsO, List.getElem?_map, Option.map_eq_some_iff] at hj
    obtain ⟨o', ho', rfl⟩ := hj
    obtain ⟨b, off, e, hc⟩ := hm.1 j o' ho'
    cases e
    rw [add_plain]
    exact hc
  · intro v' w' h1 h2 h3
    refine h v' w' ?_ ⟨h2, h3⟩
    unfold Bs
    rw [List.length_append, cellsO_append]
    exact h1

/-- How far append grows. -/
theorem next_sharp {need old : Nat} (h : old < need) : Builtin.nextslicecap need old ≤ need + need / 4 + 768 := by
  unfold Builtin.nextslicecap
  split
  · omega
  · split
    · omega
    · rw [growBy_four]
      repeat' split
      all_goals omega

/-- append of many octets. -/
theorem wpList_appL (w : World) {ops : Array Oper} {rest : List Oper} {o : Oper} {a : Act} {Q : Exit → Act → World → Prop} (hgd : o.guard = none) (sl x : Operand)
    (ho : o.op = .call { callee := .builtin .append, args := #[sl, x], argTypes := #[26, 26] })
    (B : Nat) (s : Value) (l m : List UInt8) (hs : a.eval sl = s) (hown : Bs w B s l) (ao : Option Addr) (c : Nat) (hx : a.eval x = .slice ao m.length c) (hm : Oct w ao c m) (hlen : l.length + m.length ≤ 150000000000000) (hbase : B ≤ w.heap.size)
    (h : ∀ s' w', Bs w' B s' (l ++ m) → RowTo w w' s s' → wpList Try.prog ops Q rest (a.put o.dst s') w') : wpList Try.prog ops Q (o :: rest) a w := by
  by_cases hsmall : l.length + m.length ≤ 140737488355328
  · exact wpList_appO w hgd sl x ho B s l m hs hown ao c hx hm hsmall hbase h
  obtain ⟨i0, hi, hz0, hz1, hz2⟩ := info_parts Try.infoU8
  have hmax : l.length + m.length ≤ maxLen := by unfold maxLen; omega
  have fin : ∀ {w' : World} {v' : Value} {B' : Nat}, w'.ownsRow B' 5 1 v' (l.length + m.length) (cellsO l ++ cellsO m) → Bs w' B' v' (l ++ m) := by
    intro w' v' B' q
    unfold Bs
    rw [List.length_append, cellsO_append]
    exact q
  cases ao with
  | none =>
    have hc := hm.2.2.2.2.1 rfl
    have hml : m.length = 0 := by have := hm.2.1; omega
    have hm0 : m = [] := List.eq_nil_of_length_eq_zero hml
    subst hm0 hc
    refine wpList_append_own_none hgd sl x 26 ho B 5 i0 1 Try.underlying26 hi s l.length (cellsO l) hs hown hx ?_
    exact h s w (by rw [List.append_nil]; exact hown) (RowTo.refl _ _)
  | some ad =>
    have hnews : ∀ j u, (cellsO m)[j]? = some u → w.cell? (ad.add j) = some u := by
      intro j u hj
      simp only [cellsO, List.getElem?_map, Option.map_eq_some_iff] at hj
      obtain ⟨o', ho', rfl⟩ := hj
      obtain ⟨b, off, e, hc⟩ := hm.1 j o' ho'
      cases e
      rw [add_plain]
      exact hc
    have hl2 : (cellsO l ++ cellsO m).length = (l.length + m.length) * 1 := by rw [List.length_append, cellsO_length, cellsO_length]; omega
    have grown : ∀ (old : Nat), old < l.length + m.length →
        (w.drew.alloc (.cells ((cellsO l).toArray ++ (cellsO m).toArray ++ Builtin.zeroCells (Value.int .u8 0).cells (grownCap w (l.length + m.length) old 5 - (l.length + m.length))) 5)).ownsRow B 5 1
          (.slice (some ⟨w.heap.size, 0, none⟩) (l.length + m.length) (grownCap w (l.length + m.length) old 5)) (l.length + m.length) (cellsO l ++ cellsO m) := by
      intro old hold
      have hge := grownCap_ge w (l.length + m.length) old 5
      have hcm := grownCap_le_maxLen w (l.length + m.length) old 5 hmax
      refine ⟨hl2, Or.inr ⟨w.heap.size, _, _, rfl, hbase, heap_alloc_new w.drew _, hge, hcm, ?_, ?_⟩⟩
      · have hz1 : (Value.int IntKind.u8 0).cells.size = 1 := rfl
        simp only [Array.size_append, List.size_toArray, size_zeroCells, hz1, cellsO_length]
        omega
      · simp only [Array.toList_append]
        rw [← hl2]
        exact List.take_left
    obtain ⟨l0, hcase⟩ := hown
    rcases hcase with ⟨rfl, hl0⟩ | ⟨g, cap, cur, rfl, hg, hh, hnc, r⟩
    · have hnil : l = [] := List.eq_nil_of_length_eq_zero hl0
      subst hnil
      have hr := run_append_nil (P := Try.prog) w 26 o.type 5 i0 _ Try.underlying26 hi hz0 ad m.length c (cellsO m) (by rw [hz1, cellsO_length]; omega) hnews (by simp at hsmall; omega) (by simp at hlen; omega) (by rw [hz2]; simp at hlen; omega)
      have hgr := grown 0 (by simp at hsmall ⊢; omega)
      simp only [List.length_nil, Nat.zero_add, cellsO, List.map_nil, List.nil_append, Array.empty_append] at hgr
      refine wpList_plain hgd fun K hK => ?_
      unfold Oper.wp execOp
      simp only [ho, resolve, invoke, builtin, Sem.run_bind, Sem.run_pure, Result.andThen_ok, List.map_toArray, List.map_cons, List.map_nil, hs, hx, hr]
      refine hK _ _ (h _ _ (fin (by simpa [cellsO] using hgr)) ⟨⟨rfl, rfl, rfl, by simp, fun k hk _ => heap_alloc_old' w.drew _ k hk⟩, Or.inr fun g' hg' => ?_⟩)
      simp only [Value.ownBlock, Option.some.injEq] at hg'; omega
    · have hown : w.ownsRow B 5 1 (.slice (some ⟨g, 0, none⟩) l.length cap) l.length (cellsO l) := ⟨l0, Or.inr ⟨g, cap, cur, rfl, hg, hh, hnc, r⟩⟩
      by_cases hroom : l.length + m.length ≤ cap
      · obtain ⟨hcm, hcs, htake⟩ := r
        have hcs' : cur.size = cap := by simpa using hcs
        have hr := run_append_room (P := Try.prog) w 26 o.type 5 i0 Try.underlying26 hi g l.length cap cur hh ad m.length c (cellsO m) (by rw [hz1, cellsO_length]; omega) hnews (one_cells m) hroom (by rw [hz1, cellsO_length]; omega)
        rw [hz1] at hr
        refine wpList_plain hgd fun K hK => ?_
        unfold Oper.wp execOp
        simp only [ho, resolve, invoke, builtin, Sem.run_bind, Sem.run_pure, Result.andThen_ok, List.map_toArray, List.map_cons, List.map_nil, hs, hx, hr]
        refine hK _ _ (h _ _ (fin ⟨hl2, .inr ⟨g, cap, _, rfl, hg, setRow_heap w g cur _ 5 _ hh, hroom, hcm, ?_, ?_⟩⟩) ⟨⟨rfl, rfl, rfl, by simp, fun k _ hk => setRow_other w g k _ (fun e => hk (by simp [Value.ownBlock, e]))⟩, Or.inl rfl⟩)
        · simp only [List.size_toArray, List.length_append, List.length_take, List.length_drop, Array.length_toList, cellsO_length]
          omega
        · have ht' : cur.toList.take (l.length * 1) = cellsO l := htake
          rw [ht', ← hl2]
          exact List.take_left
      · have hr := run_append_grow (P := Try.prog) w 26 o.type 5 i0 _ Try.underlying26 hi hz0 ⟨g, 0, none⟩ l.length cap (cellsO l) (by rw [hz1, cellsO_length]; omega) (hown.cells (g := g) rfl) ad m.length c (cellsO m) (by rw [hz1, cellsO_length]; omega) hnews (by omega) (by omega) (by rw [hz2]; have := next_sharp (show cap < l.length + m.length by omega); omega)
        refine wpList_plain hgd fun K hK => ?_
        unfold Oper.wp execOp
        simp only [ho, resolve, invoke, builtin, Sem.run_bind, Sem.run_pure, Result.andThen_ok, List.map_toArray, List.map_cons, List.map_nil, hs, hx, hr]
        refine hK _ _ (h _ _ (fin (grown cap (by omega))) ⟨⟨rfl, rfl, rfl, by simp, fun k hk _ => heap_alloc_old' w.drew _ k hk⟩, Or.inr fun g' hg' => ?_⟩)
        simp only [Value.ownBlock, Option.some.injEq] at hg'; omega

set_option maxRecDepth 100000 in
theorem copyB_any (a : Option Addr) (c : Nat) (l : List UInt8) (w : World) (ho : Oct w a c l) (hl : l.length ≤ 140737488351232) :
    Calls Try.prog 10 #[.slice a l.length c] w fun e w' => ∃ s, e = .returned s ∧ Bs w' w.heap.size s l ∧ Below w.heap.size w w' := by
  have HO : Hid (Oct w a c l) := ho
  clear ho
  go_enter Try.func10, Try.ntmps10
  go_wp2_with (at_builtin; refine wpList_appO _ rfl _ _ rfl w.heap.size _ [] l rfl (Bs.nil _ _) a c rfl HO.out ?d0 ?d1 ?_)
  case d0 => simp; omega
  case d1 => exact Nat.le_refl _
  intro s w1 h1 h2
  have H1 : Hid (Bs w1 w.heap.size s l) := by show Bs _ _ _ _; simpa using h1
  have B1 : Hid (Below w.heap.size w w1) := h2.below (Nat.le_refl _) (fun g hg => by simp [Value.ownBlock] at hg)
  clear h1 h2
  go_wp2_with fail
  go_ret
  exact ⟨s, rfl, H1.out, B1.out⟩

set_option maxRecDepth 100000 in
theorem spoilB_any (B : Nat) (s : Value) (l : List UInt8) (w : World) (hs : Bs w B s l) (hlen : l.length ≤ 140737488351232) :
    Calls Try.prog 25 #[s] w fun e w' => e = .returned (.tuple #[]) ∧ Kept (fun b => s.ownBlock = some b) w w' := by
  obtain ⟨a, c, rfl⟩ := hs.shape
  have HS : Hid (Bs w B (.slice a l.length c) l) := hs
  clear hs
  go_enter Try.func25, Try.ntmps25
  go_wp2_with fail
  go_loopw [2] (fun i wr => ∃ m : Nat, m ≤ l.length ∧ i = .int .i64 m ∧ Hid (Kept (fun b => (Value.slice a l.length c).ownBlock = some b) w wr) ∧
      Hid (∀ g, a = some ⟨g, 0, none⟩ → 0 < l.length → ∃ cur : Array Value, wr.heap[g]? = some (.cells cur 5 (0, 0)) ∧ l.length ≤ cur.size ∧ ∀ j, m ≤ j → j < l.length → ∃ z : Int, cur[j]? = some (.int .u8 z) ∧ 0 ≤ z ∧ z ≤ 255)) (fun i _ => l.length - (intOf i).toNat)
  case atStart =>
    refine ⟨0, Nat.zero_le _, rfl, Kept.refl _ _, ?_⟩
    intro g hg hpos
    subst hg
    rcases HS.out.2 with ⟨h1, h2⟩ | ⟨g', cap, cur, h1, h2, h3, h4, h5, h6, h7⟩
    · simp at h1
    · simp only [Value.slice.injEq, Option.some.injEq, Addr.mk.injEq, and_true] at h1
      obtain ⟨rfl, -, rfl⟩ := h1
      refine ⟨cur, h3, by omega, fun j _ hj => ?_⟩
      have hlt : j < cur.toList.length := by rw [Array.length_toList]; omega
      have e1 : (cur.toList.take (l.length * 1))[j]? = (cellsO l)[j]? := by rw [h7]
      rw [List.getElem?_take_of_lt (by omega), Array.getElem?_toList] at e1
      refine ⟨(l[j].toNat : Int), by rw [e1]; simp [cellsO, List.getElem?_eq_getElem hj], by omega, by have := l[j].toNat_lt; omega⟩
  case round =>
    obtain ⟨m, hm, rfl, HK, HC⟩ := hrel
    by_cases hlt : m < l.length
    · have hm1 : (m : Int) < (l.length : Int) := by omega
      obtain ⟨g, rfl⟩ : ∃ g, a = some ⟨g, 0, none⟩ := by
        rcases HS.out.2 with ⟨h1, h2⟩ | ⟨g', cap, cur, h1, _⟩
        · omega
        · simp only [Value.slice.injEq] at h1; exact ⟨g', h1.1⟩
      obtain ⟨cur, hcur, hcs, hz⟩ := HC.out g rfl (by omega)
      obtain ⟨z, hz1, hz2, hz3⟩ := hz m (Nat.le_refl _) hlt
      have hc0 := (cell_of hcur m).1.trans hz1
      have hf0 := (cell_of hcur m).2
      have HKK : Hid (∀ v, Kept (fun b => (Value.slice (some ⟨g, 0, none⟩) l.length c).ownBlock = some b) w (wr.setCell ⟨g, m, none⟩ v)) := fun v => HK.out.setCell (g := g) (o := m) v rfl
      have HCC : Hid (∀ v, ∀ g', some (⟨g, 0, none⟩ : Addr) = some ⟨g', 0, none⟩ → 0 < l.length → ∃ cur : Array Value, (wr.setCell ⟨g, m, none⟩ v).heap[g']? = some (.cells cur 5 (0, 0)) ∧ l.length ≤ cur.size ∧ ∀ j, m + 1 ≤ j → j < l.length → ∃ z : Int, cur[j]? = some (.int .u8 z) ∧ 0 ≤ z ∧ z ≤ 255) := by
        intro v g' hg' hpos
        simp only [Option.some.injEq, Addr.mk.injEq, and_true] at hg'
        subst hg'
        refine ⟨_, set_one_cell (o := m) hcur v, by simpa using hcs, fun j h1 h2 => ?_⟩
        obtain ⟨z', q1, q2⟩ := hz j (by omega) h2
        exact ⟨z', by rw [Array.getElem?_setIfInBounds_ne (by omega)]; exact q1, q2⟩
      go_wp2_with fail
      refine ⟨⟨m + 1, by omega, by go_num, HKK.out _, HCC.out _⟩, ?_⟩
      simp [intOf]
      omega
    · go_wp2_with fail
      go_end0
      exact ⟨rfl, HK.out⟩

end Go.Proofs.Ytnliokikcpnllaa
