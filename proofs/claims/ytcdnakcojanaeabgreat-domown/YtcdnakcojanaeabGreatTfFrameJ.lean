/-
  A tree among the arguments.
-/
import Derived.Test.YtcdnakcojanaeabGreatTrSize
import Derived.Deep.Slices
import Derived.Test.YtcdnakcojanaeabGreatDoTakeJ
import Derived.Laws.StructEq
import Derived.Deep.RegionHeld3
namespace Go.Proofs.YtcdnakcojanaeabGreat
open Go.ChangeShapes Go.WideShapes Go.ChangeAt Go.RowKit Go.Deep

theorem Tryz.cellsStr : Tryz.prog.cellsOf 9 = 1 := by kernel_rfl
theorem Tryz.cellsAttr : Tryz.prog.cellsOf 43 = 2 := by kernel_rfl
theorem Tryz.cellsTree : Tryz.prog.cellsOf 53 = 5 := by kernel_rfl
theorem Tryz.cellsAttrs : Tryz.prog.cellsOf 38 = 1 := by kernel_rfl
theorem Tryz.cellsTrees : Tryz.prog.cellsOf 51 = 1 := by kernel_rfl
theorem Tryz.bytesAttr : Tryz.prog.bytesOf 43 = 32 := by kernel_rfl
theorem Tryz.bytesTree : Tryz.prog.bytesOf 53 = 96 := by kernel_rfl

/-- Cells in a row, one by one. -/
theorem cells_get {w : World} {a : Addr} {n : Nat} {cs : List Value} (h : w.cells? 0 a n = some cs) : cs.length = n ∧ ∀ j c, cs[j]? = some c → w.cell? (a.add j) = some c := by
  simp only [World.cells?, Nat.zero_le, if_true] at h
  have key : ∀ (l : List Nat) (cs : List Value), l.mapM (fun i => w.cell? (a.add i)) = some cs → cs.length = l.length ∧ ∀ (j : Nat) (c : Value) (i : Nat), l[j]? = some i → cs[j]? = some c → w.cell? (a.add i) = some c := by
    intro l
    induction l with
    | nil =>
      intro cs h
      simp at h
      subst h
      exact ⟨rfl, fun j c i hi => by simp at hi⟩
    | cons x r ih =>
      intro cs h
      simp only [List.mapM_cons] at h
      cases hx : w.cell? (a.add x) with
      | none => simp [hx] at h
      | some c0 =>
        cases hr : r.mapM (fun i => w.cell? (a.add i)) with
        | none => simp [hx, hr] at h
        | some cr =>
          simp [hx, hr] at h
          subst h
          obtain ⟨h1, h2⟩ := ih cr hr
          refine ⟨by simp [h1], fun j c i hi hc => ?_⟩
          cases j with
          | zero => simp at hi hc; subst hi hc; exact hx
          | succ j => simp at hi hc; exact h2 j c i hi hc
  obtain ⟨h1, h2⟩ := key _ _ h
  refine ⟨by simpa using h1, fun j c hj => ?_⟩
  have hjn : j < n := by have := (List.getElem?_eq_some_iff.1 hj).1; rw [h1] at this; simpa using this
  exact h2 j c j (by simp [hjn]) hj

set_option maxRecDepth 100000 in
theorem attr_of_trod {H : Type} {enc : TypeId × Value → H} {w : World} (d : DataW H) (fuel : Nat) (cs : List Value) (pl : List MemPlace) (hwt : ∀ n ∈ d.weights Tryz.prog 43, n ≤ reachBytes)
    (h : DataW.trod enc Tryz.prog w 0 (fun _ => true) true fuel 43 cs = some (d, pl)) : ∃ a b : ByteArray, cs = [.string a, .string b] ∧ a.size ≤ 140737488351232 ∧ b.size ≤ 140737488351232 := by
  obtain ⟨xs, n, _, hx, hl, hlen, hf⟩ := DataW.trod_struct Tryz.underlying43 h
  match xs, hlen with
  | [y0, y1], _ =>
  rw [Tryz.cellsAttr] at hl
  match cs, hl with
  | [d0, d1], _ =>
  have f0 : DataW.trod enc Tryz.prog w 0 (fun _ => true) true n 9 (([d0, d1].drop 0).take (Tryz.prog.cellsOf 9)) = some y0 := hf 0 _ rfl
  rw [Tryz.cellsStr] at f0
  have f1 : DataW.trod enc Tryz.prog w 0 (fun _ => true) true n 9 (([d0, d1].drop 1).take (Tryz.prog.cellsOf 9)) = some y1 := hf 1 _ rfl
  rw [Tryz.cellsStr] at f1
  obtain ⟨t0, e0, rfl, w0⟩ := DataW.trod_string Tryz.underlying9 f0
  obtain ⟨t1, e1, rfl, w1⟩ := DataW.trod_string Tryz.underlying9 f1
  have e0' : d0 = .string t0 := by simpa using e0
  have e1' : d1 = .string t1 := by simpa using e1
  subst e0' e1'
  have hd : d = .agg [.lit (.string t0.data.toList), .lit (.string t1.data.toList)] := by
    have := congrArg Prod.fst hx
    simpa using this
  subst hd
  have ew : (DataW.agg [.lit (.string t0.data.toList), .lit (.string t1.data.toList)] : DataW H).weights Tryz.prog 43 = [t0.data.toList.length, t1.data.toList.length] := by
    simp [DataW.weights, Tryz.underlying43, DataW.weightsEach]
  rw [ew] at hwt
  have et0 : t0.data.toList.length = t0.size := by cases t0; rfl
  have et1 : t1.data.toList.length = t1.size := by cases t1; rfl
  have a0 := hwt _ (List.mem_cons_self)
  have a1 := hwt t1.data.toList.length (by simp)
  rw [et0, reach_eq] at a0
  rw [et1, reach_eq] at a1
  exact ⟨t0, t1, rfl, a0, a1⟩

set_option maxRecDepth 100000 in
theorem tree_of_trod {H : Type} {enc : TypeId × Value → H} {w : World} (k : Nat) : ∀ (d : DataW H) (fuel : Nat) (cs : List Value) (pl : List MemPlace), SizeOf.sizeOf d ≤ k → (∀ n ∈ d.weights Tryz.prog 53, n ≤ reachBytes) →
    DataW.trod enc Tryz.prog w 0 (fun _ => true) true fuel 53 cs = some (d, pl) → ∃ v : T k, LayT w k (.agg cs.toArray) v := by
  induction k with
  | zero => intro d fuel cs pl hk; exfalso; cases d <;> simp at hk
  | succ k ih =>
    intro d fuel cs pl hk hwt h
    obtain ⟨xs, n, _, hx, hl, hlen, hf⟩ := DataW.trod_struct Tryz.underlying53 h
    match xs, hlen with
    | [y0, y1, y2, y3, y4], _ =>
    rw [Tryz.cellsTree] at hl
    match cs, hl with
    | [c0, c1, c2, c3, c4], _ =>
    have f0 : DataW.trod enc Tryz.prog w 0 (fun _ => true) true n 9 (([c0, c1, c2, c3, c4].drop 0).take (Tryz.prog.cellsOf 9)) = some y0 := hf 0 _ rfl
    rw [Tryz.cellsStr] at f0
    have f1 : DataW.trod enc Tryz.prog w 0 (fun _ => true) true n 9 (([c0, c1, c2, c3, c4].drop 1).take (Tryz.prog.cellsOf 9)) = some y1 := hf 1 _ rfl
    rw [Tryz.cellsStr] at f1
    have f2 : DataW.trod enc Tryz.prog w 0 (fun _ => true) true n 9 (([c0, c1, c2, c3, c4].drop 2).take (Tryz.prog.cellsOf 9)) = some y2 := hf 2 _ rfl
    rw [Tryz.cellsStr] at f2
    have f3 : DataW.trod enc Tryz.prog w 0 (fun _ => true) true n 38 (([c0, c1, c2, c3, c4].drop 3).take (Tryz.prog.cellsOf 38)) = some y3 := hf 3 _ rfl
    rw [Tryz.cellsAttrs] at f3
    have f4 : DataW.trod enc Tryz.prog w 0 (fun _ => true) true n 51 (([c0, c1, c2, c3, c4].drop 4).take (Tryz.prog.cellsOf 51)) = some y4 := hf 4 _ rfl
    rw [Tryz.cellsTrees] at f4
    obtain ⟨t0, e0, rfl, w0⟩ := DataW.trod_string Tryz.underlying9 f0
    obtain ⟨t1, e1, rfl, w1⟩ := DataW.trod_string Tryz.underlying9 f1
    obtain ⟨t2, e2, rfl, w2⟩ := DataW.trod_string Tryz.underlying9 f2
    have e0' : c0 = .string t0 := by simpa using e0
    have e1' : c1 = .string t1 := by simpa using e1
    have e2' : c2 = .string t2 := by simpa using e2
    clear e0 e1 e2
    subst e0' e1' e2'
    have hd : d = .agg [.lit (.string t0.data.toList), .lit (.string t1.data.toList), .lit (.string t2.data.toList), y3.1, y4.1] := by
      have := congrArg Prod.fst hx
      simpa using this
    subst hd
    have ew : (DataW.agg [.lit (.string t0.data.toList), .lit (.string t1.data.toList), .lit (.string t2.data.toList), y3.1, y4.1] : DataW H).weights Tryz.prog 53 = [t0.data.toList.length, t1.data.toList.length, t2.data.toList.length] ++ (y3.1.weights Tryz.prog 38 ++ y4.1.weights Tryz.prog 51) := by
      simp [DataW.weights, Tryz.underlying53, DataW.weightsEach]
    rw [ew] at hwt
    have et0 : t0.data.toList.length = t0.size := by cases t0; rfl
    have et1 : t1.data.toList.length = t1.size := by cases t1; rfl
    have et2 : t2.data.toList.length = t2.size := by cases t2; rfl
    have a0 : t0.size ≤ 140737488351232 := by have := hwt t0.data.toList.length (List.mem_append_left _ (by simp)); rw [et0, reach_eq] at this; exact this
    have a1 : t1.size ≤ 140737488351232 := by have := hwt t1.data.toList.length (List.mem_append_left _ (by simp)); rw [et1, reach_eq] at this; exact this
    have a2 : t2.size ≤ 140737488351232 := by have := hwt t2.data.toList.length (List.mem_append_left _ (by simp)); rw [et2, reach_eq] at this; exact this
    have w3 : ∀ n ∈ y3.1.weights Tryz.prog 38, n ≤ 140737488351232 := fun n hn => hwt n (List.mem_append_right _ (List.mem_append_left _ hn))
    have w4 : ∀ n ∈ y4.1.weights Tryz.prog 51, n ≤ 140737488351232 := fun n hn => hwt n (List.mem_append_right _ (List.mem_append_right _ hn))
    have f3' : DataW.trod enc Tryz.prog w 0 (fun _ => true) true n 38 [c3] = some y3 := f3
    have f4' : DataW.trod enc Tryz.prog w 0 (fun _ => true) true n 51 [c4] = some y4 := f4
    have attrs : ∃ (aa : Option Addr) (ac : Nat) (ats : List Atr), c3 = .slice aa ats.length ac ∧ ats.length ≤ ac ∧ ac ≤ 9223372036854775807 ∧ ats.length * 32 ≤ 140737488351232 ∧ (aa = none → ats.length = 0 ∧ ac = 0) ∧ LayA w aa ats := by
      rcases open_slice Tryz.underlying38 f3' with ⟨h1, h2⟩ | ⟨a, len, cap, m, n', D, Pl, h1, _, hl1, hm1, hm2, h2, h3⟩
      · simp only [List.cons.injEq, and_true] at h1
        exact ⟨none, 0, [], h1, by simp, by simp, by simp, fun _ => ⟨rfl, rfl⟩, fun i s hi => by simp at hi⟩
      · simp only [List.cons.injEq, and_true] at h1
        simp only [if_true] at hm2
        subst hm2
        rw [Tryz.cellsAttr] at h2 h3
        have h2' : y3.1 = .slice ((List.range len).map D) ((List.range (m - len)).map fun j => D (len + j)) := by rw [h2]
        rw [h2'] at w3
        unfold maxLen at hm1
        have each : ∀ i, i < len → ∃ s : Atr, ∃ b o, some a = some (⟨b, o, none⟩ : Addr) ∧ w.cell? ⟨b, o + i * 2, none⟩ = some (.string s.1) ∧ w.cell? ⟨b, o + i * 2 + 1, none⟩ = some (.string s.2) ∧ s.1.size ≤ 140737488351232 ∧ s.2.size ≤ 140737488351232 := by
          intro i hi
          obtain ⟨cs0, q0, _⟩ := h3 0 (by omega)
          obtain ⟨z1, z2⟩ := cells_get q0
          have hs := spot_none (z2 0 _ (List.getElem?_eq_getElem (by omega)))
          have hs' : a = ⟨a.block, a.off, none⟩ := by simpa [Addr.add] using hs
          obtain ⟨cs', qq, htr⟩ := h3 i (by omega)
          obtain ⟨g1, g2⟩ := cells_get qq
          have hmem : D i ∈ (List.range len).map D := List.mem_map.2 ⟨i, List.mem_range.2 hi, rfl⟩
          obtain ⟨sa, sb, rfl, b1, b2⟩ := attr_of_trod (D i) n' cs' (Pl i) (fun x hx => by rw [reach_eq]; exact w3 x (by
            simp only [DataW.weights, Tryz.underlying38]
            exact List.mem_cons_of_mem _ (List.mem_append_left _ (weightsAll_mem hmem _ hx)))) htr
          have p0 := g2 0 _ rfl
          have p1 := g2 1 _ rfl
          rw [hs', add_plain, add_plain] at p0 p1
          exact ⟨(sa, sb), a.block, a.off, by rw [← hs'], by simpa using p0, by simpa using p1, b1, b2⟩
        obtain ⟨ats, hlen', hats⟩ := list_of each
        refine ⟨some a, m, ats, by rw [hlen']; exact h1, by omega, hm1, ?_, by simp, fun i u hu => hats i u hu⟩
        have := w3 _ (by simp only [DataW.weights, Tryz.underlying38]; exact List.mem_cons_self)
        simp only [List.length_map, List.length_range, Tryz.bytesAttr] at this
        omega
    have items : ∃ (ia : Option Addr) (ic : Nat) (its : List (T k)), c4 = .slice ia its.length ic ∧ its.length ≤ ic ∧ ic ≤ 9223372036854775807 ∧ its.length * 96 ≤ 140737488351232 ∧ (ia = none → its.length = 0 ∧ ic = 0) ∧ LayI w (LayT w k) ia its := by
      rcases open_slice Tryz.underlying51 f4' with ⟨h1, h2⟩ | ⟨a, len, cap, m, n', D, Pl, h1, _, hl1, hm1, hm2, h2, h3⟩
      · simp only [List.cons.injEq, and_true] at h1
        exact ⟨none, 0, [], h1, by simp, by simp, by simp, fun _ => ⟨rfl, rfl⟩, fun i s hi => by simp at hi⟩
      · simp only [List.cons.injEq, and_true] at h1
        simp only [if_true] at hm2
        subst hm2
        rw [Tryz.cellsTree] at h2 h3
        have h2' : y4.1 = .slice ((List.range len).map D) ((List.range (m - len)).map fun j => D (len + j)) := by rw [h2]
        rw [h2'] at w4 hk
        unfold maxLen at hm1
        have each : ∀ i, i < len → ∃ u : T k, ∃ b o c0 c1 c2 c3 c4, some a = some (⟨b, o, none⟩ : Addr) ∧ w.cell? ⟨b, o + i * 5, none⟩ = some c0 ∧ w.cell? ⟨b, o + i * 5 + 1, none⟩ = some c1 ∧ w.cell? ⟨b, o + i * 5 + 2, none⟩ = some c2 ∧
            w.cell? ⟨b, o + i * 5 + 3, none⟩ = some c3 ∧ w.cell? ⟨b, o + i * 5 + 4, none⟩ = some c4 ∧ LayT w k (.agg #[c0, c1, c2, c3, c4]) u := by
          intro i hi
          obtain ⟨cs0, q0, _⟩ := h3 0 (by omega)
          obtain ⟨z1, z2⟩ := cells_get q0
          have hs := spot_none (z2 0 _ (List.getElem?_eq_getElem (by omega)))
          have hs' : a = ⟨a.block, a.off, none⟩ := by simpa [Addr.add] using hs
          obtain ⟨cs', qq, htr⟩ := h3 i (by omega)
          obtain ⟨g1, g2⟩ := cells_get qq
          match cs', g1 with
          | [c0, c1, c2, c3, c4], _ =>
          have hmem : D i ∈ (List.range len).map D := List.mem_map.2 ⟨i, List.mem_range.2 hi, rfl⟩
          have hsz : SizeOf.sizeOf (D i) ≤ k := by
            have := List.sizeOf_lt_of_mem hmem
            simp at hk
            omega
          obtain ⟨u, hu⟩ := ih (D i) n' _ (Pl i) hsz (fun x hx => w4 x (by
            simp only [DataW.weights, Tryz.underlying51]
            exact List.mem_cons_of_mem _ (List.mem_append_left _ (weightsAll_mem hmem _ hx)))) htr
          have p0 := g2 0 _ rfl
          have p1 := g2 1 _ rfl
          have p2 := g2 2 _ rfl
          have p3 := g2 3 _ rfl
          have p4 := g2 4 _ rfl
          rw [hs', add_plain, add_plain] at p0 p1 p2 p3 p4
          exact ⟨u, a.block, a.off, c0, c1, c2, c3, c4, by rw [← hs'], by simpa using p0, by simpa using p1, by simpa using p2, by simpa using p3, by simpa using p4, hu⟩
        obtain ⟨its, hlen', hits⟩ := list_of each
        refine ⟨some a, m, its, by rw [hlen']; exact h1, by omega, hm1, ?_, by simp, fun i u hu => hits i u hu⟩
        have := w4 _ (by simp only [DataW.weights, Tryz.underlying51]; exact List.mem_cons_self)
        simp only [List.length_map, List.length_range, Tryz.bytesTree] at this
        omega
    obtain ⟨aa, ac, ats, rfl, k1, k2, k3, k4, k5⟩ := attrs
    obtain ⟨ia, ic, its, rfl, i1, i2, i3, i4, i5⟩ := items
    exact ⟨(t0, t1, t2, ats, its), aa, ac, ia, ic, rfl, ⟨a0, a1, a2, k1, k2, k3, i1, i2, i3⟩, k4, i4, k5, i5⟩

set_option maxRecDepth 100000 in
theorem tree_of_arg {H : Type} {enc : TypeId × Value → H} {w : World} {base k : Nat} {x : Value} {d : DataW H} {pl : List MemPlace} (hx : Value.okWide Tryz.prog w .any base 53 x) (h : DataW.Trod enc Tryz.prog w 0 (fun _ => true) true 53 x d pl)
    (hk : SizeOf.sizeOf d ≤ k) (hw : ∀ n ∈ d.weights Tryz.prog 53, n ≤ reachBytes) : ∃ v : T k, LayT w k x v := by
  obtain ⟨fuel, hf⟩ := h
  obtain ⟨v, hv⟩ := tree_of_trod k d fuel _ pl hk hw hf
  obtain ⟨cs, rfl⟩ : ∃ cs, x = .agg cs := by
    unfold Value.okWide at hx
    rw [Tryz.underlying53] at hx
    obtain ⟨cs, h, _⟩ := hx
    exact ⟨cs, h⟩
  exact ⟨v, by simpa [Value.cells] using hv⟩
end Go.Proofs.YtcdnakcojanaeabGreat

/-
  CopyTree: whatever tree it is handed, what it answers reads as the same tree, in new memory of its own; nothing that was there has turned. (Printed by wip/make/mktrcopy.py.)
-/
namespace Go.Proofs.YtcdnakcojanaeabGreat
open Go.ChangeShapes Go.WideShapes Go.ChangeAt Go.RowKit

theorem Tryz.infoAttr : (Tryz.prog.info? 43).map (fun i => (i.zero, i.size, i.bytes)) = some (some (.agg #[.string ⟨#[]⟩, .string ⟨#[]⟩]), 2, 32) := by kernel_rfl
theorem Tryz.infoTree : (Tryz.prog.info? 53).map (fun i => (i.zero, i.size, i.bytes)) = some (some (mkT ⟨#[]⟩ ⟨#[]⟩ ⟨#[]⟩ none 0 0 none 0 0), 5, 96) := by kernel_rfl

theorem getElem?_five {xs : List Value} {c0 c1 c2 c3 c4 : Value} {m : Nat} (h : xs.length = m * 5) :
    (xs ++ [c0, c1, c2, c3, c4])[m * 5]? = some c0 ∧ (xs ++ [c0, c1, c2, c3, c4])[m * 5 + 1]? = some c1 ∧ (xs ++ [c0, c1, c2, c3, c4])[m * 5 + 2]? = some c2 ∧ (xs ++ [c0, c1, c2, c3, c4])[m * 5 + 3]? = some c3 ∧
      (xs ++ [c0, c1, c2, c3, c4])[m * 5 + 4]? = some c4 := by
  refine ⟨?_, ?_, ?_, ?_, ?_⟩
  all_goals
    rw [List.getElem?_append_right (by omega)]
    simp [h]

theorem copy_step {w1 w2 wr : World} {n m B : Nat} {its : List (T n)} {xs : List Value} {G : Nat → Nat → Prop} {v v' : Value} {u : T n} {c0 c1 c2 c3 c4 : Value} {F : Nat → Prop} {o : Obj}
    (hm : its[m]? = some u) (hlen : xs.length = m * 5) (HX : Items (OwnT wr n) its m xs G) (HG : ∀ i b, i < m → G i b → B ≤ b ∧ b < wr.heap.size ∧ v.ownBlock ≠ some b)
    (HD : ∀ i j b, i < m → j < m → G i b → G j b → i = j) (hvb : ∀ g, v.ownBlock = some g → g < wr.heap.size)
    (ho : OwnT w1 n (.agg #[c0, c1, c2, c3, c4]) u F) (hF : ∀ b, F b → wr.heap.size ≤ b ∧ b < w1.heap.size) (hB : B ≤ wr.heap.size) (hb : Below wr.heap.size wr w1)
    (hg : (w1.alloc o).grownBy w2 v.ownBlock) (hv' : v'.ownBlock = v.ownBlock ∨ ∀ g, v'.ownBlock = some g → w1.heap.size + 1 ≤ g) :
    ∃ G', Items (OwnT w2 n) its (m + 1) (xs ++ [c0, c1, c2, c3, c4]) G' ∧ (∀ i b, i < m + 1 → G' i b → B ≤ b ∧ b < w2.heap.size ∧ v'.ownBlock ≠ some b) ∧ (∀ i j b, i < m + 1 → j < m + 1 → G' i b → G' j b → i = j) ∧
      (∀ j, j < wr.heap.size → v.ownBlock ≠ some j → w2.heap[j]? = wr.heap[j]?) ∧ wr.heap.size ≤ w2.heap.size ∧ Below wr.heap.size wr (w1.alloc o) := by
  have hs1 := hb.size
  have hs2 : w1.heap.size + 1 ≤ w2.heap.size := by have := hg.size; simpa using this
  have keep1 : ∀ j, j < w1.heap.size → v.ownBlock ≠ some j → w2.heap[j]? = w1.heap[j]? := fun j hj hne => by
    rw [hg.block j (by simp; omega) (fun e => hne e.symm)]
    exact Below.heap_alloc _ _ _ hj
  have keep : ∀ j, j < wr.heap.size → v.ownBlock ≠ some j → w2.heap[j]? = wr.heap[j]? := fun j hj hne => by
    rw [keep1 j (by omega) hne]
    exact hb.block j hj
  have q := getElem?_five (c0 := c0) (c1 := c1) (c2 := c2) (c3 := c3) (c4 := c4) hlen
  refine ⟨fun i b => if i = m then F b else G i b, ?_, ?_, ?_, keep, by omega, hb.alloc (by omega) _⟩
  · intro i u' hi hu'
    by_cases him : i = m
    · subst him
      rw [hm] at hu'
      cases hu'
      refine ⟨c0, c1, c2, c3, c4, q.1, q.2.1, q.2.2.1, q.2.2.2.1, q.2.2.2.2, ?_⟩
      simp only [if_true]
      exact ho.same n fun b hbF => keep1 b (hF b hbF).2 (fun e => by have := hvb b e; have := (hF b hbF).1; omega)
    · obtain ⟨d0, d1, d2, d3, d4, e0, e1, e2, e3, e4, hO⟩ := HX i u' (by omega) hu'
      refine ⟨d0, d1, d2, d3, d4, ?_, ?_, ?_, ?_, ?_, ?_⟩
      · rw [List.getElem?_append_left (by omega)]; exact e0
      · rw [List.getElem?_append_left (by omega)]; exact e1
      · rw [List.getElem?_append_left (by omega)]; exact e2
      · rw [List.getElem?_append_left (by omega)]; exact e3
      · rw [List.getElem?_append_left (by omega)]; exact e4
      · simp only [him, if_false]
        exact hO.same n fun b hbG => keep b (HG i b (by omega) hbG).2.1 (HG i b (by omega) hbG).2.2
  · intro i b hi hGi
    by_cases him : i = m
    · simp only [him, if_true] at hGi
      have := hF b hGi
      refine ⟨by omega, by omega, fun e => ?_⟩
      rcases hv' with hv' | hv'
      · have := hvb b (by rw [← hv']; exact e); omega
      · have := hv' b e; omega
    · simp only [him, if_false] at hGi
      have := HG i b (by omega) hGi
      refine ⟨by omega, by omega, fun e => ?_⟩
      rcases hv' with hv' | hv'
      · exact this.2.2 (by rw [← hv']; exact e)
      · have := hv' b e; omega
  · intro i j b hi hj hGi hGj
    by_cases him : i = m <;> by_cases hjm : j = m
    · omega
    · simp only [him, if_true] at hGi
      simp only [hjm, if_false] at hGj
      have := hF b hGi
      have := HG j b (by omega) hGj
      omega
    · simp only [him, if_false] at hGi
      simp only [hjm, if_true] at hGj
      have := hF b hGj
      have := HG i b (by omega) hGi
      omega
    · simp only [him, if_false] at hGi
      simp only [hjm, if_false] at hGj
      exact HD i j b (by omega) (by omega) hGi hGj

theorem copy_done {wr w2 w' : World} {n B : Nat} {k b t : ByteArray} {ks : List Atr} {its : List (T n)} {kc ic kc' ic' : Nat} {ka' ia' : Option Addr} {xs : List Value} {G : Nat → Nat → Prop}
    (hfit : FitT k b t ks.length kc its.length ic) (hB : B ≤ wr.heap.size) (hI : wr.ownsRow B 53 5 (.slice ia' its.length ic') its.length xs)
    (hka : ∀ g, (Value.slice ka' ks.length kc').ownBlock = some g → wr.heap.size ≤ g) (hK : w2.ownsRow wr.heap.size 43 2 (.slice ka' ks.length kc') ks.length (cellsA ks))
    (HX : Items (OwnT wr n) its its.length xs G) (HG : ∀ i b, i < its.length → G i b → B ≤ b ∧ b < wr.heap.size ∧ (Value.slice ia' its.length ic').ownBlock ≠ some b)
    (HD : ∀ i j b, i < its.length → j < its.length → G i b → G j b → i = j) (hs : ∀ s ∈ ks, s.1.size ≤ 140737488351232 ∧ s.2.size ≤ 140737488351232)
    (h12 : ∀ j, j < wr.heap.size → w2.heap[j]? = wr.heap[j]?) (h2 : ∀ j, B ≤ j → w'.heap[j]? = w2.heap[j]?) :
    OwnT w' (n + 1) (mkT k b t ka' ks.length kc' ia' its.length ic') (k, b, t, ks, its) (fun g => B ≤ g ∧ g < w2.heap.size) := by
  obtain ⟨h_k, h_b, h_t, hkl, hkc, hkr, hil, hic, hir⟩ := hfit
  have hs12 : wr.heap.size ≤ w2.heap.size := by
    by_cases h0 : wr.heap.size = 0
    · omega
    · have := h12 (wr.heap.size - 1) (by omega)
      have h1 : wr.heap[wr.heap.size - 1]? = some wr.heap[wr.heap.size - 1] := by simp
      rw [h1] at this
      have := lt_of_block this
      omega
  have cK := cap_of_own hK
  have cI := cap_of_own hI
  refine ⟨ka', kc', ia', ic', xs, G, rfl, ⟨h_k, h_b, h_t, cK.1, cK.2, hkr, cI.1, cI.2, hir⟩, hs, ?_, ?_, ?_, ?_, ?_, ?_, HD⟩
  · refine ownsRow_same (w := w2) (ownsRow_base0 hK) fun g hg => h2 g ?_
    have := hka g hg
    omega
  · refine ownsRow_same (w := wr) (ownsRow_base0 hI) fun g hg => ?_
    have := hI.lt g hg
    rw [h2 g (by omega), h12 g (by omega)]
  · intro g hg
    have := hka g hg
    have := hK.lt g hg
    exact ⟨by omega, by omega⟩
  · intro g hg
    have := hI.lt g hg
    exact ⟨by omega, by omega⟩
  · intro i u hi hu
    obtain ⟨c0, c1, c2, c3, c4, e0, e1, e2, e3, e4, ho⟩ := HX i u hi hu
    refine ⟨c0, c1, c2, c3, c4, e0, e1, e2, e3, e4, ho.same n fun g hg => ?_⟩
    have := HG i g hi hg
    rw [h2 g (by omega), h12 g (by omega)]
  · intro i g hi hg
    have := HG i g hi hg
    exact ⟨⟨by omega, by omega⟩, fun e => by have := hka g e; omega, this.2.2⟩

end Go.Proofs.YtcdnakcojanaeabGreat

/-
  The tree of a display, as mathematics.
-/
namespace Go.Proofs.YtcdnakcojanaeabGreat
open Go.ChangeShapes Go.WideShapes Go.ChangeAt Go.RowKit Go.Deep
open Do

namespace Do
/-- All of them, or none. -/
def allO {α : Type} : List (Option α) → Option (List α)
  | [] => some []
  | none :: _ => none
  | some a :: r => match allO r with
    | none => none
    | some l => some (a :: l)

/-- The tree of a number's node, of at most k levels. -/
def trO (ns : List Nd) : (k : Nat) → Int → Option (T k)
  | 0, _ => none
  | k + 1, x => match nd ns x with
    | none => none
    | some n => match allO (n.kids.map (trO ns k)) with
      | none => none
      | some its => some (n.tag, n.key, n.txt, n.ats, its)

theorem allO_snoc {α : Type} : ∀ (l : List (Option α)) (a : Option α), allO (l ++ [a]) = match allO l, a with
    | some r, some y => some (r ++ [y])
    | _, _ => none
  | [], none => rfl
  | [], some _ => rfl
  | none :: _, _ => rfl
  | some b :: r, a => by
    have ih := allO_snoc r a
    simp only [List.cons_append, allO, ih]
    cases allO r with
    | none => rfl
    | some l => cases a <;> rfl

theorem allO_none {α : Type} : ∀ {l : List (Option α)}, none ∈ l → allO l = none
  | none :: _, _ => rfl
  | some b :: r, h => by
    have : none ∈ r := by simpa using h
    simp only [allO, allO_none this]

theorem allO_length {α : Type} : ∀ {l : List (Option α)} {r : List α}, allO l = some r → r.length = l.length
  | [], r, h => by simp [allO] at h; subst h; rfl
  | none :: _, r, h => by simp [allO] at h
  | some b :: l, r, h => by
    simp only [allO] at h
    cases e : allO l with
    | none => rw [e] at h; cases h
    | some q =>
      rw [e] at h
      simp only [Option.some.injEq] at h
      subst h
      simp [allO_length e]

theorem trO_node {ns : List Nd} {k : Nat} {x : Int} {n : Nd} (h : nd ns x = some n) : trO ns (k + 1) x = match allO (n.kids.map (trO ns k)) with
      | none => none
      | some its => some (n.tag, n.key, n.txt, n.ats, its) := by
  simp only [trO, h]

/-- What Tree answers. -/
def treeD (s : Ds) : Int × Option (T 8) := if okD s = true then (if s.root = 0 then (71, none) else match trO s.nodes 8 s.root with
    | none => (10, none)
    | some t => (0, some t)) else (9, none)
end Do
end Go.Proofs.YtcdnakcojanaeabGreat

/-
  The program's treeOf and Tree: the tree of a display, in memory of its own.
-/
namespace Go.Proofs.YtcdnakcojanaeabGreat
open Go.ChangeShapes Go.WideShapes Go.ChangeAt Go.RowKit Go.Deep
open Do

/-- No tree. -/
abbrev zT : Value := mkT ⟨#[]⟩ ⟨#[]⟩ ⟨#[]⟩ none 0 0 none 0 0

/-- A tree is answered, or none and an error. -/
def TrPost (k : Nat) (w w' : World) (e : Ending) (er : Int) (o : Option (T k)) : Prop := match o with
  | none => e = .returned (.tuple #[zT, .int .i64 er]) ∧ Below w.heap.size w w'
  | some t => ∃ y F, e = .returned (.tuple #[y, .int .i64 0]) ∧ OwnT w' k y t F ∧ (∀ b, F b → w.heap.size ≤ b ∧ b < w'.heap.size) ∧ Below w.heap.size w w'

theorem five {w : World} {B : Nat} {c0 c1 c2 c3 c4 : Value} {t : TypeId} (h : w.heap[B]? = some (.cells #[c0, c1, c2, c3, c4] t (0, 0))) :
    (w.cell? ⟨B, 0, none⟩ = some c0 ∧ w.cell? ⟨B, 1, none⟩ = some c1 ∧ w.cell? ⟨B, 2, none⟩ = some c2 ∧ w.cell? ⟨B, 3, none⟩ = some c3 ∧ w.cell? ⟨B, 4, none⟩ = some c4) ∧ ∀ j, w.frozen? ⟨B, j, none⟩ = false :=
  ⟨⟨(cell_of h 0).1, (cell_of h 1).1, (cell_of h 2).1, (cell_of h 3).1, (cell_of h 4).1⟩, fun j => (cell_of h j).2⟩

/-- The five cells of a tree's variable are set. -/
theorem tree_fin {W : World} {R : Nat} {z0 z1 z2 z3 z4 c0 c1 c2 c3 c4 : Value} {t : TypeId} (h : W.heap[R]? = some (.cells #[z0, z1, z2, z3, z4] t (0, 0))) :
    (((((W.setCell ⟨R, 0, none⟩ c0).setCell ⟨R, 1, none⟩ c1).setCell ⟨R, 2, none⟩ c2).setCell ⟨R, 3, none⟩ c3).setCell ⟨R, 4, none⟩ c4).heap[R]? = some (.cells #[c0, c1, c2, c3, c4] t (0, 0)) ∧
      (∀ b, b ≠ R → (((((W.setCell ⟨R, 0, none⟩ c0).setCell ⟨R, 1, none⟩ c1).setCell ⟨R, 2, none⟩ c2).setCell ⟨R, 3, none⟩ c3).setCell ⟨R, 4, none⟩ c4).heap[b]? = W.heap[b]?) ∧
      (∀ B w, B ≤ R → Below B w W → Below B w (((((W.setCell ⟨R, 0, none⟩ c0).setCell ⟨R, 1, none⟩ c1).setCell ⟨R, 2, none⟩ c2).setCell ⟨R, 3, none⟩ c3).setCell ⟨R, 4, none⟩ c4)) ∧
      (((((W.setCell ⟨R, 0, none⟩ c0).setCell ⟨R, 1, none⟩ c1).setCell ⟨R, 2, none⟩ c2).setCell ⟨R, 3, none⟩ c3).setCell ⟨R, 4, none⟩ c4).heap.size = W.heap.size := by
  have keep : ∀ b, b ≠ R → (((((W.setCell ⟨R, 0, none⟩ c0).setCell ⟨R, 1, none⟩ c1).setCell ⟨R, 2, none⟩ c2).setCell ⟨R, 3, none⟩ c3).setCell ⟨R, 4, none⟩ c4).heap[b]? = W.heap[b]? := fun b hb => (heap_set_other _ hb).trans ((heap_set_other _ hb).trans ((heap_set_other _ hb).trans ((heap_set_other _ hb).trans (heap_set_other _ hb))))
  refine ⟨?_, keep, fun B w hB hb => ⟨by simpa [World.setCell] using hb.os, by simpa [World.setCell] using hb.tape, by simpa [World.setCell] using hb.output, by have := hb.size; simpa [World.setCell] using this, fun j hj => (keep j (by omega)).trans (hb.block j hj)⟩, by simp [World.setCell]⟩
  rw [set_one_cell (set_one_cell (set_one_cell (set_one_cell (set_one_cell h _) _) _) _) _]
  simp

/-- What the loop over kids keeps. -/
structure TrI (k : Nat) (ns : List Nd) (n : Nd) (w wr : World) (B g9 : Nat) (av : Value) (m : Nat) (its : List (T k)) (xs : List Value) (G : Nat → Nat → Prop) (ra : Option Addr) (rc : Nat) : Prop where
  it : allO ((n.kids.take m).map (trO ns k)) = some its
  box : wr.heap[g9]? = some (.cells #[.string n.tag, .string n.key, .string n.txt, av, .slice ra m rc] 53 (0, 0))
  row : wr.ownsRow B 53 5 (.slice ra m rc) m xs
  items : Items (OwnT wr k) its m xs G
  lt : ∀ i b, i < m → G i b → B ≤ b ∧ b < wr.heap.size ∧ (Value.slice ra m rc).ownBlock ≠ some b
  apart : ∀ i j b, i < m → j < m → G i b → G j b → i = j
  ats : OwnA wr (w.heap.size + 1) av n.ats
  res : wr.heap[w.heap.size]? = some (.cells #[.string ⟨#[]⟩, .string ⟨#[]⟩, .string ⟨#[]⟩, .slice none 0 0, .slice none 0 0] 53 (0, 0))
  bel : Below w.heap.size w wr
  atb : ∀ b, av.ownBlock = some b → b < B
  order : w.heap.size < g9 ∧ g9 < B ∧ B ≤ wr.heap.size

theorem TrI.below {k : Nat} {ns : List Nd} {n : Nd} {w wr w' : World} {B g9 : Nat} {av : Value} {m : Nat} {its : List (T k)} {xs : List Value} {G : Nat → Nat → Prop} {ra : Option Addr} {rc : Nat} (h : TrI k ns n w wr B g9 av m its xs G ra rc) (hb : Below wr.heap.size wr w') : TrI k ns n w w' B g9 av m its xs G ra rc := by
  refine ⟨h.it, (hb.block _ (lt_of_block h.box)).trans h.box, ownsRow_same h.row fun g hg => hb.block g (h.row.lt g hg).2, ?_, fun i b hi hG => ⟨(h.lt i b hi hG).1, Nat.lt_of_lt_of_le (h.lt i b hi hG).2.1 hb.size, (h.lt i b hi hG).2.2⟩, h.apart, h.ats.below hb, (hb.block _ (lt_of_block h.res)).trans h.res, nxt h.bel hb, h.atb, h.order.1, h.order.2.1, Nat.le_trans h.order.2.2 hb.size⟩
  intro i u hi hu
  obtain ⟨c0, c1, c2, c3, c4, e0, e1, e2, e3, e4, ho⟩ := h.items i u hi hu
  exact ⟨c0, c1, c2, c3, c4, e0, e1, e2, e3, e4, ho.same k fun b hb' => hb.block b (h.lt i b hi hb').2.1⟩

/-- One kid more. -/
theorem TrI.push {k : Nat} {ns : List Nd} {n : Nd} {w wr w1 w2 : World} {B g9 : Nat} {av : Value} {m : Nat} {its : List (T k)} {xs : List Value} {G : Nat → Nat → Prop} {ra : Option Addr} {rc : Nat} (h : TrI k ns n w wr B g9 av m its xs G ra rc) {x : Int} (hx : n.kids[m]? = some x) {u : T k} (hu : trO ns k x = some u)
    {c0 c1 c2 c3 c4 : Value} {F : Nat → Prop} {o o' : Obj} (ho : OwnT w1 k (.agg #[c0, c1, c2, c3, c4]) u F) (hF : ∀ b, F b → wr.heap.size ≤ b ∧ b < w1.heap.size) (hb : Below wr.heap.size wr w1) {v' : Value}
    (hr : w2.ownsRow B 53 5 v' (m + 1) (xs ++ [c0, c1, c2, c3, c4])) (hg : ((w1.alloc o').alloc o).grownBy w2 (Value.slice ra m rc).ownBlock) (hv' : v'.ownBlock = (Value.slice ra m rc).ownBlock ∨ ∀ g, v'.ownBlock = some g → (w1.alloc o').heap.size + 1 ≤ g) :
    ∃ ra' rc', v' = .slice ra' (m + 1) rc' ∧ (∃ z, w2.cell? ⟨g9, 4, none⟩ = some z) ∧ w2.frozen? ⟨g9, 4, none⟩ = false ∧ ∃ G', TrI k ns n w (w2.setCell ⟨g9, 4, none⟩ v') B g9 av (m + 1) (its ++ [u]) (xs ++ [c0, c1, c2, c3, c4]) G' ra' rc' := by
  obtain ⟨ra', rc', hv⟩ := slice_of_own hr
  subst hv
  have hlen := allO_length h.it
  have hml : m < n.kids.length := (List.getElem?_eq_some_iff.1 hx).1
  have hil : its.length = m := by rw [hlen]; simp; omega
  have hord := h.order
  have hb' : Below wr.heap.size wr (w1.alloc o') := nxt hb (below_one _ _)
  have hits : (its ++ [u])[m]? = some u := by rw [List.getElem?_append_right (by omega), hil]; simp
  have hX : Items (OwnT wr k) (its ++ [u]) m xs G := fun i y hi hy => h.items i y hi (by rwa [List.getElem?_append_left (by omega)] at hy)
  obtain ⟨G', hX', hG', hD', hkeep, hsz, -⟩ := copy_step (B := B) hits h.row.1 hX h.lt h.apart (fun g hg => (h.row.lt g hg).2) (ho.same k fun b hb0 => (below_one w1 o').block b (hF b hb0).2) (fun b hb0 => ⟨(hF b hb0).1, Nat.lt_of_lt_of_le (hF b hb0).2 (below_one w1 o').size⟩) hord.2.2 hb' hg hv'
  have rowne : (Value.slice ra m rc).ownBlock ≠ some g9 := fun e => by have := (h.row.lt g9 e).1; omega
  have box2 : w2.heap[g9]? = _ := (hkeep g9 (lt_of_block h.box) rowne).trans h.box
  obtain ⟨⟨-, -, -, -, q4⟩, qf⟩ := five box2
  refine ⟨ra', rc', rfl, ⟨_, q4⟩, qf 4, G', ?_⟩
  have sset : ∀ b, b ≠ g9 → (w2.setCell ⟨g9, 4, none⟩ (.slice ra' (m + 1) rc')).heap[b]? = w2.heap[b]? := fun b hb0 => heap_set_other _ hb0
  have ssz : (w2.setCell ⟨g9, 4, none⟩ (.slice ra' (m + 1) rc')).heap.size = w2.heap.size := by simp [World.setCell]
  refine ⟨?_, ?_, ?_, ?_, ?_, hD', ?_, ?_, ?_, h.atb, hord.1, hord.2.1, by rw [ssz]; omega⟩
  · rw [List.take_add_one, hx, List.map_append, Option.toList_some, List.map_cons, List.map_nil, allO_snoc, h.it, hu]
  · rw [set_one_cell box2]
    simp
  · exact ownsRow_same hr fun g hg0 => sset g (by have := (hr.lt g hg0).1; omega)
  · intro i y hi hy
    obtain ⟨d0, d1, d2, d3, d4, e0, e1, e2, e3, e4, hO⟩ := hX' i y hi hy
    exact ⟨d0, d1, d2, d3, d4, e0, e1, e2, e3, e4, hO.same k fun b hb0 => sset b (by have := (hG' i b hi hb0).1; omega)⟩
  · intro i b hi hGi
    have := hG' i b hi hGi
    exact ⟨this.1, by rw [ssz]; exact this.2.1, this.2.2⟩
  · refine h.ats.same fun b hb0 => ?_
    have h1 := h.atb b hb0
    rw [sset b ?_, hkeep b (by omega) (fun e => by have := (h.row.lt b e).1; omega)]
    rintro rfl
    obtain ⟨cu, hc, -⟩ := h.ats.block hb0
    rw [h.box] at hc
    simp at hc
  · rw [sset _ (by omega), hkeep _ (lt_of_block h.res) (fun e => by have := (h.row.lt _ e).1; omega)]
    exact h.res
  · have hw2 : Below w.heap.size w w2 := by
      have h1 : Below w.heap.size w ((w1.alloc o').alloc o) := nxt (nxt h.bel hb') (below_one _ _)
      exact h1.grown hg (by have := h.bel.size; have := hb'.size; have := (below_one (w1.alloc o') o).size; omega) (fun g hg0 => by have := (h.row.lt g hg0).1; omega)
    exact ⟨hw2.os, hw2.tape, hw2.output, by rw [ssz]; exact hw2.size, fun j hj => (sset j (by omega)).trans (hw2.block j hj)⟩

/-- All kids are there: the tree is one's own. -/
theorem TrI.done {k : Nat} {ns : List Nd} {n : Nd} {w wr w' : World} {B g9 : Nat} {aa : Option Addr} {al ac : Nat} {m : Nat} {its : List (T k)} {xs : List Value} {G : Nat → Nat → Prop} {ra : Option Addr} {rc : Nat} (h : TrI k ns n w wr B g9 (.slice aa al ac) m its xs G ra rc) (hm : m = n.kids.length) (hf : NdFit n) (hk : n.kids.length ≤ 32) (hal : al = n.ats.length)
    (hsame : ∀ b, w.heap.size < b → w'.heap[b]? = wr.heap[b]?) (hsz : w'.heap.size = wr.heap.size) : OwnT w' (k + 1) (mkT n.tag n.key n.txt aa al ac ra m rc) (n.tag, n.key, n.txt, n.ats, its) (fun b => w.heap.size ≤ b ∧ b < w'.heap.size) := by
  subst hal
  have hil : its.length = m := by have := allO_length h.it; rw [this]; simp; omega
  subst hil
  have hord := h.order
  have cA := cap_of_own h.ats
  have cI := cap_of_own h.row
  refine ⟨aa, ac, ra, rc, xs, G, rfl, ⟨hf.node.1, hf.node.2.1, hf.node.2.2.1, cA.1, cA.2, hf.node.2.2.2.1, cI.1, cI.2, by omega⟩, hf.atr, ?_, ?_, ?_, ?_, ?_, ?_, h.apart⟩
  · exact ownsRow_same (ownsRow_base0 h.ats) fun b hb => hsame b (by have := (h.ats.lt b hb).1; omega)
  · exact ownsRow_same (ownsRow_base0 h.row) fun b hb => hsame b (by have := (h.row.lt b hb).1; omega)
  · intro b hb
    have := h.ats.lt b hb
    exact ⟨by omega, by omega⟩
  · intro b hb
    have := h.row.lt b hb
    exact ⟨by omega, by omega⟩
  · intro i u hi hu
    obtain ⟨c0, c1, c2, c3, c4, e0, e1, e2, e3, e4, ho⟩ := h.items i u hi hu
    exact ⟨c0, c1, c2, c3, c4, e0, e1, e2, e3, e4, ho.same k fun b hb => hsame b (by have := (h.lt i b hi hb).1; omega)⟩
  · intro i b hi hb
    have h1 := h.lt i b hi hb
    exact ⟨⟨by omega, by omega⟩, fun e => by have := h.atb b e; omega, h1.2.2⟩
end Go.Proofs.YtcdnakcojanaeabGreat

/-
  SameAttrs and SameTree: they answer true just for one list, one tree. (Printed by wip/make/mktrsame.py.)
-/
namespace Go.Proofs.YtcdnakcojanaeabGreat
open Go.ChangeShapes Go.WideShapes Go.ChangeAt Go.RowKit

/-- Are two things one? -/
noncomputable def one {α : Type} (a b : α) : Bool := @decide (a = b) (Classical.propDecidable _)
theorem one_iff {α : Type} {a b : α} : one a b = true ↔ a = b := by unfold one; exact @decide_eq_true_iff _ (Classical.propDecidable _)
theorem one_true {α : Type} {a b : α} (h : a = b) : one a b = true := one_iff.2 h
theorem one_false {α : Type} {a b : α} (h : a ≠ b) : one a b = false := by
  cases e : one a b with
  | false => rfl
  | true => exact absurd (one_iff.1 e) h
theorem bytes_ext {s t : ByteArray} (h : s.toList = t.toList) : s = t := by
  have e : s.data.toList = t.data.toList := by rw [← ByteArray.toList_eq, ← ByteArray.toList_eq]; exact h
  cases s; cases t
  simp only [ByteArray.mk.injEq]
  exact Array.toList_inj.1 e
theorem toList_beq_false {s t : ByteArray} (h : ¬ s = t) : (s.toList == t.toList) = false := by
  cases e : (s.toList == t.toList) with
  | false => rfl
  | true => exact absurd (bytes_ext (by simpa using e)) h
theorem take_next {α : Type} {ks ls : List α} {m : Nat} (h : ks.take m = ls.take m) (h1 : m < ks.length) (h2 : m < ls.length) (he : ks[m] = ls[m]) : ks.take (m + 1) = ls.take (m + 1) := by
  rw [List.take_succ_eq_append_getElem h1, List.take_succ_eq_append_getElem h2, h, he]
theorem take_all {α : Type} {ks ls : List α} {m : Nat} (h : ks.take m = ls.take m) (h1 : ks.length ≤ m) (h2 : ks.length = ls.length) : ks = ls := by
  rwa [List.take_of_length_le h1, List.take_of_length_le (by omega)] at h

theorem Tryz.infoStr : (Tryz.prog.info? 9).map (fun i => (i.zero, i.size, i.bytes)) = some (some (.string ⟨#[]⟩), 1, 16) := by kernel_rfl

theorem Tryz.noGuardA : Tryz.prog.eqGuardType Tryz.prog.depth 43 = false := by kernel_rfl

/-- Two attributes held against each other. -/
theorem eqA (a b c d : ByteArray) (w : World) : Sem.run Tryz.prog (Op.equalIn 10000 43 (.agg #[.string a, .string b]) (.agg #[.string c, .string d])) w = .ok (a.toList == c.toList && b.toList == d.toList) w := by
  obtain ⟨i0, hi, hz0, hz1, hz2⟩ := info_parts Tryz.infoStr
  have hs : ∀ w, Sem.run Tryz.prog (sizeOf 9) w = .ok 1 w := fun w => by simp [sizeOf, typeInfo, hi, hz1]
  have ha : ∀ w, Sem.run Tryz.prog (isAgg 9) w = .ok false w := fun w => by simp [isAgg, run_underlying Tryz.underlying9]
  have hq : ∀ (a b : ByteArray) w, Sem.run Tryz.prog (Op.equalIn 9999 9 (.string a) (.string b)) w = .ok (a.toList == b.toList) w := fun a b w => run_equalIn_string (P := Tryz.prog) w 9998 9 a b Tryz.underlying9
  rw [Op.equalIn]
  simp [run_underlying Tryz.underlying43, part, hs, ha, hq]
  by_cases h1 : a.toList = c.toList <;> by_cases h2 : b.toList = d.toList <;> simp [h1, h2]

theorem T_inj {n : Nat} {g k t g' k' t' : ByteArray} {ats ats' : List Atr} {its its' : List (T n)} (e : ((g, k, t, ats, its) : T (n + 1)) = (g', k', t', ats', its')) : g = g' ∧ k = k' ∧ t = t' ∧ ats = ats' ∧ its = its' := by
  have e' : ((g, k, t, ats, its) : ByteArray × ByteArray × ByteArray × List Atr × List (T n)) = (g', k', t', ats', its') := e
  simpa using e'

set_option maxRecDepth 100000 in
set_option maxHeartbeats 1600000 in
theorem sameA_any (ks ls : List Atr) (ka la : Option Addr) (kc lc : Nat) (w : World) (hk : LayA w ka ks) (hl : LayA w la ls) (bk : ks.length * 32 ≤ 140737488351232) (bl : ls.length * 32 ≤ 140737488351232) :
    Calls Tryz.prog 25 #[.slice ka ks.length kc, .slice la ls.length lc] w fun e w' => e = .returned (.bool (one ks ls)) ∧ Below w.heap.size w w' := by
  have HK : Hid (LayA w ka ks) := hk
  have HL : Hid (LayA w la ls) := hl
  clear hk hl
  have hng := Tryz.noGuardA
  by_cases hlen : ks.length = ls.length
  · go_enter Tryz.func25, Tryz.ntmps25
    go_wp2_with fail
    go_loopw [5] (fun i wr => ∃ m : Nat, m ≤ ks.length ∧ i = .int .i64 m ∧ Hid (ks.take m = ls.take m) ∧ Hid (Below w.heap.size w wr)) (fun i _ => ks.length - (intOf i).toNat)
    case atStart => exact ⟨0, Nat.zero_le _, rfl, by simp [Hid], Below.refl _ _⟩
    case round =>
      obtain ⟨m, hm, rfl, HT, HW⟩ := hrel
      by_cases hlt : m < ks.length
      · obtain ⟨b1, o1, rfl, q1, q1', -, -⟩ := (HK.out.below HW.out) m ks[m] (by simp [hlt])
        obtain ⟨b2, o2, rfl, q2, q2', -, -⟩ := (HL.out.below HW.out) m (ls[m]'(by omega)) (by simp)
        have hlt2 : m < ls.length := by omega
        have heq := eqA ks[m].1 ks[m].2 (ls[m]'hlt2).1 (ls[m]'hlt2).2
        by_cases he : ks[m] = ls[m]'(by omega)
        · have HE : Hid (ks[m] = ls[m]'(by omega)) := he
          have hv : (ks[m].1.toList == (ls[m]'hlt2).1.toList && ks[m].2.toList == (ls[m]'hlt2).2.toList) = true := by rw [he]; simp
          rw [hv] at heq
          clear hv he
          generalize hx : ks[m] = x at *
          generalize hy : ls[m]'hlt2 = y at *
          have HX : Hid (ks[m] = x) := hx
          have HY : Hid (ls[m]'hlt2 = y) := hy
          clear hx hy
          go_wp2_with fail
          go_quiet (fail)
          go_wp2_with fail
          go_roundw
          case rel => exact ⟨m + 1, by omega, by go_num, take_next HT.out hlt hlt2 (by rw [HX.out, HY.out]; exact HE.out), HW.out.trans (Below_drewN _ _ _)⟩
          case measure => simp [intOf]; omega
        · have HE : Hid (¬ ks[m] = ls[m]'(by omega)) := he
          have hv : (ks[m].1.toList == (ls[m]'hlt2).1.toList && ks[m].2.toList == (ls[m]'hlt2).2.toList) = false := by
            cases e1 : (ks[m].1.toList == (ls[m]'hlt2).1.toList) with
            | false => rfl
            | true =>
              cases e2 : (ks[m].2.toList == (ls[m]'hlt2).2.toList) with
              | false => rfl
              | true => exact absurd (Prod.ext (bytes_ext (by simpa using e1)) (bytes_ext (by simpa using e2))) he
          rw [hv] at heq
          clear hv he
          generalize hx : ks[m] = x at *
          generalize hy : ls[m]'hlt2 = y at *
          have HX : Hid (ks[m] = x) := hx
          have HY : Hid (ls[m]'hlt2 = y) := hy
          clear hx hy
          go_wp2_with fail
          go_quiet (fail)
          go_wp2_with fail
          go_ret
          exact ⟨ret_bool (one_false fun e => HE.out (by rw [← HX.out, ← HY.out]; subst e; rfl)).symm, HW.out.trans (Below_drewN _ _ _)⟩
      · go_wp2_with fail
        go_ret
        exact ⟨ret_bool (one_true (take_all HT.out (by omega) hlen)).symm, HW.out⟩
  · go_enter Tryz.func25, Tryz.ntmps25
    go_wp2_with fail
    go_ret
    exact ⟨ret_bool (one_false fun e => hlen (by rw [e])).symm, Below.refl _ _⟩

end Go.Proofs.YtcdnakcojanaeabGreat
