/-
  A tree among the arguments.
-/
import Derived.Test.YtbadehbnpneepaaTrSize
import Derived.Deep.Slices
namespace Go.Proofs.Ytbadehbnpneepaa
open Go.ChangeShapes Go.WideShapes Go.ChangeAt Go.RowKit Go.Deep

theorem Try.cellsStr : Try.prog.cellsOf 9 = 1 := by kernel_rfl
theorem Try.cellsAttr : Try.prog.cellsOf 90 = 2 := by kernel_rfl
theorem Try.cellsTree : Try.prog.cellsOf 25 = 5 := by kernel_rfl
theorem Try.cellsAttrs : Try.prog.cellsOf 22 = 1 := by kernel_rfl
theorem Try.cellsTrees : Try.prog.cellsOf 23 = 1 := by kernel_rfl
theorem Try.bytesAttr : Try.prog.bytesOf 90 = 32 := by kernel_rfl
theorem Try.bytesTree : Try.prog.bytesOf 25 = 96 := by kernel_rfl

/-- Cells in a row, one by one. -/
theorem cells_get {w : World} {a : Addr} {n : Nat} {cs : List Value} (h : w.cells? 0 a n = some cs) : cs.length = n ∧ ∀ j c, cs[j]? = some c → w.cell? (a.add j) = some c := by
  simp only [World.cells?, Nat.zero_le, if_true] at h
  have key : ∀ (l : List Nat) (cs : List Value), l.mapM (fun i => w.cell? (a.add i)) = some cs → cs.length = l.length ∧ ∀ (j : Nat) (c : Value) (i : Nat), l[j]? = some i → cs[j]? = some c → w.cell? (a.add i) = some c := by
    intro l
    induction l with
    | nil =>
      intro cs h
      simp at h
      subst h
      exact ⟨rfl, fun j c i hi => by simp at hi⟩
    | cons x r ih =>
      intro cs h
      simp only [List.mapM_cons] at h
      cases hx : w.cell? (a.add x) with
      | none => simp [hx] at h
      | some c0 =>
        cases hr : r.mapM (fun i => w.cell? (a.add i)) with
        | none => simp [hx, hr] at h
        | some cr =>
          simp [hx, hr] at h
          subst h
          obtain ⟨h1, h2⟩ := ih cr hr
          refine ⟨by simp [h1], fun j c i hi hc => ?_⟩
          cases j with
          | zero => simp at hi hc; subst hi hc; exact hx
          | succ j => simp at hi hc; exact h2 j c i hi hc
  obtain ⟨h1, h2⟩ := key _ _ h
  refine ⟨by simpa using h1, fun j c hj => ?_⟩
  have hjn : j < n := by have := (List.getElem?_eq_some_iff.1 hj).1; rw [h1] at this; simpa using this
  exact h2 j c j (by simp [hjn]) hj

set_option maxRecDepth 100000 in
theorem attr_of_trod {H : Type} {enc : TypeId × Value → H} {w : World} (d : DataW H) (fuel : Nat) (cs : List Value) (pl : List MemPlace) (hwt : ∀ n ∈ d.weights Try.prog 90, n ≤ reachBytes)
    (h : DataW.trod enc Try.prog w 0 (fun _ => true) true fuel 90 cs = some (d, pl)) : ∃ a b : ByteArray, cs = [.string a, .string b] ∧ a.size ≤ 140737488351232 ∧ b.size ≤ 140737488351232 := by
  obtain ⟨xs, n, _, hx, hl, hlen, hf⟩ := DataW.trod_struct Try.underlying90 h
  match xs, hlen with
  | [y0, y1], _ =>
  rw [Try.cellsAttr] at hl
  match cs, hl with
  | [d0, d1], _ =>
  have f0 : DataW.trod enc Try.prog w 0 (fun _ => true) true n 9 (([d0, d1].drop 0).take (Try.prog.cellsOf 9)) = some y0 := hf 0 _ rfl
  rw [Try.cellsStr] at f0
  have f1 : DataW.trod enc Try.prog w 0 (fun _ => true) true n 9 (([d0, d1].drop 1).take (Try.prog.cellsOf 9)) = some y1 := hf 1 _ rfl
  rw [Try.cellsStr] at f1
  obtain ⟨t0, e0, rfl, w0⟩ := DataW.trod_string Try.underlying9 f0
  obtain ⟨t1, e1, rfl, w1⟩ := DataW.trod_string Try.underlying9 f1
  have e0' : d0 = .string t0 := by simpa using e0
  have e1' : d1 = .string t1 := by simpa using e1
  subst e0' e1'
  have hd : d = .agg [.lit (.string t0.data.toList), .lit (.string t1.data.toList)] := by
    have := congrArg Prod.fst hx
    simpa using this
  subst hd
  have ew : (DataW.agg [.lit (.string t0.data.toList), .lit (.string t1.data.toList)] : DataW H).weights Try.prog 90 = [t0.data.toList.length, t1.data.toList.length] := by
    simp [DataW.weights, Try.underlying90, DataW.weightsEach]
  rw [ew] at hwt
  have et0 : t0.data.toList.length = t0.size := by cases t0; rfl
  have et1 : t1.data.toList.length = t1.size := by cases t1; rfl
  have a0 := hwt _ (List.mem_cons_self)
  have a1 := hwt t1.data.toList.length (by simp)
  rw [et0, reach_eq] at a0
  rw [et1, reach_eq] at a1
  exact ⟨t0, t1, rfl, a0, a1⟩

set_option maxRecDepth 100000 in
theorem tree_of_trod {H : Type} {enc : TypeId × Value → H} {w : World} (k : Nat) : ∀ (d : DataW H) (fuel : Nat) (cs : List Value) (pl : List MemPlace), SizeOf.sizeOf d ≤ k → (∀ n ∈ d.weights Try.prog 25, n ≤ reachBytes) →
    DataW.trod enc Try.prog w 0 (fun _ => true) true fuel 25 cs = some (d, pl) → ∃ v : T k, LayT w k (.agg cs.toArray) v := by
  induction k with
  | zero => intro d fuel cs pl hk; exfalso; cases d <;> simp at hk
  | succ k ih =>
    intro d fuel cs pl hk hwt h
    obtain ⟨xs, n, _, hx, hl, hlen, hf⟩ := DataW.trod_struct Try.underlying25 h
    match xs, hlen with
    | [y0, y1, y2, y3, y4], _ =>
    rw [Try.cellsTree] at hl
    match cs, hl with
    | [c0, c1, c2, c3, c4], _ =>
    have f0 : DataW.trod enc Try.prog w 0 (fun _ => true) true n 9 (([c0, c1, c2, c3, c4].drop 0).take (Try.prog.cellsOf 9)) = some y0 := hf 0 _ rfl
    rw [Try.cellsStr] at f0
    have f1 : DataW.trod enc Try.prog w 0 (fun _ => true) true n 9 (([c0, c1, c2, c3, c4].drop 1).take (Try.prog.cellsOf 9)) = some y1 := hf 1 _ rfl
    rw [Try.cellsStr] at f1
    have f2 : DataW.trod enc Try.prog w 0 (fun _ => true) true n 9 (([c0, c1, c2, c3, c4].drop 2).take (Try.prog.cellsOf 9)) = some y2 := hf 2 _ rfl
    rw [Try.cellsStr] at f2
    have f3 : DataW.trod enc Try.prog w 0 (fun _ => true) true n 22 (([c0, c1, c2, c3, c4].drop 3).take (Try.prog.cellsOf 22)) = some y3 := hf 3 _ rfl
    rw [Try.cellsAttrs] at f3
    have f4 : DataW.trod enc Try.prog w 0 (fun _ => true) true n 23 (([c0, c1, c2, c3, c4].drop 4).take (Try.prog.cellsOf 23)) = some y4 := hf 4 _ rfl
    rw [Try.cellsTrees] at f4
    obtain ⟨t0, e0, rfl, w0⟩ := DataW.trod_string Try.underlying9 f0
    obtain ⟨t1, e1, rfl, w1⟩ := DataW.trod_string Try.underlying9 f1
    obtain ⟨t2, e2, rfl, w2⟩ := DataW.trod_string Try.underlying9 f2
    have e0' : c0 = .string t0 := by simpa using e0
    have e1' : c1 = .string t1 := by simpa using e1
    have e2' : c2 = .string t2 := by simpa using e2
    clear e0 e1 e2
    subst e0' e1' e2'
    have hd : d = .agg [.lit (.string t0.data.toList), .lit (.string t1.data.toList), .lit (.string t2.data.toList), y3.1, y4.1] := by
      have := congrArg Prod.fst hx
      simpa using this
    subst hd
    have ew : (DataW.agg [.lit (.string t0.data.toList), .lit (.string t1.data.toList), .lit (.string t2.data.toList), y3.1, y4.1] : DataW H).weights Try.prog 25 = [t0.data.toList.length, t1.data.toList.length, t2.data.toList.length] ++ (y3.1.weights Try.prog 22 ++ y4.1.weights Try.prog 23) := by
      simp [DataW.weights, Try.underlying25, DataW.weightsEach]
    rw [ew] at hwt
    have et0 : t0.data.toList.length = t0.size := by cases t0; rfl
    have et1 : t1.data.toList.length = t1.size := by cases t1; rfl
    have et2 : t2.data.toList.length = t2.size := by cases t2; rfl
    have a0 : t0.size ≤ 140737488351232 := by have := hwt t0.data.toList.length (List.mem_append_left _ (by simp)); rw [et0, reach_eq] at this; exact this
    have a1 : t1.size ≤ 140737488351232 := by have := hwt t1.data.toList.length (List.mem_append_left _ (by simp)); rw [et1, reach_eq] at this; exact this
    have a2 : t2.size ≤ 140737488351232 := by have := hwt t2.data.toList.length (List.mem_append_left _ (by simp)); rw [et2, reach_eq] at this; exact this
    have w3 : ∀ n ∈ y3.1.weights Try.prog 22, n ≤ 140737488351232 := fun n hn => hwt n (List.mem_append_right _ (List.mem_append_left _ hn))
    have w4 : ∀ n ∈ y4.1.weights Try.prog 23, n ≤ 140737488351232 := fun n hn => hwt n (List.mem_append_right _ (List.mem_append_right _ hn))
    have f3' : DataW.trod enc Try.prog w 0 (fun _ => true) true n 22 [c3] = some y3 := f3
    have f4' : DataW.trod enc Try.prog w 0 (fun _ => true) true n 23 [c4] = some y4 := f4
    have attrs : ∃ (aa : Option Addr) (ac : Nat) (ats : List Atr), c3 = .slice aa ats.length ac ∧ ats.length ≤ ac ∧ ac ≤ 9223372036854775807 ∧ ats.length * 32 ≤ 140737488351232 ∧ (aa = none → ats.length = 0 ∧ ac = 0) ∧ LayA w aa ats := by
      rcases open_slice Try.underlying22 f3' with ⟨h1, h2⟩ | ⟨a, len, cap, m, n', D, Pl, h1, _, hl1, hm1, hm2, h2, h3⟩
      · simp only [List.cons.injEq, and_true] at h1
        exact ⟨none, 0, [], h1, by simp, by simp, by simp, fun _ => ⟨rfl, rfl⟩, fun i s hi => by simp at hi⟩
      · simp only [List.cons.injEq, and_true] at h1
        simp only [if_true] at hm2
        subst hm2
        rw [Try.cellsAttr] at h2 h3
        have h2' : y3.1 = .slice ((List.range len).map D) ((List.range (m - len)).map fun j => D (len + j)) := by rw [h2]
        rw [h2'] at w3
        unfold maxLen at hm1
        have each : ∀ i, i < len → ∃ s : Atr, ∃ b o, some a = some (⟨b, o, none⟩ : Addr) ∧ w.cell? ⟨b, o + i * 2, none⟩ = some (.string s.1) ∧ w.cell? ⟨b, o + i * 2 + 1, none⟩ = some (.string s.2) ∧ s.1.size ≤ 140737488351232 ∧ s.2.size ≤ 140737488351232 := by
          intro i hi
          obtain ⟨cs0, q0, _⟩ := h3 0 (by omega)
          obtain ⟨z1, z2⟩ := cells_get q0
          have hs := spot_none (z2 0 _ (List.getElem?_eq_getElem (by omega)))
          have hs' : a = ⟨a.block, a.off, none⟩ := by simpa [Addr.add] using hs
          obtain ⟨cs', qq, htr⟩ := h3 i (by omega)
          obtain ⟨g1, g2⟩ := cells_get qq
          have hmem : D i ∈ (List.range len).map D := List.mem_map.2 ⟨i, List.mem_range.2 hi, rfl⟩
          obtain ⟨sa, sb, rfl, b1, b2⟩ := attr_of_trod (D i) n' cs' (Pl i) (fun x hx => by rw [reach_eq]; exact w3 x (by
            simp only [DataW.weights, Try.underlying22]
            exact List.mem_cons_of_mem _ (List.mem_append_left _ (weightsAll_mem hmem _ hx)))) htr
          have p0 := g2 0 _ rfl
          have p1 := g2 1 _ rfl
          rw [hs', add_plain, add_plain] at p0 p1
          exact ⟨(sa, sb), a.block, a.off, by rw [← hs'], by simpa using p0, by simpa using p1, b1, b2⟩
        obtain ⟨ats, hlen', hats⟩ := list_of each
        refine ⟨some a, m, ats, by rw [hlen']; exact h1, by omega, hm1, ?_, by simp, fun i u hu => hats i u hu⟩
        have := w3 _ (by simp only [DataW.weights, Try.underlying22]; exact List.mem_cons_self)
        simp only [List.length_map, List.length_range, Try.bytesAttr] at this
        omega
    have items : ∃ (ia : Option Addr) (ic : Nat) (its : List (T k)), c4 = .slice ia its.length ic ∧ its.length ≤ ic ∧ ic ≤ 9223372036854775807 ∧ its.length * 96 ≤ 140737488351232 ∧ (ia = none → its.length = 0 ∧ ic = 0) ∧ LayI w (LayT w k) ia its := by
      rcases open_slice Try.underlying23 f4' with ⟨h1, h2⟩ | ⟨a, len, cap, m, n', D, Pl, h1, _, hl1, hm1, hm2, h2, h3⟩
      · simp only [List.cons.injEq, and_true] at h1
        exact ⟨none, 0, [], h1, by simp, by simp, by simp, fun _ => ⟨rfl, rfl⟩, fun i s hi => by simp at hi⟩
      · simp only [List.cons.injEq, and_true] at h1
        simp only [if_true] at hm2
        subst hm2
        rw [Try.cellsTree] at h2 h3
        have h2' : y4.1 = .slice ((List.range len).map D) ((List.range (m - len)).map fun j => D (len + j)) := by rw [h2]
        rw [h2'] at w4 hk
        unfold maxLen at hm1
        have each : ∀ i, i < len → ∃ u : T k, ∃ b o c0 c1 c2 c3 c4, some a = some (⟨b, o, none⟩ : Addr) ∧ w.cell? ⟨b, o + i * 5, none⟩ = some c0 ∧ w.cell? ⟨b, o + i * 5 + 1, none⟩ = some c1 ∧ w.cell? ⟨b, o + i * 5 + 2, none⟩ = some c2 ∧
            w.cell? ⟨b, o + i * 5 + 3, none⟩ = some c3 ∧ w.cell? ⟨b, o + i * 5 + 4, none⟩ = some c4 ∧ LayT w k (.agg #[c0, c1, c2, c3, c4]) u := by
          intro i hi
          obtain ⟨cs0, q0, _⟩ := h3 0 (by omega)
          obtain ⟨z1, z2⟩ := cells_get q0
          have hs := spot_none (z2 0 _ (List.getElem?_eq_getElem (by omega)))
          have hs' : a = ⟨a.block, a.off, none⟩ := by simpa [Addr.add] using hs
          obtain ⟨cs', qq, htr⟩ := h3 i (by omega)
          obtain ⟨g1, g2⟩ := cells_get qq
          match cs', g1 with
          | [c0, c1, c2, c3, c4], _ =>
          have hmem : D i ∈ (List.range len).map D := List.mem_map.2 ⟨i, List.mem_range.2 hi, rfl⟩
          have hsz : SizeOf.sizeOf (D i) ≤ k := by
            have := List.sizeOf_lt_of_mem hmem
            simp at hk
            omega
          obtain ⟨u, hu⟩ := ih (D i) n' _ (Pl i) hsz (fun x hx => w4 x (by
            simp only [DataW.weights, Try.underlying23]
            exact List.mem_cons_of_mem _ (List.mem_append_left _ (weightsAll_mem hmem _ hx)))) htr
          have p0 := g2 0 _ rfl
          have p1 := g2 1 _ rfl
          have p2 := g2 2 _ rfl
          have p3 := g2 3 _ rfl
          have p4 := g2 4 _ rfl
          rw [hs', add_plain, add_plain] at p0 p1 p2 p3 p4
          exact ⟨u, a.block, a.off, c0, c1, c2, c3, c4, by rw [← hs'], by simpa using p0, by simpa using p1, by simpa using p2, by simpa using p3, by simpa using p4, hu⟩
        obtain ⟨its, hlen', hits⟩ := list_of each
        refine ⟨some a, m, its, by rw [hlen']; exact h1, by omega, hm1, ?_, by simp, fun i u hu => hits i u hu⟩
        have := w4 _ (by simp only [DataW.weights, Try.underlying23]; exact List.mem_cons_self)
        simp only [List.length_map, List.length_range, Try.bytesTree] at this
        omega
    obtain ⟨aa, ac, ats, rfl, k1, k2, k3, k4, k5⟩ := attrs
    obtain ⟨ia, ic, its, rfl, i1, i2, i3, i4, i5⟩ := items
    exact ⟨(t0, t1, t2, ats, its), aa, ac, ia, ic, rfl, ⟨a0, a1, a2, k1, k2, k3, i1, i2, i3⟩, k4, i4, k5, i5⟩

set_option maxRecDepth 100000 in
theorem tree_of_arg {H : Type} {enc : TypeId × Value → H} {w : World} {base k : Nat} {x : Value} {d : DataW H} {pl : List MemPlace} (hx : Value.okWide Try.prog w .any base 25 x) (h : DataW.Trod enc Try.prog w 0 (fun _ => true) true 25 x d pl)
    (hk : SizeOf.sizeOf d ≤ k) (hw : ∀ n ∈ d.weights Try.prog 25, n ≤ reachBytes) : ∃ v : T k, LayT w k x v := by
  obtain ⟨fuel, hf⟩ := h
  obtain ⟨v, hv⟩ := tree_of_trod k d fuel _ pl hk hw hf
  obtain ⟨cs, rfl⟩ : ∃ cs, x = .agg cs := by
    unfold Value.okWide at hx
    rw [Try.underlying25] at hx
    obtain ⟨cs, h, _⟩ := hx
    exact ⟨cs, h⟩
  exact ⟨v, by simpa [Value.cells] using hv⟩
end Go.Proofs.Ytbadehbnpneepaa
