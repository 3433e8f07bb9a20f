/-
  A value among the arguments reads as a tree; a class of worlds for statements whose order of evaluation is open.
-/
import Derived.Test.YtndclldicdfmeaaGreatVaSame
import Derived.Deep.Slices
namespace Go.Proofs.YtndclldicdfmeaaGreat
open Go.ChangeShapes Go.WideShapes Go.ChangeAt Go.RowKit Go.Deep

theorem Tryz.own : ownKnob Tryz.prog.godebug = none := by kernel_rfl
theorem Tryz.laidOut : laidOutB Tryz.prog = true := by kernel_rfl
theorem Tryz.cellsStr : Tryz.prog.cellsOf 9 = 1 := by kernel_rfl
theorem Tryz.cellsVal : Tryz.prog.cellsOf 29 = 5 := by kernel_rfl
theorem Tryz.cellsInt : Tryz.prog.cellsOf 3 = 1 := by kernel_rfl
theorem Tryz.cellsU64 : Tryz.prog.cellsOf 22 = 1 := by kernel_rfl
theorem Tryz.cellsStrs : Tryz.prog.cellsOf 26 = 1 := by kernel_rfl
theorem Tryz.cellsVals : Tryz.prog.cellsOf 27 = 1 := by kernel_rfl
theorem Tryz.bytesStr : Tryz.prog.bytesOf 9 = 16 := by kernel_rfl
theorem Tryz.bytesVal : Tryz.prog.bytesOf 29 = 80 := by kernel_rfl
theorem reach_eq : reachBytes = 140737488351232 := rfl

theorem weightsAll_mem {H : Type} {P : Program} {e : TypeId} : ∀ {l : List (DataW H)} {d : DataW H}, d ∈ l → ∀ n ∈ d.weights P e, n ∈ DataW.weightsAll P e l
  | d' :: r, d, hd, n, hn => by
    simp only [DataW.weightsAll, List.mem_append]
    rcases List.mem_cons.1 hd with rfl | h
    · exact Or.inl hn
    · exact Or.inr (weightsAll_mem h n hn)

theorem cells_five {w : World} {a : Addr} {cs : List Value} (h : w.cells? 0 a 5 = some cs) : ∃ c0 c1 c2 c3 c4, cs = [c0, c1, c2, c3, c4] ∧ w.cell? a = some c0 ∧ w.cell? (a.add 1) = some c1 ∧ w.cell? (a.add 2) = some c2 ∧ w.cell? (a.add 3) = some c3 ∧ w.cell? (a.add 4) = some c4 := by
  simp only [World.cells?, Nat.zero_le, if_true, show List.range 5 = [0, 1, 2, 3, 4] from rfl, List.mapM_cons, List.mapM_nil] at h
  cases h0 : w.cell? (a.add 0) with
  | none => simp [h0] at h
  | some c0 =>
    cases h1 : w.cell? (a.add 1) with
    | none => simp [h0, h1] at h
    | some c1 =>
      cases h2 : w.cell? (a.add 2) with
      | none => simp [h0, h1, h2] at h
      | some c2 =>
        cases h3 : w.cell? (a.add 3) with
        | none => simp [h0, h1, h2, h3] at h
        | some c3 =>
          cases h4 : w.cell? (a.add 4) with
          | none => simp [h0, h1, h2, h3, h4] at h
          | some c4 =>
            simp [h0, h1, h2, h3, h4] at h
            exact ⟨c0, c1, c2, c3, c4, h.symm, h0, rfl, rfl, rfl, rfl⟩

theorem spot_none {w : World} {a : Addr} {v : Value} (h : w.cell? a = some v) : a = ⟨a.block, a.off, none⟩ := by
  rcases a with ⟨b, o, sp⟩
  cases sp with
  | none => rfl
  | some q =>
    simp only [World.cell?] at h
    split at h
    · simp at h
    · cases h

theorem list_of {α : Type} {p : Nat → α → Prop} {n : Nat} (h : ∀ i, i < n → ∃ u, p i u) : ∃ l : List α, l.length = n ∧ ∀ i u, l[i]? = some u → p i u := by
  induction n with
  | zero => exact ⟨[], rfl, fun i u hu => by simp at hu⟩
  | succ n ih =>
    obtain ⟨l, hl, hp⟩ := ih fun i hi => h i (by omega)
    obtain ⟨x, hx⟩ := h n (by omega)
    refine ⟨l ++ [x], by simp [hl], fun i u hu => ?_⟩
    by_cases hi : i < l.length
    · rw [List.getElem?_append_left hi] at hu; exact hp i u hu
    · rw [List.getElem?_append_right (by omega)] at hu
      have : i - l.length = 0 := by
        have := (List.getElem?_eq_some_iff.1 hu).1
        simp at this
        omega
      rw [this] at hu
      simp at hu
      have e : i = n := by omega
      rw [← hu, e]
      exact hx

set_option maxRecDepth 100000 in
theorem lay_of_trod {H : Type} {enc : TypeId × Value → H} {w : World} (k : Nat) : ∀ (d : DataW H) (fuel : Nat) (cs : List Value) (pl : List MemPlace), SizeOf.sizeOf d ≤ k → (∀ n ∈ d.weights Tryz.prog 29, n ≤ reachBytes) →
    DataW.trod enc Tryz.prog w 0 (fun _ => true) true fuel 29 cs = some (d, pl) → ∃ v : V k, Lay w k (.agg cs.toArray) v := by
  induction k with
  | zero => intro d fuel cs pl hk; exfalso; cases d <;> simp at hk
  | succ k ih =>
    intro d fuel cs pl hk hwt h
    obtain ⟨xs, n, _, hx, hl, hlen, hf⟩ := DataW.trod_struct Tryz.underlying29 h
    match xs, hlen with
    | [y0, y1, y2, y3, y4], _ =>
    rw [Tryz.cellsVal] at hl
    match cs, hl with
    | [c0, c1, c2, c3, c4], _ =>
    have f0 : DataW.trod enc Tryz.prog w 0 (fun _ => true) true n 3 (([c0, c1, c2, c3, c4].drop 0).take (Tryz.prog.cellsOf 3)) = some y0 := hf 0 _ rfl
    rw [Tryz.cellsInt] at f0
    have f1 : DataW.trod enc Tryz.prog w 0 (fun _ => true) true n 22 (([c0, c1, c2, c3, c4].drop 1).take (Tryz.prog.cellsOf 22)) = some y1 := hf 1 _ rfl
    rw [Tryz.cellsU64] at f1
    have f2 : DataW.trod enc Tryz.prog w 0 (fun _ => true) true n 9 (([c0, c1, c2, c3, c4].drop 2).take (Tryz.prog.cellsOf 9)) = some y2 := hf 2 _ rfl
    rw [Tryz.cellsStr] at f2
    have f3 : DataW.trod enc Tryz.prog w 0 (fun _ => true) true n 26 (([c0, c1, c2, c3, c4].drop 3).take (Tryz.prog.cellsOf 26)) = some y3 := hf 3 _ rfl
    rw [Tryz.cellsStrs] at f3
    have f4 : DataW.trod enc Tryz.prog w 0 (fun _ => true) true n 27 (([c0, c1, c2, c3, c4].drop 4).take (Tryz.prog.cellsOf 27)) = some y4 := hf 4 _ rfl
    rw [Tryz.cellsVals] at f4
    obtain ⟨kk, e0, rfl, w0⟩ := DataW.trod_int Tryz.underlying3 f0
    obtain ⟨bb, e1, rfl, w1⟩ := DataW.trod_int Tryz.underlying22 f1
    obtain ⟨tt, e2, rfl, w2⟩ := DataW.trod_string Tryz.underlying9 f2
    have e0' : c0 = .int .i64 kk := by simpa using e0
    have e1' : c1 = .int .u64 bb := by simpa using e1
    have e2' : c2 = .string tt := by simpa using e2
    clear e0 e1 e2
    subst e0' e1' e2'
    have hd : d = .agg [.lit (.int .i64 kk), .lit (.int .u64 bb), .lit (.string tt.data.toList), y3.1, y4.1] := by
      have := congrArg Prod.fst hx
      simpa using this
    subst hd
    have ew : (DataW.agg [.lit (.int .i64 kk), .lit (.int .u64 bb), .lit (.string tt.data.toList), y3.1, y4.1] : DataW H).weights Tryz.prog 29 = [tt.data.toList.length] ++ (y3.1.weights Tryz.prog 26 ++ y4.1.weights Tryz.prog 27) := by
      simp [DataW.weights, Tryz.underlying29, DataW.weightsEach]
    rw [ew] at hwt
    have et : tt.data.toList.length = tt.size := by cases tt; rfl
    have wT : tt.size ≤ 140737488351232 := by have := hwt _ (List.mem_append_left _ (List.mem_singleton.2 rfl)); rw [et, reach_eq] at this; exact this
    have w3 : ∀ n ∈ y3.1.weights Tryz.prog 26, n ≤ 140737488351232 := fun n hn => hwt n (List.mem_append_right _ (List.mem_append_left _ hn))
    have w4 : ∀ n ∈ y4.1.weights Tryz.prog 27, n ≤ 140737488351232 := fun n hn => hwt n (List.mem_append_right _ (List.mem_append_right _ hn))
    have b0 := bounds_i64 w0
    have b1 := bounds_u64 w1
    have f3' : DataW.trod enc Tryz.prog w 0 (fun _ => true) true n 26 [c3] = some y3 := f3
    have f4' : DataW.trod enc Tryz.prog w 0 (fun _ => true) true n 27 [c4] = some y4 := f4
    have keys : ∃ (ka : Option Addr) (kc : Nat) (ks : List ByteArray), c3 = .slice ka ks.length kc ∧ ks.length ≤ kc ∧ kc ≤ 9223372036854775807 ∧ ks.length * 16 ≤ 140737488351232 ∧ (ka = none → ks.length = 0 ∧ kc = 0) ∧ LayS w ka ks := by
      rcases open_strs Tryz.underlying26 Tryz.underlying9 Tryz.cellsStr f3' with ⟨h1, h2⟩ | ⟨a, len, cap, m, Sx, h1, _, hl1, hm1, hm2, h2, h3⟩
      · simp only [List.cons.injEq, and_true] at h1
        exact ⟨none, 0, [], h1, by simp, by simp, by simp, fun _ => ⟨rfl, rfl⟩, fun i s hi => by simp at hi⟩
      · simp only [List.cons.injEq, and_true] at h1
        simp only [if_true] at hm2
        subst hm2
        rw [h2] at w3
        unfold maxLen at hm1
        refine ⟨some a, m, (List.range len).map Sx, by simpa using h1, by simpa using hl1, hm1, ?_, by simp, ?_⟩
        · have := w3 _ (by simp only [DataW.weights, Tryz.underlying26]; exact List.mem_cons_self)
          simp only [List.length_map, List.length_range, Tryz.bytesStr] at this ⊢
          omega
        · intro i s hi
          have hi' : i < len := by
            have := (List.getElem?_eq_some_iff.1 hi).1
            simpa using this
          have hs : Sx i = s := by simpa [hi'] using hi
          have hc := (h3 i (by omega)).1
          have h0 := spot_none (h3 0 (by omega)).1
          simp only [Addr.add, if_true] at h0
          rw [h0] at hc ⊢
          rw [add_plain] at hc
          refine ⟨_, _, rfl, by rw [← hs]; exact hc, ?_⟩
          have hm := w3 (Sx i).data.toList.length (by
            simp only [DataW.weights, Tryz.underlying26]
            refine List.mem_cons_of_mem _ (List.mem_append_left _ (weightsAll_mem (d := .lit (.string (Sx i).data.toList)) ?_ _ ?_))
            · exact List.mem_map.2 ⟨i, List.mem_range.2 hi', rfl⟩
            · simp [DataW.weights])
          rw [← hs]
          have e' : (Sx i).data.toList.length = (Sx i).size := by cases Sx i; rfl
          omega
    have items : ∃ (ia : Option Addr) (ic : Nat) (its : List (V k)), c4 = .slice ia its.length ic ∧ its.length ≤ ic ∧ ic ≤ 9223372036854775807 ∧ its.length * 80 ≤ 140737488351232 ∧ (ia = none → its.length = 0 ∧ ic = 0) ∧ LayI w (Lay w k) ia its := by
      rcases open_slice Tryz.underlying27 f4' with ⟨h1, h2⟩ | ⟨a, len, cap, m, n', D, Pl, h1, _, hl1, hm1, hm2, h2, h3⟩
      · simp only [List.cons.injEq, and_true] at h1
        exact ⟨none, 0, [], h1, by simp, by simp, by simp, fun _ => ⟨rfl, rfl⟩, fun i s hi => by simp at hi⟩
      · simp only [List.cons.injEq, and_true] at h1
        simp only [if_true] at hm2
        subst hm2
        rw [Tryz.cellsVal] at h2 h3
        have h2' : y4.1 = .slice ((List.range len).map D) ((List.range (m - len)).map fun j => D (len + j)) := by rw [h2]
        rw [h2'] at w4 hk
        unfold maxLen at hm1
        have each : ∀ i, i < len → ∃ u : V k, ∃ b o c0 c1 c2 c3 c4, some a = some (⟨b, o, none⟩ : Addr) ∧ w.cell? ⟨b, o + i * 5, none⟩ = some c0 ∧ w.cell? ⟨b, o + i * 5 + 1, none⟩ = some c1 ∧ w.cell? ⟨b, o + i * 5 + 2, none⟩ = some c2 ∧
            w.cell? ⟨b, o + i * 5 + 3, none⟩ = some c3 ∧ w.cell? ⟨b, o + i * 5 + 4, none⟩ = some c4 ∧ Lay w k (.agg #[c0, c1, c2, c3, c4]) u := by
          intro i hi
          obtain ⟨cs0, q0, _⟩ := h3 0 (by omega)
          obtain ⟨z0, _, _, _, _, _, p0, _⟩ := cells_five q0
          have hs := spot_none p0
          simp only [Nat.zero_mul, Addr.add, if_true] at hs
          obtain ⟨cs', q, htr⟩ := h3 i (by omega)
          obtain ⟨c0, c1, c2, c3, c4, rfl, p0, p1, p2, p3, p4⟩ := cells_five q
          have hmem : D i ∈ (List.range len).map D := List.mem_map.2 ⟨i, List.mem_range.2 hi, rfl⟩
          have hsz : SizeOf.sizeOf (D i) ≤ k := by
            have := List.sizeOf_lt_of_mem hmem
            simp at hk
            omega
          obtain ⟨u, hu⟩ := ih (D i) n' _ (Pl i) hsz (fun x hx => w4 x (by
            simp only [DataW.weights, Tryz.underlying27]
            exact List.mem_cons_of_mem _ (List.mem_append_left _ (weightsAll_mem hmem _ hx)))) htr
          rw [hs] at p0 p1 p2 p3 p4 ⊢
          rw [add_plain] at p0 p1 p2 p3 p4
          rw [add_plain] at p1 p2 p3 p4
          exact ⟨u, _, _, c0, c1, c2, c3, c4, rfl, p0, p1, p2, p3, p4, hu⟩
        obtain ⟨its, hlen', hits⟩ := list_of each
        refine ⟨some a, m, its, by rw [hlen']; exact h1, by omega, hm1, ?_, by simp, fun i u hu => hits i u hu⟩
        have := w4 _ (by simp only [DataW.weights, Tryz.underlying27]; exact List.mem_cons_self)
        simp only [List.length_map, List.length_range, Tryz.bytesVal] at this
        omega
    obtain ⟨ka, kc, ks, rfl, k1, k2, k3, k4, k5⟩ := keys
    obtain ⟨ia, ic, its, rfl, i1, i2, i3, i4, i5⟩ := items
    exact ⟨(kk, bb, tt, ks, its), ka, kc, ia, ic, rfl, ⟨by omega, by omega, wT, k1, k2, k3, i1, i2, i3⟩, k4, i4, k5, i5⟩

set_option maxRecDepth 100000 in
theorem lay_of_arg {H : Type} {enc : TypeId × Value → H} {w : World} {base k : Nat} {x : Value} {d : DataW H} {pl : List MemPlace} (hx : Value.okWide Tryz.prog w .any base 29 x) (h : DataW.Trod enc Tryz.prog w 0 (fun _ => true) true 29 x d pl)
    (hk : SizeOf.sizeOf d ≤ k) (hw : ∀ n ∈ d.weights Tryz.prog 29, n ≤ reachBytes) : ∃ v : V k, Lay w k x v := by
  obtain ⟨fuel, hf⟩ := h
  obtain ⟨v, hv⟩ := lay_of_trod k d fuel _ pl hk hw hf
  obtain ⟨cs, rfl⟩ : ∃ cs, x = .agg cs := by
    unfold Value.okWide at hx
    rw [Tryz.underlying29] at hx
    obtain ⟨cs, h, _⟩ := hx
    exact ⟨cs, h⟩
  exact ⟨v, by simpa [Value.cells] using hv⟩

/-- The worlds in which all that was there stays. -/
def Cls (w : World) : Type := { x : World // Below w.heap.size w x }

theorem wp_region_cls {P : Program} {id : Nat} {Q : Exit → Act → World → Prop} {a : Act} {w : World} {l : List Oper} (hm : P.follows .mixedOrders = true) (hB : Region.lexB .any l.toArray = true)
    (h : wpQuiet P l.toArray (fun w' => ∃ s : Cls w, w' = s.1) (fun a' => ∀ w', (∃ s : Cls w, w' = s.1) → Q .normal a' w') l a) : (Code.region id l.toArray true).wp P Q a w :=
  wp_region_quiet (C := fun w' => ∃ s : Cls w, w' = s.1) hm hB ⟨⟨_, (Below.refl _ w).drew⟩, rfl⟩ (by simpa using h)

theorem Calls.cls {P : Program} {f : FuncId} {args : Array Value} {w : World} {s : Cls w} {v : Value} (h : Calls P f args s.1 fun e w' => e = .returned v ∧ Below s.1.heap.size s.1 w') :
    Calls P f args s.1 fun e w'' => e = .returned v ∧ ∃ m : Cls w, w'' = m.1 :=
  h.mono fun _ w' ⟨he, hb⟩ => ⟨he, ⟨w', nxt s.2 hb⟩, rfl⟩

theorem Calls.cls_same {P : Program} {f : FuncId} {args : Array Value} {w : World} {s : Cls w} {v : Value} (h : Calls P f args s.1 fun e w' => e = .returned v ∧ w' = s.1) :
    Calls P f args s.1 fun e w'' => e = .returned v ∧ ∃ m : Cls w, w'' = m.1 :=
  h.mono fun _ _ ⟨he, hb⟩ => ⟨he, s, hb⟩

theorem Cls.cell {w : World} {a : Addr} {v : Value} (h : w.cell? a = some v) (s : Cls w) : s.1.cell? a = some v := keepc s.2 _ _ h
theorem Cls.lay {w : World} {n : Nat} {x : Value} {v : V n} (h : Lay w n x v) (s : Cls w) : Lay s.1 n x v := Lay.below n h s.2
end Go.Proofs.YtndclldicdfmeaaGreat
