/-
  An expression among the arguments reads as a tree; the page's example.
-/
import Derived.Test.YtndclldicdfmeaaGreatExCaught
import Derived.Test.YtndclldicdfmeaaGreatExOfW
import Derived.Deep.Slices
namespace Go.Proofs.YtndclldicdfmeaaGreat.Xp
open Go.ChangeShapes Go.WideShapes Go.ChangeAt Go.RowKit Go.Deep

theorem Tryz.cellsStrX : Tryz.prog.cellsOf 9 = 1 := by kernel_rfl
theorem Tryz.cellsX : Tryz.prog.cellsOf 25 = 4 := by kernel_rfl
theorem Tryz.cellsIntX : Tryz.prog.cellsOf 3 = 1 := by kernel_rfl
theorem Tryz.cellsU64X : Tryz.prog.cellsOf 22 = 1 := by kernel_rfl
theorem Tryz.cellsXs : Tryz.prog.cellsOf 23 = 1 := by kernel_rfl
theorem Tryz.bytesX : Tryz.prog.bytesOf 25 = 56 := by kernel_rfl

theorem cells_four {w : World} {a : Addr} {cs : List Value} (h : w.cells? 0 a 4 = some cs) : ∃ c0 c1 c2 c3, cs = [c0, c1, c2, c3] ∧ w.cell? a = some c0 ∧ w.cell? (a.add 1) = some c1 ∧ w.cell? (a.add 2) = some c2 ∧ w.cell? (a.add 3) = some c3 := by
  simp only [World.cells?, Nat.zero_le, if_true, show List.range 4 = [0, 1, 2, 3] from rfl, List.mapM_cons, List.mapM_nil] at h
  cases h0 : w.cell? (a.add 0) with
  | none => simp [h0] at h
  | some c0 =>
    cases h1 : w.cell? (a.add 1) with
    | none => simp [h0, h1] at h
    | some c1 =>
      cases h2 : w.cell? (a.add 2) with
      | none => simp [h0, h1, h2] at h
      | some c2 =>
        cases h3 : w.cell? (a.add 3) with
        | none => simp [h0, h1, h2, h3] at h
        | some c3 =>
          simp [h0, h1, h2, h3] at h
          exact ⟨c0, c1, c2, c3, h.symm, h0, rfl, rfl, rfl⟩

set_option maxRecDepth 100000 in
theorem ex_of_trod {H : Type} {enc : TypeId × Value → H} {w : World} (k : Nat) : ∀ (d : DataW H) (fuel : Nat) (cs : List Value) (pl : List MemPlace), SizeOf.sizeOf d ≤ k → (∀ n ∈ d.weights Tryz.prog 25, n ≤ reachBytes) →
    DataW.trod enc Tryz.prog w 0 (fun _ => true) true fuel 25 cs = some (d, pl) → ∃ v : X k, LayX w k (.agg cs.toArray) v := by
  induction k with
  | zero => intro d fuel cs pl hk; exfalso; cases d <;> simp at hk
  | succ k ih =>
    intro d fuel cs pl hk hwt h
    obtain ⟨xs, n, _, hx, hl, hlen, hf⟩ := DataW.trod_struct Tryz.underlying25 h
    match xs, hlen with
    | [y0, y1, y2, y4], _ =>
    rw [Tryz.cellsX] at hl
    match cs, hl with
    | [c0, c1, c2, c4], _ =>
    have f0 : DataW.trod enc Tryz.prog w 0 (fun _ => true) true n 3 (([c0, c1, c2, c4].drop 0).take (Tryz.prog.cellsOf 3)) = some y0 := hf 0 _ rfl
    rw [Tryz.cellsIntX] at f0
    have f1 : DataW.trod enc Tryz.prog w 0 (fun _ => true) true n 22 (([c0, c1, c2, c4].drop 1).take (Tryz.prog.cellsOf 22)) = some y1 := hf 1 _ rfl
    rw [Tryz.cellsU64X] at f1
    have f2 : DataW.trod enc Tryz.prog w 0 (fun _ => true) true n 9 (([c0, c1, c2, c4].drop 2).take (Tryz.prog.cellsOf 9)) = some y2 := hf 2 _ rfl
    rw [Tryz.cellsStrX] at f2
    have f4 : DataW.trod enc Tryz.prog w 0 (fun _ => true) true n 23 (([c0, c1, c2, c4].drop 3).take (Tryz.prog.cellsOf 23)) = some y4 := hf 3 _ rfl
    rw [Tryz.cellsXs] at f4
    obtain ⟨kk, e0, rfl, w0⟩ := DataW.trod_int Tryz.underlying3 f0
    obtain ⟨bb, e1, rfl, w1⟩ := DataW.trod_int Tryz.underlying22 f1
    obtain ⟨tt, e2, rfl, w2⟩ := DataW.trod_string Tryz.underlying9 f2
    have e0' : c0 = .int .i64 kk := by simpa using e0
    have e1' : c1 = .int .u64 bb := by simpa using e1
    have e2' : c2 = .string tt := by simpa using e2
    clear e0 e1 e2
    subst e0' e1' e2'
    have hd : d = .agg [.lit (.int .i64 kk), .lit (.int .u64 bb), .lit (.string tt.data.toList), y4.1] := by
      have := congrArg Prod.fst hx
      simpa using this
    subst hd
    have ew : (DataW.agg [.lit (.int .i64 kk), .lit (.int .u64 bb), .lit (.string tt.data.toList), y4.1] : DataW H).weights Tryz.prog 25 = [tt.data.toList.length] ++ y4.1.weights Tryz.prog 23 := by
      simp [DataW.weights, Tryz.underlying25, DataW.weightsEach]
    rw [ew] at hwt
    have et : tt.data.toList.length = tt.size := by cases tt; rfl
    have wT : tt.size ≤ 140737488351232 := by have := hwt _ (List.mem_append_left _ (List.mem_singleton.2 rfl)); rw [et, reach_eq] at this; exact this
    have w4 : ∀ n ∈ y4.1.weights Tryz.prog 23, n ≤ 140737488351232 := fun n hn => hwt n (List.mem_append_right _ hn)
    have b0 := bounds_i64 w0
    have b1 := bounds_u64 w1
    have f4' : DataW.trod enc Tryz.prog w 0 (fun _ => true) true n 23 [c4] = some y4 := f4
    have items : ∃ (ia : Option Addr) (ic : Nat) (its : List (X k)), c4 = .slice ia its.length ic ∧ its.length ≤ ic ∧ ic ≤ 9223372036854775807 ∧ its.length * 56 ≤ 140737488351232 ∧ (ia = none → its.length = 0 ∧ ic = 0) ∧ LayJ w (LayX w k) ia its := by
      rcases open_slice Tryz.underlying23 f4' with ⟨h1, h2⟩ | ⟨a, len, cap, m, n', D, Pl, h1, _, hl1, hm1, hm2, h2, h3⟩
      · simp only [List.cons.injEq, and_true] at h1
        exact ⟨none, 0, [], h1, by simp, by simp, by simp, fun _ => ⟨rfl, rfl⟩, fun i s hi => by simp at hi⟩
      · simp only [List.cons.injEq, and_true] at h1
        simp only [if_true] at hm2
        subst hm2
        rw [Tryz.cellsX] at h2 h3
        have h2' : y4.1 = .slice ((List.range len).map D) ((List.range (m - len)).map fun j => D (len + j)) := by rw [h2]
        rw [h2'] at w4 hk
        unfold maxLen at hm1
        have each : ∀ i, i < len → ∃ u : X k, ∃ b o c0 c1 c2 c3, some a = some (⟨b, o, none⟩ : Addr) ∧ w.cell? ⟨b, o + i * 4, none⟩ = some c0 ∧ w.cell? ⟨b, o + i * 4 + 1, none⟩ = some c1 ∧ w.cell? ⟨b, o + i * 4 + 2, none⟩ = some c2 ∧
            w.cell? ⟨b, o + i * 4 + 3, none⟩ = some c3 ∧ LayX w k (.agg #[c0, c1, c2, c3]) u := by
          intro i hi
          obtain ⟨cs0, q0, _⟩ := h3 0 (by omega)
          obtain ⟨z0, _, _, _, _, p0, _⟩ := cells_four q0
          have hs := spot_none p0
          simp only [Nat.zero_mul, Addr.add, if_true] at hs
          obtain ⟨cs', q, htr⟩ := h3 i (by omega)
          obtain ⟨c0, c1, c2, c3, rfl, p0, p1, p2, p3⟩ := cells_four q
          have hmem : D i ∈ (List.range len).map D := List.mem_map.2 ⟨i, List.mem_range.2 hi, rfl⟩
          have hsz : SizeOf.sizeOf (D i) ≤ k := by
            have := List.sizeOf_lt_of_mem hmem
            simp at hk
            omega
          obtain ⟨u, hu⟩ := ih (D i) n' _ (Pl i) hsz (fun x hx => w4 x (by
            simp only [DataW.weights, Tryz.underlying23]
            exact List.mem_cons_of_mem _ (List.mem_append_left _ (weightsAll_mem hmem _ hx)))) htr
          rw [hs] at p0 p1 p2 p3 ⊢
          rw [add_plain] at p0 p1 p2 p3
          rw [add_plain] at p1 p2 p3
          exact ⟨u, _, _, c0, c1, c2, c3, rfl, p0, p1, p2, p3, hu⟩
        obtain ⟨its, hlen', hits⟩ := list_of each
        refine ⟨some a, m, its, by rw [hlen']; exact h1, by omega, hm1, ?_, by simp, fun i u hu => hits i u hu⟩
        have := w4 _ (by simp only [DataW.weights, Tryz.underlying23]; exact List.mem_cons_self)
        simp only [List.length_map, List.length_range, Tryz.bytesX] at this
        omega
    obtain ⟨ia, ic, its, rfl, i1, i2, i3, i4, i5⟩ := items
    exact ⟨(kk, bb, tt, its), ia, ic, rfl, ⟨by omega, by omega, wT, i1, i2, i3⟩, i4, i5⟩

set_option maxRecDepth 100000 in
theorem ex_of_arg {H : Type} {enc : TypeId × Value → H} {w : World} {base k : Nat} {x : Value} {d : DataW H} {pl : List MemPlace} (hx : Value.okWide Tryz.prog w .any base 25 x) (h : DataW.Trod enc Tryz.prog w 0 (fun _ => true) true 25 x d pl)
    (hk : SizeOf.sizeOf d ≤ k) (hw : ∀ n ∈ d.weights Tryz.prog 25, n ≤ reachBytes) : ∃ v : X k, LayX w k x v := by
  obtain ⟨fuel, hf⟩ := h
  obtain ⟨v, hv⟩ := ex_of_trod k d fuel _ pl hk hw hf
  obtain ⟨cs, rfl⟩ : ∃ cs, x = .agg cs := by
    unfold Value.okWide at hx
    rw [Tryz.underlying25] at hx
    obtain ⟨cs, h, _⟩ := hx
    exact ⟨cs, h⟩
  exact ⟨v, by simpa [Value.cells] using hv⟩

end Go.Proofs.YtndclldicdfmeaaGreat.Xp
