/-
  A path among the arguments is a list of steps.
-/
import Derived.Test.YtkjiiggboblioaaVaGet
import Derived.Test.YtkjiiggboblioaaVaFrame
namespace Go.Proofs.Ytkjiiggboblioaa
open Go.ChangeShapes Go.WideShapes Go.ChangeAt Go.RowKit Go.Deep

theorem Try.cellsBool : Try.prog.cellsOf 4 = 1 := by kernel_rfl
theorem Try.cellsStep : Try.prog.cellsOf 42 = 3 := by kernel_rfl
theorem Try.bytesStep : Try.prog.bytesOf 42 = 32 := by kernel_rfl

/-- A path. -/
def PathIs (w : World) (x : Value) (ps : List St) : Prop := ∃ pa pc, x = .slice pa ps.length pc ∧ (pa = none → ps.length = 0 ∧ pc = 0) ∧ ps.length ≤ pc ∧ pc ≤ 9223372036854775807 ∧ ps.length * 32 ≤ 140737488351232 ∧ LayP w pa ps

theorem cells_three {w : World} {a : Addr} {cs : List Value} (h : w.cells? 0 a 3 = some cs) : ∃ c0 c1 c2, cs = [c0, c1, c2] ∧ w.cell? a = some c0 ∧ w.cell? (a.add 1) = some c1 ∧ w.cell? (a.add 2) = some c2 := by
  simp only [World.cells?, Nat.zero_le, if_true, show List.range 3 = [0, 1, 2] from rfl, List.mapM_cons, List.mapM_nil] at h
  cases h0 : w.cell? (a.add 0) with
  | none => simp [h0] at h
  | some c0 =>
    cases h1 : w.cell? (a.add 1) with
    | none => simp [h0, h1] at h
    | some c1 =>
      cases h2 : w.cell? (a.add 2) with
      | none => simp [h0, h1, h2] at h
      | some c2 =>
        simp [h0, h1, h2] at h
        exact ⟨c0, c1, c2, h.symm, h0, rfl, rfl⟩

set_option maxRecDepth 100000 in
theorem path_of_trod {H : Type} {enc : TypeId × Value → H} {w : World} {d : DataW H} {fuel : Nat} {c : Value} {pl : List MemPlace} (hwt : ∀ n ∈ d.weights Try.prog 27, n ≤ reachBytes)
    (h : DataW.trod enc Try.prog w 0 (fun _ => true) true fuel 27 [c] = some (d, pl)) : ∃ ps : List St, PathIs w c ps := by
  rcases open_slice Try.underlying27 h with ⟨h1, h2⟩ | ⟨a, len, cap, m, n', D, Pl, h1, _, hl1, hm1, hm2, h2, h3⟩
  · simp only [List.cons.injEq, and_true] at h1
    exact ⟨[], none, 0, h1, fun _ => ⟨rfl, rfl⟩, by simp, by simp, by simp, fun i s hi => by simp at hi⟩
  · simp only [List.cons.injEq, and_true] at h1
    simp only [if_true] at hm2
    subst hm2
    rw [Try.cellsStep] at h2 h3
    have h2' : d = .slice ((List.range len).map D) ((List.range (m - len)).map fun j => D (len + j)) := congrArg Prod.fst h2
    rw [h2'] at hwt
    unfold maxLen at hm1
    have each : ∀ i, i < len → ∃ s : St, ∃ b o, some a = some (⟨b, o, none⟩ : Addr) ∧ w.cell? ⟨b, o + i * 3, none⟩ = some (.bool s.1) ∧ w.cell? ⟨b, o + i * 3 + 1, none⟩ = some (.string s.2.1) ∧ w.cell? ⟨b, o + i * 3 + 2, none⟩ = some (.int .i64 s.2.2) ∧
        s.2.1.size ≤ 140737488351232 ∧ (-9223372036854775808 ≤ s.2.2 ∧ s.2.2 ≤ 9223372036854775807) := by
      intro i hi
      obtain ⟨cs0, q0, _⟩ := h3 0 (by omega)
      obtain ⟨z0, _, _, _, p0, _⟩ := cells_three q0
      have hs := spot_none p0
      simp only [Nat.zero_mul, Addr.add, if_true] at hs
      obtain ⟨cs', q, htr⟩ := h3 i (by omega)
      obtain ⟨c0, c1, c2, rfl, p0, p1, p2⟩ := cells_three q
      obtain ⟨xs, n2, _, hx, hl, hlen, hf⟩ := DataW.trod_struct Try.underlying42 htr
      match xs, hlen with
      | [y0, y1, y2], _ =>
      have f0 : DataW.trod enc Try.prog w 0 (fun _ => true) true n2 4 (([c0, c1, c2].drop 0).take (Try.prog.cellsOf 4)) = some y0 := hf 0 _ rfl
      rw [Try.cellsBool] at f0
      have f1 : DataW.trod enc Try.prog w 0 (fun _ => true) true n2 9 (([c0, c1, c2].drop 1).take (Try.prog.cellsOf 9)) = some y1 := hf 1 _ rfl
      rw [Try.cellsStr] at f1
      have f2 : DataW.trod enc Try.prog w 0 (fun _ => true) true n2 3 (([c0, c1, c2].drop 2).take (Try.prog.cellsOf 3)) = some y2 := hf 2 _ rfl
      rw [Try.cellsInt] at f2
      obtain ⟨bb, e0, rfl⟩ := DataW.trod_bool Try.underlying4 f0
      obtain ⟨tt, e1, rfl, w1⟩ := DataW.trod_string Try.underlying9 f1
      obtain ⟨kk, e2, rfl, w2⟩ := DataW.trod_int Try.underlying3 f2
      have e0' : c0 = .bool bb := by simpa using e0
      have e1' : c1 = .string tt := by simpa using e1
      have e2' : c2 = .int .i64 kk := by simpa using e2
      subst e0' e1' e2'
      have hd : D i = .agg [.lit (.bool bb), .lit (.string tt.data.toList), .lit (.int .i64 kk)] := by
        have := congrArg Prod.fst hx
        simpa using this
      have b2 := bounds_i64 w2
      have hmem : D i ∈ (List.range len).map D := List.mem_map.2 ⟨i, List.mem_range.2 hi, rfl⟩
      have wT : tt.size ≤ 140737488351232 := by
        have := hwt tt.data.toList.length (by
          simp only [DataW.weights, Try.underlying27]
          refine List.mem_cons_of_mem _ (List.mem_append_left _ (weightsAll_mem hmem _ ?_))
          rw [hd]
          simp [DataW.weights, Try.underlying42, DataW.weightsEach])
        have e' : tt.data.toList.length = tt.size := by cases tt; rfl
        rw [e', reach_eq] at this
        exact this
      rw [hs] at p0 p1 p2 ⊢
      rw [add_plain] at p0 p1 p2
      rw [add_plain] at p1 p2
      exact ⟨(bb, tt, kk), _, _, rfl, p0, p1, p2, wT, by omega⟩
    obtain ⟨ps, hlen', hps⟩ := list_of each
    refine ⟨ps, some a, m, by rw [hlen']; exact h1, by simp, by omega, hm1, ?_, fun i s hs => hps i s hs⟩
    have := hwt _ (by simp only [DataW.weights, Try.underlying27]; exact List.mem_cons_self)
    simp only [List.length_map, List.length_range, Try.bytesStep] at this
    rw [reach_eq] at this
    omega

theorem path_of_arg {H : Type} {enc : TypeId × Value → H} {w : World} {base : Nat} {x : Value} {d : DataW H} {pl : List MemPlace} (hx : Value.okWide Try.prog w .any base 27 x) (h : DataW.Trod enc Try.prog w 0 (fun _ => true) true 27 x d pl)
    (hw : ∀ n ∈ d.weights Try.prog 27, n ≤ reachBytes) : ∃ ps : List St, PathIs w x ps := by
  obtain ⟨fuel, hf⟩ := h
  unfold Value.okWide at hx
  rw [Try.underlying27] at hx
  have hc : x.cells = #[x] ∨ ∃ cs, x = .agg cs := by cases x <;> simp [Value.cells]
  rcases hc with hc | ⟨cs, rfl⟩
  · rw [hc] at hf
    exact path_of_trod hw hf
  · exfalso
    simp [Cell.okWide, Cell.ok, Try.underlying27] at hx
end Go.Proofs.Ytkjiiggboblioaa
