/-
  Segments among the arguments.
-/
import Derived.Test.YtocodkoanjcmkabWlDrop
namespace Go.Proofs.Ytocodkoanjcmkab
open Go.ChangeShapes Go.WideShapes Go.ChangeAt Go.RowKit Go.Deep
open Se

theorem Try.cellsBs : Try.prog.cellsOf 25 = 1 := by kernel_rfl
theorem Try.bytesBs : Try.prog.bytesOf 25 = 24 := by kernel_rfl
/-- Segments that came in. -/
def SectorsIs (w : World) (x : Value) (ss : List (List UInt8)) : Prop := ∃ a c, x = .slice a ss.length c ∧ LayS w a ss ∧ ss.length * 24 ≤ 140737488351232

set_option maxRecDepth 100000 in
theorem sectors_of_trod {H : Type} {enc : TypeId × Value → H} {w : World} {d : DataW H} {fuel : Nat} {c : Value} {pl : List MemPlace} (hwt : ∀ n ∈ d.weights Try.prog 22, n ≤ reachBytes)
    (h : DataW.trod enc Try.prog w 0 (fun _ => true) true fuel 22 [c] = some (d, pl)) : ∃ ss, SectorsIs w c ss := by
  rcases open_slice Try.underlying22 h with ⟨h1, h2⟩ | ⟨a, len, cap, m, n', D, Pl, h1, _, hl1, hm1, hm2, h2, h3⟩
  · simp only [List.cons.injEq, and_true] at h1
    exact ⟨[], none, 0, h1, fun i s hi => by simp at hi, by simp⟩
  · simp only [List.cons.injEq, and_true] at h1
    simp only [if_true] at hm2
    subst hm2
    rw [Try.cellsBs] at h2 h3
    have h2' : d = .slice ((List.range len).map D) ((List.range (m - len)).map fun j => D (len + j)) := congrArg Prod.fst h2
    rw [h2'] at hwt
    unfold maxLen at hm1
    have each : ∀ i, i < len → ∃ l : List UInt8, ∃ b off a' c', some a = some (⟨b, off, none⟩ : Addr) ∧ w.cell? ⟨b, off + i, none⟩ = some (.slice a' l.length c') ∧ Oct w a' c' l ∧ l.length ≤ 140737488351232 := by
      intro i hi
      obtain ⟨cs0, q0, _⟩ := h3 0 (by omega)
      obtain ⟨z0, _, p0⟩ := cells_one q0
      have hs := spot_none p0
      simp only [Nat.zero_mul, Addr.add, if_true] at hs
      obtain ⟨cs', q, htr⟩ := h3 i (by omega)
      obtain ⟨c0, rfl, p0⟩ := cells_one q
      have hmem : D i ∈ (List.range len).map D := List.mem_map.2 ⟨i, List.mem_range.2 hi, rfl⟩
      obtain ⟨l, a', c', rfl, ho, hl⟩ := bytes_of_trod (fun x hx => hwt x (by
        simp only [DataW.weights, Try.underlying22]
        exact List.mem_cons_of_mem _ (List.mem_append_left _ (weightsAll_mem hmem _ hx)))) htr
      rw [hs] at p0 ⊢
      rw [add_plain, add_plain] at p0
      exact ⟨l, _, _, a', c', rfl, by simpa using p0, ho, hl⟩
    obtain ⟨fs, hlen', hfs⟩ := list_of each
    refine ⟨fs, some a, m, by rw [hlen']; exact h1, fun i f hf => hfs i f hf, ?_⟩
    have := hwt _ (by simp only [DataW.weights, Try.underlying22]; exact List.mem_cons_self)
    simp only [List.length_map, List.length_range, Try.bytesBs] at this
    rw [reach_eq] at this
    rw [hlen']
    have h5 : len * 24 ≤ m * 24 := Nat.mul_le_mul_right _ hl1
    omega

theorem bss_of_arg {H : Type} {enc : TypeId × Value → H} {w : World} {base : Nat} {x : Value} {d : DataW H} {pl : List MemPlace} (hx : Value.okWide Try.prog w .any base 22 x) (h : DataW.Trod enc Try.prog w 0 (fun _ => true) true 22 x d pl)
    (hw : ∀ n ∈ d.weights Try.prog 22, n ≤ reachBytes) : ∃ ss, SectorsIs w x ss := by
  obtain ⟨fuel, hf⟩ := h
  unfold Value.okWide at hx
  rw [Try.underlying22] at hx
  have hc : x.cells = #[x] ∨ ∃ cs, x = .agg cs := by cases x <;> simp [Value.cells]
  rcases hc with hc | ⟨cs, rfl⟩
  · rw [hc] at hf
    exact sectors_of_trod hw hf
  · exfalso
    simp [Cell.okWide, Cell.ok, Try.underlying22] at hx

end Go.Proofs.Ytocodkoanjcmkab
