/-
  Lists of frames among the arguments.
-/
import Derived.Test.YtihncekjbmepoacSeAll
import Derived.Test.YtihncekjbmepoacSeCutM
namespace Go.Proofs.Ytihncekjbmepoac
open Go.ChangeShapes Go.WideShapes Go.ChangeAt Go.RowKit Go.Deep
open Se

/-- Frames that came in. -/
def LayG (w : World) (a : Option Addr) (fs : List Fr) : Prop :=
  ∀ i f, fs[i]? = some f → ∃ g off a' c', a = some ⟨g, off, none⟩ ∧ w.cell? ⟨g, off + i * 2, none⟩ = some (.int .i64 f.1) ∧ w.cell? ⟨g, off + i * 2 + 1, none⟩ = some (.slice a' f.2.length c') ∧
    (-9223372036854775808 ≤ f.1 ∧ f.1 ≤ 9223372036854775807) ∧ Oct w a' c' f.2 ∧ f.2.length ≤ 140737488351232
def FramesIs (w : World) (x : Value) (fs : List Fr) : Prop := ∃ a c, x = .slice a fs.length c ∧ LayG w a fs ∧ fs.length ≤ 140737488351232

theorem cells_two {w : World} {a : Addr} {cs : List Value} (h : w.cells? 0 a 2 = some cs) : ∃ c0 c1, cs = [c0, c1] ∧ w.cell? a = some c0 ∧ w.cell? (a.add 1) = some c1 := by
  simp only [World.cells?, Nat.zero_le, if_true, show List.range 2 = [0, 1] from rfl, List.mapM_cons, List.mapM_nil] at h
  cases h0 : w.cell? (a.add 0) with
  | none => simp [h0] at h
  | some c0 =>
    cases h1 : w.cell? (a.add 1) with
    | none => simp [h0, h1] at h
    | some c1 =>
      simp [h0, h1] at h
      exact ⟨c0, c1, h.symm, h0, rfl⟩

theorem Try.bytesFr : Try.prog.bytesOf 24 = 32 := by kernel_rfl

set_option maxRecDepth 100000 in
theorem frs_of_trod {H : Type} {enc : TypeId × Value → H} {w : World} {d : DataW H} {fuel : Nat} {c : Value} {pl : List MemPlace} (hwt : ∀ n ∈ d.weights Try.prog 40, n ≤ reachBytes)
    (h : DataW.trod enc Try.prog w 0 (fun _ => true) true fuel 40 [c] = some (d, pl)) : ∃ fs, FramesIs w c fs := by
  rcases open_slice Try.underlying40 h with ⟨h1, h2⟩ | ⟨a, len, cap, m, n', D, Pl, h1, _, hl1, hm1, hm2, h2, h3⟩
  · simp only [List.cons.injEq, and_true] at h1
    exact ⟨[], none, 0, h1, fun i s hi => by simp at hi, by simp⟩
  · simp only [List.cons.injEq, and_true] at h1
    simp only [if_true] at hm2
    subst hm2
    rw [Try.cellsFr] at h2 h3
    have h2' : d = .slice ((List.range len).map D) ((List.range (m - len)).map fun j => D (len + j)) := congrArg Prod.fst h2
    rw [h2'] at hwt
    unfold maxLen at hm1
    have each : ∀ i, i < len → ∃ f : Fr, ∃ g off a' c', some a = some (⟨g, off, none⟩ : Addr) ∧ w.cell? ⟨g, off + i * 2, none⟩ = some (.int .i64 f.1) ∧ w.cell? ⟨g, off + i * 2 + 1, none⟩ = some (.slice a' f.2.length c') ∧
        (-9223372036854775808 ≤ f.1 ∧ f.1 ≤ 9223372036854775807) ∧ Oct w a' c' f.2 ∧ f.2.length ≤ 140737488351232 := by
      intro i hi
      obtain ⟨cs0, q0, _⟩ := h3 0 (by omega)
      obtain ⟨z0, _, _, p0, _⟩ := cells_two q0
      have hs := spot_none p0
      simp only [Nat.zero_mul, Addr.add, if_true] at hs
      obtain ⟨cs', q, htr⟩ := h3 i (by omega)
      obtain ⟨c0, c1, rfl, p0, p1⟩ := cells_two q
      have hmem : D i ∈ (List.range len).map D := List.mem_map.2 ⟨i, List.mem_range.2 hi, rfl⟩
      obtain ⟨f, a', c', e, hb, ho, hl⟩ := frame_of_trod (fun x hx => hwt x (by
        simp only [DataW.weights, Try.underlying40]
        exact List.mem_cons_of_mem _ (List.mem_append_left _ (weightsAll_mem hmem _ hx)))) htr
      simp only [Value.agg.injEq] at e
      obtain ⟨rfl, rfl⟩ := e
      rw [hs] at p0 p1 ⊢
      rw [add_plain] at p0 p1
      rw [add_plain] at p1
      exact ⟨f, _, _, a', c', rfl, p0, p1, hb, ho, hl⟩
    obtain ⟨fs, hlen', hfs⟩ := list_of each
    refine ⟨fs, some a, m, by rw [hlen']; exact h1, fun i f hf => hfs i f hf, ?_⟩
    have := hwt _ (by simp only [DataW.weights, Try.underlying40]; exact List.mem_cons_self)
    simp only [List.length_map, List.length_range, Try.bytesFr] at this
    rw [reach_eq] at this
    omega

theorem frs_of_arg {H : Type} {enc : TypeId × Value → H} {w : World} {base : Nat} {x : Value} {d : DataW H} {pl : List MemPlace} (hx : Value.okWide Try.prog w .any base 40 x) (h : DataW.Trod enc Try.prog w 0 (fun _ => true) true 40 x d pl)
    (hw : ∀ n ∈ d.weights Try.prog 40, n ≤ reachBytes) : ∃ fs, FramesIs w x fs := by
  obtain ⟨fuel, hf⟩ := h
  unfold Value.okWide at hx
  rw [Try.underlying40] at hx
  have hc : x.cells = #[x] ∨ ∃ cs, x = .agg cs := by cases x <;> simp [Value.cells]
  rcases hc with hc | ⟨cs, rfl⟩
  · rw [hc] at hf
    exact frs_of_trod hw hf
  · exfalso
    simp [Cell.okWide, Cell.ok, Try.underlying40] at hx
end Go.Proofs.Ytihncekjbmepoac
