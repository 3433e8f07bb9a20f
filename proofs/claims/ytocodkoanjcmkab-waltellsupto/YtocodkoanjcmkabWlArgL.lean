/-
  A log of the page among the arguments.
-/
import Derived.Test.YtocodkoanjcmkabWlArg
namespace Go.Proofs.Ytocodkoanjcmkab
open Go.ChangeShapes Go.WideShapes Go.ChangeAt Go.RowKit Go.Deep
open Se

theorem Try.cellsLg : Try.prog.cellsOf 24 = 2 := by kernel_rfl
theorem Try.cellsInt : Try.prog.cellsOf 3 = 1 := by kernel_rfl
theorem Try.cellsBss : Try.prog.cellsOf 22 = 1 := by kernel_rfl
/-- A log that came in: its segments, the next number. -/
def LgIs (w : World) (x : Value) (s : List (List UInt8) × Int) : Prop := ∃ a c, x = .agg #[.slice a s.1.length c, .int .i64 s.2] ∧ LayS w a s.1 ∧ s.1.length * 24 ≤ 140737488351232 ∧ -9223372036854775808 ≤ s.2 ∧ s.2 ≤ 9223372036854775807

set_option maxRecDepth 100000 in
theorem lg_of_trod {H : Type} {enc : TypeId × Value → H} {w : World} {d : DataW H} {fuel : Nat} {cs : List Value} {pl : List MemPlace} (hwt : ∀ n ∈ d.weights Try.prog 24, n ≤ reachBytes)
    (h : DataW.trod enc Try.prog w 0 (fun _ => true) true fuel 24 cs = some (d, pl)) : ∃ s, LgIs w (.agg cs.toArray) s := by
  obtain ⟨xs, n, _, hx, hl, hlen, hf⟩ := DataW.trod_struct Try.underlying24 h
  match xs, hlen with
  | [y0, y1], _ =>
  rw [Try.cellsLg] at hl
  match cs, hl with
  | [c0, c1], _ =>
  have f0 : DataW.trod enc Try.prog w 0 (fun _ => true) true n 22 (([c0, c1].drop 0).take (Try.prog.cellsOf 22)) = some y0 := hf 0 _ rfl
  rw [Try.cellsBss] at f0
  have f1 : DataW.trod enc Try.prog w 0 (fun _ => true) true n 3 (([c0, c1].drop 1).take (Try.prog.cellsOf 3)) = some y1 := hf 1 _ rfl
  rw [Try.cellsInt] at f1
  obtain ⟨kk, e1, rfl, w1⟩ := DataW.trod_int Try.underlying3 f1
  have e1' : c1 = .int .i64 kk := by simpa using e1
  subst e1'
  have hd : d = .agg [y0.1, .lit (.int .i64 kk)] := by
    have := congrArg Prod.fst hx
    simpa using this
  subst hd
  have ew : (DataW.agg [y0.1, .lit (.int .i64 kk)] : DataW H).weights Try.prog 24 = y0.1.weights Try.prog 22 := by
    simp [DataW.weights, Try.underlying24, DataW.weightsEach]
  rw [ew] at hwt
  have b0 := bounds_i64 w1
  have f0' : DataW.trod enc Try.prog w 0 (fun _ => true) true n 22 [c0] = some (y0.1, y0.2) := f0
  obtain ⟨ss, a, c, rfl, h1, h2⟩ := sectors_of_trod hwt f0'
  exact ⟨(ss, kk), a, c, rfl, h1, h2, by simp only; omega, by simp only; omega⟩

theorem lg_of_arg {H : Type} {enc : TypeId × Value → H} {w : World} {base : Nat} {x : Value} {d : DataW H} {pl : List MemPlace} (hx : Value.okWide Try.prog w .any base 24 x) (h : DataW.Trod enc Try.prog w 0 (fun _ => true) true 24 x d pl)
    (hw : ∀ n ∈ d.weights Try.prog 24, n ≤ reachBytes) : ∃ s, LgIs w x s := by
  obtain ⟨fuel, hf⟩ := h
  obtain ⟨f, hv⟩ := lg_of_trod hw hf
  obtain ⟨cs, rfl⟩ : ∃ cs, x = .agg cs := by
    unfold Value.okWide at hx
    rw [Try.underlying24] at hx
    obtain ⟨cs, h, _⟩ := hx
    exact ⟨cs, h⟩
  exact ⟨f, by simpa [Value.cells] using hv⟩
end Go.Proofs.Ytocodkoanjcmkab
