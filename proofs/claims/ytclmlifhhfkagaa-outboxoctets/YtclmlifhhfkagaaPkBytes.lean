/-
  Octets among the arguments.
-/
import Derived.Test.YtclmlifhhfkagaaPkDec
namespace Go.Proofs.Ytclmlifhhfkagaa
open Go.ChangeShapes Go.WideShapes Go.ChangeAt Go.RowKit Go.Deep
open Fl

/-- A slice of octets that came in. -/
def BytesIs (w : World) (x : Value) (bs : List UInt8) : Prop := ∃ a c, x = .slice a bs.length c ∧ Oct w a c bs ∧ bs.length ≤ 140737488351232

theorem Try.cellsU8 : Try.prog.cellsOf 5 = 1 := by kernel_rfl
theorem Try.bytesU8 : Try.prog.bytesOf 5 = 1 := by kernel_rfl

theorem cells_one {w : World} {a : Addr} {cs : List Value} (h : w.cells? 0 a 1 = some cs) : ∃ c0, cs = [c0] ∧ w.cell? (a.add 0) = some c0 := by
  simp only [World.cells?, Nat.zero_le, if_true, show List.range 1 = [0] from rfl, List.mapM_cons, List.mapM_nil] at h
  cases h0 : w.cell? (a.add 0) with
  | none => simp [h0] at h
  | some c0 =>
    simp [h0] at h
    exact ⟨c0, h.symm, rfl⟩

set_option maxRecDepth 100000 in
theorem bytes_of_trod {H : Type} {enc : TypeId × Value → H} {w : World} {d : DataW H} {fuel : Nat} {c : Value} {pl : List MemPlace} (hwt : ∀ n ∈ d.weights Try.prog 25, n ≤ reachBytes)
    (h : DataW.trod enc Try.prog w 0 (fun _ => true) true fuel 25 [c] = some (d, pl)) : ∃ bs : List UInt8, BytesIs w c bs := by
  rcases open_slice Try.underlying25 h with ⟨h1, h2⟩ | ⟨a, len, cap, m, n', D, Pl, h1, _, hl1, hm1, hm2, h2, h3⟩
  · simp only [List.cons.injEq, and_true] at h1
    exact ⟨[], none, 0, h1, ⟨fun i s hi => by simp at hi, by simp, by simp, by simp, fun _ => rfl, fun ad h => by cases h⟩, by simp⟩
  · simp only [List.cons.injEq, and_true] at h1
    simp only [if_true] at hm2
    subst hm2
    rw [Try.cellsU8] at h2 h3
    have h2' : d = .slice ((List.range len).map D) ((List.range (m - len)).map fun j => D (len + j)) := congrArg Prod.fst h2
    rw [h2'] at hwt
    unfold maxLen at hm1
    have spot : 0 < m → a = ⟨a.block, a.off, none⟩ := by
      intro hm0
      obtain ⟨cs0, q0, _⟩ := h3 0 hm0
      obtain ⟨z0, _, p0⟩ := cells_one q0
      have hs := spot_none p0
      simpa only [Nat.zero_mul, Addr.add, if_true] using hs
    have each : ∀ i, i < len → ∃ o : UInt8, ∃ b off, some a = some (⟨b, off, none⟩ : Addr) ∧ w.cell? ⟨b, off + i, none⟩ = some (.int .u8 (o.toNat : Int)) := by
      intro i hi
      obtain ⟨cs', q, htr⟩ := h3 i (by omega)
      obtain ⟨c0, rfl, p0⟩ := cells_one q
      obtain ⟨kk, e2, -, w2⟩ := DataW.trod_int Try.underlying5 htr
      have e2' : c0 = .int .u8 kk := by simpa using e2
      subst e2'
      have b2 := bounds_u8 w2
      refine ⟨UInt8.ofNat kk.toNat, a.block, a.off, by rw [← spot (by omega)], ?_⟩
      have hk : ((UInt8.ofNat kk.toNat).toNat : Int) = kk := by
        rw [UInt8.toNat_ofNat']
        omega
      rw [hk]
      have hs := spot (by omega)
      generalize a.block = ab at *
      generalize a.off = ao at *
      subst hs
      rw [add_plain, add_plain] at p0
      simpa using p0
    obtain ⟨bs, hlen', hbs⟩ := list_of each
    have hbl : bs.length ≤ 140737488351232 := ?_
    · exact ⟨bs, some a, m, by rw [hlen']; exact h1, ⟨fun i o hi => hbs i o hi, by omega, hm1, by omega, by simp, fun ad h => by cases h; exact spot⟩, hbl⟩
    have := hwt _ (by simp only [DataW.weights, Try.underlying25]; exact List.mem_cons_self)
    simp only [List.length_map, List.length_range, Try.bytesU8] at this
    rw [reach_eq] at this
    omega

set_option maxRecDepth 100000 in
theorem bytes_of_arg {H : Type} {enc : TypeId × Value → H} {w : World} {base : Nat} {x : Value} {d : DataW H} {pl : List MemPlace} (hx : Value.okWide Try.prog w .any base 25 x) (h : DataW.Trod enc Try.prog w 0 (fun _ => true) true 25 x d pl)
    (hw : ∀ n ∈ d.weights Try.prog 25, n ≤ reachBytes) : ∃ bs : List UInt8, BytesIs w x bs := by
  obtain ⟨fuel, hf⟩ := h
  unfold Value.okWide at hx
  rw [Try.underlying25] at hx
  have hc : x.cells = #[x] ∨ ∃ cs, x = .agg cs := by cases x <;> simp [Value.cells]
  rcases hc with hc | ⟨cs, rfl⟩
  · rw [hc] at hf
    exact bytes_of_trod hw hf
  · exfalso
    simp [Cell.okWide, Cell.ok, Try.underlying25] at hx
end Go.Proofs.Ytclmlifhhfkagaa
