/-
  States, writes and whole numbers among the arguments.
-/
import Derived.Test.YtokebdeaahdcjabDkCrash
namespace Go.Proofs.Ytokebdeaahdcjab
open Go.ChangeShapes Go.WideShapes Go.ChangeAt Go.RowKit Go.Deep
open Dk (Wr St)

theorem Try.cellsWr : Try.prog.cellsOf 28 = 3 := by kernel_rfl
theorem Try.cellsSt : Try.prog.cellsOf 25 = 2 := by kernel_rfl
theorem Try.cellsInt : Try.prog.cellsOf 3 = 1 := by kernel_rfl
theorem Try.cellsBool : Try.prog.cellsOf 4 = 1 := by kernel_rfl
theorem Try.cellsBs : Try.prog.cellsOf 26 = 1 := by kernel_rfl
theorem Try.cellsBss : Try.prog.cellsOf 22 = 1 := by kernel_rfl
theorem Try.cellsWrs : Try.prog.cellsOf 23 = 1 := by kernel_rfl
theorem Try.bytesWr : Try.prog.bytesOf 28 = 40 := by kernel_rfl
theorem Try.bytesBs : Try.prog.bytesOf 26 = 24 := by kernel_rfl
theorem Try.bytesInt : Try.prog.bytesOf 3 = 8 := by kernel_rfl

theorem wr_of_trod {H : Type} {enc : TypeId × Value → H} {w : World} {d : DataW H} {fuel : Nat} {cs : List Value} {pl : List MemPlace} (hwt : ∀ n ∈ d.weights Try.prog 28, n ≤ reachBytes)
    (h : DataW.trod enc Try.prog w 0 (fun _ => true) true fuel 28 cs = some (d, pl)) : ∃ x, WrIs w (.agg cs.toArray) x := by
  obtain ⟨xs, n, _, hx, hl, hlen, hf⟩ := DataW.trod_struct Try.underlying28 h
  match xs, hlen with
  | [y0, y1, y2], _ =>
  rw [Try.cellsWr] at hl
  match cs, hl with
  | [c0, c1, c2], _ =>
  have f0 : DataW.trod enc Try.prog w 0 (fun _ => true) true n 4 (([c0, c1, c2].drop 0).take (Try.prog.cellsOf 4)) = some y0 := hf 0 _ rfl
  rw [Try.cellsBool] at f0
  have f1 : DataW.trod enc Try.prog w 0 (fun _ => true) true n 3 (([c0, c1, c2].drop 1).take (Try.prog.cellsOf 3)) = some y1 := hf 1 _ rfl
  rw [Try.cellsInt] at f1
  have f2 : DataW.trod enc Try.prog w 0 (fun _ => true) true n 26 (([c0, c1, c2].drop 2).take (Try.prog.cellsOf 26)) = some y2 := hf 2 _ rfl
  rw [Try.cellsBs] at f2
  obtain ⟨fl, e0, rfl⟩ := DataW.trod_bool Try.underlying4 f0
  have e0' : c0 = .bool fl := by simpa using e0
  subst e0'
  obtain ⟨kk, e1, rfl, w1⟩ := DataW.trod_int Try.underlying3 f1
  have e1' : c1 = .int .i64 kk := by simpa using e1
  subst e1'
  have hd : d = .agg [.lit (.bool fl), .lit (.int .i64 kk), y2.1] := by
    have := congrArg Prod.fst hx
    simpa using this
  subst hd
  have ew : (DataW.agg [.lit (.bool fl), .lit (.int .i64 kk), y2.1] : DataW H).weights Try.prog 28 = y2.1.weights Try.prog 26 := by
    simp [DataW.weights, Try.underlying28, DataW.weightsEach]
  rw [ew] at hwt
  have b0 := bounds_i64 w1
  have f2' : DataW.trod enc Try.prog w 0 (fun _ => true) true n 26 [c2] = some (y2.1, y2.2) := f2
  obtain ⟨bs, a, c, rfl, ho, hl⟩ := bytes_of_trod hwt f2'
  exact ⟨⟨fl, kk, bs⟩, a, c, rfl, ho, hl, by simp only; omega, by simp only; omega⟩

theorem wr_of_arg {H : Type} {enc : TypeId × Value → H} {w : World} {base : Nat} {x : Value} {d : DataW H} {pl : List MemPlace} (hx : Value.okWide Try.prog w .any base 28 x) (h : DataW.Trod enc Try.prog w 0 (fun _ => true) true 28 x d pl)
    (hw : ∀ n ∈ d.weights Try.prog 28, n ≤ reachBytes) : ∃ y, WrIs w x y := by
  obtain ⟨fuel, hf⟩ := h
  obtain ⟨f, hv⟩ := wr_of_trod hw hf
  obtain ⟨cs, rfl⟩ : ∃ cs, x = .agg cs := by
    unfold Value.okWide at hx
    rw [Try.underlying28] at hx
    obtain ⟨cs, h, _⟩ := hx
    exact ⟨cs, h⟩
  exact ⟨f, by simpa [Value.cells] using hv⟩

theorem cells_three {w : World} {a : Addr} {cs : List Value} (h : w.cells? 0 a 3 = some cs) : ∃ c0 c1 c2, cs = [c0, c1, c2] ∧ w.cell? a = some c0 ∧ w.cell? (a.add 1) = some c1 ∧ w.cell? (a.add 2) = some c2 := by
  simp only [World.cells?, Nat.zero_le, if_true, show List.range 3 = [0, 1, 2] from rfl, List.mapM_cons, List.mapM_nil] at h
  cases h0 : w.cell? (a.add 0) with
  | none => simp [h0] at h
  | some c0 =>
    cases h1 : w.cell? (a.add 1) with
    | none => simp [h0, h1] at h
    | some c1 =>
      cases h2 : w.cell? (a.add 2) with
      | none => simp [h0, h1, h2] at h
      | some c2 =>
        simp [h0, h1, h2] at h
        exact ⟨c0, c1, c2, h.symm, h0, rfl, rfl⟩

/-- Writes, sectors, whole numbers that came in. -/
def WritesIs (w : World) (x : Value) (ws : List Wr) : Prop := ∃ a c, x = .slice a ws.length c ∧ LayW w a ws ∧ ws.length * 40 ≤ 140737488351232
def SectorsIs (w : World) (x : Value) (ss : List (List UInt8)) : Prop := ∃ a c, x = .slice a ss.length c ∧ LayS w a ss ∧ ss.length * 24 ≤ 140737488351232
def IntsIs (w : World) (x : Value) (ks : List Int) : Prop := ∃ a c, x = .slice a ks.length c ∧ LayI w a ks

set_option maxRecDepth 100000 in
theorem writes_of_trod {H : Type} {enc : TypeId × Value → H} {w : World} {d : DataW H} {fuel : Nat} {c : Value} {pl : List MemPlace} (hwt : ∀ n ∈ d.weights Try.prog 23, n ≤ reachBytes)
    (h : DataW.trod enc Try.prog w 0 (fun _ => true) true fuel 23 [c] = some (d, pl)) : ∃ ws, WritesIs w c ws := by
  rcases open_slice Try.underlying23 h with ⟨h1, h2⟩ | ⟨a, len, cap, m, n', D, Pl, h1, _, hl1, hm1, hm2, h2, h3⟩
  · simp only [List.cons.injEq, and_true] at h1
    exact ⟨[], none, 0, h1, fun i s hi => by simp at hi, by simp⟩
  · simp only [List.cons.injEq, and_true] at h1
    simp only [if_true] at hm2
    subst hm2
    rw [Try.cellsWr] at h2 h3
    have h2' : d = .slice ((List.range len).map D) ((List.range (m - len)).map fun j => D (len + j)) := congrArg Prod.fst h2
    rw [h2'] at hwt
    unfold maxLen at hm1
    have each : ∀ i, i < len → ∃ x : Wr, ∃ b off a' c', some a = some (⟨b, off, none⟩ : Addr) ∧ w.cell? ⟨b, off + i * 3, none⟩ = some (.bool x.fl) ∧ w.cell? ⟨b, off + i * 3 + 1, none⟩ = some (.int .i64 x.sec) ∧ w.cell? ⟨b, off + i * 3 + 2, none⟩ = some (.slice a' x.d.length c')
        ∧ Oct w a' c' x.d ∧ x.d.length ≤ 140737488351232 ∧ -9223372036854775808 ≤ x.sec ∧ x.sec ≤ 9223372036854775807 := by
      intro i hi
      obtain ⟨cs0, q0, _⟩ := h3 0 (by omega)
      obtain ⟨z0, _, _, _, p0, _⟩ := cells_three q0
      have hs := spot_none p0
      simp only [Nat.zero_mul, Addr.add, if_true] at hs
      obtain ⟨cs', q, htr⟩ := h3 i (by omega)
      obtain ⟨c0, c1, c2, rfl, p0, p1, p2⟩ := cells_three q
      have hmem : D i ∈ (List.range len).map D := List.mem_map.2 ⟨i, List.mem_range.2 hi, rfl⟩
      obtain ⟨f, a', c', e, ho, hl, hb⟩ := wr_of_trod (fun x hx => hwt x (by
        simp only [DataW.weights, Try.underlying23]
        exact List.mem_cons_of_mem _ (List.mem_append_left _ (weightsAll_mem hmem _ hx)))) htr
      simp only [Value.agg.injEq] at e
      obtain ⟨rfl, rfl, rfl⟩ := e
      rw [hs] at p0 p1 p2 ⊢
      rw [add_plain] at p0 p1 p2
      rw [add_plain] at p1 p2
      exact ⟨f, _, _, a', c', rfl, p0, p1, p2, ho, hl, hb⟩
    obtain ⟨fs, hlen', hfs⟩ := list_of each
    refine ⟨fs, some a, m, by rw [hlen']; exact h1, fun i f hf => hfs i f hf, ?_⟩
    have := hwt _ (by simp only [DataW.weights, Try.underlying23]; exact List.mem_cons_self)
    simp only [List.length_map, List.length_range, Try.bytesWr] at this
    rw [reach_eq] at this
    rw [hlen']
    have h5 : len * 40 ≤ m * 40 := Nat.mul_le_mul_right _ hl1
    omega

set_option maxRecDepth 100000 in
theorem sectors_of_trod {H : Type} {enc : TypeId × Value → H} {w : World} {d : DataW H} {fuel : Nat} {c : Value} {pl : List MemPlace} (hwt : ∀ n ∈ d.weights Try.prog 22, n ≤ reachBytes)
    (h : DataW.trod enc Try.prog w 0 (fun _ => true) true fuel 22 [c] = some (d, pl)) : ∃ ss, SectorsIs w c ss := by
  rcases open_slice Try.underlying22 h with ⟨h1, h2⟩ | ⟨a, len, cap, m, n', D, Pl, h1, _, hl1, hm1, hm2, h2, h3⟩
  · simp only [List.cons.injEq, and_true] at h1
    exact ⟨[], none, 0, h1, fun i s hi => by simp at hi, by simp⟩
  · simp only [List.cons.injEq, and_true] at h1
    simp only [if_true] at hm2
    subst hm2
    rw [Try.cellsBs] at h2 h3
    have h2' : d = .slice ((List.range len).map D) ((List.range (m - len)).map fun j => D (len + j)) := congrArg Prod.fst h2
    rw [h2'] at hwt
    unfold maxLen at hm1
    have each : ∀ i, i < len → ∃ l : List UInt8, ∃ b off a' c', some a = some (⟨b, off, none⟩ : Addr) ∧ w.cell? ⟨b, off + i, none⟩ = some (.slice a' l.length c') ∧ Oct w a' c' l ∧ l.length ≤ 140737488351232 := by
      intro i hi
      obtain ⟨cs0, q0, _⟩ := h3 0 (by omega)
      obtain ⟨z0, _, p0⟩ := cells_one q0
      have hs := spot_none p0
      simp only [Nat.zero_mul, Addr.add, if_true] at hs
      obtain ⟨cs', q, htr⟩ := h3 i (by omega)
      obtain ⟨c0, rfl, p0⟩ := cells_one q
      have hmem : D i ∈ (List.range len).map D := List.mem_map.2 ⟨i, List.mem_range.2 hi, rfl⟩
      obtain ⟨l, a', c', rfl, ho, hl⟩ := bytes_of_trod (fun x hx => hwt x (by
        simp only [DataW.weights, Try.underlying22]
        exact List.mem_cons_of_mem _ (List.mem_append_left _ (weightsAll_mem hmem _ hx)))) htr
      rw [hs] at p0 ⊢
      rw [add_plain, add_plain] at p0
      exact ⟨l, _, _, a', c', rfl, by simpa using p0, ho, hl⟩
    obtain ⟨fs, hlen', hfs⟩ := list_of each
    refine ⟨fs, some a, m, by rw [hlen']; exact h1, fun i f hf => hfs i f hf, ?_⟩
    have := hwt _ (by simp only [DataW.weights, Try.underlying22]; exact List.mem_cons_self)
    simp only [List.length_map, List.length_range, Try.bytesBs] at this
    rw [reach_eq] at this
    rw [hlen']
    have h5 : len * 24 ≤ m * 24 := Nat.mul_le_mul_right _ hl1
    omega

set_option maxRecDepth 100000 in
theorem ints_of_trod {H : Type} {enc : TypeId × Value → H} {w : World} {d : DataW H} {fuel : Nat} {c : Value} {pl : List MemPlace}
    (h : DataW.trod enc Try.prog w 0 (fun _ => true) true fuel 29 [c] = some (d, pl)) : ∃ ks, IntsIs w c ks := by
  rcases open_slice Try.underlying29 h with ⟨h1, h2⟩ | ⟨a, len, cap, m, n', D, Pl, h1, _, hl1, hm1, hm2, h2, h3⟩
  · simp only [List.cons.injEq, and_true] at h1
    exact ⟨[], none, 0, h1, fun i s hi => by simp at hi⟩
  · simp only [List.cons.injEq, and_true] at h1
    simp only [if_true] at hm2
    subst hm2
    rw [Try.cellsInt] at h2 h3
    have each : ∀ i, i < len → ∃ v : Int, ∃ b off, some a = some (⟨b, off, none⟩ : Addr) ∧ w.cell? ⟨b, off + i, none⟩ = some (.int .i64 v) ∧ -9223372036854775808 ≤ v ∧ v ≤ 9223372036854775807 := by
      intro i hi
      obtain ⟨cs0, q0, _⟩ := h3 0 (by omega)
      obtain ⟨z0, _, p0⟩ := cells_one q0
      have hs := spot_none p0
      simp only [Nat.zero_mul, Addr.add, if_true] at hs
      obtain ⟨cs', q, htr⟩ := h3 i (by omega)
      obtain ⟨c0, rfl, p0⟩ := cells_one q
      obtain ⟨kk, e2, -, w2⟩ := DataW.trod_int Try.underlying3 htr
      have e2' : c0 = .int .i64 kk := by simpa using e2
      subst e2'
      have b2 := bounds_i64 w2
      rw [hs] at p0 ⊢
      rw [add_plain, add_plain] at p0
      exact ⟨kk, _, _, rfl, by simpa using p0, by omega, by omega⟩
    obtain ⟨fs, hlen', hfs⟩ := list_of each
    exact ⟨fs, some a, m, by rw [hlen']; exact h1, fun i f hf => hfs i f hf⟩

theorem ints_of_arg {H : Type} {enc : TypeId × Value → H} {w : World} {base : Nat} {x : Value} {d : DataW H} {pl : List MemPlace} (hx : Value.okWide Try.prog w .any base 29 x) (h : DataW.Trod enc Try.prog w 0 (fun _ => true) true 29 x d pl)
    (_ : ∀ n ∈ d.weights Try.prog 29, n ≤ reachBytes) : ∃ ks, IntsIs w x ks := by
  obtain ⟨fuel, hf⟩ := h
  unfold Value.okWide at hx
  rw [Try.underlying29] at hx
  have hc : x.cells = #[x] ∨ ∃ cs, x = .agg cs := by cases x <;> simp [Value.cells]
  rcases hc with hc | ⟨cs, rfl⟩
  · rw [hc] at hf
    exact ints_of_trod hf
  · exfalso
    simp [Cell.okWide, Cell.ok, Try.underlying29] at hx

/-- A state that came in. -/
def StArg (w : World) (x : Value) (s : St) : Prop := ∃ a c a' c', x = .agg #[.slice a s.secs.length c, .slice a' s.cache.length c'] ∧ LayS w a s.secs ∧ LayW w a' s.cache ∧ s.secs.length * 24 ≤ 140737488351232 ∧ s.cache.length * 40 ≤ 140737488351232

theorem StArg.below {w w' : World} {v : Value} {s : St} (h : StArg w v s) (hb : Below w.heap.size w w') : StArg w' v s := by
  obtain ⟨a, c, a', c', h1, h2, h3, h4⟩ := h
  exact ⟨a, c, a', c', h1, h2.below hb, h3.below hb, h4⟩

theorem st_of_trod {H : Type} {enc : TypeId × Value → H} {w : World} {d : DataW H} {fuel : Nat} {cs : List Value} {pl : List MemPlace} (hwt : ∀ n ∈ d.weights Try.prog 25, n ≤ reachBytes)
    (h : DataW.trod enc Try.prog w 0 (fun _ => true) true fuel 25 cs = some (d, pl)) : ∃ s, StArg w (.agg cs.toArray) s := by
  obtain ⟨xs, n, _, hx, hl, hlen, hf⟩ := DataW.trod_struct Try.underlying25 h
  match xs, hlen with
  | [y0, y1], _ =>
  rw [Try.cellsSt] at hl
  match cs, hl with
  | [c0, c1], _ =>
  have f0 : DataW.trod enc Try.prog w 0 (fun _ => true) true n 22 (([c0, c1].drop 0).take (Try.prog.cellsOf 22)) = some y0 := hf 0 _ rfl
  rw [Try.cellsBss] at f0
  have f1 : DataW.trod enc Try.prog w 0 (fun _ => true) true n 23 (([c0, c1].drop 1).take (Try.prog.cellsOf 23)) = some y1 := hf 1 _ rfl
  rw [Try.cellsWrs] at f1
  have hd : d = .agg [y0.1, y1.1] := by
    have := congrArg Prod.fst hx
    simpa using this
  subst hd
  have ew : (DataW.agg [y0.1, y1.1] : DataW H).weights Try.prog 25 = y0.1.weights Try.prog 22 ++ y1.1.weights Try.prog 23 := by
    simp [DataW.weights, Try.underlying25, DataW.weightsEach]
  rw [ew] at hwt
  have f0' : DataW.trod enc Try.prog w 0 (fun _ => true) true n 22 [c0] = some (y0.1, y0.2) := f0
  have f1' : DataW.trod enc Try.prog w 0 (fun _ => true) true n 23 [c1] = some (y1.1, y1.2) := f1
  obtain ⟨ss, a, c, rfl, h1, h2⟩ := sectors_of_trod (fun x hx => hwt x (List.mem_append_left _ hx)) f0'
  obtain ⟨ws, a', c', rfl, h3, h4⟩ := writes_of_trod (fun x hx => hwt x (List.mem_append_right _ hx)) f1'
  exact ⟨⟨ss, ws⟩, a, c, a', c', rfl, h1, h3, h2, h4⟩

theorem st_of_arg {H : Type} {enc : TypeId × Value → H} {w : World} {base : Nat} {x : Value} {d : DataW H} {pl : List MemPlace} (hx : Value.okWide Try.prog w .any base 25 x) (h : DataW.Trod enc Try.prog w 0 (fun _ => true) true 25 x d pl)
    (hw : ∀ n ∈ d.weights Try.prog 25, n ≤ reachBytes) : ∃ s, StArg w x s := by
  obtain ⟨fuel, hf⟩ := h
  obtain ⟨f, hv⟩ := st_of_trod hw hf
  obtain ⟨cs, rfl⟩ : ∃ cs, x = .agg cs := by
    unfold Value.okWide at hx
    rw [Try.underlying25] at hx
    obtain ⟨cs, h, _⟩ := hx
    exact ⟨cs, h⟩
  exact ⟨f, by simpa [Value.cells] using hv⟩
end Go.Proofs.Ytokebdeaahdcjab
