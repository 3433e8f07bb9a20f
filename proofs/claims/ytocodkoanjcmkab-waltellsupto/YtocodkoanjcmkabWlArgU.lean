/-
  A log among the arguments, and how great it is.
-/
import Derived.Test.YtocodkoanjcmkabWlArgL
namespace Go.Proofs.Ytocodkoanjcmkab
open Go.ChangeShapes Go.WideShapes Go.ChangeAt Go.RowKit Go.Deep
open Se

theorem bulk_pos {H : Type} (d : DataW H) : 1 ≤ Rows.uptoBulk d := by
  cases d with
  | lit l => cases l <;> simp [Rows.uptoBulk]
  | _ => simp [Rows.uptoBulk]
theorem bulk_len {H : Type} : ∀ (l : List (DataW H)), l.length ≤ Rows.uptoBulkAll l
  | [] => by simp [Rows.uptoBulkAll]
  | d :: r => by
    have h1 := bulk_pos d
    have h2 := bulk_len r
    simp only [Rows.uptoBulkAll, List.length_cons]
    omega
theorem bulk_mem {H : Type} : ∀ {l : List (DataW H)} {d : DataW H}, d ∈ l → Rows.uptoBulk d ≤ Rows.uptoBulkAll l
  | [], _, h => by simp at h
  | x :: r, d, h => by
    simp only [Rows.uptoBulkAll]
    rcases List.mem_cons.1 h with rfl | h
    · omega
    · have := bulk_mem h
      omega

theorem bytes_bulk_trod {H : Type} {enc : TypeId × Value → H} {w : World} {d : DataW H} {fuel : Nat} {x : Value} {pl : List MemPlace} {bs : List UInt8} (hf : DataW.trod enc Try.prog w 0 (fun _ => true) true fuel 25 [x] = some (d, pl)) (hb : BytesIs w x bs) : bs.length ≤ Rows.uptoBulk d := by
  obtain ⟨a, c, rfl, -, -⟩ := hb
  rcases open_slice Try.underlying25 hf with ⟨h1, h2⟩ | ⟨a', len, cap, m, n', D, Pl, h1, _, hl1, hm1, hm2, h2, h3⟩
  · simp only [List.cons.injEq, and_true, Value.slice.injEq] at h1
    omega
  · simp only [List.cons.injEq, and_true, Value.slice.injEq] at h1
    have h2' : d = .slice ((List.range len).map D) ((List.range (m - len)).map fun j => D (len + j)) := congrArg Prod.fst h2
    rw [h2']
    have := bulk_len ((List.range len).map D)
    simp only [List.length_map, List.length_range] at this
    simp only [Rows.uptoBulk]
    omega

set_option maxRecDepth 100000 in
theorem sectors_bulk {H : Type} {enc : TypeId × Value → H} {w : World} {d : DataW H} {fuel : Nat} {c : Value} {pl : List MemPlace} (hwt : ∀ n ∈ d.weights Try.prog 22, n ≤ reachBytes)
    (h : DataW.trod enc Try.prog w 0 (fun _ => true) true fuel 22 [c] = some (d, pl)) : ∃ ss, SectorsIs w c ss ∧ (∀ l ∈ ss, l.length ≤ Rows.uptoBulk d) ∧ ss.length ≤ Rows.uptoBulk d := by
  rcases open_slice Try.underlying22 h with ⟨h1, h2⟩ | ⟨a, len, cap, m, n', D, Pl, h1, _, hl1, hm1, hm2, h2, h3⟩
  · simp only [List.cons.injEq, and_true] at h1
    exact ⟨[], ⟨none, 0, h1, fun i s hi => by simp at hi, by simp⟩, by simp, by simp⟩
  · simp only [List.cons.injEq, and_true] at h1
    simp only [if_true] at hm2
    subst hm2
    rw [Try.cellsBs] at h2 h3
    have h2' : d = .slice ((List.range len).map D) ((List.range (m - len)).map fun j => D (len + j)) := congrArg Prod.fst h2
    rw [h2'] at hwt
    unfold maxLen at hm1
    have each : ∀ i, i < len → ∃ l : List UInt8, ∃ b off a' c', some a = some (⟨b, off, none⟩ : Addr) ∧ w.cell? ⟨b, off + i, none⟩ = some (.slice a' l.length c') ∧ Oct w a' c' l ∧ l.length ≤ 140737488351232 ∧ l.length ≤ Rows.uptoBulk (D i) := by
      intro i hi
      obtain ⟨cs0, q0, _⟩ := h3 0 (by omega)
      obtain ⟨z0, _, p0⟩ := cells_one q0
      have hs := spot_none p0
      simp only [Nat.zero_mul, Addr.add, if_true] at hs
      obtain ⟨cs', q, htr⟩ := h3 i (by omega)
      obtain ⟨c0, rfl, p0⟩ := cells_one q
      have hmem : D i ∈ (List.range len).map D := List.mem_map.2 ⟨i, List.mem_range.2 hi, rfl⟩
      obtain ⟨l, hbl⟩ := bytes_of_trod (fun x hx => hwt x (by
        simp only [DataW.weights, Try.underlying22]
        exact List.mem_cons_of_mem _ (List.mem_append_left _ (weightsAll_mem hmem _ hx)))) htr
      have hbk := bytes_bulk_trod htr hbl
      obtain ⟨a', c', rfl, ho, hl⟩ := hbl
      rw [hs] at p0 ⊢
      rw [add_plain, add_plain] at p0
      exact ⟨l, _, _, a', c', rfl, by simpa using p0, ho, hl, hbk⟩
    obtain ⟨fs, hlen', hfs⟩ := list_of each
    have hbd : Rows.uptoBulkAll ((List.range len).map D) ≤ Rows.uptoBulk d := by rw [h2']; simp only [Rows.uptoBulk]; omega
    refine ⟨fs, ⟨some a, m, by rw [hlen']; exact h1, fun i f hf => ?_, ?_⟩, fun l hl => ?_, ?_⟩
    · obtain ⟨b', off', a', c', k1, k2, k3, k4, -⟩ := hfs i f hf
      exact ⟨b', off', a', c', k1, k2, k3, k4⟩
    · have := hwt _ (by simp only [DataW.weights, Try.underlying22]; exact List.mem_cons_self)
      simp only [List.length_map, List.length_range, Try.bytesBs] at this
      rw [reach_eq] at this
      rw [hlen']
      have h5 : len * 24 ≤ m * 24 := Nat.mul_le_mul_right _ hl1
      omega
    · obtain ⟨i, hi⟩ := List.mem_iff_getElem?.1 hl
      obtain ⟨b', off', a', c', -, -, -, -, k5⟩ := hfs i l hi
      have hlt : i < len := by have := (List.getElem?_eq_some_iff.1 hi).1; omega
      have := bulk_mem (List.mem_map.2 ⟨i, List.mem_range.2 hlt, rfl⟩ : D i ∈ (List.range len).map D)
      omega
    · have := bulk_len ((List.range len).map D)
      simp only [List.length_map, List.length_range] at this
      omega

set_option maxRecDepth 100000 in
theorem lg_bulk_trod {H : Type} {enc : TypeId × Value → H} {w : World} {d : DataW H} {fuel : Nat} {cs : List Value} {pl : List MemPlace} (hwt : ∀ n ∈ d.weights Try.prog 24, n ≤ reachBytes)
    (h : DataW.trod enc Try.prog w 0 (fun _ => true) true fuel 24 cs = some (d, pl)) : ∃ s, LgIs w (.agg cs.toArray) s ∧ (∀ l ∈ s.1, l.length ≤ Rows.uptoBulk d) ∧ s.1.length ≤ Rows.uptoBulk d := by
  obtain ⟨xs, n, _, hx, hl, hlen, hf⟩ := DataW.trod_struct Try.underlying24 h
  match xs, hlen with
  | [y0, y1], _ =>
  rw [Try.cellsLg] at hl
  match cs, hl with
  | [c0, c1], _ =>
  have f0 : DataW.trod enc Try.prog w 0 (fun _ => true) true n 22 (([c0, c1].drop 0).take (Try.prog.cellsOf 22)) = some y0 := hf 0 _ rfl
  rw [Try.cellsBss] at f0
  have f1 : DataW.trod enc Try.prog w 0 (fun _ => true) true n 3 (([c0, c1].drop 1).take (Try.prog.cellsOf 3)) = some y1 := hf 1 _ rfl
  rw [Try.cellsInt] at f1
  obtain ⟨kk, e1, rfl, w1⟩ := DataW.trod_int Try.underlying3 f1
  have e1' : c1 = .int .i64 kk := by simpa using e1
  subst e1'
  have hd : d = .agg [y0.1, .lit (.int .i64 kk)] := by
    have := congrArg Prod.fst hx
    simpa using this
  subst hd
  have ew : (DataW.agg [y0.1, .lit (.int .i64 kk)] : DataW H).weights Try.prog 24 = y0.1.weights Try.prog 22 := by
    simp [DataW.weights, Try.underlying24, DataW.weightsEach]
  rw [ew] at hwt
  have b0 := bounds_i64 w1
  have f0' : DataW.trod enc Try.prog w 0 (fun _ => true) true n 22 [c0] = some (y0.1, y0.2) := f0
  obtain ⟨ss, ⟨a, c, rfl, h1, h2⟩, h3, h4⟩ := sectors_bulk hwt f0'
  have hb : Rows.uptoBulk y0.1 ≤ Rows.uptoBulk (DataW.agg [y0.1, .lit (.int .i64 kk)] : DataW H) := by simp only [Rows.uptoBulk, Rows.uptoBulkAll]; omega
  exact ⟨(ss, kk), ⟨a, c, rfl, h1, h2, by simp only; omega, by simp only; omega⟩, fun l hl => by have := h3 l hl; omega, by simp only; omega⟩

theorem lg_bulk_arg {H : Type} {enc : TypeId × Value → H} {w : World} {base : Nat} {x : Value} {d : DataW H} {pl : List MemPlace} (hx : Value.okWide Try.prog w .any base 24 x) (h : DataW.Trod enc Try.prog w 0 (fun _ => true) true 24 x d pl)
    (hw : ∀ n ∈ d.weights Try.prog 24, n ≤ reachBytes) : ∃ s, LgIs w x s ∧ (∀ l ∈ s.1, l.length ≤ Rows.uptoBulk d) ∧ s.1.length ≤ Rows.uptoBulk d := by
  obtain ⟨fuel, hf⟩ := h
  obtain ⟨f, hv, hr⟩ := lg_bulk_trod hw hf
  obtain ⟨cs, rfl⟩ : ∃ cs, x = .agg cs := by
    unfold Value.okWide at hx
    rw [Try.underlying24] at hx
    obtain ⟨cs, h, _⟩ := hx
    exact ⟨cs, h⟩
  exact ⟨f, by simpa [Value.cells] using hv, hr⟩
end Go.Proofs.Ytocodkoanjcmkab
