/-
  Displays, patches among the arguments.
-/
import Derived.Test.YtcdnakcojanaeabGreatDoTreeWJ
import Derived.Test.YtcdnakcojanaeabGreatTfFrameJ
import Derived.Deep.RegionLaw
import Derived.Test.YtcdnakcojanaeabGreatRows
import Derived.WalkKit
import Derived.ProofKit
import Derived.OrdersHeld
import Derived.Below
namespace Go.Proofs.YtcdnakcojanaeabGreat
open Go.ChangeShapes Go.WideShapes Go.ChangeAt Go.RowKit Go.Deep
open Do

theorem Tryz.cellsIntD : Tryz.prog.cellsOf 3 = 1 := by kernel_rfl
theorem Tryz.cellsIntsD : Tryz.prog.cellsOf 39 = 1 := by kernel_rfl
theorem Tryz.bytesIntD : Tryz.prog.bytesOf 3 = 8 := by kernel_rfl
theorem Tryz.cellsNodeD : Tryz.prog.cellsOf 56 = 7 := by kernel_rfl
theorem Tryz.bytesNodeD : Tryz.prog.bytesOf 56 = 112 := by kernel_rfl
theorem Tryz.cellsNodesD : Tryz.prog.cellsOf 22 = 1 := by kernel_rfl
theorem Tryz.cellsStateD : Tryz.prog.cellsOf 24 = 3 := by kernel_rfl

theorem Tryz.cellsPatchD : Tryz.prog.cellsOf 26 = 9 := by kernel_rfl

theorem i64_of {x : Int} (h : (Lit.int .i64 x).wf = true) : -9223372036854775808 ≤ x ∧ x ≤ 9223372036854775807 := by
  have e1 : IntKind.i64.min = -9223372036854775808 := by decide
  have e2 : IntKind.i64.max = 9223372036854775807 := by decide
  simp only [Lit.wf, e1, e2] at h
  simpa using h

set_option maxRecDepth 100000 in
theorem attrsD_of_trod {H : Type} {enc : TypeId × Value → H} {w : World} {d : DataW H} {fuel : Nat} {c : Value} {pl : List MemPlace} (hwt : ∀ n ∈ d.weights Tryz.prog 38, n ≤ reachBytes)
    (h : DataW.trod enc Tryz.prog w 0 (fun _ => true) true fuel 38 [c] = some (d, pl)) : ∃ (aa : Option Addr) (ac : Nat) (ats : List Atr), c = .slice aa ats.length ac ∧ ats.length ≤ ac ∧ ac ≤ 9223372036854775807 ∧ ats.length * 32 ≤ 140737488351232 ∧ (aa = none → ats.length = 0 ∧ ac = 0) ∧ LayA w aa ats := by
  rcases open_slice Tryz.underlying38 h with ⟨h1, h2⟩ | ⟨a, len, cap, m, n', D, Pl, h1, _, hl1, hm1, hm2, h2, h3⟩
  · simp only [List.cons.injEq, and_true] at h1
    exact ⟨none, 0, [], h1, by simp, by simp, by simp, fun _ => ⟨rfl, rfl⟩, fun i s hi => by simp at hi⟩
  · simp only [List.cons.injEq, and_true] at h1
    simp only [if_true] at hm2
    subst hm2
    rw [Tryz.cellsAttr] at h2 h3
    have h2' : d = .slice ((List.range len).map D) ((List.range (m - len)).map fun j => D (len + j)) := congrArg Prod.fst h2
    rw [h2'] at hwt
    unfold maxLen at hm1
    have each : ∀ i, i < len → ∃ s : Atr, ∃ b o, some a = some (⟨b, o, none⟩ : Addr) ∧ w.cell? ⟨b, o + i * 2, none⟩ = some (.string s.1) ∧ w.cell? ⟨b, o + i * 2 + 1, none⟩ = some (.string s.2) ∧ s.1.size ≤ 140737488351232 ∧ s.2.size ≤ 140737488351232 := by
      intro i hi
      obtain ⟨cs0, q0, _⟩ := h3 0 (by omega)
      obtain ⟨z1, z2⟩ := cells_get q0
      have hs := spot_none (z2 0 _ (List.getElem?_eq_getElem (by omega)))
      have hs' : a = ⟨a.block, a.off, none⟩ := by simpa [Addr.add] using hs
      obtain ⟨cs', qq, htr⟩ := h3 i (by omega)
      obtain ⟨g1, g2⟩ := cells_get qq
      have hmem : D i ∈ (List.range len).map D := List.mem_map.2 ⟨i, List.mem_range.2 hi, rfl⟩
      obtain ⟨sa, sb, rfl, b1, b2⟩ := attr_of_trod (D i) n' cs' (Pl i) (fun x hx => hwt x (by
        simp only [DataW.weights, Tryz.underlying38]
        exact List.mem_cons_of_mem _ (List.mem_append_left _ (weightsAll_mem hmem _ hx)))) htr
      have p0 := g2 0 _ rfl
      have p1 := g2 1 _ rfl
      rw [hs', add_plain, add_plain] at p0 p1
      exact ⟨(sa, sb), a.block, a.off, by rw [← hs'], by simpa using p0, by simpa using p1, b1, b2⟩
    obtain ⟨ats, hlen', hats⟩ := list_of each
    refine ⟨some a, m, ats, by rw [hlen']; exact h1, by omega, hm1, ?_, by simp, fun i u hu => hats i u hu⟩
    have := hwt _ (by simp only [DataW.weights, Tryz.underlying38]; exact List.mem_cons_self)
    simp only [List.length_map, List.length_range, Tryz.bytesAttr] at this
    rw [reach_eq] at this
    omega

set_option maxRecDepth 100000 in
theorem intsD_of_trod {H : Type} {enc : TypeId × Value → H} {w : World} {d : DataW H} {fuel : Nat} {c : Value} {pl : List MemPlace} (hwt : ∀ n ∈ d.weights Tryz.prog 39, n ≤ reachBytes)
    (h : DataW.trod enc Tryz.prog w 0 (fun _ => true) true fuel 39 [c] = some (d, pl)) : ∃ (ka : Option Addr) (kc : Nat) (ks : List Int), c = .slice ka ks.length kc ∧ NmZ w ka kc ks := by
  rcases open_slice Tryz.underlying39 h with ⟨h1, h2⟩ | ⟨a, len, cap, m, n', D, Pl, h1, _, hl1, hm1, hm2, h2, h3⟩
  · simp only [List.cons.injEq, and_true] at h1
    exact ⟨none, 0, [], h1, fun i s hi => by simp at hi, by simp, by simp, by simp, fun _ => rfl, fun ad h => by cases h⟩
  · simp only [List.cons.injEq, and_true] at h1
    simp only [if_true] at hm2
    subst hm2
    rw [Tryz.cellsIntD] at h2 h3
    have h2' : d = .slice ((List.range len).map D) ((List.range (m - len)).map fun j => D (len + j)) := congrArg Prod.fst h2
    rw [h2'] at hwt
    unfold maxLen at hm1
    have plain : 0 < m → a = ⟨a.block, a.off, none⟩ := by
      intro hm
      obtain ⟨cs0, q0, _⟩ := h3 0 hm
      obtain ⟨z1, z2⟩ := cells_get q0
      have hs := spot_none (z2 0 _ (List.getElem?_eq_getElem (by omega)))
      simpa [Addr.add] using hs
    have each : ∀ i, i < len → ∃ v : Int, ∃ b off, some a = some (⟨b, off, none⟩ : Addr) ∧ w.cell? ⟨b, off + i, none⟩ = some (.int .i64 v) ∧ -9223372036854775808 ≤ v ∧ v ≤ 9223372036854775807 := by
      intro i hi
      have hs' := plain (by omega)
      obtain ⟨cs', qq, htr⟩ := h3 i (by omega)
      obtain ⟨g1, g2⟩ := cells_get qq
      match cs', g1 with
      | [c0], _ =>
      obtain ⟨kk, e2, -, w2⟩ := DataW.trod_int Tryz.underlying3 htr
      have e2' : c0 = .int .i64 kk := by simpa using e2
      subst e2'
      have b2 := i64_of w2
      have p0 := g2 0 _ rfl
      rw [hs', add_plain, add_plain] at p0
      exact ⟨kk, a.block, a.off, by rw [← hs'], by simpa using p0, b2.1, b2.2⟩
    obtain ⟨ks, hlen', hks⟩ := list_of each
    refine ⟨some a, m, ks, by rw [hlen']; exact h1, fun i u hu => hks i u hu, by omega, hm1, ?_, by simp, fun ad h hc => by cases h; exact plain hc⟩
    have := hwt _ (by simp only [DataW.weights, Tryz.underlying39]; exact List.mem_cons_self)
    simp only [List.length_map, List.length_range, Tryz.bytesIntD] at this
    rw [reach_eq] at this
    omega

set_option maxRecDepth 100000 in
theorem node_of_trod {H : Type} {enc : TypeId × Value → H} {w : World} (d : DataW H) (fuel : Nat) (cs : List Value) (pl : List MemPlace) (hwt : ∀ n ∈ d.weights Tryz.prog 56, n ≤ reachBytes)
    (h : DataW.trod enc Tryz.prog w 0 (fun _ => true) true fuel 56 cs = some (d, pl)) : ∃ (m : Nd) (aa : Option Addr) (ac : Nat) (ka : Option Addr) (kc : Nat), cs = [.int .i64 m.id, .int .i64 m.par, .string m.tag, .string m.key, .string m.txt, .slice aa m.ats.length ac, .slice ka m.kids.length kc] ∧ FitN m aa ac ka kc ∧ LayA w aa m.ats ∧ LayZ w ka m.kids := by
  obtain ⟨xs, n, _, hx, hl, hlen, hf⟩ := DataW.trod_struct Tryz.underlying56 h
  match xs, hlen with
  | [y0, y1, y2, y3, y4, y5, y6], _ =>
  rw [Tryz.cellsNodeD] at hl
  match cs, hl with
  | [c0, c1, c2, c3, c4, c5, c6], _ =>
  have f0 : DataW.trod enc Tryz.prog w 0 (fun _ => true) true n 3 (([c0, c1, c2, c3, c4, c5, c6].drop 0).take (Tryz.prog.cellsOf 3)) = some y0 := hf 0 _ rfl
  rw [Tryz.cellsIntD] at f0
  have f1 : DataW.trod enc Tryz.prog w 0 (fun _ => true) true n 3 (([c0, c1, c2, c3, c4, c5, c6].drop 1).take (Tryz.prog.cellsOf 3)) = some y1 := hf 1 _ rfl
  rw [Tryz.cellsIntD] at f1
  have f2 : DataW.trod enc Tryz.prog w 0 (fun _ => true) true n 9 (([c0, c1, c2, c3, c4, c5, c6].drop 2).take (Tryz.prog.cellsOf 9)) = some y2 := hf 2 _ rfl
  rw [Tryz.cellsStr] at f2
  have f3 : DataW.trod enc Tryz.prog w 0 (fun _ => true) true n 9 (([c0, c1, c2, c3, c4, c5, c6].drop 3).take (Tryz.prog.cellsOf 9)) = some y3 := hf 3 _ rfl
  rw [Tryz.cellsStr] at f3
  have f4 : DataW.trod enc Tryz.prog w 0 (fun _ => true) true n 9 (([c0, c1, c2, c3, c4, c5, c6].drop 4).take (Tryz.prog.cellsOf 9)) = some y4 := hf 4 _ rfl
  rw [Tryz.cellsStr] at f4
  have f5 : DataW.trod enc Tryz.prog w 0 (fun _ => true) true n 38 (([c0, c1, c2, c3, c4, c5, c6].drop 5).take (Tryz.prog.cellsOf 38)) = some y5 := hf 5 _ rfl
  rw [Tryz.cellsAttrs] at f5
  have f6 : DataW.trod enc Tryz.prog w 0 (fun _ => true) true n 39 (([c0, c1, c2, c3, c4, c5, c6].drop 6).take (Tryz.prog.cellsOf 39)) = some y6 := hf 6 _ rfl
  rw [Tryz.cellsIntsD] at f6
  obtain ⟨t0, e0, rfl, w0⟩ := DataW.trod_int Tryz.underlying3 f0
  obtain ⟨t1, e1, rfl, w1⟩ := DataW.trod_int Tryz.underlying3 f1
  obtain ⟨t2, e2, rfl, w2⟩ := DataW.trod_string Tryz.underlying9 f2
  obtain ⟨t3, e3, rfl, w3⟩ := DataW.trod_string Tryz.underlying9 f3
  obtain ⟨t4, e4, rfl, w4⟩ := DataW.trod_string Tryz.underlying9 f4
  have e0' : c0 = .int .i64 t0 := by simpa using e0
  have e1' : c1 = .int .i64 t1 := by simpa using e1
  have e2' : c2 = .string t2 := by simpa using e2
  have e3' : c3 = .string t3 := by simpa using e3
  have e4' : c4 = .string t4 := by simpa using e4
  clear e0 e1 e2 e3 e4
  subst e0' e1' e2' e3' e4'
  have hd : d = .agg [.lit (.int .i64 t0), .lit (.int .i64 t1), .lit (.string t2.data.toList), .lit (.string t3.data.toList), .lit (.string t4.data.toList), y5.1, y6.1] := by
    have := congrArg Prod.fst hx
    simpa using this
  subst hd
  have ew : (DataW.agg [.lit (.int .i64 t0), .lit (.int .i64 t1), .lit (.string t2.data.toList), .lit (.string t3.data.toList), .lit (.string t4.data.toList), y5.1, y6.1] : DataW H).weights Tryz.prog 56 = [t2.data.toList.length, t3.data.toList.length, t4.data.toList.length] ++ (y5.1.weights Tryz.prog 38 ++ y6.1.weights Tryz.prog 39) := by
    simp [DataW.weights, Tryz.underlying56, DataW.weightsEach]
  rw [ew] at hwt
  have et2 : t2.data.toList.length = t2.size := by cases t2; rfl
  have et3 : t3.data.toList.length = t3.size := by cases t3; rfl
  have et4 : t4.data.toList.length = t4.size := by cases t4; rfl
  have a2 : t2.size ≤ 140737488351232 := by have := hwt t2.data.toList.length (List.mem_append_left _ (by simp)); rw [et2, reach_eq] at this; exact this
  have a3 : t3.size ≤ 140737488351232 := by have := hwt t3.data.toList.length (List.mem_append_left _ (by simp)); rw [et3, reach_eq] at this; exact this
  have a4 : t4.size ≤ 140737488351232 := by have := hwt t4.data.toList.length (List.mem_append_left _ (by simp)); rw [et4, reach_eq] at this; exact this
  have f5' : DataW.trod enc Tryz.prog w 0 (fun _ => true) true n 38 [c5] = some (y5.1, y5.2) := f5
  have f6' : DataW.trod enc Tryz.prog w 0 (fun _ => true) true n 39 [c6] = some (y6.1, y6.2) := f6
  obtain ⟨aa, ac, ats, rfl, k1, k2, k3, k4, k5⟩ := attrsD_of_trod (fun x hx => hwt x (List.mem_append_right _ (List.mem_append_left _ hx))) f5'
  obtain ⟨ka, kc, ks, rfl, j0, j1, j2, j3, j4, j5⟩ := intsD_of_trod (fun x hx => hwt x (List.mem_append_right _ (List.mem_append_right _ hx))) f6'
  exact ⟨⟨t0, t1, t2, t3, t4, ats, ks⟩, aa, ac, ka, kc, rfl, ⟨i64_of w0, i64_of w1, ⟨a2, a3, a4, k3, by omega⟩, ⟨k1, k2, k3, k4⟩, j1, j2, j3, j4, j5⟩, k5, j0⟩

set_option maxRecDepth 100000 in
theorem nodes_of_trod {H : Type} {enc : TypeId × Value → H} {w : World} {d : DataW H} {fuel : Nat} {c : Value} {pl : List MemPlace} (hwt : ∀ n ∈ d.weights Tryz.prog 22, n ≤ reachBytes)
    (h : DataW.trod enc Tryz.prog w 0 (fun _ => true) true fuel 22 [c] = some (d, pl)) : ∃ (a : Option Addr) (cp : Nat) (ns : List Nd), c = .slice a ns.length cp ∧ ns.length ≤ cp ∧ cp ≤ 9223372036854775807 ∧ ns.length * 112 ≤ 140737488351232 ∧ LayN w a ns := by
  rcases open_slice Tryz.underlying22 h with ⟨h1, h2⟩ | ⟨a, len, cap, m, n', D, Pl, h1, _, hl1, hm1, hm2, h2, h3⟩
  · simp only [List.cons.injEq, and_true] at h1
    exact ⟨none, 0, [], h1, by simp, by simp, by simp, fun i s hi => by simp at hi⟩
  · simp only [List.cons.injEq, and_true] at h1
    simp only [if_true] at hm2
    subst hm2
    rw [Tryz.cellsNodeD] at h2 h3
    have h2' : d = .slice ((List.range len).map D) ((List.range (m - len)).map fun j => D (len + j)) := congrArg Prod.fst h2
    rw [h2'] at hwt
    unfold maxLen at hm1
    have each : ∀ i, i < len → ∃ s : Nd, ∃ b o aa ac ka kc, some a = some (⟨b, o, none⟩ : Addr) ∧ NdAt w b (o + i * 7) s aa ac ka kc := by
      intro i hi
      obtain ⟨cs0, q0, _⟩ := h3 0 (by omega)
      obtain ⟨z1, z2⟩ := cells_get q0
      have hs := spot_none (z2 0 _ (List.getElem?_eq_getElem (by omega)))
      have hs' : a = ⟨a.block, a.off, none⟩ := by simpa [Addr.add] using hs
      obtain ⟨cs', qq, htr⟩ := h3 i (by omega)
      obtain ⟨g1, g2⟩ := cells_get qq
      have hmem : D i ∈ (List.range len).map D := List.mem_map.2 ⟨i, List.mem_range.2 hi, rfl⟩
      obtain ⟨nn, aa, ac, ka, kc, rfl, hfit, hA, hK⟩ := node_of_trod (D i) n' cs' (Pl i) (fun x hx => hwt x (by
        simp only [DataW.weights, Tryz.underlying22]
        exact List.mem_cons_of_mem _ (List.mem_append_left _ (weightsAll_mem hmem _ hx)))) htr
      have p0 := g2 0 _ rfl
      have p1 := g2 1 _ rfl
      have p2 := g2 2 _ rfl
      have p3 := g2 3 _ rfl
      have p4 := g2 4 _ rfl
      have p5 := g2 5 _ rfl
      have p6 := g2 6 _ rfl
      rw [hs', add_plain, add_plain] at p0 p1 p2 p3 p4 p5 p6
      exact ⟨nn, a.block, a.off, aa, ac, ka, kc, by rw [← hs'], ⟨by simpa using p0, by simpa using p1, by simpa using p2, by simpa using p3, by simpa using p4, by simpa using p5, by simpa using p6, hfit, hA, hK⟩⟩
    obtain ⟨ns, hlen', hns⟩ := list_of each
    refine ⟨some a, m, ns, by rw [hlen']; exact h1, by omega, hm1, ?_, fun i u hu => hns i u hu⟩
    have := hwt _ (by simp only [DataW.weights, Tryz.underlying22]; exact List.mem_cons_self)
    simp only [List.length_map, List.length_range, Tryz.bytesNodeD] at this
    rw [reach_eq] at this
    omega

/-- A display that came in. -/
def DsArg (w : World) (x : Value) (s : Ds) : Prop := ∃ a c, x = .agg #[.slice a s.nodes.length c, .int .i64 s.root, .int .i64 s.next] ∧ DsIs w s a c

set_option maxRecDepth 100000 in
theorem ds_of_arg {H : Type} {enc : TypeId × Value → H} {w : World} {base : Nat} {x : Value} {d : DataW H} {pl : List MemPlace} (hx : Value.okWide Tryz.prog w .any base 24 x) (h : DataW.Trod enc Tryz.prog w 0 (fun _ => true) true 24 x d pl)
    (hwt : ∀ n ∈ d.weights Tryz.prog 24, n ≤ reachBytes) : ∃ s, DsArg w x s := by
  obtain ⟨fuel, hf⟩ := h
  obtain ⟨cs, rfl⟩ : ∃ cs, x = .agg cs := by
    unfold Value.okWide at hx
    rw [Tryz.underlying24] at hx
    obtain ⟨cs, h, _⟩ := hx
    exact ⟨cs, h⟩
  obtain ⟨l, rfl⟩ : ∃ l : List Value, cs = l.toArray := ⟨cs.toList, by simp⟩
  have hf' : DataW.trod enc Tryz.prog w 0 (fun _ => true) true fuel 24 l = some (d, pl) := by simpa [Value.cells] using hf
  obtain ⟨xs, n, _, hxx, hl, hlen, hf⟩ := DataW.trod_struct Tryz.underlying24 hf'
  match xs, hlen with
  | [y0, y1, y2], _ =>
  rw [Tryz.cellsStateD] at hl
  match l, hl with
  | [c0, c1, c2], _ =>
  have f0 : DataW.trod enc Tryz.prog w 0 (fun _ => true) true n 22 (([c0, c1, c2].drop 0).take (Tryz.prog.cellsOf 22)) = some y0 := hf 0 _ rfl
  rw [Tryz.cellsNodesD] at f0
  have f1 : DataW.trod enc Tryz.prog w 0 (fun _ => true) true n 3 (([c0, c1, c2].drop 1).take (Tryz.prog.cellsOf 3)) = some y1 := hf 1 _ rfl
  rw [Tryz.cellsIntD] at f1
  have f2 : DataW.trod enc Tryz.prog w 0 (fun _ => true) true n 3 (([c0, c1, c2].drop 2).take (Tryz.prog.cellsOf 3)) = some y2 := hf 2 _ rfl
  rw [Tryz.cellsIntD] at f2
  obtain ⟨t1, e1, rfl, w1⟩ := DataW.trod_int Tryz.underlying3 f1
  obtain ⟨t2, e2, rfl, w2⟩ := DataW.trod_int Tryz.underlying3 f2
  have e1' : c1 = .int .i64 t1 := by simpa using e1
  have e2' : c2 = .int .i64 t2 := by simpa using e2
  clear e1 e2
  subst e1' e2'
  have hd : d = .agg [y0.1, .lit (.int .i64 t1), .lit (.int .i64 t2)] := by
    have := congrArg Prod.fst hxx
    simpa using this
  subst hd
  have ew : (DataW.agg [y0.1, .lit (.int .i64 t1), .lit (.int .i64 t2)] : DataW H).weights Tryz.prog 24 = y0.1.weights Tryz.prog 22 := by
    simp [DataW.weights, Tryz.underlying24, DataW.weightsEach]
  rw [ew] at hwt
  have f0' : DataW.trod enc Tryz.prog w 0 (fun _ => true) true n 22 [c0] = some (y0.1, y0.2) := f0
  obtain ⟨a, cp, ns, rfl, k1, k2, k3, k4⟩ := nodes_of_trod hwt f0'
  exact ⟨⟨ns, t1, t2⟩, a, cp, rfl, k4, k3, ⟨k1, k2⟩, i64_of w1, i64_of w2⟩

/-- A patch that came in. -/
def PtArg (x : Value) (p : Pt) : Prop := x = mkP p ∧ PtOk p ∧ -9223372036854775808 ≤ p.what ∧ p.what ≤ 9223372036854775807

set_option maxRecDepth 100000 in
theorem pt_of_arg {H : Type} {enc : TypeId × Value → H} {w : World} {base : Nat} {x : Value} {d : DataW H} {pl : List MemPlace} (hx : Value.okWide Tryz.prog w .any base 26 x) (h : DataW.Trod enc Tryz.prog w 0 (fun _ => true) true 26 x d pl)
    (hwt : ∀ n ∈ d.weights Tryz.prog 26, n ≤ reachBytes) : ∃ p, PtArg x p := by
  obtain ⟨fuel, hf⟩ := h
  obtain ⟨cs, rfl⟩ : ∃ cs, x = .agg cs := by
    unfold Value.okWide at hx
    rw [Tryz.underlying26] at hx
    obtain ⟨cs, h, _⟩ := hx
    exact ⟨cs, h⟩
  obtain ⟨l, rfl⟩ : ∃ l : List Value, cs = l.toArray := ⟨cs.toList, by simp⟩
  have hf' : DataW.trod enc Tryz.prog w 0 (fun _ => true) true fuel 26 l = some (d, pl) := by simpa [Value.cells] using hf
  obtain ⟨xs, n, _, hxx, hl, hlen, hf⟩ := DataW.trod_struct Tryz.underlying26 hf'
  match xs, hlen with
  | [y0, y1, y2, y3, y4, y5, y6, y7, y8], _ =>
  rw [Tryz.cellsPatchD] at hl
  match l, hl with
  | [c0, c1, c2, c3, c4, c5, c6, c7, c8], _ =>
  have f0 : DataW.trod enc Tryz.prog w 0 (fun _ => true) true n 3 (([c0, c1, c2, c3, c4, c5, c6, c7, c8].drop 0).take (Tryz.prog.cellsOf 3)) = some y0 := hf 0 _ rfl
  rw [Tryz.cellsIntD] at f0
  have f1 : DataW.trod enc Tryz.prog w 0 (fun _ => true) true n 3 (([c0, c1, c2, c3, c4, c5, c6, c7, c8].drop 1).take (Tryz.prog.cellsOf 3)) = some y1 := hf 1 _ rfl
  rw [Tryz.cellsIntD] at f1
  have f2 : DataW.trod enc Tryz.prog w 0 (fun _ => true) true n 3 (([c0, c1, c2, c3, c4, c5, c6, c7, c8].drop 2).take (Tryz.prog.cellsOf 3)) = some y2 := hf 2 _ rfl
  rw [Tryz.cellsIntD] at f2
  have f3 : DataW.trod enc Tryz.prog w 0 (fun _ => true) true n 3 (([c0, c1, c2, c3, c4, c5, c6, c7, c8].drop 3).take (Tryz.prog.cellsOf 3)) = some y3 := hf 3 _ rfl
  rw [Tryz.cellsIntD] at f3
  have f4 : DataW.trod enc Tryz.prog w 0 (fun _ => true) true n 9 (([c0, c1, c2, c3, c4, c5, c6, c7, c8].drop 4).take (Tryz.prog.cellsOf 9)) = some y4 := hf 4 _ rfl
  rw [Tryz.cellsStr] at f4
  have f5 : DataW.trod enc Tryz.prog w 0 (fun _ => true) true n 9 (([c0, c1, c2, c3, c4, c5, c6, c7, c8].drop 5).take (Tryz.prog.cellsOf 9)) = some y5 := hf 5 _ rfl
  rw [Tryz.cellsStr] at f5
  have f6 : DataW.trod enc Tryz.prog w 0 (fun _ => true) true n 9 (([c0, c1, c2, c3, c4, c5, c6, c7, c8].drop 6).take (Tryz.prog.cellsOf 9)) = some y6 := hf 6 _ rfl
  rw [Tryz.cellsStr] at f6
  have f7 : DataW.trod enc Tryz.prog w 0 (fun _ => true) true n 9 (([c0, c1, c2, c3, c4, c5, c6, c7, c8].drop 7).take (Tryz.prog.cellsOf 9)) = some y7 := hf 7 _ rfl
  rw [Tryz.cellsStr] at f7
  have f8 : DataW.trod enc Tryz.prog w 0 (fun _ => true) true n 9 (([c0, c1, c2, c3, c4, c5, c6, c7, c8].drop 8).take (Tryz.prog.cellsOf 9)) = some y8 := hf 8 _ rfl
  rw [Tryz.cellsStr] at f8
  obtain ⟨t0, e0, rfl, w0⟩ := DataW.trod_int Tryz.underlying3 f0
  have e0' : c0 = .int .i64 t0 := by simpa using e0
  obtain ⟨t1, e1, rfl, w1⟩ := DataW.trod_int Tryz.underlying3 f1
  have e1' : c1 = .int .i64 t1 := by simpa using e1
  obtain ⟨t2, e2, rfl, w2⟩ := DataW.trod_int Tryz.underlying3 f2
  have e2' : c2 = .int .i64 t2 := by simpa using e2
  obtain ⟨t3, e3, rfl, w3⟩ := DataW.trod_int Tryz.underlying3 f3
  have e3' : c3 = .int .i64 t3 := by simpa using e3
  obtain ⟨t4, e4, rfl, w4⟩ := DataW.trod_string Tryz.underlying9 f4
  have e4' : c4 = .string t4 := by simpa using e4
  obtain ⟨t5, e5, rfl, w5⟩ := DataW.trod_string Tryz.underlying9 f5
  have e5' : c5 = .string t5 := by simpa using e5
  obtain ⟨t6, e6, rfl, w6⟩ := DataW.trod_string Tryz.underlying9 f6
  have e6' : c6 = .string t6 := by simpa using e6
  obtain ⟨t7, e7, rfl, w7⟩ := DataW.trod_string Tryz.underlying9 f7
  have e7' : c7 = .string t7 := by simpa using e7
  obtain ⟨t8, e8, rfl, w8⟩ := DataW.trod_string Tryz.underlying9 f8
  have e8' : c8 = .string t8 := by simpa using e8
  clear e0 e1 e2 e3 e4 e5 e6 e7 e8
  subst e0' e1' e2' e3' e4' e5' e6' e7' e8'
  have hd : d = .agg [.lit (.int .i64 t0), .lit (.int .i64 t1), .lit (.int .i64 t2), .lit (.int .i64 t3), .lit (.string t4.data.toList), .lit (.string t5.data.toList), .lit (.string t6.data.toList), .lit (.string t7.data.toList), .lit (.string t8.data.toList)] := by
    have := congrArg Prod.fst hxx
    simpa using this
  subst hd
  have ew : (DataW.agg [.lit (.int .i64 t0), .lit (.int .i64 t1), .lit (.int .i64 t2), .lit (.int .i64 t3), .lit (.string t4.data.toList), .lit (.string t5.data.toList), .lit (.string t6.data.toList), .lit (.string t7.data.toList), .lit (.string t8.data.toList)] : DataW H).weights Tryz.prog 26 = [t4.data.toList.length, t5.data.toList.length, t6.data.toList.length, t7.data.toList.length, t8.data.toList.length] := by
    simp [DataW.weights, Tryz.underlying26, DataW.weightsEach]
  rw [ew] at hwt
  have a4 : t4.size ≤ 140737488351232 := by have e : t4.data.toList.length = t4.size := (by cases t4; rfl); have := hwt t4.data.toList.length (by simp); rw [e, reach_eq] at this; exact this
  have a5 : t5.size ≤ 140737488351232 := by have e : t5.data.toList.length = t5.size := (by cases t5; rfl); have := hwt t5.data.toList.length (by simp); rw [e, reach_eq] at this; exact this
  have a6 : t6.size ≤ 140737488351232 := by have e : t6.data.toList.length = t6.size := (by cases t6; rfl); have := hwt t6.data.toList.length (by simp); rw [e, reach_eq] at this; exact this
  have a7 : t7.size ≤ 140737488351232 := by have e : t7.data.toList.length = t7.size := (by cases t7; rfl); have := hwt t7.data.toList.length (by simp); rw [e, reach_eq] at this; exact this
  have a8 : t8.size ≤ 140737488351232 := by have e : t8.data.toList.length = t8.size := (by cases t8; rfl); have := hwt t8.data.toList.length (by simp); rw [e, reach_eq] at this; exact this
  exact ⟨⟨t0, t1, t2, t3, t4, t5, t6, t7, t8⟩, rfl, ⟨i64_of w1, i64_of w2, i64_of w3, a4, a5, a6, a7, a8⟩, i64_of w0⟩
end Go.Proofs.YtcdnakcojanaeabGreat

/-
  Of: a display for the program, in memory of its own.
-/
namespace Go.Proofs.YtcdnakcojanaeabGreat
open Go.ChangeShapes Go.WideShapes Go.ChangeAt Go.RowKit Go.Deep
open Do

/-- append of attributes to nothing, as one step. -/
theorem step_copyA {ops : Array Oper} {o : Oper} {a : Act} {w : World} {K : Act → World → Prop} {Q : Exit → Act → World → Prop} {E : Prop} (hgd : o.guard = none) (s x : Operand)
    (hop : o.op = .call { callee := .builtin .append, args := #[s, x], argTypes := #[38, 38] }) (aa : Option Addr) (ac : Nat) (ats : List Atr) (hs : a.eval s = .slice none 0 0) (hx : a.eval x = .slice aa ats.length ac) (hnone : aa = none → ats.length = 0 ∧ ac = 0) (hL : LayA w aa ats) (hlen : ats.length * 32 ≤ 140737488351232)
    (h : ∀ v' w', OwnA w' w.heap.size v' ats → Below w.heap.size w w' → K (a.put o.dst v') w') :
    if Region.wanted o (yielded ops a.tmps) = true then Oper.wp Tryz.prog o a w K Q else E := by
  have hw : Region.wanted o (yielded ops a.tmps) = true := by simp [Region.wanted, hgd]
  rw [if_pos hw]
  obtain ⟨i0, hi, hz0, hz1, hz2⟩ := info_parts Tryz.infoAtr
  cases aa with
  | none =>
    obtain ⟨h0, rfl⟩ := hnone rfl
    have : ats = [] := List.eq_nil_of_length_eq_zero h0
    subst this
    have hr := run_append_owned_none (P := Tryz.prog) (w := w) w.heap.size 38 o.type 43 i0 2 Tryz.underlying38 hi (.slice none 0 0) 0 [] (World.ownsRow_nil _ _ _ _)
    unfold Oper.wp execOp
    simp only [hop, resolve, invoke, builtin, Sem.run_bind, Sem.run_pure, Result.andThen_ok, List.map_toArray, List.map_cons, List.map_nil, hs, hx, hr, List.length_nil]
    exact h _ _ (OwnA.nil _ _) (Below.refl _ _)
  | some ad =>
    have hnews : ∀ j u, (cellsA ats)[j]? = some u → w.cell? (ad.add j) = some u := by
      intro j u hj
      obtain ⟨i, s, hs, hq⟩ := cellsA_cell ats j u hj
      obtain ⟨b2, o2, e, hc, hc', _⟩ := hL i s hs
      cases e
      rw [add_plain]
      rcases hq with ⟨rfl, rfl⟩ | ⟨rfl, rfl⟩
      · exact hc
      · rw [← Nat.add_assoc]; exact hc'
    obtain ⟨v', w', hr, h2, h3, h4⟩ := run_append_apart (P := Tryz.prog) w w.heap.size 38 o.type 43 i0 _ 2 32 Tryz.underlying38 hi hz0 hz1 hz2 rfl (by decide) (.slice none 0 0) 0 [] (World.ownsRow_nil _ _ _ _) ad ats.length ac (cellsA ats) (cellsA_length ats) hnews (cellsA_one ats) (by unfold maxLen; omega) (by omega) (Nat.le_refl _)
    unfold Oper.wp execOp
    simp only [hop, resolve, invoke, builtin, Sem.run_bind, Sem.run_pure, Result.andThen_ok, List.map_toArray, List.map_cons, List.map_nil, hs, hx, hr]
    refine h v' w' ?_ ⟨h3.os, h3.tape, h3.output, h3.size, fun j hj => h3.block j hj (by simp [Value.ownBlock])⟩
    unfold OwnA
    simpa using h2

/-- CopyInts, as one step. -/
theorem step_copyI {ops : Array Oper} {o : Oper} {a : Act} {w : World} {K : Act → World → Prop} {Q : Exit → Act → World → Prop} {E : Prop} (hg : o.guard = none) (s1 : Operand) (ts : Array TypeId)
    (ho : o.op = .call { callee := .value (.func 13), args := #[s1], argTypes := ts }) (ka : Option Addr) (kc : Nat) (ks : List Int) (h1 : a.eval s1 = .slice ka ks.length kc) (hl : NmZ w ka kc ks) (h : ∀ v' w', OwnZ w' w.heap.size v' ks → Below w.heap.size w w' → K (a.put o.dst v') w') :
    if Region.wanted o (yielded ops a.tmps) = true then Oper.wp Tryz.prog o a w K Q else E := by
  have hw : Region.wanted o (yielded ops a.tmps) = true := by simp [Region.wanted, hg]
  rw [if_pos hw]
  have hf : Sem.run Tryz.prog (callFunc 13 #[.slice ka ks.length kc]) w = .ok (.enter 13 #[.slice ka ks.length kc]) w := by go_simp
  have hrun : (execOp a.eval o).run Tryz.prog w = .ok (.enter 13 #[.slice ka ks.length kc]) w := by
    unfold execOp
    simp only [ho, resolve, invoke, List.map_toArray, List.map_cons, List.map_nil, h1]
    exact hf
  unfold Oper.wp
  rw [hrun]
  refine (copyI_any ks ka kc w hl).mono ?_
  rintro e w' ⟨v', rfl, q1, q2⟩
  exact h v' w' q1 q2

/-- The same, at the operation itself. -/
theorem op_copyA {o : Oper} {d : Option Tmp} (hd : o.dst = d) {a : Act} {w : World} {K : Act → World → Prop} {Q : Exit → Act → World → Prop} (hgd : o.guard = none) (s x : Operand)
    (hop : o.op = .call { callee := .builtin .append, args := #[s, x], argTypes := #[38, 38] }) (aa : Option Addr) (ac : Nat) (ats : List Atr) (hs : a.eval s = .slice none 0 0) (hx : a.eval x = .slice aa ats.length ac) (hnone : aa = none → ats.length = 0 ∧ ac = 0) (hL : LayA w aa ats) (hlen : ats.length * 32 ≤ 140737488351232)
    (h : ∀ v' w', OwnA w' w.heap.size v' ats → Below w.heap.size w w' → K (a.put d v') w') : Oper.wp Tryz.prog o a w K Q := by
  subst hd
  have hw : Region.wanted o (yielded #[] a.tmps) = true := by simp [Region.wanted, hgd]
  have := step_copyA (ops := #[]) (E := True) (Q := Q) hgd s x hop aa ac ats hs hx hnone hL hlen h
  rwa [if_pos hw] at this

theorem op_copyI {o : Oper} {d : Option Tmp} (hd : o.dst = d) {a : Act} {w : World} {K : Act → World → Prop} {Q : Exit → Act → World → Prop} (hg : o.guard = none) (s1 : Operand) (ts : Array TypeId)
    (ho : o.op = .call { callee := .value (.func 13), args := #[s1], argTypes := ts }) (ka : Option Addr) (kc : Nat) (ks : List Int) (h1 : a.eval s1 = .slice ka ks.length kc) (hl : NmZ w ka kc ks) (h : ∀ v' w', OwnZ w' w.heap.size v' ks → Below w.heap.size w w' → K (a.put d v') w') : Oper.wp Tryz.prog o a w K Q := by
  subst hd
  have hw : Region.wanted o (yielded #[] a.tmps) = true := by simp [Region.wanted, hg]
  have := step_copyI (ops := #[]) (E := True) (Q := Q) hg s1 ts ho ka kc ks h1 hl h
  rwa [if_pos hw] at this

theorem op_pushN {o : Oper} {d : Option Tmp} (hd : o.dst = d) {a : Act} {w : World} {K : Act → World → Prop} {Q : Exit → Act → World → Prop} (hgd : o.guard = none) (s x : Operand)
    (hop : o.op = .call { callee := .builtin .append, args := #[s, x], argTypes := #[28, 28] })
    (B : Nat) (v : Value) (m : Nat) (cs : List Value) (hs : a.eval s = v) (hL : w.ownsRow B 41 7 v m cs) (n : Nd) (aa : Option Addr) (al ac : Nat) (ka : Option Addr) (kl kc : Nat) (ad : Addr) (c : Nat) (hx : a.eval x = .slice (some ad) 1 c)
    (hnews : ∀ j u, (cellsN n (.slice aa al ac) (.slice ka kl kc))[j]? = some u → w.cell? (ad.add j) = some u) (hlen : (m + 1) * 112 ≤ 140737488355328) (hB : B ≤ w.heap.size)
    (h : ∀ v' w', w'.ownsRow B 41 7 v' (m + 1) (cs ++ cellsN n (.slice aa al ac) (.slice ka kl kc)) → w.grownBy w' v.ownBlock → (v'.ownBlock = v.ownBlock ∨ ∀ g, v'.ownBlock = some g → w.heap.size ≤ g) → K (a.put d v') w') : Oper.wp Tryz.prog o a w K Q := by
  subst hd
  have hw : Region.wanted o (yielded #[] a.tmps) = true := by simp [Region.wanted, hgd]
  have := step_pushN (ops := #[]) (E := True) (Q := Q) hgd s x hop B v m cs hs hL n aa al ac ka kl kc ad c hx hnews hlen hB h
  rwa [if_pos hw] at this
end Go.Proofs.YtcdnakcojanaeabGreat

/-
  A region whose order is open, of which one operation (a store, say) comes behind all that read what it changes: what is read may be taken first, though it does not stay behind that operation.
-/
namespace Go.Proofs.YtcdnakcojanaeabGreat.Rg
open Go Go.RowKit

section
variable {P : Program} {ops : Array Oper} {Q : Exit → Act → World → Prop} {S : World → Prop} {k : Nat}

/-- Whatever comes up: behind each operation but number k the world is one of S. -/
def Till (P : Program) (ops : Array Oper) (Q : Exit → Act → World → Prop) (S : World → Prop) (k : Nat) : Nat → Array Bool → Act → World → Prop
  | 0, listed, a, w => Region.ready .any ops listed = [] ∧ Q .normal a w
  | n + 1, listed, a, w => (Region.ready .any ops listed = [] → Q .normal a w) ∧
      ∀ i ∈ Region.ready .any ops listed, wpOp P ops Q i (fun a' w' => (i ≠ k → S w') ∧ Till P ops Q S k n (listed.setIfInBounds i true) a' w') a w

theorem Till.any : ∀ {n : Nat} {listed : Array Bool} {a : Act} {w : World}, Till P ops Q S k n listed a w → wpAny P .any ops Q n listed a w
  | 0, _, _, _, h => h
  | _ + 1, _, _, _, h => And.intro h.1 fun i hi => wpOp_mono (fun _ _ q => Till.any q.2) (h.2 i hi)

/-- Does number k wait for number i? -/
def waitsB (ops : Array Oper) (k i : Nat) : Bool := match ops[k]? with
  | none => false
  | some o => o.after.any fun e => Region.binds .any e && e.on == i

theorem not_ready {i : Nat} {listed : Array Bool} (hw : waitsB ops k i = true) (hi : i ∈ Region.ready .any ops listed) : ¬ k ∈ Region.ready .any ops listed := by
  intro hk
  obtain ⟨_, o, ho, hall⟩ := mem_ready.1 hk
  unfold waitsB at hw
  rw [ho] at hw
  obtain ⟨e, he, hb⟩ := Array.any_eq_true'.1 hw
  simp only [Bool.and_eq_true, beq_iff_eq] at hb
  have h1 := hall e he hb.1
  rw [hb.2] at h1
  have h0 := (mem_ready.1 hi).1
  by_cases hlt : i < listed.size
  · simp only [Array.getD_eq_getD_getElem?, Array.getElem?_eq_getElem hlt, Option.getD_some] at h0 h1
    rw [h0] at h1
    cases h1
  · simp [Array.getElem?_eq_none (Nat.le_of_not_lt hlt)] at h0

/-- What only reads, and gives its value in every world of S, and for which number k waits, may be taken first. -/
theorem Till.take {i : Nat} {oi : Oper} {v : Value} (d : Option Tmp) (hi : ops[i]? = some oi) (hd : oi.dst = d) (hs : Region.noSelect ops = true) (hk : waitsB ops k i = true) (hQ : ∀ c a w, Q (.panic c) (a.put d v) w → Q (.panic c) a w) :
    ∀ {n : Nat} {listed : Array Bool} {a : Act} {w : World}, Region.free .any ops listed i = true → (Region.ready .any ops listed).contains i = true → YieldsIf P ops S oi v a → S w →
      Till P ops Q S k n (listed.setIfInBounds i true) (a.put d v) w → Till P ops Q S k (n + 1) listed a w := by
  subst hd
  have key : ∀ (n : Nat) (listed : Array Bool) (a : Act) (w : World),
      (∀ j oj, ops[j]? = some oj → j ≠ i → listed.getD j true = false → (∀ e ∈ oj.after, Region.binds .any e = true → e.on ≠ i) → oi.apart ops oj = true) → i ∈ Region.ready .any ops listed → YieldsIf P ops S oi v a → S w →
      Till P ops Q S k n (listed.setIfInBounds i true) (a.put oi.dst v) w → Till P ops Q S k (n + 1) listed a w := by
    intro n
    induction n with
    | zero =>
      intro listed a w _ hr hy hS H
      refine ⟨fun e => absurd hr (by rw [e]; simp), fun j hj => ?_⟩
      by_cases hji : j = i
      · rw [hji] at hj ⊢
        exact hy.wpOp hi hS ⟨fun _ => hS, H⟩
      · exact absurd (ready_mono hj hji) (by rw [H.1]; simp)
    | succ n ih =>
      intro listed a w hap hr hy hS H
      refine ⟨fun e => absurd hr (by rw [e]; simp), fun j hj => ?_⟩
      by_cases hji : j = i
      · rw [hji] at hj ⊢
        exact hy.wpOp hi hS ⟨fun _ => hS, H⟩
      · have hjk : j ≠ k := fun e => not_ready hk hr (by rw [← e]; exact hj)
        obtain ⟨hun, oj, hoj, hall⟩ := mem_ready.1 hj
        have hno : ∀ e ∈ oj.after, Region.binds .any e = true → e.on ≠ i := fun e he hb e1 => by
          refine not_ready (k := j) (ops := ops) (i := i) ?_ hr hj
          unfold waitsB
          rw [hoj]
          exact Array.any_eq_true'.2 ⟨e, he, by simp [hb, e1]⟩
        have h2 := wpOp_putIf hoj (hap j oj hoj hji hun hno) (fun cs b => Region.noSelect_spec hs i oi cs b hi) (fun cs b => Region.noSelect_spec hs j oj cs b hoj) hQ hy (H.2 j (ready_mono hj hji))
        refine wpOp_mono (fun a' w' q => ⟨fun _ => q.2.1 hjk, ih _ a' w' (fun m om hm hmi hmu hmo => hap m om hm hmi ?_ hmo) (ready_mono hr (Ne.symm hji)) q.1 (q.2.1 hjk) ?_⟩) h2
        · by_cases e : j = m
          · rw [← e]; exact hun
          · rwa [getD_set_ne true e] at hmu
        · rw [Array.setIfInBounds_comm _ _ hji]
          exact q.2.2
  intro n listed a w hf hr hy hS H
  exact key n listed a w (Region.free_spec hi hf) (by simpa using hr) hy hS H

/-- One of those that may come up. -/
theorem Till.all {rs : List Nat} {n : Nat} {listed : Array Bool} {a : Act} {w : World} (hr : Region.ready .any ops listed = rs) (hne : rs ≠ []) (h : ∀ i ∈ rs, wpOp P ops Q i (fun a' w' => (i ≠ k → S w') ∧ Till P ops Q S k n (listed.setIfInBounds i true) a' w') a w) :
    Till P ops Q S k (n + 1) listed a w := ⟨fun h0 => absurd (hr.symm.trans h0) hne, by rw [hr]; exact h⟩

theorem Till.one {i : Nat} {o : Oper} {n : Nat} {listed : Array Bool} {a : Act} {w : World} (hr : Region.ready .any ops listed = [i]) (ho : ops[i]? = some o) (hg : o.guard = none)
    (h : Oper.wp P o a w (fun a' w' => (i ≠ k → S w') ∧ Till P ops Q S k n (listed.setIfInBounds i true) a' w') Q) : Till P ops Q S k (n + 1) listed a w := by
  refine Till.all hr (by simp) fun j hj => ?_
  rw [List.mem_singleton] at hj
  subst hj
  unfold wpOp
  simp only [ho]
  rw [if_pos (by simp [Region.wanted, hg])]
  exact Or.inl h

/-- The same, with what follows as a letter. -/
theorem Till.oneK {i : Nat} {o : Oper} {n : Nat} {listed : Array Bool} {a : Act} {w : World} (hr : Region.ready .any ops listed = [i]) (ho : ops[i]? = some o) (hg : o.guard = none)
    (h : ∀ K : Act → World → Prop, Hid (∀ a' w', (i ≠ k → S w') → Till P ops Q S k n (listed.setIfInBounds i true) a' w' → K a' w') → Oper.wp P o a w K Q) : Till P ops Q S k (n + 1) listed a w :=
  Till.one hr ho hg (h _ fun _ _ q1 q2 => ⟨q1, q2⟩)

theorem Till.two {i j : Nat} {oi oj : Oper} {n : Nat} {listed : Array Bool} {a : Act} {w : World} (hr : Region.ready .any ops listed = [i, j]) (hi : ops[i]? = some oi) (hj : ops[j]? = some oj) (gi : oi.guard = none) (gj : oj.guard = none)
    (h1 : Oper.wp P oi a w (fun a' w' => (i ≠ k → S w') ∧ Till P ops Q S k n (listed.setIfInBounds i true) a' w') Q) (h2 : Oper.wp P oj a w (fun a' w' => (j ≠ k → S w') ∧ Till P ops Q S k n (listed.setIfInBounds j true) a' w') Q) : Till P ops Q S k (n + 1) listed a w := by
  refine Till.all hr (by simp) fun m hm => ?_
  simp only [List.mem_cons, List.not_mem_nil, or_false] at hm
  rcases hm with rfl | rfl
  · unfold wpOp
    simp only [hi]
    rw [if_pos (by simp [Region.wanted, gi])]
    exact Or.inl h1
  · unfold wpOp
    simp only [hj]
    rw [if_pos (by simp [Region.wanted, gj])]
    exact Or.inl h2

theorem Till.twoK {i j : Nat} {oi oj : Oper} {n : Nat} {listed : Array Bool} {a : Act} {w : World} (hr : Region.ready .any ops listed = [i, j]) (hi : ops[i]? = some oi) (hj : ops[j]? = some oj) (gi : oi.guard = none) (gj : oj.guard = none)
    (h1 : ∀ K : Act → World → Prop, Hid (∀ a' w', (i ≠ k → S w') → Till P ops Q S k n (listed.setIfInBounds i true) a' w' → K a' w') → Oper.wp P oi a w K Q)
    (h2 : ∀ K : Act → World → Prop, Hid (∀ a' w', (j ≠ k → S w') → Till P ops Q S k n (listed.setIfInBounds j true) a' w' → K a' w') → Oper.wp P oj a w K Q) : Till P ops Q S k (n + 1) listed a w :=
  Till.two hr hi hj gi gj (h1 _ fun _ _ q1 q2 => ⟨q1, q2⟩) (h2 _ fun _ _ q1 q2 => ⟨q1, q2⟩)

theorem Till.done {n : Nat} {listed : Array Bool} {a : Act} {w : World} (hr : Region.ready .any ops listed = []) (h : Q .normal a w) : Till P ops Q S k n listed a w := by
  cases n with
  | zero => exact ⟨hr, h⟩
  | succ n => exact ⟨fun _ => h, by rw [hr]; intro i hi; cases hi⟩

theorem Till.region {id : Nat} {a : Act} {w : World} (S : World → Prop) (k : Nat) (hm : P.follows .mixedOrders = true) (h : Till P ops Q S k ops.size (Array.replicate ops.size false) a w.drew) : (Code.region id ops true).wp P Q a w :=
  wp_region_any hm h.any
end
end Go.Proofs.YtcdnakcojanaeabGreat.Rg

/-
  Of, walked.
-/
namespace Go.Proofs.YtcdnakcojanaeabGreat
open Go.ChangeShapes Go.WideShapes Go.ChangeAt Go.RowKit Go.Deep
open Do

/-- A node more, with rows of its own. -/
theorem OwnN.pushG {w w' : World} {B : Nat} {v v' : Value} {ns : List Nd} {ab kb : Nat → Value} (h : OwnN w B v ns ab kb) {n : Nd} (hn : NdFit n) {av kv : Value} (hA : OwnA w B av n.ats) (hK : OwnZ w B kv n.kids) (hab : ∀ i g, i < ns.length → av.ownBlock = some g → (ab i).ownBlock ≠ some g) (hkb : ∀ i g, i < ns.length → kv.ownBlock = some g → (kb i).ownBlock ≠ some g)
    (hr : w'.ownsRow B 41 7 v' (ns.length + 1) (rowN ns ab kb ++ cellsN n av kv)) (hg : w.grownBy w' v.ownBlock) :
    OwnN w' B v' (ns ++ [n]) (upd ab ns.length av) (upd kb ns.length kv) := by
  have hrow : ∀ b, some b = v.ownBlock → ∃ cur, w.heap[b]? = some (.cells cur 41 (0, 0)) := by
    intro b e
    rcases h.row.2 with ⟨rfl, -⟩ | ⟨g', cap, cur, rfl, _, q2, -⟩
    · cases e
    · simp only [Value.ownBlock, Option.some.injEq] at e
      subst e
      exact ⟨cur, q2⟩
  have notA : ∀ {x : Value} {l : List Atr} {D : Nat}, OwnA w D x l → ∀ b, x.ownBlock = some b → some b ≠ v.ownBlock := by
    intro x l D hx b hb e
    obtain ⟨cur, hcur⟩ := hrow b e
    obtain ⟨cu, hc, -⟩ := hx.block hb
    rw [hcur] at hc
    simp at hc
  have notZ : ∀ {x : Value} {l : List Int} {D : Nat}, OwnZ w D x l → ∀ b, x.ownBlock = some b → some b ≠ v.ownBlock := by
    intro x l D hx b hb e
    obtain ⟨cur, hcur⟩ := hrow b e
    obtain ⟨cu, hc, -⟩ := hx.block hb
    rw [hcur] at hc
    simp at hc
  have e1 : rowN (ns ++ [n]) (upd ab ns.length av) (upd kb ns.length kv) = rowN ns ab kb ++ cellsN n av kv := by
    rw [rowN_snoc, upd_same, upd_same, rowN_congr ns fun i hi => ⟨upd_other _ _ (by omega), upd_other _ _ (by omega)⟩]
  have split : ∀ (i : Nat) (m : Nd), (ns ++ [n])[i]? = some m → (i < ns.length ∧ ns[i]? = some m) ∨ (i = ns.length ∧ m = n) := by
    intro i m hm
    by_cases hi : i < ns.length
    · rw [List.getElem?_append_left hi] at hm
      exact Or.inl ⟨hi, hm⟩
    · rw [List.getElem?_append_right (by omega)] at hm
      have hz : i - ns.length = 0 := by
        have := (List.getElem?_eq_some_iff.1 hm).1
        simp at this
        omega
      rw [hz] at hm
      simp at hm
      exact Or.inr ⟨by omega, hm.symm⟩
  have hlen : (ns ++ [n]).length = ns.length + 1 := by simp
  refine ⟨by rw [hlen, e1]; exact hr, ?_, ?_, ?_, ?_, ?_⟩
  · intro i m hm
    rcases split i m hm with ⟨hi, hm⟩ | ⟨rfl, rfl⟩
    · rw [upd_other _ _ (by omega)]
      have ho := h.ats i m hm
      exact ho.same fun b hb => hg.block b (ho.lt b hb).2 (notA ho b hb)
    · rw [upd_same]
      exact hA.same fun b hb => hg.block b (hA.lt b hb).2 (notA hA b hb)
  · intro i m hm
    rcases split i m hm with ⟨hi, hm⟩ | ⟨rfl, rfl⟩
    · rw [upd_other _ _ (by omega)]
      have ho := h.kids i m hm
      exact ho.same fun b hb => hg.block b (ho.lt b hb).2 (notZ ho b hb)
    · rw [upd_same]
      exact hK.same fun b hb => hg.block b (hK.lt b hb).2 (notZ hK b hb)
  · intro i j b hi hj hij hb hb'
    rw [hlen] at hi hj
    by_cases e : i = ns.length
    · subst e
      rw [upd_same] at hb
      rw [upd_other _ _ (by omega)] at hb'
      exact hab j b (by omega) hb hb'
    · by_cases e' : j = ns.length
      · subst e'
        rw [upd_same] at hb'
        rw [upd_other _ _ e] at hb
        exact hab i b (by omega) hb' hb
      · rw [upd_other _ _ e] at hb
        rw [upd_other _ _ e'] at hb'
        exact h.apa i j b (by omega) (by omega) hij hb hb'
  · intro i j b hi hj hij hb hb'
    rw [hlen] at hi hj
    by_cases e : i = ns.length
    · subst e
      rw [upd_same] at hb
      rw [upd_other _ _ (by omega)] at hb'
      exact hkb j b (by omega) hb hb'
    · by_cases e' : j = ns.length
      · subst e'
        rw [upd_same] at hb'
        rw [upd_other _ _ e] at hb
        exact hkb i b (by omega) hb' hb
      · rw [upd_other _ _ e] at hb
        rw [upd_other _ _ e'] at hb'
        exact h.apk i j b (by omega) (by omega) hij hb hb'
  · intro m hm
    rcases List.mem_append.1 hm with hm | hm
    · exact h.fit m hm
    · have : m = n := by simpa using hm
      rw [this]
      exact hn

/-- What the loop keeps: the row in its variable, the boxes. -/
structure OfI (s : Ds) (a : Option Addr) (c : Nat) (w wr : World) (i : Nat) (v : Value) (ab kb : Nat → Value) : Prop where
  own : OwnN wr (w.heap.size + 3) v (s.nodes.take i) ab kb
  var : wr.heap[w.heap.size + 2]? = some (.cells #[v, .int .i64 s.root, .int .i64 s.next] 30 (0, 0))
  arg : wr.heap[w.heap.size]? = some (.cells #[.slice a s.nodes.length c, .int .i64 s.root, .int .i64 s.next] 24 (0, 0))
  res : wr.heap[w.heap.size + 1]? = some (.cells #[.slice none 0 0, .int .i64 0, .int .i64 0] 30 (0, 0))
  bel : Below w.heap.size w wr

theorem OfI.below {s : Ds} {a : Option Addr} {c : Nat} {w wr w' : World} {i : Nat} {v : Value} {ab kb : Nat → Value} (h : OfI s a c w wr i v ab kb) (hb : Below wr.heap.size wr w') : OfI s a c w w' i v ab kb :=
  ⟨h.own.below hb, (hb.block _ (lt_of_block h.var)).trans h.var, (hb.block _ (lt_of_block h.arg)).trans h.arg, (hb.block _ (lt_of_block h.res)).trans h.res, nxt h.bel hb⟩

/-- The end of a round. -/
theorem OfI.push {s : Ds} {a : Option Addr} {c : Nat} {w w0 w1 w2 : World} {i : Nat} {v v' : Value} {ab kb : Nat → Value} (h : OfI s a c w w0 i v ab kb) {n : Nd} (hn : s.nodes[i]? = some n) (hf : NdFit n) {av kv : Value} (hb : Below w0.heap.size w0 w1) (hA : OwnA w1 w0.heap.size av n.ats) (hK : OwnZ w1 w0.heap.size kv n.kids)
    (hr : w2.ownsRow (w.heap.size + 3) 41 7 v' (i + 1) (rowN (s.nodes.take i) ab kb ++ cellsN n av kv)) (hg : w1.grownBy w2 v.ownBlock) :
    (∃ z, w2.cell? ⟨w.heap.size + 2, 0, none⟩ = some z) ∧ w2.frozen? ⟨w.heap.size + 2, 0, none⟩ = false ∧ (∃ a' c', v' = .slice a' (i + 1) c') ∧ ∃ ab' kb', OfI s a c w (w2.setCell ⟨w.heap.size + 2, 0, none⟩ v') (i + 1) v' ab' kb' := by
  have hil : i < s.nodes.length := (List.getElem?_eq_some_iff.1 hn).1
  have htl : (s.nodes.take i).length = i := by simp; omega
  have h1 := h.below hb
  have hsz := lt_of_block h.var
  have hwb : w.heap.size + 3 ≤ w0.heap.size := by omega
  have hA' : OwnA w1 (w.heap.size + 3) av n.ats := OwnA.less hA hwb
  have hK' : OwnZ w1 (w.heap.size + 3) kv n.kids := hK.less hwb
  have o2 := h1.own.pushG hf hA' hK' (fun j g hj h2 h3 => by
      have q1 := (OwnA.rng hA h2).1
      have q2 := (OwnA.rng (h.own.ats j _ (List.getElem?_eq_getElem hj)) h3).2
      omega) (fun j g hj h2 h3 => by
      have q1 := (hK.lt g h2).1
      have q2 := ((h.own.kids j _ (List.getElem?_eq_getElem hj)).lt g h3).2
      omega) (by rw [htl]; exact hr) hg
  have rowge : ∀ g, v.ownBlock = some g → w.heap.size + 3 ≤ g := fun g hg' => (h.own.row.lt g hg').1
  have keep : ∀ j, j < w.heap.size + 3 → w2.heap[j]? = w1.heap[j]? := fun j hj => hg.block j (by have := hb.size; omega) fun e => by have := rowge j e.symm; omega
  have var2 : w2.heap[w.heap.size + 2]? = _ := (keep _ (by omega)).trans h1.var
  obtain ⟨z0, zf⟩ := cell_of var2 0
  obtain ⟨a', c', hv'⟩ := slice_of_own hr
  refine ⟨⟨_, z0⟩, zf, ⟨a', c', hv'⟩, upd ab (s.nodes.take i).length av, upd kb (s.nodes.take i).length kv, ⟨?_, ?_, ?_, ?_, ?_⟩⟩
  · have e : s.nodes.take (i + 1) = s.nodes.take i ++ [n] := by
      rw [List.take_add_one, hn]
      rfl
    rw [e]
    exact o2.same fun j hj => heap_set_other _ (by have := (o2.foot hj).1; omega)
  · rw [set_one_cell var2]
    simp
  · exact (heap_set_other _ (by omega)).trans ((keep _ (by omega)).trans h1.arg)
  · exact (heap_set_other _ (by omega)).trans ((keep _ (by omega)).trans h1.res)
  · have hb2 : Below w.heap.size w w2 := h1.bel.trans ⟨hg.os, hg.tape, hg.output, hg.size, fun j hj => keep j (by omega)⟩
    exact ⟨hb2.os, hb2.tape, hb2.output, by have := hb2.size; simpa [World.setCell] using this, fun j hj => (heap_set_other _ (by omega)).trans (hb2.block j hj)⟩

theorem OfI.box {s : Ds} {a : Option Addr} {c : Nat} {w w0 w1 w2 : World} {i : Nat} {v : Value} {ab kb : Nat → Value} (h : OfI s a c w w0 i v ab kb) {g : Nat} {cs : Array Value} (hx : w0.heap[g]? = some (.cells cs 56 (0, 0))) (hb : Below w0.heap.size w0 w1) (hg : w1.grownBy w2 v.ownBlock) (v' : Value) :
    w2.heap[g]? = some (.cells cs 56 (0, 0)) ∧ (w2.setCell ⟨w.heap.size + 2, 0, none⟩ v').heap[g]? = some (.cells cs 56 (0, 0)) := by
  have h1 : w1.heap[g]? = _ := (hb.block _ (lt_of_block hx)).trans hx
  have n1 : g ≠ w.heap.size + 2 := by
    rintro rfl
    rw [h.var] at hx
    simp at hx
  have h2 : w2.heap[g]? = _ := (hg.block g (lt_of_block h1) (fun e => by
    rcases h.own.row.2 with ⟨rfl, -⟩ | ⟨g', cap, cur, rfl, _, q2, -⟩
    · cases e
    · simp only [Value.ownBlock, Option.some.injEq] at e
      subst e
      rw [hx] at q2
      simp at q2)).trans h1
  exact ⟨h2, (heap_set_other _ n1).trans h2⟩

theorem OfI.var2 {s : Ds} {a : Option Addr} {c : Nat} {w w0 w1 w2 : World} {i : Nat} {v : Value} {ab kb : Nat → Value} (h : OfI s a c w w0 i v ab kb) (hb : Below w0.heap.size w0 w1) (hg : w1.grownBy w2 v.ownBlock) :
    w2.heap[w.heap.size + 2]? = some (.cells #[v, .int .i64 s.root, .int .i64 s.next] 30 (0, 0)) := by
  have h1 := (hb.block _ (lt_of_block h.var)).trans h.var
  exact (hg.block _ (lt_of_block h1) (fun e => by have := (h.own.row.lt _ e.symm).1; omega)).trans h1

set_option maxRecDepth 100000 in
set_option maxHeartbeats 3200000 in
theorem of_any (s : Ds) (a : Option Addr) (c : Nat) (w : World) (hs : DsIs w s a c) :
    Calls Tryz.prog 5 #[.agg #[.slice a s.nodes.length c, .int .i64 s.root, .int .i64 s.next]] w fun e w' => ∃ x, e = .returned x ∧ DsOwn w' w.heap.size x s ∧ Below w.heap.size w w' := by
  have HS : Hid (DsIs w s a c) := hs
  have hlen := hs.len
  clear hs
  obtain ⟨K3, hK3⟩ : ∃ W : World, W = ((w.alloc (.cells #[.slice a s.nodes.length c, .int .i64 s.root, .int .i64 s.next] 24)).alloc (.cells #[.slice none 0 0, .int .i64 0, .int .i64 0] 30)).alloc (.cells #[.slice none 0 0, .int .i64 s.root, .int .i64 s.next] 30) := ⟨_, rfl⟩
  have I3 : Hid (OfI s a c w K3 0 (.slice none 0 0) (fun _ => .slice none 0 0) (fun _ => .slice none 0 0)) := by
    rw [hK3]
    refine ⟨⟨World.ownsRow_nil _ _ _ _, (fun i n h => by simp at h), (fun i n h => by simp at h), (fun i j g h => by simp at h), (fun i j g h => by simp at h), (fun n h => by simp at h)⟩, ?_, ?_, ?_, nxt (two_new _ _ _) (below_one _ _)⟩
    · have := heap_new2 (w.alloc (.cells #[.slice a s.nodes.length c, .int .i64 s.root, .int .i64 s.next] 24)) (.cells #[.slice none 0 0, .int .i64 0, .int .i64 0] 30) (.cells #[.slice none 0 0, .int .i64 s.root, .int .i64 s.next] 30)
      simpa using this
    · exact ((below_one _ _).block _ (by simp; omega)).trans (((below_one _ _).block _ (by simp)).trans (heap_alloc_new _ _))
    · exact ((below_one _ _).block _ (by simp)).trans (heap_new2 _ _ _)
  go_enter Tryz.func5, Tryz.ntmps5
  go_wp2_with fail
  rw [← hK3]
  clear hK3
  go_loopw [4] (fun v4 wr => ∃ (i : Nat) (v : Value) (ab kb : Nat → Value), i ≤ s.nodes.length ∧ v4 = .int .i64 (i : Int) ∧ Hid (OfI s a c w wr i v ab kb)) (fun v4 _ => s.nodes.length - (intOf v4).toNat)
  case atStart => exact ⟨0, _, _, _, Nat.zero_le _, rfl, I3.out⟩
  case round =>
    obtain ⟨i, v, ab, kb, hi, rfl, HI⟩ := hrel
    clear I3
    obtain ⟨s0, s1, s2⟩ := three HI.out.arg
    by_cases hlt : i < s.nodes.length
    · obtain ⟨b, o, aa, ac, ka, kc, ha, hN⟩ := HS.out.lay.below HI.out.bel i s.nodes[i] (List.getElem?_eq_getElem hlt)
      have HG : Hid (s.nodes[i]? = some s.nodes[i]) := List.getElem?_eq_getElem hlt
      have HN : Hid (NdAt wr b (o + i * 7) s.nodes[i] aa ac ka kc) := hN
      obtain ⟨r0, r1, r2, r3, r4, r5, r6, hfit, hA, hK⟩ := hN
      subst ha
      generalize s.nodes[i] = m at *
      obtain ⟨mi, mp, mg, mk, mt, ma, mks⟩ := m
      simp only at *
      have X4 : Hid ((wr.alloc (.cells #[.int .i64 mi, .int .i64 mp, .string mg, .string mk, .string mt, .slice aa ma.length ac, .slice ka mks.length kc] 56)).heap[wr.heap.size]? = some (.cells #[.int .i64 mi, .int .i64 mp, .string mg, .string mk, .string mt, .slice aa ma.length ac, .slice ka mks.length kc] 56 (0, 0))) := heap_alloc_new _ _
      have I4 : Hid (OfI s (some ⟨b, o, none⟩) c w (wr.alloc (.cells #[.int .i64 mi, .int .i64 mp, .string mg, .string mk, .string mt, .slice aa ma.length ac, .slice ka mks.length kc] 56)) i v ab kb) := HI.out.below (below_one _ _)
      have N4 : Hid (NdAt (wr.alloc (.cells #[.int .i64 mi, .int .i64 mp, .string mg, .string mk, .string mt, .slice aa ma.length ac, .slice ka mks.length kc] 56)) b (o + i * 7) ⟨mi, mp, mg, mk, mt, ma, mks⟩ aa ac ka kc) := HN.out.below (below_one _ _)
      clear hfit hA hK
      go_wp2_with fail
      clear r0 r1 r2 r3 r4 r5 r6 s0 s1 s2 HI HN
      generalize wr.alloc (.cells #[.int .i64 mi, .int .i64 mp, .string mg, .string mk, .string mt, .slice aa ma.length ac, .slice ka mks.length kc] 56) = W4 at *
      obtain ⟨va, vc, hva⟩ := I4.out.own.shape
      subst hva
      have htl : (s.nodes.take i).length = i := by simp; omega
      rw [htl] at I4
      clear htl
      obtain ⟨n0, n1, n2, n3, n4, n5, n6⟩ := seven X4.out
      obtain ⟨t0, t1, t2⟩ := three I4.out.var
      have n0' : W4.drew.cell? ⟨wr.heap.size, 0, none⟩ = some (.int .i64 mi) := n0
      have n1' : W4.drew.cell? ⟨wr.heap.size, 1, none⟩ = some (.int .i64 mp) := n1
      have n2' : W4.drew.cell? ⟨wr.heap.size, 2, none⟩ = some (.string mg) := n2
      have n3' : W4.drew.cell? ⟨wr.heap.size, 3, none⟩ = some (.string mk) := n3
      have n4' : W4.drew.cell? ⟨wr.heap.size, 4, none⟩ = some (.string mt) := n4
      have n5' : W4.drew.cell? ⟨wr.heap.size, 5, none⟩ = some (.slice aa ma.length ac) := n5
      have n6' : W4.drew.cell? ⟨wr.heap.size, 6, none⟩ = some (.slice ka mks.length kc) := n6
      have t0' : W4.drew.cell? ⟨w.heap.size + 1 + 1, 0, none⟩ = some (.slice va i vc) := t0
      clear n0 n1 n2 n3 n4 n5 n6 t0 t1 t2
      have HLA : Hid (∀ W, Below W4.heap.size W4 W → LayA W aa ma) := fun W hb => N4.out.ats.below hb
      have HLZ : Hid (∀ W, Below W4.heap.size W4 W → NmZ W ka kc mks) := fun W hb => ⟨N4.out.kids.below hb, N4.out.fit.kids.1, N4.out.fit.kids.2.1, N4.out.fit.kids.2.2.1, N4.out.fit.kids.2.2.2.1, N4.out.fit.kids.2.2.2.2⟩
      have HAN : Hid (aa = none → ma.length = 0 ∧ ac = 0) := N4.out.fit.ats.2.2.2
      have HAL : Hid (ma.length * 32 ≤ 140737488351232) := N4.out.fit.ats.2.2.1
      have HFT : Hid (NdFit ⟨mi, mp, mg, mk, mt, ma, mks⟩) := fit_of N4.out.fit N4.out.ats N4.out.kids
      have hbd : Hid (Below W4.heap.size W4 W4.drew) := (Below.refl _ W4).drew
      have HRW : Hid (∀ W, Below W4.heap.size W4 W → W.ownsRow (w.heap.size + 3) 41 7 (.slice va i vc) i (rowN (s.nodes.take i) ab kb)) := by
        intro W hb
        have h := ownsRow_same I4.out.own.row fun g hg => hb.block g (I4.out.own.row.lt g hg).2
        have htl : (s.nodes.take i).length = i := by simp; omega
        rw [htl] at h
        exact h
      have HSZ : Hid (w.heap.size + 3 ≤ W4.heap.size) := by show _ ≤ _; have := lt_of_block I4.out.var; omega
      have HS0 : (fun w' : World => w'.cell? ⟨wr.heap.size, 0, none⟩ = some (.int .i64 mi) ∧ w'.cell? ⟨wr.heap.size, 1, none⟩ = some (.int .i64 mp) ∧ w'.cell? ⟨wr.heap.size, 2, none⟩ = some (.string mg) ∧ w'.cell? ⟨wr.heap.size, 3, none⟩ = some (.string mk) ∧ w'.cell? ⟨wr.heap.size, 4, none⟩ = some (.string mt) ∧ w'.cell? ⟨wr.heap.size, 5, none⟩ = some (.slice aa ma.length ac) ∧ w'.cell? ⟨wr.heap.size, 6, none⟩ = some (.slice ka mks.length kc) ∧ w'.cell? ⟨w.heap.size + 1 + 1, 0, none⟩ = some (.slice va i vc)) W4.drew := ⟨n0', n1', n2', n3', n4', n5', n6', t0'⟩
      have HST : Hid (∀ W W', Below W.heap.size W W' → (fun w' : World => w'.cell? ⟨wr.heap.size, 0, none⟩ = some (.int .i64 mi) ∧ w'.cell? ⟨wr.heap.size, 1, none⟩ = some (.int .i64 mp) ∧ w'.cell? ⟨wr.heap.size, 2, none⟩ = some (.string mg) ∧ w'.cell? ⟨wr.heap.size, 3, none⟩ = some (.string mk) ∧ w'.cell? ⟨wr.heap.size, 4, none⟩ = some (.string mt) ∧ w'.cell? ⟨wr.heap.size, 5, none⟩ = some (.slice aa ma.length ac) ∧ w'.cell? ⟨wr.heap.size, 6, none⟩ = some (.slice ka mks.length kc) ∧ w'.cell? ⟨w.heap.size + 1 + 1, 0, none⟩ = some (.slice va i vc)) W → (fun w' : World => w'.cell? ⟨wr.heap.size, 0, none⟩ = some (.int .i64 mi) ∧ w'.cell? ⟨wr.heap.size, 1, none⟩ = some (.int .i64 mp) ∧ w'.cell? ⟨wr.heap.size, 2, none⟩ = some (.string mg) ∧ w'.cell? ⟨wr.heap.size, 3, none⟩ = some (.string mk) ∧ w'.cell? ⟨wr.heap.size, 4, none⟩ = some (.string mt) ∧ w'.cell? ⟨wr.heap.size, 5, none⟩ = some (.slice aa ma.length ac) ∧ w'.cell? ⟨wr.heap.size, 6, none⟩ = some (.slice ka mks.length kc) ∧ w'.cell? ⟨w.heap.size + 1 + 1, 0, none⟩ = some (.slice va i vc)) W') := fun W W' hb ⟨y0, y1, y2, y3, y4, y5, y6, y7⟩ => ⟨keepc hb _ _ y0, keepc hb _ _ y1, keepc hb _ _ y2, keepc hb _ _ y3, keepc hb _ _ y4, keepc hb _ _ y5, keepc hb _ _ y6, keepc hb _ _ y7⟩
      refine Rg.Till.region (fun w' => w'.cell? ⟨wr.heap.size, 0, none⟩ = some (.int .i64 mi) ∧ w'.cell? ⟨wr.heap.size, 1, none⟩ = some (.int .i64 mp) ∧ w'.cell? ⟨wr.heap.size, 2, none⟩ = some (.string mg) ∧ w'.cell? ⟨wr.heap.size, 3, none⟩ = some (.string mk) ∧ w'.cell? ⟨wr.heap.size, 4, none⟩ = some (.string mt) ∧ w'.cell? ⟨wr.heap.size, 5, none⟩ = some (.slice aa ma.length ac) ∧ w'.cell? ⟨wr.heap.size, 6, none⟩ = some (.slice ka mks.length kc) ∧ w'.cell? ⟨w.heap.size + 1 + 1, 0, none⟩ = some (.slice va i vc)) 23 (by kernel_rfl) ?_
      show Rg.Till _ _ _ _ _ 24 (Array.replicate 24 false) _ _
      refine Rg.Till.take (i := 0) (v := (.pointer (some ⟨w.heap.size + 1 + 1, 0, none⟩))) (some 24) rfl rfl (by kernel_rfl) (by kernel_rfl) (fun _ _ _ h => h) (by kernel_rfl) (by kernel_rfl) (Or.inl ⟨rfl, fun w' hS => ?_⟩) HS0 ?_
      · obtain ⟨y0, y1, y2, y3, y4, y5, y6, y7⟩ := hS; go_simp
      simp only [Act.put, List.setIfInBounds_toArray, List.set_cons_zero, List.set_cons_succ]
      refine Rg.Till.take (i := 1) (v := (.slice va i vc)) (some 25) rfl rfl (by kernel_rfl) (by kernel_rfl) (fun _ _ _ h => h) (by kernel_rfl) (by kernel_rfl) (Or.inl ⟨rfl, fun w' hS => ?_⟩) HS0 ?_
      · obtain ⟨y0, y1, y2, y3, y4, y5, y6, y7⟩ := hS; go_simp
      simp only [Act.put, List.setIfInBounds_toArray, List.set_cons_zero, List.set_cons_succ]
      refine Rg.Till.take (i := 2) (v := (.pointer (some ⟨wr.heap.size, 0, none⟩))) (some 26) rfl rfl (by kernel_rfl) (by kernel_rfl) (fun _ _ _ h => h) (by kernel_rfl) (by kernel_rfl) (Or.inl ⟨rfl, fun w' hS => ?_⟩) HS0 ?_
      · obtain ⟨y0, y1, y2, y3, y4, y5, y6, y7⟩ := hS; go_simp
      simp only [Act.put, List.setIfInBounds_toArray, List.set_cons_zero, List.set_cons_succ]
      refine Rg.Till.take (i := 3) (v := (.int .i64 mi)) (some 27) rfl rfl (by kernel_rfl) (by kernel_rfl) (fun _ _ _ h => h) (by kernel_rfl) (by kernel_rfl) (Or.inl ⟨rfl, fun w' hS => ?_⟩) HS0 ?_
      · obtain ⟨y0, y1, y2, y3, y4, y5, y6, y7⟩ := hS; go_simp
      simp only [Act.put, List.setIfInBounds_toArray, List.set_cons_zero, List.set_cons_succ]
      refine Rg.Till.take (i := 4) (v := (.pointer (some ⟨wr.heap.size, 1, none⟩))) (some 28) rfl rfl (by kernel_rfl) (by kernel_rfl) (fun _ _ _ h => h) (by kernel_rfl) (by kernel_rfl) (Or.inl ⟨rfl, fun w' hS => ?_⟩) HS0 ?_
      · obtain ⟨y0, y1, y2, y3, y4, y5, y6, y7⟩ := hS; go_simp
      simp only [Act.put, List.setIfInBounds_toArray, List.set_cons_zero, List.set_cons_succ]
      refine Rg.Till.take (i := 5) (v := (.int .i64 mp)) (some 29) rfl rfl (by kernel_rfl) (by kernel_rfl) (fun _ _ _ h => h) (by kernel_rfl) (by kernel_rfl) (Or.inl ⟨rfl, fun w' hS => ?_⟩) HS0 ?_
      · obtain ⟨y0, y1, y2, y3, y4, y5, y6, y7⟩ := hS; go_simp
      simp only [Act.put, List.setIfInBounds_toArray, List.set_cons_zero, List.set_cons_succ]
      refine Rg.Till.take (i := 6) (v := (.pointer (some ⟨wr.heap.size, 2, none⟩))) (some 30) rfl rfl (by kernel_rfl) (by kernel_rfl) (fun _ _ _ h => h) (by kernel_rfl) (by kernel_rfl) (Or.inl ⟨rfl, fun w' hS => ?_⟩) HS0 ?_
      · obtain ⟨y0, y1, y2, y3, y4, y5, y6, y7⟩ := hS; go_simp
      simp only [Act.put, List.setIfInBounds_toArray, List.set_cons_zero, List.set_cons_succ]
      refine Rg.Till.take (i := 7) (v := (.string mg)) (some 31) rfl rfl (by kernel_rfl) (by kernel_rfl) (fun _ _ _ h => h) (by kernel_rfl) (by kernel_rfl) (Or.inl ⟨rfl, fun w' hS => ?_⟩) HS0 ?_
      · obtain ⟨y0, y1, y2, y3, y4, y5, y6, y7⟩ := hS; go_simp
      simp only [Act.put, List.setIfInBounds_toArray, List.set_cons_zero, List.set_cons_succ]
      refine Rg.Till.take (i := 8) (v := (.pointer (some ⟨wr.heap.size, 3, none⟩))) (some 32) rfl rfl (by kernel_rfl) (by kernel_rfl) (fun _ _ _ h => h) (by kernel_rfl) (by kernel_rfl) (Or.inl ⟨rfl, fun w' hS => ?_⟩) HS0 ?_
      · obtain ⟨y0, y1, y2, y3, y4, y5, y6, y7⟩ := hS; go_simp
      simp only [Act.put, List.setIfInBounds_toArray, List.set_cons_zero, List.set_cons_succ]
      refine Rg.Till.take (i := 9) (v := (.string mk)) (some 33) rfl rfl (by kernel_rfl) (by kernel_rfl) (fun _ _ _ h => h) (by kernel_rfl) (by kernel_rfl) (Or.inl ⟨rfl, fun w' hS => ?_⟩) HS0 ?_
      · obtain ⟨y0, y1, y2, y3, y4, y5, y6, y7⟩ := hS; go_simp
      simp only [Act.put, List.setIfInBounds_toArray, List.set_cons_zero, List.set_cons_succ]
      refine Rg.Till.take (i := 10) (v := (.pointer (some ⟨wr.heap.size, 4, none⟩))) (some 34) rfl rfl (by kernel_rfl) (by kernel_rfl) (fun _ _ _ h => h) (by kernel_rfl) (by kernel_rfl) (Or.inl ⟨rfl, fun w' hS => ?_⟩) HS0 ?_
      · obtain ⟨y0, y1, y2, y3, y4, y5, y6, y7⟩ := hS; go_simp
      simp only [Act.put, List.setIfInBounds_toArray, List.set_cons_zero, List.set_cons_succ]
      refine Rg.Till.take (i := 11) (v := (.string mt)) (some 35) rfl rfl (by kernel_rfl) (by kernel_rfl) (fun _ _ _ h => h) (by kernel_rfl) (by kernel_rfl) (Or.inl ⟨rfl, fun w' hS => ?_⟩) HS0 ?_
      · obtain ⟨y0, y1, y2, y3, y4, y5, y6, y7⟩ := hS; go_simp
      simp only [Act.put, List.setIfInBounds_toArray, List.set_cons_zero, List.set_cons_succ]
      refine Rg.Till.take (i := 12) (v := (.slice none 0 0)) (some 36) rfl rfl (by kernel_rfl) (by kernel_rfl) (fun _ _ _ h => h) (by kernel_rfl) (by kernel_rfl) (Or.inl ⟨rfl, fun w' hS => ?_⟩) HS0 ?_
      · obtain ⟨y0, y1, y2, y3, y4, y5, y6, y7⟩ := hS; go_simp
      simp only [Act.put, List.setIfInBounds_toArray, List.set_cons_zero, List.set_cons_succ]
      refine Rg.Till.take (i := 13) (v := (.pointer (some ⟨wr.heap.size, 5, none⟩))) (some 37) rfl rfl (by kernel_rfl) (by kernel_rfl) (fun _ _ _ h => h) (by kernel_rfl) (by kernel_rfl) (Or.inl ⟨rfl, fun w' hS => ?_⟩) HS0 ?_
      · obtain ⟨y0, y1, y2, y3, y4, y5, y6, y7⟩ := hS; go_simp
      simp only [Act.put, List.setIfInBounds_toArray, List.set_cons_zero, List.set_cons_succ]
      refine Rg.Till.take (i := 14) (v := (.slice aa ma.length ac)) (some 38) rfl rfl (by kernel_rfl) (by kernel_rfl) (fun _ _ _ h => h) (by kernel_rfl) (by kernel_rfl) (Or.inl ⟨rfl, fun w' hS => ?_⟩) HS0 ?_
      · obtain ⟨y0, y1, y2, y3, y4, y5, y6, y7⟩ := hS; go_simp
      simp only [Act.put, List.setIfInBounds_toArray, List.set_cons_zero, List.set_cons_succ]
      refine Rg.Till.take (i := 16) (v := (.pointer (some ⟨wr.heap.size, 6, none⟩))) (some 40) rfl rfl (by kernel_rfl) (by kernel_rfl) (fun _ _ _ h => h) (by kernel_rfl) (by kernel_rfl) (Or.inl ⟨rfl, fun w' hS => ?_⟩) HS0 ?_
      · obtain ⟨y0, y1, y2, y3, y4, y5, y6, y7⟩ := hS; go_simp
      simp only [Act.put, List.setIfInBounds_toArray, List.set_cons_zero, List.set_cons_succ]
      refine Rg.Till.take (i := 17) (v := (.slice ka mks.length kc)) (some 41) rfl rfl (by kernel_rfl) (by kernel_rfl) (fun _ _ _ h => h) (by kernel_rfl) (by kernel_rfl) (Or.inl ⟨rfl, fun w' hS => ?_⟩) HS0 ?_
      · obtain ⟨y0, y1, y2, y3, y4, y5, y6, y7⟩ := hS; go_simp
      simp only [Act.put, List.setIfInBounds_toArray, List.set_cons_zero, List.set_cons_succ]
      refine Rg.Till.one (i := 15) (by kernel_rfl) rfl rfl ?_
      · refine op_copyA (d := some 39) rfl rfl _ _ rfl aa ac ma rfl rfl HAN.out (HLA.out _ hbd.out) HAL.out ?_
        intro vA wA hA hbA
        obtain ⟨a5, c5, rfl⟩ := hA.shape
        have HS1 := HST.out _ _ hbA HS0
        refine ⟨fun _ => HS1, ?_⟩
        simp only [Act.put, List.setIfInBounds_toArray, List.set_cons_zero, List.set_cons_succ]
        refine Rg.Till.one (i := 18) (by kernel_rfl) rfl rfl ?_
        refine op_copyI (d := some 42) rfl rfl _ _ rfl ka kc mks rfl (HLZ.out _ (nxt hbd.out hbA)) ?_
        intro vC wC hC hbC
        obtain ⟨a6, c6, rfl⟩ := hC.shape
        have HSX := HST.out _ _ hbC HS1
        refine ⟨fun _ => HSX, ?_⟩
        simp only [Act.put, List.setIfInBounds_toArray, List.set_cons_zero, List.set_cons_succ]
        have HBX : Hid (Below W4.heap.size W4 (wC.alloc (.cells #[.int .i64 mi, .int .i64 mp, .string mg, .string mk, .string mt, .slice a5 ma.length c5, .slice a6 mks.length c6] 41))) := nxt (nxt (nxt hbd.out hbA) hbC) (below_one wC _)
        refine Rg.Till.take (i := 19) (v := .agg #[.int .i64 mi, .int .i64 mp, .string mg, .string mk, .string mt, .slice a5 ma.length c5, .slice a6 mks.length c6]) (some 43) rfl rfl (by kernel_rfl) (by kernel_rfl) (fun _ _ _ h => h) (by kernel_rfl) (by kernel_rfl) (Or.inl ⟨rfl, fun w' hS => ?_⟩) HSX ?_
        · go_simp
        simp only [Act.put, List.setIfInBounds_toArray, List.set_cons_zero, List.set_cons_succ]
        have HSY := HST.out wC (wC.alloc (.cells #[.int .i64 mi, .int .i64 mp, .string mg, .string mk, .string mt, .slice a5 ma.length c5, .slice a6 mks.length c6] 41)) (below_one _ _) HSX
        refine Rg.Till.oneK (i := 20) (by kernel_rfl) rfl rfl fun K hK => ?_
        go_simp
        refine hK.out _ _ (fun _ => HSY) ?_
        clear hK K
        refine Rg.Till.one (i := 21) (by kernel_rfl) rfl rfl ?_
        refine op_pushN (d := some 45) rfl rfl _ _ rfl (w.heap.size + 3) (.slice va i vc) i (rowN (s.nodes.take i) ab kb) rfl (HRW.out _ HBX.out) ⟨mi, mp, mg, mk, mt, ma, mks⟩ a5 ma.length c5 a6 mks.length c6 ⟨wC.heap.size, 0, none⟩ 1 rfl (fun j u hj => newCells wC _ _ j u (by rw [← Array.getElem?_toList]; exact hj)) (by omega) (by have := HSZ.out; have := HBX.out.size; omega) ?_
        intro v' w5 q1 q2 q3
        obtain ⟨⟨z, hz⟩, hzf, ⟨a7, c7, rfl⟩, ab', kb', hI5⟩ := I4.out.push HG.out HFT.out HBX.out (OwnA.less ((OwnA.below hA hbC).below (below_one wC _)) (Nat.le_refl _)) ((hC.below (below_one wC _)).less hbA.size) q1 q2
        have HI5 : Hid (OfI s (some ⟨b, o, none⟩) c w (w5.setCell ⟨w.heap.size + 2, 0, none⟩ (.slice a7 (i + 1) c7)) (i + 1) (.slice a7 (i + 1) c7) ab' kb') := hI5
        obtain ⟨bx1, -⟩ := I4.out.box X4.out HBX.out q2 (.slice a7 (i + 1) c7)
        obtain ⟨g0, g1, g2, g3, g4, g5, g6⟩ := seven bx1
        obtain ⟨g7, -, -⟩ := three (I4.out.var2 HBX.out q2)
        clear hI5 q1 q2 q3 bx1
        refine ⟨fun _ => ⟨g0, g1, g2, g3, g4, g5, g6, g7⟩, ?_⟩
        simp only [Act.put, List.setIfInBounds_toArray, List.set_cons_zero, List.set_cons_succ]
        have HSZ5 : (fun w' : World => w'.cell? ⟨wr.heap.size, 0, none⟩ = some (.int .i64 mi) ∧ w'.cell? ⟨wr.heap.size, 1, none⟩ = some (.int .i64 mp) ∧ w'.cell? ⟨wr.heap.size, 2, none⟩ = some (.string mg) ∧ w'.cell? ⟨wr.heap.size, 3, none⟩ = some (.string mk) ∧ w'.cell? ⟨wr.heap.size, 4, none⟩ = some (.string mt) ∧ w'.cell? ⟨wr.heap.size, 5, none⟩ = some (.slice aa ma.length ac) ∧ w'.cell? ⟨wr.heap.size, 6, none⟩ = some (.slice ka mks.length kc) ∧ w'.cell? ⟨w.heap.size + 1 + 1, 0, none⟩ = some (.slice va i vc)) w5 := ⟨g0, g1, g2, g3, g4, g5, g6, g7⟩
        refine Rg.Till.take (i := 22) (v := (.pointer (some ⟨w.heap.size + 1 + 1, 0, none⟩))) (some 46) rfl rfl (by kernel_rfl) (by kernel_rfl) (fun _ _ _ h => h) (by kernel_rfl) (by kernel_rfl) (Or.inl ⟨rfl, fun w' hS => ?_⟩) HSZ5 ?_
        · obtain ⟨y0, y1, y2, y3, y4, y5, y6, y7⟩ := hS; go_simp
        simp only [Act.put, List.setIfInBounds_toArray, List.set_cons_zero, List.set_cons_succ]
        refine Rg.Till.oneK (i := 23) (by kernel_rfl) rfl rfl fun K hK => ?_
        go_simp
        refine hK.out _ _ (fun h => absurd rfl h) ?_
        clear hK K
        refine Rg.Till.done (by kernel_rfl) ?_
        clear HSZ5 g0 g1 g2 g3 g4 g5 g6 g7 hz hzf HSX HSY HS0 n0' n1' n2' n3' n4' n5' n6' t0'
        go_wp2_with fail
        go_roundw
        case rel => exact ⟨i + 1, _, ab', kb', by omega, by go_num, HI5⟩
        case measure => simp [intOf]; omega
    · have hie : i = s.nodes.length := by omega
      subst hie
      have HTK : Hid (s.nodes.take s.nodes.length = s.nodes) := List.take_length
      have hO := HI.out.own
      rw [HTK.out] at hO
      obtain ⟨va, vc, hva⟩ := hO.shape
      subst hva
      have HO : Hid (OwnN wr (w.heap.size + 3) (.slice va s.nodes.length vc) s.nodes ab kb) := hO
      obtain ⟨t0, t1, t2⟩ := three HI.out.var
      obtain ⟨z0, z0f⟩ := cell_of HI.out.res 0
      obtain ⟨z1, z1f⟩ := cell_of HI.out.res 1
      obtain ⟨z2, z2f⟩ := cell_of HI.out.res 2
      simp at z0 z1 z2
      clear hO
      go_wp2_with fail
      obtain ⟨f1, f2, f3⟩ := state_fin (v := .slice va s.nodes.length vc) (r := .int .i64 s.root) (n := .int .i64 s.next) HI.out.res
      have f3 := f3 w.heap.size w (by omega) HI.out.bel
      generalize ((wr.setCell ⟨w.heap.size + 1, 0, none⟩ (.slice va s.nodes.length vc)).setCell ⟨w.heap.size + 1, 1, none⟩ (.int .i64 s.root)).setCell ⟨w.heap.size + 1, 2, none⟩ (.int .i64 s.next) = W8 at *
      obtain ⟨c0, c1, c2⟩ := three f1
      refine bodyPost_ret (v := .agg #[.slice va s.nodes.length vc, .int .i64 s.root, .int .i64 s.next]) (by simp [results, Tryz.results5, go_sem, c0, c1, c2]) rfl ?_
      exact ⟨_, rfl, ⟨_, ab, kb, rfl, (HO.out.same fun b hb => f2 b (by have := (HO.out.foot hb).1; omega)).less (by omega)⟩, f3⟩
end Go.Proofs.YtcdnakcojanaeabGreat
