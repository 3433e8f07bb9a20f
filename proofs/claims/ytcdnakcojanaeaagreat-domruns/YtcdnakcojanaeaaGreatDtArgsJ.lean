/-
  Patches among the arguments. (Printed out of DoArg's text for one patch.)
-/
import Derived.Test.YtcdnakcojanaeaaGreatDoArgJ
import Derived.Test.YtcdnakcojanaeaaGreatDoTakeJ
import Derived.Test.YtcdnakcojanaeaaGreatDtAplM
import Derived.Test.YtcdnakcojanaeaaGreatDoPlaceJ
namespace Go.Proofs.YtcdnakcojanaeaaGreat
open Go.ChangeShapes Go.WideShapes Go.ChangeAt Go.RowKit Go.Deep
open Do

theorem Tryz.bytesPatchD : Tryz.prog.bytesOf 26 = 112 := by kernel_rfl

set_option maxRecDepth 100000 in
theorem pt_of_trod {H : Type} {enc : TypeId × Value → H} {w : World} (d : DataW H) (fuel : Nat) (cs : List Value) (pl : List MemPlace) (hwt : ∀ n ∈ d.weights Tryz.prog 26, n ≤ reachBytes)
    (h : DataW.trod enc Tryz.prog w 0 (fun _ => true) true fuel 26 cs = some (d, pl)) : ∃ p : Pt, cs = [.int .i64 p.what, .int .i64 p.id, .int .i64 p.par, .int .i64 p.at_, .string p.tag, .string p.key, .string p.txt, .string p.name, .string p.val] ∧ PtOk p := by
  obtain ⟨xs, n, _, hxx, hl, hlen, hf⟩ := DataW.trod_struct Tryz.underlying26 h
  match xs, hlen with
  | [y0, y1, y2, y3, y4, y5, y6, y7, y8], _ =>
  rw [Tryz.cellsPatchD] at hl
  match cs, hl with
  | [c0, c1, c2, c3, c4, c5, c6, c7, c8], _ =>
  have f0 : DataW.trod enc Tryz.prog w 0 (fun _ => true) true n 3 (([c0, c1, c2, c3, c4, c5, c6, c7, c8].drop 0).take (Tryz.prog.cellsOf 3)) = some y0 := hf 0 _ rfl
  rw [Tryz.cellsIntD] at f0
  have f1 : DataW.trod enc Tryz.prog w 0 (fun _ => true) true n 3 (([c0, c1, c2, c3, c4, c5, c6, c7, c8].drop 1).take (Tryz.prog.cellsOf 3)) = some y1 := hf 1 _ rfl
  rw [Tryz.cellsIntD] at f1
  have f2 : DataW.trod enc Tryz.prog w 0 (fun _ => true) true n 3 (([c0, c1, c2, c3, c4, c5, c6, c7, c8].drop 2).take (Tryz.prog.cellsOf 3)) = some y2 := hf 2 _ rfl
  rw [Tryz.cellsIntD] at f2
  have f3 : DataW.trod enc Tryz.prog w 0 (fun _ => true) true n 3 (([c0, c1, c2, c3, c4, c5, c6, c7, c8].drop 3).take (Tryz.prog.cellsOf 3)) = some y3 := hf 3 _ rfl
  rw [Tryz.cellsIntD] at f3
  have f4 : DataW.trod enc Tryz.prog w 0 (fun _ => true) true n 9 (([c0, c1, c2, c3, c4, c5, c6, c7, c8].drop 4).take (Tryz.prog.cellsOf 9)) = some y4 := hf 4 _ rfl
  rw [Tryz.cellsStr] at f4
  have f5 : DataW.trod enc Tryz.prog w 0 (fun _ => true) true n 9 (([c0, c1, c2, c3, c4, c5, c6, c7, c8].drop 5).take (Tryz.prog.cellsOf 9)) = some y5 := hf 5 _ rfl
  rw [Tryz.cellsStr] at f5
  have f6 : DataW.trod enc Tryz.prog w 0 (fun _ => true) true n 9 (([c0, c1, c2, c3, c4, c5, c6, c7, c8].drop 6).take (Tryz.prog.cellsOf 9)) = some y6 := hf 6 _ rfl
  rw [Tryz.cellsStr] at f6
  have f7 : DataW.trod enc Tryz.prog w 0 (fun _ => true) true n 9 (([c0, c1, c2, c3, c4, c5, c6, c7, c8].drop 7).take (Tryz.prog.cellsOf 9)) = some y7 := hf 7 _ rfl
  rw [Tryz.cellsStr] at f7
  have f8 : DataW.trod enc Tryz.prog w 0 (fun _ => true) true n 9 (([c0, c1, c2, c3, c4, c5, c6, c7, c8].drop 8).take (Tryz.prog.cellsOf 9)) = some y8 := hf 8 _ rfl
  rw [Tryz.cellsStr] at f8
  obtain ⟨t0, e0, rfl, w0⟩ := DataW.trod_int Tryz.underlying3 f0
  have e0' : c0 = .int .i64 t0 := by simpa using e0
  obtain ⟨t1, e1, rfl, w1⟩ := DataW.trod_int Tryz.underlying3 f1
  have e1' : c1 = .int .i64 t1 := by simpa using e1
  obtain ⟨t2, e2, rfl, w2⟩ := DataW.trod_int Tryz.underlying3 f2
  have e2' : c2 = .int .i64 t2 := by simpa using e2
  obtain ⟨t3, e3, rfl, w3⟩ := DataW.trod_int Tryz.underlying3 f3
  have e3' : c3 = .int .i64 t3 := by simpa using e3
  obtain ⟨t4, e4, rfl, w4⟩ := DataW.trod_string Tryz.underlying9 f4
  have e4' : c4 = .string t4 := by simpa using e4
  obtain ⟨t5, e5, rfl, w5⟩ := DataW.trod_string Tryz.underlying9 f5
  have e5' : c5 = .string t5 := by simpa using e5
  obtain ⟨t6, e6, rfl, w6⟩ := DataW.trod_string Tryz.underlying9 f6
  have e6' : c6 = .string t6 := by simpa using e6
  obtain ⟨t7, e7, rfl, w7⟩ := DataW.trod_string Tryz.underlying9 f7
  have e7' : c7 = .string t7 := by simpa using e7
  obtain ⟨t8, e8, rfl, w8⟩ := DataW.trod_string Tryz.underlying9 f8
  have e8' : c8 = .string t8 := by simpa using e8
  clear e0 e1 e2 e3 e4 e5 e6 e7 e8
  subst e0' e1' e2' e3' e4' e5' e6' e7' e8'
  have hd : d = .agg [.lit (.int .i64 t0), .lit (.int .i64 t1), .lit (.int .i64 t2), .lit (.int .i64 t3), .lit (.string t4.data.toList), .lit (.string t5.data.toList), .lit (.string t6.data.toList), .lit (.string t7.data.toList), .lit (.string t8.data.toList)] := by
    have := congrArg Prod.fst hxx
    simpa using this
  subst hd
  have ew : (DataW.agg [.lit (.int .i64 t0), .lit (.int .i64 t1), .lit (.int .i64 t2), .lit (.int .i64 t3), .lit (.string t4.data.toList), .lit (.string t5.data.toList), .lit (.string t6.data.toList), .lit (.string t7.data.toList), .lit (.string t8.data.toList)] : DataW H).weights Tryz.prog 26 = [t4.data.toList.length, t5.data.toList.length, t6.data.toList.length, t7.data.toList.length, t8.data.toList.length] := by
    simp [DataW.weights, Tryz.underlying26, DataW.weightsEach]
  rw [ew] at hwt
  have a4 : t4.size ≤ 140737488351232 := by have e : t4.data.toList.length = t4.size := (by cases t4; rfl); have := hwt t4.data.toList.length (by simp); rw [e, reach_eq] at this; exact this
  have a5 : t5.size ≤ 140737488351232 := by have e : t5.data.toList.length = t5.size := (by cases t5; rfl); have := hwt t5.data.toList.length (by simp); rw [e, reach_eq] at this; exact this
  have a6 : t6.size ≤ 140737488351232 := by have e : t6.data.toList.length = t6.size := (by cases t6; rfl); have := hwt t6.data.toList.length (by simp); rw [e, reach_eq] at this; exact this
  have a7 : t7.size ≤ 140737488351232 := by have e : t7.data.toList.length = t7.size := (by cases t7; rfl); have := hwt t7.data.toList.length (by simp); rw [e, reach_eq] at this; exact this
  have a8 : t8.size ≤ 140737488351232 := by have e : t8.data.toList.length = t8.size := (by cases t8; rfl); have := hwt t8.data.toList.length (by simp); rw [e, reach_eq] at this; exact this
  exact ⟨⟨t0, t1, t2, t3, t4, t5, t6, t7, t8⟩, rfl, ⟨i64_of w1, i64_of w2, i64_of w3, a4, a5, a6, a7, a8⟩⟩

/-- Patches that came in. -/
def PsArg (w : World) (x : Value) (ps : List Pt) : Prop := ∃ a c, x = .slice a ps.length c ∧ ps.length ≤ c ∧ c ≤ 9223372036854775807 ∧ ps.length * 112 ≤ 140737488351232 ∧ LayP w a ps

set_option maxRecDepth 100000 in
theorem pts_of_trod {H : Type} {enc : TypeId × Value → H} {w : World} {d : DataW H} {fuel : Nat} {c : Value} {pl : List MemPlace} (hwt : ∀ n ∈ d.weights Tryz.prog 52, n ≤ reachBytes)
    (h : DataW.trod enc Tryz.prog w 0 (fun _ => true) true fuel 52 [c] = some (d, pl)) : ∃ ps, PsArg w c ps := by
  rcases open_slice Tryz.underlying52 h with ⟨h1, h2⟩ | ⟨a, len, cap, m, n', D, Pl, h1, _, hl1, hm1, hm2, h2, h3⟩
  · simp only [List.cons.injEq, and_true] at h1
    exact ⟨[], none, 0, h1, by simp, by simp, by simp, fun i s hi => by simp at hi⟩
  · simp only [List.cons.injEq, and_true] at h1
    simp only [if_true] at hm2
    subst hm2
    rw [Tryz.cellsPatchD] at h2 h3
    have h2' : d = .slice ((List.range len).map D) ((List.range (m - len)).map fun j => D (len + j)) := congrArg Prod.fst h2
    rw [h2'] at hwt
    unfold maxLen at hm1
    have each : ∀ i, i < len → ∃ p : Pt, ∃ b o, some a = some (⟨b, o, none⟩ : Addr) ∧
      (w.cell? ⟨b, o + i * 9, none⟩ = some (.int .i64 p.what) ∧ w.cell? ⟨b, o + i * 9 + 1, none⟩ = some (.int .i64 p.id) ∧ w.cell? ⟨b, o + i * 9 + 2, none⟩ = some (.int .i64 p.par) ∧ w.cell? ⟨b, o + i * 9 + 3, none⟩ = some (.int .i64 p.at_) ∧
        w.cell? ⟨b, o + i * 9 + 4, none⟩ = some (.string p.tag) ∧ w.cell? ⟨b, o + i * 9 + 5, none⟩ = some (.string p.key) ∧ w.cell? ⟨b, o + i * 9 + 6, none⟩ = some (.string p.txt) ∧ w.cell? ⟨b, o + i * 9 + 7, none⟩ = some (.string p.name) ∧ w.cell? ⟨b, o + i * 9 + 8, none⟩ = some (.string p.val)) ∧ PtOk p := by
      intro i hi
      obtain ⟨cs0, q0, _⟩ := h3 0 (by omega)
      obtain ⟨z1, z2⟩ := cells_get q0
      have hs := spot_none (z2 0 _ (List.getElem?_eq_getElem (by omega)))
      have hs' : a = ⟨a.block, a.off, none⟩ := by simpa [Addr.add] using hs
      obtain ⟨cs', qq, htr⟩ := h3 i (by omega)
      obtain ⟨g1, g2⟩ := cells_get qq
      have hmem : D i ∈ (List.range len).map D := List.mem_map.2 ⟨i, List.mem_range.2 hi, rfl⟩
      obtain ⟨p, rfl, hp⟩ := pt_of_trod (D i) n' cs' (Pl i) (fun x hx => hwt x (by
        simp only [DataW.weights, Tryz.underlying52]
        exact List.mem_cons_of_mem _ (List.mem_append_left _ (weightsAll_mem hmem _ hx)))) htr
      have p0 := g2 0 _ rfl
      have p1 := g2 1 _ rfl
      have p2 := g2 2 _ rfl
      have p3 := g2 3 _ rfl
      have p4 := g2 4 _ rfl
      have p5 := g2 5 _ rfl
      have p6 := g2 6 _ rfl
      have p7 := g2 7 _ rfl
      have p8 := g2 8 _ rfl
      rw [hs', add_plain, add_plain] at p0 p1 p2 p3 p4 p5 p6 p7 p8
      exact ⟨p, a.block, a.off, by rw [← hs'], ⟨by simpa using p0, by simpa using p1, by simpa using p2, by simpa using p3, by simpa using p4, by simpa using p5, by simpa using p6, by simpa using p7, by simpa using p8⟩, hp⟩
    obtain ⟨ps, hlen', hps⟩ := list_of each
    refine ⟨ps, some a, m, by rw [hlen']; exact h1, by omega, hm1, ?_, fun i u hu => hps i u hu⟩
    have := hwt _ (by simp only [DataW.weights, Tryz.underlying52]; exact List.mem_cons_self)
    simp only [List.length_map, List.length_range, Tryz.bytesPatchD] at this
    rw [reach_eq] at this
    omega

set_option maxRecDepth 100000 in
theorem pts_of_arg {H : Type} {enc : TypeId × Value → H} {w : World} {base : Nat} {x : Value} {d : DataW H} {pl : List MemPlace} (hx : Value.okWide Tryz.prog w .any base 52 x) (h : DataW.Trod enc Tryz.prog w 0 (fun _ => true) true 52 x d pl)
    (hw : ∀ n ∈ d.weights Tryz.prog 52, n ≤ reachBytes) : ∃ ps, PsArg w x ps := by
  obtain ⟨fuel, hf⟩ := h
  unfold Value.okWide at hx
  rw [Tryz.underlying52] at hx
  have hc : x.cells = #[x] ∨ ∃ cs, x = .agg cs := by cases x <;> simp [Value.cells]
  rcases hc with hc | ⟨cs, rfl⟩
  · rw [hc] at hf
    exact pts_of_trod hw hf
  · exfalso
    simp [Cell.okWide, Cell.ok, Tryz.underlying52] at hx
end Go.Proofs.YtcdnakcojanaeaaGreat

/-
  The page's Run. (Printed by wip/make/mkdtrun.py.)
-/
namespace Go.Proofs.YtcdnakcojanaeaaGreat
open Go.ChangeShapes Go.WideShapes Go.ChangeAt Go.RowKit Go.Deep
open Do

/-- What the page's Run leaves. -/
def RgPost (w w' : World) (e : Ending) (r : Ds × Nat × Int) : Prop := ∃ v ab kb, e = .returned (.tuple #[.agg #[v, .int .i64 r.1.root, .int .i64 r.1.next], .int .i64 (r.2.1 : Int), .int .i64 r.2.2]) ∧ Pg.OwnN w' w.heap.size v r.1.nodes ab kb ∧ Below w.heap.size w w'

set_option maxRecDepth 100000 in
set_option maxHeartbeats 6400000 in
theorem rrun_any (s : Ds) (ps : List Pt) (a : Option Addr) (c : Nat) (pa : Option Addr) (pc : Nat) (w : World) (hs : DsIs w s a c) (hl : LayP w pa ps) (hlen : ps.length ≤ 140737488351232) :
    Calls Tryz.prog 18 #[.agg #[.slice a s.nodes.length c, .int .i64 s.root, .int .i64 s.next], .slice pa ps.length pc] w fun e w' => RgPost w w' e (runD s ps) := by
  have HS : Hid (∀ W, Below w.heap.size w W → DsIs W s a c) := fun W hb => hs.below hb
  have HL : Hid (LayP w pa ps) := hl
  have HCK : Hid (∀ W, Below w.heap.size w W → Calls Tryz.prog 14 #[.agg #[.slice a s.nodes.length c, .int .i64 s.root, .int .i64 s.next]] W fun e w' => e = .returned (.int .i64 (chkD s)) ∧ Below W.heap.size W w') := fun W hb => rcheckD_any s a c W (hs.below hb)
  clear hs hl
  obtain ⟨K3, hK3⟩ : ∃ W : World, W = (w.alloc (.cells #[.slice a s.nodes.length c, .int .i64 s.root, .int .i64 s.next] 24)).alloc (.cells #[.slice none 0 0, .int .i64 0, .int .i64 0] 24) := ⟨_, rfl⟩
  have B3 : Hid (Below w.heap.size w K3) := by show Below _ _ _; rw [hK3]; exact two_new _ _ _
  have X3 : Hid (K3.heap[w.heap.size]? = some (.cells #[.slice a s.nodes.length c, .int .i64 s.root, .int .i64 s.next] 24 (0, 0)) ∧ K3.heap[w.heap.size + 1]? = some (.cells #[.slice none 0 0, .int .i64 0, .int .i64 0] 24 (0, 0)) ∧ K3.heap.size = w.heap.size + 2) := by show _ ∧ _; rw [hK3]; exact ⟨((below_one _ _).block _ (by simp)).trans (heap_alloc_new _ _), heap_new2 _ _ _, by simp⟩
  go_enter Tryz.func18, Tryz.ntmps18
  go_upto_region 1 with fail
  rw [← hK3]
  clear hK3
  obtain ⟨x0, x1, x2⟩ := three X3.out.1
  go_wp2_with fail
  refine (HCK.out K3 B3.out).mono ?_
  rintro e w4 ⟨rfl, hb4⟩
  have B4 : Hid (Below w.heap.size w w4) := nxt B3.out hb4
  have S4 : Hid (w.heap.size + 2 ≤ w4.heap.size) := by have h1 := hb4.size; have h2 := X3.out.2.2; show _ ≤ _; omega
  have X4 : Hid (w4.heap[w.heap.size]? = some (.cells #[.slice a s.nodes.length c, .int .i64 s.root, .int .i64 s.next] 24 (0, 0)) ∧ w4.heap[w.heap.size + 1]? = some (.cells #[.slice none 0 0, .int .i64 0, .int .i64 0] 24 (0, 0))) := ⟨(hb4.block _ (lt_of_block X3.out.1)).trans X3.out.1, (hb4.block _ (lt_of_block X3.out.2.1)).trans X3.out.2.1⟩
  clear hb4 HCK X3 B3 x0 x1 x2
  cases hok : okD s with
  | false =>
    have HR : Hid (runD s ps = (noD, 0, 9)) := by show _ = _; unfold runD; rw [hok]; rfl
    have hc : chkD s = 9 := by unfold chkD; rw [hok]; rfl
    rw [hc]
    clear hok hc
    obtain ⟨⟨z0, z1, z2⟩, zf0, zf1, zf2⟩ : (w4.cell? ⟨w.heap.size + 1, 0, none⟩ = some (.slice none 0 0) ∧ w4.cell? ⟨w.heap.size + 1, 1, none⟩ = some (.int .i64 0) ∧ w4.cell? ⟨w.heap.size + 1, 2, none⟩ = some (.int .i64 0)) ∧ w4.frozen? ⟨w.heap.size + 1, 0, none⟩ = false ∧ w4.frozen? ⟨w.heap.size + 1, 1, none⟩ = false ∧ w4.frozen? ⟨w.heap.size + 1, 2, none⟩ = false := ⟨three X4.out.2, (cell_of X4.out.2 0).2, (cell_of X4.out.2 1).2, (cell_of X4.out.2 2).2⟩
    have HZA : w4.heap[w.heap.size + 1]? = some (.cells #[.slice none 0 0, .int .i64 0, .int .i64 0] 24 (0, 0)) := X4.out.2
    obtain ⟨f1, f2, f3⟩ := state_fin (v := .slice none 0 0) (r := .int .i64 0) (n := .int .i64 0) HZA
    have f3 := f3 w.heap.size w (by omega) B4.out
    have O15 : Hid (Pg.OwnN (((w4.setCell ⟨w.heap.size + 1, 0, none⟩ (.slice none 0 0)).setCell ⟨w.heap.size + 1, 1, none⟩ (.int .i64 0)).setCell ⟨w.heap.size + 1, 2, none⟩ (.int .i64 0)) w.heap.size (.slice none 0 0) noD.nodes (fun _ => .slice none 0 0) (fun _ => .slice none 0 0)) := noD_pg _ _
    have F1 : Hid (_ = some (Obj.cells _ _ _)) := f1
    have F3 : Hid (Below w.heap.size w _) := f3
    clear f1 f2 f3 HZA
    go_wp2_with fail
    all_goals (
    clear z0 z1 z2 zf0 zf1 zf2 
    generalize (((w4.setCell ⟨w.heap.size + 1, 0, none⟩ (.slice none 0 0)).setCell ⟨w.heap.size + 1, 1, none⟩ (.int .i64 0)).setCell ⟨w.heap.size + 1, 2, none⟩ (.int .i64 0)) = W9 at *
    obtain ⟨c0, c1, c2⟩ := three F1.out
    refine bodyPost_ret (v := .tuple #[.agg #[.slice none 0 0, .int .i64 0, .int .i64 0], .int .i64 0, .int .i64 9]) (by simp [results, Tryz.results18, go_sem, c0, c1, c2]) rfl ?_
    rw [HR.out]
    exact ⟨_, _, _, rfl, O15.out, F3.out⟩)
  | true =>
    have HR : Hid (runD s ps = runL s ps 0) := by show _ = _; unfold runD; rw [hok]; rfl
    have HD : Hid (OkD s) := okD_iff.1 hok
    have hc : chkD s = 0 := by unfold chkD; rw [hok]; rfl
    rw [hc]
    clear hok hc
    obtain ⟨x0, x1, x2⟩ := three X4.out.1
    go_wp2_with fail
    refine (rown_any s a c w4 (HS.out w4 B4.out) HD.out.len).mono ?_
    rintro e w5 ⟨v5, ab0, kb0, rfl, hO5, hb5⟩
    obtain ⟨va0, vc0, rfl⟩ := hO5.shape
    have hbA : Below w4.heap.size w4 (w5.alloc (.cells #[.slice va0 s.nodes.length vc0, .int .i64 s.root, .int .i64 s.next] 24)) := nxt hb5 (below_one _ _)
    obtain ⟨T, hT⟩ : ∃ T : Nat, T = w5.heap.size := ⟨_, rfl⟩
    have hT4 : w4.heap.size ≤ T := by rw [hT]; exact hb5.size
    have R6 : Hid ((w5.alloc (.cells #[.slice va0 s.nodes.length vc0, .int .i64 s.root, .int .i64 s.next] 24)).heap[w.heap.size + 1]? = some (.cells #[.slice none 0 0, .int .i64 0, .int .i64 0] 24 (0, 0))) := (hbA.block _ (lt_of_block X4.out.2)).trans X4.out.2
    have I6 : Hid (∃ va vc ab kb, (w5.alloc (.cells #[.slice va0 s.nodes.length vc0, .int .i64 s.root, .int .i64 s.next] 24)).heap[T]? = some (.cells #[.slice va s.nodes.length vc, .int .i64 s.root, .int .i64 s.next] 24 (0, 0)) ∧ Pg.OwnN (w5.alloc (.cells #[.slice va0 s.nodes.length vc0, .int .i64 s.root, .int .i64 s.next] 24)) w4.heap.size (.slice va s.nodes.length vc) s.nodes ab kb) := ⟨va0, vc0, ab0, kb0, by rw [hT]; exact heap_alloc_new _ _, hO5.below (below_one _ _)⟩
    have B6 : Hid (Below w.heap.size w (w5.alloc (.cells #[.slice va0 s.nodes.length vc0, .int .i64 s.root, .int .i64 s.next] 24)) ∧ w4.heap.size ≤ (w5.alloc (.cells #[.slice va0 s.nodes.length vc0, .int .i64 s.root, .int .i64 s.next] 24)).heap.size) := ⟨nxt B4.out hbA, hbA.size⟩
    clear hbA hO5 hb5 x0 x1 x2 X4
    go_upto_region 4 with fail
    rw [← hT]
    generalize (w5.alloc (.cells #[.slice va0 s.nodes.length vc0, .int .i64 s.root, .int .i64 s.next] 24)) = W6 at *
    clear hT
    go_wp2_with fail
    go_loopw [8] (fun v8 wr => ∃ (i : Nat) (si : Ds), i ≤ ps.length ∧ v8 = .int .i64 (i : Int) ∧ Hid (∃ va vc ab kb, wr.heap[T]? = some (.cells #[.slice va si.nodes.length vc, .int .i64 si.root, .int .i64 si.next] 24 (0, 0)) ∧ Pg.OwnN wr w4.heap.size (.slice va si.nodes.length vc) si.nodes ab kb) ∧ Hid (OkD si ∧ runL s ps 0 = runL si (ps.drop i) i) ∧ Hid (Below w.heap.size w wr ∧ w4.heap.size ≤ wr.heap.size) ∧ Hid (wr.heap[w.heap.size + 1]? = some (.cells #[.slice none 0 0, .int .i64 0, .int .i64 0] 24 (0, 0)))) (fun v8 _ => ps.length - (intOf v8).toNat)
    case atStart => exact ⟨0, s, Nat.zero_le _, rfl, I6.out, ⟨HD.out, rfl⟩, B6.out, R6.out⟩
    case round =>
      obtain ⟨i, si, hi, rfl, HI, HE, HB, HZ⟩ := hrel
      obtain ⟨va, vc, ab, kb, hT1, hO1⟩ := HI.out
      have HO : Hid (Pg.OwnN wr w4.heap.size (.slice va si.nodes.length vc) si.nodes ab kb) := hO1
      have HT : Hid (wr.heap[T]? = some (.cells #[.slice va si.nodes.length vc, .int .i64 si.root, .int .i64 si.next] 24 (0, 0))) := hT1
      clear hT1 hO1 HI I6 B6 R6
      have hs4 := S4.out
      obtain ⟨t0, t1, t2⟩ := three HT.out
      by_cases hlt : i < ps.length
      · obtain ⟨b, o, ha, ⟨q0, q1, q2, q3, q4, q5, q6, q7, q8⟩, hpo⟩ := HL.out.below HB.out.1 i ps[i] (List.getElem?_eq_getElem hlt)
        subst ha
        have HDR : Hid (ps.drop i = ps[i] :: ps.drop (i + 1)) := List.drop_eq_getElem_cons hlt
        generalize ps[i] = p at *
        obtain ⟨R, hRR⟩ : ∃ R, R = applyD si p := ⟨_, rfl⟩
        have HRR : Hid (R = errD (takeD si p)) := by show _ = _; rw [hRR]; unfold applyD; rw [okD_iff.2 HE.out.1]; rfl
        have hsid : ∀ W, Below wr.heap.size wr W → DsIs W si va vc := fun W hb => by
          have hnx := HE.out.1.nx
          refine (HO.out.below hb).ds HE.out.1.len ?_ (by omega)
          rcases HE.out.1.root with h0 | ⟨m, h1, -⟩
          · rw [h0]; omega
          · have h2 := (nd_some h1).2; have h3 := HE.out.1.below m (nd_some h1).1; have h4 := (HE.out.1.good.at h1).pos; omega
        have HAP : Hid (∀ W, Below wr.heap.size wr W → Calls Tryz.prog 7 #[.agg #[.slice va si.nodes.length vc, .int .i64 si.root, .int .i64 si.next], mkP p] W fun e w' => ∃ a3 c3 ab3 kb3, e = .returned (.tuple #[.agg #[.slice a3 R.2.nodes.length c3, .int .i64 R.2.root, .int .i64 R.2.next], .int .i64 R.1]) ∧ Pg.OwnN w' w4.heap.size (.slice a3 R.2.nodes.length c3) R.2.nodes ab3 kb3 ∧ Below W.heap.size W w') := fun W hb => (rapply_any si p va vc W (hsid W hb) hpo).mono fun e w' h => by
          obtain ⟨v', ab3, kb3, e1, h1, h2⟩ := h
          rw [← hRR] at e1 h1
          obtain ⟨a3, c3, rfl⟩ := h1.shape
          exact ⟨a3, c3, ab3, kb3, e1, h1.less (Nat.le_trans HB.out.2 hb.size), h2⟩
        have HEQ : Hid (runL s ps 0 = if (takeD si p).1 = 0 then runL (takeD si p).2 (ps.drop (i + 1)) (i + 1) else (si, i, (takeD si p).1)) := by show _ = _; rw [HE.out.2, HDR.out, runL_cons]
        have HTO : Hid (OkD (takeD si p).2) := (take_ok HE.out.1 p).1
        clear hsid hpo hRR HDR
        go_wp2_with fail
        go_cut [9, 10] (fun v9 v10 wc => v10 = .int .i64 R.1 ∧ ∃ g9 a3 c3 ab3 kb3, v9 = .pointer (some ⟨g9, 0, none⟩) ∧ Hid (wc.heap[g9]? = some (.cells #[.slice a3 R.2.nodes.length c3, .int .i64 R.2.root, .int .i64 R.2.next] 24 (0, 0))) ∧ Hid (Pg.OwnN wc w4.heap.size (.slice a3 R.2.nodes.length c3) R.2.nodes ab3 kb3) ∧ Hid (Below wr.heap.size wr wc) ∧ Hid (wr.heap.size ≤ g9))
        case first =>
          have HS0 : (fun w' : World => Below wr.heap.size wr w') wr.drew := (Below.refl _ wr).drew
          refine Rg.Till.region (fun w' : World => Below wr.heap.size wr w') 11 (by kernel_rfl) ?_
          show Rg.Till _ _ _ _ _ 12 (Array.replicate 12 false) _ _
          refine Rg.Till.take (i := 0) (v := .agg #[.slice va si.nodes.length vc, .int .i64 si.root, .int .i64 si.next]) (some 24) rfl rfl (by kernel_rfl) (by kernel_rfl) (fun _ _ _ h => h) (by kernel_rfl) (by kernel_rfl) (Or.inl ⟨rfl, fun w' hS => ?_⟩) HS0 ?_
          · have kt0 := keepc hS _ _ t0; have kt1 := keepc hS _ _ t1; have kt2 := keepc hS _ _ t2; go_simp
          simp only [Act.put, List.setIfInBounds_toArray, List.set_cons_zero, List.set_cons_succ]
          refine Rg.Till.take (i := 1) (v := .slice (some ⟨b, o, none⟩) ps.length pc) (some 25) rfl rfl (by kernel_rfl) (by kernel_rfl) (fun _ _ _ h => h) (by kernel_rfl) (by kernel_rfl) (Or.inl ⟨rfl, fun w' hS => ?_⟩) HS0 ?_
          · go_simp
          simp only [Act.put, List.setIfInBounds_toArray, List.set_cons_zero, List.set_cons_succ]
          refine Rg.Till.take (i := 2) (v := .int .i64 (i : Int)) (some 26) rfl rfl (by kernel_rfl) (by kernel_rfl) (fun _ _ _ h => h) (by kernel_rfl) (by kernel_rfl) (Or.inl ⟨rfl, fun w' hS => ?_⟩) HS0 ?_
          · go_simp
          simp only [Act.put, List.setIfInBounds_toArray, List.set_cons_zero, List.set_cons_succ]
          refine Rg.Till.take (i := 3) (v := .pointer (some ⟨b, o + i * 9, none⟩)) (some 27) rfl rfl (by kernel_rfl) (by kernel_rfl) (fun _ _ _ h => h) (by kernel_rfl) (by kernel_rfl) (Or.inl ⟨rfl, fun w' hS => ?_⟩) HS0 ?_
          · go_simp
          simp only [Act.put, List.setIfInBounds_toArray, List.set_cons_zero, List.set_cons_succ]
          refine Rg.Till.take (i := 4) (v := .agg #[.int .i64 p.what, .int .i64 p.id, .int .i64 p.par, .int .i64 p.at_, .string p.tag, .string p.key, .string p.txt, .string p.name, .string p.val]) (some 28) rfl rfl (by kernel_rfl) (by kernel_rfl) (fun _ _ _ h => h) (by kernel_rfl) (by kernel_rfl) (Or.inl ⟨rfl, fun w' hS => ?_⟩) HS0 ?_
          · have kq0 := keepc hS _ _ q0; have kq1 := keepc hS _ _ q1; have kq2 := keepc hS _ _ q2; have kq3 := keepc hS _ _ q3; have kq4 := keepc hS _ _ q4; have kq5 := keepc hS _ _ q5; have kq6 := keepc hS _ _ q6; have kq7 := keepc hS _ _ q7; have kq8 := keepc hS _ _ q8; go_simp
          simp only [Act.put, List.setIfInBounds_toArray, List.set_cons_zero, List.set_cons_succ]
          refine Rg.Till.twoK (i := 5) (j := 9) (by kernel_rfl) rfl rfl rfl rfl ?_ ?_
          · skip
            intro K hK
            refine op_call2 (d := some 29) rfl 7 (by intros; go_simp) _ _ _ rfl _ _ rfl rfl ((HAP.out _ HS0).mono ?_)
            rintro e w5 ⟨a3, c3, ab3, kb3, rfl, hO5, hb5⟩
            have HC1 : Below wr.heap.size wr w5 := nxt HS0 hb5
            refine ⟨_, rfl, hK.out _ _ (fun _ => HC1) ?_⟩
            clear hK K
            simp only [Act.put, List.setIfInBounds_toArray, List.set_cons_zero, List.set_cons_succ]
            refine Rg.Till.take (i := 6) (v := .tuple #[.agg #[.slice a3 R.2.nodes.length c3, .int .i64 R.2.root, .int .i64 R.2.next], .int .i64 R.1]) (some 23) rfl rfl (by kernel_rfl) (by kernel_rfl) (fun _ _ _ h => h) (by kernel_rfl) (by kernel_rfl) (Or.inl ⟨rfl, fun w' hS => ?_⟩) HC1 ?_
            · go_simp
            simp only [Act.put, List.setIfInBounds_toArray, List.set_cons_zero, List.set_cons_succ]
            refine Rg.Till.take (i := 7) (v := .agg #[.slice a3 R.2.nodes.length c3, .int .i64 R.2.root, .int .i64 R.2.next]) (some 30) rfl rfl (by kernel_rfl) (by kernel_rfl) (fun _ _ _ h => h) (by kernel_rfl) (by kernel_rfl) (Or.inl ⟨rfl, fun w' hS => ?_⟩) HC1 ?_
            · go_simp
            simp only [Act.put, List.setIfInBounds_toArray, List.set_cons_zero, List.set_cons_succ]
            refine Rg.Till.take (i := 8) (v := .int .i64 R.1) (some 31) rfl rfl (by kernel_rfl) (by kernel_rfl) (fun _ _ _ h => h) (by kernel_rfl) (by kernel_rfl) (Or.inl ⟨rfl, fun w' hS => ?_⟩) HC1 ?_
            · go_simp
            simp only [Act.put, List.setIfInBounds_toArray, List.set_cons_zero, List.set_cons_succ]
            refine Rg.Till.oneK (i := 9) (by kernel_rfl) rfl rfl ?_
            intro K hK
            go_simp
            have HA1 : Below wr.heap.size wr (w5.alloc (.cells #[.slice none 0 0, .int .i64 0, .int .i64 0] 24)) := nxt HC1 (below_one _ _)
            refine hK.out _ _ (fun _ => HA1) ?_
            clear hK K
            have FB : (w5.alloc (.cells #[.slice none 0 0, .int .i64 0, .int .i64 0] 24)).heap[w5.heap.size]? = _ := heap_alloc_new _ _
            have OW : Pg.OwnN (w5.alloc (.cells #[.slice none 0 0, .int .i64 0, .int .i64 0] 24)) w4.heap.size (.slice a3 R.2.nodes.length c3) R.2.nodes ab3 kb3 := hO5.below (below_one _ _)
            refine Rg.Till.oneK (i := 10) (by kernel_rfl) rfl rfl ?_
            intro K hK
            refine Rg.op_storeF rfl 24 (.tmp 9) (.tmp 30) rfl (w5.heap.size) _ 24 [.slice a3 R.2.nodes.length c3, .int .i64 R.2.root, .int .i64 R.2.next] rfl rfl FB rfl (by kernel_rfl) (by simp [Value.oneCell']) ?_
            intro w6 f1 f2 f3
            have HB6 : Below wr.heap.size wr w6 := f3 _ _ HC1.size HA1
            have O6 : Pg.OwnN w6 w4.heap.size (.slice a3 R.2.nodes.length c3) R.2.nodes ab3 kb3 := OW.same fun b hb => f2 b (OW.notState FB hb)
            refine hK.out _ _ (fun _ => HB6) ?_
            clear hK K
            refine Rg.Till.oneK (i := 11) (by kernel_rfl) rfl rfl ?_
            intro K hK
            go_simp
            refine hK.out _ _ (fun h => absurd rfl h) ?_
            clear hK K
            refine Rg.Till.done (by kernel_rfl) ?_
            clear t0 t1 t2 q0 q1 q2 q3 q4 q5 q6 q7 q8 FB OW
            go_wp2_with fail
            go_meet
            exact ⟨rfl, _, a3, c3, ab3, kb3, rfl, f1, O6, HB6, HC1.size⟩
          · skip
            intro K hK
            go_simp
            have HA2 : Below wr.heap.size wr (wr.drew.alloc (.cells #[.slice none 0 0, .int .i64 0, .int .i64 0] 24)) := nxt HS0 (below_one _ _)
            refine hK.out _ _ (fun _ => HA2) ?_
            clear hK K
            refine Rg.Till.oneK (i := 5) (by kernel_rfl) rfl rfl ?_
            intro K hK
            refine op_call2 (d := some 29) rfl 7 (by intros; go_simp) _ _ _ rfl _ _ rfl rfl ((HAP.out _ HA2).mono ?_)
            rintro e w5 ⟨a3, c3, ab3, kb3, rfl, hO5, hb5⟩
            have HC2 : Below wr.heap.size wr w5 := nxt HA2 hb5
            refine ⟨_, rfl, hK.out _ _ (fun _ => HC2) ?_⟩
            clear hK K
            simp only [Act.put, List.setIfInBounds_toArray, List.set_cons_zero, List.set_cons_succ]
            refine Rg.Till.take (i := 6) (v := .tuple #[.agg #[.slice a3 R.2.nodes.length c3, .int .i64 R.2.root, .int .i64 R.2.next], .int .i64 R.1]) (some 23) rfl rfl (by kernel_rfl) (by kernel_rfl) (fun _ _ _ h => h) (by kernel_rfl) (by kernel_rfl) (Or.inl ⟨rfl, fun w' hS => ?_⟩) HC2 ?_
            · go_simp
            simp only [Act.put, List.setIfInBounds_toArray, List.set_cons_zero, List.set_cons_succ]
            refine Rg.Till.take (i := 7) (v := .agg #[.slice a3 R.2.nodes.length c3, .int .i64 R.2.root, .int .i64 R.2.next]) (some 30) rfl rfl (by kernel_rfl) (by kernel_rfl) (fun _ _ _ h => h) (by kernel_rfl) (by kernel_rfl) (Or.inl ⟨rfl, fun w' hS => ?_⟩) HC2 ?_
            · go_simp
            simp only [Act.put, List.setIfInBounds_toArray, List.set_cons_zero, List.set_cons_succ]
            refine Rg.Till.take (i := 8) (v := .int .i64 R.1) (some 31) rfl rfl (by kernel_rfl) (by kernel_rfl) (fun _ _ _ h => h) (by kernel_rfl) (by kernel_rfl) (Or.inl ⟨rfl, fun w' hS => ?_⟩) HC2 ?_
            · go_simp
            simp only [Act.put, List.setIfInBounds_toArray, List.set_cons_zero, List.set_cons_succ]
            have FB : w5.heap[wr.heap.size]? = _ := (hb5.block _ (by show wr.heap.size < (wr.alloc _).heap.size; simp)).trans (heap_alloc_new wr _)
            have OW : Pg.OwnN w5 w4.heap.size (.slice a3 R.2.nodes.length c3) R.2.nodes ab3 kb3 := hO5
            refine Rg.Till.oneK (i := 10) (by kernel_rfl) rfl rfl ?_
            intro K hK
            refine Rg.op_storeF rfl 24 (.tmp 9) (.tmp 30) rfl (wr.heap.size) _ 24 [.slice a3 R.2.nodes.length c3, .int .i64 R.2.root, .int .i64 R.2.next] rfl rfl FB rfl (by kernel_rfl) (by simp [Value.oneCell']) ?_
            intro w6 f1 f2 f3
            have HB6 : Below wr.heap.size wr w6 := f3 _ _ (Nat.le_refl _) HC2
            have O6 : Pg.OwnN w6 w4.heap.size (.slice a3 R.2.nodes.length c3) R.2.nodes ab3 kb3 := OW.same fun b hb => f2 b (OW.notState FB hb)
            refine hK.out _ _ (fun _ => HB6) ?_
            clear hK K
            refine Rg.Till.oneK (i := 11) (by kernel_rfl) rfl rfl ?_
            intro K hK
            go_simp
            refine hK.out _ _ (fun h => absurd rfl h) ?_
            clear hK K
            refine Rg.Till.done (by kernel_rfl) ?_
            clear t0 t1 t2 q0 q1 q2 q3 q4 q5 q6 q7 q8 FB OW
            go_wp2_with fail
            go_meet
            exact ⟨rfl, _, a3, c3, ab3, kb3, rfl, f1, O6, HB6, (Nat.le_refl _)⟩
        case rest =>
          obtain ⟨rfl, g9, a3, c3, ab3, kb3, rfl, HG, HO3, HC, HGL⟩ := hcut
          have HT3 : Hid (wc.heap[T]? = some (.cells #[.slice va si.nodes.length vc, .int .i64 si.root, .int .i64 si.next] 24 (0, 0))) := (HC.out.block _ (lt_of_block HT.out)).trans HT.out
          have HZ3 : Hid (wc.heap[w.heap.size + 1]? = some (.cells #[.slice none 0 0, .int .i64 0, .int .i64 0] 24 (0, 0))) := (HC.out.block _ (lt_of_block HZ.out)).trans HZ.out
          have HOA : Hid (Pg.OwnN wc w4.heap.size (.slice va si.nodes.length vc) si.nodes ab kb) := HO.out.below HC.out
          have HB3 : Hid (Below w.heap.size w wc ∧ w4.heap.size ≤ wc.heap.size) := ⟨nxt HB.out.1 HC.out, Nat.le_trans HB.out.2 HC.out.size⟩
          have hgT : g9 ≠ T := by have h1 := HGL.out; have h2 := lt_of_block HT.out; omega
          clear t0 t1 t2 q0 q1 q2 q3 q4 q5 q6 q7 q8 HT HZ HO HB HC HAP HGL
          obtain ⟨t0, t1, t2⟩ := three HT3.out
          obtain ⟨g0, g1, g2⟩ := three HG.out
          by_cases he : (takeD si p).1 = 0
          · have HR1 : Hid (R = takeD si p) := by show _ = _; rw [HRR.out]; exact if_pos he
            have gz : (R.1 != 0) = false := by rw [HR1.out, he]; rfl
            have HQ : Hid (runL s ps 0 = runL R.2 (ps.drop (i + 1)) (i + 1) ∧ OkD R.2) := ⟨by rw [HEQ.out, if_pos he, HR1.out], by rw [HR1.out]; exact HTO.out⟩
            obtain ⟨f1, f2, f3⟩ := state_fin (v := .slice a3 R.2.nodes.length c3) (r := .int .i64 R.2.root) (n := .int .i64 R.2.next) HT3.out
            have hs9 : (((wc.setCell ⟨T, 0, none⟩ (.slice a3 R.2.nodes.length c3)).setCell ⟨T, 1, none⟩ (.int .i64 R.2.root)).setCell ⟨T, 2, none⟩ (.int .i64 R.2.next)).heap.size = wc.heap.size := by simp [World.setCell]
            have J9 : Hid (∃ va vc ab kb, (((wc.setCell ⟨T, 0, none⟩ (.slice a3 R.2.nodes.length c3)).setCell ⟨T, 1, none⟩ (.int .i64 R.2.root)).setCell ⟨T, 2, none⟩ (.int .i64 R.2.next)).heap[T]? = some (.cells #[.slice va R.2.nodes.length vc, .int .i64 R.2.root, .int .i64 R.2.next] 24 (0, 0)) ∧ Pg.OwnN (((wc.setCell ⟨T, 0, none⟩ (.slice a3 R.2.nodes.length c3)).setCell ⟨T, 1, none⟩ (.int .i64 R.2.root)).setCell ⟨T, 2, none⟩ (.int .i64 R.2.next)) w4.heap.size (.slice va R.2.nodes.length vc) R.2.nodes ab kb) := ⟨a3, c3, ab3, kb3, f1, HO3.out.same fun b hb => f2 b (HO3.out.notState HT3.out hb)⟩
            have B9 : Hid (Below w.heap.size w (((wc.setCell ⟨T, 0, none⟩ (.slice a3 R.2.nodes.length c3)).setCell ⟨T, 1, none⟩ (.int .i64 R.2.root)).setCell ⟨T, 2, none⟩ (.int .i64 R.2.next)) ∧ w4.heap.size ≤ (((wc.setCell ⟨T, 0, none⟩ (.slice a3 R.2.nodes.length c3)).setCell ⟨T, 1, none⟩ (.int .i64 R.2.root)).setCell ⟨T, 2, none⟩ (.int .i64 R.2.next)).heap.size) := ⟨f3 w.heap.size w (by omega) HB3.out.1, by rw [hs9]; exact HB3.out.2⟩
            have Z9 : Hid ((((wc.setCell ⟨T, 0, none⟩ (.slice a3 R.2.nodes.length c3)).setCell ⟨T, 1, none⟩ (.int .i64 R.2.root)).setCell ⟨T, 2, none⟩ (.int .i64 R.2.next)).heap[w.heap.size + 1]? = some (.cells #[.slice none 0 0, .int .i64 0, .int .i64 0] 24 (0, 0))) := (f2 _ (by omega)).trans HZ3.out
            have tf0 := (cell_of HT3.out 0).2
            have tf1 := (cell_of HT3.out 1).2
            have tf2 := (cell_of HT3.out 2).2
            clear f1 f2 f3 hs9 he HRR HEQ HTO HR1
            go_wp2_with fail
            go_roundw
            case rel => exact ⟨i + 1, R.2, by omega, by go_num, J9.out, ⟨HQ.out.2, HQ.out.1⟩, B9.out, Z9.out⟩
            case measure => simp [intOf]; omega
          · have HR1 : Hid (R.1 = (takeD si p).1) := by show _ = _; rw [HRR.out]; unfold errD; rw [if_neg he]
            have gz : (R.1 != 0) = true := by rw [HR1.out]; simpa using he
            have HQ : Hid (runD s ps = (si, i, R.1)) := by show _ = _; rw [HR.out, HEQ.out, if_neg he, HR1.out]
            clear he HRR HEQ HTO HR1
            obtain ⟨⟨z0, z1, z2⟩, zf0, zf1, zf2⟩ : (wc.cell? ⟨w.heap.size + 1, 0, none⟩ = some (.slice none 0 0) ∧ wc.cell? ⟨w.heap.size + 1, 1, none⟩ = some (.int .i64 0) ∧ wc.cell? ⟨w.heap.size + 1, 2, none⟩ = some (.int .i64 0)) ∧ wc.frozen? ⟨w.heap.size + 1, 0, none⟩ = false ∧ wc.frozen? ⟨w.heap.size + 1, 1, none⟩ = false ∧ wc.frozen? ⟨w.heap.size + 1, 2, none⟩ = false := ⟨three HZ3.out, (cell_of HZ3.out 0).2, (cell_of HZ3.out 1).2, (cell_of HZ3.out 2).2⟩
            have HZA : wc.heap[w.heap.size + 1]? = some (.cells #[.slice none 0 0, .int .i64 0, .int .i64 0] 24 (0, 0)) := HZ3.out
            obtain ⟨f1, f2, f3⟩ := state_fin (v := .slice va si.nodes.length vc) (r := .int .i64 si.root) (n := .int .i64 si.next) HZA
            have f3 := f3 w.heap.size w (by omega) HB3.out.1
            have O15 : Hid (Pg.OwnN (((wc.setCell ⟨w.heap.size + 1, 0, none⟩ (.slice va si.nodes.length vc)).setCell ⟨w.heap.size + 1, 1, none⟩ (.int .i64 si.root)).setCell ⟨w.heap.size + 1, 2, none⟩ (.int .i64 si.next)) w.heap.size (.slice va si.nodes.length vc) si.nodes ab kb) := (HOA.out.same fun b hb => f2 b (HOA.out.notState HZA hb)).less (by omega)
            have F1 : Hid (_ = some (Obj.cells _ _ _)) := f1
            have F3 : Hid (Below w.heap.size w _) := f3
            clear f1 f2 f3 HZA
            go_wp2_with fail
            all_goals (
            clear z0 z1 z2 zf0 zf1 zf2 t0 t1 t2 g0 g1 g2
            generalize (((wc.setCell ⟨w.heap.size + 1, 0, none⟩ (.slice va si.nodes.length vc)).setCell ⟨w.heap.size + 1, 1, none⟩ (.int .i64 si.root)).setCell ⟨w.heap.size + 1, 2, none⟩ (.int .i64 si.next)) = W9 at *
            obtain ⟨c0, c1, c2⟩ := three F1.out
            refine bodyPost_ret (v := .tuple #[.agg #[.slice va si.nodes.length vc, .int .i64 si.root, .int .i64 si.next], .int .i64 (i : Int), .int .i64 R.1]) (by simp [results, Tryz.results18, go_sem, c0, c1, c2]) rfl ?_
            rw [HQ.out]
            exact ⟨_, _, _, rfl, O15.out, F3.out⟩)
      · have hil : i = ps.length := by omega
        subst hil
        have HQ : Hid (runD s ps = (si, ps.length, 0)) := by
          show _ = _
          rw [HR.out, HE.out.2, List.drop_length]
          rfl
        obtain ⟨⟨z0, z1, z2⟩, zf0, zf1, zf2⟩ : (wr.cell? ⟨w.heap.size + 1, 0, none⟩ = some (.slice none 0 0) ∧ wr.cell? ⟨w.heap.size + 1, 1, none⟩ = some (.int .i64 0) ∧ wr.cell? ⟨w.heap.size + 1, 2, none⟩ = some (.int .i64 0)) ∧ wr.frozen? ⟨w.heap.size + 1, 0, none⟩ = false ∧ wr.frozen? ⟨w.heap.size + 1, 1, none⟩ = false ∧ wr.frozen? ⟨w.heap.size + 1, 2, none⟩ = false := ⟨three HZ.out, (cell_of HZ.out 0).2, (cell_of HZ.out 1).2, (cell_of HZ.out 2).2⟩
        have HZA : wr.heap[w.heap.size + 1]? = some (.cells #[.slice none 0 0, .int .i64 0, .int .i64 0] 24 (0, 0)) := HZ.out
        obtain ⟨f1, f2, f3⟩ := state_fin (v := .slice va si.nodes.length vc) (r := .int .i64 si.root) (n := .int .i64 si.next) HZA
        have f3 := f3 w.heap.size w (by omega) HB.out.1
        have O15 : Hid (Pg.OwnN (((wr.setCell ⟨w.heap.size + 1, 0, none⟩ (.slice va si.nodes.length vc)).setCell ⟨w.heap.size + 1, 1, none⟩ (.int .i64 si.root)).setCell ⟨w.heap.size + 1, 2, none⟩ (.int .i64 si.next)) w.heap.size (.slice va si.nodes.length vc) si.nodes ab kb) := (HO.out.same fun b hb => f2 b (HO.out.notState HZA hb)).less (by omega)
        have F1 : Hid (_ = some (Obj.cells _ _ _)) := f1
        have F3 : Hid (Below w.heap.size w _) := f3
        clear f1 f2 f3 HZA
        go_wp2_with fail
        all_goals (
        clear z0 z1 z2 zf0 zf1 zf2 t0 t1 t2
        generalize (((wr.setCell ⟨w.heap.size + 1, 0, none⟩ (.slice va si.nodes.length vc)).setCell ⟨w.heap.size + 1, 1, none⟩ (.int .i64 si.root)).setCell ⟨w.heap.size + 1, 2, none⟩ (.int .i64 si.next)) = W9 at *
        obtain ⟨c0, c1, c2⟩ := three F1.out
        refine bodyPost_ret (v := .tuple #[.agg #[.slice va si.nodes.length vc, .int .i64 si.root, .int .i64 si.next], .int .i64 (ps.length : Int), .int .i64 0]) (by simp [results, Tryz.results18, go_sem, c0, c1, c2]) rfl ?_
        rw [HQ.out]
        exact ⟨_, _, _, rfl, O15.out, F3.out⟩)
end Go.Proofs.YtcdnakcojanaeaaGreat

/-
  The law's Patches: a row of the page's patches, as the program's.
-/
namespace Go.Proofs.YtcdnakcojanaeaaGreat
open Go.ChangeShapes Go.WideShapes Go.ChangeAt Go.RowKit Go.Deep
open Do

theorem Tryz.infoPatch : (Tryz.prog.info? 34).map (fun i => (i.zero, i.size, i.bytes)) = some (some (mkP ⟨0, 0, 0, 0, ⟨#[]⟩, ⟨#[]⟩, ⟨#[]⟩, ⟨#[]⟩, ⟨#[]⟩⟩), 9, 112) := by kernel_rfl

/-- A patch's cells. -/
def oneP (p : Pt) : List Value := [.int .i64 p.what, .int .i64 p.id, .int .i64 p.par, .int .i64 p.at_, .string p.tag, .string p.key, .string p.txt, .string p.name, .string p.val]
def cellsP (ps : List Pt) : List Value := ps.flatMap oneP

theorem cellsP_at : ∀ {ps : List Pt} {i : Nat} {p : Pt} {j : Nat}, ps[i]? = some p → j < 9 → (cellsP ps)[i * 9 + j]? = (oneP p)[j]?
  | [], _, _, _, h, _ => by simp at h
  | a :: r, 0, p, j, h, hj => by
    simp only [List.getElem?_cons_zero, Option.some.injEq] at h
    subst h
    unfold cellsP
    rw [List.flatMap_cons, List.getElem?_append_left (by simp [oneP]; omega)]
    simp
  | a :: r, i + 1, p, j, h, hj => by
    have ih := cellsP_at (ps := r) (i := i) (p := p) (j := j) (by simpa using h) hj
    unfold cellsP at ih ⊢
    rw [List.flatMap_cons, List.getElem?_append_right (by simp [oneP]; omega)]
    have e : (i + 1) * 9 + j - (oneP a).length = i * 9 + j := by simp [oneP]; omega
    rw [e]
    exact ih

theorem cellsP_snoc (ps : List Pt) (p : Pt) : cellsP (ps ++ [p]) = cellsP ps ++ oneP p := by
  unfold cellsP
  rw [List.flatMap_append]
  simp

theorem layP_of_own {w : World} {B : Nat} {a : Option Addr} {n c : Nat} {ps : List Pt} (h : w.ownsRow B 34 9 (.slice a n c) ps.length (cellsP ps)) (hp : ∀ p ∈ ps, PtOk p) : LayP w a ps := by
  intro i p hi
  have f : ∀ (j : Nat) (v : Value), j < 9 → (oneP p)[j]? = some v → ∃ g, a = some ⟨g, 0, none⟩ ∧ w.cell? ⟨g, 0 + i * 9 + j, none⟩ = some v := by
    intro j v hj hv
    obtain ⟨g, ha, q⟩ := cells_of_own h (i * 9 + j) v (by rw [cellsP_at hi hj]; exact hv)
    exact ⟨g, ha, by rw [Nat.zero_add] at q ⊢; exact q⟩
  obtain ⟨g, ha, q0⟩ := f 0 _ (by omega) rfl
  have k : ∀ (j : Nat) (v : Value), j < 9 → (oneP p)[j]? = some v → w.cell? ⟨g, 0 + i * 9 + j, none⟩ = some v := by
    intro j v hj hv
    obtain ⟨g', ha', q⟩ := f j v hj hv
    rw [ha] at ha'
    cases ha'
    exact q
  exact ⟨g, 0, ha, ⟨q0, k 1 _ (by omega) rfl, k 2 _ (by omega) rfl, k 3 _ (by omega) rfl, k 4 _ (by omega) rfl, k 5 _ (by omega) rfl, k 6 _ (by omega) rfl, k 7 _ (by omega) rfl, k 8 _ (by omega) rfl⟩, hp p (List.mem_of_getElem? hi)⟩

set_option maxRecDepth 100000 in
set_option maxHeartbeats 3200000 in
theorem patches_any (ps : List Pt) (a : Option Addr) (c : Nat) (w : World) (hl : LayP w a ps) (hlen : ps.length * 112 ≤ 140737488351232) :
    Calls Tryz.prog 17 #[.slice a ps.length c] w fun e w' => ∃ a' c', e = .returned (.slice a' ps.length c') ∧ LayP w' a' ps ∧ Below w.heap.size w w' := by
  have HL : Hid (LayP w a ps) := hl
  have HPO : Hid (∀ p ∈ ps, PtOk p) := fun p hp => by
    obtain ⟨i, hi, rfl⟩ := List.getElem_of_mem hp
    obtain ⟨_, _, _, _, h⟩ := hl i _ (List.getElem?_eq_getElem hi)
    exact h
  obtain ⟨i0, hi0, hz0, hz1, hz2⟩ := info_parts Tryz.infoPatch
  clear hl
  go_enter Tryz.func17, Tryz.ntmps17
  go_wp2_with fail
  go_loopw [3, 4] (fun v3 v4 wr => ∃ i : Nat, i ≤ ps.length ∧ v4 = .int .i64 (i : Int) ∧ Hid (wr.ownsRow w.heap.size 34 9 v3 i (cellsP (ps.take i))) ∧ Hid (Below w.heap.size w wr)) (fun _ v4 _ => ps.length - (intOf v4).toNat)
  case atStart => exact ⟨0, Nat.zero_le _, rfl, World.ownsRow_nil _ _ _ _, Below.refl _ _⟩
  case round =>
    obtain ⟨i, hi, rfl, HO, HB⟩ := hrel
    obtain ⟨oa, oc, hov⟩ := slice_of_own HO.out
    subst hov
    by_cases hlt : i < ps.length
    · obtain ⟨b, o, ha, ⟨q0, q1, q2, q3, q4, q5, q6, q7, q8⟩, -⟩ := HL.out.below HB.out i ps[i] (List.getElem?_eq_getElem hlt)
      subst ha
      have HT : Hid (cellsP (ps.take (i + 1)) = cellsP (ps.take i) ++ oneP ps[i]) := by
        show _ = _
        rw [List.take_succ_eq_append_getElem hlt, cellsP_snoc]
      generalize cellsP (ps.take i) = xs at *
      generalize ps[i] = p at *
      have HOX : Hid ((wr.alloc (.cells #[.int .i64 p.what, .int .i64 p.id, .int .i64 p.par, .int .i64 p.at_, .string p.tag, .string p.key, .string p.txt, .string p.name, .string p.val] 34)).ownsRow w.heap.size 34 9 (.slice oa i oc) i xs) := ownsRow_same HO.out fun g hg => (below_one _ _).block g (HO.out.lt g hg).2
      have HBX : Hid (Below w.heap.size w (wr.alloc (.cells #[.int .i64 p.what, .int .i64 p.id, .int .i64 p.par, .int .i64 p.at_, .string p.tag, .string p.key, .string p.txt, .string p.name, .string p.val] 34))) := nxt HB.out (below_one _ _)
      have HNW : Hid (∀ j u, (oneP p)[j]? = some u → (wr.alloc (.cells #[.int .i64 p.what, .int .i64 p.id, .int .i64 p.par, .int .i64 p.at_, .string p.tag, .string p.key, .string p.txt, .string p.name, .string p.val] 34)).cell? ((⟨wr.heap.size, 0, none⟩ : Addr).add j) = some u) := fun j u hj => newCells wr _ _ j u (by rw [← Array.getElem?_toList]; exact hj)
      clear HO HB
      go_wp2_with (at_builtin; refine wpList_append_apart _ rfl _ _ 55 rfl w.heap.size 34 i0 _ 9 112 Tryz.underlying55 hi0 hz0 hz1 hz2 rfl (by decide) _ i xs rfl HOX.out (some ⟨wr.heap.size, 0, none⟩) 1 1 (oneP p) rfl (by simp) rfl ?d1 ?d2 ?d3 ?d4 HBX.out.size ?_)
      case d1 => intro ad e j v hj; cases e; exact HNW.out j v hj
      case d2 => intro v hv; simp [oneP] at hv; rcases hv with rfl | rfl | rfl | rfl | rfl | rfl | rfl | rfl | rfl <;> rfl
      case d3 => unfold maxLen; omega
      case d4 => omega
      intro v' w5 e1 e2 e3
      have OO : Hid (w5.ownsRow w.heap.size 34 9 v' (i + 1) (xs ++ oneP p)) := e1
      have BB : Hid (Below w.heap.size w w5) := HBX.out.trans (grownB HOX.out e2 HBX.out.size)
      clear e1 e2 e3 q0 q1 q2 q3 q4 q5 q6 q7 q8 HOX HBX HNW
      go_wp2_with fail
      go_roundw
      case rel => exact ⟨i + 1, by omega, by go_num, by rw [HT.out]; exact OO.out, BB.out⟩
      case measure => simp [intOf]; omega
    · have hil : i = ps.length := by omega
      subst hil
      rw [List.take_length] at HO
      go_wp2_with fail
      go_ret
      exact ⟨oa, oc, rfl, layP_of_own HO.out HPO.out, HB.out⟩
end Go.Proofs.YtcdnakcojanaeaaGreat

/-
  What Run of both answers, in one form.
-/
namespace Go.Proofs.YtcdnakcojanaeaaGreat
open Go.ChangeShapes Go.WideShapes Go.ChangeAt Go.RowKit Go.Deep
open Do

/-- What the size and the numbers of a display keep to. -/
def FitD (s : Ds) : Prop := s.nodes.length ≤ 1024 ∧ (-9223372036854775808 ≤ s.root ∧ s.root ≤ 9223372036854775807) ∧ (-9223372036854775808 ≤ s.next ∧ s.next ≤ 9223372036854775807)

theorem okD_fitD {s : Ds} (h : OkD s) : FitD s := by
  have hn := h.nx
  refine ⟨h.len, ?_, by omega⟩
  rcases h.root with h0 | ⟨m, h1, -⟩
  · rw [h0]; omega
  · have h2 := (nd_some h1).2
    have h3 := h.below m (nd_some h1).1
    have h4 := (h.good.at h1).pos
    omega

theorem runL_ok : ∀ {ps : List Pt} {s : Ds} {k : Nat}, OkD s → OkD (runL s ps k).1
  | [], _, _, h => h
  | p :: r, s, k, h => by
    rw [runL_cons]
    split
    · exact runL_ok (take_ok h p).1
    · exact h

theorem runD_fit (s : Ds) (ps : List Pt) : FitD (runD s ps).1 := by
  unfold runD
  split
  · rename_i h
    exact okD_fitD (runL_ok (okD_iff.1 h))
  · exact ⟨by simp [noD], by simp [noD], by simp [noD]⟩

/-- A display of the program's, in memory of its own. -/
def DsO (w : World) (D : Ds) (a : Option Addr) (c : Nat) : Prop := FitD D ∧ ∃ ab kb B, OwnN w B (.slice a D.nodes.length c) D.nodes ab kb

theorem DsO.is {w : World} {D : Ds} {a : Option Addr} {c : Nat} (h : DsO w D a c) : DsIs w D a c := by
  obtain ⟨hf, ab, kb, B, ho⟩ := h
  exact ⟨ho.lay, by have := hf.1; omega, cap_of_own ho.row, hf.2.1, hf.2.2⟩

theorem DsO.below {w w' : World} {D : Ds} {a : Option Addr} {c : Nat} (h : DsO w D a c) (hb : Below w.heap.size w w') : DsO w' D a c := by
  obtain ⟨hf, ab, kb, B, ho⟩ := h
  exact ⟨hf, ab, kb, B, ho.below hb⟩

theorem DsO.other {w w' : World} {D : Ds} {a : Option Addr} {c : Nat} (h : DsO w D a c) {P : Nat} {cs : Array Value} (hP : w.heap[P]? = some (.cells cs 29 (0, 0))) (hk : ∀ b, b ≠ P → w'.heap[b]? = w.heap[b]?) : DsO w' D a c := by
  obtain ⟨hf, ab, kb, B, ho⟩ := h
  exact ⟨hf, ab, kb, B, ho.same fun b hb => hk b (ho.notState hP hb)⟩

theorem run_v {s : Ds} {ps : List Pt} {w w' : World} {e : Ending} (h : RunPost w w' e (runD s ps)) :
    ∃ a3 c3, e = .returned (.tuple #[.agg #[.slice a3 (runD s ps).1.nodes.length c3, .int .i64 (runD s ps).1.root, .int .i64 (runD s ps).1.next], .int .i64 ((runD s ps).2.1 : Int), .int .i64 (runD s ps).2.2]) ∧ DsO w' (runD s ps).1 a3 c3 ∧ Below w.heap.size w w' := by
  obtain ⟨x, rfl, ⟨v, ab, kb, rfl, ho⟩, hb⟩ := h
  obtain ⟨a3, c3, rfl⟩ := ho.shape
  exact ⟨a3, c3, rfl, ⟨runD_fit s ps, ab, kb, _, ho⟩, hb⟩

theorem rrun_v {s : Ds} {ps : List Pt} {w w' : World} {e : Ending} (h : RgPost w w' e (runD s ps)) :
    ∃ a3 c3, e = .returned (.tuple #[.agg #[.slice a3 (runD s ps).1.nodes.length c3, .int .i64 (runD s ps).1.root, .int .i64 (runD s ps).1.next], .int .i64 ((runD s ps).2.1 : Int), .int .i64 (runD s ps).2.2]) ∧ DsIs w' (runD s ps).1 a3 c3 ∧ Below w.heap.size w w' := by
  obtain ⟨v, ab, kb, rfl, ho, hb⟩ := h
  have hf := runD_fit s ps
  obtain ⟨a3, c3, rfl⟩ := ho.shape
  exact ⟨a3, c3, rfl, ho.ds hf.1 hf.2.1 hf.2.2, hb⟩
end Go.Proofs.YtcdnakcojanaeaaGreat
