/-
  slices.Insert of one attribute into a row of one's own.
-/
import Derived.Test.YtcdnakcojanaeabGreatDoLessJ
namespace Go.Proofs.YtcdnakcojanaeabGreat
open Go.ChangeShapes Go.WideShapes Go.ChangeAt Go.RowKit Go.Deep
open Do

set_option maxRecDepth 100000 in
set_option maxHeartbeats 4000000 in
theorem insA_room (b n cap i vb : Nat) (cur : Array Value) (vs : List Value) (w : World) (hi : i < n) (hroom : n + 1 ≤ cap) (hcap : cap ≤ 9223372036854775807) (hvb : vb ≠ b)
    (hb : w.heap[b]? = some (.cells cur 43 (0, 0))) (hcur : cur.size = cap * 2) (hv : w.heap[vb]? = some (.cells vs.toArray 43 (0, 0))) (hvl : vs.length = 2) (h1c : ∀ v ∈ cur.toList.take (n * 2), v.oneCell' = true) (h1v : ∀ v ∈ vs, v.oneCell' = true) :
    Calls Tryz.prog 75 #[.slice (some ⟨b, 0, none⟩) n cap, .int .i64 i, .slice (some ⟨vb, 0, none⟩) 1 1] w fun e w' =>
      e = .returned (.slice (some ⟨b, 0, none⟩) (n + 1) cap) ∧ ∃ cur' : Array Value, cur'.size = cur.size ∧ cur'.toList.take ((n + 1) * 2) = (cur.toList.take (i * 2)) ++ vs ++ ((cur.toList.take (n * 2)).drop (i * 2)) ∧
        w'.heap[b]? = some (.cells cur' 43 (0, 0)) ∧ (∀ k, k ≠ b → w'.heap[k]? = w.heap[k]?) ∧ w'.heap.size = w.heap.size ∧ w'.os = w.os ∧ w'.tape = w.tape ∧ w'.output = w.output := by
  obtain ⟨i0, hi0, hz0, hzs, hzb⟩ := info_parts Tryz.infoAtr
  have hsz : (Tryz.prog.info? 43).map (·.size) = some 2 := by rw [hi0]; simp [hzs]
  have hz9 : ∀ w, (Go.sizeOf 43).run Tryz.prog w = .ok 2 w := fun w => by simp [Go.sizeOf, typeInfo, hi0, hzs]
  have hov : ∀ o lb cb, (callFunc 88 #[.slice (some ⟨vb, 0, none⟩) 1 1, .slice (some ⟨b, o, none⟩) lb cb]).run Tryz.prog w = .ok (.value (.bool false)) w := fun o lb cb => by
    rw [run_callFunc_extern Tryz.func88 (by kernel_rfl) (by kernel_rfl) (by kernel_rfl) (e := Extern.SlicesOverlaps.overlaps #[38, 38] #[4]) (by kernel_rfl),
      Lib.run_overlaps_apart w 38 4 43 Tryz.underlying38 2 hz9 ⟨vb, 0, none⟩ ⟨b, o, none⟩ 1 1 lb cb hvb 43 43 2 (cap * 2) (by simp [World.shape?, hv, hvl]) (by simp [World.shape?, hb, hcur]) (by omega) (by simp [World.frozen?, hv]) (by simp [World.frozen?, hv])]
    rfl
  have hw1 : IntKind.i64.wrap ((i : Int) + 1) = (i : Int) + 1 := by rw [IntKind.wrap_i64]; omega
  have hb1 : (0 : Int) ≤ (i : Int) + 1 := by omega
  have hin : i ≤ n := by omega
  have htn : ((i : Int) + 1).toNat = i + 1 := by omega
  have hb2 : ¬ (cap = i + 1) := by omega
  have hb3 : (i : Int) ≤ (n : Int) + 1 := by omega
  have hb4 : ¬ (cap = i) := by omega
  have hcl : cur.toList.length = cap * 2 := by simpa using hcur
  have hdl : ((cur.toList.take (n * 2)).drop (i * 2)).length = (n - i) * 2 := by rw [List.length_drop, List.length_take, hcl]; omega
  have hcell : ∀ (W : World), W.heap = w.heap → ∀ j, W.cell? ⟨b, j, none⟩ = cur[j]? := fun W hW j => by simp [World.cell?, hW, hb]
  have hcp1 : ∀ ty dc sc, (Builtin.copy_ #[38, 38] ty #[.slice (some ⟨b, (i + 1) * 2, none⟩) (n - i) dc, .slice (some ⟨b, i * 2, none⟩) (n + 1 - i) sc]).run Tryz.prog w.drew = .ok (goInt (Nat.min (n + 1 - i) (n - i))) (w.drew.setRow b (cur.toList.take ((i + 1) * 2) ++ (cur.toList.take (n * 2)).drop (i * 2) ++ cur.toList.drop ((i + 1) * 2 + (n - i) * 2)).toArray) := fun ty dc sc => by
    have := run_copy_rowN (P := Tryz.prog) w.drew 38 38 ty 43 2 b ((i + 1) * 2) (n - i) dc ⟨b, i * 2, none⟩ (n + 1 - i) sc cur 43 ((cur.toList.take (n * 2)).drop (i * 2)) Tryz.underlying38 hsz hb
      (by rw [hdl]; congr 1; simp only [Nat.min_def]; split <;> omega)
      (fun j v hj => by
        rw [add_plain, hcell w.drew rfl]
        rw [List.getElem?_drop, List.getElem?_take] at hj
        split at hj
        · simpa using hj
        · cases hj) (by rw [hdl]; omega) (fun v hv' => h1c v (List.mem_of_mem_drop hv'))
    rw [hdl] at this
    exact this
  obtain ⟨cur1, hcur1⟩ : ∃ cur1 : Array Value, cur1 = (cur.toList.take ((i + 1) * 2) ++ (cur.toList.take (n * 2)).drop (i * 2) ++ cur.toList.drop ((i + 1) * 2 + (n - i) * 2)).toArray := ⟨_, rfl⟩
  rw [← hcur1] at hcp1
  have hW1 : (w.drew.setRow b cur1).heap[b]? = some (.cells cur1 43 (0, 0)) := setRow_heap w.drew b cur cur1 _ _ hb
  have hl1 : cur1.toList.length = cap * 2 := by rw [hcur1]; simp only [List.length_append, List.length_take, List.length_drop, hcl]; omega
  have hcp2 : ∀ ty dc, (Builtin.copy_ #[38, 38] ty #[.slice (some ⟨b, i * 2, none⟩) (n + 1 - i) dc, .slice (some ⟨vb, 0, none⟩) 1 1]).run Tryz.prog (w.drew.setRow b cur1) = .ok (goInt (Nat.min 1 (n + 1 - i))) ((w.drew.setRow b cur1).setRow b (cur1.toList.take (i * 2) ++ vs ++ cur1.toList.drop (i * 2 + 2)).toArray) := fun ty dc => by
    have := run_copy_rowN (P := Tryz.prog) (w.drew.setRow b cur1) 38 38 ty 43 2 b (i * 2) (n + 1 - i) dc ⟨vb, 0, none⟩ 1 1 cur1 43 vs Tryz.underlying38 hsz hW1
      (by rw [hvl]; simp only [Nat.min_def]; split <;> omega)
      (fun j v hj => by
        rw [add_plain, cell_setRow_other _ _ _ _ hvb]
        show w.cell? _ = _
        simp [World.cell?, hv, hj]) (by rw [hvl]; have : cur1.size = cap * 2 := by simpa using hl1
                                        omega) h1v
    rw [hvl] at this
    exact this
  have H1 : Hid _ := hcp1
  have H2 : Hid _ := hcp2
  have HC1 : Hid (cur1 = _) := hcur1
  clear hcp1 hcp2 h1c h1v hcell hdl hW1 hcur1
  go_enter Tryz.func75, Tryz.ntmps75
  go_wp2_with (simp only [hov])
  go_region_law (refine step_copy_runI rfl _ _ 38 38 rfl (.slice (some ⟨b, (i + 1) * 2, none⟩) (n - i) (cap - (i + 1))) (.slice (some ⟨b, i * 2, none⟩) (n + 1 - i) (cap - i)) (by simp [Act.eval, Act.put]) (by simp [Act.eval, Act.put]) (H1.out _ _ _) ?_)
  go_wp2_with fail
  rw [H2.out]
  go_wp2_with fail
  go_ret
  have hl2 : (cur1.toList.take (i * 2) ++ vs ++ cur1.toList.drop (i * 2 + 2)).length = cap * 2 := by simp only [List.length_append, List.length_take, List.length_drop, hl1, hvl]; omega
  refine ⟨rfl, (cur1.toList.take (i * 2) ++ vs ++ cur1.toList.drop (i * 2 + 2)).toArray, by rw [hcur]; simpa using hl2, ?_, ?_, ?_, ?_, rfl, rfl, rfl⟩
  · have e1 : cur1.toList = cur.toList.take ((i + 1) * 2) ++ (cur.toList.take (n * 2)).drop (i * 2) ++ cur.toList.drop ((i + 1) * 2 + (n - i) * 2) := by rw [HC1.out]
    have e2 : cur1.toList.take (i * 2) = cur.toList.take (i * 2) := by
      rw [e1, List.append_assoc, List.take_append_of_le_length (by rw [List.length_take, hcl]; omega), List.take_take]
      congr 1
      omega
    have e3 : cur1.toList.drop (i * 2 + 2) = (cur.toList.take (n * 2)).drop (i * 2) ++ cur.toList.drop ((i + 1) * 2 + (n - i) * 2) := by
      have hA : (cur.toList.take ((i + 1) * 2)).length = i * 2 + 2 := by rw [List.length_take, hcl]; omega
      rw [e1, List.append_assoc, ← hA, List.drop_left]
    rw [e2, e3, ← List.append_assoc]
    have hB : (cur.toList.take (i * 2) ++ vs ++ (cur.toList.take (n * 2)).drop (i * 2)).length = (n + 1) * 2 := by
      simp only [List.length_append, List.length_take, List.length_drop, hcl, hvl]; omega
    rw [← hB, List.take_left]
  · rw [setRow_setRow, List.append_assoc]
    exact setRow_heap w.drew b cur _ _ _ hb
  · intro k hk
    rw [setRow_setRow]
    exact setRow_other w.drew b k _ hk
  · simp
set_option maxRecDepth 100000 in
set_option maxHeartbeats 4000000 in
theorem insA_grow (b n cap i vb : Nat) (cur : Array Value) (vs : List Value) (w : World) (hi : i < n) (hnc : n ≤ cap) (hroom : cap < n + 1) (hbig : (n + 1) * 32 ≤ 140737488355328)
    (hb : w.heap[b]? = some (.cells cur 43 (0, 0))) (hcur : cur.size = cap * 2) (hv : w.heap[vb]? = some (.cells vs.toArray 43 (0, 0))) (hvl : vs.length = 2) (h1c : ∀ v ∈ cur.toList.take (n * 2), v.oneCell' = true) (h1v : ∀ v ∈ vs, v.oneCell' = true) :
    Calls Tryz.prog 75 #[.slice (some ⟨b, 0, none⟩) n cap, .int .i64 i, .slice (some ⟨vb, 0, none⟩) 1 1] w fun e w' =>
      ∃ (cap' : Nat) (cur' : Array Value), e = .returned (.slice (some ⟨w.heap.size, 0, none⟩) (n + 1) cap') ∧ n + 1 ≤ cap' ∧ cap' ≤ 9223372036854775807 ∧ cur'.size = cap' * 2 ∧ cur'.toList.take ((n + 1) * 2) = (cur.toList.take (i * 2)) ++ vs ++ ((cur.toList.take (n * 2)).drop (i * 2)) ∧
        w'.heap[w.heap.size]? = some (.cells cur' 43 (0, 0)) ∧ Below w.heap.size w w' := by
  obtain ⟨i0, hi0, hz0, hzs, hzb⟩ := info_parts Tryz.infoAtr
  have hsz : (Tryz.prog.info? 43).map (·.size) = some 2 := by rw [hi0]; simp [hzs]
  have hcn : cap = n := by omega
  subst hcn
  have hcl : cur.toList.length = cap * 2 := by simpa using hcur
  have hkk : (cap : Int) + 1 - (i : Int) = ((cap + 1 - i : Nat) : Int) := by omega
  have hik : i + (cap + 1 - i) = cap + 1 := by omega
  have hold : (Builtin.firstCells i0.size i (.slice (some ⟨b, 0, none⟩) i cap)).run Tryz.prog w.drew = .ok (cur.toList.take (i * 2)).toArray w.drew := by
    rw [hzs]
    exact run_firstCells_some w.drew 2 i ⟨b, 0, none⟩ i cap (cur.toList.take (i * 2)) (by rw [List.length_take]; omega) (fun j v hj => by
      rw [add_plain]
      rw [List.getElem?_take] at hj
      split at hj
      · show w.cell? _ = _
        simp [World.cell?, hb]
        simpa using hj
      · cases hj)
  have hrz : ∀ ty, (Builtin.append_ #[38, 3] ty #[.slice (some ⟨b, 0, none⟩) i cap, .int .i64 ((cap : Int) + 1 - (i : Int))]).run Tryz.prog w =
      .ok (.slice (some ⟨w.heap.size, 0, none⟩) (cap + 1) (grownCap w (cap + 1) cap 43)) (w.drew.alloc (.cells ((cur.toList.take (i * 2)).toArray ++ Builtin.zeroCells (Value.agg #[.string ⟨#[]⟩, .string ⟨#[]⟩]).cells (cap + 1 - i) ++ Builtin.zeroCells (Value.agg #[.string ⟨#[]⟩, .string ⟨#[]⟩]).cells (grownCap w (cap + 1) cap 43 - (cap + 1))) 43)) := fun ty => by
    have h := Lib.run_append_grow_zeros w 38 3 ty 43 i0 _ .i64 .i64 Tryz.underlying38 Tryz.underlying3 hi0 hz0 (some ⟨b, 0, none⟩) i cap (cur.toList.take (i * 2)) hold (cap + 1 - i) (by omega) (by omega) (by omega) (by omega) (by rw [hzb]; omega) (by rw [hzb, hik]; exact growslice_fits hroom hbig)
    rw [hik] at h
    rw [hkk]
    exact h
  obtain ⟨G, hG⟩ : ∃ G, G = grownCap w (cap + 1) cap 43 := ⟨_, rfl⟩
  obtain ⟨ROW, hROW⟩ : ∃ ROW : Array Value, ROW = (cur.toList.take (i * 2)).toArray ++ Builtin.zeroCells (Value.agg #[.string ⟨#[]⟩, .string ⟨#[]⟩]).cells (cap + 1 - i) ++ Builtin.zeroCells (Value.agg #[.string ⟨#[]⟩, .string ⟨#[]⟩]).cells (G - (cap + 1)) := ⟨_, rfl⟩
  rw [← hG] at hrz
  rw [← hROW] at hrz
  have hGn : cap + 1 ≤ G := by rw [hG]; exact grownCap_ge w _ _ _
  have hG63 : G ≤ 9223372036854775807 := by
    have := grownCap_le_maxLen w (cap + 1) cap 43 (by unfold maxLen; omega)
    rw [← hG] at this
    unfold maxLen at this
    omega
  have hRl : ROW.toList.length = G * 2 := by
    rw [hROW]
    simp [Builtin.zeroCells, Value.cells]
    omega
  have hRt : ROW.toList.take (i * 2) = cur.toList.take (i * 2) := by
    rw [hROW]
    have hA : (cur.toList.take (i * 2)).length = i * 2 := by rw [List.length_take]; omega
    simp only [Array.toList_append, List.append_assoc]
    rw [List.take_append_of_le_length (by omega), List.take_take, Nat.min_self]
  have hbw := lt_of_block hb
  have hvw := lt_of_block hv
  have hN0 : ∀ W : World, W.heap = (w.alloc (.cells ROW 43)).heap → W.heap[w.heap.size]? = some (.cells ROW 43 (0, 0)) := fun W hW => by rw [hW]; exact heap_alloc_new _ _
  have hcpA : ∀ W : World, W.heap = (w.alloc (.cells ROW 43)).heap → ∀ ty dc, (Builtin.copy_ #[38, 38] ty #[.slice (some ⟨w.heap.size, i * 2, none⟩) (cap + 1 - i) dc, .slice (some ⟨vb, 0, none⟩) 1 1]).run Tryz.prog W = .ok (goInt (Nat.min 1 (cap + 1 - i))) (W.setRow w.heap.size (ROW.toList.take (i * 2) ++ vs ++ ROW.toList.drop (i * 2 + 2)).toArray) := fun W hW ty dc => by
    have := run_copy_rowN (P := Tryz.prog) W 38 38 ty 43 2 w.heap.size (i * 2) (cap + 1 - i) dc ⟨vb, 0, none⟩ 1 1 ROW 43 vs Tryz.underlying38 hsz (hN0 W hW)
      (by rw [hvl]; simp only [Nat.min_def]; split <;> omega)
      (fun j v hj => by
        rw [add_plain]
        have e : W.heap[vb]? = some (.cells vs.toArray 43 (0, 0)) := by rw [hW, Below.heap_alloc _ _ _ hvw]; exact hv
        simp [World.cell?, e, hj]) (by rw [hvl]; have : ROW.size = G * 2 := by simpa using hRl
                                       omega) h1v
    rw [hvl] at this
    exact this
  obtain ⟨row1, hrow1⟩ : ∃ row1 : Array Value, row1 = (ROW.toList.take (i * 2) ++ vs ++ ROW.toList.drop (i * 2 + 2)).toArray := ⟨_, rfl⟩
  rw [← hrow1] at hcpA
  have hl1 : row1.toList.length = G * 2 := by rw [hrow1]; simp only [List.length_append, List.length_take, List.length_drop, hRl, hvl]; omega
  have hN1 : ∀ W : World, W.heap = ((w.alloc (.cells ROW 43)).setRow w.heap.size row1).heap → W.heap[w.heap.size]? = some (.cells row1 43 (0, 0)) := fun W hW => by rw [hW]; exact setRow_heap _ _ ROW _ _ _ (hN0 _ rfl)
  have hdl : ((cur.toList.take (cap * 2)).drop (i * 2)).length = (cap - i) * 2 := by rw [List.length_drop, List.length_take, hcl]; omega
  have hcpB : ∀ W : World, W.heap = ((w.alloc (.cells ROW 43)).setRow w.heap.size row1).heap → ∀ ty dc sc, (Builtin.copy_ #[38, 38] ty #[.slice (some ⟨w.heap.size, (i + 1) * 2, none⟩) (cap - i) dc, .slice (some ⟨b, i * 2, none⟩) (cap - i) sc]).run Tryz.prog W = .ok (goInt (Nat.min (cap - i) (cap - i))) (W.setRow w.heap.size (row1.toList.take ((i + 1) * 2) ++ (cur.toList.take (cap * 2)).drop (i * 2) ++ row1.toList.drop ((i + 1) * 2 + (cap - i) * 2)).toArray) := fun W hW ty dc sc => by
    have := run_copy_rowN (P := Tryz.prog) W 38 38 ty 43 2 w.heap.size ((i + 1) * 2) (cap - i) dc ⟨b, i * 2, none⟩ (cap - i) sc row1 43 ((cur.toList.take (cap * 2)).drop (i * 2)) Tryz.underlying38 hsz (hN1 W hW)
      (by rw [hdl]; congr 1; exact (Nat.min_self _).symm)
      (fun j v hj => by
        rw [add_plain]
        have e : W.heap[b]? = some (.cells cur 43 (0, 0)) := by rw [hW, setRow_other _ _ _ _ (by omega), Below.heap_alloc _ _ _ hbw]; exact hb
        rw [List.getElem?_drop, List.getElem?_take] at hj
        split at hj
        · simp [World.cell?, e]
          simpa using hj
        · cases hj) (by rw [hdl]; have : row1.size = G * 2 := by simpa using hl1
                        omega) (fun v hv' => h1c v (List.mem_of_mem_drop hv'))
    rw [hdl] at this
    exact this
  have hw1 : IntKind.i64.wrap ((i : Int) + 1) = (i : Int) + 1 := by rw [IntKind.wrap_i64]; omega
  have hb1 : (0 : Int) ≤ (i : Int) + 1 := by omega
  have hin : i ≤ cap := by omega
  have htn : ((i : Int) + 1).toNat = i + 1 := by omega
  have hb3 : (i : Int) ≤ (cap : Int) := by omega
  have hGi : ¬ (G = i) := by omega
  have hGim : ¬ (G = i + 1) := by omega
  have hci : ¬ (cap = i) := by omega
  have HZ : Hid _ := hrz
  have HA : Hid _ := hcpA
  have HB : Hid _ := hcpB
  have HRow1 : Hid (row1 = _) := hrow1
  have HRt : Hid _ := hRt
  clear hrz hcpA hcpB hROW hG hold hrow1 hN0 hRt hkk hik h1c h1v hdl
  go_enter Tryz.func75, Tryz.ntmps75
  go_wp2_with (at_builtin; refine Lib.wpList_append_run _ rfl _ _ _ _ rfl _ _ rfl rfl _ _ (HZ.out _) ?_)
  rw [HA.out (w.alloc (.cells ROW 43)).drew rfl]
  go_wp2_with fail
  go_region_law (refine step_copy_runI rfl _ _ 38 38 rfl (.slice (some ⟨w.heap.size, (i + 1) * 2, none⟩) (cap - i) (G - (i + 1))) (.slice (some ⟨b, i * 2, none⟩) (cap - i) (cap - i)) (by simp [Act.eval, Act.put]) (by simp [Act.eval, Act.put]) (HB.out (((w.alloc (.cells ROW 43)).drew.setRow w.heap.size row1).drew) rfl _ _ _) ?_)
  go_wp2_with fail
  go_ret
  have hl2 : (row1.toList.take ((i + 1) * 2) ++ (cur.toList.take (cap * 2)).drop (i * 2) ++ row1.toList.drop ((i + 1) * 2 + (cap - i) * 2)).length = G * 2 := by simp only [List.length_append, List.length_take, List.length_drop, hl1, hcl]; omega
  refine ⟨G, (row1.toList.take ((i + 1) * 2) ++ (cur.toList.take (cap * 2)).drop (i * 2) ++ row1.toList.drop ((i + 1) * 2 + (cap - i) * 2)).toArray, rfl, hGn, hG63, by simpa using hl2, ?_, ?_, ?_⟩
  · have e1 : row1.toList = cur.toList.take (i * 2) ++ vs ++ ROW.toList.drop (i * 2 + 2) := by rw [HRow1.out, ← HRt.out]
    have e2 : row1.toList.take ((i + 1) * 2) = cur.toList.take (i * 2) ++ vs := by
      have hA : (cur.toList.take (i * 2) ++ vs).length = (i + 1) * 2 := by rw [List.length_append, List.length_take, hvl]; omega
      rw [e1, ← hA, List.take_left]
    have hB : (cur.toList.take (i * 2) ++ vs ++ (cur.toList.take (cap * 2)).drop (i * 2)).length = (cap + 1) * 2 := by
      simp only [List.length_append, List.length_take, List.length_drop, hcl, hvl]; omega
    show List.take ((cap + 1) * 2) (row1.toList.take ((i + 1) * 2) ++ (cur.toList.take (cap * 2)).drop (i * 2) ++ row1.toList.drop ((i + 1) * 2 + (cap - i) * 2)) = _
    rw [e2, ← hB, List.take_left]
  · have h1 := setRow_heap (w.alloc (.cells ROW 43)).drew w.heap.size ROW row1 _ _ (heap_alloc_new w (.cells ROW 43))
    first
      | exact setRow_heap (((w.alloc (.cells ROW 43)).drew.setRow w.heap.size row1).drew) w.heap.size row1 _ _ _ h1
      | (rw [List.append_assoc]; exact setRow_heap (((w.alloc (.cells ROW 43)).drew.setRow w.heap.size row1).drew) w.heap.size row1 _ _ _ h1)
  · exact below_setRow (below_setRow (below_one w _).drew (Nat.le_refl _) row1).drew (Nat.le_refl _) _

set_option maxRecDepth 100000 in
set_option maxHeartbeats 4000000 in
theorem insA_any (s : Value) (base n i vb : Nat) (xs vs : List Value) (w : World) (hi : i ≤ n) (hbase : base ≤ w.heap.size) (hbig : (n + 1) * 32 ≤ 140737488355328) (hown : w.ownsRow base 43 2 s n xs) (hvb : s.ownBlock ≠ some vb)
    (hv : w.heap[vb]? = some (.cells vs.toArray 43 (0, 0))) (hvl : vs.length = 2) (h1c : ∀ v ∈ xs, v.oneCell' = true) (h1v : ∀ v ∈ vs, v.oneCell' = true) :
    Calls Tryz.prog 75 #[s, .int .i64 i, .slice (some ⟨vb, 0, none⟩) 1 1] w fun e w' =>
      ∃ v', e = .returned v' ∧ w'.ownsRow base 43 2 v' (n + 1) (xs.take (i * 2) ++ vs ++ xs.drop (i * 2)) ∧ w.grownBy w' s.ownBlock ∧ (v'.ownBlock = s.ownBlock ∨ ∀ g, v'.ownBlock = some g → w.heap.size ≤ g) := by
  by_cases hin : i = n
  · subst hin
    obtain ⟨i1, hi1, hz01, hz11, hz21⟩ := info_parts Tryz.infoAtr
    have hlx := hown.1
    have e1 : xs.take (i * 2) = xs := List.take_of_length_le (by omega)
    have e2 : xs.drop (i * 2) = [] := List.drop_eq_nil_of_le (by omega)
    rw [e1, e2, List.append_nil]
    have HO : Hid (w.ownsRow base 43 2 s i xs) := hown
    obtain ⟨sa, sc, rfl⟩ := slice_of_own hown
    have hc := cap_of_own hown
    clear hown e1 e2
    by_cases hsc : i = sc
    · subst hsc
      go_enter Tryz.func75, Tryz.ntmps75
      go_wp2_with (at_builtin; refine wpList_append_apart _ rfl _ _ 38 rfl base 43 i1 _ 2 32 Tryz.underlying38 hi1 hz01 hz11 hz21 rfl (by decide) _ i xs rfl HO.out (some ⟨vb, 0, none⟩) 1 1 vs rfl (by simp) (by rw [hvl]) ?f1 h1v ?f3 ?f4 hbase ?_)
      case f1 =>
        intro ad e j u hj
        cases e
        rw [add_plain]
        simp [World.cell?, hv, hj]
      case f3 => unfold maxLen; omega
      case f4 => omega
      · intro v' w2 hown' hgrow hv'
        go_wp2_with fail
        go_ret
        exact ⟨_, rfl, hown', hgrow, hv'⟩
    · have hsc' : ¬ sc = i := fun e => hsc e.symm
      go_enter Tryz.func75, Tryz.ntmps75
      go_wp2_with (at_builtin; refine wpList_append_apart _ rfl _ _ 38 rfl base 43 i1 _ 2 32 Tryz.underlying38 hi1 hz01 hz11 hz21 rfl (by decide) _ i xs rfl HO.out (some ⟨vb, 0, none⟩) 1 1 vs rfl (by simp) (by rw [hvl]) ?f1 h1v ?f3 ?f4 hbase ?_)
      case f1 =>
        intro ad e j u hj
        cases e
        rw [add_plain]
        simp [World.cell?, hv, hj]
      case f3 => unfold maxLen; omega
      case f4 => omega
      · intro v' w2 hown' hgrow hv'
        go_wp2_with fail
        go_ret
        exact ⟨_, rfl, hown', hgrow, hv'⟩
  · obtain ⟨hlx, hcase⟩ := hown
    rcases hcase with ⟨rfl, rfl⟩ | ⟨g, cap, cur, rfl, hg, hh, hnc, hcm, hcs, hxs⟩
    · omega
    · have hne : vb ≠ g := fun e => hvb (by rw [e]; rfl)
      subst hxs
      by_cases hroom : n + 1 ≤ cap
      · refine (insA_room g n cap i vb cur vs w (by omega) hroom (by unfold maxLen at hcm; omega) hne hh hcs hv hvl h1c h1v).mono ?_
        rintro e w' ⟨rfl, cur', q1, q2, q3, q4, q5, q6, q7, q8⟩
        have hlt : i * 2 ≤ n * 2 := by omega
        have et : (cur.toList.take (n * 2)).take (i * 2) = cur.toList.take (i * 2) := by rw [List.take_take]; congr 1; omega
        refine ⟨_, rfl, ⟨?_, Or.inr ⟨g, cap, cur', rfl, hg, q3, hroom, hcm, by rw [q1]; exact hcs, by rw [q2, et]⟩⟩, ⟨q6, q7, q8, by omega, fun k hk hb => q4 k (fun e => hb (by rw [e]; rfl))⟩, Or.inl rfl⟩
        simp only [List.length_append, List.length_take, List.length_drop, hvl] at hlx ⊢
        omega
      · refine (insA_grow g n cap i vb cur vs w (by omega) hnc (by omega) hbig hh hcs hv hvl h1c h1v).mono ?_
        rintro e w' ⟨cap', cur', rfl, q0, q00, q1, q2, q3, q4⟩
        have et : (cur.toList.take (n * 2)).take (i * 2) = cur.toList.take (i * 2) := by rw [List.take_take]; congr 1; omega
        refine ⟨_, rfl, ⟨?_, Or.inr ⟨w.heap.size, cap', cur', rfl, hbase, q3, q0, by unfold maxLen; omega, q1, by rw [q2, et]⟩⟩, ⟨q4.os, q4.tape, q4.output, q4.size, fun k hk _ => q4.block k hk⟩, Or.inr fun g' hg' => by simp only [Value.ownBlock, Option.some.injEq] at hg'; omega⟩
        simp only [List.length_append, List.length_take, List.length_drop, hvl] at hlx ⊢
        omega
end Go.Proofs.YtcdnakcojanaeabGreat

/-
  One attribute's value, one attribute more, among the attributes of a node of one's own.
-/
namespace Go.Proofs.YtcdnakcojanaeabGreat
open Go.ChangeShapes Go.WideShapes Go.ChangeAt Go.RowKit Go.Deep
open Do

theorem cellsA_set : ∀ (l : List Atr) (j : Nat) (s : Atr) (x : ByteArray), l[j]? = some s → (cellsA l).set (j * 2 + 1) (.string x) = cellsA (l.set j (s.1, x))
  | [], _, _, _, h => by simp at h
  | a :: r, 0, s, x, h => by
    simp only [List.getElem?_cons_zero, Option.some.injEq] at h
    subst h
    simp [cellsA]
  | a :: r, j + 1, s, x, h => by
    have ih := cellsA_set r j s x (by simpa using h)
    have e : (j + 1) * 2 = (j * 2 + 1) + 1 := by omega
    simp only [cellsA, List.set_cons_succ] at ih ⊢
    rw [← ih, e]
    simp

theorem OwnA.setV {w : World} {B g l c : Nat} {ats : List Atr} (h : OwnA w B (.slice (some ⟨g, 0, none⟩) l c) ats) {j : Nat} {s : Atr} (hj : ats[j]? = some s) (x : ByteArray) : OwnA (w.setCell ⟨g, j * 2 + 1, none⟩ (.string x)) B (.slice (some ⟨g, 0, none⟩) l c) (ats.set j (s.1, x)) := by
  unfold OwnA at h ⊢
  rw [List.length_set, ← cellsA_set ats j s x hj]
  exact ownsRow_set h _ _

/-- What stands beside the attributes of one node. -/
theorem OwnN.atsAt {w w' : World} {B g c l : Nat} {ns : List Nd} {ab kb : Nat → Value} (h : OwnN w B (.slice (some ⟨g, 0, none⟩) l c) ns ab kb) {q : Nat} (hq : q < ns.length) (hk : ∀ b, b < w.heap.size → (ab q).ownBlock ≠ some b → w'.heap[b]? = w.heap[b]?) :
    w'.ownsRow B 41 7 (.slice (some ⟨g, 0, none⟩) l c) ns.length (rowN ns ab kb) ∧ (∀ (i : Nat) (m : Nd), i ≠ q → ns[i]? = some m → OwnA w' B (ab i) m.ats) ∧ (∀ (i : Nat) (m : Nd), ns[i]? = some m → OwnZ w' B (kb i) m.kids) := by
  obtain ⟨cur, hcur⟩ := h.rowBlock
  have hA : ∀ b, (ab q).ownBlock = some b → ∃ cu : Array Value, w.heap[b]? = some (.cells cu 43 (0, 0)) := by
    intro b hb
    obtain ⟨cu, hc, -⟩ := (h.ats q ns[q] (List.getElem?_eq_getElem hq)).block hb
    exact ⟨cu, hc⟩
  refine ⟨?_, ?_, ?_⟩
  · refine ownsRow_same h.row fun b hb => hk b (h.foot (Or.inl hb)).2 ?_
    intro he
    obtain ⟨cu, hc⟩ := hA b he
    simp only [Value.ownBlock, Option.some.injEq] at hb
    subst hb
    rw [hcur] at hc
    simp at hc
  · intro i m hi hm
    have hlt : i < ns.length := (List.getElem?_eq_some_iff.1 hm).1
    exact (h.ats i m hm).same fun b hb => hk b (OwnA.rng (h.ats i m hm) hb).2 fun he => h.apa i q b hlt hq hi hb he
  · intro i m hm
    refine (h.kids i m hm).same fun b hb => hk b ((h.kids i m hm).lt b hb).2 ?_
    intro he
    obtain ⟨cu, hc⟩ := hA b he
    obtain ⟨cu', hc', -⟩ := (h.kids i m hm).block hb
    rw [hc] at hc'
    simp at hc'

theorem withAts_fit {n : Nd} {ats : List Atr} (hf : NdFit n) (hk : ∀ s ∈ ats, s.1.size ≤ 140737488351232 ∧ s.2.size ≤ 140737488351232) (hkl : ats.length * 32 ≤ 140737488351232) : NdFit (n.withAts ats) := by
  obtain ⟨n1, n2, n3, -, n5⟩ := hf.node
  exact ⟨hf.id, hf.par, ⟨n1, n2, n3, hkl, n5⟩, hk, hf.kids⟩

theorem upd_self (f : Nat → Value) (q : Nat) : upd f q (f q) = f := by
  funext i
  by_cases e : i = q
  · rw [e, upd_same]
  · exact upd_other _ _ e

theorem set_same {l : List Value} {i : Nat} {v : Value} (h : l[i]? = some v) : l.set i v = l := by
  obtain ⟨hlt, rfl⟩ := List.getElem?_eq_some_iff.1 h
  exact List.set_getElem_self hlt

/-- One value of one attribute set. -/
theorem OwnN.setVal {w : World} {B g c l a al ac : Nat} {ns : List Nd} {ab kb : Nat → Value} (h : OwnN w B (.slice (some ⟨g, 0, none⟩) l c) ns ab kb) {q : Nat} {n : Nd} (hq : ns[q]? = some n) (hab : ab q = .slice (some ⟨a, 0, none⟩) al ac) {j : Nat} {s : Atr} (hj : n.ats[j]? = some s) {x : ByteArray} (hx : x.size ≤ 140737488351232) :
    OwnN (w.setCell ⟨a, j * 2 + 1, none⟩ (.string x)) B (.slice (some ⟨g, 0, none⟩) l c) (ns.set q (n.withAts (n.ats.set j (s.1, x)))) ab kb := by
  have hql : q < ns.length := (List.getElem?_eq_some_iff.1 hq).1
  obtain ⟨h1, h2, h3⟩ := h.atsAt (w' := w.setCell ⟨a, j * 2 + 1, none⟩ (.string x)) hql (fun b _ hne => heap_set_other _ (fun e => hne (by rw [hab, e]; rfl)))
  have hO := h.ats q n hq
  rw [hab] at hO
  have hV := hO.setV hj x
  have hf := h.fit n (List.mem_of_getElem? hq)
  have hlen : (ns.set q (n.withAts (n.ats.set j (s.1, x)))).length = ns.length := by simp
  have hrow : rowN (ns.set q (n.withAts (n.ats.set j (s.1, x)))) ab kb = rowN ns ab kb := by
    have e := rowN_setA ns ab kb q n (n.ats.set j (s.1, x)) (ab q) hq
    rw [upd_self] at e
    rw [← e]
    exact set_same (by rw [rowN_at hq (by omega)]; rfl)
  refine ⟨by rw [hlen, hrow]; exact h1, ?_, ?_, by rw [hlen]; exact h.apa, by rw [hlen]; exact h.apk, ?_⟩
  · intro i m hm
    rcases get_set_cases hm with ⟨rfl, rfl⟩ | ⟨hi, hm⟩
    · rw [hab]; exact hV
    · exact h2 i m hi hm
  · intro i m hm
    rcases get_set_cases hm with ⟨rfl, rfl⟩ | ⟨hi, hm⟩
    · exact h3 i n hq
    · exact h3 i m hm
  · intro m hm
    rcases List.mem_or_eq_of_mem_set hm with hm | rfl
    · exact h.fit m hm
    · refine withAts_fit hf ?_ (by rw [List.length_set]; exact hf.node.2.2.2.1)
      intro y hy
      rcases List.mem_or_eq_of_mem_set hy with hy | rfl
      · exact hf.atr y hy
      · exact ⟨(hf.atr s (List.mem_of_getElem? hj)).1, hx⟩

/-- One attribute more, by a row that stays in its block or is new. -/
theorem OwnN.insA {w w' : World} {B g c l : Nat} {ns : List Nd} {ab kb : Nat → Value} (h : OwnN w B (.slice (some ⟨g, 0, none⟩) l c) ns ab kb) {q : Nat} {n : Nd} (hq : ns[q]? = some n) (hg : w.grownBy w' (ab q).ownBlock) {v' : Value} {ats : List Atr} (hv : v'.ownBlock = (ab q).ownBlock ∨ ∀ b, v'.ownBlock = some b → w.heap.size ≤ b) (hA : OwnA w' B v' ats) (hk : ∀ s ∈ ats, s.1.size ≤ 140737488351232 ∧ s.2.size ≤ 140737488351232) (hkl : ats.length * 32 ≤ 140737488351232) :
    w'.ownsRow B 41 7 (.slice (some ⟨g, 0, none⟩) l c) ns.length (rowN ns ab kb) ∧ OwnN (w'.setCell ⟨g, q * 7 + 5, none⟩ v') B (.slice (some ⟨g, 0, none⟩) l c) (ns.set q (n.withAts ats)) (upd ab q v') kb := by
  have hql : q < ns.length := (List.getElem?_eq_some_iff.1 hq).1
  obtain ⟨h1, h2, h3⟩ := h.atsAt (w' := w') hql (fun b hb hne => hg.block b hb (fun e => hne e.symm))
  have hf := h.fit n (List.mem_of_getElem? hq)
  have hlen : (ns.set q (n.withAts ats)).length = ns.length := by simp
  obtain ⟨cur, hcur⟩ : ∃ cur, w'.heap[g]? = some (.cells cur 41 (0, 0)) := by
    rcases h1.2 with ⟨e, -⟩ | ⟨g', cap, cur, e, _, e2, -⟩
    · simp at e
    · simp only [Value.slice.injEq, Option.some.injEq, Addr.mk.injEq, and_true] at e
      obtain ⟨rfl, -, -⟩ := e
      exact ⟨cur, e2⟩
  have neA : ∀ {v : Value} {l : List Atr} {D : Nat}, OwnA w' D v l → ∀ b, v.ownBlock = some b → b ≠ g := by
    rintro v l D hv b hb rfl
    obtain ⟨cu, hc, -⟩ := hv.block hb
    rw [hcur] at hc
    simp at hc
  have neK : ∀ {v : Value} {l : List Int} {D : Nat}, OwnZ w' D v l → ∀ b, v.ownBlock = some b → b ≠ g := by
    rintro v l D hv b hb rfl
    obtain ⟨cu, hc, -⟩ := hv.block hb
    rw [hcur] at hc
    simp at hc
  have hap : ∀ j b, j < ns.length → j ≠ q → v'.ownBlock = some b → (ab j).ownBlock ≠ some b := by
    intro j b hj hjq hb1 hb2
    rcases hv with e | e
    · rw [e] at hb1
      exact h.apa j q b hj hql hjq hb2 hb1
    · have h4 := e b hb1
      have h5 := (OwnA.rng (h.ats j ns[j] (List.getElem?_eq_getElem hj)) hb2).2
      omega
  refine ⟨h1, ⟨?_, ?_, ?_, ?_, ?_, ?_⟩⟩
  · rw [hlen, ← rowN_setA ns ab kb q n ats v' hq]
    exact ownsRow_set h1 _ _
  · intro i m hm
    rcases get_set_cases hm with ⟨rfl, rfl⟩ | ⟨hi, hm⟩
    · rw [upd_same]
      exact hA.same fun b hb => heap_set_other _ (neA hA b hb)
    · rw [upd_other _ _ hi]
      exact (h2 i m hi hm).same fun b hb => heap_set_other _ (neA (h2 i m hi hm) b hb)
  · intro i m hm
    rcases get_set_cases hm with ⟨rfl, rfl⟩ | ⟨hi, hm⟩
    · exact (h3 i n hq).same fun b hb => heap_set_other _ (neK (h3 i n hq) b hb)
    · exact (h3 i m hm).same fun b hb => heap_set_other _ (neK (h3 i m hm) b hb)
  · rw [hlen]
    intro i j b hi hj hij hb1 hb2
    by_cases e : i = q
    · subst e
      rw [upd_same] at hb1
      rw [upd_other _ _ (by omega)] at hb2
      exact hap j b hj (by omega) hb1 hb2
    · rw [upd_other _ _ e] at hb1
      by_cases e' : j = q
      · subst e'
        rw [upd_same] at hb2
        exact hap i b hi e hb2 hb1
      · rw [upd_other _ _ e'] at hb2
        exact h.apa i j b hi hj hij hb1 hb2
  · rw [hlen]; exact h.apk
  · intro m hm
    rcases List.mem_or_eq_of_mem_set hm with hm | rfl
    · exact h.fit m hm
    · exact withAts_fit hf hk hkl
end Go.Proofs.YtcdnakcojanaeabGreat

/-
  The program's set (what a patch 4 does).
-/
namespace Go.Proofs.YtcdnakcojanaeabGreat
open Go.ChangeShapes Go.WideShapes Go.ChangeAt Go.RowKit Go.Deep
open Do

/-- One value of one attribute set; one attribute more. -/
def putV (l : List Atr) (j : Nat) (x : ByteArray) : List Atr := match l[j]? with
  | none => l
  | some s => l.set j (s.1, x)
def insAt (l : List Atr) (j : Nat) (y : Atr) : List Atr := l.take j ++ [y] ++ l.drop j

/-- What 4 does. -/
def Do.setD (s : Ds) (p : Pt) : Int × Ds := match pl s.nodes p.id with
  | none => (71, s)
  | some q => match s.nodes[q]? with
    | none => (71, s)
    | some n => if n.tag.size = 0 then (81, s) else if nmD p.name = false then (31, s) else if 128 < p.val.size then (5, s)
      else if hasA n.ats p.name = true then (0, ⟨s.nodes.set q (n.withAts (putV n.ats (lwA n.ats p.name) p.val)), s.root, s.next⟩)
      else if n.ats.length = 16 then (3, s) else (0, ⟨s.nodes.set q (n.withAts (insAt n.ats (lwA n.ats p.name) (p.name, p.val))), s.root, s.next⟩)

theorem cellsA_val : ∀ {l : List Atr} {j : Nat} {s : Atr}, l[j]? = some s → (cellsA l)[j * 2 + 1]? = some (.string s.2)
  | [], _, _, h => by simp at h
  | a :: r, 0, s, h => by
    simp only [List.getElem?_cons_zero, Option.some.injEq] at h
    subst h
    simp [cellsA]
  | a :: r, j + 1, s, h => by
    have ih := cellsA_val (l := r) (j := j) (s := s) (by simpa using h)
    have e : (j + 1) * 2 + 1 = (j * 2 + 1) + 1 + 1 := by omega
    rw [e]
    simpa [cellsA] using ih


theorem cellsA_one : ∀ (l : List Atr), ∀ v ∈ cellsA l, v.oneCell' = true
  | [], v, h => by simp [cellsA] at h
  | a :: r, v, h => by
    simp only [cellsA, List.mem_cons] at h
    rcases h with rfl | rfl | h
    · rfl
    · rfl
    · exact cellsA_one r v h

theorem cellsA_ins : ∀ (l : List Atr) (j : Nat) (y : Atr), j ≤ l.length → cellsA (insAt l j y) = (cellsA l).take (j * 2) ++ [.string y.1, .string y.2] ++ (cellsA l).drop (j * 2)
  | l, 0, y, _ => by simp [insAt, cellsA]
  | [], j + 1, y, h => by simp at h
  | a :: r, j + 1, y, h => by
    have ih := cellsA_ins r j y (by simpa using h)
    have e : (j + 1) * 2 = j * 2 + 1 + 1 := by omega
    unfold insAt at ih ⊢
    rw [e]
    simpa [cellsA] using ih

theorem insAt_length {l : List Atr} {j : Nat} (y : Atr) (h : j ≤ l.length) : (insAt l j y).length = l.length + 1 := by
  unfold insAt
  simp
  omega

theorem set_end {w W w' : World} {B P b vc q j : Nat} {ns : List Nd} {ab kb : Nat → Value} {m : Nd} {maa : Option Addr} {mac : Nat} {root next : Int} {pn pv : ByteArray} {v : Value} {R : Int × Ds}
    (hO : OwnN w B (.slice (some ⟨b, 0, none⟩) ns.length vc) ns ab kb)
    (hP : w.heap[P]? = some (.cells #[.slice (some ⟨b, 0, none⟩) ns.length vc, .int .i64 root, .int .i64 next] 30 (0, 0)))
    (hKP : ∀ W, Below w.heap.size w W → W.heap[P]? = some (.cells #[.slice (some ⟨b, 0, none⟩) ns.length vc, .int .i64 root, .int .i64 next] 30 (0, 0))) (hBP : B ≤ P)
    (hR : R = (0, ⟨ns.set q (m.withAts (insAt m.ats j (pn, pv))), root, next⟩)) (hab : ab q = .slice maa m.ats.length mac) (hM : ns[q]? = some m) (hb : Below w.heap.size w W) (hO6 : OwnN W B (.slice (some ⟨b, 0, none⟩) ns.length vc) ns ab kb) (hf : NdFit m) (hpn : pn.size ≤ 140737488351232 ∧ pv.size ≤ 140737488351232) (h16 : m.ats.length ≤ 16) (hj : j ≤ m.ats.length)
    (hown : w'.ownsRow B 43 2 v (m.ats.length + 1) ((cellsA m.ats).take (j * 2) ++ [.string pn, .string pv] ++ (cellsA m.ats).drop (j * 2))) (hg : W.grownBy w' (Value.slice maa m.ats.length mac).ownBlock) (hv : v.ownBlock = (Value.slice maa m.ats.length mac).ownBlock ∨ ∀ g, v.ownBlock = some g → W.heap.size ≤ g) :
    Hid (PtPost w (w'.setCell ⟨b, q * 7 + 5, none⟩ v) B P (.returned (.int .i64 0)) R) ∧ (∃ z, w'.cell? ⟨b, q * 7 + 5, none⟩ = some z) ∧ w'.frozen? ⟨b, q * 7 + 5, none⟩ = false := by
  rw [← hab] at hg hv
  have hA : OwnA w' B v (insAt m.ats j (pn, pv)) := by
    unfold OwnA
    rw [insAt_length _ hj, cellsA_ins _ _ _ hj]
    exact hown
  have hk : ∀ s ∈ insAt m.ats j (pn, pv), s.1.size ≤ 140737488351232 ∧ s.2.size ≤ 140737488351232 := by
    intro s hs
    unfold insAt at hs
    simp only [List.append_assoc, List.mem_append, List.mem_singleton] at hs
    rcases hs with hs | rfl | hs
    · exact hf.atr s (List.mem_of_mem_take hs)
    · exact hpn
    · exact hf.atr s (List.mem_of_mem_drop hs)
  obtain ⟨h1, h2⟩ := hO6.insA hM hg hv hA hk (by rw [insAt_length _ hj]; omega)
  have hbb := hO.foot (b := b) (Or.inl rfl)
  have hPb : P ≠ b := by
    rintro rfl
    obtain ⟨cur, hcur⟩ := hO.rowBlock
    rw [hP] at hcur
    simp at hcur
  have hAq : ∀ g, (ab q).ownBlock = some g → B ≤ g ∧ g ≠ P := by
    intro g hg'
    obtain ⟨cu, hc, hc2⟩ := (hO.ats q m hM).block hg'
    refine ⟨hc2, ?_⟩
    rintro rfl
    rw [hP] at hc
    simp at hc
  have hsz := hb.size
  have hPl : P < w.heap.size := lt_of_block hP
  refine ⟨?_, ?_, own_frozen h1 _⟩
  · show PtPost _ _ _ _ _ _
    rw [hR]
    refine ⟨rfl, ⟨_, _, _, (heap_set_other _ hPb).trans ((hg.block P (by omega) (fun e => (hAq P e.symm).2 rfl)).trans (hKP W hb)), h2, hBP⟩, ⟨hg.os.trans hb.os, hg.tape.trans hb.tape, hg.output.trans hb.output, ?_, fun k hk' => ?_⟩⟩
    · have := hg.size
      have h9 : w.heap.size ≤ w'.heap.size := by omega
      simpa [World.setCell] using h9
    · refine (heap_set_other _ (by omega)).trans ((hg.block k (by omega) ?_).trans (hb.block k (by omega)))
      intro e
      have := (hAq k e.symm).1
      omega
  · obtain ⟨g, hg', -, -, -, -, -, c5, -⟩ := rowN_cells h1 hM
    cases hg'
    exact ⟨_, c5⟩

set_option maxRecDepth 100000 in
set_option maxHeartbeats 1600000 in
theorem set_any (s : Ds) (p : Pt) (B P : Nat) (w : World) (hs : DsAt w B P s) (hp : PtOk p) (hB : B ≤ w.heap.size) (hn : s.nodes.length ≤ 1024) (hu : Up s.nodes) (hua : ∀ n ∈ s.nodes, UpA n.ats ∧ n.ats.length ≤ 16) :
    Calls Tryz.prog 42 #[.pointer (some ⟨P, 0, none⟩), mkP p] w fun e w' => PtPost w w' B P e (setD s p) := by
  obtain ⟨v, ab, kb, hP, hO, hBP⟩ := hs
  obtain ⟨va, vc, hvs⟩ := hO.shape
  subst hvs
  have HO : Hid (OwnN w B (.slice va s.nodes.length vc) s.nodes ab kb) := hO
  have HP : Hid (w.heap[P]? = some (.cells #[.slice va s.nodes.length vc, .int .i64 s.root, .int .i64 s.next] 30 (0, 0))) := hP
  have HBP : Hid (B ≤ P) := hBP
  have HU : Hid (Up s.nodes) := hu
  have hPl : P < w.heap.size := lt_of_block hP
  have HPN : Hid (p.name.size ≤ 140737488351232 ∧ p.val.size ≤ 140737488351232) := ⟨hp.name, hp.val⟩
  have HUA : Hid (∀ n ∈ s.nodes, UpA n.ats ∧ n.ats.length ≤ 16) := hua
  obtain ⟨ns, root, next⟩ := s
  obtain ⟨pw, pi, pp, pat, pg, pk, pt, pn, pv⟩ := p
  simp only at *
  clear hP hO hBP hu hua hp
  have KP : Hid (∀ W, Below w.heap.size w W → W.heap[P]? = some (.cells #[.slice va ns.length vc, .int .i64 root, .int .i64 next] 30 (0, 0))) := fun W hb => (hb.block _ hPl).trans HP.out
  have HSTAY : Hid (∀ W, Below w.heap.size w W → DsAt W B P ⟨ns, root, next⟩ ∧ Below B w W) := fun W hb => ⟨⟨_, ab, kb, KP.out W hb, HO.out.below hb, HBP.out⟩, hb.mono hB⟩
  have HFI : Hid (∀ W, Below w.heap.size w W → Calls Tryz.prog 54 #[.slice va ns.length vc, .int .i64 pi] W fun e w' => ∃ v, e = .returned v ∧ FindIs va ns pi v ∧ Below W.heap.size W w') := fun W hb => find_any ns pi va vc W (HO.out.below hb).lay HU.out hn
  obtain ⟨W1, hW1⟩ : ∃ W : World, W = w.alloc (.cells #[.int .i64 pw, .int .i64 pi, .int .i64 pp, .int .i64 pat, .string pg, .string pk, .string pt, .string pn, .string pv] 35) := ⟨_, rfl⟩
  have B1 : Hid (Below w.heap.size w W1) := by show Below _ _ _; rw [hW1]; exact below_one _ _
  have X1 : Hid (W1.heap[w.heap.size]? = some (.cells #[.int .i64 pw, .int .i64 pi, .int .i64 pp, .int .i64 pat, .string pg, .string pk, .string pt, .string pn, .string pv] 35 (0, 0))) := by show _ = _; rw [hW1]; exact heap_alloc_new _ _
  go_enter Tryz.func42, Tryz.ntmps42
  go_wp2_with fail
  rw [← hW1]
  clear hW1
  obtain ⟨-, y1, -, -, -, -, -, -, -⟩ := nine X1.out
  obtain ⟨p0, p1, p2⟩ := three (KP.out _ B1.out)
  have y1' : W1.drew.cell? ⟨w.heap.size, 1, none⟩ = some (.int .i64 pi) := y1
  have p0' : W1.drew.cell? ⟨P, 0, none⟩ = some (.slice va ns.length vc) := p0
  go_region_held3 (fun w' => w'.cell? ⟨w.heap.size, 1, none⟩ = some (.int .i64 pi) ∧ w'.cell? ⟨P, 0, none⟩ = some (.slice va ns.length vc)) (go_keep) ((go_at_call 54; refine (HFI.out W1.drew B1.out.drew).mono ?_; rintro e w2 ⟨fv, rfl, hfi, hb2⟩; have u1 := keepc hb2 _ _ y1'; have u0 := keepc hb2 _ _ p0'))
  have B2 : Hid (Below w.heap.size w w2) := nxt B1.out.drew hb2
  have X2 : Hid (w2.heap[w.heap.size]? = _) := (hb2.block _ (lt_of_block X1.out)).trans X1.out
  clear hb2 u1 u0 y1 p0 p1 p2 y1' p0'
  unfold FindIs at hfi
  cases hp : pl ns pi with
  | none =>
    rw [hp] at hfi
    simp only at hfi
    subst hfi
    have HR : Hid (setD ⟨ns, root, next⟩ ⟨pw, pi, pp, pat, pg, pk, pt, pn, pv⟩ = (71, ⟨ns, root, next⟩)) := by show _ = _; unfold setD; simp only; rw [hp]
    clear hp
    go_wp2_with fail
    go_ret
    rw [HR.out]
    exact ⟨rfl, HSTAY.out _ B2.out⟩
  | some q =>
    rw [hp] at hfi
    simp only at hfi
    obtain ⟨b, o, ha, rfl⟩ := hfi
    obtain ⟨m, hm1, hm2⟩ := pl_some hp
    have O2 : Hid (OwnN w2 B (.slice va ns.length vc) ns ab kb) := HO.out.below B2.out
    subst ha
    obtain ⟨g, hg, r0, r1, r2, r3, r4, r5, r6⟩ := rowN_cells O2.out.row hm1
    cases hg
    rw [Nat.zero_add]
    obtain ⟨mka, mkc, hmk⟩ := (O2.out.kids q m hm1).shape
    obtain ⟨maa, mac, hma⟩ := (O2.out.ats q m hm1).shape
    rw [hmk] at r6
    rw [hma] at r5
    have HM : Hid (ns[q]? = some m) := hm1
    have HRE : Hid (setD ⟨ns, root, next⟩ ⟨pw, pi, pp, pat, pg, pk, pt, pn, pv⟩ = if m.tag.size = 0 then (81, ⟨ns, root, next⟩) else if nmD pn = false then (31, ⟨ns, root, next⟩) else if 128 < pv.size then (5, ⟨ns, root, next⟩) else if hasA m.ats pn = true then (0, ⟨ns.set q (m.withAts (putV m.ats (lwA m.ats pn) pv)), root, next⟩) else if m.ats.length = 16 then (3, ⟨ns, root, next⟩) else (0, ⟨ns.set q (m.withAts (insAt m.ats (lwA m.ats pn) (pn, pv))), root, next⟩)) := by show _ = _; unfold setD; simp only; rw [hp]; simp only; rw [hm1]
    have HUM : Hid (UpA m.ats ∧ m.ats.length ≤ 16) := HUA.out m (List.mem_of_getElem? hm1)
    have HFM : Hid (NdFit m) := O2.out.fit m (List.mem_of_getElem? hm1)
    have HAM : Hid (OwnA w2 B (.slice maa m.ats.length mac) m.ats) := by show OwnA _ _ _ _; rw [← hma]; exact O2.out.ats q m hm1
    have HAB : Hid (ab q = .slice maa m.ats.length mac) := hma
    clear hm1 hm2 hp hmk hma
    have CI : Hid (∀ W, Calls Tryz.prog 56 #[mkN m.id m.par m.tag m.key m.txt maa m.ats.length mac mka m.kids.length mkc] W _) := fun W => istextN_any m.id m.par m.tag m.key m.txt maa m.ats.length mac mka m.kids.length mkc W
    by_cases hg : m.tag.size = 0
    · rw [if_pos hg] at HRE
      have CJ : Hid (∀ W, Calls Tryz.prog 56 #[mkN m.id m.par m.tag m.key m.txt maa m.ats.length mac mka m.kids.length mkc] W fun e w' => e = .returned (.bool true) ∧ Below W.heap.size W w') := fun W => by have := CI.out W; rwa [empty_true hg] at this
      clear CI hg
      go_wp2_with (go_at_call 56; refine (CJ.out _).mono ?_; rintro e w3 ⟨rfl, hb3⟩; have B3 : Hid (Below w.heap.size w w3) := nxt B2.out hb3; clear hb3)
      go_ret
      rw [HRE.out]
      exact ⟨rfl, HSTAY.out _ B3.out⟩
    · rw [if_neg hg] at HRE
      have CJ : Hid (∀ W, Calls Tryz.prog 56 #[mkN m.id m.par m.tag m.key m.txt maa m.ats.length mac mka m.kids.length mkc] W fun e w' => e = .returned (.bool false) ∧ Below W.heap.size W w') := fun W => by have := CI.out W; rwa [empty_false hg] at this
      clear CI hg
      go_wp2_with fail
      refine (CJ.out _).mono ?_
      rintro e w3 ⟨rfl, hb3⟩
      have B3 : Hid (Below w.heap.size w w3) := nxt B2.out hb3
      have X3 : Hid (w3.heap[w.heap.size]? = _) := (hb3.block _ (lt_of_block X2.out)).trans X2.out
      have hb3' := hb3
      have q5 := keepc hb3 _ _ r5
      have A3 : Hid (OwnA w3 B (.slice maa m.ats.length mac) m.ats) := HAM.out.below hb3
      have O3 : Hid (OwnN w3 B (.slice (some ⟨b, 0, none⟩) ns.length vc) ns ab kb) := O2.out.below hb3
      clear q5
      obtain ⟨-, -, -, -, -, -, -, y7, y8⟩ := nine X3.out
      clear hb3 r0 r1 r2 r3 r4 CJ X2
      go_wp2_with fail
      refine (isNameD_any pn _ HPN.out.1).mono ?_
      rintro e w4 ⟨rfl, hb4⟩
      have B4 : Hid (Below w.heap.size w w4) := nxt B3.out hb4
      have X4 : Hid (w4.heap[w.heap.size]? = _) := (hb4.block _ (lt_of_block X3.out)).trans X3.out
      have A4 : Hid (OwnA w4 B (.slice maa m.ats.length mac) m.ats) := A3.out.below hb4
      have O4 : Hid (OwnN w4 B (.slice (some ⟨b, 0, none⟩) ns.length vc) ns ab kb) := O3.out.below hb4
      have q5 := keepc (nxt hb3' hb4) _ _ r5
      clear hb4 y7 y8 X3 A3 O3 r5 r6 hb3'
      generalize nmD pn = hnm at *
      cases hnm with
      | false =>
        rw [if_pos rfl] at HRE
        go_wp2_with fail
        go_ret
        rw [HRE.out]
        exact ⟨rfl, HSTAY.out _ B4.out⟩
      | true =>
        rw [if_neg (by simp)] at HRE
        obtain ⟨-, -, -, -, -, -, -, y7, y8⟩ := nine X4.out
        by_cases hl : 128 < pv.size
        · rw [if_pos hl] at HRE
          have g1 : decide ((128 : Int) < (pv.size : Int)) = true := decide_eq_true (by omega)
          clear hl
          go_wp2_with fail
          go_ret
          rw [HRE.out]
          exact ⟨rfl, HSTAY.out _ B4.out⟩
        · rw [if_neg hl] at HRE
          have g1 : decide ((128 : Int) < (pv.size : Int)) = false := decide_eq_false (by omega)
          clear hl
          have y7' : w4.drew.cell? ⟨w.heap.size, 7, none⟩ = some (.string pn) := y7
          have q5' : w4.drew.cell? ⟨b, q * 7 + 5, none⟩ = some (.slice maa m.ats.length mac) := q5
          have HAP : Hid (Calls Tryz.prog 74 #[.slice maa m.ats.length mac, .string pn] w4.drew _) := attrPlace_any m.ats pn maa mac w4.drew (A4.out.lay HFM.out.atr) HUM.out.1 HUM.out.2
          go_wp2_with fail
          go_region_held3 (fun w' => w'.cell? ⟨w.heap.size, 7, none⟩ = some (.string pn) ∧ w'.cell? ⟨b, q * 7 + 5, none⟩ = some (.slice maa m.ats.length mac)) (go_keep) ((go_at_call 74; refine HAP.out.mono ?_; rintro e w5 ⟨rfl, hb5⟩; have u7 := keepc hb5 _ _ y7'; have u5 := keepc hb5 _ _ q5'))
          have B45 : Hid (Below w4.heap.size w4 w5) := (Below.refl _ w4).drew.trans hb5
          have B5 : Hid (Below w.heap.size w w5) := nxt B4.out B45.out
          have X5 : Hid (w5.heap[w.heap.size]? = _) := (B45.out.block _ (lt_of_block X4.out)).trans X4.out
          have A5 : Hid (OwnA w5 B (.slice maa m.ats.length mac) m.ats) := A4.out.below B45.out
          have O5 : Hid (OwnN w5 B (.slice (some ⟨b, 0, none⟩) ns.length vc) ns ab kb) := O4.out.below B45.out
          have hlw := lwA_le m.ats pn
          have HHAS : Hid (hasA m.ats pn = true → ∃ s, m.ats[lwA m.ats pn]? = some s) := by
            show _ → _
            intro h
            unfold hasA at h
            cases hc : m.ats[lwA m.ats pn]? with
            | none => rw [hc] at h; simp at h
            | some s => exact ⟨s, rfl⟩
          clear hb5 u7 y7 y8 y7' q5' q5 HAP A4 O4 X4 B4 B45
          generalize hhh : hasA m.ats pn = hh at *
          obtain ⟨-, -, -, -, -, -, -, y7, y8⟩ := nine X5.out
          cases hh with
          | true =>
            rw [if_pos rfl] at HRE
            obtain ⟨s, hs⟩ := HHAS.out rfl
            have hlt : lwA m.ats pn < m.ats.length := (List.getElem?_eq_some_iff.1 hs).1
            have hpv : putV m.ats (lwA m.ats pn) pv = m.ats.set (lwA m.ats pn) (s.1, pv) := by unfold putV; rw [hs]
            rw [hpv] at HRE
            have HS : Hid (m.ats[lwA m.ats pn]? = some s) := hs
            clear hs hpv hhh HHAS
            generalize lwA m.ats pn = j at *
            obtain ⟨a, ha, d1⟩ := cells_of_own A5.out (j * 2 + 1) (.string s.2) (cellsA_val HS.out)
            subst ha
            have f1 := own_frozen A5.out (j * 2 + 1)
            have hab : ab q = .slice (some ⟨a, 0, none⟩) m.ats.length mac := HAB.out
            have o6 := (O5.out.below (Below.refl _ w5).drew).setVal HM.out hab HS.out HPN.out.2
            have HFIN : Hid (PtPost w (w5.drew.setCell ⟨a, j * 2 + 1, none⟩ (.string pv)) B P (.returned (.int .i64 0)) (setD ⟨ns, root, next⟩ ⟨pw, pi, pp, pat, pg, pk, pt, pn, pv⟩)) := by
              show PtPost _ _ _ _ _ _
              rw [HRE.out]
              have hPa : P ≠ a := by
                rintro rfl
                obtain ⟨cu, hc, -⟩ := A5.out.block (g := P) rfl
                rw [KP.out _ B5.out] at hc
                simp at hc
              have hba := (A5.out.block (g := a) rfl)
              obtain ⟨-, -, hba⟩ := hba
              have hb' := B5.out.drew.mono hB
              refine ⟨rfl, ⟨_, _, _, (heap_set_other _ hPa).trans (KP.out _ B5.out.drew), o6, HBP.out⟩, ⟨hb'.os, hb'.tape, hb'.output, by have := hb'.size; simpa [World.setCell] using this, fun k hk => (heap_set_other _ (by omega)).trans (hb'.block k hk)⟩⟩
            clear o6 hab
            have y8' : w5.drew.cell? ⟨w.heap.size, 8, none⟩ = some (.string pv) := y8
            have u5' : w5.drew.cell? ⟨b, q * 7 + 5, none⟩ = some (.slice (some ⟨a, 0, none⟩) m.ats.length mac) := u5
            have d1' : w5.drew.cell? ⟨a, j * 2 + 1, none⟩ = some (.string s.2) := by rw [Nat.zero_add] at d1; exact d1
            have f1' : w5.drew.frozen? ⟨a, j * 2 + 1, none⟩ = false := f1
            go_wp2_with fail
            go_region_with (fail)
            all_goals (
              clear y8' u5' d1' f1' y7 y8 u5 d1 f1
              go_wp2_with fail
              go_ret
              exact HFIN.out)
          | false =>
            rw [if_neg (by simp)] at HRE
            clear HHAS hhh
            by_cases h16 : m.ats.length = 16
            · rw [if_pos h16] at HRE
              have g5 : ((m.ats.length : Int) == 16) = true := by simpa using (by exact_mod_cast h16 : (m.ats.length : Int) = 16)
              clear h16
              go_wp2_with fail
              go_ret
              rw [HRE.out]
              exact ⟨rfl, HSTAY.out _ B5.out⟩
            · rw [if_neg h16] at HRE
              have g5 : ((m.ats.length : Int) == 16) = false := by simpa using (by exact_mod_cast h16 : ¬ (m.ats.length : Int) = 16)
              clear h16
              go_wp2_with fail
              have HJ : Hid (lwA m.ats pn ≤ m.ats.length) := hlw
              have HL16 : Hid (m.ats.length ≤ 16) := HUM.out.2
              clear hlw
              generalize lwA m.ats pn = j at *
              obtain ⟨W6, hW6⟩ : ∃ W : World, W = w5.drew.alloc (.cells #[.string pn, .string pv] 43) := ⟨_, rfl⟩
              have B56 : Hid (Below w5.heap.size w5 W6) := by show Below _ _ _; rw [hW6]; exact nxt (Below.refl _ w5).drew (below_one w5.drew _)
              have O6 : Hid (OwnN W6 B (.slice (some ⟨b, 0, none⟩) ns.length vc) ns ab kb) := O5.out.below B56.out
              have A6 : Hid (OwnA W6 B (.slice maa m.ats.length mac) m.ats) := A5.out.below B56.out
              have B6 : Hid (Below w.heap.size w W6) := nxt B5.out B56.out
              have HIN : Hid (Calls Tryz.prog 75 #[.slice maa m.ats.length mac, .int .i64 j, .slice (some ⟨w5.heap.size, 0, none⟩) 1 1] W6 _) := insA_any (.slice maa m.ats.length mac) B m.ats.length j w5.heap.size (cellsA m.ats) [.string pn, .string pv] W6 HJ.out (Nat.le_trans hB B6.out.size) (by have := HL16.out; omega) A6.out (fun h => by have := (OwnA.rng A5.out h).2; omega) (by rw [hW6]; exact heap_alloc_new _ _) rfl (cellsA_one _) (by simp [Value.oneCell'])
              have y7' : w5.drew.cell? ⟨w.heap.size, 7, none⟩ = some (.string pn) := y7
              have y8' : w5.drew.cell? ⟨w.heap.size, 8, none⟩ = some (.string pv) := y8
              have u5' : w5.drew.cell? ⟨b, q * 7 + 5, none⟩ = some (.slice maa m.ats.length mac) := u5
              have u6 := keepc B56.out _ _ u5
              rw [hW6] at HIN u6
              have u6' : (w5.alloc (.cells #[.string pn, .string pv] 43)).drew.cell? ⟨b, q * 7 + 5, none⟩ = some (.slice maa m.ats.length mac) := u6
              have u6'' : (w5.alloc (.cells #[.string pn, .string pv] 43)).cell? ⟨b, q * 7 + 5, none⟩ = some (.slice maa m.ats.length mac) := u6
              go_wp2_with fail
              go_region_with (go_at_call 75; refine HIN.out.mono ?_; rintro e w7 ⟨v7, rfl, hown7, hg7, hv7⟩; obtain ⟨k7a, k7c, rfl⟩ := slice_of_own hown7; rw [← hW6] at hg7 hv7; obtain ⟨HF7, HC7, HZ7⟩ := set_end HO.out HP.out KP.out HBP.out HRE.out HAB.out HM.out B6.out O6.out HFM.out HPN.out HL16.out HJ.out hown7 hg7 hv7; obtain ⟨z7, hz7⟩ := HC7)
              all_goals (
                clear y7' y8' u5' u6 u6' u6'' y7 y8 u5 hown7 hg7 hv7 hz7 HZ7
                go_wp2_with fail
                go_ret
                exact HF7.out)
end Go.Proofs.YtcdnakcojanaeabGreat
