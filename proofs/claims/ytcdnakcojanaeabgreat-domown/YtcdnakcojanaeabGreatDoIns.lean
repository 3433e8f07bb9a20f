/-
  slices.Insert of one number into a row of one's own.
-/
import Derived.Test.YtcdnakcojanaeabGreatDoWith
import Derived.Laws.CopyRow
import Derived.Laws.CopyOwn
import Derived.Laws.Externs
import Derived.Lib.Overlaps
import Derived.Lib.AppendZerosOnto
import Derived.Deep.RegionLaw
import Derived.Shelf.Spec.SlicesInsert
namespace Go.Proofs.YtcdnakcojanaeabGreat
open Go.ChangeShapes Go.WideShapes Go.ChangeAt Go.RowKit Go.Deep
open Do

/-- copy into a row, elements of whatever size. -/
theorem run_copy_rowN {P : Program} (w : World) (dT sT ty elem : TypeId) (sz g o dLen dCap : Nat) (a : Addr) (sLen sCap : Nat) (cur : Array Value) (t : TypeId) (cs : List Value)
    (hu : P.underlying dT = some (.slice elem)) (hs : (P.info? elem).map (·.size) = some sz)
    (hg : w.heap[g]? = some (.cells cur t (0, 0))) (hn : cs.length = Nat.min sLen dLen * sz)
    (hsrc : ∀ j v, cs[j]? = some v → w.cell? (a.add j) = some v) (hfit : o + cs.length ≤ cur.size) (h1 : ∀ v ∈ cs, v.oneCell' = true) :
    (Builtin.copy_ #[dT, sT] ty #[.slice (some ⟨g, o, none⟩) dLen dCap, .slice (some a) sLen sCap]).run P w =
      .ok (goInt (Nat.min sLen dLen)) (w.setRow g (cur.toList.take o ++ cs ++ cur.toList.drop (o + cs.length)).toArray) := by
  have hl := run_loadCells_list (P := P) w a cs hsrc
  have hst := run_storeCells_at P g o t cs 0 cur w hg (by simpa using hfit) h1
  cases hq : P.info? elem with
  | none => simp [hq] at hs
  | some i =>
    have hi : i.size = sz := by simpa [hq] using hs
    simp [Builtin.copy_, run_underlying hu, Builtin.lenOf, Builtin.firstCells, sizeOf, typeInfo, hq, hi, ← hn, hl, hst]


set_option maxRecDepth 100000 in
set_option maxHeartbeats 4000000 in
theorem insZ_room (b n cap i vb : Nat) (cur : Array Value) (vs : List Value) (w : World) (hi : i < n) (hroom : n + 1 ≤ cap) (hcap : cap ≤ 9223372036854775807) (hvb : vb ≠ b)
    (hb : w.heap[b]? = some (.cells cur 3 (0, 0))) (hcur : cur.size = cap) (hv : w.heap[vb]? = some (.cells vs.toArray 3 (0, 0))) (hvl : vs.length = 1) (h1c : ∀ v ∈ cur.toList.take (n), v.oneCell' = true) (h1v : ∀ v ∈ vs, v.oneCell' = true) :
    Calls Tryz.prog 70 #[.slice (some ⟨b, 0, none⟩) n cap, .int .i64 i, .slice (some ⟨vb, 0, none⟩) 1 1] w fun e w' =>
      e = .returned (.slice (some ⟨b, 0, none⟩) (n + 1) cap) ∧ ∃ cur' : Array Value, cur'.size = cur.size ∧ cur'.toList.take ((n + 1)) = (cur.toList.take (i)) ++ vs ++ ((cur.toList.take (n)).drop (i)) ∧
        w'.heap[b]? = some (.cells cur' 3 (0, 0)) ∧ (∀ k, k ≠ b → w'.heap[k]? = w.heap[k]?) ∧ w'.heap.size = w.heap.size ∧ w'.os = w.os ∧ w'.tape = w.tape ∧ w'.output = w.output := by
  obtain ⟨i0, hi0, hz0, hzs, hzb⟩ := info_parts Tryz.infoInt
  have hsz : (Tryz.prog.info? 3).map (·.size) = some 1 := by rw [hi0]; simp [hzs]
  have hz9 : ∀ w, (Go.sizeOf 3).run Tryz.prog w = .ok 1 w := fun w => by simp [Go.sizeOf, typeInfo, hi0, hzs]
  have hov : ∀ o lb cb, (callFunc 83 #[.slice (some ⟨vb, 0, none⟩) 1 1, .slice (some ⟨b, o, none⟩) lb cb]).run Tryz.prog w = .ok (.value (.bool false)) w := fun o lb cb => by
    rw [run_callFunc_extern Tryz.func83 (by kernel_rfl) (by kernel_rfl) (by kernel_rfl) (e := Extern.SlicesOverlaps.overlaps #[39, 39] #[4]) (by kernel_rfl),
      Lib.run_overlaps_apart w 39 4 3 Tryz.underlying39 1 hz9 ⟨vb, 0, none⟩ ⟨b, o, none⟩ 1 1 lb cb hvb 3 3 1 (cap) (by simp [World.shape?, hv, hvl]) (by simp [World.shape?, hb, hcur]) (by omega) (by simp [World.frozen?, hv]) (by simp [World.frozen?, hv])]
    rfl
  have hw1 : IntKind.i64.wrap ((i : Int) + 1) = (i : Int) + 1 := by rw [IntKind.wrap_i64]; omega
  have hb1 : (0 : Int) ≤ (i : Int) + 1 := by omega
  have hin : i ≤ n := by omega
  have htn : ((i : Int) + 1).toNat = i + 1 := by omega
  have hb2 : ¬ (cap = i + 1) := by omega
  have hb3 : (i : Int) ≤ (n : Int) + 1 := by omega
  have hb4 : ¬ (cap = i) := by omega
  have hcl : cur.toList.length = cap := by simpa using hcur
  have hdl : ((cur.toList.take (n)).drop (i)).length = (n - i) := by rw [List.length_drop, List.length_take, hcl]; omega
  have hcell : ∀ (W : World), W.heap = w.heap → ∀ j, W.cell? ⟨b, j, none⟩ = cur[j]? := fun W hW j => by simp [World.cell?, hW, hb]
  have hcp1 : ∀ ty dc sc, (Builtin.copy_ #[39, 39] ty #[.slice (some ⟨b, (i + 1), none⟩) (n - i) dc, .slice (some ⟨b, i, none⟩) (n + 1 - i) sc]).run Tryz.prog w.drew = .ok (goInt (Nat.min (n + 1 - i) (n - i))) (w.drew.setRow b (cur.toList.take ((i + 1)) ++ (cur.toList.take (n)).drop (i) ++ cur.toList.drop ((i + 1) + (n - i))).toArray) := fun ty dc sc => by
    have := run_copy_rowN (P := Tryz.prog) w.drew 39 39 ty 3 1 b ((i + 1)) (n - i) dc ⟨b, i, none⟩ (n + 1 - i) sc cur 3 ((cur.toList.take (n)).drop (i)) Tryz.underlying39 hsz hb
      (by rw [hdl, Nat.mul_one]; simp only [Nat.min_def]; split <;> omega)
      (fun j v hj => by
        rw [add_plain, hcell w.drew rfl]
        rw [List.getElem?_drop, List.getElem?_take] at hj
        split at hj
        · simpa using hj
        · cases hj) (by rw [hdl]; omega) (fun v hv' => h1c v (List.mem_of_mem_drop hv'))
    rw [hdl] at this
    exact this
  obtain ⟨cur1, hcur1⟩ : ∃ cur1 : Array Value, cur1 = (cur.toList.take ((i + 1)) ++ (cur.toList.take (n)).drop (i) ++ cur.toList.drop ((i + 1) + (n - i))).toArray := ⟨_, rfl⟩
  rw [← hcur1] at hcp1
  have hW1 : (w.drew.setRow b cur1).heap[b]? = some (.cells cur1 3 (0, 0)) := setRow_heap w.drew b cur cur1 _ _ hb
  have hl1 : cur1.toList.length = cap := by rw [hcur1]; simp only [List.length_append, List.length_take, List.length_drop, hcl]; omega
  have hcp2 : ∀ ty dc, (Builtin.copy_ #[39, 39] ty #[.slice (some ⟨b, i, none⟩) (n + 1 - i) dc, .slice (some ⟨vb, 0, none⟩) 1 1]).run Tryz.prog (w.drew.setRow b cur1) = .ok (goInt (Nat.min 1 (n + 1 - i))) ((w.drew.setRow b cur1).setRow b (cur1.toList.take (i) ++ vs ++ cur1.toList.drop (i + 1)).toArray) := fun ty dc => by
    have := run_copy_rowN (P := Tryz.prog) (w.drew.setRow b cur1) 39 39 ty 3 1 b (i) (n + 1 - i) dc ⟨vb, 0, none⟩ 1 1 cur1 3 vs Tryz.underlying39 hsz hW1
      (by rw [hvl]; simp only [Nat.min_def]; split <;> omega)
      (fun j v hj => by
        rw [add_plain, cell_setRow_other _ _ _ _ hvb]
        show w.cell? _ = _
        simp [World.cell?, hv, hj]) (by rw [hvl]; have : cur1.size = cap := by simpa using hl1
                                        omega) h1v
    rw [hvl] at this
    exact this
  have H1 : Hid _ := hcp1
  have H2 : Hid _ := hcp2
  have HC1 : Hid (cur1 = _) := hcur1
  clear hcp1 hcp2 h1c h1v hcell hdl hW1 hcur1
  go_enter Tryz.func70, Tryz.ntmps70
  go_wp2_with (simp only [hov])
  go_region_law (refine step_copy_runI rfl _ _ 39 39 rfl (.slice (some ⟨b, (i + 1), none⟩) (n - i) (cap - (i + 1))) (.slice (some ⟨b, i, none⟩) (n + 1 - i) (cap - i)) (by simp [Act.eval, Act.put]) (by simp [Act.eval, Act.put]) (H1.out _ _ _) ?_)
  go_wp2_with fail
  rw [H2.out]
  go_wp2_with fail
  go_ret
  have hl2 : (cur1.toList.take (i) ++ vs ++ cur1.toList.drop (i + 1)).length = cap := by simp only [List.length_append, List.length_take, List.length_drop, hl1, hvl]; omega
  refine ⟨rfl, (cur1.toList.take (i) ++ vs ++ cur1.toList.drop (i + 1)).toArray, by rw [hcur]; simpa using hl2, ?_, ?_, ?_, ?_, rfl, rfl, rfl⟩
  · have e1 : cur1.toList = cur.toList.take ((i + 1)) ++ (cur.toList.take (n)).drop (i) ++ cur.toList.drop ((i + 1) + (n - i)) := by rw [HC1.out]
    have e2 : cur1.toList.take (i) = cur.toList.take (i) := by
      rw [e1, List.append_assoc, List.take_append_of_le_length (by rw [List.length_take, hcl]; omega), List.take_take]
      congr 1
      omega
    have e3 : cur1.toList.drop (i + 1) = (cur.toList.take (n)).drop (i) ++ cur.toList.drop ((i + 1) + (n - i)) := by
      have hA : (cur.toList.take ((i + 1))).length = i + 1 := by rw [List.length_take, hcl]; omega
      rw [e1, List.append_assoc]
      exact List.drop_left' hA
    rw [e2, e3, ← List.append_assoc]
    have hB : (cur.toList.take (i) ++ vs ++ (cur.toList.take (n)).drop (i)).length = (n + 1) := by
      simp only [List.length_append, List.length_take, List.length_drop, hcl, hvl]; omega
    rw [← hB, List.take_left]
  · rw [setRow_setRow, List.append_assoc]
    exact setRow_heap w.drew b cur _ _ _ hb
  · intro k hk
    rw [setRow_setRow]
    exact setRow_other w.drew b k _ hk
  · simp
set_option maxRecDepth 100000 in
set_option maxHeartbeats 4000000 in
theorem insZ_grow (b n cap i vb : Nat) (cur : Array Value) (vs : List Value) (w : World) (hi : i < n) (hnc : n ≤ cap) (hroom : cap < n + 1) (hbig : (n + 1) * 8 ≤ 140737488355328)
    (hb : w.heap[b]? = some (.cells cur 3 (0, 0))) (hcur : cur.size = cap) (hv : w.heap[vb]? = some (.cells vs.toArray 3 (0, 0))) (hvl : vs.length = 1) (h1c : ∀ v ∈ cur.toList.take (n), v.oneCell' = true) (h1v : ∀ v ∈ vs, v.oneCell' = true) :
    Calls Tryz.prog 70 #[.slice (some ⟨b, 0, none⟩) n cap, .int .i64 i, .slice (some ⟨vb, 0, none⟩) 1 1] w fun e w' =>
      ∃ (cap' : Nat) (cur' : Array Value), e = .returned (.slice (some ⟨w.heap.size, 0, none⟩) (n + 1) cap') ∧ n + 1 ≤ cap' ∧ cap' ≤ 9223372036854775807 ∧ cur'.size = cap' ∧ cur'.toList.take ((n + 1)) = (cur.toList.take (i)) ++ vs ++ ((cur.toList.take (n)).drop (i)) ∧
        w'.heap[w.heap.size]? = some (.cells cur' 3 (0, 0)) ∧ Below w.heap.size w w' := by
  obtain ⟨i0, hi0, hz0, hzs, hzb⟩ := info_parts Tryz.infoInt
  have hsz : (Tryz.prog.info? 3).map (·.size) = some 1 := by rw [hi0]; simp [hzs]
  have hcn : cap = n := by omega
  subst hcn
  have hcl : cur.toList.length = cap := by simpa using hcur
  have hkk : (cap : Int) + 1 - (i : Int) = ((cap + 1 - i : Nat) : Int) := by omega
  have hik : i + (cap + 1 - i) = cap + 1 := by omega
  have hold : (Builtin.firstCells i0.size i (.slice (some ⟨b, 0, none⟩) i cap)).run Tryz.prog w.drew = .ok (cur.toList.take (i)).toArray w.drew := by
    rw [hzs]
    exact run_firstCells_some w.drew 1 i ⟨b, 0, none⟩ i cap (cur.toList.take (i)) (by rw [List.length_take]; omega) (fun j v hj => by
      rw [add_plain]
      rw [List.getElem?_take] at hj
      split at hj
      · show w.cell? _ = _
        simp [World.cell?, hb]
        simpa using hj
      · cases hj)
  have hrz : ∀ ty, (Builtin.append_ #[39, 3] ty #[.slice (some ⟨b, 0, none⟩) i cap, .int .i64 ((cap : Int) + 1 - (i : Int))]).run Tryz.prog w =
      .ok (.slice (some ⟨w.heap.size, 0, none⟩) (cap + 1) (grownCap w (cap + 1) cap 3)) (w.drew.alloc (.cells ((cur.toList.take (i)).toArray ++ Builtin.zeroCells (Value.int .i64 0).cells (cap + 1 - i) ++ Builtin.zeroCells (Value.int .i64 0).cells (grownCap w (cap + 1) cap 3 - (cap + 1))) 3)) := fun ty => by
    have h := Lib.run_append_grow_zeros w 39 3 ty 3 i0 _ .i64 .i64 Tryz.underlying39 Tryz.underlying3 hi0 hz0 (some ⟨b, 0, none⟩) i cap (cur.toList.take (i)) hold (cap + 1 - i) (by omega) (by omega) (by omega) (by omega) (by rw [hzb]; omega) (by rw [hzb, hik]; exact growslice_fits hroom hbig)
    rw [hik] at h
    rw [hkk]
    exact h
  obtain ⟨G, hG⟩ : ∃ G, G = grownCap w (cap + 1) cap 3 := ⟨_, rfl⟩
  obtain ⟨ROW, hROW⟩ : ∃ ROW : Array Value, ROW = (cur.toList.take (i)).toArray ++ Builtin.zeroCells (Value.int .i64 0).cells (cap + 1 - i) ++ Builtin.zeroCells (Value.int .i64 0).cells (G - (cap + 1)) := ⟨_, rfl⟩
  rw [← hG] at hrz
  rw [← hROW] at hrz
  have hGn : cap + 1 ≤ G := by rw [hG]; exact grownCap_ge w _ _ _
  have hG63 : G ≤ 9223372036854775807 := by
    have := grownCap_le_maxLen w (cap + 1) cap 3 (by unfold maxLen; omega)
    rw [← hG] at this
    unfold maxLen at this
    omega
  have hRl : ROW.toList.length = G := by
    rw [hROW]
    simp [Builtin.zeroCells, Value.cells]
    omega
  have hRt : ROW.toList.take (i) = cur.toList.take (i) := by
    rw [hROW]
    have hA : (cur.toList.take (i)).length = i := by rw [List.length_take]; omega
    simp only [Array.toList_append, List.append_assoc]
    rw [List.take_append_of_le_length (by omega), List.take_take, Nat.min_self]
  have hbw := lt_of_block hb
  have hvw := lt_of_block hv
  have hN0 : ∀ W : World, W.heap = (w.alloc (.cells ROW 3)).heap → W.heap[w.heap.size]? = some (.cells ROW 3 (0, 0)) := fun W hW => by rw [hW]; exact heap_alloc_new _ _
  have hcpA : ∀ W : World, W.heap = (w.alloc (.cells ROW 3)).heap → ∀ ty dc, (Builtin.copy_ #[39, 39] ty #[.slice (some ⟨w.heap.size, i, none⟩) (cap + 1 - i) dc, .slice (some ⟨vb, 0, none⟩) 1 1]).run Tryz.prog W = .ok (goInt (Nat.min 1 (cap + 1 - i))) (W.setRow w.heap.size (ROW.toList.take (i) ++ vs ++ ROW.toList.drop (i + 1)).toArray) := fun W hW ty dc => by
    have := run_copy_rowN (P := Tryz.prog) W 39 39 ty 3 1 w.heap.size (i) (cap + 1 - i) dc ⟨vb, 0, none⟩ 1 1 ROW 3 vs Tryz.underlying39 hsz (hN0 W hW)
      (by rw [hvl]; simp only [Nat.min_def]; split <;> omega)
      (fun j v hj => by
        rw [add_plain]
        have e : W.heap[vb]? = some (.cells vs.toArray 3 (0, 0)) := by rw [hW, Below.heap_alloc _ _ _ hvw]; exact hv
        simp [World.cell?, e, hj]) (by rw [hvl]; have : ROW.size = G := by simpa using hRl
                                       omega) h1v
    rw [hvl] at this
    exact this
  obtain ⟨row1, hrow1⟩ : ∃ row1 : Array Value, row1 = (ROW.toList.take (i) ++ vs ++ ROW.toList.drop (i + 1)).toArray := ⟨_, rfl⟩
  rw [← hrow1] at hcpA
  have hl1 : row1.toList.length = G := by rw [hrow1]; simp only [List.length_append, List.length_take, List.length_drop, hRl, hvl]; omega
  have hN1 : ∀ W : World, W.heap = ((w.alloc (.cells ROW 3)).setRow w.heap.size row1).heap → W.heap[w.heap.size]? = some (.cells row1 3 (0, 0)) := fun W hW => by rw [hW]; exact setRow_heap _ _ ROW _ _ _ (hN0 _ rfl)
  have hdl : ((cur.toList.take (cap)).drop (i)).length = (cap - i) := by rw [List.length_drop, List.length_take, hcl]; omega
  have hcpB : ∀ W : World, W.heap = ((w.alloc (.cells ROW 3)).setRow w.heap.size row1).heap → ∀ ty dc sc, (Builtin.copy_ #[39, 39] ty #[.slice (some ⟨w.heap.size, (i + 1), none⟩) (cap - i) dc, .slice (some ⟨b, i, none⟩) (cap - i) sc]).run Tryz.prog W = .ok (goInt (Nat.min (cap - i) (cap - i))) (W.setRow w.heap.size (row1.toList.take ((i + 1)) ++ (cur.toList.take (cap)).drop (i) ++ row1.toList.drop ((i + 1) + (cap - i))).toArray) := fun W hW ty dc sc => by
    have := run_copy_rowN (P := Tryz.prog) W 39 39 ty 3 1 w.heap.size ((i + 1)) (cap - i) dc ⟨b, i, none⟩ (cap - i) sc row1 3 ((cur.toList.take (cap)).drop (i)) Tryz.underlying39 hsz (hN1 W hW)
      (by rw [hdl, Nat.mul_one]; exact (Nat.min_self _).symm)
      (fun j v hj => by
        rw [add_plain]
        have e : W.heap[b]? = some (.cells cur 3 (0, 0)) := by rw [hW, setRow_other _ _ _ _ (by omega), Below.heap_alloc _ _ _ hbw]; exact hb
        rw [List.getElem?_drop, List.getElem?_take] at hj
        split at hj
        · simp [World.cell?, e]
          simpa using hj
        · cases hj) (by rw [hdl]; have : row1.size = G := by simpa using hl1
                        omega) (fun v hv' => h1c v (List.mem_of_mem_drop hv'))
    rw [hdl] at this
    exact this
  have hw1 : IntKind.i64.wrap ((i : Int) + 1) = (i : Int) + 1 := by rw [IntKind.wrap_i64]; omega
  have hb1 : (0 : Int) ≤ (i : Int) + 1 := by omega
  have hin : i ≤ cap := by omega
  have htn : ((i : Int) + 1).toNat = i + 1 := by omega
  have hb3 : (i : Int) ≤ (cap : Int) := by omega
  have hGi : ¬ (G = i) := by omega
  have hGim : ¬ (G = i + 1) := by omega
  have hci : ¬ (cap = i) := by omega
  have HZ : Hid _ := hrz
  have HA : Hid _ := hcpA
  have HB : Hid _ := hcpB
  have HRow1 : Hid (row1 = _) := hrow1
  have HRt : Hid _ := hRt
  clear hrz hcpA hcpB hROW hG hold hrow1 hN0 hRt hkk hik h1c h1v hdl
  go_enter Tryz.func70, Tryz.ntmps70
  go_wp2_with (at_builtin; refine Lib.wpList_append_run _ rfl _ _ _ _ rfl _ _ rfl rfl _ _ (HZ.out _) ?_)
  rw [HA.out (w.alloc (.cells ROW 3)).drew rfl]
  go_wp2_with fail
  go_region_law (refine step_copy_runI rfl _ _ 39 39 rfl (.slice (some ⟨w.heap.size, (i + 1), none⟩) (cap - i) (G - (i + 1))) (.slice (some ⟨b, i, none⟩) (cap - i) (cap - i)) (by simp [Act.eval, Act.put]) (by simp [Act.eval, Act.put]) (HB.out (((w.alloc (.cells ROW 3)).drew.setRow w.heap.size row1).drew) rfl _ _ _) ?_)
  go_wp2_with fail
  go_ret
  have hl2 : (row1.toList.take ((i + 1)) ++ (cur.toList.take (cap)).drop (i) ++ row1.toList.drop ((i + 1) + (cap - i))).length = G := by simp only [List.length_append, List.length_take, List.length_drop, hl1, hcl]; omega
  refine ⟨G, (row1.toList.take ((i + 1)) ++ (cur.toList.take (cap)).drop (i) ++ row1.toList.drop ((i + 1) + (cap - i))).toArray, rfl, hGn, hG63, by simpa using hl2, ?_, ?_, ?_⟩
  · have e1 : row1.toList = cur.toList.take (i) ++ vs ++ ROW.toList.drop (i + 1) := by rw [HRow1.out, ← HRt.out]
    have e2 : row1.toList.take ((i + 1)) = cur.toList.take (i) ++ vs := by
      have hA : (cur.toList.take (i) ++ vs).length = (i + 1) := by rw [List.length_append, List.length_take, hvl]; omega
      rw [e1, ← hA, List.take_left]
    have hB : (cur.toList.take (i) ++ vs ++ (cur.toList.take (cap)).drop (i)).length = (cap + 1) := by
      simp only [List.length_append, List.length_take, List.length_drop, hcl, hvl]; omega
    show List.take ((cap + 1)) (row1.toList.take ((i + 1)) ++ (cur.toList.take (cap)).drop (i) ++ row1.toList.drop ((i + 1) + (cap - i))) = _
    rw [e2, ← hB, List.take_left]
  · have h1 := setRow_heap (w.alloc (.cells ROW 3)).drew w.heap.size ROW row1 _ _ (heap_alloc_new w (.cells ROW 3))
    first
      | exact setRow_heap (((w.alloc (.cells ROW 3)).drew.setRow w.heap.size row1).drew) w.heap.size row1 _ _ _ h1
      | (rw [List.append_assoc]; exact setRow_heap (((w.alloc (.cells ROW 3)).drew.setRow w.heap.size row1).drew) w.heap.size row1 _ _ _ h1)
  · exact below_setRow (below_setRow (below_one w _).drew (Nat.le_refl _) row1).drew (Nat.le_refl _) _

set_option maxRecDepth 100000 in
set_option maxHeartbeats 4000000 in
theorem insZ_any (s : Value) (base n i vb : Nat) (xs vs : List Value) (w : World) (hi : i ≤ n) (hbase : base ≤ w.heap.size) (hbig : (n + 1) * 8 ≤ 140737488355328) (hown : w.ownsRow base 3 1 s n xs) (hvb : s.ownBlock ≠ some vb)
    (hv : w.heap[vb]? = some (.cells vs.toArray 3 (0, 0))) (hvl : vs.length = 1) (h1c : ∀ v ∈ xs, v.oneCell' = true) (h1v : ∀ v ∈ vs, v.oneCell' = true) :
    Calls Tryz.prog 70 #[s, .int .i64 i, .slice (some ⟨vb, 0, none⟩) 1 1] w fun e w' =>
      ∃ v', e = .returned v' ∧ w'.ownsRow base 3 1 v' (n + 1) (xs.take (i) ++ vs ++ xs.drop (i)) ∧ w.grownBy w' s.ownBlock ∧ (v'.ownBlock = s.ownBlock ∨ ∀ g, v'.ownBlock = some g → w.heap.size ≤ g) := by
  by_cases hin : i = n
  · subst hin
    obtain ⟨i1, hi1, hz01, hz11, hz21⟩ := info_parts Tryz.infoInt
    have hlx := hown.1
    have e1 : xs.take (i) = xs := List.take_of_length_le (by omega)
    have e2 : xs.drop (i) = [] := List.drop_eq_nil_of_le (by omega)
    rw [e1, e2, List.append_nil]
    have HO : Hid (w.ownsRow base 3 1 s i xs) := hown
    obtain ⟨sa, sc, rfl⟩ := slice_of_own hown
    have hc := cap_of_own hown
    clear hown e1 e2
    by_cases hsc : i = sc
    · subst hsc
      go_enter Tryz.func70, Tryz.ntmps70
      go_wp2_with (at_builtin; refine wpList_append_apart _ rfl _ _ 39 rfl base 3 i1 _ 1 8 Tryz.underlying39 hi1 hz01 hz11 hz21 rfl (by decide) _ i xs rfl HO.out (some ⟨vb, 0, none⟩) 1 1 vs rfl (by simp) (by rw [hvl]) ?f1 h1v ?f3 ?f4 hbase ?_)
      case f1 =>
        intro ad e j u hj
        cases e
        rw [add_plain]
        simp [World.cell?, hv, hj]
      case f3 => unfold maxLen; omega
      case f4 => omega
      · intro v' w2 hown' hgrow hv'
        go_wp2_with fail
        go_ret
        exact ⟨_, rfl, hown', hgrow, hv'⟩
    · have hsc' : ¬ sc = i := fun e => hsc e.symm
      go_enter Tryz.func70, Tryz.ntmps70
      go_wp2_with (at_builtin; refine wpList_append_apart _ rfl _ _ 39 rfl base 3 i1 _ 1 8 Tryz.underlying39 hi1 hz01 hz11 hz21 rfl (by decide) _ i xs rfl HO.out (some ⟨vb, 0, none⟩) 1 1 vs rfl (by simp) (by rw [hvl]) ?f1 h1v ?f3 ?f4 hbase ?_)
      case f1 =>
        intro ad e j u hj
        cases e
        rw [add_plain]
        simp [World.cell?, hv, hj]
      case f3 => unfold maxLen; omega
      case f4 => omega
      · intro v' w2 hown' hgrow hv'
        go_wp2_with fail
        go_ret
        exact ⟨_, rfl, hown', hgrow, hv'⟩
  · obtain ⟨hlx, hcase⟩ := hown
    rcases hcase with ⟨rfl, rfl⟩ | ⟨g, cap, cur, rfl, hg, hh, hnc, hcm, hcs, hxs⟩
    · omega
    · have hne : vb ≠ g := fun e => hvb (by rw [e]; rfl)
      simp only [Nat.mul_one] at hcs hxs hlx
      subst hxs
      by_cases hroom : n + 1 ≤ cap
      · refine (insZ_room g n cap i vb cur vs w (by omega) hroom (by unfold maxLen at hcm; omega) hne hh hcs hv hvl h1c h1v).mono ?_
        rintro e w' ⟨rfl, cur', q1, q2, q3, q4, q5, q6, q7, q8⟩
        have hlt : i ≤ n := by omega
        have et : (cur.toList.take (n)).take (i) = cur.toList.take (i) := by rw [List.take_take]; congr 1; omega
        refine ⟨_, rfl, ⟨?_, Or.inr ⟨g, cap, cur', rfl, hg, q3, hroom, hcm, by rw [q1, hcs, Nat.mul_one], by rw [Nat.mul_one, q2, et]⟩⟩, ⟨q6, q7, q8, by omega, fun k hk hb => q4 k (fun e => hb (by rw [e]; rfl))⟩, Or.inl rfl⟩
        simp only [List.length_append, List.length_take, List.length_drop, hvl] at hlx ⊢
        omega
      · refine (insZ_grow g n cap i vb cur vs w (by omega) hnc (by omega) hbig hh hcs hv hvl h1c h1v).mono ?_
        rintro e w' ⟨cap', cur', rfl, q0, q00, q1, q2, q3, q4⟩
        have et : (cur.toList.take (n)).take (i) = cur.toList.take (i) := by rw [List.take_take]; congr 1; omega
        refine ⟨_, rfl, ⟨?_, Or.inr ⟨w.heap.size, cap', cur', rfl, hbase, q3, q0, by unfold maxLen; omega, by rw [q1, Nat.mul_one], by rw [Nat.mul_one, q2, et]⟩⟩, ⟨q4.os, q4.tape, q4.output, q4.size, fun k hk _ => q4.block k hk⟩, Or.inr fun g' hg' => by simp only [Value.ownBlock, Option.some.injEq] at hg'; omega⟩
        simp only [List.length_append, List.length_take, List.length_drop, hvl] at hlx ⊢
        omega
end Go.Proofs.YtcdnakcojanaeabGreat
