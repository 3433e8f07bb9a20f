/-
  New, Padded.
-/
import Derived.Test.YtokebdeaahdcjabDkRead
namespace Go.Proofs.Ytokebdeaahdcjab
open Go.ChangeShapes Go.WideShapes Go.ChangeAt Go.RowKit Go.Deep
open Dk (Wr St)

theorem new_win (W : World) : Win (W.alloc (.cells (madeCells #[.int .u8 0] 48) 5)) (some (W.heap.size, 0)) (.slice (some ⟨W.heap.size, 0, none⟩) 48 48) (List.replicate 48 0) := by
  refine ⟨48, _, rfl, by omega, by omega, by simp, heap_alloc_new _ _, by rw [size_madeCells]; omega, ?_⟩
  intro j u hj
  rw [List.getElem?_replicate] at hj
  split at hj
  · cases hj
    rw [← Array.getElem?_toList, toList_madeCells_one, List.getElem?_replicate, if_pos (by omega)]
    rfl
  · cases hj

set_option maxRecDepth 100000 in
set_option maxHeartbeats 3200000 in
theorem new_any (n : Nat) (hn1 : 1 ≤ n) (hn2 : n ≤ 4096) (w : World) :
    Calls Try.prog 44 #[.int .i64 (n : Nat)] w fun e w' => ∃ r, e = .returned (.tuple #[r, .int .i64 0]) ∧ StRes w' r ⟨List.replicate n (List.replicate 48 0), []⟩ ∧ Below w.heap.size w w' := by
  have hb1 : decide ((n : Int) < 1) = false := decide_eq_false (by omega)
  have hb2 : decide (4096 < (n : Int)) = false := decide_eq_false (by omega)
  have hmk : ∀ w, Sem.run Try.prog (Instr.makeSlice 22 (.int .i64 (n : Nat)) (.int .i64 (n : Nat))) w = .ok (.slice (some ⟨w.heap.size, 0, none⟩) n n) (w.alloc (.cells (madeCells #[.slice none 0 0] n) 26)) :=
    fun w => run_make_row' 22 26 (.slice none 0 0) 24 Try.underlying22 Try.infoBs rfl .i64 .i64 n (by omega) (by omega) w
  have hmk2 : ∀ w, Sem.run Try.prog (Instr.makeSlice 26 (.int .i64 48) (.int .i64 48)) w = .ok (.slice (some ⟨w.heap.size, 0, none⟩) 48 48) (w.alloc (.cells (madeCells #[.int .u8 0] 48) 5)) :=
    fun w => run_make_row' (P := Try.prog) 26 5 (.int .u8 0) 1 Try.underlying26 Try.infoU8 rfl .i64 .i64 48 (by omega) (by omega) w
  have HT : Hid (Rws w.heap.size ((w.alloc (.cells #[.slice none 0 0, .slice none 0 0] 30)).alloc (.cells (madeCells #[.slice none 0 0] n) 26)) (w.heap.size + 1) n [] (List.replicate n (List.replicate 48 0))) :=
    ⟨⟨_, heap_new2 _ _ _, size_madeCells _ _, fun i g l h => by simp at h⟩, List.nodup_nil, fun g h => by cases h⟩
  have Y0 : Hid (((w.alloc (.cells #[.slice none 0 0, .slice none 0 0] 30)).alloc (.cells (madeCells #[.slice none 0 0] n) 26)).heap[w.heap.size]? = some (.cells #[.slice none 0 0, .slice none 0 0] 30 (0, 0))) := (Below.heap_alloc _ _ _ (by simp)).trans (heap_alloc_new _ _)
  have B0 : Hid (Below w.heap.size w ((w.alloc (.cells #[.slice none 0 0, .slice none 0 0] 30)).alloc (.cells (madeCells #[.slice none 0 0] n) 26))) := nxt (below_one _ _) (below_one _ _)
  have HL : Hid ((List.replicate n (List.replicate 48 (0 : UInt8))).length = n) := by show _ = _; simp
  have HG : Hid (∀ i, i < n → (List.replicate n (List.replicate 48 (0 : UInt8)))[i]? = some (List.replicate 48 0)) := fun i hi => by rw [List.getElem?_replicate, if_pos hi]
  generalize List.replicate n (List.replicate 48 (0 : UInt8)) = ss at *
  go_enter Try.func44, Try.ntmps44
  go_wp2_with fail
  generalize (w.alloc (.cells #[.slice none 0 0, .slice none 0 0] 30)).alloc (.cells (madeCells #[.slice none 0 0] n) 26) = W at *
  go_loopw [17] (fun i wr => ∃ (m : Nat) (gs : List Nat), m ≤ n ∧ i = .int .i64 m ∧ Hid (gs.length = m) ∧ Hid (Rws w.heap.size wr (w.heap.size + 1) n gs ss) ∧ Hid (Below w.heap.size w wr) ∧ Hid (wr.heap[w.heap.size]? = some (.cells #[.slice none 0 0, .slice none 0 0] 30 (0, 0)))) (fun i _ => n - (intOf i).toNat)
  case atStart => exact ⟨0, [], by omega, rfl, rfl, HT.out, B0.out, Y0.out⟩
  case round =>
    obtain ⟨m, gs, hm, rfl, HGS, HT, HB, HY⟩ := hrel
    by_cases hlt : m < n
    · have hlt1 : (m : Int) < (n : Int) := by omega
      obtain ⟨tab, t1, t2, -⟩ := HT.out.tab
      have hT1 := (Below.heap_alloc wr (.cells (madeCells #[.int .u8 0] 48) 5) _ (lt_of_block t1)).trans t1
      obtain ⟨y1, f1⟩ := cell_of hT1 m
      rw [Array.getElem?_eq_getElem (by omega)] at y1
      have HT1 : Hid (_ = _) := hT1
      generalize tab[m] = tm at *
      clear t1 t2 hT1
      go_wp2_with fail
      have hlen := HGS.out
      have hst := HT.out.step (by omega) (by rw [hlen]; exact HG.out m hlt) (below_one wr (.cells (madeCells #[.int .u8 0] 48) 5)) (Nat.le_refl _) (by simp) HB.out.size (new_win wr)
      rw [hlen] at hst
      refine ⟨⟨m + 1, gs ++ [wr.heap.size], by omega, by go_num, by show _ = _; simp [hlen], hst, ?_, ?_⟩, by simp [intOf]; omega⟩
      · exact (nxt HB.out (below_one _ _)).setCell (by show w.heap.size ≤ w.heap.size + 1; omega) _
      · show _ = _
        rw [Below.heap_setCell _ _ _ _ (by show w.heap.size ≠ w.heap.size + 1; omega)]
        exact (Below.heap_alloc _ _ _ (lt_of_block HY.out)).trans HY.out
    · have hme : m = n := by omega
      subst hme
      have g0 := (cell_of HY.out 0).1
      have g1 := (cell_of HY.out 1).1
      have f0 := (cell_of HY.out 0).2
      have f1 := (cell_of HY.out 1).2
      simp at g0 g1
      go_wp2_with fail
      have hset1 := set_one_cell (o := 0) HY.out (.slice (some ⟨w.heap.size + 1, 0, none⟩) m m)
      have hset2 := set_one_cell (o := 1) hset1 (.slice none 0 0)
      have r0 := (cell_of hset2 0).1
      have r1 := (cell_of hset2 1).1
      simp at r0 r1
      refine bodyPost_ret (v := .tuple #[.agg #[.slice (some ⟨w.heap.size + 1, 0, none⟩) m m, .slice none 0 0], .int .i64 0]) (by simp [results, Try.results44, go_sem, r0, r1]) rfl ?_
      obtain ⟨wins, h1, -, -, -⟩ := HT.out.wn (HGS.out.trans HL.out.symm) HL.out
      have H3 : StOwn wr (.agg #[.slice (some ⟨w.heap.size + 1, 0, none⟩) m m, .slice none 0 0]) ⟨ss, []⟩ := ⟨w.heap.size + 1, wins, m, _, by simp only [HL.out], h1, OwnW.nil _ _⟩
      refine ⟨_, rfl, Or.inl ⟨(H3.set HY.out (by decide) (by decide) (by decide) _).set hset1 (by decide) (by decide) (by decide) _, by simp only; rw [HL.out]; exact hn2, by simp⟩, ?_⟩
      exact (HB.out.setCell (by show w.heap.size ≤ w.heap.size; omega) _).setCell (by show w.heap.size ≤ w.heap.size; omega) _

set_option maxRecDepth 100000 in
set_option maxHeartbeats 3200000 in
theorem pad_any (a : Option Addr) (c : Nat) (l : List UInt8) (w : World) (ho : Oct w a c l) (hl : l.length ≤ 140737488351232) :
    Calls Try.prog 22 #[.slice a l.length c] w fun e w' => ∃ a2 c2, e = .returned (.slice a2 (Dk.padR l).length c2) ∧ Oct w' a2 c2 (Dk.padR l) ∧ Below w.heap.size w w' := by
  have HO : Hid (Oct w a c l) := ho
  clear ho
  have hnd : l.length ≤ 48 * Dk.need l ∧ 48 * Dk.need l ≤ 140737488351300 := by unfold Dk.need; omega
  have HPL : Hid ((Dk.padR l).length = 48 * Dk.need l) := by
    show _ = _
    unfold Dk.padR
    rw [List.length_append, List.length_replicate]
    omega
  have HPC : Hid (splice (List.replicate (48 * Dk.need l) (Value.int .u8 0)) 0 (cellsO l) = cellsO (Dk.padR l)) := by
    show _ = _
    unfold splice Dk.padR
    rw [cellsO_append, List.take_zero, List.nil_append, Nat.zero_add, cellsO_length, List.drop_replicate]
    congr 1
    simp [cellsO]
  have hmk : ∀ w, Sem.run Try.prog (Instr.makeSlice 26 (.int .i64 ((Dk.need l : Int) * 48)) (.int .i64 ((Dk.need l : Int) * 48))) w = .ok (.slice (some ⟨w.heap.size, 0, none⟩) (48 * Dk.need l) (48 * Dk.need l)) (w.alloc (.cells (madeCells #[.int .u8 0] (48 * Dk.need l)) 5)) := by
    intro w
    have := run_make_row' (P := Try.prog) 26 5 (.int .u8 0) 1 Try.underlying26 Try.infoU8 rfl .i64 .i64 (48 * Dk.need l) (by omega) (by omega) w
    rw [show ((48 * Dk.need l : Nat) : Int) = (Dk.need l : Int) * 48 by omega] at this
    exact this
  have HND : Hid (∀ W, Calls Try.prog 43 #[.slice a l.length c] W fun e w' => e = .returned (.int .i64 (Dk.need l : Nat)) ∧ w' = W) := fun W => need_any a c l W hl
  have HC0 : Hid ((w.alloc (.cells (madeCells #[.int .u8 0] (48 * Dk.need l)) 5)).heap[w.heap.size]? = some (.cells (List.replicate (48 * Dk.need l) (Value.int .u8 0)).toArray 5 (0, 0))) := by
    have h := heap_alloc_new w (.cells (madeCells #[.int .u8 0] (48 * Dk.need l)) 5)
    rw [← toList_madeCells_one, Array.toArray_toList]
    exact h
  have HSRC : Hid (0 < (cellsO l).length → ∃ ad, a = some ad ∧ ∀ j v, (cellsO l)[j]? = some v → (w.alloc (.cells (madeCells #[.int .u8 0] (48 * Dk.need l)) 5)).cell? (ad.add j) = some v) := by
    intro hpos
    rw [cellsO_length] at hpos
    have ho2 := HO.out.below (below_one w (.cells (madeCells #[.int .u8 0] (48 * Dk.need l)) 5))
    obtain ⟨b', off', e, -⟩ := ho2.1 0 _ (List.getElem?_eq_getElem hpos)
    refine ⟨_, e, ?_⟩
    intro j u hj
    simp only [cellsO, List.getElem?_map, Option.map_eq_some_iff] at hj
    obtain ⟨o', ho', rfl⟩ := hj
    obtain ⟨b2, off2, e2, hc'⟩ := ho2.1 _ _ ho'
    rw [e] at e2
    cases e2
    rw [add_plain]
    exact hc'
  generalize Dk.need l = nd at *
  generalize hP : Dk.padR l = P at *
  clear hP
  have hmin : (cellsO l).length = Nat.min l.length (48 * nd) := by
    rw [cellsO_length]
    exact (Nat.min_eq_left hnd.1).symm
  have hfit : 0 + (cellsO l).length ≤ (List.replicate (48 * nd) (Value.int .u8 0)).length := by rw [cellsO_length, List.length_replicate]; omega
  have HF : Hid (0 + (cellsO l).length ≤ (List.replicate (48 * nd) (Value.int .u8 0)).length) := hfit
  have HM : Hid ((cellsO l).length = Nat.min l.length (48 * nd)) := hmin
  have hs1 : (Try.prog.info? 5).map (·.size) = some 1 := Try.sizeU8
  clear hmin hfit
  go_enter Try.func22, Try.ntmps22
  go_wp2_with (first
    | (go_at_call 43; refine (HND.out _).mono ?_; rintro e w1 ⟨rfl, h9⟩; subst w1)
    | refine wpList_copy_splice rfl (.tmp 8) (.tmp 9) 26 26 rfl 5 Try.underlying26 hs1 (some ⟨w.heap.size, 0, none⟩) a (48 * nd) (48 * nd) l.length c rfl rfl w.heap.size 0 (List.replicate (48 * nd) (Value.int .u8 0)) 5 HC0.out (cellsO l) HM.out (fun h => ⟨rfl, HSRC.out h⟩) HF.out (one_cells l) w.heap.size w (below_one _ _) (Nat.le_refl _) ?_)
  intro w2 H2 hb2
  have HB2 : Hid (Below w.heap.size w w2) := hb2
  clear hb2
  go_wp2_with fail
  go_ret
  have h2 := H2.out
  rw [HPC.out] at h2
  refine ⟨some ⟨w.heap.size, 0, none⟩, 48 * nd, by rw [HPL.out]; rfl, ⟨?_, by rw [HPL.out]; omega, by omega, by rw [HPL.out]; omega, (fun e => by cases e), fun ad e _ => by cases e; rfl⟩, HB2.out⟩
  intro j u hj
  refine ⟨w.heap.size, 0, rfl, ?_⟩
  rw [(cell_of h2 _).1, Nat.zero_add]
  simp [cellsO, hj]
end Go.Proofs.Ytokebdeaahdcjab
