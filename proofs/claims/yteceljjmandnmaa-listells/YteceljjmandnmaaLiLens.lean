/-
  How many numbers rise from each place on: 'lengths'.
-/
import Derived.Test.YteceljjmandnmaaLiLen0
namespace Go.Proofs.Yteceljjmandnmaa
open Go.ChangeShapes Go.WideShapes Go.ChangeAt Go.RowKit Go.Deep
open Li

attribute [local go_sem] Oper.semAt_some

/-- The loop's slots in a round. -/
def lenAct (w : World) (la : Option Addr) (n c p : Nat) (x : Int) (N : Nat) : Act :=
  { tmps := #[.slice la n c, undef, .slice none 0 0, .int .i64 0, .pointer (some ⟨w.heap.size + 1, 0, none⟩), .pointer (some ⟨w.heap.size + 2, 0, none⟩), .int .i64 (p : Int), .pointer (some ⟨N, 0, none⟩), undef, undef, .slice la n c, .int .i64 (n : Int), .slice (some ⟨w.heap.size, 0, none⟩) n n, .slice la n c, .func (.func 25) #[] #[.pointer (some ⟨w.heap.size + 3, 0, none⟩)], .int .i64 (p : Int), .int .i64 x, undef, undef, undef, undef, undef, undef, undef, undef, undef, undef, undef, undef, undef, undef, undef, undef, undef, undef, undef, undef, undef, undef, undef, undef, undef], defers := [] }

set_option maxRecDepth 100000 in
set_option maxHeartbeats 1600000 in
theorem lengths_any (ks : List Int) (la : Option Addr) (c : Nat) (w : World) (hl : LayI w la ks) (hn : ks.length ≤ 256) :
    Calls Try.prog 21 #[.slice la ks.length c] w fun e w' => e = .returned (.tuple #[.slice (some ⟨w.heap.size, 0, none⟩) ks.length ks.length, .int .i64 (len ks : Int)]) ∧ OwnI w' w.heap.size (.slice (some ⟨w.heap.size, 0, none⟩) ks.length ks.length) ((fr ks).map fun (f : Nat) => (f : Int)) ∧ Below w.heap.size w w' := by
  have HL : Hid (LayI w la ks) := hl
  clear hl
  refine (callsIn_wide (n := 9)).1 (callsIn_of_wp_marks Try.func21 rfl trivial ?_ rfl)
  simp only [Try.ntmps21, List.size_toArray, List.length_cons, List.length_nil, Nat.reduceAdd, Nat.reduceSub, Array.replicate_succ, Array.replicate_zero, List.push_toArray, List.append_toArray, List.nil_append, List.cons_append]
  obtain ⟨i0, hi, hz0, hz1, hz2⟩ := info_parts Try.infoInt
  have hrun := run_make_row (P := Try.prog) 22 3 i0 (.int .i64 0) Try.underlying22 hi hz0 hz1 rfl .i64 .i64 ks.length (by rw [hz2]; omega) (by omega) w
  have e : madeCells #[Value.int .i64 0] ks.length = ((List.replicate ks.length (0 : Int)).map fun k => Value.int .i64 k).toArray := by rw [← Array.toList_inj, toList_madeCells_one]; simp
  rw [e] at hrun
  clear e hi hz0 hz1 hz2
  have hls : LS w la ks.length c ((((w.alloc (.cells (Array.replicate ks.length (Value.int .i64 0)) 3)).alloc (.cells #[.slice (some ⟨w.heap.size, 0, none⟩) ks.length ks.length] 22)).alloc (.cells #[.slice none 0 0] 22)).alloc (.cells #[.slice la ks.length c] 22)) (fsOf ks ks.length) (heads (ks.drop ks.length)) := by
    have k1 := below_one w (.cells (Array.replicate ks.length (Value.int .i64 0)) 3)
    have c1 := heap_alloc_new w (.cells (Array.replicate ks.length (Value.int .i64 0)) 3)
    have s1 : (w.alloc (.cells (Array.replicate ks.length (Value.int .i64 0)) 3)).heap.size = w.heap.size + 1 := by simp
    generalize w.alloc (.cells (Array.replicate ks.length (Value.int .i64 0)) 3) = w1 at *
    have k2 := below_one w1 (.cells #[.slice (some ⟨w.heap.size, 0, none⟩) ks.length ks.length] 22)
    have c2 := heap_alloc_new w1 (.cells #[.slice (some ⟨w.heap.size, 0, none⟩) ks.length ks.length] 22)
    have s2 : (w1.alloc (.cells #[.slice (some ⟨w.heap.size, 0, none⟩) ks.length ks.length] 22)).heap.size = w.heap.size + 2 := by simp; omega
    generalize w1.alloc (.cells #[.slice (some ⟨w.heap.size, 0, none⟩) ks.length ks.length] 22) = w2 at *
    have k3 := below_one w2 (.cells #[.slice none 0 0] 22)
    have c3 := heap_alloc_new w2 (.cells #[.slice none 0 0] 22)
    have s3 : (w2.alloc (.cells #[.slice none 0 0] 22)).heap.size = w.heap.size + 3 := by simp; omega
    generalize w2.alloc (.cells #[.slice none 0 0] 22) = w3 at *
    have k4 := below_one w3 (.cells #[.slice la ks.length c] 22)
    have c4 := heap_alloc_new w3 (.cells #[.slice la ks.length c] 22)
    generalize w3.alloc (.cells #[.slice la ks.length c] 22) = w4 at *
    rw [s1] at c2
    rw [s2] at c3
    rw [s3] at c4
    have e1 : (List.replicate ks.length (0 : Int)).map (fun k => Value.int .i64 k) = List.replicate ks.length (.int .i64 0) := by simp
    refine ⟨nxt (nxt (nxt k1 k2) k3) k4, ?_, ?_, ⟨.slice none 0 0, ?_, ?_⟩, c4⟩
    · rw [fsOf_end, e1, k4.block _ (by omega), k3.block _ (by omega), k2.block _ (by omega), c1]
      simp
    · rw [fsOf_end, List.length_replicate, k4.block _ (by omega), k3.block _ (by omega), c2]
    · rw [k4.block _ (by omega), c3]
    · rw [List.drop_length]
      exact OwnI.nil _ _
  gi_wp2
  refine ⟨trivial, (callsIn_wide.2 (fromEnd_any la ks.length c _)).mono ?_⟩
  rintro e W5 ⟨rfl, hW5⟩
  rw [← hW5] at hls
  have hsz : W5.heap.size = w.heap.size + 4 := by rw [hW5]; simp
  have hs3 : (((w.alloc (.cells (Array.replicate ks.length (Value.int .i64 0)) 3)).alloc (.cells #[.slice (some ⟨w.heap.size, 0, none⟩) ks.length ks.length] 22)).alloc (.cells #[.slice none 0 0] 22)).heap.size = w.heap.size + 3 := by simp
  rw [hs3]
  clear hs3 hW5 hrun
  have HLS : Hid (LS w la ks.length c W5 (fsOf ks ks.length) (heads (ks.drop ks.length))) := hls
  have HSZ : Hid (W5.heap.size = w.heap.size + 4) := hsz
  clear hls hsz
  gi_wp2
  refine range_from (by omega) rfl (w.heap.size + 3) c ks (by omega) la rfl (fun p W => p ≤ ks.length ∧ LS w la ks.length c W (fsOf ks p) (heads (ks.drop p))) ?stI ?hR ⟨Nat.le_refl _, HLS.out⟩ (lenAct w la ks.length c) ?hassign ?hbody ?hdone
  case stI => exact fun i W W' h st => ⟨h.1, h.2.stay st (by have := HSZ.out; omega)⟩
  case hR => exact fun W i h => ⟨by have := (cell_of h.2.pl 0).1; simpa using this, HL.out.below h.2.bel⟩
  case hassign =>
    intro l p x W K hK
    gi_wp2
    exact hK
  case hbody =>
    intro l p hp W1 W hI hsz1 hst
    obtain ⟨hp1, hI⟩ := hI
    have hS : LS w la ks.length c W (fsOf ks (p + 1)) (heads (ks.drop (p + 1))) := (hI.below (below_one W1 _)).stay hst (by have := HSZ.out; omega)
    have hN : W.heap[W1.heap.size]? = some (.cells #[.int .i64 ks[p]] 3 (0, 0)) := hst.kp.2 _ _ _ _ (heap_alloc_new _ _)
    have hfl := heads_falls (ks.drop (p + 1))
    have h64 := heads_i64 (i64_drop HL.out.i64 (p + 1))
    have hhl : (heads (ks.drop (p + 1))).length ≤ 256 := by have := heads_le (ks.drop (p + 1)); simp at this; omega
    have HE : Hid (heads (ks.drop p) = Li.step (heads (ks.drop (p + 1))) ks[p]) := by show _ = _; rw [List.drop_eq_getElem_cons hp]; rfl
    have HF : Hid ((fsOf ks (p + 1)).set p ((srch (heads (ks.drop (p + 1))) ks[p] : Int) + 1) = fsOf ks p) := fsOf_step hp
    have hfl1 : (fsOf ks (p + 1)).length = ks.length := fsOf_length (by omega)
    have hsle := srch_le (heads (ks.drop (p + 1))) ks[p]
    have HST : Hid ((srch (heads (ks.drop (p + 1))) ks[p] = (heads (ks.drop (p + 1))).length → Li.step (heads (ks.drop (p + 1))) ks[p] = heads (ks.drop (p + 1)) ++ [ks[p]]) ∧ (¬ srch (heads (ks.drop (p + 1))) ks[p] = (heads (ks.drop (p + 1))).length → Li.step (heads (ks.drop (p + 1))) ks[p] = (heads (ks.drop (p + 1))).set (srch (heads (ks.drop (p + 1))) ks[p]) ks[p])) := ⟨fun h => if_pos h, fun h => if_neg h⟩
    obtain ⟨v, hv, ho⟩ := hS.ph
    obtain ⟨ha, hc, rfl⟩ := ho.shape
    have HSE := search_any (heads (ks.drop (p + 1))) ks[p] ha hc (w.heap.size + 2) W1.heap.size W (ho.lay h64) hfl (by omega) (by have := (cell_of hv 0).1; simpa using this) (by have := (cell_of hN 0).1; simpa using this)
    have CS : Hid (Calls Try.prog 24 _ W _) := HSE
    clear HSE hst hI hsz1 hfl
    generalize heads (ks.drop p) = hs' at *
    generalize heads (ks.drop (p + 1)) = hs at *
    generalize hx : ks[p] = x at *
    generalize fsOf ks (p + 1) = fs at *
    generalize fsOf ks p = fs' at *
    generalize W1.heap.size = N at *
    have HS : Hid (LS w la ks.length c W fs hs) := hS
    have HN : Hid (W.heap[N]? = some (.cells #[.int .i64 x] 3 (0, 0))) := hN
    have HV : Hid (W.heap[w.heap.size + 2]? = some (.cells #[.slice ha hs.length hc] 22 (0, 0))) := hv
    have HO : Hid (OwnI W (w.heap.size + 1) (.slice ha hs.length hc) hs) := ho
    have y2 : W.cell? ⟨w.heap.size + 2, 0, none⟩ = some (.slice ha hs.length hc) := by have := (cell_of hv 0).1; simpa using this
    clear hS hN hv ho
    simp only [lenAct]
    gi_wp2
    refine ⟨trivial, CallsIn.inRound l ((callsIn_wide.2 CS.out).mono ?_)⟩
    rintro e W2 ⟨rfl, hb2⟩
    have HS2 : Hid (LS w la ks.length c W2 fs hs) := HS.out.below hb2
    have HN2 := (hb2.block _ (lt_of_block HN.out)).trans HN.out
    have HV2 := (hb2.block _ (lt_of_block HV.out)).trans HV.out
    have HO2 : Hid (OwnI W2 (w.heap.size + 1) (.slice ha hs.length hc) hs) := HO.out.below hb2
    have HK2 : Hid (KpO W5.heap.size W W2) := KpO.below hb2
    have z2 : W2.cell? ⟨w.heap.size + 2, 0, none⟩ = some (.slice ha hs.length hc) ∧ W2.frozen? ⟨w.heap.size + 2, 0, none⟩ = false := by have := cell_of HV2 0; simpa using this
    have zN : W2.cell? ⟨N, 0, none⟩ = some (.int .i64 x) := by have := (cell_of HN2 0).1; simpa using this
    have z1 : W2.cell? ⟨w.heap.size + 1, 0, none⟩ = some (.slice (some ⟨w.heap.size, 0, none⟩) fs.length fs.length) := by have := (cell_of HS2.out.pf 0).1; simpa using this
    have HV3 : Hid (W2.heap[w.heap.size + 2]? = some (.cells #[.slice ha hs.length hc] 22 (0, 0))) := HV2
    obtain ⟨z2, z2f⟩ := z2
    clear hb2 HN2 HV2 y2 CS HS HN HV HO
    generalize hat : srch hs x = at_ at *
    have HZF : Hid (∀ W' x', LS w la ks.length c W' fs x' → W'.cell? ⟨w.heap.size + 1, 0, none⟩ = some (.slice (some ⟨w.heap.size, 0, none⟩) fs.length fs.length) ∧ W'.cell? ⟨w.heap.size, p, none⟩ = some (.int .i64 (fs[p]'(by omega))) ∧ W'.frozen? ⟨w.heap.size, p, none⟩ = false) := by
      intro W' x' h
      have q1 := (cell_of h.pf 0).1
      have q2 := cell_of h.fb p
      refine ⟨by simpa using q1, ?_, by simpa using q2.2⟩
      rw [q2.1]
      simp [List.getElem?_eq_getElem (show p < fs.length by omega)]
    by_cases hc1 : at_ = hs.length
    · obtain ⟨i0, hi0, hz0, hz1, hz2⟩ := info_parts Try.infoInt
      have hsz2 := HS2.out.bel.size
      have hes := HST.out.1 hc1
      rw [← HE.out] at hes
      clear HST HE
      subst hc1
      have HES : Hid (hs' = hs ++ [x]) := hes
      clear hes hat hsle
      gi_wp2_with (gi_at_builtin; refine wpListIn_append_own _ rfl _ _ 22 rfl (w.heap.size + 1) 3 i0 _ 1 8 Try.underlying22 hi0 hz0 hz1 hz2 rfl (by decide) _ hs.length (hs.map fun k => Value.int .i64 k) rfl ?d0 ⟨W2.heap.size, 0, none⟩ 1 1 [.int .i64 x] rfl rfl ?d1 ?d2 ?d3 ?d4 ?d5 ?_)
      case d0 => exact HO2.out.below (below_one W2 _)
      case d1 =>
        intro j u hj
        exact newCells W2 _ _ j u (by rw [← Array.getElem?_toList]; exact hj)
      case d2 => simp [Value.oneCell']
      case d3 => unfold maxLen; omega
      case d4 => omega
      case d5 => have := lt_of_block HV3.out; simp; omega
      intro v' W4 hrow4 hgr4 _
      obtain ⟨g4, cap4, rfl⟩ := ownsRow_succ hrow4
      have HG4 : Hid ((W2.alloc (.cells #[.int .i64 x] 3)).grownBy W4 (Value.slice ha hs.length hc).ownBlock) := hgr4
      have HO4 : Hid (OwnI W4 (w.heap.size + 1) (.slice (some ⟨g4, 0, none⟩) (hs.length + 1) cap4) (hs ++ [x])) := by
        show OwnI _ _ _ _
        unfold OwnI
        rw [List.length_append, List.map_append]
        exact hrow4
      have HS3 : Hid (LS w la ks.length c (W2.alloc (.cells #[.int .i64 x] 3)) fs hs) := HS2.out.below (below_one _ _)
      have HVX := ((below_one W2 (.cells #[.int .i64 x] 3)).block _ (lt_of_block HV3.out)).trans HV3.out
      have HOX := HO2.out.below (below_one W2 (.cells #[.int .i64 x] 3))
      have HP4 : Hid (LS w la ks.length c (W4.setCell ⟨w.heap.size + 2, 0, none⟩ (.slice (some ⟨g4, 0, none⟩) (hs.length + 1) cap4)) fs (hs ++ [x])) := HS3.out.push HVX HG4.out HO4.out
      have HV4 : W4.heap[w.heap.size + 2]? = some (.cells #[.slice ha hs.length hc] 22 (0, 0)) := by
        refine (HG4.out.block _ (lt_of_block HVX) ?_).trans HVX
        intro e
        obtain ⟨cur, hb, -⟩ := HOX.block e.symm
        rw [hb] at HVX
        simp at HVX
      have HK4 : Hid (KpO W5.heap.size W (W4.setCell ⟨w.heap.size + 2, 0, none⟩ (.slice (some ⟨g4, 0, none⟩) (hs.length + 1) cap4))) := ((HK2.out.trans (KpO.below (below_one _ _))).trans (KpO.grown HOX HG4.out)).trans (KpO.set HV4)
      obtain ⟨u2, u2f⟩ := cell_of HV4 0
      simp at u2
      obtain ⟨f1, f2, f3⟩ := HZF.out _ _ HP4.out
      clear hrow4 hgr4 HVX HOX HV4 HZF z1 zN z2 z2f HV3
      gi_wp2
      refine ⟨HK4.out.trans (KpO.set HP4.out.fb), by omega, ?_⟩
      rw [HES.out, ← HF.out]
      exact HP4.out.setF p _
    · have hlt : at_ < hs.length := by omega
      have hes := HST.out.2 hc1
      rw [← HE.out] at hes
      have HES : Hid (hs' = hs.set at_ x) := hes
      obtain ⟨g, hg, -⟩ := HO2.out.at at_ hlt
      subst hg
      obtain ⟨r1, r2⟩ := HO2.out.cell hlt
      have HP4 : Hid (LS w la ks.length c (W2.setCell ⟨g, at_, none⟩ (.int .i64 x)) fs (hs.set at_ x)) := HS2.out.setH HV3.out at_ x
      obtain ⟨cur, hcur, -⟩ := HO2.out.block (g := g) rfl
      have HK4 : Hid (KpO W5.heap.size W (W2.setCell ⟨g, at_, none⟩ (.int .i64 x))) := HK2.out.trans (KpO.set hcur)
      obtain ⟨f1, f2, f3⟩ := HZF.out _ _ HP4.out
      have hq : ((at_ : Int) == (hs.length : Int)) = false := by simp; omega
      clear hes HST HE HZF hat hsle hcur z1
      gi_wp2
      refine ⟨HK4.out.trans (KpO.set HP4.out.fb), by omega, ?_⟩
      rw [HES.out, ← HF.out]
      exact HP4.out.setF p _
  case hdone =>
    intro W hI hd hsz
    have HS : Hid (LS w la ks.length c W (fsOf ks 0) (heads (ks.drop 0))) := hI.2
    have HD : Hid (W.heap[W5.heap.size]? = some (.deferred (some []))) := hd
    have hfl1 : (fsOf ks 0).length = ks.length := fsOf_length (by omega)
    obtain ⟨v, hv, ho⟩ := hI.2.ph
    obtain ⟨ha, hc, rfl⟩ := ho.shape
    have z2 : W.cell? ⟨w.heap.size + 2, 0, none⟩ = some (.slice ha (heads (ks.drop 0)).length hc) := by have := (cell_of hv 0).1; simpa using this
    have z1 : W.cell? ⟨w.heap.size + 1, 0, none⟩ = some (.slice (some ⟨w.heap.size, 0, none⟩) (fsOf ks 0).length (fsOf ks 0).length) := by have := (cell_of hI.2.pf 0).1; simpa using this
    rw [hfl1] at z1
    clear hI hd hsz hv ho hfl1
    have HF : Hid ((fr ks).map (fun (f : Nat) => (f : Int)) = fsOf ks 0 ∧ (heads (ks.drop 0)).length = len ks) := ⟨by simp [fsOf], by simp [len]⟩
    have hll : (heads (ks.drop 0)).length ≤ 256 := by have := heads_le ks; simp; omega
    generalize hgl : heads (ks.drop 0) = hs at *
    clear hgl
    dsimp only
    gi_wp2
    refine wpIn_wide.2 ?_
    go_quiet (fail)
    go_wp2_with fail
    gi_wp2
    have HDN : Hid ((W.drewN nq).heap[W5.heap.size]? = some (.deferred (some []))) := HD.out
    refine ⟨by simp, .inl ⟨_, _, rfl, run_takeDeferred HDN.out, ?_⟩⟩
    refine ⟨.tuple #[.slice (some ⟨w.heap.size, 0, none⟩) ks.length ks.length, .int .i64 (hs.length : Int)], by simp [results, Try.results21, go_sem], by rw [HF.out.2], ?_, ?_⟩
    · rw [HF.out.1]
      have hfb := HS.out.fb
      have h5 := HSZ.out
      have hfl1 : (fsOf ks 0).length = ks.length := fsOf_length (by omega)
      refine ⟨by simp, Or.inr ⟨w.heap.size, ks.length, _, by rw [hfl1], Nat.le_refl _, (World.putObj_heap_other (by omega)).trans hfb, by omega, by unfold maxLen; omega, by simp [hfl1], ?_⟩⟩
      rw [List.take_of_length_le (by simp)]
    · have h5 := HSZ.out
      exact HS.out.bel.trans ⟨rfl, rfl, rfl, by simp [World.putObj, World.drewN], fun j hj => World.putObj_heap_other (by omega)⟩
end Go.Proofs.Yteceljjmandnmaa
