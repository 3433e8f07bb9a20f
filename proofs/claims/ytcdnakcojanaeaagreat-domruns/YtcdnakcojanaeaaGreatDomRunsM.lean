/-
  DomRuns holds for every display and all patches: how far they are done, and what they make, is as the page says; what is handed in stays. No condition. (Printed by wip/make/mkdomruns.py.)
-/
import Derived.Test.YtcdnakcojanaeaaGreatDtArgsJ
import Derived.Test.YtcdnakcojanaeaaGreatDbAlikeM
import Derived.Test.YtcdnakcojanaeaaGreatDoArgJ
namespace Go.Proofs.YtcdnakcojanaeaaGreat.domRuns
open Go.ChangeShapes Go.WideShapes Go.ChangeAt Go.RowKit Go.Deep
open Do

set_option maxRecDepth 100000 in
set_option maxHeartbeats 12800000 in
theorem walk (s : Ds) (x : Value) (ps : List Pt) (y : Value) (w : World) (hx : DsArg w x s) (hy : PsArg w y ps) :
    Calls Tryz.prog 4 #[x, y] w fun e w' => e = .returned (.bool true) ∧ Below w.heap.size w w' := by
  obtain ⟨a, c, rfl, hs⟩ := hx
  obtain ⟨pa, pc, rfl, -, -, hpl, hps⟩ := hy
  have HS : Hid (∀ W, Below w.heap.size w W → DsIs W s a c) := fun W hb => hs.below hb
  have HPS : Hid (∀ W, Below w.heap.size w W → LayP W pa ps) := fun W hb => hps.below hb
  obtain ⟨R, hR⟩ : ∃ R, R = runD s ps := ⟨_, rfl⟩
  obtain ⟨D, k, er⟩ := R
  have PRN : Hid (∀ W a c pa pc, DsIs W s a c → LayP W pa ps → Calls Tryz.prog 16 #[.agg #[.slice a s.nodes.length c, .int .i64 s.root, .int .i64 s.next], .slice pa ps.length pc] W fun e w' => ∃ a3 c3, e = .returned (.tuple #[.agg #[.slice a3 D.nodes.length c3, .int .i64 D.root, .int .i64 D.next], .int .i64 (k : Int), .int .i64 er]) ∧ DsO w' D a3 c3 ∧ Below W.heap.size W w') := fun W a c pa pc h hp => (run_any s ps a c pa pc W h hp (by omega)).mono fun e w' h1 => by
    have := run_v h1
    rw [← hR] at this
    exact this
  have RRN : Hid (∀ W a c pa pc, DsIs W s a c → LayP W pa ps → Calls Tryz.prog 18 #[.agg #[.slice a s.nodes.length c, .int .i64 s.root, .int .i64 s.next], .slice pa ps.length pc] W fun e w' => ∃ a3 c3, e = .returned (.tuple #[.agg #[.slice a3 D.nodes.length c3, .int .i64 D.root, .int .i64 D.next], .int .i64 (k : Int), .int .i64 er]) ∧ DsIs w' D a3 c3 ∧ Below W.heap.size W w') := fun W a c pa pc h hp => (rrun_any s ps a c pa pc W h hp (by omega)).mono fun e w' h1 => by
    have := rrun_v h1
    rw [← hR] at this
    exact this
  have PPT : Hid (∀ W, Below w.heap.size w W → Calls Tryz.prog 17 #[.slice pa ps.length pc] W fun e w' => ∃ a' c', e = .returned (.slice a' ps.length c') ∧ LayP w' a' ps ∧ Below W.heap.size W w') := fun W hb => patches_any ps pa pc W (hps.below hb) hpl
  clear hs hps hR hpl
  have B1 : Hid (Below w.heap.size w (w.alloc (.cells #[.slice a s.nodes.length c, .int .i64 s.root, .int .i64 s.next] 24))) := below_one _ _
  have X1 : Hid ((w.alloc (.cells #[.slice a s.nodes.length c, .int .i64 s.root, .int .i64 s.next] 24)).heap[w.heap.size]? = some (.cells #[.slice a s.nodes.length c, .int .i64 s.root, .int .i64 s.next] 24 (0, 0))) := heap_alloc_new _ _
  go_enter Tryz.func4, Tryz.ntmps4
  go_upto_region 1 with fail
  generalize w.alloc (.cells #[.slice a s.nodes.length c, .int .i64 s.root, .int .i64 s.next] 24) = W1 at *
  obtain ⟨x0, x1, x2⟩ := three X1.out
  go_wp2_with fail
  refine (of_any s a c W1 (HS.out W1 B1.out)).mono ?_
  rintro e w2 ⟨xo, rfl, hxo, hb2⟩
  obtain ⟨a1, c1, rfl, ho⟩ := hxo.isL (HS.out _ B1.out).len (HS.out _ B1.out).root (HS.out _ B1.out).next
  have B2 : Hid (Below w.heap.size w (w2.alloc (.cells #[.slice a1 s.nodes.length c1, .int .i64 s.root, .int .i64 s.next] 29))) := nxt B1.out (nxt hb2 (below_one _ _))
  have X2 : Hid ((w2.alloc (.cells #[.slice a1 s.nodes.length c1, .int .i64 s.root, .int .i64 s.next] 29)).heap[w.heap.size]? = some (.cells #[.slice a s.nodes.length c, .int .i64 s.root, .int .i64 s.next] 24 (0, 0))) := ((nxt hb2 (below_one _ _)).block _ (lt_of_block X1.out)).trans X1.out
  have Y2 : Hid ((w2.alloc (.cells #[.slice a1 s.nodes.length c1, .int .i64 s.root, .int .i64 s.next] 29)).heap[w2.heap.size]? = some (.cells #[.slice a1 s.nodes.length c1, .int .i64 s.root, .int .i64 s.next] 29 (0, 0)) ∧ DsIs (w2.alloc (.cells #[.slice a1 s.nodes.length c1, .int .i64 s.root, .int .i64 s.next] 29)) s a1 c1) := ⟨heap_alloc_new _ _, ho.below (below_one _ _)⟩
  clear hb2 ho hxo X1 B1 x0 x1 x2
  go_upto_region 2 with fail
  generalize (w2.alloc (.cells #[.slice a1 s.nodes.length c1, .int .i64 s.root, .int .i64 s.next] 29)) = W2 at *
  generalize w2.heap.size = g5 at *
  obtain ⟨y0, y1, y2⟩ := three Y2.out.1
  go_cut [6, 7, 8] (fun v6 v7 v8 wc => v7 = .int .i64 (k : Int) ∧ v8 = .int .i64 er ∧ ∃ g6 a3 c3, v6 = .pointer (some ⟨g6, 0, none⟩) ∧ Hid (wc.heap[g6]? = some (.cells #[.slice a3 D.nodes.length c3, .int .i64 D.root, .int .i64 D.next] 29 (0, 0))) ∧ Hid (DsO wc D a3 c3) ∧ Hid (Below W2.heap.size W2 wc))
  case first =>
    have HS0 : (fun w' : World => Below W2.heap.size W2 w') W2.drew := (Below.refl _ W2).drew
    refine Rg.Till.region (fun w' : World => Below W2.heap.size W2 w') 11 (by kernel_rfl) ?_
    show Rg.Till _ _ _ _ _ 12 (Array.replicate 12 false) _ _
    refine Rg.Till.take (i := 0) (v := .agg #[.slice a1 s.nodes.length c1, .int .i64 s.root, .int .i64 s.next]) (some 15) rfl rfl (by kernel_rfl) (by kernel_rfl) (fun _ _ _ h => h) (by kernel_rfl) (by kernel_rfl) (Or.inl ⟨rfl, fun w' hS => ?_⟩) HS0 ?_
    · have ky0 := keepc hS _ _ y0; have ky1 := keepc hS _ _ y1; have ky2 := keepc hS _ _ y2; go_simp
    simp only [Act.put, List.setIfInBounds_toArray, List.set_cons_zero, List.set_cons_succ]
    refine Rg.Till.take (i := 1) (v := .slice pa ps.length pc) (some 16) rfl rfl (by kernel_rfl) (by kernel_rfl) (fun _ _ _ h => h) (by kernel_rfl) (by kernel_rfl) (Or.inl ⟨rfl, fun w' hS => ?_⟩) HS0 ?_
    · go_simp
    simp only [Act.put, List.setIfInBounds_toArray, List.set_cons_zero, List.set_cons_succ]
    refine Rg.Till.twoK (i := 2) (j := 8) (by kernel_rfl) rfl rfl rfl rfl ?_ ?_
    · skip
      intro K hK
      refine op_call1 (d := some 17) rfl 17 (by intros; go_simp) _ _ rfl _ rfl ((PPT.out _ (nxt B2.out HS0)).mono ?_)
      rintro e w3 ⟨a', c', rfl, hP3, hb3⟩
      have HP1 : Below W2.heap.size W2 w3 := nxt HS0 hb3
      refine ⟨_, rfl, hK.out _ _ (fun _ => HP1) ?_⟩
      clear hK K
      simp only [Act.put, List.setIfInBounds_toArray, List.set_cons_zero, List.set_cons_succ]
      refine Rg.Till.twoK (i := 3) (j := 8) (by kernel_rfl) rfl rfl rfl rfl ?_ ?_
      · skip
        intro K hK
        refine op_call2 (d := some 18) rfl 16 (by intros; go_simp) _ _ _ rfl _ _ rfl rfl ((PRN.out w3 a1 c1 a' c' (Y2.out.2.below HP1) (hP3)).mono ?_)
        rintro e w5 ⟨a3, c3, rfl, hd5, hb5⟩
        have HC1 : Below W2.heap.size W2 w5 := nxt HP1 hb5
        refine ⟨_, rfl, hK.out _ _ (fun _ => HC1) ?_⟩
        clear hK K
        simp only [Act.put, List.setIfInBounds_toArray, List.set_cons_zero, List.set_cons_succ]
        refine Rg.Till.take (i := 4) (v := .tuple #[.agg #[.slice a3 D.nodes.length c3, .int .i64 D.root, .int .i64 D.next], .int .i64 (k : Int), .int .i64 er]) (some 14) rfl rfl (by kernel_rfl) (by kernel_rfl) (fun _ _ _ h => h) (by kernel_rfl) (by kernel_rfl) (Or.inl ⟨rfl, fun w' hS => ?_⟩) HC1 ?_
        · go_simp
        simp only [Act.put, List.setIfInBounds_toArray, List.set_cons_zero, List.set_cons_succ]
        refine Rg.Till.take (i := 5) (v := .agg #[.slice a3 D.nodes.length c3, .int .i64 D.root, .int .i64 D.next]) (some 19) rfl rfl (by kernel_rfl) (by kernel_rfl) (fun _ _ _ h => h) (by kernel_rfl) (by kernel_rfl) (Or.inl ⟨rfl, fun w' hS => ?_⟩) HC1 ?_
        · go_simp
        simp only [Act.put, List.setIfInBounds_toArray, List.set_cons_zero, List.set_cons_succ]
        refine Rg.Till.take (i := 6) (v := .int .i64 (k : Int)) (some 20) rfl rfl (by kernel_rfl) (by kernel_rfl) (fun _ _ _ h => h) (by kernel_rfl) (by kernel_rfl) (Or.inl ⟨rfl, fun w' hS => ?_⟩) HC1 ?_
        · go_simp
        simp only [Act.put, List.setIfInBounds_toArray, List.set_cons_zero, List.set_cons_succ]
        refine Rg.Till.take (i := 7) (v := .int .i64 er) (some 21) rfl rfl (by kernel_rfl) (by kernel_rfl) (fun _ _ _ h => h) (by kernel_rfl) (by kernel_rfl) (Or.inl ⟨rfl, fun w' hS => ?_⟩) HC1 ?_
        · go_simp
        simp only [Act.put, List.setIfInBounds_toArray, List.set_cons_zero, List.set_cons_succ]
        refine Rg.Till.oneK (i := 8) (by kernel_rfl) rfl rfl ?_
        intro K hK
        go_simp
        have HA1 : Below W2.heap.size W2 (w5.alloc (.cells #[.slice none 0 0, .int .i64 0, .int .i64 0] 29)) := nxt HC1 (below_one _ _)
        refine hK.out _ _ (fun _ => HA1) ?_
        clear hK K
        have FB : (w5.alloc (.cells #[.slice none 0 0, .int .i64 0, .int .i64 0] 29)).heap[w5.heap.size]? = _ := heap_alloc_new _ _
        have DW : DsO (w5.alloc (.cells #[.slice none 0 0, .int .i64 0, .int .i64 0] 29)) D a3 c3 := hd5.below (below_one _ _)
        refine Rg.Till.oneK (i := 9) (by kernel_rfl) rfl rfl ?_
        intro K hK
        refine Rg.op_storeF rfl 29 (.tmp 6) (.tmp 19) rfl (w5.heap.size) _ 29 [.slice a3 D.nodes.length c3, .int .i64 D.root, .int .i64 D.next] rfl rfl FB rfl (by kernel_rfl) (by simp [Value.oneCell']) ?_
        intro w6 f1 f2 f3
        have HB6 : Below W2.heap.size W2 w6 := f3 _ _ HC1.size HA1
        have D6 : DsO w6 D a3 c3 := DW.other FB f2
        refine hK.out _ _ (fun _ => HB6) ?_
        clear hK K
        refine Rg.Till.oneK (i := 10) (by kernel_rfl) rfl rfl ?_
        intro K hK
        go_simp
        refine hK.out _ _ (fun _ => HB6) ?_
        clear hK K
        refine Rg.Till.oneK (i := 11) (by kernel_rfl) rfl rfl ?_
        intro K hK
        go_simp
        refine hK.out _ _ (fun h => absurd rfl h) ?_
        clear hK K
        refine Rg.Till.done (by kernel_rfl) ?_
        clear y0 y1 y2 FB DW
        go_wp2_with fail
        go_meet
        exact ⟨rfl, rfl, _, a3, c3, rfl, f1, D6, HB6⟩
      · skip
        intro K hK
        go_simp
        have HA2 : Below W2.heap.size W2 (w3.alloc (.cells #[.slice none 0 0, .int .i64 0, .int .i64 0] 29)) := nxt HP1 (below_one _ _)
        refine hK.out _ _ (fun _ => HA2) ?_
        clear hK K
        refine Rg.Till.oneK (i := 3) (by kernel_rfl) rfl rfl ?_
        intro K hK
        refine op_call2 (d := some 18) rfl 16 (by intros; go_simp) _ _ _ rfl _ _ rfl rfl ((PRN.out (w3.alloc (.cells #[.slice none 0 0, .int .i64 0, .int .i64 0] 29)) a1 c1 a' c' (Y2.out.2.below HA2) (hP3.below (below_one _ _))).mono ?_)
        rintro e w5 ⟨a3, c3, rfl, hd5, hb5⟩
        have HC2 : Below W2.heap.size W2 w5 := nxt HA2 hb5
        refine ⟨_, rfl, hK.out _ _ (fun _ => HC2) ?_⟩
        clear hK K
        simp only [Act.put, List.setIfInBounds_toArray, List.set_cons_zero, List.set_cons_succ]
        refine Rg.Till.take (i := 4) (v := .tuple #[.agg #[.slice a3 D.nodes.length c3, .int .i64 D.root, .int .i64 D.next], .int .i64 (k : Int), .int .i64 er]) (some 14) rfl rfl (by kernel_rfl) (by kernel_rfl) (fun _ _ _ h => h) (by kernel_rfl) (by kernel_rfl) (Or.inl ⟨rfl, fun w' hS => ?_⟩) HC2 ?_
        · go_simp
        simp only [Act.put, List.setIfInBounds_toArray, List.set_cons_zero, List.set_cons_succ]
        refine Rg.Till.take (i := 5) (v := .agg #[.slice a3 D.nodes.length c3, .int .i64 D.root, .int .i64 D.next]) (some 19) rfl rfl (by kernel_rfl) (by kernel_rfl) (fun _ _ _ h => h) (by kernel_rfl) (by kernel_rfl) (Or.inl ⟨rfl, fun w' hS => ?_⟩) HC2 ?_
        · go_simp
        simp only [Act.put, List.setIfInBounds_toArray, List.set_cons_zero, List.set_cons_succ]
        refine Rg.Till.take (i := 6) (v := .int .i64 (k : Int)) (some 20) rfl rfl (by kernel_rfl) (by kernel_rfl) (fun _ _ _ h => h) (by kernel_rfl) (by kernel_rfl) (Or.inl ⟨rfl, fun w' hS => ?_⟩) HC2 ?_
        · go_simp
        simp only [Act.put, List.setIfInBounds_toArray, List.set_cons_zero, List.set_cons_succ]
        refine Rg.Till.take (i := 7) (v := .int .i64 er) (some 21) rfl rfl (by kernel_rfl) (by kernel_rfl) (fun _ _ _ h => h) (by kernel_rfl) (by kernel_rfl) (Or.inl ⟨rfl, fun w' hS => ?_⟩) HC2 ?_
        · go_simp
        simp only [Act.put, List.setIfInBounds_toArray, List.set_cons_zero, List.set_cons_succ]
        have FB : w5.heap[w3.heap.size]? = _ := (hb5.block _ (by simp)).trans (heap_alloc_new w3 _)
        have DW : DsO w5 D a3 c3 := hd5
        refine Rg.Till.oneK (i := 9) (by kernel_rfl) rfl rfl ?_
        intro K hK
        refine Rg.op_storeF rfl 29 (.tmp 6) (.tmp 19) rfl (w3.heap.size) _ 29 [.slice a3 D.nodes.length c3, .int .i64 D.root, .int .i64 D.next] rfl rfl FB rfl (by kernel_rfl) (by simp [Value.oneCell']) ?_
        intro w6 f1 f2 f3
        have HB6 : Below W2.heap.size W2 w6 := f3 _ _ HP1.size HC2
        have D6 : DsO w6 D a3 c3 := DW.other FB f2
        refine hK.out _ _ (fun _ => HB6) ?_
        clear hK K
        refine Rg.Till.oneK (i := 10) (by kernel_rfl) rfl rfl ?_
        intro K hK
        go_simp
        refine hK.out _ _ (fun _ => HB6) ?_
        clear hK K
        refine Rg.Till.oneK (i := 11) (by kernel_rfl) rfl rfl ?_
        intro K hK
        go_simp
        refine hK.out _ _ (fun h => absurd rfl h) ?_
        clear hK K
        refine Rg.Till.done (by kernel_rfl) ?_
        clear y0 y1 y2 FB DW
        go_wp2_with fail
        go_meet
        exact ⟨rfl, rfl, _, a3, c3, rfl, f1, D6, HB6⟩
    · skip
      intro K hK
      go_simp
      have HA3 : Below W2.heap.size W2 (W2.drew.alloc (.cells #[.slice none 0 0, .int .i64 0, .int .i64 0] 29)) := nxt HS0 (below_one _ _)
      refine hK.out _ _ (fun _ => HA3) ?_
      clear hK K
      refine Rg.Till.oneK (i := 2) (by kernel_rfl) rfl rfl ?_
      intro K hK
      refine op_call1 (d := some 17) rfl 17 (by intros; go_simp) _ _ rfl _ rfl ((PPT.out _ (nxt B2.out HA3)).mono ?_)
      rintro e w3 ⟨a', c', rfl, hP3, hb3⟩
      have HP3 : Below W2.heap.size W2 w3 := nxt HA3 hb3
      refine ⟨_, rfl, hK.out _ _ (fun _ => HP3) ?_⟩
      clear hK K
      simp only [Act.put, List.setIfInBounds_toArray, List.set_cons_zero, List.set_cons_succ]
      refine Rg.Till.oneK (i := 3) (by kernel_rfl) rfl rfl ?_
      intro K hK
      refine op_call2 (d := some 18) rfl 16 (by intros; go_simp) _ _ _ rfl _ _ rfl rfl ((PRN.out w3 a1 c1 a' c' (Y2.out.2.below HP3) (hP3)).mono ?_)
      rintro e w5 ⟨a3, c3, rfl, hd5, hb5⟩
      have HC3 : Below W2.heap.size W2 w5 := nxt HP3 hb5
      refine ⟨_, rfl, hK.out _ _ (fun _ => HC3) ?_⟩
      clear hK K
      simp only [Act.put, List.setIfInBounds_toArray, List.set_cons_zero, List.set_cons_succ]
      refine Rg.Till.take (i := 4) (v := .tuple #[.agg #[.slice a3 D.nodes.length c3, .int .i64 D.root, .int .i64 D.next], .int .i64 (k : Int), .int .i64 er]) (some 14) rfl rfl (by kernel_rfl) (by kernel_rfl) (fun _ _ _ h => h) (by kernel_rfl) (by kernel_rfl) (Or.inl ⟨rfl, fun w' hS => ?_⟩) HC3 ?_
      · go_simp
      simp only [Act.put, List.setIfInBounds_toArray, List.set_cons_zero, List.set_cons_succ]
      refine Rg.Till.take (i := 5) (v := .agg #[.slice a3 D.nodes.length c3, .int .i64 D.root, .int .i64 D.next]) (some 19) rfl rfl (by kernel_rfl) (by kernel_rfl) (fun _ _ _ h => h) (by kernel_rfl) (by kernel_rfl) (Or.inl ⟨rfl, fun w' hS => ?_⟩) HC3 ?_
      · go_simp
      simp only [Act.put, List.setIfInBounds_toArray, List.set_cons_zero, List.set_cons_succ]
      refine Rg.Till.take (i := 6) (v := .int .i64 (k : Int)) (some 20) rfl rfl (by kernel_rfl) (by kernel_rfl) (fun _ _ _ h => h) (by kernel_rfl) (by kernel_rfl) (Or.inl ⟨rfl, fun w' hS => ?_⟩) HC3 ?_
      · go_simp
      simp only [Act.put, List.setIfInBounds_toArray, List.set_cons_zero, List.set_cons_succ]
      refine Rg.Till.take (i := 7) (v := .int .i64 er) (some 21) rfl rfl (by kernel_rfl) (by kernel_rfl) (fun _ _ _ h => h) (by kernel_rfl) (by kernel_rfl) (Or.inl ⟨rfl, fun w' hS => ?_⟩) HC3 ?_
      · go_simp
      simp only [Act.put, List.setIfInBounds_toArray, List.set_cons_zero, List.set_cons_succ]
      have FB : w5.heap[W2.heap.size]? = _ := (hb5.block _ (by have h1 := hb3.size; have h2 : (W2.drew.alloc (.cells #[.slice none 0 0, .int .i64 0, .int .i64 0] 29)).heap.size = W2.heap.size + 1 := (by show (W2.alloc _).heap.size = _; simp); omega)).trans ((hb3.block _ (by show W2.heap.size < (W2.alloc _).heap.size; simp)).trans (heap_alloc_new W2 _))
      have DW : DsO w5 D a3 c3 := hd5
      refine Rg.Till.oneK (i := 9) (by kernel_rfl) rfl rfl ?_
      intro K hK
      refine Rg.op_storeF rfl 29 (.tmp 6) (.tmp 19) rfl (W2.heap.size) _ 29 [.slice a3 D.nodes.length c3, .int .i64 D.root, .int .i64 D.next] rfl rfl FB rfl (by kernel_rfl) (by simp [Value.oneCell']) ?_
      intro w6 f1 f2 f3
      have HB6 : Below W2.heap.size W2 w6 := f3 _ _ (Nat.le_refl _) HC3
      have D6 : DsO w6 D a3 c3 := DW.other FB f2
      refine hK.out _ _ (fun _ => HB6) ?_
      clear hK K
      refine Rg.Till.oneK (i := 10) (by kernel_rfl) rfl rfl ?_
      intro K hK
      go_simp
      refine hK.out _ _ (fun _ => HB6) ?_
      clear hK K
      refine Rg.Till.oneK (i := 11) (by kernel_rfl) rfl rfl ?_
      intro K hK
      go_simp
      refine hK.out _ _ (fun h => absurd rfl h) ?_
      clear hK K
      refine Rg.Till.done (by kernel_rfl) ?_
      clear y0 y1 y2 FB DW
      go_wp2_with fail
      go_meet
      exact ⟨rfl, rfl, _, a3, c3, rfl, f1, D6, HB6⟩
  case rest =>
    obtain ⟨rfl, rfl, g6, a3, c3, rfl, HG, HD, HC⟩ := hcut
    have B3 : Hid (Below w.heap.size w wc) := nxt B2.out HC.out
    have X3 : Hid (wc.heap[w.heap.size]? = some (.cells #[.slice a s.nodes.length c, .int .i64 s.root, .int .i64 s.next] 24 (0, 0))) := (HC.out.block _ (lt_of_block X2.out)).trans X2.out
    have Y3 : Hid (wc.heap[g5]? = some (.cells #[.slice a1 s.nodes.length c1, .int .i64 s.root, .int .i64 s.next] 29 (0, 0)) ∧ DsIs wc s a1 c1) := ⟨(HC.out.block _ (lt_of_block Y2.out.1)).trans Y2.out.1, Y2.out.2.below HC.out⟩
    clear y0 y1 y2 X2 B2 Y2 HC PRN PPT
    obtain ⟨x0, x1, x2⟩ := three X3.out
    go_wp2_with fail
    refine (RRN.out wc a c pa pc (HS.out wc B3.out) (HPS.out wc B3.out)).mono ?_
    rintro e w4 ⟨a4, c4, rfl, hd4, hb4⟩
    have hb := nxt hb4 (below_one w4 (.cells #[.slice a4 D.nodes.length c4, .int .i64 D.root, .int .i64 D.next] 24))
    have B4 : Hid (Below w.heap.size w (w4.alloc (.cells #[.slice a4 D.nodes.length c4, .int .i64 D.root, .int .i64 D.next] 24))) := nxt B3.out hb
    have X4 : Hid ((w4.alloc (.cells #[.slice a4 D.nodes.length c4, .int .i64 D.root, .int .i64 D.next] 24)).heap[w.heap.size]? = some (.cells #[.slice a s.nodes.length c, .int .i64 s.root, .int .i64 s.next] 24 (0, 0))) := (hb.block _ (lt_of_block X3.out)).trans X3.out
    have Y4 : Hid ((w4.alloc (.cells #[.slice a4 D.nodes.length c4, .int .i64 D.root, .int .i64 D.next] 24)).heap[g5]? = some (.cells #[.slice a1 s.nodes.length c1, .int .i64 s.root, .int .i64 s.next] 29 (0, 0)) ∧ DsIs (w4.alloc (.cells #[.slice a4 D.nodes.length c4, .int .i64 D.root, .int .i64 D.next] 24)) s a1 c1) := ⟨(hb.block _ (lt_of_block Y3.out.1)).trans Y3.out.1, Y3.out.2.below hb⟩
    have Z4 : Hid ((w4.alloc (.cells #[.slice a4 D.nodes.length c4, .int .i64 D.root, .int .i64 D.next] 24)).heap[g6]? = some (.cells #[.slice a3 D.nodes.length c3, .int .i64 D.root, .int .i64 D.next] 29 (0, 0)) ∧ DsIs (w4.alloc (.cells #[.slice a4 D.nodes.length c4, .int .i64 D.root, .int .i64 D.next] 24)) D a3 c3) := ⟨(hb.block _ (lt_of_block HG.out)).trans HG.out, HD.out.is.below hb⟩
    have Q4 : Hid ((w4.alloc (.cells #[.slice a4 D.nodes.length c4, .int .i64 D.root, .int .i64 D.next] 24)).heap[w4.heap.size]? = some (.cells #[.slice a4 D.nodes.length c4, .int .i64 D.root, .int .i64 D.next] 24 (0, 0)) ∧ DsIs (w4.alloc (.cells #[.slice a4 D.nodes.length c4, .int .i64 D.root, .int .i64 D.next] 24)) D a4 c4) := ⟨heap_alloc_new _ _, hd4.below (below_one _ _)⟩
    clear hb hb4 hd4 X3 B3 Y3 HG HD RRN x0 x1 x2
    go_upto_region 4 with fail
    generalize (w4.alloc (.cells #[.slice a4 D.nodes.length c4, .int .i64 D.root, .int .i64 D.next] 24)) = W4 at *
    generalize w4.heap.size = g9 at *
    obtain ⟨z0, z1, z2⟩ := three Z4.out.1
    obtain ⟨q0, q1, q2⟩ := three Q4.out.1
    go_wp2_with fail
    refine (alikeD_any D a3 a4 c3 c4 W4 Z4.out.2 Q4.out.2).mono ?_
    rintro e w5 ⟨rfl, hb5⟩
    have B5 : Hid (Below w.heap.size w w5) := nxt B4.out hb5
    have X5 : Hid (w5.heap[w.heap.size]? = some (.cells #[.slice a s.nodes.length c, .int .i64 s.root, .int .i64 s.next] 24 (0, 0))) := (hb5.block _ (lt_of_block X4.out)).trans X4.out
    have Y5 : Hid (w5.heap[g5]? = some (.cells #[.slice a1 s.nodes.length c1, .int .i64 s.root, .int .i64 s.next] 29 (0, 0)) ∧ DsIs w5 s a1 c1) := ⟨(hb5.block _ (lt_of_block Y4.out.1)).trans Y4.out.1, Y4.out.2.below hb5⟩
    clear hb5 z0 z1 z2 q0 q1 q2 X4 Y4 Z4 Q4 B4
    obtain ⟨x0, x1, x2⟩ := three X5.out
    obtain ⟨y0, y1, y2⟩ := three Y5.out.1
    go_wp2_with (go_at_call 11; refine (numD_any _ _).mono ?_; rintro e w9 ⟨rfl, hw9⟩; subst w9)
    refine (alikeD_any s a1 a c1 c w5 Y5.out.2 (HS.out w5 B5.out)).mono ?_
    rintro e w6 ⟨rfl, hb6⟩
    have B6 : Hid (Below w.heap.size w w6) := nxt B5.out hb6
    clear hb6 x0 x1 x2 y0 y1 y2 X5 Y5 B5
    go_wp2_with fail
    refine (aliveD_any w6).mono ?_
    rintro e w7 ⟨rfl, hb7⟩
    go_wp2_with fail
    go_ret
    exact ⟨rfl, nxt B6.out hb7⟩

set_option maxRecDepth 100000 in
set_option maxHeartbeats 1600000 in
theorem lifted (os : Os) (started : os.Started) (H : Type) (enc : TypeId × Value → H) :
    ReturnsInHanded {} Tryz.checked os 4 .any (Rows.domRunsSpec.pre6 enc Tryz.prog Tryz.f4 Rows.domRunsRow.domain false) (Rows.domRunsSpec.post enc Tryz.prog Tryz.f4 false true false false) := by
  refine returnsInHanded_of_change_sized (C := Tryz.checked) Tryz.own started (by kernel_rfl) Tryz.func4
    (ChangeSpec.witness6 (enc := enc) (C := Tryz.checked) false ⟨#[], #[.agg #[.slice none 0 0, .int .i64 0, .int .i64 0], .slice none 0 0], []⟩ 8 (by kernel_rfl) (by kernel_rfl) (by kernel_rfl) (by kernel_rfl)) ?_
  intro W base args ds gs before hval0 hW _ hsz0 _
  have hsz : (DataW.weightsEach Tryz.prog (Tryz.f4.params.toList ++ Rows.domRunsSpec.plain.varTypes Tryz.prog) (ds ++ gs)).all (· ≤ reachBytes) = true := hsz0
  have hval : ∀ (j : Nat) t v, Tryz.f4.params[j]? = some t → args[j]? = some v → Value.okWide Tryz.prog W .any base t v := hval0
  have hW' := hW
  obtain ⟨p, q, hA0, hV, rfl, hfz, hnd⟩ := hW
  have hA : DataW.TrodAll enc Tryz.prog W 0 (fun _ => true) true Tryz.f4.params.toList args.toList ds p := hA0
  rw [Tryz.params4] at hA hval hsz
  obtain ⟨v0, vs0, d0, ds0, p0, q0, hargs, rfl, rfl, h0, r0⟩ := trodAll_cons hA
  obtain ⟨v1, vs1, d1, ds1, p1, q1, rfl, rfl, rfl, h1, r1⟩ := trodAll_cons r0
  obtain ⟨rfl, rfl, rfl⟩ := trodAll_nil r1
  obtain rfl : args = #[v0, v1] := by cases args; simp_all
  obtain ⟨rfl, rfl⟩ := trodVars_none hV
  clear hA0 hval0
  simp only [List.append_nil] at hW' hsz
  have hlt : ∀ x ∈ p0 ++ p1, x.block < W.heap.size := fun x hx => hW'.lt x (by simpa using hx)
  have hall : ∀ x ∈ DataW.weightsEach Tryz.prog [24, 52] [d0, d1], x ≤ reachBytes := fun x hx => of_decide_eq_true (List.all_eq_true.1 hsz x hx)
  have g0 : ∀ x ∈ d0.weights Tryz.prog 24, x ≤ reachBytes := fun x hx => hall x (DataW.weights_mem_each (j := 0) rfl rfl x hx)
  obtain ⟨u0, l0⟩ := ds_of_arg (hval 0 _ v0 rfl rfl) h0 g0
  have g1 : ∀ x ∈ d1.weights Tryz.prog 52, x ≤ reachBytes := fun x hx => hall x (DataW.weights_mem_each (j := 1) rfl rfl x hx)
  obtain ⟨u1, l1⟩ := pts_of_arg (hval 1 _ v1 rfl rfl) h1 g1
  refine (walk u0 v0 u1 v1 W l0 l1).mono fun e W' ⟨he, bel⟩ => ?_
  subst he
  exact ⟨_, rfl, _, _, _, [], _, [], hW', trodAll_mk1 (shut_bool Tryz.underlying4 _), (trodAll_cons_mk (Below.trod Tryz.laidOut (by kernel_rfl) (of_decide_eq_true (by kernel_rfl)) h0 bel (fun x hx => hlt x (by simp [hx]))) (trodAll_cons_mk (Below.trod Tryz.laidOut (by kernel_rfl) (of_decide_eq_true (by kernel_rfl)) h1 bel (fun x hx => hlt x (by simp [hx]))) trodAll_mk0)), rfl, bel.frame _, fun h => by cases h⟩

theorem over : Rows.domRunsRow.holds Tryz.pinned (OpenSpec.ofChange Rows.domRunsSpec) :=
  OpenClaim.holds_of_wide 4 Tryz.f4 rfl rfl rfl rfl rfl rfl rfl ⟨rfl, rfl, rfl, rfl, rfl⟩ rfl rfl rfl rfl rfl (by kernel_rfl) Tryz.func4 (by kernel_rfl)
    (of_decide_eq_true (by kernel_rfl)) (by unfold Func.isWrapper; first | (rw [if_pos (by decide +kernel)]; kernel_rfl) | (rw [if_neg (by decide +kernel)]; exact ⟨rfl, rfl⟩))
    (fun os started H enc _ => lifted os started H enc)

/-- THE STATEMENT. -/
theorem proved : Rows.DomRunsSaid := over
#print axioms proved
end Go.Proofs.YtcdnakcojanaeaaGreat.domRuns
