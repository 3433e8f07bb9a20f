/-
  DomKeeps: behind a patch that is done a display that may be may be, its Next does not fall, and numbers that come in are new; one that is refused answers nothing.
-/
import Derived.Test.YtbadehbnpneepaaJ5
namespace Go.Proofs.Ytbadehbnpneepaa
open Go.ChangeShapes Go.WideShapes Go.ChangeAt Go.RowKit Go.Deep
open Do
namespace domKeeps

theorem keeps_new {s : Ds} {p : Pt} (h0 : (applyD s p).1 = 0) {i : Nat} {n : Nd} (hn : (applyD s p).2.nodes[i]? = some n) (hp : plI s.nodes n.id < 0) : s.next ≤ n.id := by
  obtain ⟨h1, h2, h3⟩ := apply_zero h0
  rw [h3] at hn
  refine take_new h1 n (List.mem_of_getElem? hn) (nd_none.2 ?_)
  unfold plI at hp
  cases e : pl s.nodes n.id with
  | none => rfl
  | some q => rw [e] at hp; simp only at hp; omega

set_option maxRecDepth 100000 in
set_option maxHeartbeats 3200000 in
theorem walk (s : Ds) (x : Value) (p : Pt) (y : Value) (w : World) (hx : DsArg w x s) (hy : PtArg y p) :
    Calls Try.prog 4 #[x, y] w fun e w' => e = .returned (.bool true) ∧ Below w.heap.size w w' := by
  obtain ⟨a, c, rfl, hs⟩ := hx
  obtain ⟨rfl, hp, -⟩ := hy
  have HS : Hid (∀ W, Below w.heap.size w W → DsIs W s a c) := fun W hb => hs.below hb
  have HPO : Hid (PtOk p) := hp
  have hnx := hs.next
  clear hs hp
  obtain ⟨W1, hW1⟩ : ∃ W : World, W = (w.alloc (.cells #[.slice a s.nodes.length c, .int .i64 s.root, .int .i64 s.next] 35)).alloc (.cells #[.int .i64 p.what, .int .i64 p.id, .int .i64 p.par, .int .i64 p.at_, .string p.tag, .string p.key, .string p.txt, .string p.name, .string p.val] 46) := ⟨_, rfl⟩
  have B1 : Hid (Below w.heap.size w W1) := by show Below _ _ _; rw [hW1]; exact two_new _ _ _
  have Y0 : Hid (W1.heap[w.heap.size]? = some (.cells #[.slice a s.nodes.length c, .int .i64 s.root, .int .i64 s.next] 35 (0, 0))) := by show _ = _; rw [hW1]; exact ((below_one _ _).block _ (by simp)).trans (heap_alloc_new _ _)
  have Y1 : Hid (W1.heap[w.heap.size + 1]? = some (.cells #[.int .i64 p.what, .int .i64 p.id, .int .i64 p.par, .int .i64 p.at_, .string p.tag, .string p.key, .string p.txt, .string p.name, .string p.val] 46 (0, 0))) := by show _ = _; rw [hW1]; exact heap_new2 _ _ _
  go_enter Try.func4, Try.ntmps4
  go_wp2_with fail
  rw [← hW1]
  clear hW1
  refine (aliveD_any W1).mono ?_
  rintro e w2 ⟨rfl, hb2⟩
  have B2 : Hid (Below w.heap.size w w2) := nxt B1.out hb2
  have S2 : Hid (w2.heap[w.heap.size]? = _) := (hb2.block _ (lt_of_block Y0.out)).trans Y0.out
  have P2 : Hid (w2.heap[w.heap.size + 1]? = _) := (hb2.block _ (lt_of_block Y1.out)).trans Y1.out
  clear hb2 Y0 Y1 B1
  go_wp2_with fail
  have HST : Hid (∀ W W', Below W.heap.size W W' → (fun w' : World => w'.heap[w.heap.size]? = some (.cells #[.slice a s.nodes.length c, .int .i64 s.root, .int .i64 s.next] 35 (0, 0)) ∧ w'.heap[w.heap.size + 1]? = some (.cells #[.int .i64 p.what, .int .i64 p.id, .int .i64 p.par, .int .i64 p.at_, .string p.tag, .string p.key, .string p.txt, .string p.name, .string p.val] 46 (0, 0))) W → (fun w' : World => w'.heap[w.heap.size]? = some (.cells #[.slice a s.nodes.length c, .int .i64 s.root, .int .i64 s.next] 35 (0, 0)) ∧ w'.heap[w.heap.size + 1]? = some (.cells #[.int .i64 p.what, .int .i64 p.id, .int .i64 p.par, .int .i64 p.at_, .string p.tag, .string p.key, .string p.txt, .string p.name, .string p.val] 46 (0, 0))) W') := fun W W' hb ⟨y0, y1⟩ => ⟨(hb.block _ (lt_of_block y0)).trans y0, (hb.block _ (lt_of_block y1)).trans y1⟩
  have HS0 : (fun w' : World => w'.heap[w.heap.size]? = some (.cells #[.slice a s.nodes.length c, .int .i64 s.root, .int .i64 s.next] 35 (0, 0)) ∧ w'.heap[w.heap.size + 1]? = some (.cells #[.int .i64 p.what, .int .i64 p.id, .int .i64 p.par, .int .i64 p.at_, .string p.tag, .string p.key, .string p.txt, .string p.name, .string p.val] 46 (0, 0))) w2.drew := ⟨S2.out, P2.out⟩
  obtain ⟨r, hr⟩ : ∃ r, r = applyD s p := ⟨_, rfl⟩
  have HR : Hid (r = applyD s p) := hr
  have HOF : Hid (∀ W, Below w2.heap.size w2 W → Calls Try.prog 16 #[.agg #[.slice a s.nodes.length c, .int .i64 s.root, .int .i64 s.next]] W fun e w' => ∃ a3 c3, e = .returned (.agg #[.slice a3 s.nodes.length c3, .int .i64 s.root, .int .i64 s.next]) ∧ DsIs w' s a3 c3 ∧ Below W.heap.size W w') := fun W hb => (of_any s a c W (HS.out W (nxt B2.out hb))).mono fun e w' ⟨x, he, hx, hb'⟩ => by
    obtain ⟨a3, c3, rfl, h3⟩ := hx.isL (HS.out W (nxt B2.out hb)).len (HS.out W (nxt B2.out hb)).root (HS.out W (nxt B2.out hb)).next
    exact ⟨a3, c3, he, h3, hb'⟩
  have HAP : Hid (∀ W a3 c3, DsIs W s a3 c3 → Calls Try.prog 15 #[.agg #[.slice a3 s.nodes.length c3, .int .i64 s.root, .int .i64 s.next], .agg #[.int .i64 p.what, .int .i64 p.id, .int .i64 p.par, .int .i64 p.at_, .string p.tag, .string p.key, .string p.txt, .string p.name, .string p.val]] W fun e w' => ∃ a4 c4, e = .returned (.tuple #[.agg #[.slice a4 r.2.nodes.length c4, .int .i64 r.2.root, .int .i64 r.2.next], .int .i64 r.1]) ∧ DsOwn w' W.heap.size (.agg #[.slice a4 r.2.nodes.length c4, .int .i64 r.2.root, .int .i64 r.2.next]) r.2 ∧ Below W.heap.size W w') := fun W a3 c3 h3 => (apply_any s p a3 c3 W h3 HPO.out).mono fun e w' ⟨x, he, hx, hb'⟩ => by
    rw [← hr] at he hx
    obtain ⟨a4, c4, rfl, h4⟩ := (show DsOwn w' W.heap.size x (applyD s p).2 by rw [← hr]; exact hx).isA
    rw [← hr] at *
    exact ⟨a4, c4, he, hx, hb'⟩
  clear hr
  obtain ⟨er, D⟩ := r
  simp only at HAP
  go_cut [5, 6] (fun v5 v6 wc => v6 = .int .i64 er ∧ ∃ g a4 c4, v5 = .pointer (some ⟨g, 0, none⟩) ∧ Hid (wc.heap[g]? = some (.cells #[.slice a4 D.nodes.length c4, .int .i64 D.root, .int .i64 D.next] 29 (0, 0))) ∧ Hid (∃ B, DsOwn wc B (.agg #[.slice a4 D.nodes.length c4, .int .i64 D.root, .int .i64 D.next]) D) ∧ Hid (Below w2.heap.size w2 wc))
  case first =>
    refine Rg.Till.region (fun w' : World => w'.heap[w.heap.size]? = some (.cells #[.slice a s.nodes.length c, .int .i64 s.root, .int .i64 s.next] 35 (0, 0)) ∧ w'.heap[w.heap.size + 1]? = some (.cells #[.int .i64 p.what, .int .i64 p.id, .int .i64 p.par, .int .i64 p.at_, .string p.tag, .string p.key, .string p.txt, .string p.name, .string p.val] 46 (0, 0))) 9 (by kernel_rfl) ?_
    show Rg.Till _ _ _ _ _ 10 (Array.replicate 10 false) _ _
    refine Rg.Till.take (i := 0) (v := .agg #[.slice a s.nodes.length c, .int .i64 s.root, .int .i64 s.next]) (some 11) rfl rfl (by kernel_rfl) (by kernel_rfl) (fun _ _ _ h => h) (by kernel_rfl) (by kernel_rfl) (Or.inl ⟨rfl, fun w' hS => ?_⟩) HS0 ?_
    · obtain ⟨y0, y1, y2⟩ := three hS.1; go_simp
    simp only [Act.put, List.setIfInBounds_toArray, List.set_cons_zero, List.set_cons_succ]
    refine Rg.Till.take (i := 2) (v := .agg #[.int .i64 p.what, .int .i64 p.id, .int .i64 p.par, .int .i64 p.at_, .string p.tag, .string p.key, .string p.txt, .string p.name, .string p.val]) (some 13) rfl rfl (by kernel_rfl) (by kernel_rfl) (fun _ _ _ h => h) (by kernel_rfl) (by kernel_rfl) (Or.inl ⟨rfl, fun w' hS => ?_⟩) HS0 ?_
    · obtain ⟨y0, y1, y2, y3, y4, y5, y6, y7, y8⟩ := nine hS.2; go_simp
    simp only [Act.put, List.setIfInBounds_toArray, List.set_cons_zero, List.set_cons_succ]
    refine Rg.Till.twoK (i := 1) (j := 7) (by kernel_rfl) rfl rfl rfl rfl ?_ ?_
    · skip
      intro K hK
      refine op_call1 (d := some 12) rfl 16 (by intros; go_simp) _ _ rfl _ rfl ((HOF.out _ ((Below.refl _ w2).drew)).mono ?_)
      rintro e w3_1 ⟨a3, c3, rfl, h3_1, hb3_1⟩
      have HSo1 := HST.out _ _ hb3_1 HS0
      refine ⟨_, rfl, hK.out _ _ (fun _ => HSo1) ?_⟩
      clear hK K
      simp only [Act.put, List.setIfInBounds_toArray, List.set_cons_zero, List.set_cons_succ]
      refine Rg.Till.twoK (i := 3) (j := 7) (by kernel_rfl) rfl rfl rfl rfl ?_ ?_
      · skip
        intro K hK
        refine op_call2 (d := some 14) rfl 15 (by intros; go_simp) _ _ _ rfl _ _ rfl rfl ((HAP.out _ a3 c3 h3_1).mono ?_)
        rintro e w4_2 ⟨a4, c4, rfl, h4_2, hb4_2⟩
        have HSp2 := HST.out _ _ hb4_2 HSo1
        refine ⟨_, rfl, hK.out _ _ (fun _ => HSp2) ?_⟩
        clear hK K
        simp only [Act.put, List.setIfInBounds_toArray, List.set_cons_zero, List.set_cons_succ]
        refine Rg.Till.take (i := 4) (v := .tuple #[.agg #[.slice a4 D.nodes.length c4, .int .i64 D.root, .int .i64 D.next], .int .i64 er]) (some 10) rfl rfl (by kernel_rfl) (by kernel_rfl) (fun _ _ _ h => h) (by kernel_rfl) (by kernel_rfl) (Or.inl ⟨rfl, fun w' hS => ?_⟩) HSp2 ?_
        · go_simp
        simp only [Act.put, List.setIfInBounds_toArray, List.set_cons_zero, List.set_cons_succ]
        refine Rg.Till.take (i := 5) (v := .agg #[.slice a4 D.nodes.length c4, .int .i64 D.root, .int .i64 D.next]) (some 15) rfl rfl (by kernel_rfl) (by kernel_rfl) (fun _ _ _ h => h) (by kernel_rfl) (by kernel_rfl) (Or.inl ⟨rfl, fun w' hS => ?_⟩) HSp2 ?_
        · go_simp
        simp only [Act.put, List.setIfInBounds_toArray, List.set_cons_zero, List.set_cons_succ]
        refine Rg.Till.take (i := 6) (v := .int .i64 er) (some 16) rfl rfl (by kernel_rfl) (by kernel_rfl) (fun _ _ _ h => h) (by kernel_rfl) (by kernel_rfl) (Or.inl ⟨rfl, fun w' hS => ?_⟩) HSp2 ?_
        · go_simp
        simp only [Act.put, List.setIfInBounds_toArray, List.set_cons_zero, List.set_cons_succ]
        refine Rg.Till.oneK (i := 7) (by kernel_rfl) rfl rfl ?_
        have HSa3 := HST.out _ _ (below_one w4_2 (.cells #[.slice none 0 0, .int .i64 0, .int .i64 0] 29)) HSp2
        have HZ3 : (w4_2.alloc (.cells #[.slice none 0 0, .int .i64 0, .int .i64 0] 29)).heap[w4_2.heap.size]? = some (.cells #[.slice none 0 0, .int .i64 0, .int .i64 0] 29 (0, 0)) := heap_alloc_new _ _
        have HBa3 : Below w2.heap.size w2 (w4_2.alloc (.cells #[.slice none 0 0, .int .i64 0, .int .i64 0] 29)) := nxt (nxt (nxt ((Below.refl _ w2).drew) hb3_1) hb4_2) (below_one _ _)
        have HGa3 : w2.heap.size ≤ w4_2.heap.size := ((nxt (nxt ((Below.refl _ w2).drew) hb3_1) hb4_2 : Below w2.heap.size w2 w4_2)).size
        intro K hK
        go_simp
        refine hK.out _ _ (fun _ => HSa3) ?_
        clear hK K
        have f1 : (w4_2.alloc (.cells #[.slice a4 D.nodes.length c4, .int .i64 D.root, .int .i64 D.next] 29)).heap[w4_2.heap.size]? = _ := heap_alloc_new _ _
        have f2 : DsOwn (w4_2.alloc (.cells #[.slice a4 D.nodes.length c4, .int .i64 D.root, .int .i64 D.next] 29)) _ (.agg #[.slice a4 D.nodes.length c4, .int .i64 D.root, .int .i64 D.next]) D := h4_2.below (below_one _ _)
        have f3 : Below w2.heap.size w2 (w4_2.alloc (.cells #[.slice a4 D.nodes.length c4, .int .i64 D.root, .int .i64 D.next] 29)) := nxt (nxt (nxt ((Below.refl _ w2).drew) hb3_1) hb4_2) (below_one _ _)
        have HSe4 : (fun w' : World => w'.heap[w.heap.size]? = some (.cells #[.slice a s.nodes.length c, .int .i64 s.root, .int .i64 s.next] 35 (0, 0)) ∧ w'.heap[w.heap.size + 1]? = some (.cells #[.int .i64 p.what, .int .i64 p.id, .int .i64 p.par, .int .i64 p.at_, .string p.tag, .string p.key, .string p.txt, .string p.name, .string p.val] 46 (0, 0))) (w4_2.alloc (.cells #[.slice a4 D.nodes.length c4, .int .i64 D.root, .int .i64 D.next] 29)) := HST.out w2 _ f3 ⟨S2.out, P2.out⟩
        refine Rg.Till.oneK (i := 8) (by kernel_rfl) rfl rfl fun K hK => ?_
        go_simp
        refine hK.out _ _ (fun _ => HSe4) ?_
        clear hK K
        refine Rg.Till.oneK (i := 9) (by kernel_rfl) rfl rfl fun K hK => ?_
        go_simp
        refine hK.out _ _ (fun h => absurd rfl h) ?_
        clear hK K
        refine Rg.Till.done (by kernel_rfl) ?_
        clear HSe4
        go_wp2_with fail
        go_meet
        exact ⟨rfl, _, a4, c4, rfl, f1, ⟨_, f2⟩, f3⟩
      · skip
        have HSa5 := HST.out _ _ (below_one w3_1 (.cells #[.slice none 0 0, .int .i64 0, .int .i64 0] 29)) HSo1
        have HZ5 : (w3_1.alloc (.cells #[.slice none 0 0, .int .i64 0, .int .i64 0] 29)).heap[w3_1.heap.size]? = some (.cells #[.slice none 0 0, .int .i64 0, .int .i64 0] 29 (0, 0)) := heap_alloc_new _ _
        have HBa5 : Below w2.heap.size w2 (w3_1.alloc (.cells #[.slice none 0 0, .int .i64 0, .int .i64 0] 29)) := nxt (nxt ((Below.refl _ w2).drew) hb3_1) (below_one _ _)
        have HGa5 : w2.heap.size ≤ w3_1.heap.size := ((nxt ((Below.refl _ w2).drew) hb3_1 : Below w2.heap.size w2 w3_1)).size
        intro K hK
        go_simp
        refine hK.out _ _ (fun _ => HSa5) ?_
        clear hK K
        refine Rg.Till.oneK (i := 3) (by kernel_rfl) rfl rfl ?_
        intro K hK
        refine op_call2 (d := some 14) rfl 15 (by intros; go_simp) _ _ _ rfl _ _ rfl rfl ((HAP.out _ a3 c3 (h3_1.below (below_one w3_1 (.cells #[.slice none 0 0, .int .i64 0, .int .i64 0] 29)))).mono ?_)
        rintro e w4_6 ⟨a4, c4, rfl, h4_6, hb4_6⟩
        have HSp6 := HST.out _ _ hb4_6 HSa5
        refine ⟨_, rfl, hK.out _ _ (fun _ => HSp6) ?_⟩
        clear hK K
        simp only [Act.put, List.setIfInBounds_toArray, List.set_cons_zero, List.set_cons_succ]
        have HZp6 : w4_6.heap[w3_1.heap.size]? = _ := (hb4_6.block _ (lt_of_block HZ5)).trans HZ5
        refine Rg.Till.take (i := 4) (v := .tuple #[.agg #[.slice a4 D.nodes.length c4, .int .i64 D.root, .int .i64 D.next], .int .i64 er]) (some 10) rfl rfl (by kernel_rfl) (by kernel_rfl) (fun _ _ _ h => h) (by kernel_rfl) (by kernel_rfl) (Or.inl ⟨rfl, fun w' hS => ?_⟩) HSp6 ?_
        · go_simp
        simp only [Act.put, List.setIfInBounds_toArray, List.set_cons_zero, List.set_cons_succ]
        refine Rg.Till.take (i := 5) (v := .agg #[.slice a4 D.nodes.length c4, .int .i64 D.root, .int .i64 D.next]) (some 15) rfl rfl (by kernel_rfl) (by kernel_rfl) (fun _ _ _ h => h) (by kernel_rfl) (by kernel_rfl) (Or.inl ⟨rfl, fun w' hS => ?_⟩) HSp6 ?_
        · go_simp
        simp only [Act.put, List.setIfInBounds_toArray, List.set_cons_zero, List.set_cons_succ]
        refine Rg.Till.take (i := 6) (v := .int .i64 er) (some 16) rfl rfl (by kernel_rfl) (by kernel_rfl) (fun _ _ _ h => h) (by kernel_rfl) (by kernel_rfl) (Or.inl ⟨rfl, fun w' hS => ?_⟩) HSp6 ?_
        · go_simp
        simp only [Act.put, List.setIfInBounds_toArray, List.set_cons_zero, List.set_cons_succ]
        have hBB7 : Below w2.heap.size w2 w4_6 := nxt (HBa5) hb4_6
        have hOO7 : DsOwn w4_6 _ (.agg #[.slice a4 D.nodes.length c4, .int .i64 D.root, .int .i64 D.next]) D := h4_6
        obtain ⟨f1, f2, f3⟩ := ds_fin HZp6 hOO7 HGa5 hBB7
        obtain ⟨z0, z0f⟩ := cell_of HZp6 0
        obtain ⟨z1, z1f⟩ := cell_of HZp6 1
        obtain ⟨z2, z2f⟩ := cell_of HZp6 2
        simp at z0 z1 z2
        have HSe7 : (fun w' : World => w'.heap[w.heap.size]? = some (.cells #[.slice a s.nodes.length c, .int .i64 s.root, .int .i64 s.next] 35 (0, 0)) ∧ w'.heap[w.heap.size + 1]? = some (.cells #[.int .i64 p.what, .int .i64 p.id, .int .i64 p.par, .int .i64 p.at_, .string p.tag, .string p.key, .string p.txt, .string p.name, .string p.val] 46 (0, 0))) (((w4_6.setCell ⟨w3_1.heap.size, 0, none⟩ (.slice a4 D.nodes.length c4)).setCell ⟨w3_1.heap.size, 1, none⟩ (.int .i64 D.root)).setCell ⟨w3_1.heap.size, 2, none⟩ (.int .i64 D.next)) := HST.out w2 _ f3 ⟨S2.out, P2.out⟩
        refine Rg.Till.oneK (i := 8) (by kernel_rfl) rfl rfl fun K hK => ?_
        go_simp
        refine hK.out _ _ (fun _ => HSe7) ?_
        clear hK K
        refine Rg.Till.oneK (i := 9) (by kernel_rfl) rfl rfl fun K hK => ?_
        go_simp
        refine hK.out _ _ (fun h => absurd rfl h) ?_
        clear hK K
        refine Rg.Till.done (by kernel_rfl) ?_
        clear z0 z0f z1 z1f z2 z2f HSe7 hOO7 hBB7
        go_wp2_with fail
        go_meet
        exact ⟨rfl, _, a4, c4, rfl, f1, ⟨_, f2⟩, f3⟩
    · skip
      have HSa8 := HST.out _ _ (below_one w2.drew (.cells #[.slice none 0 0, .int .i64 0, .int .i64 0] 29)) HS0
      have HZ8 : (w2.drew.alloc (.cells #[.slice none 0 0, .int .i64 0, .int .i64 0] 29)).heap[w2.heap.size]? = some (.cells #[.slice none 0 0, .int .i64 0, .int .i64 0] 29 (0, 0)) := heap_alloc_new _ _
      have HBa8 : Below w2.heap.size w2 (w2.drew.alloc (.cells #[.slice none 0 0, .int .i64 0, .int .i64 0] 29)) := nxt ((Below.refl _ w2).drew) (below_one _ _)
      have HGa8 : w2.heap.size ≤ w2.heap.size := (((Below.refl _ w2).drew : Below w2.heap.size w2 w2.drew)).size
      intro K hK
      go_simp
      refine hK.out _ _ (fun _ => HSa8) ?_
      clear hK K
      refine Rg.Till.oneK (i := 1) (by kernel_rfl) rfl rfl ?_
      intro K hK
      refine op_call1 (d := some 12) rfl 16 (by intros; go_simp) _ _ rfl _ rfl ((HOF.out _ (HBa8)).mono ?_)
      rintro e w3_9 ⟨a3, c3, rfl, h3_9, hb3_9⟩
      have HSo9 := HST.out _ _ hb3_9 HSa8
      refine ⟨_, rfl, hK.out _ _ (fun _ => HSo9) ?_⟩
      clear hK K
      simp only [Act.put, List.setIfInBounds_toArray, List.set_cons_zero, List.set_cons_succ]
      have HZo9 : w3_9.heap[w2.heap.size]? = _ := (hb3_9.block _ (lt_of_block HZ8)).trans HZ8
      refine Rg.Till.oneK (i := 3) (by kernel_rfl) rfl rfl ?_
      intro K hK
      refine op_call2 (d := some 14) rfl 15 (by intros; go_simp) _ _ _ rfl _ _ rfl rfl ((HAP.out _ a3 c3 h3_9).mono ?_)
      rintro e w4_10 ⟨a4, c4, rfl, h4_10, hb4_10⟩
      have HSp10 := HST.out _ _ hb4_10 HSo9
      refine ⟨_, rfl, hK.out _ _ (fun _ => HSp10) ?_⟩
      clear hK K
      simp only [Act.put, List.setIfInBounds_toArray, List.set_cons_zero, List.set_cons_succ]
      have HZp10 : w4_10.heap[w2.heap.size]? = _ := (hb4_10.block _ (lt_of_block HZo9)).trans HZo9
      refine Rg.Till.take (i := 4) (v := .tuple #[.agg #[.slice a4 D.nodes.length c4, .int .i64 D.root, .int .i64 D.next], .int .i64 er]) (some 10) rfl rfl (by kernel_rfl) (by kernel_rfl) (fun _ _ _ h => h) (by kernel_rfl) (by kernel_rfl) (Or.inl ⟨rfl, fun w' hS => ?_⟩) HSp10 ?_
      · go_simp
      simp only [Act.put, List.setIfInBounds_toArray, List.set_cons_zero, List.set_cons_succ]
      refine Rg.Till.take (i := 5) (v := .agg #[.slice a4 D.nodes.length c4, .int .i64 D.root, .int .i64 D.next]) (some 15) rfl rfl (by kernel_rfl) (by kernel_rfl) (fun _ _ _ h => h) (by kernel_rfl) (by kernel_rfl) (Or.inl ⟨rfl, fun w' hS => ?_⟩) HSp10 ?_
      · go_simp
      simp only [Act.put, List.setIfInBounds_toArray, List.set_cons_zero, List.set_cons_succ]
      refine Rg.Till.take (i := 6) (v := .int .i64 er) (some 16) rfl rfl (by kernel_rfl) (by kernel_rfl) (fun _ _ _ h => h) (by kernel_rfl) (by kernel_rfl) (Or.inl ⟨rfl, fun w' hS => ?_⟩) HSp10 ?_
      · go_simp
      simp only [Act.put, List.setIfInBounds_toArray, List.set_cons_zero, List.set_cons_succ]
      have hBB11 : Below w2.heap.size w2 w4_10 := nxt (nxt (HBa8) hb3_9) hb4_10
      have hOO11 : DsOwn w4_10 _ (.agg #[.slice a4 D.nodes.length c4, .int .i64 D.root, .int .i64 D.next]) D := h4_10
      obtain ⟨f1, f2, f3⟩ := ds_fin HZp10 hOO11 HGa8 hBB11
      obtain ⟨z0, z0f⟩ := cell_of HZp10 0
      obtain ⟨z1, z1f⟩ := cell_of HZp10 1
      obtain ⟨z2, z2f⟩ := cell_of HZp10 2
      simp at z0 z1 z2
      have HSe11 : (fun w' : World => w'.heap[w.heap.size]? = some (.cells #[.slice a s.nodes.length c, .int .i64 s.root, .int .i64 s.next] 35 (0, 0)) ∧ w'.heap[w.heap.size + 1]? = some (.cells #[.int .i64 p.what, .int .i64 p.id, .int .i64 p.par, .int .i64 p.at_, .string p.tag, .string p.key, .string p.txt, .string p.name, .string p.val] 46 (0, 0))) (((w4_10.setCell ⟨w2.heap.size, 0, none⟩ (.slice a4 D.nodes.length c4)).setCell ⟨w2.heap.size, 1, none⟩ (.int .i64 D.root)).setCell ⟨w2.heap.size, 2, none⟩ (.int .i64 D.next)) := HST.out w2 _ f3 ⟨S2.out, P2.out⟩
      refine Rg.Till.oneK (i := 8) (by kernel_rfl) rfl rfl fun K hK => ?_
      go_simp
      refine hK.out _ _ (fun _ => HSe11) ?_
      clear hK K
      refine Rg.Till.oneK (i := 9) (by kernel_rfl) rfl rfl fun K hK => ?_
      go_simp
      refine hK.out _ _ (fun h => absurd rfl h) ?_
      clear hK K
      refine Rg.Till.done (by kernel_rfl) ?_
      clear z0 z0f z1 z1f z2 z2f HSe11 hOO11 hBB11
      go_wp2_with fail
      go_meet
      exact ⟨rfl, _, a4, c4, rfl, f1, ⟨_, f2⟩, f3⟩
  case rest =>
    obtain ⟨rfl, g, a4, c4, rfl, HG, HOW, HBC⟩ := hcut
    clear HOF HAP HST HS0
    have B3 : Hid (Below w.heap.size w wc) := nxt B2.out HBC.out
    have S3 : Hid (wc.heap[w.heap.size]? = _) := (HBC.out.block _ (lt_of_block S2.out)).trans S2.out
    by_cases he : er = 0
    · subst he
      have HAZ : Hid ((applyD s p).1 = 0 ∧ (applyD s p).2 = D) := ⟨by rw [← HR.out], by rw [← HR.out]⟩
      have HOK : Hid (OkD D ∧ s.next ≤ D.next) := by
        obtain ⟨h1, h2, h3⟩ := apply_zero HAZ.out.1
        have h4 := take_ok h1 p
        have h5 : (takeD s p).2 = D := by rw [← h3]; exact HAZ.out.2
        rw [h5] at h4
        exact ⟨h4.1, h4.2.2⟩
      have HDI : Hid (DsIs wc D a4 c4) := by
        obtain ⟨B, hB⟩ := HOW.out
        obtain ⟨a5, c5, e5, h5⟩ := hB.isL (by have := HOK.out.1.len; omega) (by
          rcases HOK.out.1.root with h0 | ⟨m, h1, -⟩
          · omega
          · obtain ⟨v, ab, kb, -, hO⟩ := hB
            have h2 := nd_some h1
            have h3 := (hO.fit m h2.1).id
            rw [h2.2] at h3
            exact h3) (by have := HOK.out.1.nx; omega)
        simp only [Value.agg.injEq, Array.mk.injEq, List.cons.injEq, Value.slice.injEq, and_true, true_and] at e5
        obtain ⟨rfl, rfl⟩ := e5
        exact h5
      have HCK : Hid (Calls Try.prog 17 #[.agg #[.slice a4 D.nodes.length c4, .int .i64 D.root, .int .i64 D.next]] wc fun e w' => e = .returned (.int .i64 0) ∧ Below wc.heap.size wc w') := by
        have h := checkD_any D a4 c4 wc HDI.out
        unfold chkD at h
        rw [if_pos (okD_iff.2 HOK.out.1)] at h
        exact h
      have gnx : decide (D.next < s.next) = false := by have := HOK.out.2; simp; omega
      have hlen : D.nodes.length ≤ 1024 := HOK.out.1.len
      obtain ⟨t0, t1, t2⟩ := three HG.out
      go_wp2_with (go_at_call 11; refine (numD_any _ _).mono ?_; rintro e w9 ⟨rfl, h9⟩; subst w9)
      refine HCK.out.mono ?_
      rintro e w5 ⟨rfl, hb5⟩
      have B5 : Hid (Below wc.heap.size wc w5) := hb5
      have u0 := keepc hb5 _ _ t0
      have u2 := keepc hb5 _ _ t2
      obtain ⟨q0, q1, q2⟩ := three ((hb5.block _ (lt_of_block S3.out)).trans S3.out)
      clear hb5 HCK t0 t1 t2
      go_wp2_with (go_at_call 11; refine (numD_any _ _).mono ?_; rintro e w9 ⟨rfl, h9⟩; subst w9)
      clear u0 u2 q0 q1 q2
      go_loopw [7] (fun v7 wr => ∃ i : Nat, i ≤ D.nodes.length ∧ v7 = .int .i64 (i : Int) ∧ Hid (Below wc.heap.size wc wr)) (fun v7 _ => D.nodes.length - (intOf v7).toNat)
      case atStart => exact ⟨0, Nat.zero_le _, rfl, B5.out⟩
      case round =>
        obtain ⟨i, hi, rfl, HW⟩ := hrel
        obtain ⟨t0, -, -⟩ := three ((HW.out.block _ (lt_of_block HG.out)).trans HG.out)
        by_cases hlt : i < D.nodes.length
        · obtain ⟨b, o, aa, ac, ka, kc, ha, hN⟩ := HDI.out.lay.below HW.out i D.nodes[i] (List.getElem?_eq_getElem hlt)
          subst ha
          have r0 := hN.c0
          have HGI : Hid (D.nodes[i]? = some D.nodes[i]) := List.getElem?_eq_getElem hlt
          obtain ⟨q0, q1, q2⟩ := three ((HW.out.block _ (lt_of_block S3.out)).trans S3.out)
          have HPL : Hid (∀ W, Below w.heap.size w W → Calls Try.prog 18 #[.agg #[.slice a s.nodes.length c, .int .i64 s.root, .int .i64 s.next], .int .i64 D.nodes[i].id] W fun e w' => e = .returned (.int .i64 (plI s.nodes D.nodes[i].id)) ∧ Below W.heap.size W w') := fun W hb => rplace_any s D.nodes[i].id a c W (HS.out W hb)
          have HNW : Hid (plI s.nodes D.nodes[i].id < 0 → s.next ≤ D.nodes[i].id) := fun h => keeps_new (p := p) HAZ.out.1 (by rw [HAZ.out.2]; exact HGI.out) h
          have BR : Hid (Below w.heap.size w wr) := nxt B3.out HW.out
          clear hN HGI
          generalize D.nodes[i] = m at *
          generalize m.id = mi at *
          generalize plI s.nodes mi = pv at *
          have e0 : ∀ z : Cls wr, z.1.cell? ⟨g, 0, none⟩ = some (.slice (some ⟨b, o, none⟩) D.nodes.length c4) := fun z => Cls.cell t0 z
          have e1 : ∀ z : Cls wr, z.1.cell? ⟨b, o + i * 7, none⟩ = some (.int .i64 mi) := fun z => Cls.cell r0 z
          have e2 : ∀ z : Cls wr, z.1.cell? ⟨w.heap.size, 0, none⟩ = some (.slice a s.nodes.length c) := fun z => Cls.cell q0 z
          have e3 : ∀ z : Cls wr, z.1.cell? ⟨w.heap.size, 1, none⟩ = some (.int .i64 s.root) := fun z => Cls.cell q1 z
          have e4 : ∀ z : Cls wr, z.1.cell? ⟨w.heap.size, 2, none⟩ = some (.int .i64 s.next) := fun z => Cls.cell q2 z
          have CP : Hid (∀ z : Cls wr, Calls Try.prog 18 #[.agg #[.slice a s.nodes.length c, .int .i64 s.root, .int .i64 s.next], .int .i64 mi] z.1 fun e w' => e = .returned (.int .i64 pv) ∧ Below z.1.heap.size z.1 w') := fun z => HPL.out z.1 (nxt BR.out z.2)
          have inst : Nonempty (Cls wr) := ⟨⟨_, Below.refl _ _⟩⟩
          by_cases hpv : pv < 0
          · have gp : decide (pv < 0) = true := by simpa using hpv
            have gi : decide (mi < s.next) = false := by have := HNW.out hpv; simp; omega
            clear hpv HNW
            go_wp2_with fail
            clear t0 r0 q0 q1 q2
            refine wp_region_cls (by kernel_rfl) (by kernel_rfl) ?_
            repeat (go_big_quiet_step ((go_at_call 18; exact Calls.cls (CP.out _))))
            refine wpQuiet_nil ?_
            intro _ hw'
            obtain ⟨z, hw''⟩ := hw'
            subst hw''
            have KS : Hid (Below wc.heap.size wc z.1) := nxt HW.out z.2
            go_wp2_with fail
            go_roundw
            case rel => exact ⟨i + 1, by omega, by go_num, KS.out⟩
            case measure => simp [intOf]; omega
          · have gp : decide (pv < 0) = false := by simpa using hpv
            clear hpv HNW
            go_wp2_with fail
            clear t0 r0 q0 q1 q2
            refine wp_region_cls (by kernel_rfl) (by kernel_rfl) ?_
            repeat (go_big_quiet_step ((go_at_call 18; exact Calls.cls (CP.out _))))
            refine wpQuiet_nil ?_
            intro _ hw'
            obtain ⟨z, hw''⟩ := hw'
            subst hw''
            have KS : Hid (Below wc.heap.size wc z.1) := nxt HW.out z.2
            go_wp2_with fail
            go_roundw
            case rel => exact ⟨i + 1, by omega, by go_num, KS.out⟩
            case measure => simp [intOf]; omega
        · go_wp2_with fail
          go_ret
          exact ⟨rfl, nxt B3.out HW.out⟩
    · have hD : D = noD := by
        have h1 : (applyD s p).2 = D := by rw [← HR.out]
        rw [← h1]
        exact apply_err (by rw [← HR.out]; exact he)
      subst hD
      have HG0 : Hid (wc.heap[g]? = some (.cells #[.slice a4 0 c4, .int .i64 0, .int .i64 0] 29 (0, 0))) := HG.out
      have ge : (er != 0) = true := by simpa using he
      clear HG HOW HR he
      obtain ⟨t0, t1, t2⟩ := three HG0.out
      go_wp2_with (go_at_call 11; refine (numD_any _ _).mono ?_; rintro e w9 ⟨rfl, h9⟩; subst w9)
      go_ret
      exact ⟨rfl, B3.out⟩

set_option maxRecDepth 100000 in
set_option maxHeartbeats 1600000 in
theorem lifted (os : Os) (started : os.Started) (H : Type) (enc : TypeId × Value → H) :
    ReturnsInHanded {} Try.checked os 4 .any (Rows.domKeepsSpec.pre6 enc Try.prog Try.f4 Rows.domKeepsRow.domain false) (Rows.domKeepsSpec.post enc Try.prog Try.f4 false true false false) := by
  refine returnsInHanded_of_change_sized (C := Try.checked) Try.own started (by kernel_rfl) Try.func4
    (ChangeSpec.witness6 (enc := enc) (C := Try.checked) false ⟨#[], #[.agg #[.slice none 0 0, .int .i64 0, .int .i64 0], .agg #[.int .i64 0, .int .i64 0, .int .i64 0, .int .i64 0, .string ⟨#[]⟩, .string ⟨#[]⟩, .string ⟨#[]⟩, .string ⟨#[]⟩, .string ⟨#[]⟩]], []⟩ 8 (by kernel_rfl) (by kernel_rfl) (by kernel_rfl) (by kernel_rfl)) ?_
  intro W base args ds gs before hval0 hW _ hsz0 _
  have hsz : (DataW.weightsEach Try.prog (Try.f4.params.toList ++ Rows.domKeepsSpec.plain.varTypes Try.prog) (ds ++ gs)).all (· ≤ reachBytes) = true := hsz0
  have hval : ∀ (j : Nat) t v, Try.f4.params[j]? = some t → args[j]? = some v → Value.okWide Try.prog W .any base t v := hval0
  have hW' := hW
  obtain ⟨p, q, hA0, hV, rfl, hfz, hnd⟩ := hW
  have hA : DataW.TrodAll enc Try.prog W 0 (fun _ => true) true Try.f4.params.toList args.toList ds p := hA0
  rw [Try.params4] at hA hval hsz
  obtain ⟨v0, vs0, d0, ds0, p0, q0, hargs, rfl, rfl, h0, r0⟩ := trodAll_cons hA
  obtain ⟨v1, vs1, d1, ds1, p1, q1, rfl, rfl, rfl, h1, r1⟩ := trodAll_cons r0
  obtain ⟨rfl, rfl, rfl⟩ := trodAll_nil r1
  obtain rfl : args = #[v0, v1] := by cases args; simp_all
  obtain ⟨rfl, rfl⟩ := trodVars_none hV
  clear hA0 hval0
  simp only [List.append_nil] at hW' hsz
  have hlt : ∀ x ∈ p0 ++ p1, x.block < W.heap.size := fun x hx => hW'.lt x (by simpa using hx)
  have hall : ∀ x ∈ DataW.weightsEach Try.prog [35, 46] [d0, d1], x ≤ reachBytes := fun x hx => of_decide_eq_true (List.all_eq_true.1 hsz x hx)
  have g0 : ∀ x ∈ d0.weights Try.prog 35, x ≤ reachBytes := fun x hx => hall x (DataW.weights_mem_each (j := 0) rfl rfl x hx)
  obtain ⟨u0, l0⟩ := ds_of_arg (hval 0 _ v0 rfl rfl) h0 g0
  have g1 : ∀ x ∈ d1.weights Try.prog 46, x ≤ reachBytes := fun x hx => hall x (DataW.weights_mem_each (j := 1) rfl rfl x hx)
  obtain ⟨u1, l1⟩ := pt_of_arg (hval 1 _ v1 rfl rfl) h1 g1
  refine (walk u0 v0 u1 v1 W l0 l1).mono fun e W' ⟨he, bel⟩ => ?_
  subst he
  exact ⟨_, rfl, _, _, _, [], _, [], hW', trodAll_mk1 (shut_bool Try.underlying4 _), (trodAll_cons_mk (Below.trod Try.laidOut (by kernel_rfl) (of_decide_eq_true (by kernel_rfl)) h0 bel (fun x hx => hlt x (by simp [hx]))) (trodAll_cons_mk (Below.trod Try.laidOut (by kernel_rfl) (of_decide_eq_true (by kernel_rfl)) h1 bel (fun x hx => hlt x (by simp [hx]))) trodAll_mk0)), rfl, bel.frame _, fun h => by cases h⟩

theorem over : Rows.domKeepsRow.holds Try.pinned (OpenSpec.ofChange Rows.domKeepsSpec) :=
  OpenClaim.holds_of_wide 4 Try.f4 rfl rfl rfl rfl rfl rfl rfl ⟨rfl, rfl, rfl, rfl, rfl⟩ rfl rfl rfl rfl rfl (by kernel_rfl) Try.func4 (by kernel_rfl)
    (of_decide_eq_true (by kernel_rfl)) (by unfold Func.isWrapper; first | (rw [if_pos (by decide +kernel)]; kernel_rfl) | (rw [if_neg (by decide +kernel)]; exact ⟨rfl, rfl⟩))
    (fun os started H enc _ => lifted os started H enc)

/-- THE STATEMENT. -/
theorem proved : Rows.DomKeepsSaid := over
#print axioms proved
end domKeeps
end Go.Proofs.Ytbadehbnpneepaa
