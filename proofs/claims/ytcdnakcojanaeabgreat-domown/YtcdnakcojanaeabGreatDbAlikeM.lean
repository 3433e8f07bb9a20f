/-
  Alike: of two displays that are one it answers 0.
-/
import Derived.Test.YtcdnakcojanaeabGreatTfFrameJ
import Derived.Test.YtcdnakcojanaeabGreatDoPlaceJ
import Derived.Test.YtcdnakcojanaeabGreatRgStoreM
namespace Go.Proofs.YtcdnakcojanaeabGreat
open Go.ChangeShapes Go.WideShapes Go.ChangeAt Go.RowKit Go.Deep
open Do

theorem FitN.nm {w : World} {n : Nd} {aa : Option Addr} {ac : Nat} {ka : Option Addr} {kc : Nat} (h : FitN n aa ac ka kc) (hk : LayZ w ka n.kids) : NmZ w ka kc n.kids := ⟨hk, h.kids⟩

set_option maxRecDepth 100000 in
set_option maxHeartbeats 3200000 in
theorem alikeD_any (D : Ds) (a a' : Option Addr) (c c' : Nat) (w : World) (h1 : DsIs w D a c) (h2 : DsIs w D a' c') :
    Calls Tryz.prog 9 #[.agg #[.slice a D.nodes.length c, .int .i64 D.root, .int .i64 D.next], .agg #[.slice a' D.nodes.length c', .int .i64 D.root, .int .i64 D.next]] w fun e w' => e = .returned (.int .i64 0) ∧ Below w.heap.size w w' := by
  have HL : Hid (LayN w a D.nodes) := h1.lay
  have HL' : Hid (LayN w a' D.nodes) := h2.lay
  have hlen := h1.len
  obtain ⟨ns, root, next⟩ := D
  simp only at *
  clear h1 h2
  have X1 : Hid (((w.alloc (.cells #[.slice a ns.length c, .int .i64 root, .int .i64 next] 30)).alloc (.cells #[.slice a' ns.length c', .int .i64 root, .int .i64 next] 24)).heap[w.heap.size]? = some (.cells #[.slice a ns.length c, .int .i64 root, .int .i64 next] 30 (0, 0))) := ((below_one _ _).block _ (by simp)).trans (heap_alloc_new _ _)
  have Y1 : Hid (((w.alloc (.cells #[.slice a ns.length c, .int .i64 root, .int .i64 next] 30)).alloc (.cells #[.slice a' ns.length c', .int .i64 root, .int .i64 next] 24)).heap[w.heap.size + 1]? = some (.cells #[.slice a' ns.length c', .int .i64 root, .int .i64 next] 24 (0, 0))) := heap_new2 _ _ _
  have B1 : Hid (Below w.heap.size w ((w.alloc (.cells #[.slice a ns.length c, .int .i64 root, .int .i64 next] 30)).alloc (.cells #[.slice a' ns.length c', .int .i64 root, .int .i64 next] 24))) := two_new _ _ _
  go_enter Tryz.func9, Tryz.ntmps9
  go_wp2_with fail
  generalize (w.alloc (.cells #[.slice a ns.length c, .int .i64 root, .int .i64 next] 30)).alloc (.cells #[.slice a' ns.length c', .int .i64 root, .int .i64 next] 24) = W1 at *
  go_loopw [5, 6, 7] (fun v5 _ _ wr => ∃ i : Nat, i ≤ ns.length ∧ v5 = .int .i64 (i : Int) ∧ Hid (Below W1.heap.size W1 wr)) (fun v5 _ _ _ => ns.length - (intOf v5).toNat)
  case atStart => exact ⟨0, Nat.zero_le _, rfl, Below.refl _ _⟩
  case round =>
    obtain ⟨i, hi, rfl, HB⟩ := hrel
    have BW : Hid (Below w.heap.size w wr) := nxt B1.out HB.out
    obtain ⟨x0, -, -⟩ := three ((HB.out.block _ (lt_of_block X1.out)).trans X1.out)
    obtain ⟨y0, -, -⟩ := three ((HB.out.block _ (lt_of_block Y1.out)).trans Y1.out)
    by_cases hlt : i < ns.length
    · obtain ⟨m, hm⟩ : ∃ m, ns[i]? = some m := ⟨_, List.getElem?_eq_getElem hlt⟩
      obtain ⟨b, o, aa, ac, ka, kc, ha, hN⟩ := HL.out.below BW.out i m hm
      obtain ⟨b', o', aa', ac', ka', kc', ha', hN'⟩ := HL'.out.below BW.out i m hm
      subst ha ha'
      obtain ⟨p0, p1, p2, p3, p4, p5, p6, hf, hA, hK⟩ := hN
      obtain ⟨q0, q1, q2, q3, q4, q5, q6, hf', hA', hK'⟩ := hN'
      have HF : Hid (FitN m aa ac ka kc ∧ LayA wr aa m.ats ∧ LayZ wr ka m.kids) := ⟨hf, hA, hK⟩
      have HF' : Hid (FitN m aa' ac' ka' kc' ∧ LayA wr aa' m.ats ∧ LayZ wr ka' m.kids) := ⟨hf', hA', hK'⟩
      clear hf hA hK hf' hA' hK' hm
      go_wp2_with fail
      go_cut [6, 7] (fun v6 v7 wc => ∃ g6 g7, v6 = .pointer (some ⟨g6, 0, none⟩) ∧ v7 = .pointer (some ⟨g7, 0, none⟩) ∧ Hid (wc.heap[g6]? = some (.cells #[.int .i64 m.id, .int .i64 m.par, .string m.tag, .string m.key, .string m.txt, .slice aa m.ats.length ac, .slice ka m.kids.length kc] 41 (0, 0))) ∧ Hid (wc.heap[g7]? = some (.cells #[.int .i64 m.id, .int .i64 m.par, .string m.tag, .string m.key, .string m.txt, .slice aa' m.ats.length ac', .slice ka' m.kids.length kc'] 56 (0, 0))) ∧ Hid (Below wr.heap.size wr wc))
      case first =>
        have HS0 : (fun w' : World => Below wr.heap.size wr w') wr.drew := (Below.refl _ wr).drew
        refine Rg.Till.region (fun w' : World => Below wr.heap.size wr w') 13 (by kernel_rfl) ?_
        show Rg.Till _ _ _ _ _ 14 (Array.replicate 14 false) _ _
        refine Rg.Till.take (i := 0) (v := .pointer (some ⟨w.heap.size, 0, none⟩)) (some 36) rfl rfl (by kernel_rfl) (by kernel_rfl) (fun _ _ _ h => h) (by kernel_rfl) (by kernel_rfl) (Or.inl ⟨rfl, fun w' hS => ?_⟩) HS0 ?_
        · go_simp
        simp only [Act.put, List.setIfInBounds_toArray, List.set_cons_zero, List.set_cons_succ]
        refine Rg.Till.take (i := 1) (v := .slice (some ⟨b, o, none⟩) ns.length c) (some 37) rfl rfl (by kernel_rfl) (by kernel_rfl) (fun _ _ _ h => h) (by kernel_rfl) (by kernel_rfl) (Or.inl ⟨rfl, fun w' hS => ?_⟩) HS0 ?_
        · have kx0 := keepc hS _ _ x0; go_simp
        simp only [Act.put, List.setIfInBounds_toArray, List.set_cons_zero, List.set_cons_succ]
        refine Rg.Till.take (i := 2) (v := .int .i64 (i : Int)) (some 38) rfl rfl (by kernel_rfl) (by kernel_rfl) (fun _ _ _ h => h) (by kernel_rfl) (by kernel_rfl) (Or.inl ⟨rfl, fun w' hS => ?_⟩) HS0 ?_
        · go_simp
        simp only [Act.put, List.setIfInBounds_toArray, List.set_cons_zero, List.set_cons_succ]
        refine Rg.Till.take (i := 3) (v := .pointer (some ⟨b, o + i * 7, none⟩)) (some 39) rfl rfl (by kernel_rfl) (by kernel_rfl) (fun _ _ _ h => h) (by kernel_rfl) (by kernel_rfl) (Or.inl ⟨rfl, fun w' hS => ?_⟩) HS0 ?_
        · go_simp
        simp only [Act.put, List.setIfInBounds_toArray, List.set_cons_zero, List.set_cons_succ]
        refine Rg.Till.take (i := 4) (v := .agg #[.int .i64 m.id, .int .i64 m.par, .string m.tag, .string m.key, .string m.txt, .slice aa m.ats.length ac, .slice ka m.kids.length kc]) (some 40) rfl rfl (by kernel_rfl) (by kernel_rfl) (fun _ _ _ h => h) (by kernel_rfl) (by kernel_rfl) (Or.inl ⟨rfl, fun w' hS => ?_⟩) HS0 ?_
        · have kp0 := keepc hS _ _ p0; have kp1 := keepc hS _ _ p1; have kp2 := keepc hS _ _ p2; have kp3 := keepc hS _ _ p3; have kp4 := keepc hS _ _ p4; have kp5 := keepc hS _ _ p5; have kp6 := keepc hS _ _ p6; go_simp
        simp only [Act.put, List.setIfInBounds_toArray, List.set_cons_zero, List.set_cons_succ]
        refine Rg.Till.take (i := 5) (v := .pointer (some ⟨w.heap.size + 1, 0, none⟩)) (some 41) rfl rfl (by kernel_rfl) (by kernel_rfl) (fun _ _ _ h => h) (by kernel_rfl) (by kernel_rfl) (Or.inl ⟨rfl, fun w' hS => ?_⟩) HS0 ?_
        · go_simp
        simp only [Act.put, List.setIfInBounds_toArray, List.set_cons_zero, List.set_cons_succ]
        refine Rg.Till.take (i := 6) (v := .slice (some ⟨b', o', none⟩) ns.length c') (some 42) rfl rfl (by kernel_rfl) (by kernel_rfl) (fun _ _ _ h => h) (by kernel_rfl) (by kernel_rfl) (Or.inl ⟨rfl, fun w' hS => ?_⟩) HS0 ?_
        · have ky0 := keepc hS _ _ y0; go_simp
        simp only [Act.put, List.setIfInBounds_toArray, List.set_cons_zero, List.set_cons_succ]
        refine Rg.Till.take (i := 7) (v := .int .i64 (i : Int)) (some 43) rfl rfl (by kernel_rfl) (by kernel_rfl) (fun _ _ _ h => h) (by kernel_rfl) (by kernel_rfl) (Or.inl ⟨rfl, fun w' hS => ?_⟩) HS0 ?_
        · go_simp
        simp only [Act.put, List.setIfInBounds_toArray, List.set_cons_zero, List.set_cons_succ]
        refine Rg.Till.take (i := 8) (v := .pointer (some ⟨b', o' + i * 7, none⟩)) (some 44) rfl rfl (by kernel_rfl) (by kernel_rfl) (fun _ _ _ h => h) (by kernel_rfl) (by kernel_rfl) (Or.inl ⟨rfl, fun w' hS => ?_⟩) HS0 ?_
        · go_simp
        simp only [Act.put, List.setIfInBounds_toArray, List.set_cons_zero, List.set_cons_succ]
        refine Rg.Till.take (i := 9) (v := .agg #[.int .i64 m.id, .int .i64 m.par, .string m.tag, .string m.key, .string m.txt, .slice aa' m.ats.length ac', .slice ka' m.kids.length kc']) (some 45) rfl rfl (by kernel_rfl) (by kernel_rfl) (fun _ _ _ h => h) (by kernel_rfl) (by kernel_rfl) (Or.inl ⟨rfl, fun w' hS => ?_⟩) HS0 ?_
        · have kq0 := keepc hS _ _ q0; have kq1 := keepc hS _ _ q1; have kq2 := keepc hS _ _ q2; have kq3 := keepc hS _ _ q3; have kq4 := keepc hS _ _ q4; have kq5 := keepc hS _ _ q5; have kq6 := keepc hS _ _ q6; go_simp
        simp only [Act.put, List.setIfInBounds_toArray, List.set_cons_zero, List.set_cons_succ]
        refine Rg.Till.twoK (i := 10) (j := 11) (by kernel_rfl) rfl rfl rfl rfl ?_ ?_
        · skip
          intro K hK
          go_simp
          have HA101 : Below wr.heap.size wr (wr.drew.alloc (.cells #[.int .i64 0, .int .i64 0, .string ⟨#[]⟩, .string ⟨#[]⟩, .string ⟨#[]⟩, .slice none 0 0, .slice none 0 0] 41)) := nxt HS0 (below_one _ _)
          refine hK.out _ _ (fun _ => HA101) ?_
          clear hK K
          refine Rg.Till.oneK (i := 11) (by kernel_rfl) rfl rfl ?_
          intro K hK
          go_simp
          have HA112 : Below wr.heap.size wr ((wr.drew.alloc (.cells #[.int .i64 0, .int .i64 0, .string ⟨#[]⟩, .string ⟨#[]⟩, .string ⟨#[]⟩, .slice none 0 0, .slice none 0 0] 41)).alloc (.cells #[.int .i64 0, .int .i64 0, .string ⟨#[]⟩, .string ⟨#[]⟩, .string ⟨#[]⟩, .slice none 0 0, .slice none 0 0] 56)) := nxt HA101 (below_one _ _)
          refine hK.out _ _ (fun _ => HA112) ?_
          clear hK K
          have HAW : Below wr.heap.size wr ((wr.alloc (.cells #[.int .i64 0, .int .i64 0, .string ⟨#[]⟩, .string ⟨#[]⟩, .string ⟨#[]⟩, .slice none 0 0, .slice none 0 0] 41)).alloc (.cells #[.int .i64 0, .int .i64 0, .string ⟨#[]⟩, .string ⟨#[]⟩, .string ⟨#[]⟩, .slice none 0 0, .slice none 0 0] 56)).drew := HA112
          have FA := (show (((wr.alloc (.cells #[.int .i64 0, .int .i64 0, .string ⟨#[]⟩, .string ⟨#[]⟩, .string ⟨#[]⟩, .slice none 0 0, .slice none 0 0] 41)).alloc (.cells #[.int .i64 0, .int .i64 0, .string ⟨#[]⟩, .string ⟨#[]⟩, .string ⟨#[]⟩, .slice none 0 0, .slice none 0 0] 56)).drew).heap[wr.heap.size]? = _ from ((below_one (wr.alloc _) _).block _ (by simp)).trans (heap_alloc_new wr _))
          have FB := (show (((wr.alloc (.cells #[.int .i64 0, .int .i64 0, .string ⟨#[]⟩, .string ⟨#[]⟩, .string ⟨#[]⟩, .slice none 0 0, .slice none 0 0] 41)).alloc (.cells #[.int .i64 0, .int .i64 0, .string ⟨#[]⟩, .string ⟨#[]⟩, .string ⟨#[]⟩, .slice none 0 0, .slice none 0 0] 56)).drew).heap[wr.heap.size + 1]? = _ from heap_new2 wr _ _)
          generalize ((wr.alloc (.cells #[.int .i64 0, .int .i64 0, .string ⟨#[]⟩, .string ⟨#[]⟩, .string ⟨#[]⟩, .slice none 0 0, .slice none 0 0] 41)).alloc (.cells #[.int .i64 0, .int .i64 0, .string ⟨#[]⟩, .string ⟨#[]⟩, .string ⟨#[]⟩, .slice none 0 0, .slice none 0 0] 56)).drew = W9 at *
          refine Rg.Till.oneK (i := 12) (by kernel_rfl) rfl rfl ?_
          intro K hK
          refine Rg.op_storeF rfl 41 (.tmp 6) (.tmp 40) rfl wr.heap.size _ 41 [.int .i64 m.id, .int .i64 m.par, .string m.tag, .string m.key, .string m.txt, .slice aa m.ats.length ac, .slice ka m.kids.length kc] rfl rfl FA rfl (by kernel_rfl) (by simp [Value.oneCell']) ?_
          intro w5 f1 f2 f3
          have HB5 : Below wr.heap.size wr w5 := f3 _ _ (Nat.le_refl _) HAW
          have FB5 := (f2 (wr.heap.size + 1) (Nat.succ_ne_self _)).trans FB
          refine hK.out _ _ (fun _ => HB5) ?_
          clear hK K
          refine Rg.Till.oneK (i := 13) (by kernel_rfl) rfl rfl ?_
          intro K hK
          refine Rg.op_storeF rfl 56 (.tmp 7) (.tmp 45) rfl (wr.heap.size + 1) _ 56 [.int .i64 m.id, .int .i64 m.par, .string m.tag, .string m.key, .string m.txt, .slice aa' m.ats.length ac', .slice ka' m.kids.length kc'] rfl rfl FB5 rfl (by kernel_rfl) (by simp [Value.oneCell']) ?_
          intro w6 r1 r2 r3
          have HB6 : Below wr.heap.size wr w6 := r3 _ _ (Nat.le_succ _) HB5
          have FA6 := (r2 wr.heap.size (Nat.ne_of_lt (Nat.lt_succ_self _))).trans f1
          refine hK.out _ _ (fun h => absurd rfl h) ?_
          clear hK K
          refine Rg.Till.done (by kernel_rfl) ?_
          clear x0 y0 p0 p1 p2 p3 p4 p5 p6 q0 q1 q2 q3 q4 q5 q6
          go_wp2_with fail
          go_meet
          exact ⟨_, _, rfl, rfl, FA6, r1, HB6⟩
        · skip
          intro K hK
          go_simp
          have HA111 : Below wr.heap.size wr (wr.drew.alloc (.cells #[.int .i64 0, .int .i64 0, .string ⟨#[]⟩, .string ⟨#[]⟩, .string ⟨#[]⟩, .slice none 0 0, .slice none 0 0] 56)) := nxt HS0 (below_one _ _)
          refine hK.out _ _ (fun _ => HA111) ?_
          clear hK K
          refine Rg.Till.oneK (i := 10) (by kernel_rfl) rfl rfl ?_
          intro K hK
          go_simp
          have HA102 : Below wr.heap.size wr ((wr.drew.alloc (.cells #[.int .i64 0, .int .i64 0, .string ⟨#[]⟩, .string ⟨#[]⟩, .string ⟨#[]⟩, .slice none 0 0, .slice none 0 0] 56)).alloc (.cells #[.int .i64 0, .int .i64 0, .string ⟨#[]⟩, .string ⟨#[]⟩, .string ⟨#[]⟩, .slice none 0 0, .slice none 0 0] 41)) := nxt HA111 (below_one _ _)
          refine hK.out _ _ (fun _ => HA102) ?_
          clear hK K
          have HAW : Below wr.heap.size wr ((wr.alloc (.cells #[.int .i64 0, .int .i64 0, .string ⟨#[]⟩, .string ⟨#[]⟩, .string ⟨#[]⟩, .slice none 0 0, .slice none 0 0] 56)).alloc (.cells #[.int .i64 0, .int .i64 0, .string ⟨#[]⟩, .string ⟨#[]⟩, .string ⟨#[]⟩, .slice none 0 0, .slice none 0 0] 41)).drew := HA102
          have FA := (show (((wr.alloc (.cells #[.int .i64 0, .int .i64 0, .string ⟨#[]⟩, .string ⟨#[]⟩, .string ⟨#[]⟩, .slice none 0 0, .slice none 0 0] 56)).alloc (.cells #[.int .i64 0, .int .i64 0, .string ⟨#[]⟩, .string ⟨#[]⟩, .string ⟨#[]⟩, .slice none 0 0, .slice none 0 0] 41)).drew).heap[wr.heap.size + 1]? = _ from heap_new2 wr _ _)
          have FB := (show (((wr.alloc (.cells #[.int .i64 0, .int .i64 0, .string ⟨#[]⟩, .string ⟨#[]⟩, .string ⟨#[]⟩, .slice none 0 0, .slice none 0 0] 56)).alloc (.cells #[.int .i64 0, .int .i64 0, .string ⟨#[]⟩, .string ⟨#[]⟩, .string ⟨#[]⟩, .slice none 0 0, .slice none 0 0] 41)).drew).heap[wr.heap.size]? = _ from ((below_one (wr.alloc _) _).block _ (by simp)).trans (heap_alloc_new wr _))
          generalize ((wr.alloc (.cells #[.int .i64 0, .int .i64 0, .string ⟨#[]⟩, .string ⟨#[]⟩, .string ⟨#[]⟩, .slice none 0 0, .slice none 0 0] 56)).alloc (.cells #[.int .i64 0, .int .i64 0, .string ⟨#[]⟩, .string ⟨#[]⟩, .string ⟨#[]⟩, .slice none 0 0, .slice none 0 0] 41)).drew = W9 at *
          refine Rg.Till.oneK (i := 12) (by kernel_rfl) rfl rfl ?_
          intro K hK
          refine Rg.op_storeF rfl 41 (.tmp 6) (.tmp 40) rfl (wr.heap.size + 1) _ 41 [.int .i64 m.id, .int .i64 m.par, .string m.tag, .string m.key, .string m.txt, .slice aa m.ats.length ac, .slice ka m.kids.length kc] rfl rfl FA rfl (by kernel_rfl) (by simp [Value.oneCell']) ?_
          intro w5 f1 f2 f3
          have HB5 : Below wr.heap.size wr w5 := f3 _ _ (Nat.le_succ _) HAW
          have FB5 := (f2 wr.heap.size (Nat.ne_of_lt (Nat.lt_succ_self _))).trans FB
          refine hK.out _ _ (fun _ => HB5) ?_
          clear hK K
          refine Rg.Till.oneK (i := 13) (by kernel_rfl) rfl rfl ?_
          intro K hK
          refine Rg.op_storeF rfl 56 (.tmp 7) (.tmp 45) rfl wr.heap.size _ 56 [.int .i64 m.id, .int .i64 m.par, .string m.tag, .string m.key, .string m.txt, .slice aa' m.ats.length ac', .slice ka' m.kids.length kc'] rfl rfl FB5 rfl (by kernel_rfl) (by simp [Value.oneCell']) ?_
          intro w6 r1 r2 r3
          have HB6 : Below wr.heap.size wr w6 := r3 _ _ (Nat.le_refl _) HB5
          have FA6 := (r2 (wr.heap.size + 1) (Nat.succ_ne_self _)).trans f1
          refine hK.out _ _ (fun h => absurd rfl h) ?_
          clear hK K
          refine Rg.Till.done (by kernel_rfl) ?_
          clear x0 y0 p0 p1 p2 p3 p4 p5 p6 q0 q1 q2 q3 q4 q5 q6
          go_wp2_with fail
          go_meet
          exact ⟨_, _, rfl, rfl, FA6, r1, HB6⟩
      case rest =>
        obtain ⟨g6, g7, rfl, rfl, HG6, HG7, HC⟩ := hcut
        have CA : Hid (∀ W, Below wr.heap.size wr W → Calls Tryz.prog 25 #[.slice aa m.ats.length ac, .slice aa' m.ats.length ac'] W fun e w' => e = .returned (.bool true) ∧ Below W.heap.size W w') := fun W hb => by
          have := sameA_any m.ats m.ats aa aa' ac ac' W (HF.out.2.1.below hb) (HF'.out.2.1.below hb) HF.out.1.ats.2.2.1 HF'.out.1.ats.2.2.1
          rwa [one_true rfl] at this
        have CI : Hid (∀ W, Below wr.heap.size wr W → Calls Tryz.prog 26 #[.slice ka m.kids.length kc, .slice ka' m.kids.length kc'] W fun e w' => e = .returned (.bool true) ∧ Below W.heap.size W w') := fun W hb => by
          have := sameI_any m.kids m.kids ka ka' kc kc' W (FitN.nm HF.out.1 (HF.out.2.2.below hb)) (FitN.nm HF'.out.1 (HF'.out.2.2.below hb))
          rwa [alike_same] at this
        clear x0 y0 p0 p1 p2 p3 p4 p5 p6 q0 q1 q2 q3 q4 q5 q6
        obtain ⟨p0, p1, p2, p3, p4, p5, p6⟩ := seven HG6.out
        obtain ⟨q0, q1, q2, q3, q4, q5, q6⟩ := seven HG7.out
        go_wp2_with fail
        refine (CA.out _ HC.out).mono ?_
        rintro e w5 ⟨rfl, hb5⟩
        have B5 : Hid (Below wr.heap.size wr w5) := nxt HC.out hb5
        have p6' := keepc hb5 _ _ p6
        have q6' := keepc hb5 _ _ q6
        clear p0 p1 p2 p3 p4 p5 p6 q0 q1 q2 q3 q4 q5 q6 hb5
        go_wp2_with fail
        refine (CI.out _ B5.out).mono ?_
        rintro e w6 ⟨rfl, hb6⟩
        have B6 : Hid (Below wr.heap.size wr w6) := nxt B5.out hb6
        clear p6' q6' hb6
        go_wp2_with fail
        go_roundw
        case rel => exact ⟨i + 1, by omega, by go_num, nxt HB.out B6.out⟩
        case measure => simp [intOf]; omega
    · go_wp2_with fail
      go_ret
      exact ⟨rfl, BW.out⟩
end Go.Proofs.YtcdnakcojanaeabGreat
