/-
  DomBack: a node that is hung elsewhere, and hung back where it was, makes the display that it was. (Printed by wip/make/mkdback.py.)
-/
import Derived.Test.YtomhfndjnbhliaaDbMathM
import Derived.Test.YtomhfndjnbhliaaDbCheckM
import Derived.Test.YtomhfndjnbhliaaDbAlikeM
namespace Go.Proofs.Ytomhfndjnbhliaa
open Go.ChangeShapes Go.WideShapes Go.ChangeAt Go.RowKit Go.Deep
open Do
namespace domBack

def ptH (id pr at_ : Int) : Pt := ⟨2, id, pr, at_, bE, bE, bE, bE, bE⟩

theorem ptH_ok (id pr at_ : Int) (h : -9223372036854775808 ≤ id ∧ id ≤ 9223372036854775807) (h2 : -9223372036854775808 ≤ pr ∧ pr ≤ 9223372036854775807) (h3 : -9223372036854775808 ≤ at_ ∧ at_ ≤ 9223372036854775807) : PtOk (ptH id pr at_) := ⟨h, h2, h3, show (0 : Nat) ≤ 140737488351232 by decide, show (0 : Nat) ≤ 140737488351232 by decide, show (0 : Nat) ≤ 140737488351232 by decide, show (0 : Nat) ≤ 140737488351232 by decide, show (0 : Nat) ≤ 140737488351232 by decide⟩

theorem apply_back {s : Ds} {id pr at_ : Int} {n g : Nd} {pc : Nat} (hs : OkD s) (h0 : (applyD s (ptH id pr at_)).1 = 0) (hn : nd s.nodes id = some n) (hp : n.par ≠ 0) (hg : nd s.nodes n.par = some g) (hpc : g.kids[pc]? = some id) :
    OkD (applyD s (ptH id pr at_)).2 ∧ applyD (applyD s (ptH id pr at_)).2 (ptH id n.par pc) = (0, s) := by
  obtain ⟨h1, h2, h3⟩ := apply_zero h0
  have e : takeD s (ptH id pr at_) = hangD s (ptH id pr at_) := rfl
  rw [e] at h2 h3
  rw [h3]
  have hok := (hang_ok hs (ptH id pr at_)).1
  have hb := hang_back (p := ptH id pr at_) (p' := ptH id n.par pc) hs hn hp hg hpc h2 rfl rfl rfl
  refine ⟨hok, ?_⟩
  have e2 : takeD (hangD s (ptH id pr at_)).2 (ptH id n.par pc) = hangD (hangD s (ptH id pr at_)).2 (ptH id n.par pc) := rfl
  unfold applyD
  rw [if_pos (okD_iff.2 hok), e2, hb]
  rfl

set_option maxRecDepth 100000 in
set_option maxHeartbeats 3200000 in
theorem walk (s : Ds) (x : Value) (id pr at_ : Int) (w : World) (hx : DsArg w x s) (hwf : (Lit.int IntKind.i64 id).wf = true) (hwf2 : (Lit.int IntKind.i64 pr).wf = true) (hwf3 : (Lit.int IntKind.i64 at_).wf = true) :
    Calls Try.prog 5 #[x, .int .i64 id, .int .i64 pr, .int .i64 at_] w fun e w' => e = .returned (.bool true) ∧ Below w.heap.size w w' := by
  obtain ⟨a, c, rfl, hs⟩ := hx
  have hid : -9223372036854775808 ≤ id ∧ id ≤ 9223372036854775807 := by have := bounds_i64 hwf; omega
  have hpr : -9223372036854775808 ≤ pr ∧ pr ≤ 9223372036854775807 := by have := bounds_i64 hwf2; omega
  have hat : -9223372036854775808 ≤ at_ ∧ at_ ≤ 9223372036854775807 := by have := bounds_i64 hwf3; omega
  clear hwf hwf2 hwf3
  have HS : Hid (∀ W, Below w.heap.size w W → DsIs W s a c) := fun W hb => hs.below hb
  have HPO : Hid (PtOk (ptH id pr at_)) := ptH_ok id pr at_ hid hpr hat
  have HID : Hid (-9223372036854775808 ≤ id ∧ id ≤ 9223372036854775807) := hid
  have hlen0 := hs.len
  clear hs hid hpr hat
  obtain ⟨W1, hW1⟩ : ∃ W : World, W = w.alloc (.cells #[.slice a s.nodes.length c, .int .i64 s.root, .int .i64 s.next] 35) := ⟨_, rfl⟩
  have B1 : Hid (Below w.heap.size w W1) := by show Below _ _ _; rw [hW1]; exact below_one _ _
  have Y0 : Hid (W1.heap[w.heap.size]? = some (.cells #[.slice a s.nodes.length c, .int .i64 s.root, .int .i64 s.next] 35 (0, 0))) := by show _ = _; rw [hW1]; exact heap_alloc_new _ _
  go_enter Try.func5, Try.ntmps5
  go_wp2_with fail
  rw [← hW1]
  clear hW1
  refine (aliveD_any W1).mono ?_
  rintro e w2 ⟨rfl, hb2⟩
  have B2 : Hid (Below w.heap.size w w2) := nxt B1.out hb2
  have S2 : Hid (w2.heap[w.heap.size]? = some (.cells #[.slice a s.nodes.length c, .int .i64 s.root, .int .i64 s.next] 35 (0, 0))) := (hb2.block _ (lt_of_block Y0.out)).trans Y0.out
  clear hb2 Y0 B1
  have HPL : Hid (∀ W z, Below w.heap.size w W → Calls Try.prog 18 #[.agg #[.slice a s.nodes.length c, .int .i64 s.root, .int .i64 s.next], .int .i64 z] W fun e w' => e = .returned (.int .i64 (plI s.nodes z)) ∧ Below W.heap.size W w') := fun W z hb => rplace_any s z a c W (HS.out W hb)
  have HCK : Hid (∀ W, Below w.heap.size w W → Calls Try.prog 19 #[.agg #[.slice a s.nodes.length c, .int .i64 s.root, .int .i64 s.next]] W fun e w' => e = .returned (.int .i64 (chkD s)) ∧ Below W.heap.size W w') := fun W hb => rcheckD_any s a c W (HS.out W hb)
  obtain ⟨y0, y1, y2⟩ := three S2.out
  go_wp2_with fail
  refine (HPL.out _ id B2.out).mono ?_
  rintro e w3 ⟨rfl, hb3⟩
  have B3 : Hid (Below w.heap.size w w3) := nxt B2.out hb3
  have S3 : Hid (w3.heap[w.heap.size]? = _) := (hb3.block _ (lt_of_block S2.out)).trans S2.out
  clear y0 y1 y2 hb3 S2 B2
  obtain ⟨y0, y1, y2⟩ := three S3.out
  by_cases hok : OkD s
  · have HCZ : Hid (∀ W, Below w.heap.size w W → Calls Try.prog 19 #[.agg #[.slice a s.nodes.length c, .int .i64 s.root, .int .i64 s.next]] W fun e w' => e = .returned (.int .i64 0) ∧ Below W.heap.size W w') := fun W hb => by have := HCK.out W hb; rwa [chk_ok hok] at this
    have HOK : Hid (OkD s) := hok
    have hs1024 : s.nodes.length ≤ 1024 := hok.len
    clear hok HCK
    cases hk : pl s.nodes id with
    | none =>
      rw [plI_none hk]
      clear hk
      go_wp2_with fail
      refine (HCZ.out _ B3.out).mono ?_
      rintro e w4 ⟨rfl, hb4⟩
      clear y0 y1 y2
      go_wp2_with fail
      go_ret
      exact ⟨rfl, nxt B3.out hb4⟩
    | some k =>
      rw [plI_some hk]
      obtain ⟨n, hn, -⟩ := pl_some hk
      have HND : Hid (nd s.nodes id = some n) := at_nd hk hn
      have hkl : k < s.nodes.length := (List.getElem?_eq_some_iff.1 hn).1
      have HN : Hid (s.nodes[k]? = some n) := hn
      have gk : decide ((k : Int) < 0) = false := decide_eq_false (by omega)
      clear hk hn
      go_wp2_with fail
      refine (HCZ.out _ B3.out).mono ?_
      rintro e w4 ⟨rfl, hb4⟩
      have B4 : Hid (Below w.heap.size w w4) := nxt B3.out hb4
      have S4 : Hid (w4.heap[w.heap.size]? = _) := (hb4.block _ (lt_of_block S3.out)).trans S3.out
      obtain ⟨b, o, aa, ac, ka, kc, ha, hNA⟩ := (HS.out w4 B4.out).lay k n HN.out
      subst ha
      have r1 := hNA.c1
      clear y0 y1 y2 hb4 S3 B3 HCZ hNA
      obtain ⟨y0, y1, y2⟩ := three S4.out
      by_cases hp : n.par = 0
      · have gp : (n.par == 0) = true := by simpa using hp
        clear hp
        go_wp2_with fail
        go_ret
        exact ⟨rfl, B4.out⟩
      · have gp : (n.par == 0) = false := by simpa using hp
        obtain ⟨g, hg, hgk⟩ := (HOK.out.good.at HND.out).par hp
        obtain ⟨t, ht, htg⟩ := nd_at hg
        have htl : t < s.nodes.length := (List.getElem?_eq_some_iff.1 htg).1
        have HG : Hid (nd s.nodes n.par = some g ∧ id ∈ g.kids ∧ n.par ≠ 0) := ⟨hg, hgk, hp⟩
        have HPT : Hid (∀ W, Below w.heap.size w W → Calls Try.prog 18 #[.agg #[.slice (some ⟨b, o, none⟩) s.nodes.length c, .int .i64 s.root, .int .i64 s.next], .int .i64 n.par] W fun e w' => e = .returned (.int .i64 (t : Int)) ∧ Below W.heap.size W w') := fun W hb => by have := HPL.out W n.par hb; rwa [plI_some ht] at this
        obtain ⟨b', o', ga, gac, gk', gkc, ha', hGA⟩ := (HS.out w4 B4.out).lay t g htg
        cases ha'
        have HGF : Hid (FitN g ga gac gk' gkc ∧ LayZ w4 gk' g.kids) := ⟨hGA.fit, hGA.kids⟩
        obtain ⟨p0, p1, p2, p3, p4, p5, p6, -, -, -⟩ := hGA
        clear hp hg hgk ht htg HPL
        go_wp2_with fail
        go_cut [10] (fun v10 wc => ∃ g10, v10 = .pointer (some ⟨g10, 0, none⟩) ∧ Hid (wc.heap[g10]? = some (.cells #[.int .i64 g.id, .int .i64 g.par, .string g.tag, .string g.key, .string g.txt, .slice ga g.ats.length gac, .slice gk' g.kids.length gkc] 57 (0, 0))) ∧ Hid (Below w4.heap.size w4 wc))
        case first =>
          have HS0 : (fun w' : World => Below w4.heap.size w4 w') w4.drew := (Below.refl _ w4).drew
          refine Rg.Till.region (fun w' : World => Below w4.heap.size w4 w') 13 (by kernel_rfl) ?_
          show Rg.Till _ _ _ _ _ 14 (Array.replicate 14 false) _ _
          refine Rg.Till.take (i := 0) (v := .pointer (some ⟨w.heap.size, 0, none⟩)) (some 37) rfl rfl (by kernel_rfl) (by kernel_rfl) (fun _ _ _ h => h) (by kernel_rfl) (by kernel_rfl) (Or.inl ⟨rfl, fun w' hS => ?_⟩) HS0 ?_
          · go_simp
          simp only [Act.put, List.setIfInBounds_toArray, List.set_cons_zero, List.set_cons_succ]
          refine Rg.Till.take (i := 1) (v := .slice (some ⟨b, o, none⟩) s.nodes.length c) (some 38) rfl rfl (by kernel_rfl) (by kernel_rfl) (fun _ _ _ h => h) (by kernel_rfl) (by kernel_rfl) (Or.inl ⟨rfl, fun w' hS => ?_⟩) HS0 ?_
          · have ky0 := keepc hS _ _ y0; go_simp
          simp only [Act.put, List.setIfInBounds_toArray, List.set_cons_zero, List.set_cons_succ]
          refine Rg.Till.take (i := 2) (v := .agg #[.slice (some ⟨b, o, none⟩) s.nodes.length c, .int .i64 s.root, .int .i64 s.next]) (some 39) rfl rfl (by kernel_rfl) (by kernel_rfl) (fun _ _ _ h => h) (by kernel_rfl) (by kernel_rfl) (Or.inl ⟨rfl, fun w' hS => ?_⟩) HS0 ?_
          · have ky0 := keepc hS _ _ y0; have ky1 := keepc hS _ _ y1; have ky2 := keepc hS _ _ y2; go_simp
          simp only [Act.put, List.setIfInBounds_toArray, List.set_cons_zero, List.set_cons_succ]
          refine Rg.Till.take (i := 3) (v := .pointer (some ⟨w.heap.size, 0, none⟩)) (some 40) rfl rfl (by kernel_rfl) (by kernel_rfl) (fun _ _ _ h => h) (by kernel_rfl) (by kernel_rfl) (Or.inl ⟨rfl, fun w' hS => ?_⟩) HS0 ?_
          · go_simp
          simp only [Act.put, List.setIfInBounds_toArray, List.set_cons_zero, List.set_cons_succ]
          refine Rg.Till.take (i := 4) (v := .slice (some ⟨b, o, none⟩) s.nodes.length c) (some 41) rfl rfl (by kernel_rfl) (by kernel_rfl) (fun _ _ _ h => h) (by kernel_rfl) (by kernel_rfl) (Or.inl ⟨rfl, fun w' hS => ?_⟩) HS0 ?_
          · have ky0 := keepc hS _ _ y0; go_simp
          simp only [Act.put, List.setIfInBounds_toArray, List.set_cons_zero, List.set_cons_succ]
          refine Rg.Till.take (i := 5) (v := .int .i64 (k : Int)) (some 42) rfl rfl (by kernel_rfl) (by kernel_rfl) (fun _ _ _ h => h) (by kernel_rfl) (by kernel_rfl) (Or.inl ⟨rfl, fun w' hS => ?_⟩) HS0 ?_
          · go_simp
          simp only [Act.put, List.setIfInBounds_toArray, List.set_cons_zero, List.set_cons_succ]
          refine Rg.Till.take (i := 6) (v := .pointer (some ⟨b, o + k * 7, none⟩)) (some 43) rfl rfl (by kernel_rfl) (by kernel_rfl) (fun _ _ _ h => h) (by kernel_rfl) (by kernel_rfl) (Or.inl ⟨rfl, fun w' hS => ?_⟩) HS0 ?_
          · go_simp
          simp only [Act.put, List.setIfInBounds_toArray, List.set_cons_zero, List.set_cons_succ]
          refine Rg.Till.take (i := 7) (v := .pointer (some ⟨b, o + k * 7 + 1, none⟩)) (some 44) rfl rfl (by kernel_rfl) (by kernel_rfl) (fun _ _ _ h => h) (by kernel_rfl) (by kernel_rfl) (Or.inl ⟨rfl, fun w' hS => ?_⟩) HS0 ?_
          · go_simp
          simp only [Act.put, List.setIfInBounds_toArray, List.set_cons_zero, List.set_cons_succ]
          refine Rg.Till.take (i := 8) (v := .int .i64 n.par) (some 45) rfl rfl (by kernel_rfl) (by kernel_rfl) (fun _ _ _ h => h) (by kernel_rfl) (by kernel_rfl) (Or.inl ⟨rfl, fun w' hS => ?_⟩) HS0 ?_
          · have kr1 := keepc hS _ _ r1; go_simp
          simp only [Act.put, List.setIfInBounds_toArray, List.set_cons_zero, List.set_cons_succ]
          refine Rg.Till.twoK (i := 9) (j := 12) (by kernel_rfl) rfl rfl rfl rfl ?_ ?_
          · skip
            intro K hK
            refine op_call2 (d := some 46) rfl 18 (by intros; go_simp) _ _ _ rfl _ _ rfl rfl ((HPT.out _ (nxt B4.out HS0)).mono ?_)
            rintro e w5 ⟨rfl, hb5⟩
            have HC1 : Below w4.heap.size w4 w5 := nxt HS0 hb5
            refine ⟨_, rfl, hK.out _ _ (fun _ => HC1) ?_⟩
            clear hK K
            simp only [Act.put, List.setIfInBounds_toArray, List.set_cons_zero, List.set_cons_succ]
            refine Rg.Till.take (i := 10) (v := .pointer (some ⟨b, o + t * 7, none⟩)) (some 47) rfl rfl (by kernel_rfl) (by kernel_rfl) (fun _ _ _ h => h) (by kernel_rfl) (by kernel_rfl) (Or.inl ⟨rfl, fun w' hS => ?_⟩) HC1 ?_
            · go_simp
            simp only [Act.put, List.setIfInBounds_toArray, List.set_cons_zero, List.set_cons_succ]
            refine Rg.Till.take (i := 11) (v := .agg #[.int .i64 g.id, .int .i64 g.par, .string g.tag, .string g.key, .string g.txt, .slice ga g.ats.length gac, .slice gk' g.kids.length gkc]) (some 48) rfl rfl (by kernel_rfl) (by kernel_rfl) (fun _ _ _ h => h) (by kernel_rfl) (by kernel_rfl) (Or.inl ⟨rfl, fun w' hS => ?_⟩) HC1 ?_
            · have kp0 := keepc hS _ _ p0; have kp1 := keepc hS _ _ p1; have kp2 := keepc hS _ _ p2; have kp3 := keepc hS _ _ p3; have kp4 := keepc hS _ _ p4; have kp5 := keepc hS _ _ p5; have kp6 := keepc hS _ _ p6; go_simp
            simp only [Act.put, List.setIfInBounds_toArray, List.set_cons_zero, List.set_cons_succ]
            refine Rg.Till.oneK (i := 12) (by kernel_rfl) rfl rfl ?_
            intro K hK
            go_simp
            have HA1 : Below w4.heap.size w4 (w5.alloc (.cells #[.int .i64 0, .int .i64 0, .string ⟨#[]⟩, .string ⟨#[]⟩, .string ⟨#[]⟩, .slice none 0 0, .slice none 0 0] 57)) := nxt HC1 (below_one _ _)
            refine hK.out _ _ (fun _ => HA1) ?_
            clear hK K
            have FB : (w5.alloc (.cells #[.int .i64 0, .int .i64 0, .string ⟨#[]⟩, .string ⟨#[]⟩, .string ⟨#[]⟩, .slice none 0 0, .slice none 0 0] 57)).heap[w5.heap.size]? = _ := heap_alloc_new _ _
            refine Rg.Till.oneK (i := 13) (by kernel_rfl) rfl rfl ?_
            intro K hK
            refine Rg.op_storeF rfl 57 (.tmp 10) (.tmp 48) rfl w5.heap.size _ 57 [.int .i64 g.id, .int .i64 g.par, .string g.tag, .string g.key, .string g.txt, .slice ga g.ats.length gac, .slice gk' g.kids.length gkc] rfl rfl FB rfl (by kernel_rfl) (by simp [Value.oneCell']) ?_
            intro w6 f1 f2 f3
            have HB6 : Below w4.heap.size w4 w6 := f3 _ _ HC1.size HA1
            refine hK.out _ _ (fun h => absurd rfl h) ?_
            clear hK K
            refine Rg.Till.done (by kernel_rfl) ?_
            clear y0 y1 y2 r1 p0 p1 p2 p3 p4 p5 p6
            go_wp2_with fail
            go_meet
            exact ⟨_, rfl, f1, HB6⟩
          · skip
            intro K hK
            go_simp
            have HA2 : Below w4.heap.size w4 (w4.drew.alloc (.cells #[.int .i64 0, .int .i64 0, .string ⟨#[]⟩, .string ⟨#[]⟩, .string ⟨#[]⟩, .slice none 0 0, .slice none 0 0] 57)) := nxt HS0 (below_one _ _)
            refine hK.out _ _ (fun _ => HA2) ?_
            clear hK K
            refine Rg.Till.oneK (i := 9) (by kernel_rfl) rfl rfl ?_
            intro K hK
            refine op_call2 (d := some 46) rfl 18 (by intros; go_simp) _ _ _ rfl _ _ rfl rfl ((HPT.out _ (nxt B4.out HA2)).mono ?_)
            rintro e w5 ⟨rfl, hb5⟩
            have HC2 : Below w4.heap.size w4 w5 := nxt HA2 hb5
            refine ⟨_, rfl, hK.out _ _ (fun _ => HC2) ?_⟩
            clear hK K
            simp only [Act.put, List.setIfInBounds_toArray, List.set_cons_zero, List.set_cons_succ]
            refine Rg.Till.take (i := 10) (v := .pointer (some ⟨b, o + t * 7, none⟩)) (some 47) rfl rfl (by kernel_rfl) (by kernel_rfl) (fun _ _ _ h => h) (by kernel_rfl) (by kernel_rfl) (Or.inl ⟨rfl, fun w' hS => ?_⟩) HC2 ?_
            · go_simp
            simp only [Act.put, List.setIfInBounds_toArray, List.set_cons_zero, List.set_cons_succ]
            refine Rg.Till.take (i := 11) (v := .agg #[.int .i64 g.id, .int .i64 g.par, .string g.tag, .string g.key, .string g.txt, .slice ga g.ats.length gac, .slice gk' g.kids.length gkc]) (some 48) rfl rfl (by kernel_rfl) (by kernel_rfl) (fun _ _ _ h => h) (by kernel_rfl) (by kernel_rfl) (Or.inl ⟨rfl, fun w' hS => ?_⟩) HC2 ?_
            · have kp0 := keepc hS _ _ p0; have kp1 := keepc hS _ _ p1; have kp2 := keepc hS _ _ p2; have kp3 := keepc hS _ _ p3; have kp4 := keepc hS _ _ p4; have kp5 := keepc hS _ _ p5; have kp6 := keepc hS _ _ p6; go_simp
            simp only [Act.put, List.setIfInBounds_toArray, List.set_cons_zero, List.set_cons_succ]
            have FB : w5.heap[w4.heap.size]? = _ := (hb5.block _ (by show w4.heap.size < (w4.alloc _).heap.size; simp)).trans (heap_alloc_new w4 _)
            refine Rg.Till.oneK (i := 13) (by kernel_rfl) rfl rfl ?_
            intro K hK
            refine Rg.op_storeF rfl 57 (.tmp 10) (.tmp 48) rfl w4.heap.size _ 57 [.int .i64 g.id, .int .i64 g.par, .string g.tag, .string g.key, .string g.txt, .slice ga g.ats.length gac, .slice gk' g.kids.length gkc] rfl rfl FB rfl (by kernel_rfl) (by simp [Value.oneCell']) ?_
            intro w6 f1 f2 f3
            have HB6 : Below w4.heap.size w4 w6 := f3 _ _ (Nat.le_refl _) HC2
            refine hK.out _ _ (fun h => absurd rfl h) ?_
            clear hK K
            refine Rg.Till.done (by kernel_rfl) ?_
            clear y0 y1 y2 r1 p0 p1 p2 p3 p4 p5 p6
            go_wp2_with fail
            go_meet
            exact ⟨_, rfl, f1, HB6⟩
        case rest =>
          obtain ⟨g10, rfl, HGB, HBC⟩ := hcut
          have B5 : Hid (Below w.heap.size w wc) := nxt B4.out HBC.out
          have S5 : Hid (wc.heap[w.heap.size]? = _) := (HBC.out.block _ (lt_of_block S4.out)).trans S4.out
          have HGZ : Hid (LayZ wc gk' g.kids) := HGF.out.2.below HBC.out
          have hgl : g.kids.length ≤ 32 := (alone_iff.1 (HOK.out.good.at HG.out.1).alone).2.2
          clear y0 y1 y2 r1 p0 p1 p2 p3 p4 p5 p6 HPT gk gp S4 B4 HBC
          go_wp2_with fail
          obtain ⟨W5, hW5⟩ : ∃ W, W = wc := ⟨_, rfl⟩
          subst hW5
          go_loopw [11] (fun v11 wr => ∃ i : Nat, v11 = .int .i64 (i : Int) ∧ Hid (∀ j z, j < i → g.kids[j]? = some z → ¬ z = id) ∧ Hid (i ≤ g.kids.length) ∧ wr = W5) (fun v11 _ => g.kids.length - (intOf v11).toNat)
          case atStart => exact ⟨0, rfl, (fun j z h => by omega), Nat.zero_le _, rfl⟩
          case round =>
            obtain ⟨pc, rfl, HZ, HLE, rfl⟩ := hrel
            have hlt : pc < g.kids.length := by
              rcases Nat.lt_or_ge pc g.kids.length with h | h
              · exact h
              · obtain ⟨j, hj, e⟩ := List.getElem_of_mem HG.out.2.1
                exact absurd e (HZ.out j _ (by omega) (List.getElem?_eq_getElem hj))
            obtain ⟨kb, ko, hka, z0, -⟩ := HGZ.out pc g.kids[pc] (List.getElem?_eq_getElem hlt)
            obtain ⟨-, -, -, -, -, -, p6⟩ := seven HGB.out
            have HPC : Hid (g.kids[pc]? = some g.kids[pc]) := List.getElem?_eq_getElem hlt
            subst hka
            by_cases he : g.kids[pc] = id
            · have HPI : Hid (g.kids[pc]? = some id) := by show _ = _; rw [HPC.out, he]
              have ge : (g.kids[pc] != id) = false := by simpa using he
              clear HPC he
              generalize g.kids[pc] = kk at *
              obtain ⟨y0, y1, y2⟩ := three S5.out
              obtain ⟨r, hr⟩ : ∃ r, r = applyD s (ptH id pr at_) := ⟨_, rfl⟩
              have HR : Hid (r = applyD s (ptH id pr at_)) := hr
              have HOF : Hid (Calls Try.prog 16 #[.agg #[.slice (some ⟨b, o, none⟩) s.nodes.length c, .int .i64 s.root, .int .i64 s.next]] wr fun e w' => ∃ a3 c3, e = .returned (.agg #[.slice a3 s.nodes.length c3, .int .i64 s.root, .int .i64 s.next]) ∧ DsIs w' s a3 c3 ∧ Below wr.heap.size wr w') := (of_any s _ c wr (HS.out wr B5.out)).mono fun e w' ⟨x, he, hx, hb'⟩ => by
                obtain ⟨a3, c3, rfl, h3⟩ := hx.isL (HS.out wr B5.out).len (HS.out wr B5.out).root (HS.out wr B5.out).next
                exact ⟨a3, c3, he, h3, hb'⟩
              have HAP : Hid (∀ W a3 c3, DsIs W s a3 c3 → Calls Try.prog 15 #[.agg #[.slice a3 s.nodes.length c3, .int .i64 s.root, .int .i64 s.next], .agg #[.int .i64 2, .int .i64 id, .int .i64 pr, .int .i64 at_, .string ⟨#[]⟩, .string ⟨#[]⟩, .string ⟨#[]⟩, .string ⟨#[]⟩, .string ⟨#[]⟩]] W fun e w' => ∃ a4 c4, e = .returned (.tuple #[.agg #[.slice a4 r.2.nodes.length c4, .int .i64 r.2.root, .int .i64 r.2.next], .int .i64 r.1]) ∧ DsOwn w' W.heap.size (.agg #[.slice a4 r.2.nodes.length c4, .int .i64 r.2.root, .int .i64 r.2.next]) r.2 ∧ Below W.heap.size W w') := fun W a3 c3 h3 => (apply_any s (ptH id pr at_) a3 c3 W h3 HPO.out).mono fun e w' ⟨x, he, hx, hb'⟩ => by
                rw [← hr] at he hx
                obtain ⟨a4, c4, rfl, h4⟩ := (show DsOwn w' W.heap.size x (applyD s (ptH id pr at_)).2 by rw [← hr]; exact hx).isA
                rw [← hr] at *
                exact ⟨a4, c4, he, hx, hb'⟩
              clear hr
              obtain ⟨er, D⟩ := r
              simp only at HAP
              go_wp2_with fail
              refine HOF.out.mono ?_
              rintro e w6 ⟨a3, c3, rfl, h3, hb3⟩
              have H6 : Hid (DsIs w6 s a3 c3) := h3
              have B6 : Hid (Below wr.heap.size wr w6) := hb3
              clear h3 hb3 HOF y0 y1 y2 z0 p6
              go_wp2_with fail
              refine (HAP.out w6 a3 c3 H6.out).mono ?_
              rintro e w7 ⟨a4, c4, rfl, h4, hb4⟩
              have HOW : Hid (∃ B, DsOwn (w7.alloc (.cells #[.slice a4 D.nodes.length c4, .int .i64 D.root, .int .i64 D.next] 29)) B (.agg #[.slice a4 D.nodes.length c4, .int .i64 D.root, .int .i64 D.next]) D) := ⟨_, h4.below (below_one _ _)⟩
              have HBC : Hid (Below wr.heap.size wr (w7.alloc (.cells #[.slice a4 D.nodes.length c4, .int .i64 D.root, .int .i64 D.next] 29))) := nxt (nxt B6.out hb4) (below_one _ _)
              have HDB : Hid ((w7.alloc (.cells #[.slice a4 D.nodes.length c4, .int .i64 D.root, .int .i64 D.next] 29)).heap[w7.heap.size]? = some (.cells #[.slice a4 D.nodes.length c4, .int .i64 D.root, .int .i64 D.next] 29 (0, 0))) := heap_alloc_new _ _
              clear h4 hb4 HAP H6 B6
              go_wp2_with fail
              generalize w7.alloc (.cells #[.slice a4 D.nodes.length c4, .int .i64 D.root, .int .i64 D.next] 29) = w8 at *
              generalize w7.heap.size = gd at *
              have B8 : Hid (Below w.heap.size w w8) := nxt B5.out HBC.out
              have S8 : Hid (w8.heap[w.heap.size]? = _) := (HBC.out.block _ (lt_of_block S5.out)).trans S5.out
              have HG8 : Hid (w8.heap[g10]? = _) := (HBC.out.block _ (lt_of_block HGB.out)).trans HGB.out
              refine (numD_any _ _).mono ?_
              rintro e w9 ⟨rfl, h9⟩
              subst w9
              by_cases he : er = 0
              · subst he
                have HAZ : Hid ((applyD s (ptH id pr at_)).1 = 0 ∧ (applyD s (ptH id pr at_)).2 = D) := ⟨by rw [← HR.out], by rw [← HR.out]⟩
                obtain ⟨hok2, hback⟩ := apply_back HOK.out HAZ.out.1 HND.out HG.out.2.2 HG.out.1 HPI.out
                rw [HAZ.out.2] at hok2 hback
                have HDI : Hid (DsIs w8 D a4 c4) := by
                  obtain ⟨B, hB⟩ := HOW.out
                  obtain ⟨a5, c5, e5, h5⟩ := hB.isL (by have := hok2.len; omega) (by
                    rcases hok2.root with h0 | ⟨m, h1, -⟩
                    · omega
                    · obtain ⟨v, ab, kb, -, hO⟩ := hB
                      have h2 := nd_some h1
                      have h3 := (hO.fit m h2.1).id
                      rw [h2.2] at h3
                      exact h3) (by have := hok2.nx; omega)
                  simp only [Value.agg.injEq, Array.mk.injEq, List.cons.injEq, Value.slice.injEq, and_true, true_and] at e5
                  obtain ⟨rfl, rfl⟩ := e5
                  exact h5
                have hgid : g.id = n.par := (nd_some HG.out.1).2
                have HP2 : Hid (PtOk (ptH id n.par pc)) := ptH_ok id n.par pc HID.out (by rw [← hgid]; exact HGF.out.1.id) (by omega)
                have HA2 : Hid (Calls Try.prog 15 #[.agg #[.slice a4 D.nodes.length c4, .int .i64 D.root, .int .i64 D.next], .agg #[.int .i64 2, .int .i64 id, .int .i64 n.par, .int .i64 (pc : Int), .string ⟨#[]⟩, .string ⟨#[]⟩, .string ⟨#[]⟩, .string ⟨#[]⟩, .string ⟨#[]⟩]] w8 fun e w' => ∃ a5 c5, e = .returned (.tuple #[.agg #[.slice a5 s.nodes.length c5, .int .i64 s.root, .int .i64 s.next], .int .i64 0]) ∧ DsIs w' s a5 c5 ∧ Below w8.heap.size w8 w') := (apply_any D (ptH id n.par pc) a4 c4 w8 HDI.out HP2.out).mono fun e w' ⟨x, he, hx, hb'⟩ => by
                  rw [hback] at he hx
                  obtain ⟨a5, c5, rfl, h5⟩ := DsOwn.isL hx (HS.out _ B5.out).len (HS.out _ B5.out).root (HS.out _ B5.out).next
                  exact ⟨a5, c5, he, h5, hb'⟩
                clear hok2 hback HOW HR HPO HP2 HAZ
                obtain ⟨t0, t1, t2⟩ := three HDB.out
                obtain ⟨p0, -, -, -, -, -, -⟩ := seven HG8.out
                rw [hgid] at p0
                clear hgid
                go_wp2_with fail
                refine HA2.out.mono ?_
                rintro e w10 ⟨a5, c5, rfl, h5, hb10⟩
                have H10 : Hid (DsIs (w10.alloc (.cells #[.slice a5 s.nodes.length c5, .int .i64 s.root, .int .i64 s.next] 29)) s a5 c5) := h5.below (below_one _ _)
                have B10 : Hid (Below w8.heap.size w8 (w10.alloc (.cells #[.slice a5 s.nodes.length c5, .int .i64 s.root, .int .i64 s.next] 29))) := nxt hb10 (below_one _ _)
                have HSB : Hid ((w10.alloc (.cells #[.slice a5 s.nodes.length c5, .int .i64 s.root, .int .i64 s.next] 29)).heap[w10.heap.size]? = some (.cells #[.slice a5 s.nodes.length c5, .int .i64 s.root, .int .i64 s.next] 29 (0, 0))) := heap_alloc_new _ _
                clear h5 hb10 HA2 t0 t1 t2 p0 HDI
                go_wp2_with fail
                generalize w10.alloc (.cells #[.slice a5 s.nodes.length c5, .int .i64 s.root, .int .i64 s.next] 29) = w11 at *
                generalize w10.heap.size = gs at *
                refine (numD_any _ _).mono ?_
                rintro e w9 ⟨rfl, h9⟩
                subst w9
                obtain ⟨t0, t1, t2⟩ := three HSB.out
                obtain ⟨y0, y1, y2⟩ := three ((B10.out.block _ (lt_of_block S8.out)).trans S8.out)
                go_wp2_with fail
                refine (alikeD_any s a5 _ c5 c w11 H10.out (HS.out _ (nxt B8.out B10.out))).mono ?_
                rintro e w12 ⟨rfl, hb12⟩
                clear t0 t1 t2 y0 y1 y2
                go_wp2_with fail
                go_ret
                exact ⟨rfl, nxt (nxt B8.out B10.out) hb12⟩
              · have hD : D = noD := by
                  have h1 : (applyD s (ptH id pr at_)).2 = D := by rw [← HR.out]
                  rw [← h1]
                  exact apply_err (by rw [← HR.out]; exact he)
                subst hD
                have HG0 : Hid (w8.heap[gd]? = some (.cells #[.slice a4 0 c4, .int .i64 0, .int .i64 0] 29 (0, 0))) := HDB.out
                have ge : (er != 0) = true := by simpa using he
                clear HDB HOW HR he
                obtain ⟨t0, t1, t2⟩ := three HG0.out
                go_wp2_with fail
                go_ret
                exact ⟨rfl, B8.out⟩
            · have HZ' : Hid (∀ j z, j < pc + 1 → g.kids[j]? = some z → ¬ z = id) := by
                intro j z hj hz
                by_cases e : j = pc
                · subst e
                  rw [HPC.out] at hz
                  cases hz
                  exact he
                · exact HZ.out j z (by omega) hz
              have ge : (g.kids[pc] != id) = true := by simpa using he
              clear HPC he HZ
              generalize g.kids[pc] = kk at *
              go_wp2_with fail
              go_roundw
              case rel => exact ⟨pc + 1, by go_num, HZ'.out, (show pc + 1 ≤ g.kids.length by omega), trivial⟩
              case measure => simp [intOf]; omega
  · have HCZ : Hid (∀ W, Below w.heap.size w W → Calls Try.prog 19 #[.agg #[.slice a s.nodes.length c, .int .i64 s.root, .int .i64 s.next]] W fun e w' => e = .returned (.int .i64 9) ∧ Below W.heap.size W w') := fun W hb => by have := HCK.out W hb; rwa [chk_bad hok] at this
    clear hok HCK
    go_wp2_with fail
    refine (HCZ.out _ B3.out).mono ?_
    rintro e w4 ⟨rfl, hb4⟩
    clear y0 y1 y2
    go_wp2_with fail
    go_ret
    exact ⟨rfl, nxt B3.out hb4⟩

set_option maxRecDepth 100000 in
set_option maxHeartbeats 1600000 in
theorem lifted (os : Os) (started : os.Started) (H : Type) (enc : TypeId × Value → H) :
    ReturnsInHanded {} Try.checked os 5 .any (Rows.domBackSpec.pre6 enc Try.prog Try.f5 Rows.domBackRow.domain false) (Rows.domBackSpec.post enc Try.prog Try.f5 false true false false) := by
  refine returnsInHanded_of_change_sized (C := Try.checked) Try.own started (by kernel_rfl) Try.func5
    (ChangeSpec.witness6 (enc := enc) (C := Try.checked) false ⟨#[], #[.agg #[.slice none 0 0, .int .i64 0, .int .i64 0], .int .i64 0, .int .i64 0, .int .i64 0], []⟩ 8 (by kernel_rfl) (by kernel_rfl) (by kernel_rfl) (by kernel_rfl)) ?_
  intro W base args ds gs before hval0 hW _ hsz0 _
  have hsz : (DataW.weightsEach Try.prog (Try.f5.params.toList ++ Rows.domBackSpec.plain.varTypes Try.prog) (ds ++ gs)).all (· ≤ reachBytes) = true := hsz0
  have hval : ∀ (j : Nat) t v, Try.f5.params[j]? = some t → args[j]? = some v → Value.okWide Try.prog W .any base t v := hval0
  have hW' := hW
  obtain ⟨p, q, hA0, hV, rfl, hfz, hnd⟩ := hW
  have hA : DataW.TrodAll enc Try.prog W 0 (fun _ => true) true Try.f5.params.toList args.toList ds p := hA0
  rw [Try.params5] at hA hval hsz
  obtain ⟨v0, vs0, d0, ds0, p0, q0, hargs, rfl, rfl, h0, r0⟩ := trodAll_cons hA
  obtain ⟨v1, vs1, d1, ds1, p1, q1, rfl, rfl, rfl, h1, r1⟩ := trodAll_cons r0
  obtain ⟨v2, vs2, d2, ds2, p2, q2, rfl, rfl, rfl, h2, r2⟩ := trodAll_cons r1
  obtain ⟨v3, vs3, d3, ds3, p3, q3, rfl, rfl, rfl, h3, r3⟩ := trodAll_cons r2
  obtain ⟨rfl, rfl, rfl⟩ := trodAll_nil r3
  obtain rfl : args = #[v0, v1, v2, v3] := by cases args; simp_all
  obtain ⟨rfl, rfl⟩ := trodVars_none hV
  clear hA0 hval0
  simp only [List.append_nil] at hW' hsz
  have hlt : ∀ x ∈ p0 ++ p1 ++ p2 ++ p3, x.block < W.heap.size := fun x hx => hW'.lt x (by simpa using hx)
  have hall : ∀ x ∈ DataW.weightsEach Try.prog [35, 3, 3, 3] [d0, d1, d2, d3], x ≤ reachBytes := fun x hx => of_decide_eq_true (List.all_eq_true.1 hsz x hx)
  have g0 : ∀ x ∈ d0.weights Try.prog 35, x ≤ reachBytes := fun x hx => hall x (DataW.weights_mem_each (j := 0) rfl rfl x hx)
  obtain ⟨u0, l0⟩ := ds_of_arg (hval 0 _ v0 rfl rfl) h0 g0
  obtain ⟨a1, rfl, rfl, rfl, w1⟩ := open_int Try.underlying3 (hval 1 3 v1 rfl rfl) h1
  obtain ⟨a2, rfl, rfl, rfl, w2⟩ := open_int Try.underlying3 (hval 2 3 v2 rfl rfl) h2
  obtain ⟨a3, rfl, rfl, rfl, w3⟩ := open_int Try.underlying3 (hval 3 3 v3 rfl rfl) h3
  refine (walk u0 v0 a1 a2 a3 W l0 w1 w2 w3).mono fun e W' ⟨he, bel⟩ => ?_
  subst he
  exact ⟨_, rfl, _, _, _, [], _, [], hW', trodAll_mk1 (shut_bool Try.underlying4 _), (trodAll_cons_mk (Below.trod Try.laidOut (by kernel_rfl) (of_decide_eq_true (by kernel_rfl)) h0 bel (fun x hx => hlt x (by simp [hx]))) (trodAll_cons_mk (shut_int Try.underlying3 w1) (trodAll_cons_mk (shut_int Try.underlying3 w2) (trodAll_cons_mk (shut_int Try.underlying3 w3) trodAll_mk0)))), rfl, bel.frame _, fun h => by cases h⟩

theorem over : Rows.domBackRow.holds Try.pinned (OpenSpec.ofChange Rows.domBackSpec) :=
  OpenClaim.holds_of_wide 5 Try.f5 rfl rfl rfl rfl rfl rfl rfl ⟨rfl, rfl, rfl, rfl, rfl⟩ rfl rfl rfl rfl rfl (by kernel_rfl) Try.func5 (by kernel_rfl)
    (of_decide_eq_true (by kernel_rfl)) (by unfold Func.isWrapper; first | (rw [if_pos (by decide +kernel)]; kernel_rfl) | (rw [if_neg (by decide +kernel)]; exact ⟨rfl, rfl⟩))
    (fun os started H enc _ => lifted os started H enc)

/-- THE STATEMENT. -/
theorem proved : Rows.DomBackSaid := over
#print axioms proved
end domBack
end Go.Proofs.Ytomhfndjnbhliaa
