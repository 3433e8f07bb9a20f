/-
  The page's attr. (Printed by wip/make/mkdtattr.py.)
-/
import Derived.Test.YtcdnakcojanaeabGreatDtAtM
import Derived.Test.YtcdnakcojanaeabGreatDtOffJ
namespace Go.Proofs.YtcdnakcojanaeabGreat
open Go.ChangeShapes Go.WideShapes Go.ChangeAt Go.RowKit Go.Deep
open Do

set_option maxRecDepth 100000 in
set_option maxHeartbeats 12800000 in
theorem rattr_any (s : Ds) (p : Pt) (B : Nat) (w : World) (v : Value) (ab kb : Nat → Value) (hO : Pg.OwnN w B v s.nodes ab kb) (hB : B ≤ w.heap.size) (hp : PtOk p) (hn : s.nodes.length ≤ 1024) (hr : -9223372036854775808 ≤ s.root ∧ s.root ≤ 9223372036854775807) (hx : -9223372036854775808 ≤ s.next ∧ s.next ≤ 9223372036854775807) (q : Nat) (m : Nd) (hq : s.nodes[q]? = some m) :
    Calls Tryz.prog 24 #[.agg #[v, .int .i64 s.root, .int .i64 s.next], .int .i64 (q : Int), mkP p] w fun e w' => PgPost w w' B e (attrP s q m p) := by
  obtain ⟨vr, vc, hvs⟩ := hO.shape
  subst hvs
  have HO : Hid (Pg.OwnN w B (.slice vr s.nodes.length vc) s.nodes ab kb) := hO
  have HB : Hid (B ≤ w.heap.size) := hB
  have HP : Hid (PtOk p) := hp
  obtain ⟨ns, root, next⟩ := s
  obtain ⟨pw, pi, pp, pat, pg, pk, pt, pn, pv⟩ := p
  simp only at *
  clear hO hB hp
  obtain ⟨K3, hK3⟩ : ∃ W : World, W = ((w.alloc (.cells #[.slice vr ns.length vc, .int .i64 root, .int .i64 next] 24)).alloc (.cells #[.int .i64 pw, .int .i64 pi, .int .i64 pp, .int .i64 pat, .string pg, .string pk, .string pt, .string pn, .string pv] 26)).alloc (.cells #[.slice none 0 0, .int .i64 0, .int .i64 0] 24) := ⟨_, rfl⟩
  have B3 : Hid (Below w.heap.size w K3) := by show Below _ _ _; rw [hK3]; exact nxt (two_new _ _ _) (below_one _ _)
  have X3 : Hid (K3.heap[w.heap.size]? = some (.cells #[.slice vr ns.length vc, .int .i64 root, .int .i64 next] 24 (0, 0)) ∧ K3.heap[w.heap.size + 1]? = some (.cells #[.int .i64 pw, .int .i64 pi, .int .i64 pp, .int .i64 pat, .string pg, .string pk, .string pt, .string pn, .string pv] 26 (0, 0)) ∧ K3.heap[w.heap.size + 2]? = some (.cells #[.slice none 0 0, .int .i64 0, .int .i64 0] 24 (0, 0))) := by show _ ∧ _ ∧ _; rw [hK3]; exact three_new _ _ _ _
  go_enter Tryz.func24, Tryz.ntmps24
  obtain ⟨x0, x1, x2⟩ := three X3.out.1
  obtain ⟨n0, n1, n2, n3, n4, n5, n6, n7, n8⟩ := nine X3.out.2.1
  obtain ⟨⟨z0, z1, z2⟩, zf0, zf1, zf2⟩ : (K3.cell? ⟨w.heap.size + 2, 0, none⟩ = some (.slice none 0 0) ∧ K3.cell? ⟨w.heap.size + 2, 1, none⟩ = some (.int .i64 0) ∧ K3.cell? ⟨w.heap.size + 2, 2, none⟩ = some (.int .i64 0)) ∧ K3.frozen? ⟨w.heap.size + 2, 0, none⟩ = false ∧ K3.frozen? ⟨w.heap.size + 2, 1, none⟩ = false ∧ K3.frozen? ⟨w.heap.size + 2, 2, none⟩ = false := ⟨three X3.out.2.2, (cell_of X3.out.2.2 0).2, (cell_of X3.out.2.2 1).2, (cell_of X3.out.2.2 2).2⟩
  have HS3 : Hid (K3.heap.size = w.heap.size + 3) := by show _ = _; rw [hK3]; simp
  have HM : Hid (ns[q]? = some m) := hq
  have hql : q < ns.length := (List.getElem?_eq_some_iff.1 hq).1
  have h32 : m.ats.length * 32 ≤ 140737488351232 := (HO.out.fit m (List.mem_of_getElem? hq)).node.2.2.2.1
  have HFT : Hid (NdFit m) := HO.out.fit m (List.mem_of_getElem? hq)
  have O3 := HO.out.below B3.out
  obtain ⟨aa, ac, hab⟩ := (O3.ats q m hq).shape
  obtain ⟨ka, kc, hkb⟩ := (O3.kids q m hq).shape
  obtain ⟨b, hvr, r0, r1, r2, r3, r4, r5, r6⟩ := Pg.rowN_cells O3.row hq
  rw [hab] at r5
  rw [hkb] at r6
  have LA3 : LayA K3 aa m.ats := by have := O3.ats q m hq; rw [hab] at this; exact this.lay HFT.out.atr
  subst hvr
  have hbl : b < w.heap.size := (HO.out.foot (Or.inl rfl)).2
  have HRE : Hid ((attrP ⟨ns, root, next⟩ q m ⟨pw, pi, pp, pat, pg, pk, pt, pn, pv⟩) = if pw = 5 then (if anyA m.ats pn = true then (0, ⟨ns.set q (m.withAts (lessA m.ats pn)), root, next⟩) else (31, noD)) else if nameB pn = false then (31, noD) else if 128 < pv.size then (5, noD) else if 16 ≤ (lessA m.ats pn).length then (3, noD) else (0, ⟨ns.set q (m.withAts (insAt (lessA m.ats pn) (lwA (lessA m.ats pn) pn) (pn, pv))), root, next⟩)) := rfl
  clear hq hab hkb O3
  go_upto_region 1 with fail
  rw [← hK3]
  clear hK3
  go_upto_region 2 with fail
  have hbA := below_one K3 (.cells #[.int .i64 m.id, .int .i64 m.par, .string m.tag, .string m.key, .string m.txt, .slice aa m.ats.length ac, .slice ka m.kids.length kc] 56)
  have X4 : Hid ((K3.alloc (.cells #[.int .i64 m.id, .int .i64 m.par, .string m.tag, .string m.key, .string m.txt, .slice aa m.ats.length ac, .slice ka m.kids.length kc] 56)).heap[w.heap.size]? = some (.cells #[.slice (some ⟨b, 0, none⟩) ns.length vc, .int .i64 root, .int .i64 next] 24 (0, 0)) ∧ (K3.alloc (.cells #[.int .i64 m.id, .int .i64 m.par, .string m.tag, .string m.key, .string m.txt, .slice aa m.ats.length ac, .slice ka m.kids.length kc] 56)).heap[w.heap.size + 1]? = some (.cells #[.int .i64 pw, .int .i64 pi, .int .i64 pp, .int .i64 pat, .string pg, .string pk, .string pt, .string pn, .string pv] 26 (0, 0)) ∧ (K3.alloc (.cells #[.int .i64 m.id, .int .i64 m.par, .string m.tag, .string m.key, .string m.txt, .slice aa m.ats.length ac, .slice ka m.kids.length kc] 56)).heap[w.heap.size + 2]? = some (.cells #[.slice none 0 0, .int .i64 0, .int .i64 0] 24 (0, 0)) ∧ (K3.alloc (.cells #[.int .i64 m.id, .int .i64 m.par, .string m.tag, .string m.key, .string m.txt, .slice aa m.ats.length ac, .slice ka m.kids.length kc] 56)).heap[w.heap.size + 3]? = some (.cells #[.int .i64 m.id, .int .i64 m.par, .string m.tag, .string m.key, .string m.txt, .slice aa m.ats.length ac, .slice ka m.kids.length kc] 56 (0, 0))) := ⟨(hbA.block _ (lt_of_block X3.out.1)).trans X3.out.1, (hbA.block _ (lt_of_block X3.out.2.1)).trans X3.out.2.1, (hbA.block _ (lt_of_block X3.out.2.2)).trans X3.out.2.2, by rw [← HS3.out]; exact heap_alloc_new _ _⟩
  have B4 : Hid (Below w.heap.size w (K3.alloc (.cells #[.int .i64 m.id, .int .i64 m.par, .string m.tag, .string m.key, .string m.txt, .slice aa m.ats.length ac, .slice ka m.kids.length kc] 56))) := nxt B3.out hbA
  have LA4 : Hid (LayA (K3.alloc (.cells #[.int .i64 m.id, .int .i64 m.par, .string m.tag, .string m.key, .string m.txt, .slice aa m.ats.length ac, .slice ka m.kids.length kc] 56)) aa m.ats) := LA3.below hbA
  clear hbA LA3 X3 B3 r0 r1 r2 r3 r4 r5 r6 x0 x1 x2 n0 n1 n2 n3 n4 n5 n6 n7 n8 z0 z1 z2 zf0 zf1 zf2
  have HS3' := HS3.out
  rw [HS3']
  clear HS3 HS3'
  generalize (K3.alloc (.cells #[.int .i64 m.id, .int .i64 m.par, .string m.tag, .string m.key, .string m.txt, .slice aa m.ats.length ac, .slice ka m.kids.length kc] 56)) = K4 at *
  go_wp2_with fail
  go_loopw [9, 10, 11] (fun v9 v10 v11 wr => ∃ i : Nat, i ≤ m.ats.length ∧ v11 = .int .i64 (i : Int) ∧ v10 = .bool (anyA (m.ats.take i) pn) ∧ Hid (OwnA wr K4.heap.size v9 (lessA (m.ats.take i) pn)) ∧ Hid (Below K4.heap.size K4 wr)) (fun _ _ v11 _ => m.ats.length - (intOf v11).toNat)
  case atStart => exact ⟨0, Nat.zero_le _, rfl, rfl, OwnA.nil _ _, Below.refl _ _⟩
  case round =>
    obtain ⟨i, hi, rfl, rfl, HOA, HB1⟩ := hrel
    have XW : Hid (wr.heap[w.heap.size]? = some (.cells #[.slice (some ⟨b, 0, none⟩) ns.length vc, .int .i64 root, .int .i64 next] 24 (0, 0)) ∧ wr.heap[w.heap.size + 1]? = some (.cells #[.int .i64 pw, .int .i64 pi, .int .i64 pp, .int .i64 pat, .string pg, .string pk, .string pt, .string pn, .string pv] 26 (0, 0)) ∧ wr.heap[w.heap.size + 2]? = some (.cells #[.slice none 0 0, .int .i64 0, .int .i64 0] 24 (0, 0)) ∧ wr.heap[w.heap.size + 3]? = some (.cells #[.int .i64 m.id, .int .i64 m.par, .string m.tag, .string m.key, .string m.txt, .slice aa m.ats.length ac, .slice ka m.kids.length kc] 56 (0, 0))) := ⟨(HB1.out.block _ (lt_of_block X4.out.1)).trans X4.out.1, (HB1.out.block _ (lt_of_block X4.out.2.1)).trans X4.out.2.1, (HB1.out.block _ (lt_of_block X4.out.2.2.1)).trans X4.out.2.2.1, (HB1.out.block _ (lt_of_block X4.out.2.2.2)).trans X4.out.2.2.2⟩
    obtain ⟨oa, oc, hov⟩ := HOA.out.shape
    subst hov
    by_cases hlt : i < m.ats.length
    · have HT : Hid (lessA (m.ats.take (i + 1)) pn = lessA (m.ats.take i) pn ++ lessA [m.ats[i]] pn ∧ anyA (m.ats.take (i + 1)) pn = (anyA (m.ats.take i) pn || (m.ats[i].1.toList == pn.toList)) ∧ (lessA (m.ats.take i) pn).length ≤ i) := by
        refine ⟨?_, ?_, ?_⟩
        · unfold lessA; rw [List.take_succ_eq_append_getElem hlt, List.filter_append]
        · unfold anyA; rw [List.take_succ_eq_append_getElem hlt, List.any_append]; simp
        · refine Nat.le_trans (List.length_filter_le _ _) ?_; simp; omega
      obtain ⟨ba, bo, haa, c1, c2, -⟩ := LA4.out.below HB1.out i m.ats[i] (List.getElem?_eq_getElem hlt)
      have b5 : wr.cell? ⟨w.heap.size + 3, 5, none⟩ = some (.slice aa m.ats.length ac) := (cell_of XW.out.2.2.2 5).1
      have n7 := (nine XW.out.2.1).2.2.2.2.2.2.2.1
      subst haa
      generalize lessA (m.ats.take i) pn = fl at *
      generalize anyA (m.ats.take i) pn = was at *
      generalize m.ats[i] = xx at *
      obtain ⟨xn, xv⟩ := xx
      simp only at c1 c2
      cases hx : (xn.toList == pn.toList) with
      | true =>
        have HT1 : Hid (lessA (m.ats.take (i + 1)) pn = fl ∧ anyA (m.ats.take (i + 1)) pn = true) := by
          refine ⟨?_, ?_⟩
          · rw [HT.out.1]; unfold lessA; rw [List.filter_cons, hx]; simp
          · rw [HT.out.2.1, hx]; simp
        clear HT
        go_wp2_with fail
        go_big_quiet (fail)
        go_wp2_with fail
        go_roundw
        case rel => exact ⟨i + 1, by omega, by go_num, by rw [HT1.out.2], by rw [HT1.out.1]; exact HOA.out, nxt HB1.out (Below_drewN _ _ _)⟩
        case measure => simp [intOf]; omega
      | false =>
        have HT1 : Hid (lessA (m.ats.take (i + 1)) pn = fl ++ [(xn, xv)] ∧ anyA (m.ats.take (i + 1)) pn = was) := by
          refine ⟨?_, ?_⟩
          · rw [HT.out.1]; unfold lessA; rw [List.filter_cons, hx]; simp
          · rw [HT.out.2.1, hx]; simp
        have HLE : Hid (fl.length ≤ i) := HT.out.2.2
        have HC12 : Hid (wr.cell? ⟨ba, bo + i * 2, none⟩ = some (.string xn) ∧ wr.cell? ⟨ba, bo + i * 2 + 1, none⟩ = some (.string xv)) := ⟨c1, c2⟩
        clear HT
        go_wp2_with fail
        go_big_quiet (fail)
        have HQ : Hid (Below K4.heap.size K4 (wr.drewN nq)) := nxt HB1.out (Below_drewN _ _ _)
        have OQ : Hid (OwnA (wr.drewN nq) K4.heap.size (.slice oa fl.length oc) fl) := HOA.out
        have c1' : (wr.drewN nq).cell? ⟨ba, bo + i * 2, none⟩ = some (.string xn) := HC12.out.1
        have c2' : (wr.drewN nq).cell? ⟨ba, bo + i * 2 + 1, none⟩ = some (.string xv) := HC12.out.2
        have b5' : (wr.drewN nq).cell? ⟨w.heap.size + 3, 5, none⟩ = some (.slice (some ⟨ba, bo, none⟩) m.ats.length ac) := b5
        clear c1 c2 b5 n7 HOA HB1 XW HC12
        generalize wr.drewN nq = wq at *
        have HOX : Hid (OwnA (wq.alloc (.cells #[.string xn, .string xv] 43)) K4.heap.size (.slice oa fl.length oc) fl) := OQ.out.below (below_one _ _)
        have HBX : Hid (Below K4.heap.size K4 (wq.alloc (.cells #[.string xn, .string xv] 43))) := nxt HQ.out (below_one _ _)
        have HNW : Hid ((wq.alloc (.cells #[.string xn, .string xv] 43)).cell? ((⟨wq.heap.size, 0, none⟩ : Addr).add 0) = some (.string xn) ∧ (wq.alloc (.cells #[.string xn, .string xv] 43)).cell? ((⟨wq.heap.size, 0, none⟩ : Addr).add 1) = some (.string xv)) := ⟨newCells wq _ _ 0 _ rfl, newCells wq _ _ 1 _ rfl⟩
        have HSX : Hid ((fl.length + 1) * 32 ≤ 140737488355328 ∧ K4.heap.size ≤ (wq.alloc (.cells #[.string xn, .string xv] 43)).heap.size) := ⟨by have := HLE.out; omega, HBX.out.size⟩
        go_wp2_with (refine wpList_pushA _ rfl (.tmp 35) (.tmp 41) rfl K4.heap.size _ fl rfl HOX.out (xn, xv) ⟨wq.heap.size, 0, none⟩ 1 rfl HNW.out.1 HNW.out.2 HSX.out.1 HSX.out.2 ?_; intro v' w' q1 q2 q3; have OO : Hid (OwnA w' K4.heap.size v' (fl ++ [(xn, xv)])) := q1; have BB : Hid (Below K4.heap.size K4 w') := HBX.out.trans (grownB HOX.out q2 HSX.out.2); clear q1 q2 q3)
        go_roundw
        case rel => exact ⟨i + 1, by omega, by go_num, by rw [HT1.out.2], by rw [HT1.out.1]; exact OO.out, BB.out⟩
        case measure => simp [intOf]; omega
    · have HE : m.ats.take i = m.ats := List.take_of_length_le (by omega)
      obtain rfl : i = m.ats.length := by omega
      rw [List.take_length] at HOA ⊢
      have HLE : Hid ((lessA m.ats pn).length ≤ m.ats.length) := List.length_filter_le _ _
      have HFS : Hid (∀ s ∈ lessA m.ats pn, s.1.size ≤ 140737488351232 ∧ s.2.size ≤ 140737488351232) := fun s hs => HFT.out.atr s (List.mem_filter.1 hs).1
      have HNS : Hid (Below w.heap.size w wr) := nxt B4.out HB1.out
      have HSX : Hid (K4.heap.size ≤ wr.heap.size ∧ w.heap.size + 3 < K4.heap.size) := ⟨HB1.out.size, lt_of_block X4.out.2.2.2⟩
      have gq : decide ((q : Int) < 0) = false := decide_eq_false (by omega)
      clear hi hlt
      generalize lessA m.ats pn = fl at *
      generalize anyA m.ats pn = was at *
      have HBB : Hid (B ≤ b) := (HO.out.foot (Or.inl rfl)).1
      by_cases h5 : pw = 5
      · have g5 : (pw == 5) = true := by simpa using h5
        rw [if_pos h5] at HRE
        clear h5
        obtain ⟨x0, x1, x2⟩ := three XW.out.1
        obtain ⟨n0, n1, n2, n3, n4, n5, n6, n7, n8⟩ := nine XW.out.2.1
        obtain ⟨⟨z0, z1, z2⟩, zf0, zf1, zf2⟩ : (wr.cell? ⟨w.heap.size + 2, 0, none⟩ = some (.slice none 0 0) ∧ wr.cell? ⟨w.heap.size + 2, 1, none⟩ = some (.int .i64 0) ∧ wr.cell? ⟨w.heap.size + 2, 2, none⟩ = some (.int .i64 0)) ∧ wr.frozen? ⟨w.heap.size + 2, 0, none⟩ = false ∧ wr.frozen? ⟨w.heap.size + 2, 1, none⟩ = false ∧ wr.frozen? ⟨w.heap.size + 2, 2, none⟩ = false := ⟨three XW.out.2.2.1, (cell_of XW.out.2.2.1 0).2, (cell_of XW.out.2.2.1 1).2, (cell_of XW.out.2.2.1 2).2⟩
        have b5 : wr.cell? ⟨w.heap.size + 3, 5, none⟩ = some (.slice aa m.ats.length ac) := (cell_of XW.out.2.2.2 5).1
        cases was with
        | false =>
          rw [if_neg Bool.false_ne_true] at HRE
          go_wp2_with fail
          have HZ' : wr.heap[w.heap.size + 1 + 1]? = some (.cells #[.slice none 0 0, .int .i64 0, .int .i64 0] 24 (0, 0)) := XW.out.2.2.1
          obtain ⟨f1, f2, f3⟩ := state_fin (v := .slice none 0 0) (r := .int .i64 0) (n := .int .i64 0) HZ'
          have f3 := f3 w.heap.size w (by omega) HNS.out
          clear x0 x1 x2 n0 n1 n2 n3 n4 n5 n6 n7 n8 z0 z1 z2 zf0 zf1 zf2 b5
          generalize ((wr.setCell ⟨w.heap.size + 1 + 1, 0, none⟩ (.slice none 0 0)).setCell ⟨w.heap.size + 1 + 1, 1, none⟩ (.int .i64 0)).setCell ⟨w.heap.size + 1 + 1, 2, none⟩ (.int .i64 0) = W9 at *
          obtain ⟨c0, c1, c2⟩ := three f1
          refine bodyPost_ret (v := .tuple #[.agg #[.slice none 0 0, .int .i64 0, .int .i64 0], .int .i64 31]) (by simp [results, Tryz.results24, go_sem, c0, c1, c2]) rfl ?_
          rw [HRE.out]
          exact ⟨_, _, _, rfl, noD_pg _ _, f3.mono HB.out⟩
        | true =>
          rw [if_pos rfl] at HRE
          have O4 : Pg.OwnN wr B (.slice (some ⟨b, 0, none⟩) ns.length vc) ns ab kb := HO.out.below HNS.out
          have fz : wr.frozen? ⟨b, q * 7 + 5, none⟩ = false := own_frozen O4.row _
          obtain ⟨g, hg, -, -, -, -, -, y5, -⟩ := Pg.rowN_cells O4.row HM.out
          simp only [Option.some.injEq, Addr.mk.injEq, and_true] at hg
          subst hg
          have OS := O4.setAts HM.out (OwnA.less HOA.out (by have := HSX.out.2; have := HB.out; omega)) HFS.out (by have := HLE.out; omega) (fun j b' hj h1 h2 => by have h3 := (HOA.out.rng h1).1; have h4 := (HO.out.foot (Or.inr (Or.inl ⟨j, hj, h2⟩))).2; have := HSX.out.2; omega)
          have XS : Hid ((wr.setCell ⟨b, q * 7 + 5, none⟩ (.slice oa fl.length oc)).heap[w.heap.size]? = some (.cells #[.slice (some ⟨b, 0, none⟩) ns.length vc, .int .i64 root, .int .i64 next] 24 (0, 0)) ∧ (wr.setCell ⟨b, q * 7 + 5, none⟩ (.slice oa fl.length oc)).heap[w.heap.size + 2]? = some (.cells #[.slice none 0 0, .int .i64 0, .int .i64 0] 24 (0, 0))) := ⟨(heap_set_other _ (by omega)).trans XW.out.1, (heap_set_other _ (by omega)).trans XW.out.2.2.1⟩
          have BA : Below B w (wr.setCell ⟨b, q * 7 + 5, none⟩ (.slice oa fl.length oc)) := ⟨HNS.out.os, HNS.out.tape, HNS.out.output, by have := HNS.out.size; simpa [World.setCell] using this, fun j hj => (heap_set_other _ (by have := HBB.out; omega)).trans (HNS.out.block j (by have := HB.out; omega))⟩
          clear z0 z1 z2 zf0 zf1 zf2 x1 x2 n1 n2 n3 n4 n5 n6 n7 n8
          obtain ⟨u0, u1, u2⟩ := three XS.out.1
          obtain ⟨⟨z0, z1, z2⟩, zf0, zf1, zf2⟩ : ((wr.setCell ⟨b, q * 7 + 5, none⟩ (.slice oa fl.length oc)).cell? ⟨w.heap.size + 2, 0, none⟩ = some (.slice none 0 0) ∧ (wr.setCell ⟨b, q * 7 + 5, none⟩ (.slice oa fl.length oc)).cell? ⟨w.heap.size + 2, 1, none⟩ = some (.int .i64 0) ∧ (wr.setCell ⟨b, q * 7 + 5, none⟩ (.slice oa fl.length oc)).cell? ⟨w.heap.size + 2, 2, none⟩ = some (.int .i64 0)) ∧ (wr.setCell ⟨b, q * 7 + 5, none⟩ (.slice oa fl.length oc)).frozen? ⟨w.heap.size + 2, 0, none⟩ = false ∧ (wr.setCell ⟨b, q * 7 + 5, none⟩ (.slice oa fl.length oc)).frozen? ⟨w.heap.size + 2, 1, none⟩ = false ∧ (wr.setCell ⟨b, q * 7 + 5, none⟩ (.slice oa fl.length oc)).frozen? ⟨w.heap.size + 2, 2, none⟩ = false := ⟨three XS.out.2, (cell_of XS.out.2 0).2, (cell_of XS.out.2 1).2, (cell_of XS.out.2 2).2⟩
          have HZA : (wr.setCell ⟨b, q * 7 + 5, none⟩ (.slice oa fl.length oc)).heap[w.heap.size + 1 + 1]? = some (.cells #[.slice none 0 0, .int .i64 0, .int .i64 0] 24 (0, 0)) := XS.out.2
          obtain ⟨f1, f2, f3⟩ := state_fin (v := .slice (some ⟨b, 0, none⟩) ns.length vc) (r := .int .i64 root) (n := .int .i64 next) HZA
          have f3 := f3 B w (by have := HB.out; omega) BA
          have O15 : Hid (Pg.OwnN ((((wr.setCell ⟨b, q * 7 + 5, none⟩ (.slice oa fl.length oc)).setCell ⟨w.heap.size + 1 + 1, 0, none⟩ (.slice (some ⟨b, 0, none⟩) ns.length vc)).setCell ⟨w.heap.size + 1 + 1, 1, none⟩ (.int .i64 root)).setCell ⟨w.heap.size + 1 + 1, 2, none⟩ (.int .i64 next)) B (.slice (some ⟨b, 0, none⟩) ns.length vc) (ns.set q (m.withAts fl)) (upd ab q (.slice oa fl.length oc)) kb) := OS.same fun b hb => f2 b (OS.notState HZA hb)
          have F1 : Hid (_ = some (Obj.cells _ _ _)) := f1
          have F3 : Hid (Below B w _) := f3
          clear f1 f2 f3 HZA
          go_wp2_with fail
          all_goals (
          clear u0 u1 u2 z0 z1 z2 zf0 zf1 zf2 x0 n0 fz y5 b5
          generalize ((((wr.setCell ⟨b, q * 7 + 5, none⟩ (.slice oa fl.length oc)).setCell ⟨w.heap.size + 1 + 1, 0, none⟩ (.slice (some ⟨b, 0, none⟩) ns.length vc)).setCell ⟨w.heap.size + 1 + 1, 1, none⟩ (.int .i64 root)).setCell ⟨w.heap.size + 1 + 1, 2, none⟩ (.int .i64 next)) = W9 at *
          obtain ⟨c0, c1, c2⟩ := three F1.out
          refine bodyPost_ret (v := .tuple #[.agg #[.slice (some ⟨b, 0, none⟩) ns.length vc, .int .i64 root, .int .i64 next], .int .i64 0]) (by simp [results, Tryz.results24, go_sem, c0, c1, c2]) rfl ?_
          rw [HRE.out]
          exact ⟨_, _, _, rfl, O15.out, F3.out⟩)
      have g5 : (pw == 5) = false := by simpa using h5
      rw [if_neg h5] at HRE
      clear h5
      have HLT := rletters_any pn wr HP.out.name
      obtain ⟨x0, x1, x2⟩ := three XW.out.1
      obtain ⟨n0, n1, n2, n3, n4, n5, n6, n7, n8⟩ := nine XW.out.2.1
      obtain ⟨⟨z0, z1, z2⟩, zf0, zf1, zf2⟩ : (wr.cell? ⟨w.heap.size + 2, 0, none⟩ = some (.slice none 0 0) ∧ wr.cell? ⟨w.heap.size + 2, 1, none⟩ = some (.int .i64 0) ∧ wr.cell? ⟨w.heap.size + 2, 2, none⟩ = some (.int .i64 0)) ∧ wr.frozen? ⟨w.heap.size + 2, 0, none⟩ = false ∧ wr.frozen? ⟨w.heap.size + 2, 1, none⟩ = false ∧ wr.frozen? ⟨w.heap.size + 2, 2, none⟩ = false := ⟨three XW.out.2.2.1, (cell_of XW.out.2.2.1 0).2, (cell_of XW.out.2.2.1 1).2, (cell_of XW.out.2.2.1 2).2⟩
      have b5 : wr.cell? ⟨w.heap.size + 3, 5, none⟩ = some (.slice aa m.ats.length ac) := (cell_of XW.out.2.2.2 5).1
      go_wp2_with fail
      refine HLT.mono ?_
      rintro e w5 ⟨rfl, hb5⟩
      have B5 : Hid (Below w.heap.size w w5) := nxt HNS.out hb5
      have X5 : Hid (w5.heap[w.heap.size]? = some (.cells #[.slice (some ⟨b, 0, none⟩) ns.length vc, .int .i64 root, .int .i64 next] 24 (0, 0)) ∧ w5.heap[w.heap.size + 1]? = some (.cells #[.int .i64 pw, .int .i64 pi, .int .i64 pp, .int .i64 pat, .string pg, .string pk, .string pt, .string pn, .string pv] 26 (0, 0)) ∧ w5.heap[w.heap.size + 2]? = some (.cells #[.slice none 0 0, .int .i64 0, .int .i64 0] 24 (0, 0)) ∧ w5.heap[w.heap.size + 3]? = some (.cells #[.int .i64 m.id, .int .i64 m.par, .string m.tag, .string m.key, .string m.txt, .slice aa m.ats.length ac, .slice ka m.kids.length kc] 56 (0, 0))) := ⟨(hb5.block _ (lt_of_block XW.out.1)).trans XW.out.1, (hb5.block _ (lt_of_block XW.out.2.1)).trans XW.out.2.1, (hb5.block _ (lt_of_block XW.out.2.2.1)).trans XW.out.2.2.1, (hb5.block _ (lt_of_block XW.out.2.2.2)).trans XW.out.2.2.2⟩
      have OA5 : Hid (OwnA w5 K4.heap.size (.slice oa fl.length oc) fl) := HOA.out.below hb5
      have S5 : Hid (K4.heap.size ≤ w5.heap.size) := Nat.le_trans HSX.out.1 hb5.size
      clear HLT hb5 XW HOA HNS b5 x0 x1 x2 n0 n1 n2 n3 n4 n5 n6 n7 n8 z0 z1 z2 zf0 zf1 zf2
      obtain ⟨x0, x1, x2⟩ := three X5.out.1
      obtain ⟨n0, n1, n2, n3, n4, n5, n6, n7, n8⟩ := nine X5.out.2.1
      obtain ⟨⟨z0, z1, z2⟩, zf0, zf1, zf2⟩ : (w5.cell? ⟨w.heap.size + 2, 0, none⟩ = some (.slice none 0 0) ∧ w5.cell? ⟨w.heap.size + 2, 1, none⟩ = some (.int .i64 0) ∧ w5.cell? ⟨w.heap.size + 2, 2, none⟩ = some (.int .i64 0)) ∧ w5.frozen? ⟨w.heap.size + 2, 0, none⟩ = false ∧ w5.frozen? ⟨w.heap.size + 2, 1, none⟩ = false ∧ w5.frozen? ⟨w.heap.size + 2, 2, none⟩ = false := ⟨three X5.out.2.2.1, (cell_of X5.out.2.2.1 0).2, (cell_of X5.out.2.2.1 1).2, (cell_of X5.out.2.2.1 2).2⟩
      cases hnm : nameB pn with
      | false =>
        rw [hnm, if_pos rfl] at HRE
        clear hnm
        go_wp2_with fail
        have HZ' : w5.heap[w.heap.size + 1 + 1]? = some (.cells #[.slice none 0 0, .int .i64 0, .int .i64 0] 24 (0, 0)) := X5.out.2.2.1
        obtain ⟨f1, f2, f3⟩ := state_fin (v := .slice none 0 0) (r := .int .i64 0) (n := .int .i64 0) HZ'
        have f3 := f3 w.heap.size w (by omega) B5.out
        clear x0 x1 x2 n0 n1 n2 n3 n4 n5 n6 n7 n8 z0 z1 z2 zf0 zf1 zf2
        generalize ((w5.setCell ⟨w.heap.size + 1 + 1, 0, none⟩ (.slice none 0 0)).setCell ⟨w.heap.size + 1 + 1, 1, none⟩ (.int .i64 0)).setCell ⟨w.heap.size + 1 + 1, 2, none⟩ (.int .i64 0) = W9 at *
        obtain ⟨c0, c1, c2⟩ := three f1
        refine bodyPost_ret (v := .tuple #[.agg #[.slice none 0 0, .int .i64 0, .int .i64 0], .int .i64 31]) (by simp [results, Tryz.results24, go_sem, c0, c1, c2]) rfl ?_
        rw [HRE.out]
        exact ⟨_, _, _, rfl, noD_pg _ _, f3.mono HB.out⟩
      | true =>
        rw [hnm, if_neg (by simp)] at HRE
        clear hnm
        by_cases hv : 128 < pv.size
        · have g6 : decide ((128 : Int) < (pv.size : Int)) = true := decide_eq_true (by omega)
          have g6' : decide (128 < pv.size) = true := decide_eq_true hv
          rw [if_pos hv] at HRE
          clear hv
          go_wp2_with fail
          have HZ' : w5.heap[w.heap.size + 1 + 1]? = some (.cells #[.slice none 0 0, .int .i64 0, .int .i64 0] 24 (0, 0)) := X5.out.2.2.1
          obtain ⟨f1, f2, f3⟩ := state_fin (v := .slice none 0 0) (r := .int .i64 0) (n := .int .i64 0) HZ'
          have f3 := f3 w.heap.size w (by omega) B5.out
          clear x0 x1 x2 n0 n1 n2 n3 n4 n5 n6 n7 n8 z0 z1 z2 zf0 zf1 zf2
          generalize ((w5.setCell ⟨w.heap.size + 1 + 1, 0, none⟩ (.slice none 0 0)).setCell ⟨w.heap.size + 1 + 1, 1, none⟩ (.int .i64 0)).setCell ⟨w.heap.size + 1 + 1, 2, none⟩ (.int .i64 0) = W9 at *
          obtain ⟨c0, c1, c2⟩ := three f1
          refine bodyPost_ret (v := .tuple #[.agg #[.slice none 0 0, .int .i64 0, .int .i64 0], .int .i64 5]) (by simp [results, Tryz.results24, go_sem, c0, c1, c2]) rfl ?_
          rw [HRE.out]
          exact ⟨_, _, _, rfl, noD_pg _ _, f3.mono HB.out⟩
        rw [if_neg hv] at HRE
        have g6 : decide ((128 : Int) < (pv.size : Int)) = false := decide_eq_false (by omega)
        have g6' : decide (128 < pv.size) = false := decide_eq_false hv
        clear hv
        by_cases h16 : 16 ≤ fl.length
        · have g7 : decide ((16 : Int) ≤ (fl.length : Int)) = true := decide_eq_true (by omega)
          have g7' : decide (16 ≤ fl.length) = true := decide_eq_true h16
          rw [if_pos h16] at HRE
          clear h16
          go_wp2_with fail
          have HZ' : w5.heap[w.heap.size + 1 + 1]? = some (.cells #[.slice none 0 0, .int .i64 0, .int .i64 0] 24 (0, 0)) := X5.out.2.2.1
          obtain ⟨f1, f2, f3⟩ := state_fin (v := .slice none 0 0) (r := .int .i64 0) (n := .int .i64 0) HZ'
          have f3 := f3 w.heap.size w (by omega) B5.out
          clear x0 x1 x2 n0 n1 n2 n3 n4 n5 n6 n7 n8 z0 z1 z2 zf0 zf1 zf2
          generalize ((w5.setCell ⟨w.heap.size + 1 + 1, 0, none⟩ (.slice none 0 0)).setCell ⟨w.heap.size + 1 + 1, 1, none⟩ (.int .i64 0)).setCell ⟨w.heap.size + 1 + 1, 2, none⟩ (.int .i64 0) = W9 at *
          obtain ⟨c0, c1, c2⟩ := three f1
          refine bodyPost_ret (v := .tuple #[.agg #[.slice none 0 0, .int .i64 0, .int .i64 0], .int .i64 3]) (by simp [results, Tryz.results24, go_sem, c0, c1, c2]) rfl ?_
          rw [HRE.out]
          exact ⟨_, _, _, rfl, noD_pg _ _, f3.mono HB.out⟩
        rw [if_neg h16] at HRE
        have g7 : decide ((16 : Int) ≤ (fl.length : Int)) = false := decide_eq_false (by omega)
        have g7' : decide (16 ≤ fl.length) = false := decide_eq_false h16
        have hkle := lwA_le fl pn
        go_wp2_with fail
        clear g5 g6 g6' g7 g7' x0 x1 x2 n0 n1 n2 n3 n4 n5 n6 n7 n8 z0 z1 z2 zf0 zf1 zf2
        go_loopw [12] (fun v12 wz => ∃ k : Nat, k ≤ lwA fl pn ∧ v12 = .int .i64 (k : Int) ∧ Hid (Below w5.heap.size w5 wz)) (fun v12 _ => lwA fl pn - (intOf v12).toNat)
        case atStart => exact ⟨0, Nat.zero_le _, rfl, Below.refl _ _⟩
        case round =>
          obtain ⟨k, hk, rfl, HBZ⟩ := hrel
          have LF : Hid (LayA wr oa fl) := (OA5.out.below HBZ.out).lay HFS.out
          have XZ : Hid (wr.heap[w.heap.size]? = some (.cells #[.slice (some ⟨b, 0, none⟩) ns.length vc, .int .i64 root, .int .i64 next] 24 (0, 0)) ∧ wr.heap[w.heap.size + 1]? = some (.cells #[.int .i64 pw, .int .i64 pi, .int .i64 pp, .int .i64 pat, .string pg, .string pk, .string pt, .string pn, .string pv] 26 (0, 0)) ∧ wr.heap[w.heap.size + 2]? = some (.cells #[.slice none 0 0, .int .i64 0, .int .i64 0] 24 (0, 0)) ∧ wr.heap[w.heap.size + 3]? = some (.cells #[.int .i64 m.id, .int .i64 m.par, .string m.tag, .string m.key, .string m.txt, .slice aa m.ats.length ac, .slice ka m.kids.length kc] 56 (0, 0))) := ⟨(HBZ.out.block _ (lt_of_block X5.out.1)).trans X5.out.1, (HBZ.out.block _ (lt_of_block X5.out.2.1)).trans X5.out.2.1, (HBZ.out.block _ (lt_of_block X5.out.2.2.1)).trans X5.out.2.2.1, (HBZ.out.block _ (lt_of_block X5.out.2.2.2)).trans X5.out.2.2.2⟩
          by_cases hlt2 : k < lwA fl pn
          · have hkl : k < fl.length := by omega
            obtain ⟨ba2, bo2, hoa, c1, c2, -⟩ := LF.out k fl[k] (List.getElem?_eq_getElem hkl)
            have hless : Op.bytesLess fl[k].1.toList pn.toList = true := (less_cmB _ _).2 (lwA_lt hlt2 (List.getElem?_eq_getElem hkl))
            subst hoa
            have n7 := (nine XZ.out.2.1).2.2.2.2.2.2.2.1
            have gk : decide ((k : Int) < (fl.length : Int)) = true := decide_eq_true (by omega)
            have gkN : decide (k < fl.length) = true := decide_eq_true hkl
            generalize fl[k] = y at *
            obtain ⟨yn, yv⟩ := y
            simp only at c1 c2 hless
            go_wp2_with fail
            go_big_quiet (fail)
            go_wp2_with fail
            go_roundw
            case rel => exact ⟨k + 1, by omega, by go_num, nxt HBZ.out (Below_drewN _ _ _)⟩
            case measure => simp [intOf]; omega
          have hkk : lwA fl pn = k := by omega
          rw [hkk] at HRE
          have HGE : Hid (∀ s, fl[k]? = some s → 0 ≤ cmB s.1 pn) := fun s hs => by rw [← hkk] at hs; have := lwA_ge hs; omega
          have hkf : k ≤ fl.length := by omega
          clear hk hlt2 hkk hkle
          go_wp2_with fail
          go_cut [86] (fun v86 wc => v86 = .bool false ∧ Hid (Below wr.heap.size wr wc))
          case first =>
            have n7 := (nine XZ.out.2.1).2.2.2.2.2.2.2.1
            rcases Nat.lt_or_ge k fl.length with hkl | hkl
            · obtain ⟨ba2, bo2, hoa, c1, c2, -⟩ := LF.out k fl[k] (List.getElem?_eq_getElem hkl)
              have hless : Op.bytesLess fl[k].1.toList pn.toList = false := by rw [← Bool.not_eq_true, less_cmB]; have := HGE.out _ (List.getElem?_eq_getElem hkl); omega
              subst hoa
              have gk : decide ((k : Int) < (fl.length : Int)) = true := decide_eq_true (by omega)
              have gkN : decide (k < fl.length) = true := decide_eq_true hkl
              generalize fl[k] = y at *
              obtain ⟨yn, yv⟩ := y
              simp only at c1 c2 hless
              go_big_quiet (fail)
              go_wp2_with fail
              go_meet
              exact ⟨rfl, Below_drewN _ _ _⟩
            · have gk : decide ((k : Int) < (fl.length : Int)) = false := decide_eq_false (by omega)
              have gkN : decide (k < fl.length) = false := decide_eq_false (by omega)
              go_big_quiet (fail)
              go_wp2_with fail
              go_meet
              exact ⟨rfl, Below_drewN _ _ _⟩
          case rest =>
            obtain ⟨rfl, HC⟩ := hcut
            have B7 : Hid (Below w.heap.size w wc) := nxt B5.out (nxt HBZ.out HC.out)
            have X7 : Hid (wc.heap[w.heap.size]? = some (.cells #[.slice (some ⟨b, 0, none⟩) ns.length vc, .int .i64 root, .int .i64 next] 24 (0, 0)) ∧ wc.heap[w.heap.size + 1]? = some (.cells #[.int .i64 pw, .int .i64 pi, .int .i64 pp, .int .i64 pat, .string pg, .string pk, .string pt, .string pn, .string pv] 26 (0, 0)) ∧ wc.heap[w.heap.size + 2]? = some (.cells #[.slice none 0 0, .int .i64 0, .int .i64 0] 24 (0, 0)) ∧ wc.heap[w.heap.size + 3]? = some (.cells #[.int .i64 m.id, .int .i64 m.par, .string m.tag, .string m.key, .string m.txt, .slice aa m.ats.length ac, .slice ka m.kids.length kc] 56 (0, 0))) := ⟨(HC.out.block _ (lt_of_block XZ.out.1)).trans XZ.out.1, (HC.out.block _ (lt_of_block XZ.out.2.1)).trans XZ.out.2.1, (HC.out.block _ (lt_of_block XZ.out.2.2.1)).trans XZ.out.2.2.1, (HC.out.block _ (lt_of_block XZ.out.2.2.2)).trans XZ.out.2.2.2⟩
            have OA7 : Hid (OwnA wc K4.heap.size (.slice oa fl.length oc) fl) := (OA5.out.below HBZ.out).below HC.out
            have S7 : Hid (K4.heap.size ≤ wc.heap.size) := Nat.le_trans S5.out (Nat.le_trans HBZ.out.size HC.out.size)
            have hcap := cap_of_own OA7.out
            clear LF XZ HBZ HC OA5 X5 S5 B5
            obtain ⟨x0, x1, x2⟩ := three X7.out.1
            obtain ⟨n0, n1, n2, n3, n4, n5, n6, n7, n8⟩ := nine X7.out.2.1
            obtain ⟨⟨z0, z1, z2⟩, zf0, zf1, zf2⟩ : (wc.cell? ⟨w.heap.size + 2, 0, none⟩ = some (.slice none 0 0) ∧ wc.cell? ⟨w.heap.size + 2, 1, none⟩ = some (.int .i64 0) ∧ wc.cell? ⟨w.heap.size + 2, 2, none⟩ = some (.int .i64 0)) ∧ wc.frozen? ⟨w.heap.size + 2, 0, none⟩ = false ∧ wc.frozen? ⟨w.heap.size + 2, 1, none⟩ = false ∧ wc.frozen? ⟨w.heap.size + 2, 2, none⟩ = false := ⟨three X7.out.2.2.1, (cell_of X7.out.2.2.1 0).2, (cell_of X7.out.2.2.1 1).2, (cell_of X7.out.2.2.1 2).2⟩
            cases oa with
            | none =>
              have hnil : fl = [] ∧ oc = 0 := by
                obtain ⟨h1, h2⟩ := OA7.out
                rcases h2 with ⟨h3, h4⟩ | ⟨g, cap, cur, h3, -⟩
                · simp only [Value.slice.injEq] at h3; exact ⟨List.eq_nil_of_length_eq_zero h3.2.1, h3.2.2⟩
                · simp at h3
              obtain ⟨hn1, hn2⟩ := hnil
              subst hn1
              subst hn2
              have hk0 : k = 0 := by simpa using hkf
              subst hk0
              rw [show ((0 : Nat) : Int) = 0 from rfl]
              go_wp2_with (refine wpList_pushA _ rfl (.tmp 94) (.tmp 100) rfl wc.heap.size (.slice none 0 0) [] rfl (OwnA.nil _ _) (pn, pv) ⟨wc.heap.size, 0, none⟩ 1 rfl (newCells wc _ _ 0 _ rfl) (newCells wc _ _ 1 _ rfl) (by simp) (by simp) ?_; intro v10 w10 q1 q2 q3; rw [List.nil_append] at q1; have R10 : Hid (OwnA w10 wc.heap.size v10 [(pn, pv)]) := q1; have B10 : Hid (Below wc.heap.size wc w10) := (below_one _ _).trans (grownB (OwnA.nil _ wc.heap.size) q2 (by simp)); clear q1 q2 q3)
              have X10 : Hid (w10.heap[w.heap.size]? = some (.cells #[.slice (some ⟨b, 0, none⟩) ns.length vc, .int .i64 root, .int .i64 next] 24 (0, 0)) ∧ w10.heap[w.heap.size + 1]? = some (.cells #[.int .i64 pw, .int .i64 pi, .int .i64 pp, .int .i64 pat, .string pg, .string pk, .string pt, .string pn, .string pv] 26 (0, 0)) ∧ w10.heap[w.heap.size + 2]? = some (.cells #[.slice none 0 0, .int .i64 0, .int .i64 0] 24 (0, 0)) ∧ w10.heap[w.heap.size + 3]? = some (.cells #[.int .i64 m.id, .int .i64 m.par, .string m.tag, .string m.key, .string m.txt, .slice aa m.ats.length ac, .slice ka m.kids.length kc] 56 (0, 0))) := ⟨(B10.out.block _ (lt_of_block X7.out.1)).trans X7.out.1, (B10.out.block _ (lt_of_block X7.out.2.1)).trans X7.out.2.1, (B10.out.block _ (lt_of_block X7.out.2.2.1)).trans X7.out.2.2.1, (B10.out.block _ (lt_of_block X7.out.2.2.2)).trans X7.out.2.2.2⟩
              obtain ⟨sa, sc, hsv⟩ : ∃ a c, v10 = Value.slice a 1 c := R10.out.shape
              subst hsv
              clear x0 x1 x2 n0 n1 n2 n3 n4 n5 n6 n7 n8 z0 z1 z2 zf0 zf1 zf2
              have x0 := (three X10.out.1).1
              have HS2 : (fun w' : World => w'.cell? ⟨w.heap.size, 0, none⟩ = some (.slice (some ⟨b, 0, none⟩) ns.length vc)) w10.drew := x0
              refine Rg.Till.region (fun w' : World => w'.cell? ⟨w.heap.size, 0, none⟩ = some (.slice (some ⟨b, 0, none⟩) ns.length vc)) 10 (by kernel_rfl) ?_
              show Rg.Till _ _ _ _ _ 11 (Array.replicate 11 false) _ _
              refine Rg.Till.take (i := 0) (v := .pointer (some ⟨w.heap.size, 0, none⟩)) (some 102) rfl rfl (by kernel_rfl) (by kernel_rfl) (fun _ _ _ h => h) (by kernel_rfl) (by kernel_rfl) (Or.inl ⟨rfl, fun w' hS => ?_⟩) HS2 ?_
              · have y0 := hS; go_simp
              simp only [Act.put, List.setIfInBounds_toArray, List.set_cons_zero, List.set_cons_succ]
              refine Rg.Till.take (i := 1) (v := .slice (some ⟨b, 0, none⟩) ns.length vc) (some 103) rfl rfl (by kernel_rfl) (by kernel_rfl) (fun _ _ _ h => h) (by kernel_rfl) (by kernel_rfl) (Or.inl ⟨rfl, fun w' hS => ?_⟩) HS2 ?_
              · have y0 := hS; go_simp
              simp only [Act.put, List.setIfInBounds_toArray, List.set_cons_zero, List.set_cons_succ]
              refine Rg.Till.take (i := 2) (v := .int .i64 (q : Int)) (some 104) rfl rfl (by kernel_rfl) (by kernel_rfl) (fun _ _ _ h => h) (by kernel_rfl) (by kernel_rfl) (Or.inl ⟨rfl, fun w' hS => ?_⟩) HS2 ?_
              · have y0 := hS; go_simp
              simp only [Act.put, List.setIfInBounds_toArray, List.set_cons_zero, List.set_cons_succ]
              refine Rg.Till.take (i := 3) (v := .slice sa 1 sc) (some 105) rfl rfl (by kernel_rfl) (by kernel_rfl) (fun _ _ _ h => h) (by kernel_rfl) (by kernel_rfl) (Or.inl ⟨rfl, fun w' hS => ?_⟩) HS2 ?_
              · have y0 := hS; go_simp
              simp only [Act.put, List.setIfInBounds_toArray, List.set_cons_zero, List.set_cons_succ]
              refine Rg.Till.take (i := 4) (v := .slice none 0 0) (some 106) rfl rfl (by kernel_rfl) (by kernel_rfl) (fun _ _ _ h => h) (by kernel_rfl) (by kernel_rfl) (Or.inl ⟨rfl, fun w' hS => ?_⟩) HS2 ?_
              · have y0 := hS; go_simp
              simp only [Act.put, List.setIfInBounds_toArray, List.set_cons_zero, List.set_cons_succ]
              refine Rg.Till.take (i := 5) (v := .int .i64 0) (some 107) rfl rfl (by kernel_rfl) (by kernel_rfl) (fun _ _ _ h => h) (by kernel_rfl) (by kernel_rfl) (Or.inl ⟨rfl, fun w' hS => ?_⟩) HS2 ?_
              · have y0 := hS; go_simp
              simp only [Act.put, List.setIfInBounds_toArray, List.set_cons_zero, List.set_cons_succ]
              refine Rg.Till.oneK (i := 6) (by kernel_rfl) rfl rfl ?_
              intro K hK
              go_simp
              refine hK.out _ _ (fun _ => HS2) ?_
              clear hK K
              refine Rg.Till.oneK (i := 7) (by kernel_rfl) rfl rfl ?_
              intro K hK
              have R11 : OwnA w10.drew wc.heap.size (.slice sa 1 sc) [(pn, pv)] := R10.out
              refine op_appA (d := some 109) rfl _ _ rfl wc.heap.size (.slice sa 1 sc) [(pn, pv)] rfl R11 none 0 0 [] rfl ?_ ?_ ?_ ?_ B10.out.size ?_
              · rfl
              · intro _; exact ⟨rfl, rfl⟩
              · intro j k hj; simp at hj
              · simp
              · intro v12 w12 q1 q2 q3
                obtain ⟨ea, ec, hv⟩ := q1.shape
                generalize ([(pn, pv)] ++ []).length = el at hv
                subst hv
                have b12 : Below wc.heap.size wc w12 := B10.out.drew.trans (grownB R11 q2 B10.out.size)
                have BW12 : Below w.heap.size w w12 := nxt B7.out b12
                have X12 : Hid (w12.heap[w.heap.size]? = some (.cells #[.slice (some ⟨b, 0, none⟩) ns.length vc, .int .i64 root, .int .i64 next] 24 (0, 0)) ∧ w12.heap[w.heap.size + 1]? = some (.cells #[.int .i64 pw, .int .i64 pi, .int .i64 pp, .int .i64 pat, .string pg, .string pk, .string pt, .string pn, .string pv] 26 (0, 0)) ∧ w12.heap[w.heap.size + 2]? = some (.cells #[.slice none 0 0, .int .i64 0, .int .i64 0] 24 (0, 0)) ∧ w12.heap[w.heap.size + 3]? = some (.cells #[.int .i64 m.id, .int .i64 m.par, .string m.tag, .string m.key, .string m.txt, .slice aa m.ats.length ac, .slice ka m.kids.length kc] 56 (0, 0))) := ⟨(b12.block _ (lt_of_block X7.out.1)).trans X7.out.1, (b12.block _ (lt_of_block X7.out.2.1)).trans X7.out.2.1, (b12.block _ (lt_of_block X7.out.2.2.1)).trans X7.out.2.2.1, (b12.block _ (lt_of_block X7.out.2.2.2)).trans X7.out.2.2.2⟩
                have HS3 : (fun w' : World => w'.cell? ⟨w.heap.size, 0, none⟩ = some (.slice (some ⟨b, 0, none⟩) ns.length vc)) w12 := (three X12.out.1).1
                refine hK.out _ _ (fun _ => HS3) ?_
                clear hK K
                simp only [Act.put, List.setIfInBounds_toArray, List.set_cons_zero, List.set_cons_succ]
                refine Rg.Till.oneK (i := 8) (by kernel_rfl) rfl rfl ?_
                intro K hK
                go_simp
                refine hK.out _ _ (fun _ => HS3) ?_
                clear hK K
                refine Rg.Till.oneK (i := 9) (by kernel_rfl) rfl rfl ?_
                intro K hK
                go_simp
                refine hK.out _ _ (fun _ => HS3) ?_
                clear hK K
                have O12 : Pg.OwnN w12 B (.slice (some ⟨b, 0, none⟩) ns.length vc) ns ab kb := HO.out.below BW12
                obtain ⟨g, hg, -, -, -, -, -, z5, -⟩ := Pg.rowN_cells O12.row HM.out
                simp only [Option.some.injEq, Addr.mk.injEq, and_true] at hg
                subst hg
                have f5 : w12.frozen? ⟨b, q * 7 + 5, none⟩ = false := own_frozen O12.row _
                refine Rg.Till.oneK (i := 10) (by kernel_rfl) rfl rfl ?_
                intro K hK
                go_simp
                refine hK.out _ _ (fun h => absurd rfl h) ?_
                clear hK K
                refine Rg.Till.done (by kernel_rfl) ?_
                have hs7 := S7.out
                have hs8 := HSX.out.2
                have hB0 := HB.out
                have hA12 : OwnA w12 B (.slice ea el ec) (insAt [] 0 (pn, pv)) := OwnA.less q1 (by omega)
                have hfit : ∀ s ∈ insAt [] 0 (pn, pv), s.1.size ≤ 140737488351232 ∧ s.2.size ≤ 140737488351232 := by
                  intro s hs
                  unfold insAt at hs
                  rcases List.mem_append.1 hs with hs | hs
                  · rcases List.mem_append.1 hs with hs | hs
                    · exact HFS.out s (List.mem_of_mem_take hs)
                    · rw [List.mem_singleton.1 hs]; exact ⟨HP.out.name, HP.out.val⟩
                  · exact HFS.out s (List.mem_of_mem_drop hs)
                have hlen : (insAt [] 0 (pn, pv)).length * 32 ≤ 140737488351232 := by simp [insAt]
                have OS := O12.setAts HM.out hA12 hfit hlen (fun j b' hj h1 h2 => by have h3 := (OwnA.rng q1 h1).1; have h4 := (HO.out.foot (Or.inr (Or.inl ⟨j, hj, h2⟩))).2; omega)
                have XS : Hid ((w12.setCell ⟨b, q * 7 + 5, none⟩ (.slice ea el ec)).heap[w.heap.size]? = some (.cells #[.slice (some ⟨b, 0, none⟩) ns.length vc, .int .i64 root, .int .i64 next] 24 (0, 0)) ∧ (w12.setCell ⟨b, q * 7 + 5, none⟩ (.slice ea el ec)).heap[w.heap.size + 2]? = some (.cells #[.slice none 0 0, .int .i64 0, .int .i64 0] 24 (0, 0))) := ⟨(heap_set_other _ (by omega)).trans X12.out.1, (heap_set_other _ (by omega)).trans X12.out.2.2.1⟩
                have BA : Below B w (w12.setCell ⟨b, q * 7 + 5, none⟩ (.slice ea el ec)) := ⟨BW12.os, BW12.tape, BW12.output, by have := BW12.size; simpa [World.setCell] using this, fun j hj => (heap_set_other _ (by have := HBB.out; omega)).trans (BW12.block j (by have := HB.out; omega))⟩
                clear z5 f5 x0 HS2 HS3
                obtain ⟨u0, u1, u2⟩ := three XS.out.1
                obtain ⟨⟨z0, z1, z2⟩, zf0, zf1, zf2⟩ : ((w12.setCell ⟨b, q * 7 + 5, none⟩ (.slice ea el ec)).cell? ⟨w.heap.size + 2, 0, none⟩ = some (.slice none 0 0) ∧ (w12.setCell ⟨b, q * 7 + 5, none⟩ (.slice ea el ec)).cell? ⟨w.heap.size + 2, 1, none⟩ = some (.int .i64 0) ∧ (w12.setCell ⟨b, q * 7 + 5, none⟩ (.slice ea el ec)).cell? ⟨w.heap.size + 2, 2, none⟩ = some (.int .i64 0)) ∧ (w12.setCell ⟨b, q * 7 + 5, none⟩ (.slice ea el ec)).frozen? ⟨w.heap.size + 2, 0, none⟩ = false ∧ (w12.setCell ⟨b, q * 7 + 5, none⟩ (.slice ea el ec)).frozen? ⟨w.heap.size + 2, 1, none⟩ = false ∧ (w12.setCell ⟨b, q * 7 + 5, none⟩ (.slice ea el ec)).frozen? ⟨w.heap.size + 2, 2, none⟩ = false := ⟨three XS.out.2, (cell_of XS.out.2 0).2, (cell_of XS.out.2 1).2, (cell_of XS.out.2 2).2⟩
                have HZA : (w12.setCell ⟨b, q * 7 + 5, none⟩ (.slice ea el ec)).heap[w.heap.size + 1 + 1]? = some (.cells #[.slice none 0 0, .int .i64 0, .int .i64 0] 24 (0, 0)) := XS.out.2
                obtain ⟨f1, f2, f3⟩ := state_fin (v := .slice (some ⟨b, 0, none⟩) ns.length vc) (r := .int .i64 root) (n := .int .i64 next) HZA
                have f3 := f3 B w (by have := HB.out; omega) BA
                have O15 : Hid (Pg.OwnN ((((w12.setCell ⟨b, q * 7 + 5, none⟩ (.slice ea el ec)).setCell ⟨w.heap.size + 1 + 1, 0, none⟩ (.slice (some ⟨b, 0, none⟩) ns.length vc)).setCell ⟨w.heap.size + 1 + 1, 1, none⟩ (.int .i64 root)).setCell ⟨w.heap.size + 1 + 1, 2, none⟩ (.int .i64 next)) B (.slice (some ⟨b, 0, none⟩) ns.length vc) (ns.set q (m.withAts (insAt [] 0 (pn, pv)))) (upd ab q (.slice ea el ec)) kb) := OS.same fun b hb => f2 b (OS.notState HZA hb)
                have F1 : Hid (_ = some (Obj.cells _ _ _)) := f1
                have F3 : Hid (Below B w _) := f3
                clear f1 f2 f3 HZA
                go_wp2_with fail
                all_goals (
                clear u0 u1 u2 z0 z1 z2 zf0 zf1 zf2 
                generalize ((((w12.setCell ⟨b, q * 7 + 5, none⟩ (.slice ea el ec)).setCell ⟨w.heap.size + 1 + 1, 0, none⟩ (.slice (some ⟨b, 0, none⟩) ns.length vc)).setCell ⟨w.heap.size + 1 + 1, 1, none⟩ (.int .i64 root)).setCell ⟨w.heap.size + 1 + 1, 2, none⟩ (.int .i64 next)) = W9 at *
                obtain ⟨c0, c1, c2⟩ := three F1.out
                refine bodyPost_ret (v := .tuple #[.agg #[.slice (some ⟨b, 0, none⟩) ns.length vc, .int .i64 root, .int .i64 next], .int .i64 0]) (by simp [results, Tryz.results24, go_sem, c0, c1, c2]) rfl ?_
                rw [HRE.out]
                exact ⟨_, _, _, rfl, O15.out, F3.out⟩)
            | some oad =>
              have htl2 : (fl.take k).length = k := by rw [List.length_take]; omega
              have HTL : Hid ((fl.take k).length = k) := htl2
              have LT : Hid (LayA wc (some oad) fl) := OA7.out.lay HFS.out
              go_wp2_with (first | (refine wpList_appA _ rfl (.tmp 89) (.tmp 92) rfl wc.heap.size (.slice none 0 0) [] rfl (OwnA.nil _ _) (some oad) k oc (fl.take k) rfl HTL.out (fun h => by cases h) (LT.out.upto k) (by simp; omega) (Nat.le_refl _) ?_; intro v8 w8 q1 q2 q3; rw [List.nil_append] at q1; obtain ⟨ra, rc, rfl⟩ : ∃ a c, v8 = Value.slice a k c := (by obtain ⟨a, c, h⟩ := q1.shape; exact ⟨a, c, by rw [h, HTL.out]⟩); have R8 : Hid (OwnA w8 wc.heap.size (.slice ra k rc) (fl.take k)) := q1; have B8 : Hid (Below wc.heap.size wc w8) := grownB (OwnA.nil wc wc.heap.size) q2 (Nat.le_refl _); clear q1 q2 q3; have n7 := keepc B8.out _ _ n7; have n8 := keepc B8.out _ _ n8; have R9 : Hid (OwnA (w8.alloc (.cells #[.string pn, .string pv] 43)) wc.heap.size (.slice ra k rc) (fl.take k)) := R8.out.below (below_one _ _); have S9 : Hid (wc.heap.size ≤ (w8.alloc (.cells #[.string pn, .string pv] 43)).heap.size) := Nat.le_trans B8.out.size (below_one _ _).size) | (refine wpList_pushA _ rfl (.tmp 94) (.tmp 100) rfl wc.heap.size _ (fl.take k) rfl R9.out (pn, pv) ⟨w8.heap.size, 0, none⟩ 1 rfl (newCells w8 _ _ 0 _ rfl) (newCells w8 _ _ 1 _ rfl) (by have := HTL.out; omega) S9.out ?_; intro v10 w10 q1 q2 q3; have R10 : Hid (OwnA w10 wc.heap.size v10 (fl.take k ++ [(pn, pv)])) := q1; have B10 : Hid (Below wc.heap.size wc w10) := (nxt B8.out (below_one _ _)).trans (grownB R9.out q2 S9.out); clear q1 q2 q3))
              have X10 : Hid (w10.heap[w.heap.size]? = some (.cells #[.slice (some ⟨b, 0, none⟩) ns.length vc, .int .i64 root, .int .i64 next] 24 (0, 0)) ∧ w10.heap[w.heap.size + 1]? = some (.cells #[.int .i64 pw, .int .i64 pi, .int .i64 pp, .int .i64 pat, .string pg, .string pk, .string pt, .string pn, .string pv] 26 (0, 0)) ∧ w10.heap[w.heap.size + 2]? = some (.cells #[.slice none 0 0, .int .i64 0, .int .i64 0] 24 (0, 0)) ∧ w10.heap[w.heap.size + 3]? = some (.cells #[.int .i64 m.id, .int .i64 m.par, .string m.tag, .string m.key, .string m.txt, .slice aa m.ats.length ac, .slice ka m.kids.length kc] 56 (0, 0))) := ⟨(B10.out.block _ (lt_of_block X7.out.1)).trans X7.out.1, (B10.out.block _ (lt_of_block X7.out.2.1)).trans X7.out.2.1, (B10.out.block _ (lt_of_block X7.out.2.2.1)).trans X7.out.2.2.1, (B10.out.block _ (lt_of_block X7.out.2.2.2)).trans X7.out.2.2.2⟩
              obtain ⟨sa, sc, hsv⟩ : ∃ a c, v10 = Value.slice a (fl.take k ++ [(pn, pv)]).length c := R10.out.shape
              subst hsv
              clear R8 R9 S9 x0 x1 x2 n0 n1 n2 n3 n4 n5 n6 z0 z1 z2 zf0 zf1 zf2
              have x0 := (three X10.out.1).1
              have HS2 : (fun w' : World => w'.cell? ⟨w.heap.size, 0, none⟩ = some (.slice (some ⟨b, 0, none⟩) ns.length vc)) w10.drew := x0
              refine Rg.Till.region (fun w' : World => w'.cell? ⟨w.heap.size, 0, none⟩ = some (.slice (some ⟨b, 0, none⟩) ns.length vc)) 10 (by kernel_rfl) ?_
              show Rg.Till _ _ _ _ _ 11 (Array.replicate 11 false) _ _
              refine Rg.Till.take (i := 0) (v := .pointer (some ⟨w.heap.size, 0, none⟩)) (some 102) rfl rfl (by kernel_rfl) (by kernel_rfl) (fun _ _ _ h => h) (by kernel_rfl) (by kernel_rfl) (Or.inl ⟨rfl, fun w' hS => ?_⟩) HS2 ?_
              · have y0 := hS; go_simp
              simp only [Act.put, List.setIfInBounds_toArray, List.set_cons_zero, List.set_cons_succ]
              refine Rg.Till.take (i := 1) (v := .slice (some ⟨b, 0, none⟩) ns.length vc) (some 103) rfl rfl (by kernel_rfl) (by kernel_rfl) (fun _ _ _ h => h) (by kernel_rfl) (by kernel_rfl) (Or.inl ⟨rfl, fun w' hS => ?_⟩) HS2 ?_
              · have y0 := hS; go_simp
              simp only [Act.put, List.setIfInBounds_toArray, List.set_cons_zero, List.set_cons_succ]
              refine Rg.Till.take (i := 2) (v := .int .i64 (q : Int)) (some 104) rfl rfl (by kernel_rfl) (by kernel_rfl) (fun _ _ _ h => h) (by kernel_rfl) (by kernel_rfl) (Or.inl ⟨rfl, fun w' hS => ?_⟩) HS2 ?_
              · have y0 := hS; go_simp
              simp only [Act.put, List.setIfInBounds_toArray, List.set_cons_zero, List.set_cons_succ]
              refine Rg.Till.take (i := 3) (v := .slice sa (fl.take k ++ [(pn, pv)]).length sc) (some 105) rfl rfl (by kernel_rfl) (by kernel_rfl) (fun _ _ _ h => h) (by kernel_rfl) (by kernel_rfl) (Or.inl ⟨rfl, fun w' hS => ?_⟩) HS2 ?_
              · have y0 := hS; go_simp
              simp only [Act.put, List.setIfInBounds_toArray, List.set_cons_zero, List.set_cons_succ]
              refine Rg.Till.take (i := 4) (v := .slice (some oad) fl.length oc) (some 106) rfl rfl (by kernel_rfl) (by kernel_rfl) (fun _ _ _ h => h) (by kernel_rfl) (by kernel_rfl) (Or.inl ⟨rfl, fun w' hS => ?_⟩) HS2 ?_
              · have y0 := hS; go_simp
              simp only [Act.put, List.setIfInBounds_toArray, List.set_cons_zero, List.set_cons_succ]
              refine Rg.Till.take (i := 5) (v := .int .i64 (k : Int)) (some 107) rfl rfl (by kernel_rfl) (by kernel_rfl) (fun _ _ _ h => h) (by kernel_rfl) (by kernel_rfl) (Or.inl ⟨rfl, fun w' hS => ?_⟩) HS2 ?_
              · have y0 := hS; go_simp
              simp only [Act.put, List.setIfInBounds_toArray, List.set_cons_zero, List.set_cons_succ]
              refine Rg.Till.oneK (i := 6) (by kernel_rfl) rfl rfl ?_
              intro K hK
              go_simp
              refine hK.out _ _ (fun _ => HS2) ?_
              clear hK K
              refine Rg.Till.oneK (i := 7) (by kernel_rfl) rfl rfl ?_
              intro K hK
              have R11 : OwnA w10.drew wc.heap.size (.slice sa (fl.take k ++ [(pn, pv)]).length sc) (fl.take k ++ [(pn, pv)]) := R10.out
              have e11 : (fl.take k ++ [(pn, pv)]).length = k + 1 := by rw [List.length_append, htl2]; rfl
              rw [e11] at R11
              have L11 : LayA w10.drew (some (oad.add (k * 2))) (fl.drop k) := (LT.out.below B10.out).fromN k
              have ed : (fl.drop k).length = fl.length - k := List.length_drop
              refine op_appA (d := some 109) rfl _ _ rfl wc.heap.size (.slice sa (k + 1) sc) (fl.take k ++ [(pn, pv)]) rfl R11 _ _ _ (fl.drop k) rfl ?_ ?_ ?_ ?_ B10.out.size ?_
              · exact ed
              · intro h
                split at h <;> cases h
              · split
                · intro j z hj
                  rw [List.drop_eq_nil_of_le (by omega)] at hj
                  cases hj
                · exact L11
              · rw [e11]; omega
              · intro v12 w12 q1 q2 q3
                obtain ⟨ea, ec, hv⟩ := q1.shape
                generalize (fl.take k ++ [(pn, pv)] ++ fl.drop k).length = el at hv
                subst hv
                have b12 : Below wc.heap.size wc w12 := B10.out.drew.trans (grownB R11 q2 B10.out.size)
                have BW12 : Below w.heap.size w w12 := nxt B7.out b12
                have X12 : Hid (w12.heap[w.heap.size]? = some (.cells #[.slice (some ⟨b, 0, none⟩) ns.length vc, .int .i64 root, .int .i64 next] 24 (0, 0)) ∧ w12.heap[w.heap.size + 1]? = some (.cells #[.int .i64 pw, .int .i64 pi, .int .i64 pp, .int .i64 pat, .string pg, .string pk, .string pt, .string pn, .string pv] 26 (0, 0)) ∧ w12.heap[w.heap.size + 2]? = some (.cells #[.slice none 0 0, .int .i64 0, .int .i64 0] 24 (0, 0)) ∧ w12.heap[w.heap.size + 3]? = some (.cells #[.int .i64 m.id, .int .i64 m.par, .string m.tag, .string m.key, .string m.txt, .slice aa m.ats.length ac, .slice ka m.kids.length kc] 56 (0, 0))) := ⟨(b12.block _ (lt_of_block X7.out.1)).trans X7.out.1, (b12.block _ (lt_of_block X7.out.2.1)).trans X7.out.2.1, (b12.block _ (lt_of_block X7.out.2.2.1)).trans X7.out.2.2.1, (b12.block _ (lt_of_block X7.out.2.2.2)).trans X7.out.2.2.2⟩
                have HS3 : (fun w' : World => w'.cell? ⟨w.heap.size, 0, none⟩ = some (.slice (some ⟨b, 0, none⟩) ns.length vc)) w12 := (three X12.out.1).1
                refine hK.out _ _ (fun _ => HS3) ?_
                clear hK K
                simp only [Act.put, List.setIfInBounds_toArray, List.set_cons_zero, List.set_cons_succ]
                refine Rg.Till.oneK (i := 8) (by kernel_rfl) rfl rfl ?_
                intro K hK
                go_simp
                refine hK.out _ _ (fun _ => HS3) ?_
                clear hK K
                refine Rg.Till.oneK (i := 9) (by kernel_rfl) rfl rfl ?_
                intro K hK
                go_simp
                refine hK.out _ _ (fun _ => HS3) ?_
                clear hK K
                have O12 : Pg.OwnN w12 B (.slice (some ⟨b, 0, none⟩) ns.length vc) ns ab kb := HO.out.below BW12
                obtain ⟨g, hg, -, -, -, -, -, z5, -⟩ := Pg.rowN_cells O12.row HM.out
                simp only [Option.some.injEq, Addr.mk.injEq, and_true] at hg
                subst hg
                have f5 : w12.frozen? ⟨b, q * 7 + 5, none⟩ = false := own_frozen O12.row _
                refine Rg.Till.oneK (i := 10) (by kernel_rfl) rfl rfl ?_
                intro K hK
                go_simp
                refine hK.out _ _ (fun h => absurd rfl h) ?_
                clear hK K
                refine Rg.Till.done (by kernel_rfl) ?_
                have hs7 := S7.out
                have hs8 := HSX.out.2
                have hB0 := HB.out
                have hA12 : OwnA w12 B (.slice ea el ec) (insAt fl k (pn, pv)) := OwnA.less q1 (by omega)
                have hfit : ∀ s ∈ insAt fl k (pn, pv), s.1.size ≤ 140737488351232 ∧ s.2.size ≤ 140737488351232 := by
                  intro s hs
                  unfold insAt at hs
                  rcases List.mem_append.1 hs with hs | hs
                  · rcases List.mem_append.1 hs with hs | hs
                    · exact HFS.out s (List.mem_of_mem_take hs)
                    · rw [List.mem_singleton.1 hs]; exact ⟨HP.out.name, HP.out.val⟩
                  · exact HFS.out s (List.mem_of_mem_drop hs)
                have hlen : (insAt fl k (pn, pv)).length * 32 ≤ 140737488351232 := by unfold insAt; simp; omega
                have OS := O12.setAts HM.out hA12 hfit hlen (fun j b' hj h1 h2 => by have h3 := (OwnA.rng q1 h1).1; have h4 := (HO.out.foot (Or.inr (Or.inl ⟨j, hj, h2⟩))).2; omega)
                have XS : Hid ((w12.setCell ⟨b, q * 7 + 5, none⟩ (.slice ea el ec)).heap[w.heap.size]? = some (.cells #[.slice (some ⟨b, 0, none⟩) ns.length vc, .int .i64 root, .int .i64 next] 24 (0, 0)) ∧ (w12.setCell ⟨b, q * 7 + 5, none⟩ (.slice ea el ec)).heap[w.heap.size + 2]? = some (.cells #[.slice none 0 0, .int .i64 0, .int .i64 0] 24 (0, 0))) := ⟨(heap_set_other _ (by omega)).trans X12.out.1, (heap_set_other _ (by omega)).trans X12.out.2.2.1⟩
                have BA : Below B w (w12.setCell ⟨b, q * 7 + 5, none⟩ (.slice ea el ec)) := ⟨BW12.os, BW12.tape, BW12.output, by have := BW12.size; simpa [World.setCell] using this, fun j hj => (heap_set_other _ (by have := HBB.out; omega)).trans (BW12.block j (by have := HB.out; omega))⟩
                clear z5 f5 x0 HS2 HS3
                obtain ⟨u0, u1, u2⟩ := three XS.out.1
                obtain ⟨⟨z0, z1, z2⟩, zf0, zf1, zf2⟩ : ((w12.setCell ⟨b, q * 7 + 5, none⟩ (.slice ea el ec)).cell? ⟨w.heap.size + 2, 0, none⟩ = some (.slice none 0 0) ∧ (w12.setCell ⟨b, q * 7 + 5, none⟩ (.slice ea el ec)).cell? ⟨w.heap.size + 2, 1, none⟩ = some (.int .i64 0) ∧ (w12.setCell ⟨b, q * 7 + 5, none⟩ (.slice ea el ec)).cell? ⟨w.heap.size + 2, 2, none⟩ = some (.int .i64 0)) ∧ (w12.setCell ⟨b, q * 7 + 5, none⟩ (.slice ea el ec)).frozen? ⟨w.heap.size + 2, 0, none⟩ = false ∧ (w12.setCell ⟨b, q * 7 + 5, none⟩ (.slice ea el ec)).frozen? ⟨w.heap.size + 2, 1, none⟩ = false ∧ (w12.setCell ⟨b, q * 7 + 5, none⟩ (.slice ea el ec)).frozen? ⟨w.heap.size + 2, 2, none⟩ = false := ⟨three XS.out.2, (cell_of XS.out.2 0).2, (cell_of XS.out.2 1).2, (cell_of XS.out.2 2).2⟩
                have HZA : (w12.setCell ⟨b, q * 7 + 5, none⟩ (.slice ea el ec)).heap[w.heap.size + 1 + 1]? = some (.cells #[.slice none 0 0, .int .i64 0, .int .i64 0] 24 (0, 0)) := XS.out.2
                obtain ⟨f1, f2, f3⟩ := state_fin (v := .slice (some ⟨b, 0, none⟩) ns.length vc) (r := .int .i64 root) (n := .int .i64 next) HZA
                have f3 := f3 B w (by have := HB.out; omega) BA
                have O15 : Hid (Pg.OwnN ((((w12.setCell ⟨b, q * 7 + 5, none⟩ (.slice ea el ec)).setCell ⟨w.heap.size + 1 + 1, 0, none⟩ (.slice (some ⟨b, 0, none⟩) ns.length vc)).setCell ⟨w.heap.size + 1 + 1, 1, none⟩ (.int .i64 root)).setCell ⟨w.heap.size + 1 + 1, 2, none⟩ (.int .i64 next)) B (.slice (some ⟨b, 0, none⟩) ns.length vc) (ns.set q (m.withAts (insAt fl k (pn, pv)))) (upd ab q (.slice ea el ec)) kb) := OS.same fun b hb => f2 b (OS.notState HZA hb)
                have F1 : Hid (_ = some (Obj.cells _ _ _)) := f1
                have F3 : Hid (Below B w _) := f3
                clear f1 f2 f3 HZA
                go_wp2_with fail
                all_goals (
                clear u0 u1 u2 z0 z1 z2 zf0 zf1 zf2 
                generalize ((((w12.setCell ⟨b, q * 7 + 5, none⟩ (.slice ea el ec)).setCell ⟨w.heap.size + 1 + 1, 0, none⟩ (.slice (some ⟨b, 0, none⟩) ns.length vc)).setCell ⟨w.heap.size + 1 + 1, 1, none⟩ (.int .i64 root)).setCell ⟨w.heap.size + 1 + 1, 2, none⟩ (.int .i64 next)) = W9 at *
                obtain ⟨c0, c1, c2⟩ := three F1.out
                refine bodyPost_ret (v := .tuple #[.agg #[.slice (some ⟨b, 0, none⟩) ns.length vc, .int .i64 root, .int .i64 next], .int .i64 0]) (by simp [results, Tryz.results24, go_sem, c0, c1, c2]) rfl ?_
                rw [HRE.out]
                exact ⟨_, _, _, rfl, O15.out, F3.out⟩)
end Go.Proofs.YtcdnakcojanaeabGreat
