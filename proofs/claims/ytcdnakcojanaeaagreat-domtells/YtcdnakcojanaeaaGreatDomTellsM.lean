/-
  DomTells holds for every display and every patch: what a patch makes of it, its tree, whether it may be, are as the page says; what is handed in stays. No condition. (Printed by wip/make/mkdomtells.py.)
-/
import Derived.Test.YtcdnakcojanaeaaGreatDtBelJ
import Derived.Test.YtcdnakcojanaeaaGreatDbAlikeM
import Derived.Test.YtcdnakcojanaeaaGreatDoArgJ
namespace Go.Proofs.YtcdnakcojanaeaaGreat.domTells
open Go.ChangeShapes Go.WideShapes Go.ChangeAt Go.RowKit Go.Deep
open Do

set_option maxRecDepth 100000 in
set_option maxHeartbeats 12800000 in
theorem walk (s : Ds) (x : Value) (p : Pt) (y : Value) (w : World) (hx : DsArg w x s) (hy : PtArg y p) :
    Calls Tryz.prog 3 #[x, y] w fun e w' => e = .returned (.bool true) ∧ Below w.heap.size w w' := by
  obtain ⟨a, c, rfl, hs⟩ := hx
  obtain ⟨rfl, hp, -⟩ := hy
  have HS : Hid (∀ W, Below w.heap.size w W → DsIs W s a c) := fun W hb => hs.below hb
  obtain ⟨A0, hA0⟩ : ∃ A, A = applyD s p := ⟨_, rfl⟩
  obtain ⟨er, D⟩ := A0
  obtain ⟨ter, hter⟩ : ∃ t, t = (treeD s).1 := ⟨_, rfl⟩
  obtain ⟨tv, htv⟩ : ∃ t, t = treeV s := ⟨_, rfl⟩
  obtain ⟨ck, hck⟩ : ∃ t, t = chkD s := ⟨_, rfl⟩
  have PAP : Hid (∀ W a c, DsIs W s a c → Calls Tryz.prog 6 #[.agg #[.slice a s.nodes.length c, .int .i64 s.root, .int .i64 s.next], mkP p] W fun e w' => ∃ a3 c3, e = .returned (.tuple #[.agg #[.slice a3 D.nodes.length c3, .int .i64 D.root, .int .i64 D.next], .int .i64 er]) ∧ DsIs w' D a3 c3 ∧ Below W.heap.size W w') := fun W a c h => (apply_any s p a c W h hp).mono fun e w' ⟨x, e1, h1, h2⟩ => by
    obtain ⟨a3, c3, e3, h3⟩ := h1.isA
    rw [← hA0] at e1 e3 h3
    subst e3
    exact ⟨a3, c3, e1, h3, h2⟩
  have RAP : Hid (∀ W a c a9 c9 w9, DsIs w9 D a9 c9 → DsIs W s a c → Calls Tryz.prog 7 #[.agg #[.slice a s.nodes.length c, .int .i64 s.root, .int .i64 s.next], mkP p] W fun e w' => ∃ a3 c3, e = .returned (.tuple #[.agg #[.slice a3 D.nodes.length c3, .int .i64 D.root, .int .i64 D.next], .int .i64 er]) ∧ DsIs w' D a3 c3 ∧ Below W.heap.size W w') := fun W a c a9 c9 w9 hd h => (rapply_any s p a c W h hp).mono fun e w' h1 => by
    have := pg_v (s := s) (p := p) (a := a9) (c := c9) (w0 := w9) (by rw [← hA0]; exact hd) h1
    rw [← hA0] at this
    exact this
  have PTR : Hid (∀ W a c, DsIs W s a c → Calls Tryz.prog 8 #[.agg #[.slice a s.nodes.length c, .int .i64 s.root, .int .i64 s.next]] W fun e w' => ∃ g k t aa al ac ia il ic, e = .returned (.tuple #[mkT g k t aa al ac ia il ic, .int .i64 ter]) ∧ LayT w' 8 (mkT g k t aa al ac ia il ic) tv ∧ Below W.heap.size W w') := fun W a c h => (tree_any s a c W h).mono fun e w' h1 => by rw [hter, htv]; exact tree_v h1
  have RTR : Hid (∀ W a c, DsIs W s a c → Calls Tryz.prog 9 #[.agg #[.slice a s.nodes.length c, .int .i64 s.root, .int .i64 s.next]] W fun e w' => ∃ g k t aa al ac ia il ic, e = .returned (.tuple #[mkT g k t aa al ac ia il ic, .int .i64 ter]) ∧ LayT w' 8 (mkT g k t aa al ac ia il ic) tv ∧ Below W.heap.size W w') := fun W a c h => (rtreeD_any s a c W h).mono fun e w' h1 => by rw [hter, htv]; exact tree_v h1
  have PCK : Hid (∀ W a c, DsIs W s a c → Calls Tryz.prog 13 #[.agg #[.slice a s.nodes.length c, .int .i64 s.root, .int .i64 s.next]] W fun e w' => e = .returned (.int .i64 ck) ∧ Below W.heap.size W w') := fun W a c h => by rw [hck]; exact checkD_any s a c W h
  have RCK : Hid (∀ W a c, DsIs W s a c → Calls Tryz.prog 14 #[.agg #[.slice a s.nodes.length c, .int .i64 s.root, .int .i64 s.next]] W fun e w' => e = .returned (.int .i64 ck) ∧ Below W.heap.size W w') := fun W a c h => by rw [hck]; exact rcheckD_any s a c W h
  clear hA0 hter htv hck hs hp
  obtain ⟨pw, pi, pp, pat, pg, pk, pt, pn, pv⟩ := p
  obtain ⟨W1, hW1⟩ : ∃ W : World, W = (w.alloc (.cells #[.slice a s.nodes.length c, .int .i64 s.root, .int .i64 s.next] 24)).alloc (.cells #[.int .i64 pw, .int .i64 pi, .int .i64 pp, .int .i64 pat, .string pg, .string pk, .string pt, .string pn, .string pv] 26) := ⟨_, rfl⟩
  have B1 : Hid (Below w.heap.size w W1) := by show Below _ _ _; rw [hW1]; exact two_new _ _ _
  have X1 : Hid (W1.heap[w.heap.size]? = some (.cells #[.slice a s.nodes.length c, .int .i64 s.root, .int .i64 s.next] 24 (0, 0)) ∧ W1.heap[w.heap.size + 1]? = some (.cells #[.int .i64 pw, .int .i64 pi, .int .i64 pp, .int .i64 pat, .string pg, .string pk, .string pt, .string pn, .string pv] 26 (0, 0))) := by show _ ∧ _; rw [hW1]; exact ⟨((below_one _ _).block _ (by simp)).trans (heap_alloc_new _ _), heap_new2 _ _ _⟩
  go_enter Tryz.func3, Tryz.ntmps3
  go_upto_region 1 with fail
  rw [← hW1]
  clear hW1
  obtain ⟨x0, x1, x2⟩ := three X1.out.1
  go_wp2_with fail
  refine (of_any s a c W1 (HS.out W1 B1.out)).mono ?_
  rintro e w2 ⟨xo, rfl, hxo, hb2⟩
  obtain ⟨a1, c1, rfl, ho⟩ := hxo.isL (HS.out _ B1.out).len (HS.out _ B1.out).root (HS.out _ B1.out).next
  have hb := nxt hb2 (below_one w2 (.cells #[.slice a1 s.nodes.length c1, .int .i64 s.root, .int .i64 s.next] 29))
  have B2 : Hid (Below w.heap.size w (w2.alloc (.cells #[.slice a1 s.nodes.length c1, .int .i64 s.root, .int .i64 s.next] 29))) := nxt B1.out hb
  have X2 : Hid ((w2.alloc (.cells #[.slice a1 s.nodes.length c1, .int .i64 s.root, .int .i64 s.next] 29)).heap[w.heap.size]? = some (.cells #[.slice a s.nodes.length c, .int .i64 s.root, .int .i64 s.next] 24 (0, 0)) ∧ (w2.alloc (.cells #[.slice a1 s.nodes.length c1, .int .i64 s.root, .int .i64 s.next] 29)).heap[w.heap.size + 1]? = some (.cells #[.int .i64 pw, .int .i64 pi, .int .i64 pp, .int .i64 pat, .string pg, .string pk, .string pt, .string pn, .string pv] 26 (0, 0))) := ⟨(hb.block _ (lt_of_block X1.out.1)).trans X1.out.1, (hb.block _ (lt_of_block X1.out.2)).trans X1.out.2⟩
  have Y2' : Hid ((w2.alloc (.cells #[.slice a1 s.nodes.length c1, .int .i64 s.root, .int .i64 s.next] 29)).heap[w2.heap.size]? = some (.cells #[.slice a1 s.nodes.length c1, .int .i64 s.root, .int .i64 s.next] 29 (0, 0)) ∧ DsIs (w2.alloc (.cells #[.slice a1 s.nodes.length c1, .int .i64 s.root, .int .i64 s.next] 29)) s a1 c1) := ⟨heap_alloc_new _ _, ho.below (below_one _ _)⟩
  clear hb hb2 ho hxo X1 B1 x0 x1 x2
  go_upto_region 2 with fail
  generalize (w2.alloc (.cells #[.slice a1 s.nodes.length c1, .int .i64 s.root, .int .i64 s.next] 29)) = W2 at *
  generalize w2.heap.size = g5 at *
  have Y2 : Hid (W2.heap[g5]? = some (.cells #[.slice a1 s.nodes.length c1, .int .i64 s.root, .int .i64 s.next] 29 (0, 0)) ∧ DsIs W2 s a1 c1) := Y2'.out
  clear Y2'
  obtain ⟨y0, y1, y2⟩ := three Y2.out.1
  obtain ⟨n0, n1, n2, n3, n4, n5, n6, n7, n8⟩ := nine X2.out.2
  go_wp2_with fail
  refine (PAP.out W2 a1 c1 Y2.out.2).mono ?_
  rintro e w3 ⟨a3, c3, rfl, hd3, hb3⟩
  have hb := nxt hb3 (below_one w3 (.cells #[.slice a3 D.nodes.length c3, .int .i64 D.root, .int .i64 D.next] 29))
  have B3 : Hid (Below w.heap.size w (w3.alloc (.cells #[.slice a3 D.nodes.length c3, .int .i64 D.root, .int .i64 D.next] 29))) := nxt B2.out hb
  have X3 : Hid ((w3.alloc (.cells #[.slice a3 D.nodes.length c3, .int .i64 D.root, .int .i64 D.next] 29)).heap[w.heap.size]? = some (.cells #[.slice a s.nodes.length c, .int .i64 s.root, .int .i64 s.next] 24 (0, 0)) ∧ (w3.alloc (.cells #[.slice a3 D.nodes.length c3, .int .i64 D.root, .int .i64 D.next] 29)).heap[w.heap.size + 1]? = some (.cells #[.int .i64 pw, .int .i64 pi, .int .i64 pp, .int .i64 pat, .string pg, .string pk, .string pt, .string pn, .string pv] 26 (0, 0))) := ⟨(hb.block _ (lt_of_block X2.out.1)).trans X2.out.1, (hb.block _ (lt_of_block X2.out.2)).trans X2.out.2⟩
  have Y3 : Hid ((w3.alloc (.cells #[.slice a3 D.nodes.length c3, .int .i64 D.root, .int .i64 D.next] 29)).heap[g5]? = some (.cells #[.slice a1 s.nodes.length c1, .int .i64 s.root, .int .i64 s.next] 29 (0, 0)) ∧ DsIs (w3.alloc (.cells #[.slice a3 D.nodes.length c3, .int .i64 D.root, .int .i64 D.next] 29)) s a1 c1) := ⟨(hb.block _ (lt_of_block Y2.out.1)).trans Y2.out.1, Y2.out.2.below hb⟩
  have Z3 : Hid ((w3.alloc (.cells #[.slice a3 D.nodes.length c3, .int .i64 D.root, .int .i64 D.next] 29)).heap[w3.heap.size]? = some (.cells #[.slice a3 D.nodes.length c3, .int .i64 D.root, .int .i64 D.next] 29 (0, 0)) ∧ DsIs (w3.alloc (.cells #[.slice a3 D.nodes.length c3, .int .i64 D.root, .int .i64 D.next] 29)) D a3 c3) := ⟨heap_alloc_new _ _, hd3.below (below_one _ _)⟩
  clear hb hb3 hd3 X2 B2 Y2 PAP y0 y1 y2 n0 n1 n2 n3 n4 n5 n6 n7 n8
  go_upto_region 3 with fail
  generalize (w3.alloc (.cells #[.slice a3 D.nodes.length c3, .int .i64 D.root, .int .i64 D.next] 29)) = W3 at *
  generalize w3.heap.size = g6 at *
  obtain ⟨x0, x1, x2⟩ := three X3.out.1
  obtain ⟨n0, n1, n2, n3, n4, n5, n6, n7, n8⟩ := nine X3.out.2
  go_wp2_with fail
  refine (RAP.out W3 a c a3 c3 W3 Z3.out.2 (HS.out W3 B3.out)).mono ?_
  rintro e w4 ⟨a4, c4, rfl, hd4, hb4⟩
  have hb := nxt hb4 (below_one w4 (.cells #[.slice a4 D.nodes.length c4, .int .i64 D.root, .int .i64 D.next] 24))
  have B4 : Hid (Below w.heap.size w (w4.alloc (.cells #[.slice a4 D.nodes.length c4, .int .i64 D.root, .int .i64 D.next] 24))) := nxt B3.out hb
  have X4 : Hid ((w4.alloc (.cells #[.slice a4 D.nodes.length c4, .int .i64 D.root, .int .i64 D.next] 24)).heap[w.heap.size]? = some (.cells #[.slice a s.nodes.length c, .int .i64 s.root, .int .i64 s.next] 24 (0, 0)) ∧ (w4.alloc (.cells #[.slice a4 D.nodes.length c4, .int .i64 D.root, .int .i64 D.next] 24)).heap[w.heap.size + 1]? = some (.cells #[.int .i64 pw, .int .i64 pi, .int .i64 pp, .int .i64 pat, .string pg, .string pk, .string pt, .string pn, .string pv] 26 (0, 0))) := ⟨(hb.block _ (lt_of_block X3.out.1)).trans X3.out.1, (hb.block _ (lt_of_block X3.out.2)).trans X3.out.2⟩
  have Y4 : Hid ((w4.alloc (.cells #[.slice a4 D.nodes.length c4, .int .i64 D.root, .int .i64 D.next] 24)).heap[g5]? = some (.cells #[.slice a1 s.nodes.length c1, .int .i64 s.root, .int .i64 s.next] 29 (0, 0)) ∧ DsIs (w4.alloc (.cells #[.slice a4 D.nodes.length c4, .int .i64 D.root, .int .i64 D.next] 24)) s a1 c1) := ⟨(hb.block _ (lt_of_block Y3.out.1)).trans Y3.out.1, Y3.out.2.below hb⟩
  have Z4 : Hid ((w4.alloc (.cells #[.slice a4 D.nodes.length c4, .int .i64 D.root, .int .i64 D.next] 24)).heap[g6]? = some (.cells #[.slice a3 D.nodes.length c3, .int .i64 D.root, .int .i64 D.next] 29 (0, 0)) ∧ DsIs (w4.alloc (.cells #[.slice a4 D.nodes.length c4, .int .i64 D.root, .int .i64 D.next] 24)) D a3 c3) := ⟨(hb.block _ (lt_of_block Z3.out.1)).trans Z3.out.1, Z3.out.2.below hb⟩
  have Q4 : Hid ((w4.alloc (.cells #[.slice a4 D.nodes.length c4, .int .i64 D.root, .int .i64 D.next] 24)).heap[w4.heap.size]? = some (.cells #[.slice a4 D.nodes.length c4, .int .i64 D.root, .int .i64 D.next] 24 (0, 0)) ∧ DsIs (w4.alloc (.cells #[.slice a4 D.nodes.length c4, .int .i64 D.root, .int .i64 D.next] 24)) D a4 c4) := ⟨heap_alloc_new _ _, hd4.below (below_one _ _)⟩
  clear hb hb4 hd4 X3 B3 Y3 Z3 RAP x0 x1 x2 n0 n1 n2 n3 n4 n5 n6 n7 n8
  go_upto_region 4 with fail
  generalize (w4.alloc (.cells #[.slice a4 D.nodes.length c4, .int .i64 D.root, .int .i64 D.next] 24)) = W4 at *
  generalize w4.heap.size = g8 at *
  obtain ⟨y0, y1, y2⟩ := three Y4.out.1
  go_wp2_with fail
  refine (PTR.out W4 a1 c1 Y4.out.2).mono ?_
  rintro e w5 ⟨g10, k10, t10, aa10, al10, ac10, ia10, il10, ic10, rfl, hl5, hb5⟩
  have hb := nxt hb5 (below_one w5 (.cells #[.string g10, .string k10, .string t10, .slice aa10 al10 ac10, .slice ia10 il10 ic10] 40))
  have B5 : Hid (Below w.heap.size w (w5.alloc (.cells #[.string g10, .string k10, .string t10, .slice aa10 al10 ac10, .slice ia10 il10 ic10] 40))) := nxt B4.out hb
  have X5 : Hid ((w5.alloc (.cells #[.string g10, .string k10, .string t10, .slice aa10 al10 ac10, .slice ia10 il10 ic10] 40)).heap[w.heap.size]? = some (.cells #[.slice a s.nodes.length c, .int .i64 s.root, .int .i64 s.next] 24 (0, 0)) ∧ (w5.alloc (.cells #[.string g10, .string k10, .string t10, .slice aa10 al10 ac10, .slice ia10 il10 ic10] 40)).heap[w.heap.size + 1]? = some (.cells #[.int .i64 pw, .int .i64 pi, .int .i64 pp, .int .i64 pat, .string pg, .string pk, .string pt, .string pn, .string pv] 26 (0, 0))) := ⟨(hb.block _ (lt_of_block X4.out.1)).trans X4.out.1, (hb.block _ (lt_of_block X4.out.2)).trans X4.out.2⟩
  have Y5 : Hid ((w5.alloc (.cells #[.string g10, .string k10, .string t10, .slice aa10 al10 ac10, .slice ia10 il10 ic10] 40)).heap[g5]? = some (.cells #[.slice a1 s.nodes.length c1, .int .i64 s.root, .int .i64 s.next] 29 (0, 0)) ∧ DsIs (w5.alloc (.cells #[.string g10, .string k10, .string t10, .slice aa10 al10 ac10, .slice ia10 il10 ic10] 40)) s a1 c1) := ⟨(hb.block _ (lt_of_block Y4.out.1)).trans Y4.out.1, Y4.out.2.below hb⟩
  have Z5 : Hid ((w5.alloc (.cells #[.string g10, .string k10, .string t10, .slice aa10 al10 ac10, .slice ia10 il10 ic10] 40)).heap[g6]? = some (.cells #[.slice a3 D.nodes.length c3, .int .i64 D.root, .int .i64 D.next] 29 (0, 0)) ∧ DsIs (w5.alloc (.cells #[.string g10, .string k10, .string t10, .slice aa10 al10 ac10, .slice ia10 il10 ic10] 40)) D a3 c3) := ⟨(hb.block _ (lt_of_block Z4.out.1)).trans Z4.out.1, Z4.out.2.below hb⟩
  have Q5 : Hid ((w5.alloc (.cells #[.string g10, .string k10, .string t10, .slice aa10 al10 ac10, .slice ia10 il10 ic10] 40)).heap[g8]? = some (.cells #[.slice a4 D.nodes.length c4, .int .i64 D.root, .int .i64 D.next] 24 (0, 0)) ∧ DsIs (w5.alloc (.cells #[.string g10, .string k10, .string t10, .slice aa10 al10 ac10, .slice ia10 il10 ic10] 40)) D a4 c4) := ⟨(hb.block _ (lt_of_block Q4.out.1)).trans Q4.out.1, Q4.out.2.below hb⟩
  have T5 : Hid ((w5.alloc (.cells #[.string g10, .string k10, .string t10, .slice aa10 al10 ac10, .slice ia10 il10 ic10] 40)).heap[w5.heap.size]? = some (.cells #[.string g10, .string k10, .string t10, .slice aa10 al10 ac10, .slice ia10 il10 ic10] 40 (0, 0)) ∧ LayT (w5.alloc (.cells #[.string g10, .string k10, .string t10, .slice aa10 al10 ac10, .slice ia10 il10 ic10] 40)) 8 (mkT g10 k10 t10 aa10 al10 ac10 ia10 il10 ic10) tv) := ⟨heap_alloc_new _ _, LayT.below 8 hl5 (below_one _ _)⟩
  clear hb hb5 hl5 X4 B4 Y4 Z4 Q4 PTR y0 y1 y2
  go_upto_region 5 with fail
  generalize (w5.alloc (.cells #[.string g10, .string k10, .string t10, .slice aa10 al10 ac10, .slice ia10 il10 ic10] 40)) = W5 at *
  generalize w5.heap.size = h10 at *
  obtain ⟨x0, x1, x2⟩ := three X5.out.1
  go_wp2_with fail
  refine (RTR.out W5 a c (HS.out W5 B5.out)).mono ?_
  rintro e w6 ⟨g12, k12, t12, aa12, al12, ac12, ia12, il12, ic12, rfl, hl6, hb6⟩
  have hb := nxt hb6 (below_one w6 (.cells #[.string g12, .string k12, .string t12, .slice aa12 al12 ac12, .slice ia12 il12 ic12] 40))
  have B6 : Hid (Below w.heap.size w (w6.alloc (.cells #[.string g12, .string k12, .string t12, .slice aa12 al12 ac12, .slice ia12 il12 ic12] 40))) := nxt B5.out hb
  have X6 : Hid ((w6.alloc (.cells #[.string g12, .string k12, .string t12, .slice aa12 al12 ac12, .slice ia12 il12 ic12] 40)).heap[w.heap.size]? = some (.cells #[.slice a s.nodes.length c, .int .i64 s.root, .int .i64 s.next] 24 (0, 0)) ∧ (w6.alloc (.cells #[.string g12, .string k12, .string t12, .slice aa12 al12 ac12, .slice ia12 il12 ic12] 40)).heap[w.heap.size + 1]? = some (.cells #[.int .i64 pw, .int .i64 pi, .int .i64 pp, .int .i64 pat, .string pg, .string pk, .string pt, .string pn, .string pv] 26 (0, 0))) := ⟨(hb.block _ (lt_of_block X5.out.1)).trans X5.out.1, (hb.block _ (lt_of_block X5.out.2)).trans X5.out.2⟩
  have Y6 : Hid ((w6.alloc (.cells #[.string g12, .string k12, .string t12, .slice aa12 al12 ac12, .slice ia12 il12 ic12] 40)).heap[g5]? = some (.cells #[.slice a1 s.nodes.length c1, .int .i64 s.root, .int .i64 s.next] 29 (0, 0)) ∧ DsIs (w6.alloc (.cells #[.string g12, .string k12, .string t12, .slice aa12 al12 ac12, .slice ia12 il12 ic12] 40)) s a1 c1) := ⟨(hb.block _ (lt_of_block Y5.out.1)).trans Y5.out.1, Y5.out.2.below hb⟩
  have Z6 : Hid ((w6.alloc (.cells #[.string g12, .string k12, .string t12, .slice aa12 al12 ac12, .slice ia12 il12 ic12] 40)).heap[g6]? = some (.cells #[.slice a3 D.nodes.length c3, .int .i64 D.root, .int .i64 D.next] 29 (0, 0)) ∧ DsIs (w6.alloc (.cells #[.string g12, .string k12, .string t12, .slice aa12 al12 ac12, .slice ia12 il12 ic12] 40)) D a3 c3) := ⟨(hb.block _ (lt_of_block Z5.out.1)).trans Z5.out.1, Z5.out.2.below hb⟩
  have Q6 : Hid ((w6.alloc (.cells #[.string g12, .string k12, .string t12, .slice aa12 al12 ac12, .slice ia12 il12 ic12] 40)).heap[g8]? = some (.cells #[.slice a4 D.nodes.length c4, .int .i64 D.root, .int .i64 D.next] 24 (0, 0)) ∧ DsIs (w6.alloc (.cells #[.string g12, .string k12, .string t12, .slice aa12 al12 ac12, .slice ia12 il12 ic12] 40)) D a4 c4) := ⟨(hb.block _ (lt_of_block Q5.out.1)).trans Q5.out.1, Q5.out.2.below hb⟩
  have T6 : Hid ((w6.alloc (.cells #[.string g12, .string k12, .string t12, .slice aa12 al12 ac12, .slice ia12 il12 ic12] 40)).heap[h10]? = some (.cells #[.string g10, .string k10, .string t10, .slice aa10 al10 ac10, .slice ia10 il10 ic10] 40 (0, 0)) ∧ LayT (w6.alloc (.cells #[.string g12, .string k12, .string t12, .slice aa12 al12 ac12, .slice ia12 il12 ic12] 40)) 8 (mkT g10 k10 t10 aa10 al10 ac10 ia10 il10 ic10) tv) := ⟨(hb.block _ (lt_of_block T5.out.1)).trans T5.out.1, LayT.below 8 T5.out.2 hb⟩
  have U6 : Hid ((w6.alloc (.cells #[.string g12, .string k12, .string t12, .slice aa12 al12 ac12, .slice ia12 il12 ic12] 40)).heap[w6.heap.size]? = some (.cells #[.string g12, .string k12, .string t12, .slice aa12 al12 ac12, .slice ia12 il12 ic12] 40 (0, 0)) ∧ LayT (w6.alloc (.cells #[.string g12, .string k12, .string t12, .slice aa12 al12 ac12, .slice ia12 il12 ic12] 40)) 8 (mkT g12 k12 t12 aa12 al12 ac12 ia12 il12 ic12) tv) := ⟨heap_alloc_new _ _, LayT.below 8 hl6 (below_one _ _)⟩
  clear hb hb6 hl6 X5 B5 Y5 Z5 Q5 T5 RTR x0 x1 x2
  go_upto_region 6 with fail
  generalize (w6.alloc (.cells #[.string g12, .string k12, .string t12, .slice aa12 al12 ac12, .slice ia12 il12 ic12] 40)) = W6 at *
  generalize w6.heap.size = h12 at *
  have D1 : Hid (∀ W, Below W6.heap.size W6 W → Calls Tryz.prog 10 #[.agg #[.slice a3 D.nodes.length c3, .int .i64 D.root, .int .i64 D.next], .agg #[.slice a4 D.nodes.length c4, .int .i64 D.root, .int .i64 D.next]] W fun e w' => e = .returned (.int .i64 0) ∧ Below W.heap.size W w') := fun W h => alikeD_any D a3 a4 c3 c4 W (Z6.out.2.below h) (Q6.out.2.below h)
  have D2 : Hid (∀ W, Below W6.heap.size W6 W → Calls Tryz.prog 12 #[mkT g10 k10 t10 aa10 al10 ac10 ia10 il10 ic10, mkT g12 k12 t12 aa12 al12 ac12 ia12 il12 ic12] W fun e w' => e = .returned (.bool true) ∧ Below W.heap.size W w') := fun W h => by
    have := sameT_any 8 tv tv _ _ W (LayT.below 8 T6.out.2 h) (LayT.below 8 U6.out.2 h)
    rwa [one_true rfl] at this
  have D3 : Hid (∀ W, Below W6.heap.size W6 W → Calls Tryz.prog 13 #[.agg #[.slice a1 s.nodes.length c1, .int .i64 s.root, .int .i64 s.next]] W fun e w' => e = .returned (.int .i64 ck) ∧ Below W.heap.size W w') := fun W h => PCK.out W a1 c1 (Y6.out.2.below h)
  have D4 : Hid (∀ W, Below W6.heap.size W6 W → Calls Tryz.prog 14 #[.agg #[.slice a s.nodes.length c, .int .i64 s.root, .int .i64 s.next]] W fun e w' => e = .returned (.int .i64 ck) ∧ Below W.heap.size W w') := fun W h => RCK.out W a c (HS.out W (nxt B6.out h))
  have D5 : Hid (∀ W, Below W6.heap.size W6 W → Calls Tryz.prog 10 #[.agg #[.slice a1 s.nodes.length c1, .int .i64 s.root, .int .i64 s.next], .agg #[.slice a s.nodes.length c, .int .i64 s.root, .int .i64 s.next]] W fun e w' => e = .returned (.int .i64 0) ∧ Below W.heap.size W w') := fun W h => alikeD_any s a1 a c1 c W (Y6.out.2.below h) (HS.out W (nxt B6.out h))
  obtain ⟨x0, x1, x2⟩ := three X6.out.1
  obtain ⟨y0, y1, y2⟩ := three Y6.out.1
  obtain ⟨z0, z1, z2⟩ := three Z6.out.1
  obtain ⟨q0, q1, q2⟩ := three Q6.out.1
  obtain ⟨t0, t1, t2, t3, t4⟩ := (five T6.out.1).1
  obtain ⟨u0, u1, u2, u3, u4⟩ := (five U6.out.1).1
  have b0 : Below W6.heap.size W6 W6.drew := (Below.refl _ _).drew
  clear PCK RCK HS X6 Y6 Z6 Q6 T6 U6
  go_region_held3 (fun w' => w'.cell? ⟨w.heap.size, 0, none⟩ = some (.slice a s.nodes.length c) ∧ w'.cell? ⟨w.heap.size, 1, none⟩ = some (.int .i64 s.root) ∧ w'.cell? ⟨w.heap.size, 2, none⟩ = some (.int .i64 s.next) ∧ w'.cell? ⟨g5, 0, none⟩ = some (.slice a1 s.nodes.length c1) ∧ w'.cell? ⟨g5, 1, none⟩ = some (.int .i64 s.root) ∧ w'.cell? ⟨g5, 2, none⟩ = some (.int .i64 s.next) ∧ w'.cell? ⟨g6, 0, none⟩ = some (.slice a3 D.nodes.length c3) ∧ w'.cell? ⟨g6, 1, none⟩ = some (.int .i64 D.root) ∧ w'.cell? ⟨g6, 2, none⟩ = some (.int .i64 D.next) ∧ w'.cell? ⟨g8, 0, none⟩ = some (.slice a4 D.nodes.length c4) ∧ w'.cell? ⟨g8, 1, none⟩ = some (.int .i64 D.root) ∧ w'.cell? ⟨g8, 2, none⟩ = some (.int .i64 D.next) ∧ w'.cell? ⟨h10, 0, none⟩ = some (.string g10) ∧ w'.cell? ⟨h10, 1, none⟩ = some (.string k10) ∧ w'.cell? ⟨h10, 2, none⟩ = some (.string t10) ∧ w'.cell? ⟨h10, 3, none⟩ = some (.slice aa10 al10 ac10) ∧ w'.cell? ⟨h10, 4, none⟩ = some (.slice ia10 il10 ic10) ∧ w'.cell? ⟨h12, 0, none⟩ = some (.string g12) ∧ w'.cell? ⟨h12, 1, none⟩ = some (.string k12) ∧ w'.cell? ⟨h12, 2, none⟩ = some (.string t12) ∧ w'.cell? ⟨h12, 3, none⟩ = some (.slice aa12 al12 ac12) ∧ w'.cell? ⟨h12, 4, none⟩ = some (.slice ia12 il12 ic12)) (go_keep)
    (first
      | (go_at_call 11; refine (numD_any _ _).mono ?_; rintro e w' ⟨rfl, hw'⟩; subst hw')
      | (go_at_call_of 10 (Value.slice a3 D.nodes.length c3); refine (D1.out _ (by assumption)).mono ?_; rintro e w' ⟨rfl, hb⟩; have hk := keepc hb; have bN := nxt (by assumption) hb; clear hb)
      | (go_at_call 12; refine (D2.out _ (by assumption)).mono ?_; rintro e w' ⟨rfl, hb⟩; have hk := keepc hb; have bN := nxt (by assumption) hb; clear hb)
      | (go_at_call 13; refine (D3.out _ (by assumption)).mono ?_; rintro e w' ⟨rfl, hb⟩; have hk := keepc hb; have bN := nxt (by assumption) hb; clear hb)
      | (go_at_call 14; refine (D4.out _ (by assumption)).mono ?_; rintro e w' ⟨rfl, hb⟩; have hk := keepc hb; have bN := nxt (by assumption) hb; clear hb)
      | (go_at_call_of 10 (Value.slice a1 s.nodes.length c1); refine (D5.out _ (by assumption)).mono ?_; rintro e w' ⟨rfl, hb⟩; have hk := keepc hb; have bN := nxt (by assumption) hb; clear hb)
      | (go_at_call 15; refine (aliveD_any _).mono ?_; rintro e w' ⟨rfl, hb⟩; have hk := keepc hb; have bN := nxt (by assumption) hb; clear hb))
  go_wp2_with fail
  go_ret
  exact ⟨rfl, nxt B6.out (by assumption)⟩

set_option maxRecDepth 100000 in
set_option maxHeartbeats 1600000 in
theorem lifted (os : Os) (started : os.Started) (H : Type) (enc : TypeId × Value → H) :
    ReturnsInHanded {} Tryz.checked os 3 .any (Rows.domTellsSpec.pre6 enc Tryz.prog Tryz.f3 Rows.domTellsRow.domain false) (Rows.domTellsSpec.post enc Tryz.prog Tryz.f3 false true false false) := by
  refine returnsInHanded_of_change_sized (C := Tryz.checked) Tryz.own started (by kernel_rfl) Tryz.func3
    (ChangeSpec.witness6 (enc := enc) (C := Tryz.checked) false ⟨#[], #[.agg #[.slice none 0 0, .int .i64 0, .int .i64 0], .agg #[.int .i64 0, .int .i64 0, .int .i64 0, .int .i64 0, .string ⟨#[]⟩, .string ⟨#[]⟩, .string ⟨#[]⟩, .string ⟨#[]⟩, .string ⟨#[]⟩]], []⟩ 8 (by kernel_rfl) (by kernel_rfl) (by kernel_rfl) (by kernel_rfl)) ?_
  intro W base args ds gs before hval0 hW _ hsz0 _
  have hsz : (DataW.weightsEach Tryz.prog (Tryz.f3.params.toList ++ Rows.domTellsSpec.plain.varTypes Tryz.prog) (ds ++ gs)).all (· ≤ reachBytes) = true := hsz0
  have hval : ∀ (j : Nat) t v, Tryz.f3.params[j]? = some t → args[j]? = some v → Value.okWide Tryz.prog W .any base t v := hval0
  have hW' := hW
  obtain ⟨p, q, hA0, hV, rfl, hfz, hnd⟩ := hW
  have hA : DataW.TrodAll enc Tryz.prog W 0 (fun _ => true) true Tryz.f3.params.toList args.toList ds p := hA0
  rw [Tryz.params3] at hA hval hsz
  obtain ⟨v0, vs0, d0, ds0, p0, q0, hargs, rfl, rfl, h0, r0⟩ := trodAll_cons hA
  obtain ⟨v1, vs1, d1, ds1, p1, q1, rfl, rfl, rfl, h1, r1⟩ := trodAll_cons r0
  obtain ⟨rfl, rfl, rfl⟩ := trodAll_nil r1
  obtain rfl : args = #[v0, v1] := by cases args; simp_all
  obtain ⟨rfl, rfl⟩ := trodVars_none hV
  clear hA0 hval0
  simp only [List.append_nil] at hW' hsz
  have hlt : ∀ x ∈ p0 ++ p1, x.block < W.heap.size := fun x hx => hW'.lt x (by simpa using hx)
  have hall : ∀ x ∈ DataW.weightsEach Tryz.prog [24, 26] [d0, d1], x ≤ reachBytes := fun x hx => of_decide_eq_true (List.all_eq_true.1 hsz x hx)
  have g0 : ∀ x ∈ d0.weights Tryz.prog 24, x ≤ reachBytes := fun x hx => hall x (DataW.weights_mem_each (j := 0) rfl rfl x hx)
  obtain ⟨u0, l0⟩ := ds_of_arg (hval 0 _ v0 rfl rfl) h0 g0
  have g1 : ∀ x ∈ d1.weights Tryz.prog 26, x ≤ reachBytes := fun x hx => hall x (DataW.weights_mem_each (j := 1) rfl rfl x hx)
  obtain ⟨u1, l1⟩ := pt_of_arg (hval 1 _ v1 rfl rfl) h1 g1
  refine (walk u0 v0 u1 v1 W l0 l1).mono fun e W' ⟨he, bel⟩ => ?_
  subst he
  exact ⟨_, rfl, _, _, _, [], _, [], hW', trodAll_mk1 (shut_bool Tryz.underlying4 _), (trodAll_cons_mk (Below.trod Tryz.laidOut (by kernel_rfl) (of_decide_eq_true (by kernel_rfl)) h0 bel (fun x hx => hlt x (by simp [hx]))) (trodAll_cons_mk (Below.trod Tryz.laidOut (by kernel_rfl) (of_decide_eq_true (by kernel_rfl)) h1 bel (fun x hx => hlt x (by simp [hx]))) trodAll_mk0)), rfl, bel.frame _, fun h => by cases h⟩

theorem over : Rows.domTellsRow.holds Tryz.pinned (OpenSpec.ofChange Rows.domTellsSpec) :=
  OpenClaim.holds_of_wide 3 Tryz.f3 rfl rfl rfl rfl rfl rfl rfl ⟨rfl, rfl, rfl, rfl, rfl⟩ rfl rfl rfl rfl rfl (by kernel_rfl) Tryz.func3 (by kernel_rfl)
    (of_decide_eq_true (by kernel_rfl)) (by unfold Func.isWrapper; first | (rw [if_pos (by decide +kernel)]; kernel_rfl) | (rw [if_neg (by decide +kernel)]; exact ⟨rfl, rfl⟩))
    (fun os started H enc _ => lifted os started H enc)

/-- THE STATEMENT. -/
theorem proved : Rows.DomTellsSaid := over
#print axioms proved
end Go.Proofs.YtcdnakcojanaeaaGreat.domTells
