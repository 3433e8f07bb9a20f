/-
  DomOwn holds for every display and every patch: what a patch makes of a display shares nothing with the display that was handed in. No condition. (Printed by wip/make/mkdomown.py.)
-/
import Derived.Test.YtcdnakcojanaeabGreatDtSpoM
import Derived.Test.YtcdnakcojanaeabGreatDbAlikeM
import Derived.Test.YtcdnakcojanaeabGreatDoArgJ
import Derived.Deep.LoopGhost
namespace Go.Proofs.YtcdnakcojanaeabGreat.domOwn
open Go.ChangeShapes Go.WideShapes Go.ChangeAt Go.RowKit Go.Deep
open Do

set_option maxRecDepth 100000 in
set_option maxHeartbeats 12800000 in
theorem walk (s : Ds) (x : Value) (p : Pt) (y : Value) (w : World) (hx : DsArg w x s) (hy : PtArg y p) :
    Calls Tryz.prog 3 #[x, y] w fun e w' => e = .returned (.bool true) ∧ Below w.heap.size w w' := by
  obtain ⟨a, c, rfl, hs⟩ := hx
  obtain ⟨rfl, hp, -⟩ := hy
  have HS : Hid (∀ W, Below w.heap.size w W → DsIs W s a c) := fun W hb => hs.below hb
  obtain ⟨R, hR⟩ : ∃ R, R = applyD s p := ⟨_, rfl⟩
  obtain ⟨er, D⟩ := R
  have HFD : Hid (FitA D) := by have := applyD_fit s p; rw [← hR] at this; exact this
  have PAP : Hid (∀ W a c, DsIs W s a c → Calls Tryz.prog 6 #[.agg #[.slice a s.nodes.length c, .int .i64 s.root, .int .i64 s.next], mkP p] W fun e w' => ∃ a3 c3 ab3 kb3, e = .returned (.tuple #[.agg #[.slice a3 D.nodes.length c3, .int .i64 D.root, .int .i64 D.next], .int .i64 er]) ∧ OwnN w' W.heap.size (.slice a3 D.nodes.length c3) D.nodes ab3 kb3 ∧ Below W.heap.size W w') := fun W a c h => (apply_any s p a c W h hp).mono fun e w' ⟨x, e1, ⟨v, ab3, kb3, e2, h1⟩, h2⟩ => by
    rw [← hR] at e1 e2 h1
    obtain ⟨a3, c3, rfl⟩ := h1.shape
    exact ⟨a3, c3, ab3, kb3, by rw [e1, e2], h1, h2⟩
  have RAP : Hid (∀ W a c, DsIs W s a c → Calls Tryz.prog 7 #[.agg #[.slice a s.nodes.length c, .int .i64 s.root, .int .i64 s.next], mkP p] W fun e w' => ∃ a3 c3 ab3 kb3, e = .returned (.tuple #[.agg #[.slice a3 D.nodes.length c3, .int .i64 D.root, .int .i64 D.next], .int .i64 er]) ∧ Pg.OwnN w' W.heap.size (.slice a3 D.nodes.length c3) D.nodes ab3 kb3 ∧ Below W.heap.size W w') := fun W a c h => (rapply_any s p a c W h hp).mono fun e w' ⟨v, ab3, kb3, e1, h1, h2⟩ => by
    rw [← hR] at e1 h1
    obtain ⟨a3, c3, rfl⟩ := h1.shape
    exact ⟨a3, c3, ab3, kb3, e1, h1, h2⟩
  clear hR hs hp
  obtain ⟨pw, pi, pp, pat, pg, pk, pt, pn, pv⟩ := p
  obtain ⟨W1, hW1⟩ : ∃ W : World, W = (w.alloc (.cells #[.slice a s.nodes.length c, .int .i64 s.root, .int .i64 s.next] 24)).alloc (.cells #[.int .i64 pw, .int .i64 pi, .int .i64 pp, .int .i64 pat, .string pg, .string pk, .string pt, .string pn, .string pv] 26) := ⟨_, rfl⟩
  have B1 : Hid (Below w.heap.size w W1) := by show Below _ _ _; rw [hW1]; exact two_new _ _ _
  have X1 : Hid (W1.heap[w.heap.size]? = some (.cells #[.slice a s.nodes.length c, .int .i64 s.root, .int .i64 s.next] 24 (0, 0)) ∧ W1.heap[w.heap.size + 1]? = some (.cells #[.int .i64 pw, .int .i64 pi, .int .i64 pp, .int .i64 pat, .string pg, .string pk, .string pt, .string pn, .string pv] 26 (0, 0))) := by show _ ∧ _; rw [hW1]; exact ⟨((below_one _ _).block _ (by simp)).trans (heap_alloc_new _ _), heap_new2 _ _ _⟩
  go_enter Tryz.func3, Tryz.ntmps3
  go_upto_region 1 with fail
  rw [← hW1]
  clear hW1
  go_wp2_with fail
  refine (aliveD_any W1).mono ?_
  rintro e w0 ⟨rfl, hb0⟩
  have B0 : Hid (Below w.heap.size w w0) := nxt B1.out hb0
  have X0 : Hid (w0.heap[w.heap.size]? = some (.cells #[.slice a s.nodes.length c, .int .i64 s.root, .int .i64 s.next] 24 (0, 0)) ∧ w0.heap[w.heap.size + 1]? = some (.cells #[.int .i64 pw, .int .i64 pi, .int .i64 pp, .int .i64 pat, .string pg, .string pk, .string pt, .string pn, .string pv] 26 (0, 0))) := ⟨(hb0.block _ (lt_of_block X1.out.1)).trans X1.out.1, (hb0.block _ (lt_of_block X1.out.2)).trans X1.out.2⟩
  clear hb0 B1 X1
  obtain ⟨x0, x1, x2⟩ := three X0.out.1
  go_wp2_with fail
  refine (of_any s a c w0 (HS.out w0 B0.out)).mono ?_
  rintro e w2 ⟨xo, rfl, ⟨vo, ab, kb, rfl, ho⟩, hb2⟩
  obtain ⟨a1, c1, rfl⟩ := ho.shape
  have hb := nxt hb2 (below_one w2 (.cells #[.slice a1 s.nodes.length c1, .int .i64 s.root, .int .i64 s.next] 30))
  have B2 : Hid (Below w.heap.size w (w2.alloc (.cells #[.slice a1 s.nodes.length c1, .int .i64 s.root, .int .i64 s.next] 30))) := nxt B0.out hb
  have X2 : Hid ((w2.alloc (.cells #[.slice a1 s.nodes.length c1, .int .i64 s.root, .int .i64 s.next] 30)).heap[w.heap.size]? = some (.cells #[.slice a s.nodes.length c, .int .i64 s.root, .int .i64 s.next] 24 (0, 0)) ∧ (w2.alloc (.cells #[.slice a1 s.nodes.length c1, .int .i64 s.root, .int .i64 s.next] 30)).heap[w.heap.size + 1]? = some (.cells #[.int .i64 pw, .int .i64 pi, .int .i64 pp, .int .i64 pat, .string pg, .string pk, .string pt, .string pn, .string pv] 26 (0, 0))) := ⟨(hb.block _ (lt_of_block X0.out.1)).trans X0.out.1, (hb.block _ (lt_of_block X0.out.2)).trans X0.out.2⟩
  have Y2 : Hid ((w2.alloc (.cells #[.slice a1 s.nodes.length c1, .int .i64 s.root, .int .i64 s.next] 30)).heap[w2.heap.size]? = some (.cells #[.slice a1 s.nodes.length c1, .int .i64 s.root, .int .i64 s.next] 30 (0, 0)) ∧ OwnN (w2.alloc (.cells #[.slice a1 s.nodes.length c1, .int .i64 s.root, .int .i64 s.next] 30)) w0.heap.size (.slice a1 s.nodes.length c1) s.nodes ab kb) := ⟨heap_alloc_new _ _, ho.below (below_one _ _)⟩
  have HF2 : Hid (∀ j, footN (.slice a1 s.nodes.length c1) s.nodes.length ab kb j → w0.heap.size ≤ j ∧ j < w2.heap.size) := fun j hj => ho.foot hj
  have HZ2 : Hid ((w2.alloc (.cells #[.slice a1 s.nodes.length c1, .int .i64 s.root, .int .i64 s.next] 30)).heap.size = w2.heap.size + 1) := by show _ = _; simp
  have HN2 : Hid (s.nodes.length * 112 ≤ 140737488351232 ∧ (-9223372036854775808 ≤ s.root ∧ s.root ≤ 9223372036854775807) ∧ (-9223372036854775808 ≤ s.next ∧ s.next ≤ 9223372036854775807)) := ⟨(HS.out _ B0.out).len, (HS.out _ B0.out).root, (HS.out _ B0.out).next⟩
  have hw02 : w.heap.size ≤ w0.heap.size := B0.out.size
  clear hb hb2 ho X0 x0 x1 x2
  go_upto_region 4 with fail
  generalize (w2.alloc (.cells #[.slice a1 s.nodes.length c1, .int .i64 s.root, .int .i64 s.next] 30)) = W2 at *
  generalize w2.heap.size = g5 at *
  obtain ⟨y0, y1, y2⟩ := three Y2.out.1
  obtain ⟨n0, n1, n2, n3, n4, n5, n6, n7, n8⟩ := nine X2.out.2
  go_wp2_with fail
  refine (PAP.out W2 a1 c1 ⟨Y2.out.2.lay, HN2.out.1, cap_of_own Y2.out.2.row, HN2.out.2.1, HN2.out.2.2⟩).mono ?_
  rintro e w3 ⟨a3, c3, ab3, kb3, rfl, ho3, hb3⟩
  have hb := nxt hb3 (below_one w3 (.cells #[.slice a3 D.nodes.length c3, .int .i64 D.root, .int .i64 D.next] 30))
  have B3 : Hid (Below w.heap.size w (w3.alloc (.cells #[.slice a3 D.nodes.length c3, .int .i64 D.root, .int .i64 D.next] 30))) := nxt B2.out hb
  have X3 : Hid ((w3.alloc (.cells #[.slice a3 D.nodes.length c3, .int .i64 D.root, .int .i64 D.next] 30)).heap[w.heap.size]? = some (.cells #[.slice a s.nodes.length c, .int .i64 s.root, .int .i64 s.next] 24 (0, 0)) ∧ (w3.alloc (.cells #[.slice a3 D.nodes.length c3, .int .i64 D.root, .int .i64 D.next] 30)).heap[w.heap.size + 1]? = some (.cells #[.int .i64 pw, .int .i64 pi, .int .i64 pp, .int .i64 pat, .string pg, .string pk, .string pt, .string pn, .string pv] 26 (0, 0))) := ⟨(hb.block _ (lt_of_block X2.out.1)).trans X2.out.1, (hb.block _ (lt_of_block X2.out.2)).trans X2.out.2⟩
  have Y3 : Hid ((w3.alloc (.cells #[.slice a3 D.nodes.length c3, .int .i64 D.root, .int .i64 D.next] 30)).heap[g5]? = some (.cells #[.slice a1 s.nodes.length c1, .int .i64 s.root, .int .i64 s.next] 30 (0, 0)) ∧ OwnN (w3.alloc (.cells #[.slice a3 D.nodes.length c3, .int .i64 D.root, .int .i64 D.next] 30)) w0.heap.size (.slice a1 s.nodes.length c1) s.nodes ab kb) := ⟨(hb.block _ (lt_of_block Y2.out.1)).trans Y2.out.1, Y2.out.2.below hb⟩
  have Z3 : Hid ((w3.alloc (.cells #[.slice a3 D.nodes.length c3, .int .i64 D.root, .int .i64 D.next] 30)).heap[w3.heap.size]? = some (.cells #[.slice a3 D.nodes.length c3, .int .i64 D.root, .int .i64 D.next] 30 (0, 0)) ∧ OwnN (w3.alloc (.cells #[.slice a3 D.nodes.length c3, .int .i64 D.root, .int .i64 D.next] 30)) (g5 + 1) (.slice a3 D.nodes.length c3) D.nodes ab3 kb3 ∧ g5 + 1 ≤ w3.heap.size ∧ g5 + 1 ≤ (w3.alloc (.cells #[.slice a3 D.nodes.length c3, .int .i64 D.root, .int .i64 D.next] 30)).heap.size) := ⟨heap_alloc_new _ _, (ho3.below (below_one _ _)).less (Nat.le_of_eq HZ2.out.symm), by have := hb3.size; have := HZ2.out; omega, by have := hb.size; have := HZ2.out; omega⟩
  clear hb hb3 ho3 X2 B2 Y2 HZ2 PAP y0 y1 y2 n0 n1 n2 n3 n4 n5 n6 n7 n8
  go_upto_region 5 with fail
  generalize (w3.alloc (.cells #[.slice a3 D.nodes.length c3, .int .i64 D.root, .int .i64 D.next] 30)) = W3 at *
  generalize w3.heap.size = g6 at *
  obtain ⟨x0, x1, x2⟩ := three X3.out.1
  obtain ⟨n0, n1, n2, n3, n4, n5, n6, n7, n8⟩ := nine X3.out.2
  go_wp2_with fail
  refine (RAP.out W3 a c (HS.out W3 B3.out)).mono ?_
  rintro e w4 ⟨a4, c4, ab4, kb4, rfl, ho4, hb4⟩
  have hb := nxt hb4 (below_one w4 (.cells #[.slice a4 D.nodes.length c4, .int .i64 D.root, .int .i64 D.next] 24))
  have B4 : Hid (Below w.heap.size w (w4.alloc (.cells #[.slice a4 D.nodes.length c4, .int .i64 D.root, .int .i64 D.next] 24))) := nxt B3.out hb
  have Y4 : Hid ((w4.alloc (.cells #[.slice a4 D.nodes.length c4, .int .i64 D.root, .int .i64 D.next] 24)).heap[g5]? = some (.cells #[.slice a1 s.nodes.length c1, .int .i64 s.root, .int .i64 s.next] 30 (0, 0)) ∧ OwnN (w4.alloc (.cells #[.slice a4 D.nodes.length c4, .int .i64 D.root, .int .i64 D.next] 24)) w0.heap.size (.slice a1 s.nodes.length c1) s.nodes ab kb) := ⟨(hb.block _ (lt_of_block Y3.out.1)).trans Y3.out.1, Y3.out.2.below hb⟩
  have Z4 : Hid ((w4.alloc (.cells #[.slice a4 D.nodes.length c4, .int .i64 D.root, .int .i64 D.next] 24)).heap[g6]? = some (.cells #[.slice a3 D.nodes.length c3, .int .i64 D.root, .int .i64 D.next] 30 (0, 0)) ∧ OwnN (w4.alloc (.cells #[.slice a4 D.nodes.length c4, .int .i64 D.root, .int .i64 D.next] 24)) (g5 + 1) (.slice a3 D.nodes.length c3) D.nodes ab3 kb3 ∧ g5 + 1 ≤ g6) := ⟨(hb.block _ (lt_of_block Z3.out.1)).trans Z3.out.1, Z3.out.2.1.below hb, Z3.out.2.2.1⟩
  have Q4 : Hid ((w4.alloc (.cells #[.slice a4 D.nodes.length c4, .int .i64 D.root, .int .i64 D.next] 24)).heap[w4.heap.size]? = some (.cells #[.slice a4 D.nodes.length c4, .int .i64 D.root, .int .i64 D.next] 24 (0, 0)) ∧ Pg.OwnN (w4.alloc (.cells #[.slice a4 D.nodes.length c4, .int .i64 D.root, .int .i64 D.next] 24)) (g5 + 1) (.slice a4 D.nodes.length c4) D.nodes ab4 kb4 ∧ g5 + 1 ≤ w4.heap.size) := ⟨heap_alloc_new _ _, (ho4.below (below_one _ _)).less Z3.out.2.2.2, Nat.le_trans Z3.out.2.2.2 hb4.size⟩
  clear hb hb4 ho4 X3 B3 Y3 Z3 RAP HS x0 x1 x2 n0 n1 n2 n3 n4 n5 n6 n7 n8
  go_upto_region 6 with fail
  generalize (w4.alloc (.cells #[.slice a4 D.nodes.length c4, .int .i64 D.root, .int .i64 D.next] 24)) = W4 at *
  generalize w4.heap.size = g8 at *
  have HSP : Hid (Sp W4 W4 a1 c1 s.nodes.length ab kb) := Sp.start Y4.out.2
  have hlen := HN2.out.1
  go_wp2_with fail
  go_loopg [10] s.nodes.length (fun g v10 wr => ∃ i : Nat, i ≤ s.nodes.length ∧ g = s.nodes.length - i ∧ v10 = .int .i64 (i : Int) ∧ Hid (Sp W4 wr a1 c1 s.nodes.length ab kb))
  case atStart => exact ⟨0, Nat.zero_le _, rfl, rfl, HSP.out⟩
  case round =>
    obtain ⟨i, hi, hgk, rfl, HP⟩ := hrel
    clear HSP
    have hg5F : ¬ footN (.slice a1 s.nodes.length c1) s.nodes.length ab kb g5 := fun h => by have := (HF2.out g5 h).2; omega
    have HB5 : Hid (∀ W, Sp W4 W a1 c1 s.nodes.length ab kb → W.heap[g5]? = some (.cells #[.slice a1 s.nodes.length c1, .int .i64 s.root, .int .i64 s.next] 30 (0, 0))) := fun W h => (h.kept.block g5 (lt_of_block Y4.out.1) hg5F).trans Y4.out.1
    clear hg5F
    obtain ⟨y0, y1, y2⟩ := three (HB5.out wr HP.out)
    by_cases hlt : i < s.nodes.length
    · obtain ⟨nn, hnn⟩ : ∃ nn, s.nodes[i]? = some nn := ⟨_, List.getElem?_eq_getElem hlt⟩
      obtain ⟨b, hvr, r0, -, -, -, -, -, -⟩ := rowN_cells Y4.out.2.row hnn
      subst hvr
      obtain ⟨ka, kc, hkb⟩ := (Y4.out.2.kids i nn hnn).shape
      obtain ⟨aa, ac, hab⟩ := (Y4.out.2.ats i nn hnn).shape
      have HK : Hid (OwnZ W4 w0.heap.size (.slice ka nn.kids.length kc) nn.kids) := by have := Y4.out.2.kids i nn hnn; rw [hkb] at this; exact this
      have HAT : Hid (OwnA W4 w0.heap.size (.slice aa nn.ats.length ac) nn.ats) := by have := Y4.out.2.ats i nn hnn; rw [hab] at this; exact this
      have HR0 : Hid (W4.cell? ⟨b, i * 7, none⟩ = some (.int .i64 nn.id)) := r0
      have HFB : Hid (∀ g, (Value.slice ka nn.kids.length kc).ownBlock = some g → footN (.slice (some ⟨b, 0, none⟩) s.nodes.length c1) s.nodes.length ab kb g) := fun g h => Or.inr (Or.inr ⟨i, hlt, by rw [hkb]; exact h⟩)
      have HFA : Hid (∀ g, (Value.slice aa nn.ats.length ac).ownBlock = some g → footN (.slice (some ⟨b, 0, none⟩) s.nodes.length c1) s.nodes.length ab kb g) := fun g h => Or.inr (Or.inl ⟨i, hlt, by rw [hab]; exact h⟩)
      have HKN : Hid (∀ g, (Value.slice ka nn.kids.length kc).ownBlock = some g → (some (⟨b, 0, none⟩ : Addr)) ≠ some ⟨g, 0, none⟩) := fun g h e => by
        cases e
        obtain ⟨cur, h1⟩ := Y4.out.2.rowBlock
        obtain ⟨cu, h2, -⟩ := HK.out.block h
        rw [h1] at h2
        simp at h2
      have HAN : Hid (∀ g, (Value.slice aa nn.ats.length ac).ownBlock = some g → (some (⟨b, 0, none⟩ : Addr)) ≠ some ⟨g, 0, none⟩) := fun g h e => by
        cases e
        obtain ⟨cur, h1⟩ := Y4.out.2.rowBlock
        obtain ⟨cu, h2, -⟩ := HAT.out.block h
        rw [h1] at h2
        simp at h2
      have HFX : Hid (nn.kids.length * 8 ≤ 140737488351232 ∧ nn.ats.length * 32 ≤ 140737488351232) := ⟨(Y4.out.2.fit nn (List.mem_of_getElem? hnn)).kids.2, (Y4.out.2.fit nn (List.mem_of_getElem? hnn)).node.2.2.2.1⟩
      have HS6 : Hid (∀ W, Sp W4 W (some ⟨b, 0, none⟩) c1 s.nodes.length ab kb → W.cell? ⟨b, i * 7 + 6, none⟩ = some (.slice ka nn.kids.length kc) ∧ W.cell? ⟨b, i * 7 + 5, none⟩ = some (.slice aa nn.ats.length ac)) := fun W h => ⟨by rw [h.six b i rfl hlt, hkb], by rw [h.five b i rfl hlt, hab]⟩
      have hx1 := HFX.out.1
      have hx2 := HFX.out.2
      clear r0 hnn hkb hab
      go_upto_region 9 with fail
      clear y0 y1 y2
      go_wp2_with fail
      go_loopg [11] nn.kids.length (fun g v11 wr => ∃ k : Nat, k ≤ nn.kids.length ∧ g = nn.kids.length - k ∧ v11 = .int .i64 (k : Int) ∧ Hid (Sp W4 wr (some ⟨b, 0, none⟩) c1 s.nodes.length ab kb))
      case atStart => exact ⟨0, Nat.zero_le _, rfl, rfl, HP.out⟩
      case round =>
        obtain ⟨k, hk, hgk2, rfl, HQ⟩ := hrel
        obtain ⟨y0, y1, y2⟩ := three (HB5.out wr HQ.out)
        have r6 := (HS6.out wr HQ.out).1
        by_cases hk2 : k < nn.kids.length
        · obtain ⟨kg, hka, qk⟩ := cells_of_own HK.out k _ (by rw [List.getElem?_map, List.getElem?_eq_getElem hk2]; rfl)
          subst hka
          rw [Nat.zero_add] at qk
          obtain ⟨v', qv⟩ := HQ.out.more _ _ qk
          have qf : wr.frozen? ⟨kg, k, none⟩ = false := (HQ.out.frz _).trans (own_frozen HK.out _)
          have HQ2 : Hid (Sp W4 (wr.setCell ⟨kg, k, none⟩ (.int .i64 (-1))) (some ⟨b, 0, none⟩) c1 s.nodes.length ab kb) := HQ.out.set _ (HFB.out kg rfl) (fun e => absurd e (HKN.out kg rfl))
          clear qk
          go_wp2_with fail
          go_roundg (nn.kids.length - (k + 1))
          case measure => omega
          case rel => exact ⟨k + 1, by omega, rfl, by go_num, HQ2.out⟩
        have hke : k = nn.kids.length := by omega
        subst hke
        go_upto_region 13 with fail
        clear y0 y1 y2 r6
        go_wp2_with fail
        have HC := HQ
        clear HQ hk2 hk
        go_loopg [12] nn.ats.length (fun g v12 wr => ∃ k : Nat, k ≤ nn.ats.length ∧ g = nn.ats.length - k ∧ v12 = .int .i64 (k : Int) ∧ Hid (Sp W4 wr (some ⟨b, 0, none⟩) c1 s.nodes.length ab kb))
        case atStart => exact ⟨0, Nat.zero_le _, rfl, rfl, HC.out⟩
        case round =>
          obtain ⟨k, hk, hgk3, rfl, HQ⟩ := hrel
          obtain ⟨y0, y1, y2⟩ := three (HB5.out wr HQ.out)
          have r5 := (HS6.out wr HQ.out).2
          by_cases hk2 : k < nn.ats.length
          · obtain ⟨h1, h2⟩ := cellsA_at nn.ats k nn.ats[k] (List.getElem?_eq_getElem hk2)
            obtain ⟨kg, hka, qk⟩ := cells_of_own HAT.out _ _ h1
            subst hka
            obtain ⟨kg', hka', qk'⟩ := cells_of_own HAT.out _ _ h2
            cases hka'
            rw [Nat.zero_add] at qk qk'
            obtain ⟨v1, qv⟩ := HQ.out.more _ _ qk
            obtain ⟨v2, qv'⟩ := HQ.out.more _ _ qk'
            have qf : wr.frozen? ⟨kg, k * 2, none⟩ = false := (HQ.out.frz _).trans (own_frozen HAT.out _)
            have qf' : wr.frozen? ⟨kg, k * 2 + 1, none⟩ = false := (HQ.out.frz _).trans (own_frozen HAT.out _)
            have HQ2 : Hid (Sp W4 ((wr.setCell ⟨kg, k * 2, none⟩ (.string ⟨#[]⟩)).setCell ⟨kg, k * 2 + 1, none⟩ (.string ⟨#[]⟩)) (some ⟨b, 0, none⟩) c1 s.nodes.length ab kb) := (HQ.out.set _ (HFA.out kg rfl) (fun e => absurd e (HAN.out kg rfl))).set _ (HFA.out kg rfl) (fun e => absurd e (HAN.out kg rfl))
            clear qk qk' h1 h2
            go_wp2_with fail
            go_roundg (nn.ats.length - (k + 1))
            case measure => omega
            case rel => exact ⟨k + 1, by omega, rfl, by go_num, HQ2.out⟩
          have hke : k = nn.ats.length := by omega
          subst hke
          obtain ⟨v0, q0⟩ := HQ.out.more _ _ HR0.out
          have qf : wr.frozen? ⟨b, i * 7, none⟩ = false := (HQ.out.frz _).trans (own_frozen Y4.out.2.row _)
          have HQ2 : Hid (Sp W4 (wr.setCell ⟨b, i * 7, none⟩ (.int .i64 (-1))) (some ⟨b, 0, none⟩) c1 s.nodes.length ab kb) := HQ.out.set _ (Or.inl rfl) (fun _ => ⟨i, rfl⟩)
          go_wp2_with fail
          go_roundg (s.nodes.length - (i + 1))
          case measure => omega
          case rel => exact ⟨i + 1, by omega, rfl, by go_num, HQ2.out⟩
    · have hie : i = s.nodes.length := by omega
      subst hie
      have nf : ∀ j, g5 + 1 ≤ j → ¬ footN (.slice a1 s.nodes.length c1) s.nodes.length ab kb j := fun j hj h => by have := (HF2.out j h).2; omega
      have same : ∀ j, g5 + 1 ≤ j → j < W4.heap.size → wr.heap[j]? = W4.heap[j]? := fun j h1 h2 => HP.out.kept.block j h2 (nf j h1)
      have Z5 : Hid (wr.heap[g6]? = some (.cells #[.slice a3 D.nodes.length c3, .int .i64 D.root, .int .i64 D.next] 30 (0, 0))) := (same g6 Z4.out.2.2 (lt_of_block Z4.out.1)).trans Z4.out.1
      have Q5 : Hid (wr.heap[g8]? = some (.cells #[.slice a4 D.nodes.length c4, .int .i64 D.root, .int .i64 D.next] 24 (0, 0))) := (same g8 Q4.out.2.2 (lt_of_block Q4.out.1)).trans Q4.out.1
      have OA5 : OwnN wr (g5 + 1) (.slice a3 D.nodes.length c3) D.nodes ab3 kb3 := Z4.out.2.1.same fun j hj => same j (Z4.out.2.1.foot hj).1 (Z4.out.2.1.foot hj).2
      have OB5 : Pg.OwnN wr (g5 + 1) (.slice a4 D.nodes.length c4) D.nodes ab4 kb4 := Q4.out.2.1.same fun j hj => same j (Q4.out.2.1.foot hj).1 (Q4.out.2.1.foot hj).2
      have DA : Hid (DsIs wr D a3 c3) := ⟨OA5.lay, by have := HFD.out.1; omega, cap_of_own OA5.row, HFD.out.2.1, HFD.out.2.2⟩
      have DB : Hid (DsIs wr D a4 c4) := ⟨OB5.lay, by have := HFD.out.1; omega, cap_of_own OB5.row, HFD.out.2.1, HFD.out.2.2⟩
      have BW : Hid (Below w.heap.size w wr) := ⟨HP.out.kept.os.trans B4.out.os, HP.out.kept.tape.trans B4.out.tape, HP.out.kept.output.trans B4.out.output, Nat.le_trans B4.out.size HP.out.kept.size, fun j hj => (HP.out.kept.block j (Nat.lt_of_lt_of_le hj B4.out.size) (fun h => by have := (HF2.out j h).1; omega)).trans (B4.out.block j hj)⟩
      clear nf same OA5 OB5 Z4 Q4 Y4 B4
      obtain ⟨z0, z1, z2⟩ := three Z5.out
      obtain ⟨u0, u1, u2⟩ := three Q5.out
      go_wp2_with (go_at_call 8; refine (numD_any _ _).mono ?_; rintro e w9 ⟨rfl, hw9⟩; subst w9)
      refine (alikeD_any D a3 a4 c3 c4 wr DA.out DB.out).mono ?_
      rintro e w6 ⟨rfl, hb6⟩
      clear y0 y1 y2 z0 z1 z2 u0 u1 u2
      go_wp2_with fail
      go_ret
      exact ⟨rfl, nxt BW.out hb6⟩

set_option maxRecDepth 100000 in
set_option maxHeartbeats 1600000 in
theorem lifted (os : Os) (started : os.Started) (H : Type) (enc : TypeId × Value → H) :
    ReturnsInHanded {} Tryz.checked os 3 .any (Rows.domOwnSpec.pre6 enc Tryz.prog Tryz.f3 Rows.domOwnRow.domain false) (Rows.domOwnSpec.post enc Tryz.prog Tryz.f3 false true false false) := by
  refine returnsInHanded_of_change_sized (C := Tryz.checked) Tryz.own started (by kernel_rfl) Tryz.func3
    (ChangeSpec.witness6 (enc := enc) (C := Tryz.checked) false ⟨#[], #[.agg #[.slice none 0 0, .int .i64 0, .int .i64 0], .agg #[.int .i64 0, .int .i64 0, .int .i64 0, .int .i64 0, .string ⟨#[]⟩, .string ⟨#[]⟩, .string ⟨#[]⟩, .string ⟨#[]⟩, .string ⟨#[]⟩]], []⟩ 8 (by kernel_rfl) (by kernel_rfl) (by kernel_rfl) (by kernel_rfl)) ?_
  intro W base args ds gs before hval0 hW _ hsz0 _
  have hsz : (DataW.weightsEach Tryz.prog (Tryz.f3.params.toList ++ Rows.domOwnSpec.plain.varTypes Tryz.prog) (ds ++ gs)).all (· ≤ reachBytes) = true := hsz0
  have hval : ∀ (j : Nat) t v, Tryz.f3.params[j]? = some t → args[j]? = some v → Value.okWide Tryz.prog W .any base t v := hval0
  have hW' := hW
  obtain ⟨p, q, hA0, hV, rfl, hfz, hnd⟩ := hW
  have hA : DataW.TrodAll enc Tryz.prog W 0 (fun _ => true) true Tryz.f3.params.toList args.toList ds p := hA0
  rw [Tryz.params3] at hA hval hsz
  obtain ⟨v0, vs0, d0, ds0, p0, q0, hargs, rfl, rfl, h0, r0⟩ := trodAll_cons hA
  obtain ⟨v1, vs1, d1, ds1, p1, q1, rfl, rfl, rfl, h1, r1⟩ := trodAll_cons r0
  obtain ⟨rfl, rfl, rfl⟩ := trodAll_nil r1
  obtain rfl : args = #[v0, v1] := by cases args; simp_all
  obtain ⟨rfl, rfl⟩ := trodVars_none hV
  clear hA0 hval0
  simp only [List.append_nil] at hW' hsz
  have hlt : ∀ x ∈ p0 ++ p1, x.block < W.heap.size := fun x hx => hW'.lt x (by simpa using hx)
  have hall : ∀ x ∈ DataW.weightsEach Tryz.prog [24, 26] [d0, d1], x ≤ reachBytes := fun x hx => of_decide_eq_true (List.all_eq_true.1 hsz x hx)
  have g0 : ∀ x ∈ d0.weights Tryz.prog 24, x ≤ reachBytes := fun x hx => hall x (DataW.weights_mem_each (j := 0) rfl rfl x hx)
  obtain ⟨u0, l0⟩ := ds_of_arg (hval 0 _ v0 rfl rfl) h0 g0
  have g1 : ∀ x ∈ d1.weights Tryz.prog 26, x ≤ reachBytes := fun x hx => hall x (DataW.weights_mem_each (j := 1) rfl rfl x hx)
  obtain ⟨u1, l1⟩ := pt_of_arg (hval 1 _ v1 rfl rfl) h1 g1
  refine (walk u0 v0 u1 v1 W l0 l1).mono fun e W' ⟨he, bel⟩ => ?_
  subst he
  exact ⟨_, rfl, _, _, _, [], _, [], hW', trodAll_mk1 (shut_bool Tryz.underlying4 _), (trodAll_cons_mk (Below.trod Tryz.laidOut (by kernel_rfl) (of_decide_eq_true (by kernel_rfl)) h0 bel (fun x hx => hlt x (by simp [hx]))) (trodAll_cons_mk (Below.trod Tryz.laidOut (by kernel_rfl) (of_decide_eq_true (by kernel_rfl)) h1 bel (fun x hx => hlt x (by simp [hx]))) trodAll_mk0)), rfl, bel.frame _, fun h => by cases h⟩

theorem over : Rows.domOwnRow.holds Tryz.pinned (OpenSpec.ofChange Rows.domOwnSpec) :=
  OpenClaim.holds_of_wide 3 Tryz.f3 rfl rfl rfl rfl rfl rfl rfl ⟨rfl, rfl, rfl, rfl, rfl⟩ rfl rfl rfl rfl rfl (by kernel_rfl) Tryz.func3 (by kernel_rfl)
    (of_decide_eq_true (by kernel_rfl)) (by unfold Func.isWrapper; first | (rw [if_pos (by decide +kernel)]; kernel_rfl) | (rw [if_neg (by decide +kernel)]; exact ⟨rfl, rfl⟩))
    (fun os started H enc _ => lifted os started H enc)

/-- THE STATEMENT. -/
theorem proved : Rows.DomOwnSaid := over
#print axioms proved
end Go.Proofs.YtcdnakcojanaeabGreat.domOwn
