/-
  The page's Apply. (Printed by wip/make/mkdtapl.py.)
-/
import Derived.Test.YtcdnakcojanaeabGreatDtAttrM
import Derived.Test.YtcdnakcojanaeabGreatDtHangM
import Derived.Test.YtcdnakcojanaeabGreatDbCheckM
namespace Go.Proofs.YtcdnakcojanaeabGreat
open Go.ChangeShapes Go.WideShapes Go.ChangeAt Go.RowKit Go.Deep
open Do

namespace Pg
theorem OwnN.less {w : World} {B B' : Nat} {v : Value} {ns : List Nd} {ab kb : Nat → Value} (h : OwnN w B v ns ab kb) (hB : B' ≤ B) : OwnN w B' v ns ab kb :=
  ⟨own_less h.row hB, fun i n hi => own_less (h.ats i n hi) hB, fun i n hi => (h.kids i n hi).less hB, h.apa, h.apk, h.fit⟩

end Pg

set_option maxRecDepth 100000 in
set_option maxHeartbeats 12800000 in
theorem rapply_any (s : Ds) (p : Pt) (a : Option Addr) (c : Nat) (w : World) (hs : DsIs w s a c) (hp : PtOk p) :
    Calls Tryz.prog 7 #[.agg #[.slice a s.nodes.length c, .int .i64 s.root, .int .i64 s.next], mkP p] w fun e w' => PgPost w w' w.heap.size e (applyD s p) := by
  have HS : Hid (∀ W, Below w.heap.size w W → DsIs W s a c) := fun W hb => hs.below hb
  have HP : Hid (PtOk p) := hp
  have HCK : Hid (∀ W, Below w.heap.size w W → Calls Tryz.prog 17 #[.agg #[.slice a s.nodes.length c, .int .i64 s.root, .int .i64 s.next]] W fun e w' => e = .returned (.int .i64 (chkD s)) ∧ Below W.heap.size W w') := fun W hb => rcheckD_any s a c W (hs.below hb)
  obtain ⟨ns, root, next⟩ := s
  obtain ⟨pw, pi, pp, pat, pg, pk, pt, pn, pv⟩ := p
  simp only at *
  clear hs hp
  obtain ⟨K3, hK3⟩ : ∃ W : World, W = ((w.alloc (.cells #[.slice a ns.length c, .int .i64 root, .int .i64 next] 24)).alloc (.cells #[.int .i64 pw, .int .i64 pi, .int .i64 pp, .int .i64 pat, .string pg, .string pk, .string pt, .string pn, .string pv] 26)).alloc (.cells #[.slice none 0 0, .int .i64 0, .int .i64 0] 24) := ⟨_, rfl⟩
  have B3 : Hid (Below w.heap.size w K3) := by show Below _ _ _; rw [hK3]; exact nxt (two_new _ _ _) (below_one _ _)
  have HS3 : Hid (K3.heap.size = w.heap.size + 3) := by show _ = _; rw [hK3]; simp
  have X3 : Hid (K3.heap[w.heap.size]? = some (.cells #[.slice a ns.length c, .int .i64 root, .int .i64 next] 24 (0, 0)) ∧ K3.heap[w.heap.size + 1]? = some (.cells #[.int .i64 pw, .int .i64 pi, .int .i64 pp, .int .i64 pat, .string pg, .string pk, .string pt, .string pn, .string pv] 26 (0, 0)) ∧ K3.heap[w.heap.size + 2]? = some (.cells #[.slice none 0 0, .int .i64 0, .int .i64 0] 24 (0, 0))) := by show _ ∧ _ ∧ _; rw [hK3]; exact three_new _ _ _ _
  go_enter Tryz.func7, Tryz.ntmps7
  go_upto_region 1 with fail
  rw [← hK3]
  clear hK3
  obtain ⟨x0, x1, x2⟩ := three X3.out.1
  go_wp2_with fail
  refine (HCK.out K3 B3.out).mono ?_
  rintro e w4 ⟨rfl, hb4⟩
  have B4 : Hid (Below w.heap.size w w4) := nxt B3.out hb4
  have S4 : Hid (w.heap.size + 3 ≤ w4.heap.size) := by have h1 := hb4.size; have h2 := HS3.out; show _ ≤ _; omega
  have X4 : Hid (w4.heap[w.heap.size]? = some (.cells #[.slice a ns.length c, .int .i64 root, .int .i64 next] 24 (0, 0)) ∧ w4.heap[w.heap.size + 1]? = some (.cells #[.int .i64 pw, .int .i64 pi, .int .i64 pp, .int .i64 pat, .string pg, .string pk, .string pt, .string pn, .string pv] 26 (0, 0)) ∧ w4.heap[w.heap.size + 2]? = some (.cells #[.slice none 0 0, .int .i64 0, .int .i64 0] 24 (0, 0))) := ⟨(hb4.block _ (lt_of_block X3.out.1)).trans X3.out.1, (hb4.block _ (lt_of_block X3.out.2.1)).trans X3.out.2.1, (hb4.block _ (lt_of_block X3.out.2.2)).trans X3.out.2.2⟩
  clear hb4 HCK X3 B3 HS3 x0 x1 x2
  cases hok : okD ⟨ns, root, next⟩ with
  | false =>
    have hc : chkD ⟨ns, root, next⟩ = 9 := by unfold chkD; rw [hok]; rfl
    have HR : Hid (applyD ⟨ns, root, next⟩ ⟨pw, pi, pp, pat, pg, pk, pt, pn, pv⟩ = (9, noD)) := by show _ = _; unfold applyD; rw [hok]; rfl
    rw [hc]
    clear hok hc
    obtain ⟨⟨z0, z1, z2⟩, zf0, zf1, zf2⟩ : (w4.cell? ⟨w.heap.size + 2, 0, none⟩ = some (.slice none 0 0) ∧ w4.cell? ⟨w.heap.size + 2, 1, none⟩ = some (.int .i64 0) ∧ w4.cell? ⟨w.heap.size + 2, 2, none⟩ = some (.int .i64 0)) ∧ w4.frozen? ⟨w.heap.size + 2, 0, none⟩ = false ∧ w4.frozen? ⟨w.heap.size + 2, 1, none⟩ = false ∧ w4.frozen? ⟨w.heap.size + 2, 2, none⟩ = false := ⟨three X4.out.2.2, (cell_of X4.out.2.2 0).2, (cell_of X4.out.2.2 1).2, (cell_of X4.out.2.2 2).2⟩
    have HZA : w4.heap[w.heap.size + 1 + 1]? = some (.cells #[.slice none 0 0, .int .i64 0, .int .i64 0] 24 (0, 0)) := X4.out.2.2
    obtain ⟨f1, f2, f3⟩ := state_fin (v := .slice none 0 0) (r := .int .i64 0) (n := .int .i64 0) HZA
    have f3 := f3 w.heap.size w (by omega) B4.out
    have O15 : Hid (Pg.OwnN (((w4.setCell ⟨w.heap.size + 1 + 1, 0, none⟩ (.slice none 0 0)).setCell ⟨w.heap.size + 1 + 1, 1, none⟩ (.int .i64 0)).setCell ⟨w.heap.size + 1 + 1, 2, none⟩ (.int .i64 0)) w.heap.size (.slice none 0 0) noD.nodes (fun _ => .slice none 0 0) (fun _ => .slice none 0 0)) := noD_pg _ _
    have F1 : Hid (_ = some (Obj.cells _ _ _)) := f1
    have F3 : Hid (Below w.heap.size w _) := f3
    clear f1 f2 f3 HZA
    go_wp2_with fail
    all_goals (
    clear z0 z1 z2 zf0 zf1 zf2
    generalize (((w4.setCell ⟨w.heap.size + 1 + 1, 0, none⟩ (.slice none 0 0)).setCell ⟨w.heap.size + 1 + 1, 1, none⟩ (.int .i64 0)).setCell ⟨w.heap.size + 1 + 1, 2, none⟩ (.int .i64 0)) = W9 at *
    obtain ⟨c0, c1, c2⟩ := three F1.out
    refine bodyPost_ret (v := .tuple #[.agg #[.slice none 0 0, .int .i64 0, .int .i64 0], .int .i64 9]) (by simp [results, Tryz.results7, go_sem, c0, c1, c2]) rfl ?_
    rw [HR.out]
    exact ⟨_, _, _, rfl, O15.out, F3.out⟩)
  | true =>
    have hc : chkD ⟨ns, root, next⟩ = 0 := by unfold chkD; rw [hok]; rfl
    have HR0 : Hid (applyD ⟨ns, root, next⟩ ⟨pw, pi, pp, pat, pg, pk, pt, pn, pv⟩ = errD (takeD ⟨ns, root, next⟩ ⟨pw, pi, pp, pat, pg, pk, pt, pn, pv⟩)) := by show _ = _; unfold applyD; rw [hok]; rfl
    have HD : Hid (OkD ⟨ns, root, next⟩) := okD_iff.1 hok
    rw [hc]
    clear hok hc
    have hn : ns.length ≤ 1024 := HD.out.len
    have hnx : 1 ≤ next ∧ next ≤ 2147483647 := HD.out.nx
    have hr := (HS.out _ B4.out).root
    simp only at hr
    obtain ⟨x0, x1, x2⟩ := three X4.out.1
    go_wp2_with fail
    refine (rown_any ⟨ns, root, next⟩ a c w4 (HS.out w4 B4.out) hn).mono ?_
    rintro e w5 ⟨v5, ab, kb, rfl, hO5, hb5⟩
    obtain ⟨va, vc, rfl⟩ := hO5.shape
    simp only at hO5 ⊢
    have hbA : Below w4.heap.size w4 (w5.alloc (.cells #[.slice va ns.length vc, .int .i64 root, .int .i64 next] 24)) := nxt hb5 (below_one _ _)
    obtain ⟨T, hT⟩ : ∃ T : Nat, T = w5.heap.size := ⟨_, rfl⟩
    have hT4 : w4.heap.size ≤ T := by rw [hT]; exact hb5.size
    have X6 : Hid ((w5.alloc (.cells #[.slice va ns.length vc, .int .i64 root, .int .i64 next] 24)).heap[w.heap.size + 1]? = some (.cells #[.int .i64 pw, .int .i64 pi, .int .i64 pp, .int .i64 pat, .string pg, .string pk, .string pt, .string pn, .string pv] 26 (0, 0)) ∧ (w5.alloc (.cells #[.slice va ns.length vc, .int .i64 root, .int .i64 next] 24)).heap[w.heap.size + 2]? = some (.cells #[.slice none 0 0, .int .i64 0, .int .i64 0] 24 (0, 0)) ∧ (w5.alloc (.cells #[.slice va ns.length vc, .int .i64 root, .int .i64 next] 24)).heap[T]? = some (.cells #[.slice va ns.length vc, .int .i64 root, .int .i64 next] 24 (0, 0))) := ⟨(hbA.block _ (lt_of_block X4.out.2.1)).trans X4.out.2.1, (hbA.block _ (lt_of_block X4.out.2.2)).trans X4.out.2.2, by rw [hT]; exact heap_alloc_new _ _⟩
    have B6 : Hid (Below w.heap.size w (w5.alloc (.cells #[.slice va ns.length vc, .int .i64 root, .int .i64 next] 24))) := nxt B4.out hbA
    have O6 : Hid (Pg.OwnN (w5.alloc (.cells #[.slice va ns.length vc, .int .i64 root, .int .i64 next] 24)) w4.heap.size (.slice va ns.length vc) ns ab kb) := hO5.below (below_one _ _)
    have S6 : Hid (w4.heap.size ≤ (w5.alloc (.cells #[.slice va ns.length vc, .int .i64 root, .int .i64 next] 24)).heap.size) := hbA.size
    clear hbA hO5 hb5 x0 x1 x2 X4
    go_upto_region 4 with fail
    rw [← hT]
    generalize (w5.alloc (.cells #[.slice va ns.length vc, .int .i64 root, .int .i64 next] 24)) = W6 at *
    clear hT
    obtain ⟨t0, t1, t2⟩ := three X6.out.2.2
    obtain ⟨n0, n1, n2, n3, n4, n5, n6, n7, n8⟩ := nine X6.out.1
    by_cases h1 : pw = 1
    · subst h1
      have HC := rcreate_any ⟨ns, root, next⟩ ⟨1, pi, pp, pat, pg, pk, pt, pn, pv⟩ w4.heap.size W6 (.slice va ns.length vc) ab kb O6.out S6.out HP.out hn hnx
      generalize hrr : errD (createD ⟨ns, root, next⟩ ⟨1, pi, pp, pat, pg, pk, pt, pn, pv⟩) = r at HC
      have HRR : Hid (applyD ⟨ns, root, next⟩ ⟨1, pi, pp, pat, pg, pk, pt, pn, pv⟩ = r) := by show _ = _; rw [HR0.out, ← hrr]; exact rfl
      clear hrr
      go_wp2_with fail
      refine HC.mono ?_
      rintro e w7 ⟨v7, ab7, kb7, rfl, hO7, hb7⟩
      obtain ⟨va7, vc7, rfl⟩ := hO7.shape
      have hs4 := S4.out
      have Z7 : Hid (w7.heap[w.heap.size + 2]? = some (.cells #[.slice none 0 0, .int .i64 0, .int .i64 0] 24 (0, 0))) := (hb7.block _ (by omega)).trans X6.out.2.1
      have B7 : Hid (Below w.heap.size w w7) := ⟨hb7.os.trans B6.out.os, hb7.tape.trans B6.out.tape, hb7.output.trans B6.out.output, Nat.le_trans B6.out.size hb7.size, fun j hj => (hb7.block j (by omega)).trans (B6.out.block j hj)⟩
      clear HC hb7 t0 t1 t2 n0 n1 n2 n3 n4 n5 n6 n7 n8
      obtain ⟨⟨z0, z1, z2⟩, zf0, zf1, zf2⟩ : (w7.cell? ⟨w.heap.size + 2, 0, none⟩ = some (.slice none 0 0) ∧ w7.cell? ⟨w.heap.size + 2, 1, none⟩ = some (.int .i64 0) ∧ w7.cell? ⟨w.heap.size + 2, 2, none⟩ = some (.int .i64 0)) ∧ w7.frozen? ⟨w.heap.size + 2, 0, none⟩ = false ∧ w7.frozen? ⟨w.heap.size + 2, 1, none⟩ = false ∧ w7.frozen? ⟨w.heap.size + 2, 2, none⟩ = false := ⟨three Z7.out, (cell_of Z7.out 0).2, (cell_of Z7.out 1).2, (cell_of Z7.out 2).2⟩
      have HZA : w7.heap[w.heap.size + 1 + 1]? = some (.cells #[.slice none 0 0, .int .i64 0, .int .i64 0] 24 (0, 0)) := Z7.out
      obtain ⟨f1, f2, f3⟩ := state_fin (v := .slice va7 r.2.nodes.length vc7) (r := .int .i64 r.2.root) (n := .int .i64 r.2.next) HZA
      have f3 := f3 w.heap.size w (by omega) B7.out
      have O15 : Hid (Pg.OwnN (((w7.setCell ⟨w.heap.size + 1 + 1, 0, none⟩ (.slice va7 r.2.nodes.length vc7)).setCell ⟨w.heap.size + 1 + 1, 1, none⟩ (.int .i64 r.2.root)).setCell ⟨w.heap.size + 1 + 1, 2, none⟩ (.int .i64 r.2.next)) w.heap.size (.slice va7 r.2.nodes.length vc7) r.2.nodes ab7 kb7) := (hO7.same fun b hb => f2 b (hO7.notState HZA hb)).less (by omega)
      have F1 : Hid (_ = some (Obj.cells _ _ _)) := f1
      have F3 : Hid (Below w.heap.size w _) := f3
      clear f1 f2 f3 HZA
      go_wp2_with fail
      all_goals (
      clear z0 z1 z2 zf0 zf1 zf2
      generalize (((w7.setCell ⟨w.heap.size + 1 + 1, 0, none⟩ (.slice va7 r.2.nodes.length vc7)).setCell ⟨w.heap.size + 1 + 1, 1, none⟩ (.int .i64 r.2.root)).setCell ⟨w.heap.size + 1 + 1, 2, none⟩ (.int .i64 r.2.next)) = W9 at *
      obtain ⟨c0, c1, c2⟩ := three F1.out
      refine bodyPost_ret (v := .tuple #[.agg #[.slice va7 r.2.nodes.length vc7, .int .i64 r.2.root, .int .i64 r.2.next], .int .i64 r.1]) (by simp [results, Tryz.results7, go_sem, c0, c1, c2]) rfl ?_
      rw [HRR.out]
      exact ⟨_, _, _, rfl, O15.out, F3.out⟩)
    have g1 : (pw == 1) = false := by simpa using h1
    by_cases h2 : pw = 2
    · subst h2
      have HC := rhang_any ⟨ns, root, next⟩ ⟨2, pi, pp, pat, pg, pk, pt, pn, pv⟩ w4.heap.size W6 (.slice va ns.length vc) ab kb O6.out S6.out HP.out hn hr (by simp only; omega)
      generalize hrr : hangP ⟨ns, root, next⟩ ⟨2, pi, pp, pat, pg, pk, pt, pn, pv⟩ = r at HC
      have HRR : Hid (applyD ⟨ns, root, next⟩ ⟨2, pi, pp, pat, pg, pk, pt, pn, pv⟩ = r) := by show _ = _; rw [HR0.out, ← hrr]; exact (hangP_is HD.out _).symm
      clear hrr
      go_wp2_with fail
      refine HC.mono ?_
      rintro e w7 ⟨v7, ab7, kb7, rfl, hO7, hb7⟩
      obtain ⟨va7, vc7, rfl⟩ := hO7.shape
      have hs4 := S4.out
      have Z7 : Hid (w7.heap[w.heap.size + 2]? = some (.cells #[.slice none 0 0, .int .i64 0, .int .i64 0] 24 (0, 0))) := (hb7.block _ (by omega)).trans X6.out.2.1
      have B7 : Hid (Below w.heap.size w w7) := ⟨hb7.os.trans B6.out.os, hb7.tape.trans B6.out.tape, hb7.output.trans B6.out.output, Nat.le_trans B6.out.size hb7.size, fun j hj => (hb7.block j (by omega)).trans (B6.out.block j hj)⟩
      clear HC hb7 t0 t1 t2 n0 n1 n2 n3 n4 n5 n6 n7 n8
      obtain ⟨⟨z0, z1, z2⟩, zf0, zf1, zf2⟩ : (w7.cell? ⟨w.heap.size + 2, 0, none⟩ = some (.slice none 0 0) ∧ w7.cell? ⟨w.heap.size + 2, 1, none⟩ = some (.int .i64 0) ∧ w7.cell? ⟨w.heap.size + 2, 2, none⟩ = some (.int .i64 0)) ∧ w7.frozen? ⟨w.heap.size + 2, 0, none⟩ = false ∧ w7.frozen? ⟨w.heap.size + 2, 1, none⟩ = false ∧ w7.frozen? ⟨w.heap.size + 2, 2, none⟩ = false := ⟨three Z7.out, (cell_of Z7.out 0).2, (cell_of Z7.out 1).2, (cell_of Z7.out 2).2⟩
      have HZA : w7.heap[w.heap.size + 1 + 1]? = some (.cells #[.slice none 0 0, .int .i64 0, .int .i64 0] 24 (0, 0)) := Z7.out
      obtain ⟨f1, f2, f3⟩ := state_fin (v := .slice va7 r.2.nodes.length vc7) (r := .int .i64 r.2.root) (n := .int .i64 r.2.next) HZA
      have f3 := f3 w.heap.size w (by omega) B7.out
      have O15 : Hid (Pg.OwnN (((w7.setCell ⟨w.heap.size + 1 + 1, 0, none⟩ (.slice va7 r.2.nodes.length vc7)).setCell ⟨w.heap.size + 1 + 1, 1, none⟩ (.int .i64 r.2.root)).setCell ⟨w.heap.size + 1 + 1, 2, none⟩ (.int .i64 r.2.next)) w.heap.size (.slice va7 r.2.nodes.length vc7) r.2.nodes ab7 kb7) := (hO7.same fun b hb => f2 b (hO7.notState HZA hb)).less (by omega)
      have F1 : Hid (_ = some (Obj.cells _ _ _)) := f1
      have F3 : Hid (Below w.heap.size w _) := f3
      clear f1 f2 f3 HZA
      go_wp2_with fail
      all_goals (
      clear z0 z1 z2 zf0 zf1 zf2
      generalize (((w7.setCell ⟨w.heap.size + 1 + 1, 0, none⟩ (.slice va7 r.2.nodes.length vc7)).setCell ⟨w.heap.size + 1 + 1, 1, none⟩ (.int .i64 r.2.root)).setCell ⟨w.heap.size + 1 + 1, 2, none⟩ (.int .i64 r.2.next)) = W9 at *
      obtain ⟨c0, c1, c2⟩ := three F1.out
      refine bodyPost_ret (v := .tuple #[.agg #[.slice va7 r.2.nodes.length vc7, .int .i64 r.2.root, .int .i64 r.2.next], .int .i64 r.1]) (by simp [results, Tryz.results7, go_sem, c0, c1, c2]) rfl ?_
      rw [HRR.out]
      exact ⟨_, _, _, rfl, O15.out, F3.out⟩)
    have g2 : (pw == 2) = false := by simpa using h2
    by_cases h7 : pw = 7
    · subst h7
      have HC := rroot_any ⟨ns, root, next⟩ ⟨7, pi, pp, pat, pg, pk, pt, pn, pv⟩ w4.heap.size W6 (.slice va ns.length vc) ab kb O6.out S6.out HP.out hn hr (by simp only; omega)
      generalize hrr : errD (rootD ⟨ns, root, next⟩ ⟨7, pi, pp, pat, pg, pk, pt, pn, pv⟩) = r at HC
      have HRR : Hid (applyD ⟨ns, root, next⟩ ⟨7, pi, pp, pat, pg, pk, pt, pn, pv⟩ = r) := by show _ = _; rw [HR0.out, ← hrr]; exact rfl
      clear hrr
      go_wp2_with fail
      refine HC.mono ?_
      rintro e w7 ⟨v7, ab7, kb7, rfl, hO7, hb7⟩
      obtain ⟨va7, vc7, rfl⟩ := hO7.shape
      have hs4 := S4.out
      have Z7 : Hid (w7.heap[w.heap.size + 2]? = some (.cells #[.slice none 0 0, .int .i64 0, .int .i64 0] 24 (0, 0))) := (hb7.block _ (by omega)).trans X6.out.2.1
      have B7 : Hid (Below w.heap.size w w7) := ⟨hb7.os.trans B6.out.os, hb7.tape.trans B6.out.tape, hb7.output.trans B6.out.output, Nat.le_trans B6.out.size hb7.size, fun j hj => (hb7.block j (by omega)).trans (B6.out.block j hj)⟩
      clear HC hb7 t0 t1 t2 n0 n1 n2 n3 n4 n5 n6 n7 n8
      obtain ⟨⟨z0, z1, z2⟩, zf0, zf1, zf2⟩ : (w7.cell? ⟨w.heap.size + 2, 0, none⟩ = some (.slice none 0 0) ∧ w7.cell? ⟨w.heap.size + 2, 1, none⟩ = some (.int .i64 0) ∧ w7.cell? ⟨w.heap.size + 2, 2, none⟩ = some (.int .i64 0)) ∧ w7.frozen? ⟨w.heap.size + 2, 0, none⟩ = false ∧ w7.frozen? ⟨w.heap.size + 2, 1, none⟩ = false ∧ w7.frozen? ⟨w.heap.size + 2, 2, none⟩ = false := ⟨three Z7.out, (cell_of Z7.out 0).2, (cell_of Z7.out 1).2, (cell_of Z7.out 2).2⟩
      have HZA : w7.heap[w.heap.size + 1 + 1]? = some (.cells #[.slice none 0 0, .int .i64 0, .int .i64 0] 24 (0, 0)) := Z7.out
      obtain ⟨f1, f2, f3⟩ := state_fin (v := .slice va7 r.2.nodes.length vc7) (r := .int .i64 r.2.root) (n := .int .i64 r.2.next) HZA
      have f3 := f3 w.heap.size w (by omega) B7.out
      have O15 : Hid (Pg.OwnN (((w7.setCell ⟨w.heap.size + 1 + 1, 0, none⟩ (.slice va7 r.2.nodes.length vc7)).setCell ⟨w.heap.size + 1 + 1, 1, none⟩ (.int .i64 r.2.root)).setCell ⟨w.heap.size + 1 + 1, 2, none⟩ (.int .i64 r.2.next)) w.heap.size (.slice va7 r.2.nodes.length vc7) r.2.nodes ab7 kb7) := (hO7.same fun b hb => f2 b (hO7.notState HZA hb)).less (by omega)
      have F1 : Hid (_ = some (Obj.cells _ _ _)) := f1
      have F3 : Hid (Below w.heap.size w _) := f3
      clear f1 f2 f3 HZA
      go_wp2_with fail
      all_goals (
      clear z0 z1 z2 zf0 zf1 zf2
      generalize (((w7.setCell ⟨w.heap.size + 1 + 1, 0, none⟩ (.slice va7 r.2.nodes.length vc7)).setCell ⟨w.heap.size + 1 + 1, 1, none⟩ (.int .i64 r.2.root)).setCell ⟨w.heap.size + 1 + 1, 2, none⟩ (.int .i64 r.2.next)) = W9 at *
      obtain ⟨c0, c1, c2⟩ := three F1.out
      refine bodyPost_ret (v := .tuple #[.agg #[.slice va7 r.2.nodes.length vc7, .int .i64 r.2.root, .int .i64 r.2.next], .int .i64 r.1]) (by simp [results, Tryz.results7, go_sem, c0, c1, c2]) rfl ?_
      rw [HRR.out]
      exact ⟨_, _, _, rfl, O15.out, F3.out⟩)
    have g7 : (pw == 7) = false := by simpa using h7
    by_cases h3 : pw = 3 ∨ pw = 4 ∨ pw = 5 ∨ pw = 6
    · have HPL := rplace_any ⟨ns, root, next⟩ pi va vc W6 (O6.out.ds hn hr (by omega))
      simp only at HPL
      have HW : Hid (pw = 3 ∨ pw = 4 ∨ pw = 5 ∨ pw = 6) := h3
      rcases h3 with rfl | rfl | rfl | rfl
      · skip
        go_wp2_with fail
        refine HPL.mono ?_
        rintro e w7 ⟨rfl, hb7⟩
        have X7 : Hid (w7.heap[w.heap.size + 1]? = some (.cells #[.int .i64 3, .int .i64 pi, .int .i64 pp, .int .i64 pat, .string pg, .string pk, .string pt, .string pn, .string pv] 26 (0, 0)) ∧ w7.heap[w.heap.size + 2]? = some (.cells #[.slice none 0 0, .int .i64 0, .int .i64 0] 24 (0, 0)) ∧ w7.heap[T]? = some (.cells #[.slice va ns.length vc, .int .i64 root, .int .i64 next] 24 (0, 0))) := ⟨(hb7.block _ (lt_of_block X6.out.1)).trans X6.out.1, (hb7.block _ (lt_of_block X6.out.2.1)).trans X6.out.2.1, (hb7.block _ (lt_of_block X6.out.2.2)).trans X6.out.2.2⟩
        have B7 : Hid (Below w.heap.size w w7) := nxt B6.out hb7
        have O7 : Hid (Pg.OwnN w7 w4.heap.size (.slice va ns.length vc) ns ab kb) := O6.out.below hb7
        have S7 : Hid (w4.heap.size ≤ w7.heap.size) := Nat.le_trans S6.out hb7.size
        clear hb7 HPL X6 O6 B6 S6 t0 t1 t2 n0 n1 n2 n3 n4 n5 n6 n7 n8
        obtain ⟨t0, t1, t2⟩ := three X7.out.2.2
        obtain ⟨n0, n1, n2, n3, n4, n5, n6, n7, n8⟩ := nine X7.out.1
        cases hq : pl ns pi with
        | none =>
          rw [plI_none hq]
          have HR : Hid (applyD ⟨ns, root, next⟩ ⟨3, pi, pp, pat, pg, pk, pt, pn, pv⟩ = (71, noD)) := by
            show _ = _
            rw [HR0.out]
            have e : takeD ⟨ns, root, next⟩ ⟨3, pi, pp, pat, pg, pk, pt, pn, pv⟩ = awayD ⟨ns, root, next⟩ ⟨3, pi, pp, pat, pg, pk, pt, pn, pv⟩ := rfl
            rw [e]
            unfold awayD
            simp only
            rw [nd_none.2 hq]
            exact errD_err (by decide)
          clear hq
          obtain ⟨⟨z0, z1, z2⟩, zf0, zf1, zf2⟩ : (w7.cell? ⟨w.heap.size + 2, 0, none⟩ = some (.slice none 0 0) ∧ w7.cell? ⟨w.heap.size + 2, 1, none⟩ = some (.int .i64 0) ∧ w7.cell? ⟨w.heap.size + 2, 2, none⟩ = some (.int .i64 0)) ∧ w7.frozen? ⟨w.heap.size + 2, 0, none⟩ = false ∧ w7.frozen? ⟨w.heap.size + 2, 1, none⟩ = false ∧ w7.frozen? ⟨w.heap.size + 2, 2, none⟩ = false := ⟨three X7.out.2.1, (cell_of X7.out.2.1 0).2, (cell_of X7.out.2.1 1).2, (cell_of X7.out.2.1 2).2⟩
          have HZA : w7.heap[w.heap.size + 1 + 1]? = some (.cells #[.slice none 0 0, .int .i64 0, .int .i64 0] 24 (0, 0)) := X7.out.2.1
          obtain ⟨f1, f2, f3⟩ := state_fin (v := .slice none 0 0) (r := .int .i64 0) (n := .int .i64 0) HZA
          have f3 := f3 w.heap.size w (by omega) B7.out
          have O15 : Hid (Pg.OwnN (((w7.setCell ⟨w.heap.size + 1 + 1, 0, none⟩ (.slice none 0 0)).setCell ⟨w.heap.size + 1 + 1, 1, none⟩ (.int .i64 0)).setCell ⟨w.heap.size + 1 + 1, 2, none⟩ (.int .i64 0)) w.heap.size (.slice none 0 0) noD.nodes (fun _ => .slice none 0 0) (fun _ => .slice none 0 0)) := noD_pg _ _
          have F1 : Hid (_ = some (Obj.cells _ _ _)) := f1
          have F3 : Hid (Below w.heap.size w _) := f3
          clear f1 f2 f3 HZA
          go_wp2_with fail
          all_goals (
          clear z0 z1 z2 zf0 zf1 zf2
          generalize (((w7.setCell ⟨w.heap.size + 1 + 1, 0, none⟩ (.slice none 0 0)).setCell ⟨w.heap.size + 1 + 1, 1, none⟩ (.int .i64 0)).setCell ⟨w.heap.size + 1 + 1, 2, none⟩ (.int .i64 0)) = W9 at *
          obtain ⟨c0, c1, c2⟩ := three F1.out
          refine bodyPost_ret (v := .tuple #[.agg #[.slice none 0 0, .int .i64 0, .int .i64 0], .int .i64 71]) (by simp [results, Tryz.results7, go_sem, c0, c1, c2]) rfl ?_
          rw [HR.out]
          exact ⟨_, _, _, rfl, O15.out, F3.out⟩)
        | some q =>
          rw [plI_some hq]
          obtain ⟨m, hm, -⟩ := pl_some hq
          have hql : q < ns.length := (List.getElem?_eq_some_iff.1 hm).1
          have gq : decide ((q : Int) < 0) = false := decide_eq_false (by omega)
          have HQ : Hid (pl ns pi = some q ∧ ns[q]? = some m) := ⟨hq, hm⟩
          obtain ⟨b, hvr, -, -, r2, -, r4, -, -⟩ := Pg.rowN_cells O7.out.row hm
          clear hq hm
          subst hvr
          have HRE : Hid (applyD ⟨ns, root, next⟩ ⟨3, pi, pp, pat, pg, pk, pt, pn, pv⟩ = errD (awayD ⟨ns, root, next⟩ ⟨3, pi, pp, pat, pg, pk, pt, pn, pv⟩)) := HR0.out
          clear HR0
          have HG := rgone_any ⟨ns, root, next⟩ pi q m w4.heap.size w7 (.slice (some ⟨b, 0, none⟩) ns.length vc) ab kb O7.out S7.out hn HQ.out.1 HQ.out.2 hr (by simp only; omega)
          have HRR : Hid (applyD ⟨ns, root, next⟩ ⟨3, pi, pp, pat, pg, pk, pt, pn, pv⟩ = (0, goneP ⟨ns, root, next⟩ pi)) := by
            show _ = _
            rw [HRE.out, gone_is HD.out (p := ⟨3, pi, pp, pat, pg, pk, pt, pn, pv⟩) (at_nd HQ.out.1 HQ.out.2)]
            exact errD_zero
          generalize hgg : goneP ⟨ns, root, next⟩ pi = r at *
          have hnx2 : r.next = next := by rw [← hgg]; rfl
          clear hgg
          go_wp2_with fail
          all_goals (
          refine HG.mono ?_
          rintro e w8 ⟨v8, ab8, kb8, rfl, hO8, hb8⟩
          obtain ⟨va8, vc8, rfl⟩ := hO8.shape
          have hs4 := S4.out
          have Z8 : Hid (w8.heap[w.heap.size + 2]? = some (.cells #[.slice none 0 0, .int .i64 0, .int .i64 0] 24 (0, 0))) := (hb8.block _ (by omega)).trans X7.out.2.1
          have B8 : Hid (Below w.heap.size w w8) := ⟨hb8.os.trans B7.out.os, hb8.tape.trans B7.out.tape, hb8.output.trans B7.out.output, Nat.le_trans B7.out.size hb8.size, fun j hj => (hb8.block j (by omega)).trans (B7.out.block j hj)⟩
          clear HG hb8 t0 t1 t2 n0 n1 n2 n3 n4 n5 n6 n7 n8 r2 r4
          obtain ⟨⟨z0, z1, z2⟩, zf0, zf1, zf2⟩ : (w8.cell? ⟨w.heap.size + 2, 0, none⟩ = some (.slice none 0 0) ∧ w8.cell? ⟨w.heap.size + 2, 1, none⟩ = some (.int .i64 0) ∧ w8.cell? ⟨w.heap.size + 2, 2, none⟩ = some (.int .i64 0)) ∧ w8.frozen? ⟨w.heap.size + 2, 0, none⟩ = false ∧ w8.frozen? ⟨w.heap.size + 2, 1, none⟩ = false ∧ w8.frozen? ⟨w.heap.size + 2, 2, none⟩ = false := ⟨three Z8.out, (cell_of Z8.out 0).2, (cell_of Z8.out 1).2, (cell_of Z8.out 2).2⟩
          have HZA : w8.heap[w.heap.size + 1 + 1]? = some (.cells #[.slice none 0 0, .int .i64 0, .int .i64 0] 24 (0, 0)) := Z8.out
          obtain ⟨f1, f2, f3⟩ := state_fin (v := .slice va8 r.nodes.length vc8) (r := .int .i64 r.root) (n := .int .i64 next) HZA
          have f3 := f3 w.heap.size w (by omega) B8.out
          have O15 : Hid (Pg.OwnN (((w8.setCell ⟨w.heap.size + 1 + 1, 0, none⟩ (.slice va8 r.nodes.length vc8)).setCell ⟨w.heap.size + 1 + 1, 1, none⟩ (.int .i64 r.root)).setCell ⟨w.heap.size + 1 + 1, 2, none⟩ (.int .i64 next)) w.heap.size (.slice va8 r.nodes.length vc8) r.nodes ab8 kb8) := (hO8.same fun b hb => f2 b (hO8.notState HZA hb)).less (by omega)
          have F1 : Hid (_ = some (Obj.cells _ _ _)) := f1
          have F3 : Hid (Below w.heap.size w _) := f3
          clear f1 f2 f3 HZA
          go_wp2_with fail
          all_goals (
          clear z0 z1 z2 zf0 zf1 zf2
          generalize (((w8.setCell ⟨w.heap.size + 1 + 1, 0, none⟩ (.slice va8 r.nodes.length vc8)).setCell ⟨w.heap.size + 1 + 1, 1, none⟩ (.int .i64 r.root)).setCell ⟨w.heap.size + 1 + 1, 2, none⟩ (.int .i64 next)) = W9 at *
          obtain ⟨c0, c1, c2⟩ := three F1.out
          refine bodyPost_ret (v := .tuple #[.agg #[.slice va8 r.nodes.length vc8, .int .i64 r.root, .int .i64 next], .int .i64 0]) (by simp [results, Tryz.results7, go_sem, c0, c1, c2]) rfl ?_
          rw [HRR.out]
          exact ⟨_, _, _, (by rw [show (((0 : Int), r) : Int × Ds).2.next = next from hnx2]), O15.out, F3.out⟩))
      · skip
        go_wp2_with fail
        refine HPL.mono ?_
        rintro e w7 ⟨rfl, hb7⟩
        have X7 : Hid (w7.heap[w.heap.size + 1]? = some (.cells #[.int .i64 4, .int .i64 pi, .int .i64 pp, .int .i64 pat, .string pg, .string pk, .string pt, .string pn, .string pv] 26 (0, 0)) ∧ w7.heap[w.heap.size + 2]? = some (.cells #[.slice none 0 0, .int .i64 0, .int .i64 0] 24 (0, 0)) ∧ w7.heap[T]? = some (.cells #[.slice va ns.length vc, .int .i64 root, .int .i64 next] 24 (0, 0))) := ⟨(hb7.block _ (lt_of_block X6.out.1)).trans X6.out.1, (hb7.block _ (lt_of_block X6.out.2.1)).trans X6.out.2.1, (hb7.block _ (lt_of_block X6.out.2.2)).trans X6.out.2.2⟩
        have B7 : Hid (Below w.heap.size w w7) := nxt B6.out hb7
        have O7 : Hid (Pg.OwnN w7 w4.heap.size (.slice va ns.length vc) ns ab kb) := O6.out.below hb7
        have S7 : Hid (w4.heap.size ≤ w7.heap.size) := Nat.le_trans S6.out hb7.size
        clear hb7 HPL X6 O6 B6 S6 t0 t1 t2 n0 n1 n2 n3 n4 n5 n6 n7 n8
        obtain ⟨t0, t1, t2⟩ := three X7.out.2.2
        obtain ⟨n0, n1, n2, n3, n4, n5, n6, n7, n8⟩ := nine X7.out.1
        cases hq : pl ns pi with
        | none =>
          rw [plI_none hq]
          have HR : Hid (applyD ⟨ns, root, next⟩ ⟨4, pi, pp, pat, pg, pk, pt, pn, pv⟩ = (71, noD)) := by
            show _ = _
            rw [HR0.out]
            have e : takeD ⟨ns, root, next⟩ ⟨4, pi, pp, pat, pg, pk, pt, pn, pv⟩ = setD ⟨ns, root, next⟩ ⟨4, pi, pp, pat, pg, pk, pt, pn, pv⟩ := rfl
            rw [e]
            unfold setD
            simp only
            rw [hq]
            exact errD_err (by decide)
          clear hq
          obtain ⟨⟨z0, z1, z2⟩, zf0, zf1, zf2⟩ : (w7.cell? ⟨w.heap.size + 2, 0, none⟩ = some (.slice none 0 0) ∧ w7.cell? ⟨w.heap.size + 2, 1, none⟩ = some (.int .i64 0) ∧ w7.cell? ⟨w.heap.size + 2, 2, none⟩ = some (.int .i64 0)) ∧ w7.frozen? ⟨w.heap.size + 2, 0, none⟩ = false ∧ w7.frozen? ⟨w.heap.size + 2, 1, none⟩ = false ∧ w7.frozen? ⟨w.heap.size + 2, 2, none⟩ = false := ⟨three X7.out.2.1, (cell_of X7.out.2.1 0).2, (cell_of X7.out.2.1 1).2, (cell_of X7.out.2.1 2).2⟩
          have HZA : w7.heap[w.heap.size + 1 + 1]? = some (.cells #[.slice none 0 0, .int .i64 0, .int .i64 0] 24 (0, 0)) := X7.out.2.1
          obtain ⟨f1, f2, f3⟩ := state_fin (v := .slice none 0 0) (r := .int .i64 0) (n := .int .i64 0) HZA
          have f3 := f3 w.heap.size w (by omega) B7.out
          have O15 : Hid (Pg.OwnN (((w7.setCell ⟨w.heap.size + 1 + 1, 0, none⟩ (.slice none 0 0)).setCell ⟨w.heap.size + 1 + 1, 1, none⟩ (.int .i64 0)).setCell ⟨w.heap.size + 1 + 1, 2, none⟩ (.int .i64 0)) w.heap.size (.slice none 0 0) noD.nodes (fun _ => .slice none 0 0) (fun _ => .slice none 0 0)) := noD_pg _ _
          have F1 : Hid (_ = some (Obj.cells _ _ _)) := f1
          have F3 : Hid (Below w.heap.size w _) := f3
          clear f1 f2 f3 HZA
          go_wp2_with fail
          all_goals (
          clear z0 z1 z2 zf0 zf1 zf2
          generalize (((w7.setCell ⟨w.heap.size + 1 + 1, 0, none⟩ (.slice none 0 0)).setCell ⟨w.heap.size + 1 + 1, 1, none⟩ (.int .i64 0)).setCell ⟨w.heap.size + 1 + 1, 2, none⟩ (.int .i64 0)) = W9 at *
          obtain ⟨c0, c1, c2⟩ := three F1.out
          refine bodyPost_ret (v := .tuple #[.agg #[.slice none 0 0, .int .i64 0, .int .i64 0], .int .i64 71]) (by simp [results, Tryz.results7, go_sem, c0, c1, c2]) rfl ?_
          rw [HR.out]
          exact ⟨_, _, _, rfl, O15.out, F3.out⟩)
        | some q =>
          rw [plI_some hq]
          obtain ⟨m, hm, -⟩ := pl_some hq
          have hql : q < ns.length := (List.getElem?_eq_some_iff.1 hm).1
          have gq : decide ((q : Int) < 0) = false := decide_eq_false (by omega)
          have HQ : Hid (pl ns pi = some q ∧ ns[q]? = some m) := ⟨hq, hm⟩
          obtain ⟨b, hvr, -, -, r2, -, r4, -, -⟩ := Pg.rowN_cells O7.out.row hm
          clear hq hm
          subst hvr
          have HRE : Hid (applyD ⟨ns, root, next⟩ ⟨4, pi, pp, pat, pg, pk, pt, pn, pv⟩ = errD (setD ⟨ns, root, next⟩ ⟨4, pi, pp, pat, pg, pk, pt, pn, pv⟩)) := HR0.out
          clear HR0
          by_cases hg : m.tag.size = 0
          · have g2 := empty_true hg
            have HR : Hid (applyD ⟨ns, root, next⟩ ⟨4, pi, pp, pat, pg, pk, pt, pn, pv⟩ = (81, noD)) := by
              show _ = _
              rw [HRE.out]
              unfold setD
              simp only
              rw [HQ.out.1]
              simp only
              rw [HQ.out.2]
              simp only
              rw [if_pos hg]
              exact errD_err (by decide)
            obtain ⟨⟨z0, z1, z2⟩, zf0, zf1, zf2⟩ : (w7.cell? ⟨w.heap.size + 2, 0, none⟩ = some (.slice none 0 0) ∧ w7.cell? ⟨w.heap.size + 2, 1, none⟩ = some (.int .i64 0) ∧ w7.cell? ⟨w.heap.size + 2, 2, none⟩ = some (.int .i64 0)) ∧ w7.frozen? ⟨w.heap.size + 2, 0, none⟩ = false ∧ w7.frozen? ⟨w.heap.size + 2, 1, none⟩ = false ∧ w7.frozen? ⟨w.heap.size + 2, 2, none⟩ = false := ⟨three X7.out.2.1, (cell_of X7.out.2.1 0).2, (cell_of X7.out.2.1 1).2, (cell_of X7.out.2.1 2).2⟩
            have HZA : w7.heap[w.heap.size + 1 + 1]? = some (.cells #[.slice none 0 0, .int .i64 0, .int .i64 0] 24 (0, 0)) := X7.out.2.1
            obtain ⟨f1, f2, f3⟩ := state_fin (v := .slice none 0 0) (r := .int .i64 0) (n := .int .i64 0) HZA
            have f3 := f3 w.heap.size w (by omega) B7.out
            have O15 : Hid (Pg.OwnN (((w7.setCell ⟨w.heap.size + 1 + 1, 0, none⟩ (.slice none 0 0)).setCell ⟨w.heap.size + 1 + 1, 1, none⟩ (.int .i64 0)).setCell ⟨w.heap.size + 1 + 1, 2, none⟩ (.int .i64 0)) w.heap.size (.slice none 0 0) noD.nodes (fun _ => .slice none 0 0) (fun _ => .slice none 0 0)) := noD_pg _ _
            have F1 : Hid (_ = some (Obj.cells _ _ _)) := f1
            have F3 : Hid (Below w.heap.size w _) := f3
            clear f1 f2 f3 HZA
            go_wp2_with fail
            all_goals (
            clear z0 z1 z2 zf0 zf1 zf2
            generalize (((w7.setCell ⟨w.heap.size + 1 + 1, 0, none⟩ (.slice none 0 0)).setCell ⟨w.heap.size + 1 + 1, 1, none⟩ (.int .i64 0)).setCell ⟨w.heap.size + 1 + 1, 2, none⟩ (.int .i64 0)) = W9 at *
            obtain ⟨c0, c1, c2⟩ := three F1.out
            refine bodyPost_ret (v := .tuple #[.agg #[.slice none 0 0, .int .i64 0, .int .i64 0], .int .i64 81]) (by simp [results, Tryz.results7, go_sem, c0, c1, c2]) rfl ?_
            rw [HR.out]
            exact ⟨_, _, _, rfl, O15.out, F3.out⟩)
          have g2 := empty_false hg
          have HC := rattr_any ⟨ns, root, next⟩ ⟨4, pi, pp, pat, pg, pk, pt, pn, pv⟩ w4.heap.size w7 (.slice (some ⟨b, 0, none⟩) ns.length vc) ab kb O7.out S7.out HP.out hn hr (by simp only; omega) q m HQ.out.2
          generalize hrr : attrP ⟨ns, root, next⟩ q m ⟨4, pi, pp, pat, pg, pk, pt, pn, pv⟩ = r at HC
          have HRR : Hid (applyD ⟨ns, root, next⟩ ⟨4, pi, pp, pat, pg, pk, pt, pn, pv⟩ = r) := by show _ = _; rw [HRE.out, ← hrr]; exact (attr_set HD.out HQ.out.1 HQ.out.2 hg (show (4 : Int) ≠ 5 by decide)).symm
          clear hrr
          go_wp2_with fail
          refine HC.mono ?_
          rintro e w8 ⟨v8, ab8, kb8, rfl, hO8, hb8⟩
          obtain ⟨va8, vc8, rfl⟩ := hO8.shape
          have hs4 := S4.out
          have Z8 : Hid (w8.heap[w.heap.size + 2]? = some (.cells #[.slice none 0 0, .int .i64 0, .int .i64 0] 24 (0, 0))) := (hb8.block _ (by omega)).trans X7.out.2.1
          have B8 : Hid (Below w.heap.size w w8) := ⟨hb8.os.trans B7.out.os, hb8.tape.trans B7.out.tape, hb8.output.trans B7.out.output, Nat.le_trans B7.out.size hb8.size, fun j hj => (hb8.block j (by omega)).trans (B7.out.block j hj)⟩
          clear HC hb8 t0 t1 t2 n0 n1 n2 n3 n4 n5 n6 n7 n8 r2 r4
          obtain ⟨⟨z0, z1, z2⟩, zf0, zf1, zf2⟩ : (w8.cell? ⟨w.heap.size + 2, 0, none⟩ = some (.slice none 0 0) ∧ w8.cell? ⟨w.heap.size + 2, 1, none⟩ = some (.int .i64 0) ∧ w8.cell? ⟨w.heap.size + 2, 2, none⟩ = some (.int .i64 0)) ∧ w8.frozen? ⟨w.heap.size + 2, 0, none⟩ = false ∧ w8.frozen? ⟨w.heap.size + 2, 1, none⟩ = false ∧ w8.frozen? ⟨w.heap.size + 2, 2, none⟩ = false := ⟨three Z8.out, (cell_of Z8.out 0).2, (cell_of Z8.out 1).2, (cell_of Z8.out 2).2⟩
          have HZA : w8.heap[w.heap.size + 1 + 1]? = some (.cells #[.slice none 0 0, .int .i64 0, .int .i64 0] 24 (0, 0)) := Z8.out
          obtain ⟨f1, f2, f3⟩ := state_fin (v := .slice va8 r.2.nodes.length vc8) (r := .int .i64 r.2.root) (n := .int .i64 r.2.next) HZA
          have f3 := f3 w.heap.size w (by omega) B8.out
          have O15 : Hid (Pg.OwnN (((w8.setCell ⟨w.heap.size + 1 + 1, 0, none⟩ (.slice va8 r.2.nodes.length vc8)).setCell ⟨w.heap.size + 1 + 1, 1, none⟩ (.int .i64 r.2.root)).setCell ⟨w.heap.size + 1 + 1, 2, none⟩ (.int .i64 r.2.next)) w.heap.size (.slice va8 r.2.nodes.length vc8) r.2.nodes ab8 kb8) := (hO8.same fun b hb => f2 b (hO8.notState HZA hb)).less (by omega)
          have F1 : Hid (_ = some (Obj.cells _ _ _)) := f1
          have F3 : Hid (Below w.heap.size w _) := f3
          clear f1 f2 f3 HZA
          go_wp2_with fail
          all_goals (
          clear z0 z1 z2 zf0 zf1 zf2
          generalize (((w8.setCell ⟨w.heap.size + 1 + 1, 0, none⟩ (.slice va8 r.2.nodes.length vc8)).setCell ⟨w.heap.size + 1 + 1, 1, none⟩ (.int .i64 r.2.root)).setCell ⟨w.heap.size + 1 + 1, 2, none⟩ (.int .i64 r.2.next)) = W9 at *
          obtain ⟨c0, c1, c2⟩ := three F1.out
          refine bodyPost_ret (v := .tuple #[.agg #[.slice va8 r.2.nodes.length vc8, .int .i64 r.2.root, .int .i64 r.2.next], .int .i64 r.1]) (by simp [results, Tryz.results7, go_sem, c0, c1, c2]) rfl ?_
          rw [HRR.out]
          exact ⟨_, _, _, rfl, O15.out, F3.out⟩)
      · skip
        go_wp2_with fail
        refine HPL.mono ?_
        rintro e w7 ⟨rfl, hb7⟩
        have X7 : Hid (w7.heap[w.heap.size + 1]? = some (.cells #[.int .i64 5, .int .i64 pi, .int .i64 pp, .int .i64 pat, .string pg, .string pk, .string pt, .string pn, .string pv] 26 (0, 0)) ∧ w7.heap[w.heap.size + 2]? = some (.cells #[.slice none 0 0, .int .i64 0, .int .i64 0] 24 (0, 0)) ∧ w7.heap[T]? = some (.cells #[.slice va ns.length vc, .int .i64 root, .int .i64 next] 24 (0, 0))) := ⟨(hb7.block _ (lt_of_block X6.out.1)).trans X6.out.1, (hb7.block _ (lt_of_block X6.out.2.1)).trans X6.out.2.1, (hb7.block _ (lt_of_block X6.out.2.2)).trans X6.out.2.2⟩
        have B7 : Hid (Below w.heap.size w w7) := nxt B6.out hb7
        have O7 : Hid (Pg.OwnN w7 w4.heap.size (.slice va ns.length vc) ns ab kb) := O6.out.below hb7
        have S7 : Hid (w4.heap.size ≤ w7.heap.size) := Nat.le_trans S6.out hb7.size
        clear hb7 HPL X6 O6 B6 S6 t0 t1 t2 n0 n1 n2 n3 n4 n5 n6 n7 n8
        obtain ⟨t0, t1, t2⟩ := three X7.out.2.2
        obtain ⟨n0, n1, n2, n3, n4, n5, n6, n7, n8⟩ := nine X7.out.1
        cases hq : pl ns pi with
        | none =>
          rw [plI_none hq]
          have HR : Hid (applyD ⟨ns, root, next⟩ ⟨5, pi, pp, pat, pg, pk, pt, pn, pv⟩ = (71, noD)) := by
            show _ = _
            rw [HR0.out]
            have e : takeD ⟨ns, root, next⟩ ⟨5, pi, pp, pat, pg, pk, pt, pn, pv⟩ = unsetD ⟨ns, root, next⟩ ⟨5, pi, pp, pat, pg, pk, pt, pn, pv⟩ := rfl
            rw [e]
            unfold unsetD
            simp only
            rw [hq]
            exact errD_err (by decide)
          clear hq
          obtain ⟨⟨z0, z1, z2⟩, zf0, zf1, zf2⟩ : (w7.cell? ⟨w.heap.size + 2, 0, none⟩ = some (.slice none 0 0) ∧ w7.cell? ⟨w.heap.size + 2, 1, none⟩ = some (.int .i64 0) ∧ w7.cell? ⟨w.heap.size + 2, 2, none⟩ = some (.int .i64 0)) ∧ w7.frozen? ⟨w.heap.size + 2, 0, none⟩ = false ∧ w7.frozen? ⟨w.heap.size + 2, 1, none⟩ = false ∧ w7.frozen? ⟨w.heap.size + 2, 2, none⟩ = false := ⟨three X7.out.2.1, (cell_of X7.out.2.1 0).2, (cell_of X7.out.2.1 1).2, (cell_of X7.out.2.1 2).2⟩
          have HZA : w7.heap[w.heap.size + 1 + 1]? = some (.cells #[.slice none 0 0, .int .i64 0, .int .i64 0] 24 (0, 0)) := X7.out.2.1
          obtain ⟨f1, f2, f3⟩ := state_fin (v := .slice none 0 0) (r := .int .i64 0) (n := .int .i64 0) HZA
          have f3 := f3 w.heap.size w (by omega) B7.out
          have O15 : Hid (Pg.OwnN (((w7.setCell ⟨w.heap.size + 1 + 1, 0, none⟩ (.slice none 0 0)).setCell ⟨w.heap.size + 1 + 1, 1, none⟩ (.int .i64 0)).setCell ⟨w.heap.size + 1 + 1, 2, none⟩ (.int .i64 0)) w.heap.size (.slice none 0 0) noD.nodes (fun _ => .slice none 0 0) (fun _ => .slice none 0 0)) := noD_pg _ _
          have F1 : Hid (_ = some (Obj.cells _ _ _)) := f1
          have F3 : Hid (Below w.heap.size w _) := f3
          clear f1 f2 f3 HZA
          go_wp2_with fail
          all_goals (
          clear z0 z1 z2 zf0 zf1 zf2
          generalize (((w7.setCell ⟨w.heap.size + 1 + 1, 0, none⟩ (.slice none 0 0)).setCell ⟨w.heap.size + 1 + 1, 1, none⟩ (.int .i64 0)).setCell ⟨w.heap.size + 1 + 1, 2, none⟩ (.int .i64 0)) = W9 at *
          obtain ⟨c0, c1, c2⟩ := three F1.out
          refine bodyPost_ret (v := .tuple #[.agg #[.slice none 0 0, .int .i64 0, .int .i64 0], .int .i64 71]) (by simp [results, Tryz.results7, go_sem, c0, c1, c2]) rfl ?_
          rw [HR.out]
          exact ⟨_, _, _, rfl, O15.out, F3.out⟩)
        | some q =>
          rw [plI_some hq]
          obtain ⟨m, hm, -⟩ := pl_some hq
          have hql : q < ns.length := (List.getElem?_eq_some_iff.1 hm).1
          have gq : decide ((q : Int) < 0) = false := decide_eq_false (by omega)
          have HQ : Hid (pl ns pi = some q ∧ ns[q]? = some m) := ⟨hq, hm⟩
          obtain ⟨b, hvr, -, -, r2, -, r4, -, -⟩ := Pg.rowN_cells O7.out.row hm
          clear hq hm
          subst hvr
          have HRE : Hid (applyD ⟨ns, root, next⟩ ⟨5, pi, pp, pat, pg, pk, pt, pn, pv⟩ = errD (unsetD ⟨ns, root, next⟩ ⟨5, pi, pp, pat, pg, pk, pt, pn, pv⟩)) := HR0.out
          clear HR0
          by_cases hg : m.tag.size = 0
          · have g2 := empty_true hg
            have HR : Hid (applyD ⟨ns, root, next⟩ ⟨5, pi, pp, pat, pg, pk, pt, pn, pv⟩ = (81, noD)) := by
              show _ = _
              rw [HRE.out]
              unfold unsetD
              simp only
              rw [HQ.out.1]
              simp only
              rw [HQ.out.2]
              simp only
              rw [if_pos hg]
              exact errD_err (by decide)
            obtain ⟨⟨z0, z1, z2⟩, zf0, zf1, zf2⟩ : (w7.cell? ⟨w.heap.size + 2, 0, none⟩ = some (.slice none 0 0) ∧ w7.cell? ⟨w.heap.size + 2, 1, none⟩ = some (.int .i64 0) ∧ w7.cell? ⟨w.heap.size + 2, 2, none⟩ = some (.int .i64 0)) ∧ w7.frozen? ⟨w.heap.size + 2, 0, none⟩ = false ∧ w7.frozen? ⟨w.heap.size + 2, 1, none⟩ = false ∧ w7.frozen? ⟨w.heap.size + 2, 2, none⟩ = false := ⟨three X7.out.2.1, (cell_of X7.out.2.1 0).2, (cell_of X7.out.2.1 1).2, (cell_of X7.out.2.1 2).2⟩
            have HZA : w7.heap[w.heap.size + 1 + 1]? = some (.cells #[.slice none 0 0, .int .i64 0, .int .i64 0] 24 (0, 0)) := X7.out.2.1
            obtain ⟨f1, f2, f3⟩ := state_fin (v := .slice none 0 0) (r := .int .i64 0) (n := .int .i64 0) HZA
            have f3 := f3 w.heap.size w (by omega) B7.out
            have O15 : Hid (Pg.OwnN (((w7.setCell ⟨w.heap.size + 1 + 1, 0, none⟩ (.slice none 0 0)).setCell ⟨w.heap.size + 1 + 1, 1, none⟩ (.int .i64 0)).setCell ⟨w.heap.size + 1 + 1, 2, none⟩ (.int .i64 0)) w.heap.size (.slice none 0 0) noD.nodes (fun _ => .slice none 0 0) (fun _ => .slice none 0 0)) := noD_pg _ _
            have F1 : Hid (_ = some (Obj.cells _ _ _)) := f1
            have F3 : Hid (Below w.heap.size w _) := f3
            clear f1 f2 f3 HZA
            go_wp2_with fail
            all_goals (
            clear z0 z1 z2 zf0 zf1 zf2
            generalize (((w7.setCell ⟨w.heap.size + 1 + 1, 0, none⟩ (.slice none 0 0)).setCell ⟨w.heap.size + 1 + 1, 1, none⟩ (.int .i64 0)).setCell ⟨w.heap.size + 1 + 1, 2, none⟩ (.int .i64 0)) = W9 at *
            obtain ⟨c0, c1, c2⟩ := three F1.out
            refine bodyPost_ret (v := .tuple #[.agg #[.slice none 0 0, .int .i64 0, .int .i64 0], .int .i64 81]) (by simp [results, Tryz.results7, go_sem, c0, c1, c2]) rfl ?_
            rw [HR.out]
            exact ⟨_, _, _, rfl, O15.out, F3.out⟩)
          have g2 := empty_false hg
          have HC := rattr_any ⟨ns, root, next⟩ ⟨5, pi, pp, pat, pg, pk, pt, pn, pv⟩ w4.heap.size w7 (.slice (some ⟨b, 0, none⟩) ns.length vc) ab kb O7.out S7.out HP.out hn hr (by simp only; omega) q m HQ.out.2
          generalize hrr : attrP ⟨ns, root, next⟩ q m ⟨5, pi, pp, pat, pg, pk, pt, pn, pv⟩ = r at HC
          have HRR : Hid (applyD ⟨ns, root, next⟩ ⟨5, pi, pp, pat, pg, pk, pt, pn, pv⟩ = r) := by show _ = _; rw [HRE.out, ← hrr]; exact (attr_unset HD.out HQ.out.1 HQ.out.2 hg rfl).symm
          clear hrr
          go_wp2_with fail
          refine HC.mono ?_
          rintro e w8 ⟨v8, ab8, kb8, rfl, hO8, hb8⟩
          obtain ⟨va8, vc8, rfl⟩ := hO8.shape
          have hs4 := S4.out
          have Z8 : Hid (w8.heap[w.heap.size + 2]? = some (.cells #[.slice none 0 0, .int .i64 0, .int .i64 0] 24 (0, 0))) := (hb8.block _ (by omega)).trans X7.out.2.1
          have B8 : Hid (Below w.heap.size w w8) := ⟨hb8.os.trans B7.out.os, hb8.tape.trans B7.out.tape, hb8.output.trans B7.out.output, Nat.le_trans B7.out.size hb8.size, fun j hj => (hb8.block j (by omega)).trans (B7.out.block j hj)⟩
          clear HC hb8 t0 t1 t2 n0 n1 n2 n3 n4 n5 n6 n7 n8 r2 r4
          obtain ⟨⟨z0, z1, z2⟩, zf0, zf1, zf2⟩ : (w8.cell? ⟨w.heap.size + 2, 0, none⟩ = some (.slice none 0 0) ∧ w8.cell? ⟨w.heap.size + 2, 1, none⟩ = some (.int .i64 0) ∧ w8.cell? ⟨w.heap.size + 2, 2, none⟩ = some (.int .i64 0)) ∧ w8.frozen? ⟨w.heap.size + 2, 0, none⟩ = false ∧ w8.frozen? ⟨w.heap.size + 2, 1, none⟩ = false ∧ w8.frozen? ⟨w.heap.size + 2, 2, none⟩ = false := ⟨three Z8.out, (cell_of Z8.out 0).2, (cell_of Z8.out 1).2, (cell_of Z8.out 2).2⟩
          have HZA : w8.heap[w.heap.size + 1 + 1]? = some (.cells #[.slice none 0 0, .int .i64 0, .int .i64 0] 24 (0, 0)) := Z8.out
          obtain ⟨f1, f2, f3⟩ := state_fin (v := .slice va8 r.2.nodes.length vc8) (r := .int .i64 r.2.root) (n := .int .i64 r.2.next) HZA
          have f3 := f3 w.heap.size w (by omega) B8.out
          have O15 : Hid (Pg.OwnN (((w8.setCell ⟨w.heap.size + 1 + 1, 0, none⟩ (.slice va8 r.2.nodes.length vc8)).setCell ⟨w.heap.size + 1 + 1, 1, none⟩ (.int .i64 r.2.root)).setCell ⟨w.heap.size + 1 + 1, 2, none⟩ (.int .i64 r.2.next)) w.heap.size (.slice va8 r.2.nodes.length vc8) r.2.nodes ab8 kb8) := (hO8.same fun b hb => f2 b (hO8.notState HZA hb)).less (by omega)
          have F1 : Hid (_ = some (Obj.cells _ _ _)) := f1
          have F3 : Hid (Below w.heap.size w _) := f3
          clear f1 f2 f3 HZA
          go_wp2_with fail
          all_goals (
          clear z0 z1 z2 zf0 zf1 zf2
          generalize (((w8.setCell ⟨w.heap.size + 1 + 1, 0, none⟩ (.slice va8 r.2.nodes.length vc8)).setCell ⟨w.heap.size + 1 + 1, 1, none⟩ (.int .i64 r.2.root)).setCell ⟨w.heap.size + 1 + 1, 2, none⟩ (.int .i64 r.2.next)) = W9 at *
          obtain ⟨c0, c1, c2⟩ := three F1.out
          refine bodyPost_ret (v := .tuple #[.agg #[.slice va8 r.2.nodes.length vc8, .int .i64 r.2.root, .int .i64 r.2.next], .int .i64 r.1]) (by simp [results, Tryz.results7, go_sem, c0, c1, c2]) rfl ?_
          rw [HRR.out]
          exact ⟨_, _, _, rfl, O15.out, F3.out⟩)
      · skip
        go_wp2_with fail
        refine HPL.mono ?_
        rintro e w7 ⟨rfl, hb7⟩
        have X7 : Hid (w7.heap[w.heap.size + 1]? = some (.cells #[.int .i64 6, .int .i64 pi, .int .i64 pp, .int .i64 pat, .string pg, .string pk, .string pt, .string pn, .string pv] 26 (0, 0)) ∧ w7.heap[w.heap.size + 2]? = some (.cells #[.slice none 0 0, .int .i64 0, .int .i64 0] 24 (0, 0)) ∧ w7.heap[T]? = some (.cells #[.slice va ns.length vc, .int .i64 root, .int .i64 next] 24 (0, 0))) := ⟨(hb7.block _ (lt_of_block X6.out.1)).trans X6.out.1, (hb7.block _ (lt_of_block X6.out.2.1)).trans X6.out.2.1, (hb7.block _ (lt_of_block X6.out.2.2)).trans X6.out.2.2⟩
        have B7 : Hid (Below w.heap.size w w7) := nxt B6.out hb7
        have O7 : Hid (Pg.OwnN w7 w4.heap.size (.slice va ns.length vc) ns ab kb) := O6.out.below hb7
        have S7 : Hid (w4.heap.size ≤ w7.heap.size) := Nat.le_trans S6.out hb7.size
        clear hb7 HPL X6 O6 B6 S6 t0 t1 t2 n0 n1 n2 n3 n4 n5 n6 n7 n8
        obtain ⟨t0, t1, t2⟩ := three X7.out.2.2
        obtain ⟨n0, n1, n2, n3, n4, n5, n6, n7, n8⟩ := nine X7.out.1
        cases hq : pl ns pi with
        | none =>
          rw [plI_none hq]
          have HR : Hid (applyD ⟨ns, root, next⟩ ⟨6, pi, pp, pat, pg, pk, pt, pn, pv⟩ = (71, noD)) := by
            show _ = _
            rw [HR0.out]
            have e : takeD ⟨ns, root, next⟩ ⟨6, pi, pp, pat, pg, pk, pt, pn, pv⟩ = textD ⟨ns, root, next⟩ ⟨6, pi, pp, pat, pg, pk, pt, pn, pv⟩ := rfl
            rw [e]
            unfold textD
            simp only
            rw [hq]
            exact errD_err (by decide)
          clear hq
          obtain ⟨⟨z0, z1, z2⟩, zf0, zf1, zf2⟩ : (w7.cell? ⟨w.heap.size + 2, 0, none⟩ = some (.slice none 0 0) ∧ w7.cell? ⟨w.heap.size + 2, 1, none⟩ = some (.int .i64 0) ∧ w7.cell? ⟨w.heap.size + 2, 2, none⟩ = some (.int .i64 0)) ∧ w7.frozen? ⟨w.heap.size + 2, 0, none⟩ = false ∧ w7.frozen? ⟨w.heap.size + 2, 1, none⟩ = false ∧ w7.frozen? ⟨w.heap.size + 2, 2, none⟩ = false := ⟨three X7.out.2.1, (cell_of X7.out.2.1 0).2, (cell_of X7.out.2.1 1).2, (cell_of X7.out.2.1 2).2⟩
          have HZA : w7.heap[w.heap.size + 1 + 1]? = some (.cells #[.slice none 0 0, .int .i64 0, .int .i64 0] 24 (0, 0)) := X7.out.2.1
          obtain ⟨f1, f2, f3⟩ := state_fin (v := .slice none 0 0) (r := .int .i64 0) (n := .int .i64 0) HZA
          have f3 := f3 w.heap.size w (by omega) B7.out
          have O15 : Hid (Pg.OwnN (((w7.setCell ⟨w.heap.size + 1 + 1, 0, none⟩ (.slice none 0 0)).setCell ⟨w.heap.size + 1 + 1, 1, none⟩ (.int .i64 0)).setCell ⟨w.heap.size + 1 + 1, 2, none⟩ (.int .i64 0)) w.heap.size (.slice none 0 0) noD.nodes (fun _ => .slice none 0 0) (fun _ => .slice none 0 0)) := noD_pg _ _
          have F1 : Hid (_ = some (Obj.cells _ _ _)) := f1
          have F3 : Hid (Below w.heap.size w _) := f3
          clear f1 f2 f3 HZA
          go_wp2_with fail
          all_goals (
          clear z0 z1 z2 zf0 zf1 zf2
          generalize (((w7.setCell ⟨w.heap.size + 1 + 1, 0, none⟩ (.slice none 0 0)).setCell ⟨w.heap.size + 1 + 1, 1, none⟩ (.int .i64 0)).setCell ⟨w.heap.size + 1 + 1, 2, none⟩ (.int .i64 0)) = W9 at *
          obtain ⟨c0, c1, c2⟩ := three F1.out
          refine bodyPost_ret (v := .tuple #[.agg #[.slice none 0 0, .int .i64 0, .int .i64 0], .int .i64 71]) (by simp [results, Tryz.results7, go_sem, c0, c1, c2]) rfl ?_
          rw [HR.out]
          exact ⟨_, _, _, rfl, O15.out, F3.out⟩)
        | some q =>
          rw [plI_some hq]
          obtain ⟨m, hm, -⟩ := pl_some hq
          have hql : q < ns.length := (List.getElem?_eq_some_iff.1 hm).1
          have gq : decide ((q : Int) < 0) = false := decide_eq_false (by omega)
          have HQ : Hid (pl ns pi = some q ∧ ns[q]? = some m) := ⟨hq, hm⟩
          obtain ⟨b, hvr, -, -, r2, -, r4, -, -⟩ := Pg.rowN_cells O7.out.row hm
          clear hq hm
          subst hvr
          have HRE : Hid (applyD ⟨ns, root, next⟩ ⟨6, pi, pp, pat, pg, pk, pt, pn, pv⟩ = errD (textD ⟨ns, root, next⟩ ⟨6, pi, pp, pat, pg, pk, pt, pn, pv⟩)) := HR0.out
          clear HR0
          by_cases hg : m.tag.size = 0
          · have g2 := empty_true hg
            by_cases hl : 128 < pt.size
            · have g6 : decide ((128 : Int) < (pt.size : Int)) = true := decide_eq_true (by omega)
              have g6' : decide (128 < pt.size) = true := decide_eq_true hl
              have HR : Hid (applyD ⟨ns, root, next⟩ ⟨6, pi, pp, pat, pg, pk, pt, pn, pv⟩ = (5, noD)) := by
                show _ = _
                rw [HRE.out]
                unfold textD
                simp only
                rw [HQ.out.1]
                simp only
                rw [HQ.out.2]
                simp only
                rw [if_pos hg, if_pos hl]
                exact errD_err (by decide)
              obtain ⟨⟨z0, z1, z2⟩, zf0, zf1, zf2⟩ : (w7.cell? ⟨w.heap.size + 2, 0, none⟩ = some (.slice none 0 0) ∧ w7.cell? ⟨w.heap.size + 2, 1, none⟩ = some (.int .i64 0) ∧ w7.cell? ⟨w.heap.size + 2, 2, none⟩ = some (.int .i64 0)) ∧ w7.frozen? ⟨w.heap.size + 2, 0, none⟩ = false ∧ w7.frozen? ⟨w.heap.size + 2, 1, none⟩ = false ∧ w7.frozen? ⟨w.heap.size + 2, 2, none⟩ = false := ⟨three X7.out.2.1, (cell_of X7.out.2.1 0).2, (cell_of X7.out.2.1 1).2, (cell_of X7.out.2.1 2).2⟩
              have HZA : w7.heap[w.heap.size + 1 + 1]? = some (.cells #[.slice none 0 0, .int .i64 0, .int .i64 0] 24 (0, 0)) := X7.out.2.1
              obtain ⟨f1, f2, f3⟩ := state_fin (v := .slice none 0 0) (r := .int .i64 0) (n := .int .i64 0) HZA
              have f3 := f3 w.heap.size w (by omega) B7.out
              have O15 : Hid (Pg.OwnN (((w7.setCell ⟨w.heap.size + 1 + 1, 0, none⟩ (.slice none 0 0)).setCell ⟨w.heap.size + 1 + 1, 1, none⟩ (.int .i64 0)).setCell ⟨w.heap.size + 1 + 1, 2, none⟩ (.int .i64 0)) w.heap.size (.slice none 0 0) noD.nodes (fun _ => .slice none 0 0) (fun _ => .slice none 0 0)) := noD_pg _ _
              have F1 : Hid (_ = some (Obj.cells _ _ _)) := f1
              have F3 : Hid (Below w.heap.size w _) := f3
              clear f1 f2 f3 HZA
              go_wp2_with fail
              all_goals (
              clear z0 z1 z2 zf0 zf1 zf2
              generalize (((w7.setCell ⟨w.heap.size + 1 + 1, 0, none⟩ (.slice none 0 0)).setCell ⟨w.heap.size + 1 + 1, 1, none⟩ (.int .i64 0)).setCell ⟨w.heap.size + 1 + 1, 2, none⟩ (.int .i64 0)) = W9 at *
              obtain ⟨c0, c1, c2⟩ := three F1.out
              refine bodyPost_ret (v := .tuple #[.agg #[.slice none 0 0, .int .i64 0, .int .i64 0], .int .i64 5]) (by simp [results, Tryz.results7, go_sem, c0, c1, c2]) rfl ?_
              rw [HR.out]
              exact ⟨_, _, _, rfl, O15.out, F3.out⟩)
            have g6 : decide ((128 : Int) < (pt.size : Int)) = false := decide_eq_false (by omega)
            have g6' : decide (128 < pt.size) = false := decide_eq_false hl
            have HRR : Hid (applyD ⟨ns, root, next⟩ ⟨6, pi, pp, pat, pg, pk, pt, pn, pv⟩ = (0, ⟨ns.set q (m.withTxt pt), root, next⟩)) := by
              show _ = _
              rw [HRE.out]
              unfold textD
              simp only
              rw [HQ.out.1]
              simp only
              rw [HQ.out.2]
              simp only
              rw [if_pos hg, if_neg hl]
              exact errD_zero
            have fz : w7.frozen? ⟨b, q * 7 + 4, none⟩ = false := own_frozen O7.out.row _
            have hs4 := S4.out
            have hb4 : w4.heap.size ≤ b := (O7.out.foot (Or.inl rfl)).1
            have OS := O7.out.setT HQ.out.2 (x := pt) HP.out.txt
            have XS : Hid ((w7.setCell ⟨b, q * 7 + 4, none⟩ (.string pt)).heap[T]? = some (.cells #[.slice (some ⟨b, 0, none⟩) ns.length vc, .int .i64 root, .int .i64 next] 24 (0, 0)) ∧ (w7.setCell ⟨b, q * 7 + 4, none⟩ (.string pt)).heap[w.heap.size + 2]? = some (.cells #[.slice none 0 0, .int .i64 0, .int .i64 0] 24 (0, 0))) := ⟨(heap_set_other _ (O7.out.notState X7.out.2.2 (Or.inl rfl)).symm).trans X7.out.2.2, (heap_set_other _ (by omega)).trans X7.out.2.1⟩
            have B8 : Below w.heap.size w (w7.setCell ⟨b, q * 7 + 4, none⟩ (.string pt)) := ⟨B7.out.os, B7.out.tape, B7.out.output, by have := B7.out.size; simpa [World.setCell] using this, fun j hj => (heap_set_other _ (by omega)).trans (B7.out.block j hj)⟩
            obtain ⟨s0, s1, s2⟩ := three XS.out.1
            obtain ⟨⟨z0, z1, z2⟩, zf0, zf1, zf2⟩ : ((w7.setCell ⟨b, q * 7 + 4, none⟩ (.string pt)).cell? ⟨w.heap.size + 2, 0, none⟩ = some (.slice none 0 0) ∧ (w7.setCell ⟨b, q * 7 + 4, none⟩ (.string pt)).cell? ⟨w.heap.size + 2, 1, none⟩ = some (.int .i64 0) ∧ (w7.setCell ⟨b, q * 7 + 4, none⟩ (.string pt)).cell? ⟨w.heap.size + 2, 2, none⟩ = some (.int .i64 0)) ∧ (w7.setCell ⟨b, q * 7 + 4, none⟩ (.string pt)).frozen? ⟨w.heap.size + 2, 0, none⟩ = false ∧ (w7.setCell ⟨b, q * 7 + 4, none⟩ (.string pt)).frozen? ⟨w.heap.size + 2, 1, none⟩ = false ∧ (w7.setCell ⟨b, q * 7 + 4, none⟩ (.string pt)).frozen? ⟨w.heap.size + 2, 2, none⟩ = false := ⟨three XS.out.2, (cell_of XS.out.2 0).2, (cell_of XS.out.2 1).2, (cell_of XS.out.2 2).2⟩
            have HZA : (w7.setCell ⟨b, q * 7 + 4, none⟩ (.string pt)).heap[w.heap.size + 1 + 1]? = some (.cells #[.slice none 0 0, .int .i64 0, .int .i64 0] 24 (0, 0)) := XS.out.2
            obtain ⟨f1, f2, f3⟩ := state_fin (v := .slice (some ⟨b, 0, none⟩) ns.length vc) (r := .int .i64 root) (n := .int .i64 next) HZA
            have f3 := f3 w.heap.size w (by omega) B8
            have O15 : Hid (Pg.OwnN ((((w7.setCell ⟨b, q * 7 + 4, none⟩ (.string pt)).setCell ⟨w.heap.size + 1 + 1, 0, none⟩ (.slice (some ⟨b, 0, none⟩) ns.length vc)).setCell ⟨w.heap.size + 1 + 1, 1, none⟩ (.int .i64 root)).setCell ⟨w.heap.size + 1 + 1, 2, none⟩ (.int .i64 next)) w.heap.size (.slice (some ⟨b, 0, none⟩) ns.length vc) (ns.set q (m.withTxt pt)) ab kb) := (OS.same fun b hb => f2 b (OS.notState HZA hb)).less (by omega)
            have F1 : Hid (_ = some (Obj.cells _ _ _)) := f1
            have F3 : Hid (Below w.heap.size w _) := f3
            clear f1 f2 f3 HZA
            go_wp2_with fail
            all_goals (
            clear z0 z1 z2 zf0 zf1 zf2
            generalize ((((w7.setCell ⟨b, q * 7 + 4, none⟩ (.string pt)).setCell ⟨w.heap.size + 1 + 1, 0, none⟩ (.slice (some ⟨b, 0, none⟩) ns.length vc)).setCell ⟨w.heap.size + 1 + 1, 1, none⟩ (.int .i64 root)).setCell ⟨w.heap.size + 1 + 1, 2, none⟩ (.int .i64 next)) = W9 at *
            obtain ⟨c0, c1, c2⟩ := three F1.out
            refine bodyPost_ret (v := .tuple #[.agg #[.slice (some ⟨b, 0, none⟩) ns.length vc, .int .i64 root, .int .i64 next], .int .i64 0]) (by simp [results, Tryz.results7, go_sem, c0, c1, c2]) rfl ?_
            rw [HRR.out]
            exact ⟨_, _, _, rfl, O15.out, F3.out⟩)
          · have g2 := empty_false hg
            have HR : Hid (applyD ⟨ns, root, next⟩ ⟨6, pi, pp, pat, pg, pk, pt, pn, pv⟩ = (81, noD)) := by
              show _ = _
              rw [HRE.out]
              unfold textD
              simp only
              rw [HQ.out.1]
              simp only
              rw [HQ.out.2]
              simp only
              rw [if_neg hg]
              exact errD_err (by decide)
            obtain ⟨⟨z0, z1, z2⟩, zf0, zf1, zf2⟩ : (w7.cell? ⟨w.heap.size + 2, 0, none⟩ = some (.slice none 0 0) ∧ w7.cell? ⟨w.heap.size + 2, 1, none⟩ = some (.int .i64 0) ∧ w7.cell? ⟨w.heap.size + 2, 2, none⟩ = some (.int .i64 0)) ∧ w7.frozen? ⟨w.heap.size + 2, 0, none⟩ = false ∧ w7.frozen? ⟨w.heap.size + 2, 1, none⟩ = false ∧ w7.frozen? ⟨w.heap.size + 2, 2, none⟩ = false := ⟨three X7.out.2.1, (cell_of X7.out.2.1 0).2, (cell_of X7.out.2.1 1).2, (cell_of X7.out.2.1 2).2⟩
            have HZA : w7.heap[w.heap.size + 1 + 1]? = some (.cells #[.slice none 0 0, .int .i64 0, .int .i64 0] 24 (0, 0)) := X7.out.2.1
            obtain ⟨f1, f2, f3⟩ := state_fin (v := .slice none 0 0) (r := .int .i64 0) (n := .int .i64 0) HZA
            have f3 := f3 w.heap.size w (by omega) B7.out
            have O15 : Hid (Pg.OwnN (((w7.setCell ⟨w.heap.size + 1 + 1, 0, none⟩ (.slice none 0 0)).setCell ⟨w.heap.size + 1 + 1, 1, none⟩ (.int .i64 0)).setCell ⟨w.heap.size + 1 + 1, 2, none⟩ (.int .i64 0)) w.heap.size (.slice none 0 0) noD.nodes (fun _ => .slice none 0 0) (fun _ => .slice none 0 0)) := noD_pg _ _
            have F1 : Hid (_ = some (Obj.cells _ _ _)) := f1
            have F3 : Hid (Below w.heap.size w _) := f3
            clear f1 f2 f3 HZA
            go_wp2_with fail
            all_goals (
            clear z0 z1 z2 zf0 zf1 zf2
            generalize (((w7.setCell ⟨w.heap.size + 1 + 1, 0, none⟩ (.slice none 0 0)).setCell ⟨w.heap.size + 1 + 1, 1, none⟩ (.int .i64 0)).setCell ⟨w.heap.size + 1 + 1, 2, none⟩ (.int .i64 0)) = W9 at *
            obtain ⟨c0, c1, c2⟩ := three F1.out
            refine bodyPost_ret (v := .tuple #[.agg #[.slice none 0 0, .int .i64 0, .int .i64 0], .int .i64 81]) (by simp [results, Tryz.results7, go_sem, c0, c1, c2]) rfl ?_
            rw [HR.out]
            exact ⟨_, _, _, rfl, O15.out, F3.out⟩)
    · have g3 : (pw == 3) = false := beq_eq_false_iff_ne.2 (by omega)
      have g4 : (pw == 4) = false := beq_eq_false_iff_ne.2 (by omega)
      have g5 : (pw == 5) = false := beq_eq_false_iff_ne.2 (by omega)
      have g6 : (pw == 6) = false := beq_eq_false_iff_ne.2 (by omega)
      have HR : Hid (applyD ⟨ns, root, next⟩ ⟨pw, pi, pp, pat, pg, pk, pt, pn, pv⟩ = (22, noD)) := by
        show _ = _
        rw [HR0.out]
        unfold takeD
        simp only
        rw [if_neg h1, if_neg h2, if_neg (by omega), if_neg (by omega), if_neg (by omega), if_neg (by omega), if_neg h7]
        exact errD_err (by decide)
      obtain ⟨⟨z0, z1, z2⟩, zf0, zf1, zf2⟩ : (W6.cell? ⟨w.heap.size + 2, 0, none⟩ = some (.slice none 0 0) ∧ W6.cell? ⟨w.heap.size + 2, 1, none⟩ = some (.int .i64 0) ∧ W6.cell? ⟨w.heap.size + 2, 2, none⟩ = some (.int .i64 0)) ∧ W6.frozen? ⟨w.heap.size + 2, 0, none⟩ = false ∧ W6.frozen? ⟨w.heap.size + 2, 1, none⟩ = false ∧ W6.frozen? ⟨w.heap.size + 2, 2, none⟩ = false := ⟨three X6.out.2.1, (cell_of X6.out.2.1 0).2, (cell_of X6.out.2.1 1).2, (cell_of X6.out.2.1 2).2⟩
      have HZA : W6.heap[w.heap.size + 1 + 1]? = some (.cells #[.slice none 0 0, .int .i64 0, .int .i64 0] 24 (0, 0)) := X6.out.2.1
      obtain ⟨f1, f2, f3⟩ := state_fin (v := .slice none 0 0) (r := .int .i64 0) (n := .int .i64 0) HZA
      have f3 := f3 w.heap.size w (by omega) B6.out
      have O15 : Hid (Pg.OwnN (((W6.setCell ⟨w.heap.size + 1 + 1, 0, none⟩ (.slice none 0 0)).setCell ⟨w.heap.size + 1 + 1, 1, none⟩ (.int .i64 0)).setCell ⟨w.heap.size + 1 + 1, 2, none⟩ (.int .i64 0)) w.heap.size (.slice none 0 0) noD.nodes (fun _ => .slice none 0 0) (fun _ => .slice none 0 0)) := noD_pg _ _
      have F1 : Hid (_ = some (Obj.cells _ _ _)) := f1
      have F3 : Hid (Below w.heap.size w _) := f3
      clear f1 f2 f3 HZA
      go_wp2_with fail
      all_goals (
      clear z0 z1 z2 zf0 zf1 zf2
      generalize (((W6.setCell ⟨w.heap.size + 1 + 1, 0, none⟩ (.slice none 0 0)).setCell ⟨w.heap.size + 1 + 1, 1, none⟩ (.int .i64 0)).setCell ⟨w.heap.size + 1 + 1, 2, none⟩ (.int .i64 0)) = W9 at *
      obtain ⟨c0, c1, c2⟩ := three F1.out
      refine bodyPost_ret (v := .tuple #[.agg #[.slice none 0 0, .int .i64 0, .int .i64 0], .int .i64 22]) (by simp [results, Tryz.results7, go_sem, c0, c1, c2]) rfl ?_
      rw [HR.out]
      exact ⟨_, _, _, rfl, O15.out, F3.out⟩)
end Go.Proofs.YtcdnakcojanaeabGreat
