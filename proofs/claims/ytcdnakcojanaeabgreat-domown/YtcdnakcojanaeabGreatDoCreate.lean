/-
  The program's create (what a patch 1 does).
-/
import Derived.Test.YtcdnakcojanaeabGreatDoStep
namespace Go.Proofs.YtcdnakcojanaeabGreat
open Go.ChangeShapes Go.WideShapes Go.ChangeAt Go.RowKit Go.Deep
open Do

theorem nine {w : World} {B : Nat} {c0 c1 c2 c3 c4 c5 c6 c7 c8 : Value} {t : TypeId} (h : w.heap[B]? = some (.cells #[c0, c1, c2, c3, c4, c5, c6, c7, c8] t (0, 0))) :
    w.cell? ⟨B, 0, none⟩ = some c0 ∧ w.cell? ⟨B, 1, none⟩ = some c1 ∧ w.cell? ⟨B, 2, none⟩ = some c2 ∧ w.cell? ⟨B, 3, none⟩ = some c3 ∧ w.cell? ⟨B, 4, none⟩ = some c4 ∧ w.cell? ⟨B, 5, none⟩ = some c5 ∧ w.cell? ⟨B, 6, none⟩ = some c6 ∧ w.cell? ⟨B, 7, none⟩ = some c7 ∧ w.cell? ⟨B, 8, none⟩ = some c8 :=
  ⟨(cell_of h 0).1, (cell_of h 1).1, (cell_of h 2).1, (cell_of h 3).1, (cell_of h 4).1, (cell_of h 5).1, (cell_of h 6).1, (cell_of h 7).1, (cell_of h 8).1⟩

/-- A patch's post: the error, the display behind it. -/
def PtPost (w w' : World) (B P : Nat) (e : Ending) (r : Int × Ds) : Prop := e = .returned (.int .i64 r.1) ∧ DsAt w' B P r.2 ∧ Below B w w'

set_option maxRecDepth 100000 in
set_option maxHeartbeats 800000 in
theorem create_any (s : Ds) (p : Pt) (B P : Nat) (w : World) (hs : DsAt w B P s) (hp : PtOk p) (hB : B ≤ w.heap.size) (hn : s.nodes.length ≤ 1024) (hx : 1 ≤ s.next ∧ s.next ≤ 2147483647) :
    Calls Tryz.prog 39 #[.pointer (some ⟨P, 0, none⟩), mkP p] w fun e w' => PtPost w w' B P e (createD s p) := by
  obtain ⟨v, ab, kb, hP, hO, hBP⟩ := hs
  obtain ⟨va, vc, hvs⟩ := hO.shape
  subst hvs
  obtain ⟨hf1, hf2⟩ := newNd_fit hp
  have HO : Hid (OwnN w B (.slice va s.nodes.length vc) s.nodes ab kb) := hO
  have HP : Hid (w.heap[P]? = some (.cells #[.slice va s.nodes.length vc, .int .i64 s.root, .int .i64 s.next] 30 (0, 0))) := hP
  have HCA : Hid (∀ W, Calls Tryz.prog 30 #[mkN p.id 0 p.tag p.key p.txt none 0 0 none 0 0] W fun e w' => e = .returned (.bool (aloneB (newNd p))) ∧ Below W.heap.size W w') := fun W => alone_any (newNd p) none 0 none 0 W hf1 (fun i s hi => by simp [newNd] at hi)
  have HF2 : Hid (NdFit (newNd p)) := hf2
  have HBP : Hid (B ≤ P) := hBP
  have hPl : P < w.heap.size := lt_of_block hP
  obtain ⟨ns, root, next⟩ := s
  obtain ⟨pw, pi, pp, pat, pg, pk, pt, pn, pv⟩ := p
  simp only at *
  clear hP hO hf1 hf2 hp hBP
  have KP : Hid (∀ W, Below w.heap.size w W → W.heap[P]? = some (.cells #[.slice va ns.length vc, .int .i64 root, .int .i64 next] 30 (0, 0))) := fun W hb => (hb.block _ hPl).trans HP.out
  have HSTAY : Hid (∀ W, Below w.heap.size w W → DsAt W B P ⟨ns, root, next⟩ ∧ Below B w W) := fun W hb => ⟨⟨_, ab, kb, KP.out W hb, HO.out.below hb, HBP.out⟩, hb.mono hB⟩
  obtain ⟨K2, hK2⟩ : ∃ W : World, W = (w.alloc (.cells #[.int .i64 pw, .int .i64 pi, .int .i64 pp, .int .i64 pat, .string pg, .string pk, .string pt, .string pn, .string pv] 35)).alloc (.cells #[.int .i64 pi, .int .i64 0, .string pg, .string pk, .string pt, .slice none 0 0, .slice none 0 0] 41) := ⟨_, rfl⟩
  have B2 : Hid (Below w.heap.size w K2) := by show Below _ _ _; rw [hK2]; exact two_new _ _ _
  have X1 : Hid (K2.heap[w.heap.size]? = some (.cells #[.int .i64 pw, .int .i64 pi, .int .i64 pp, .int .i64 pat, .string pg, .string pk, .string pt, .string pn, .string pv] 35 (0, 0))) := by show _ = _; rw [hK2]; exact ((below_one _ _).block _ (by simp)).trans (heap_alloc_new _ _)
  have X2 : Hid (K2.heap[w.heap.size + 1]? = some (.cells #[.int .i64 pi, .int .i64 0, .string pg, .string pk, .string pt, .slice none 0 0, .slice none 0 0] 41 (0, 0))) := by show _ = _; rw [hK2]; exact heap_new2 _ _ _
  go_enter Tryz.func39, Tryz.ntmps39
  go_wp2_with fail
  rw [← hK2]
  clear hK2
  obtain ⟨-, y1, -, -, -, -, -, -, -⟩ := nine X1.out
  obtain ⟨n0, n1, n2, n3, n4, n5, n6⟩ := seven X2.out
  obtain ⟨p0, p1, p2⟩ := three (KP.out _ B2.out)
  by_cases hid : pi = next
  · subst hid
    have g1 : (pi != pi) = false := by simp
    go_big_quiet (fail)
    have B3 : Hid (Below w.heap.size w (K2.drewN nq)) := nxt B2.out (Below_drewN _ _ _)
    have X3 : Hid ((K2.drewN nq).heap[w.heap.size + 1]? = _) := X2.out
    clear y1 n0 n1 n2 n3 n4 n5 n6 p0 p1 p2
    generalize K2.drewN nq = W3 at *
    obtain ⟨n0, n1, n2, n3, n4, n5, n6⟩ := seven X3.out
    go_wp2_with fail
    refine (HCA.out W3).mono ?_
    rintro e w4 ⟨rfl, hb4⟩
    have B4 : Hid (Below w.heap.size w w4) := nxt B3.out hb4
    have X4 : Hid (w4.heap[w.heap.size + 1]? = _) := (hb4.block _ (lt_of_block X3.out)).trans X3.out
    clear n0 n1 n2 n3 n4 n5 n6 hb4
    obtain ⟨n0, n1, n2, n3, n4, n5, n6⟩ := seven X4.out
    obtain ⟨p0, p1, p2⟩ := three (KP.out _ B4.out)
    cases hal : aloneB (newNd ⟨pw, pi, pp, pat, pg, pk, pt, pn, pv⟩) with
    | false =>
      have HR : Hid (createD ⟨ns, root, pi⟩ ⟨pw, pi, pp, pat, pg, pk, pt, pn, pv⟩ = (9, ⟨ns, root, pi⟩)) := by show _ = _; unfold createD; simp only; rw [if_neg (by simp), if_pos hal]
      clear hal
      go_wp2_with fail
      go_ret
      rw [HR.out]
      exact ⟨rfl, HSTAY.out _ B4.out⟩
    | true =>
      by_cases h1 : ns.length = 1024
      · have HR : Hid (createD ⟨ns, root, pi⟩ ⟨pw, pi, pp, pat, pg, pk, pt, pn, pv⟩ = (51, ⟨ns, root, pi⟩)) := by show _ = _; unfold createD; simp only; rw [if_neg (by simp), hal, if_neg (by simp), if_pos (Or.inl h1)]
        have g2 : ((ns.length : Int) == 1024) = true := by simp; omega
        clear hal
        go_wp2_with fail
        go_ret
        rw [HR.out]
        exact ⟨rfl, HSTAY.out _ B4.out⟩
      · have g2 : ((ns.length : Int) == 1024) = false := by simp; omega
        by_cases h2 : pi = 2147483647
        · have HR : Hid (createD ⟨ns, root, pi⟩ ⟨pw, pi, pp, pat, pg, pk, pt, pn, pv⟩ = (51, ⟨ns, root, pi⟩)) := by show _ = _; unfold createD; simp only; rw [if_neg (by simp), hal, if_neg (by simp), if_pos (Or.inr h2)]
          have g3 : (pi == 2147483647) = true := by simpa using h2
          clear hal
          go_wp2_with fail
          go_ret
          rw [HR.out]
          exact ⟨rfl, HSTAY.out _ B4.out⟩
        · have HR : Hid (createD ⟨ns, root, pi⟩ ⟨pw, pi, pp, pat, pg, pk, pt, pn, pv⟩ = (0, ⟨ns ++ [newNd ⟨pw, pi, pp, pat, pg, pk, pt, pn, pv⟩], root, pi + 1⟩)) := by show _ = _; unfold createD; simp only; rw [if_neg (by simp), hal, if_neg (by simp), if_neg (by omega)]
          have g3 : (pi == 2147483647) = false := by simpa using h2
          have C4 : Hid (OwnN w4 B (.slice va ns.length vc) ns ab kb) := HO.out.below B4.out
          clear hal
          go_wp2_with fail
          have B5 : Below w4.heap.size w4 (w4.alloc (.cells #[.int .i64 pi, .int .i64 0, .string pg, .string pk, .string pt, .slice none 0 0, .slice none 0 0] 41)).drew := (below_one w4 _).drew
          have HROW : Hid ((w4.alloc (.cells #[.int .i64 pi, .int .i64 0, .string pg, .string pk, .string pt, .slice none 0 0, .slice none 0 0] 41)).drew.ownsRow B 41 7 (.slice va ns.length vc) ns.length (rowN ns ab kb)) := (C4.out.below B5).row
          have HNEW : Hid (∀ j u, (cellsN (newNd ⟨pw, pi, pp, pat, pg, pk, pt, pn, pv⟩) (.slice none 0 0) (.slice none 0 0))[j]? = some u → (w4.alloc (.cells #[.int .i64 pi, .int .i64 0, .string pg, .string pk, .string pt, .slice none 0 0, .slice none 0 0] 41)).drew.cell? ((⟨w4.heap.size, 0, none⟩ : Addr).add j) = some u) := fun j u hj => newCells w4 _ _ j u (by rw [← Array.getElem?_toList]; exact hj)
          have HLEN : Hid ((ns.length + 1) * 112 ≤ 140737488355328 ∧ B ≤ (w4.alloc (.cells #[.int .i64 pi, .int .i64 0, .string pg, .string pk, .string pt, .slice none 0 0, .slice none 0 0] 41)).drew.heap.size) := ⟨by omega, by have := B4.out.size; have := B5.size; omega⟩
          have HP5 : Hid ((w4.alloc (.cells #[.int .i64 pi, .int .i64 0, .string pg, .string pk, .string pt, .slice none 0 0, .slice none 0 0] 41)).drew.heap[P]? = _) := KP.out _ (nxt B4.out B5)
          have HNP : Hid (some P ≠ (Value.slice va ns.length vc).ownBlock) := fun e => (C4.out.below B5).notState HP5.out (Or.inl e.symm) rfl
          have HPL : Hid (P < (w4.alloc (.cells #[.int .i64 pi, .int .i64 0, .string pg, .string pk, .string pt, .slice none 0 0, .slice none 0 0] 41)).drew.heap.size) := lt_of_block HP5.out
          obtain ⟨dp0, -, -⟩ := three (show w4.drew.heap[P]? = some (.cells #[.slice va ns.length vc, .int .i64 root, .int .i64 pi] 30 (0, 0)) from KP.out w4.drew B4.out.drew)
          obtain ⟨ep0, -, -⟩ := three HP5.out
          have ep1 : (w4.alloc (.cells #[.int .i64 pi, .int .i64 0, .string pg, .string pk, .string pt, .slice none 0 0, .slice none 0 0] 41)).cell? ⟨P, 0, none⟩ = some (.slice va ns.length vc) := ep0
          have dp1 : w4.cell? ⟨P, 0, none⟩ = some (.slice va ns.length vc) := dp0
          obtain ⟨d0, d1, d2, d3, d4, d5, d6⟩ := seven (show w4.drew.heap[w.heap.size + 1]? = some (.cells #[.int .i64 pi, .int .i64 0, .string pg, .string pk, .string pt, .slice none 0 0, .slice none 0 0] 41 (0, 0)) from X4.out)
          clear n0 n1 n2 n3 n4 n5 n6 p0 p1 p2
          go_region_law (refine step_pushN rfl _ _ rfl B (.slice va ns.length vc) ns.length (rowN ns ab kb) rfl HROW.out (newNd ⟨pw, pi, pp, pat, pg, pk, pt, pn, pv⟩) none 0 0 none 0 0 ⟨w4.heap.size, 0, none⟩ 1 rfl HNEW.out HLEN.out.1 HLEN.out.2 ?_; intro v' w' q1 q2 q3; have qP := (q2.block P HPL.out HNP.out).trans HP5.out; obtain ⟨va', vc', rfl⟩ := slice_of_own q1; obtain ⟨s0, s1, s2⟩ := three qP; have f0 := (cell_of qP 0).2; have f2 := (cell_of qP 2).2)
          all_goals (
            have N7 : Hid (OwnN w' B (.slice va' (ns.length + 1) vc') (ns ++ [newNd ⟨pw, pi, pp, pat, pg, pk, pt, pn, pv⟩]) (upd ab ns.length (.slice none 0 0)) (upd kb ns.length (.slice none 0 0))) := (C4.out.below B5).push HF2.out rfl rfl q1 q2
            have QP : Hid (w'.heap[P]? = some (.cells #[.slice va ns.length vc, .int .i64 root, .int .i64 pi] 30 (0, 0))) := qP
            have Q8 : Hid ((w'.setCell ⟨P, 0, none⟩ (.slice va' (ns.length + 1) vc')).heap[P]? = some (.cells #[.slice va' (ns.length + 1) vc', .int .i64 root, .int .i64 pi] 30 (0, 0))) := by
              show _ = _
              rw [set_one_cell QP.out]
              simp
            have B7 : Hid (Below B w w') := (((nxt B4.out B5).mono hB).trans (grownB HROW.out q2 HLEN.out.2))
            obtain ⟨t0, t1, t2⟩ := three Q8.out
            have u2 := (cell_of Q8.out 2).2
            clear q1 q2 q3 qP s0 s1 s2 f0 f2 dp0 dp1 ep0 ep1 d0 d1 d2 d3 d4 d5 d6
            generalize hU : w'.setCell ⟨P, 0, none⟩ (.slice va' (ns.length + 1) vc') = U at *
            have KU : Hid (∀ b, b ≠ P → U.heap[b]? = w'.heap[b]?) := by
              intro b hb
              rw [← hU]
              exact heap_set_other _ hb
            have SU : Hid (U.heap.size = w'.heap.size ∧ U.os = w'.os ∧ U.tape = w'.tape ∧ U.output = w'.output) := by
              rw [← hU]
              exact ⟨by simp [World.setCell], rfl, rfl, rfl⟩
            clear hU
            go_wp2_with fail
            go_ret
            rw [HR.out]
            have hQ9 : (U.setCell ⟨P, 2, none⟩ (.int .i64 (pi + 1))).heap[P]? = some (.cells #[.slice va' (ns.length + 1) vc', .int .i64 root, .int .i64 (pi + 1)] 30 (0, 0)) := by
              rw [set_one_cell Q8.out]
              simp
            have keep : ∀ b, b ≠ P → (U.setCell ⟨P, 2, none⟩ (.int .i64 (pi + 1))).heap[b]? = w'.heap[b]? := fun b hb => (heap_set_other _ hb).trans (KU.out b hb)
            refine ⟨rfl, ⟨_, _, _, hQ9, N7.out.same fun b hb => keep b (N7.out.notState QP.out hb), HBP.out⟩, ?_⟩
            have hb7 := B7.out
            have hsu := SU.out
            have hbp := HBP.out
            exact ⟨hsu.2.1.trans hb7.os, hsu.2.2.1.trans hb7.tape, hsu.2.2.2.trans hb7.output, by have := hb7.size; simp [World.setCell]; omega, fun j hj => (keep j (by omega)).trans (hb7.block j hj)⟩)
  · have HR : Hid (createD ⟨ns, root, next⟩ ⟨pw, pi, pp, pat, pg, pk, pt, pn, pv⟩ = (32, ⟨ns, root, next⟩)) := by show _ = _; unfold createD; simp only; rw [if_pos (by simpa using hid)]
    have g1 : (pi != next) = true := by simpa using hid
    go_big_quiet (fail)
    go_wp2_with fail
    go_ret
    rw [HR.out]
    exact ⟨rfl, HSTAY.out _ (nxt B2.out (Below_drewN _ _ _))⟩
end Go.Proofs.YtcdnakcojanaeabGreat
