/-
  The page's hang. (Printed by wip/make/mkdthang.py.)
-/
import Derived.Test.YtcdnakcojanaeabGreatDuPgJ
import Derived.Test.YtcdnakcojanaeabGreatDtOffJ
import Derived.Test.YtcdnakcojanaeabGreatDtGoneJ
import Derived.Test.YtcdnakcojanaeabGreatDoHang
namespace Go.Proofs.YtcdnakcojanaeabGreat
open Go.ChangeShapes Go.WideShapes Go.ChangeAt Go.RowKit Go.Deep
open Do


set_option maxRecDepth 100000 in
set_option maxHeartbeats 3200000 in
theorem rhang_any (s : Ds) (p : Pt) (B : Nat) (w : World) (v : Value) (ab kb : Nat → Value) (hO : Pg.OwnN w B v s.nodes ab kb) (hB : B ≤ w.heap.size) (hp : PtOk p) (hn : s.nodes.length ≤ 1024) (hr : -9223372036854775808 ≤ s.root ∧ s.root ≤ 9223372036854775807) (hx : -9223372036854775808 ≤ s.next ∧ s.next ≤ 9223372036854775807) :
    Calls Tryz.prog 20 #[.agg #[v, .int .i64 s.root, .int .i64 s.next], mkP p] w fun e w' => PgPost w w' B e (hangP s p) := by
  obtain ⟨vr, vc, hvs⟩ := hO.shape
  subst hvs
  have HO : Hid (Pg.OwnN w B (.slice vr s.nodes.length vc) s.nodes ab kb) := hO
  have HB : Hid (B ≤ w.heap.size) := hB
  have HP : Hid (PtOk p) := hp
  obtain ⟨ns, root, next⟩ := s
  obtain ⟨pw, pi, pp, pat, pg, pk, pt, pn, pv⟩ := p
  simp only at *
  clear hO hB hp
  obtain ⟨K3, hK3⟩ : ∃ W : World, W = ((w.alloc (.cells #[.slice vr ns.length vc, .int .i64 root, .int .i64 next] 24)).alloc (.cells #[.int .i64 pw, .int .i64 pi, .int .i64 pp, .int .i64 pat, .string pg, .string pk, .string pt, .string pn, .string pv] 26)).alloc (.cells #[.slice none 0 0, .int .i64 0, .int .i64 0] 24) := ⟨_, rfl⟩
  have B3 : Hid (Below w.heap.size w K3) := by show Below _ _ _; rw [hK3]; exact nxt (two_new _ _ _) (below_one _ _)
  have X3 : Hid (K3.heap[w.heap.size]? = some (.cells #[.slice vr ns.length vc, .int .i64 root, .int .i64 next] 24 (0, 0)) ∧ K3.heap[w.heap.size + 1]? = some (.cells #[.int .i64 pw, .int .i64 pi, .int .i64 pp, .int .i64 pat, .string pg, .string pk, .string pt, .string pn, .string pv] 26 (0, 0)) ∧ K3.heap[w.heap.size + 2]? = some (.cells #[.slice none 0 0, .int .i64 0, .int .i64 0] 24 (0, 0))) := by show _ ∧ _ ∧ _; rw [hK3]; exact three_new _ _ _ _
  go_enter Tryz.func20, Tryz.ntmps20
  obtain ⟨x0, x1, x2⟩ := three X3.out.1
  obtain ⟨n0, n1, n2, n3, n4, n5, n6, n7, n8⟩ := nine X3.out.2.1
  obtain ⟨⟨z0, z1, z2⟩, zf0, zf1, zf2⟩ : (K3.cell? ⟨w.heap.size + 2, 0, none⟩ = some (.slice none 0 0) ∧ K3.cell? ⟨w.heap.size + 2, 1, none⟩ = some (.int .i64 0) ∧ K3.cell? ⟨w.heap.size + 2, 2, none⟩ = some (.int .i64 0)) ∧ K3.frozen? ⟨w.heap.size + 2, 0, none⟩ = false ∧ K3.frozen? ⟨w.heap.size + 2, 1, none⟩ = false ∧ K3.frozen? ⟨w.heap.size + 2, 2, none⟩ = false := ⟨three X3.out.2.2, (cell_of X3.out.2.2 0).2, (cell_of X3.out.2.2 1).2, (cell_of X3.out.2.2 2).2⟩
  have DS : Hid (∀ W, Below w.heap.size w W → DsIs W ⟨ns, root, next⟩ vr vc) := fun W hb => (HO.out.below hb).ds hn hr hx
  have HPL : Hid (∀ W z, Below w.heap.size w W → Calls Tryz.prog 22 #[.agg #[.slice vr ns.length vc, .int .i64 root, .int .i64 next], .int .i64 z] W fun e w' => e = .returned (.int .i64 (plI ns z)) ∧ Below W.heap.size W w') := fun W z hb => rplace_any ⟨ns, root, next⟩ z vr vc W (DS.out W hb)
  have HWI : Hid (∀ W, Below w.heap.size w W → Calls Tryz.prog 50 #[.agg #[.slice vr ns.length vc, .int .i64 root, .int .i64 next], .int .i64 pp, .int .i64 pi] W fun e w' => e = .returned (.bool (wiP ns pi (ns.length + 1) pp)) ∧ Below W.heap.size W w') := fun W hb => rwithin_any ⟨ns, root, next⟩ pp pi vr vc W (DS.out W hb)
  have e0 : ∀ z : Cls K3, z.1.cell? ⟨w.heap.size, 0, none⟩ = some (.slice vr ns.length vc) := fun z => Cls.cell x0 z
  have e1 : ∀ z : Cls K3, z.1.cell? ⟨w.heap.size, 1, none⟩ = some (.int .i64 root) := fun z => Cls.cell x1 z
  have e2 : ∀ z : Cls K3, z.1.cell? ⟨w.heap.size, 2, none⟩ = some (.int .i64 next) := fun z => Cls.cell x2 z
  have e3 : ∀ z : Cls K3, z.1.cell? ⟨w.heap.size + 1, 1, none⟩ = some (.int .i64 pi) := fun z => Cls.cell n1 z
  have e4 : ∀ z : Cls K3, z.1.cell? ⟨w.heap.size + 1, 2, none⟩ = some (.int .i64 pp) := fun z => Cls.cell n2 z
  have CP : Hid (∀ z : Cls K3, Calls Tryz.prog 22 #[.agg #[.slice vr ns.length vc, .int .i64 root, .int .i64 next], .int .i64 pi] z.1 fun e w' => e = .returned (.int .i64 (plI ns pi)) ∧ Below z.1.heap.size z.1 w') := fun z => HPL.out z.1 _ (nxt B3.out z.2)
  have CQ : Hid (∀ z : Cls K3, Calls Tryz.prog 22 #[.agg #[.slice vr ns.length vc, .int .i64 root, .int .i64 next], .int .i64 pp] z.1 fun e w' => e = .returned (.int .i64 (plI ns pp)) ∧ Below z.1.heap.size z.1 w') := fun z => HPL.out z.1 _ (nxt B3.out z.2)
  have inst : Nonempty (Cls K3) := ⟨⟨_, Below.refl _ _⟩⟩
  go_wp2_with fail
  rw [← hK3]
  clear hK3
  refine wp_region_cls (by kernel_rfl) (by kernel_rfl) ?_
  repeat (go_big_quiet_step (first | (go_at_call_of 22 (Value.int IntKind.i64 pi); exact Calls.cls (CP.out _)) | (go_at_call_of 22 (Value.int IntKind.i64 pp); exact Calls.cls (CQ.out _))))
  refine wpQuiet_nil ?_
  intro _ hw'
  obtain ⟨z, hw''⟩ := hw'
  subst hw''
  have B4 : Hid (Below w.heap.size w z.1) := nxt B3.out z.2
  have X4 : Hid (z.1.heap[w.heap.size]? = some (.cells #[.slice vr ns.length vc, .int .i64 root, .int .i64 next] 24 (0, 0)) ∧ z.1.heap[w.heap.size + 1]? = some (.cells #[.int .i64 pw, .int .i64 pi, .int .i64 pp, .int .i64 pat, .string pg, .string pk, .string pt, .string pn, .string pv] 26 (0, 0)) ∧ z.1.heap[w.heap.size + 2]? = some (.cells #[.slice none 0 0, .int .i64 0, .int .i64 0] 24 (0, 0))) := ⟨(z.2.block _ (lt_of_block X3.out.1)).trans X3.out.1, (z.2.block _ (lt_of_block X3.out.2.1)).trans X3.out.2.1, (z.2.block _ (lt_of_block X3.out.2.2)).trans X3.out.2.2⟩
  clear CP CQ e0 e1 e2 e3 e4 inst X3 B3 x0 x1 x2 n0 n1 n2 n3 n4 n5 n6 n7 n8 z0 z1 z2 zf0 zf1 zf2
  generalize z.1 = w4 at *
  clear z
  obtain ⟨x0, x1, x2⟩ := three X4.out.1
  obtain ⟨n0, n1, n2, n3, n4, n5, n6, n7, n8⟩ := nine X4.out.2.1
  obtain ⟨⟨z0, z1, z2⟩, zf0, zf1, zf2⟩ : (w4.cell? ⟨w.heap.size + 2, 0, none⟩ = some (.slice none 0 0) ∧ w4.cell? ⟨w.heap.size + 2, 1, none⟩ = some (.int .i64 0) ∧ w4.cell? ⟨w.heap.size + 2, 2, none⟩ = some (.int .i64 0)) ∧ w4.frozen? ⟨w.heap.size + 2, 0, none⟩ = false ∧ w4.frozen? ⟨w.heap.size + 2, 1, none⟩ = false ∧ w4.frozen? ⟨w.heap.size + 2, 2, none⟩ = false := ⟨three X4.out.2.2, (cell_of X4.out.2.2 0).2, (cell_of X4.out.2.2 1).2, (cell_of X4.out.2.2 2).2⟩
  cases hpq : pl ns pi with
  | none =>
    rw [plI_none hpq]
    have HR : Hid ((hangP ⟨ns, root, next⟩ ⟨pw, pi, pp, pat, pg, pk, pt, pn, pv⟩) = (71, noD)) := by show _ = _; unfold hangP; simp only; rw [hpq]
    clear hpq
    go_wp2_with fail
    have HZ' : w4.heap[w.heap.size + 1 + 1]? = some (.cells #[.slice none 0 0, .int .i64 0, .int .i64 0] 24 (0, 0)) := X4.out.2.2
    obtain ⟨f1, f2, f3⟩ := state_fin (v := .slice none 0 0) (r := .int .i64 0) (n := .int .i64 0) HZ'
    have f3 := f3 w.heap.size w (by omega) B4.out
    clear x0 x1 x2 n0 n1 n2 n3 n4 n5 n6 n7 n8 z0 z1 z2 zf0 zf1 zf2
    generalize ((w4.setCell ⟨w.heap.size + 1 + 1, 0, none⟩ (.slice none 0 0)).setCell ⟨w.heap.size + 1 + 1, 1, none⟩ (.int .i64 0)).setCell ⟨w.heap.size + 1 + 1, 2, none⟩ (.int .i64 0) = W9 at *
    obtain ⟨c0, c1, c2⟩ := three f1
    refine bodyPost_ret (v := .tuple #[.agg #[.slice none 0 0, .int .i64 0, .int .i64 0], .int .i64 71]) (by simp [results, Tryz.results20, go_sem, c0, c1, c2]) rfl ?_
    rw [HR.out]
    exact ⟨_, _, _, rfl, noD_pg _ _, f3.mono HB.out⟩
  | some q =>
    rw [plI_some hpq]
    obtain ⟨nq, hnq, -⟩ := pl_some hpq
    have hql : q < ns.length := (List.getElem?_eq_some_iff.1 hnq).1
    have gq : decide ((q : Int) < 0) = false := decide_eq_false (by omega)
    cases hpt : pl ns pp with
    | none =>
      rw [plI_none hpt]
      have HR : Hid ((hangP ⟨ns, root, next⟩ ⟨pw, pi, pp, pat, pg, pk, pt, pn, pv⟩) = (71, noD)) := by show _ = _; unfold hangP; simp only; rw [hpq, hpt]
      clear hpq hpt hnq
      go_wp2_with fail
      have HZ' : w4.heap[w.heap.size + 1 + 1]? = some (.cells #[.slice none 0 0, .int .i64 0, .int .i64 0] 24 (0, 0)) := X4.out.2.2
      obtain ⟨f1, f2, f3⟩ := state_fin (v := .slice none 0 0) (r := .int .i64 0) (n := .int .i64 0) HZ'
      have f3 := f3 w.heap.size w (by omega) B4.out
      clear x0 x1 x2 n0 n1 n2 n3 n4 n5 n6 n7 n8 z0 z1 z2 zf0 zf1 zf2
      generalize ((w4.setCell ⟨w.heap.size + 1 + 1, 0, none⟩ (.slice none 0 0)).setCell ⟨w.heap.size + 1 + 1, 1, none⟩ (.int .i64 0)).setCell ⟨w.heap.size + 1 + 1, 2, none⟩ (.int .i64 0) = W9 at *
      obtain ⟨c0, c1, c2⟩ := three f1
      refine bodyPost_ret (v := .tuple #[.agg #[.slice none 0 0, .int .i64 0, .int .i64 0], .int .i64 71]) (by simp [results, Tryz.results20, go_sem, c0, c1, c2]) rfl ?_
      rw [HR.out]
      exact ⟨_, _, _, rfl, noD_pg _ _, f3.mono HB.out⟩
    | some t =>
      rw [plI_some hpt]
      obtain ⟨m, hm, -⟩ := pl_some hpt
      have htl : t < ns.length := (List.getElem?_eq_some_iff.1 hm).1
      have gt : decide ((t : Int) < 0) = false := decide_eq_false (by omega)
      have HRE : Hid ((hangP ⟨ns, root, next⟩ ⟨pw, pi, pp, pat, pg, pk, pt, pn, pv⟩) = if hangEP ns root m ⟨pw, pi, pp, pat, pg, pk, pt, pn, pv⟩ = 0 then (0, ⟨hungP ns m q t ⟨pw, pi, pp, pat, pg, pk, pt, pn, pv⟩, root, next⟩) else (hangEP ns root m ⟨pw, pi, pp, pat, pg, pk, pt, pn, pv⟩, noD)) := by show _ = _; unfold hangP; simp only; rw [hpq, hpt]; simp only; rw [hm]
      have HEE : Hid (hangEP ns root m ⟨pw, pi, pp, pat, pg, pk, pt, pn, pv⟩ = if m.tag.size = 0 then 81 else if wiP ns pi (ns.length + 1) pp = true then 72 else if root = pi then 9 else if pat < 0 ∨ ((lessZ m.kids pi).length : Int) < pat then 82 else if 32 ≤ (lessZ m.kids pi).length then 3 else 0) := rfl
      generalize hangEP ns root m ⟨pw, pi, pp, pat, pg, pk, pt, pn, pv⟩ = er at *
      have HPQ : Hid (pl ns pi = some q ∧ ns[q]? = some nq) := ⟨hpq, hnq⟩
      have HM : Hid (ns[t]? = some m) := hm
      have HFT : Hid (NdFit m) := HO.out.fit m (List.mem_of_getElem? hm)
      clear hpq hpt hnq hm
      have O4 : Hid (Pg.OwnN w4 B (.slice vr ns.length vc) ns ab kb) := HO.out.below B4.out
      obtain ⟨b, hvr, -, -, r2, -, -, -, -⟩ := Pg.rowN_cells O4.out.row HM.out
      subst hvr
      by_cases hg : m.tag.size = 0
      · rw [if_pos hg] at HEE
        have g2 := empty_true hg
        have HR : Hid ((hangP ⟨ns, root, next⟩ ⟨pw, pi, pp, pat, pg, pk, pt, pn, pv⟩) = (81, noD)) := by show _ = _; rw [HRE.out, HEE.out]; exact if_neg (by decide)
        clear HRE HEE
        go_wp2_with fail
        have HZ' : w4.heap[w.heap.size + 1 + 1]? = some (.cells #[.slice none 0 0, .int .i64 0, .int .i64 0] 24 (0, 0)) := X4.out.2.2
        obtain ⟨f1, f2, f3⟩ := state_fin (v := .slice none 0 0) (r := .int .i64 0) (n := .int .i64 0) HZ'
        have f3 := f3 w.heap.size w (by omega) B4.out
        clear x0 x1 x2 n0 n1 n2 n3 n4 n5 n6 n7 n8 z0 z1 z2 zf0 zf1 zf2 r2
        generalize ((w4.setCell ⟨w.heap.size + 1 + 1, 0, none⟩ (.slice none 0 0)).setCell ⟨w.heap.size + 1 + 1, 1, none⟩ (.int .i64 0)).setCell ⟨w.heap.size + 1 + 1, 2, none⟩ (.int .i64 0) = W9 at *
        obtain ⟨c0, c1, c2⟩ := three f1
        refine bodyPost_ret (v := .tuple #[.agg #[.slice none 0 0, .int .i64 0, .int .i64 0], .int .i64 81]) (by simp [results, Tryz.results20, go_sem, c0, c1, c2]) rfl ?_
        rw [HR.out]
        exact ⟨_, _, _, rfl, noD_pg _ _, f3.mono HB.out⟩
      rw [if_neg hg] at HEE
      have g2 := empty_false hg
      go_wp2_with fail
      refine (HWI.out w4 B4.out).mono ?_
      rintro e w5 ⟨rfl, hb5⟩
      have B5 : Hid (Below w.heap.size w w5) := nxt B4.out hb5
      have X5 : Hid (w5.heap[w.heap.size]? = some (.cells #[.slice (some ⟨b, 0, none⟩) ns.length vc, .int .i64 root, .int .i64 next] 24 (0, 0)) ∧ w5.heap[w.heap.size + 1]? = some (.cells #[.int .i64 pw, .int .i64 pi, .int .i64 pp, .int .i64 pat, .string pg, .string pk, .string pt, .string pn, .string pv] 26 (0, 0)) ∧ w5.heap[w.heap.size + 2]? = some (.cells #[.slice none 0 0, .int .i64 0, .int .i64 0] 24 (0, 0))) := ⟨(hb5.block _ (lt_of_block X4.out.1)).trans X4.out.1, (hb5.block _ (lt_of_block X4.out.2.1)).trans X4.out.2.1, (hb5.block _ (lt_of_block X4.out.2.2)).trans X4.out.2.2⟩
      have O5 : Hid (Pg.OwnN w5 B (.slice (some ⟨b, 0, none⟩) ns.length vc) ns ab kb) := O4.out.below hb5
      clear hb5 r2 g2 hg O4 X4 x0 x1 x2 n0 n1 n2 n3 n4 n5 n6 n7 n8 z0 z1 z2 zf0 zf1 zf2
      obtain ⟨x0, x1, x2⟩ := three X5.out.1
      obtain ⟨n0, n1, n2, n3, n4, n5, n6, n7, n8⟩ := nine X5.out.2.1
      obtain ⟨⟨z0, z1, z2⟩, zf0, zf1, zf2⟩ : (w5.cell? ⟨w.heap.size + 2, 0, none⟩ = some (.slice none 0 0) ∧ w5.cell? ⟨w.heap.size + 2, 1, none⟩ = some (.int .i64 0) ∧ w5.cell? ⟨w.heap.size + 2, 2, none⟩ = some (.int .i64 0)) ∧ w5.frozen? ⟨w.heap.size + 2, 0, none⟩ = false ∧ w5.frozen? ⟨w.heap.size + 2, 1, none⟩ = false ∧ w5.frozen? ⟨w.heap.size + 2, 2, none⟩ = false := ⟨three X5.out.2.2, (cell_of X5.out.2.2 0).2, (cell_of X5.out.2.2 1).2, (cell_of X5.out.2.2 2).2⟩
      cases hw : wiP ns pi (ns.length + 1) pp with
      | true =>
        rw [hw, if_pos rfl] at HEE
        have HR : Hid ((hangP ⟨ns, root, next⟩ ⟨pw, pi, pp, pat, pg, pk, pt, pn, pv⟩) = (72, noD)) := by show _ = _; rw [HRE.out, HEE.out]; exact if_neg (by decide)
        clear hw HRE HEE
        go_wp2_with fail
        have HZ' : w5.heap[w.heap.size + 1 + 1]? = some (.cells #[.slice none 0 0, .int .i64 0, .int .i64 0] 24 (0, 0)) := X5.out.2.2
        obtain ⟨f1, f2, f3⟩ := state_fin (v := .slice none 0 0) (r := .int .i64 0) (n := .int .i64 0) HZ'
        have f3 := f3 w.heap.size w (by omega) B5.out
        clear x0 x1 x2 n0 n1 n2 n3 n4 n5 n6 n7 n8 z0 z1 z2 zf0 zf1 zf2
        generalize ((w5.setCell ⟨w.heap.size + 1 + 1, 0, none⟩ (.slice none 0 0)).setCell ⟨w.heap.size + 1 + 1, 1, none⟩ (.int .i64 0)).setCell ⟨w.heap.size + 1 + 1, 2, none⟩ (.int .i64 0) = W9 at *
        obtain ⟨c0, c1, c2⟩ := three f1
        refine bodyPost_ret (v := .tuple #[.agg #[.slice none 0 0, .int .i64 0, .int .i64 0], .int .i64 72]) (by simp [results, Tryz.results20, go_sem, c0, c1, c2]) rfl ?_
        rw [HR.out]
        exact ⟨_, _, _, rfl, noD_pg _ _, f3.mono HB.out⟩
      | false =>
        rw [hw, if_neg (by simp)] at HEE
        clear hw
        by_cases hroot : root = pi
        · rw [if_pos hroot] at HEE
          have g3 : (root == pi) = true := by simpa using hroot
          have HR : Hid ((hangP ⟨ns, root, next⟩ ⟨pw, pi, pp, pat, pg, pk, pt, pn, pv⟩) = (9, noD)) := by show _ = _; rw [HRE.out, HEE.out]; exact if_neg (by decide)
          clear HRE HEE hroot
          go_wp2_with fail
          have HZ' : w5.heap[w.heap.size + 1 + 1]? = some (.cells #[.slice none 0 0, .int .i64 0, .int .i64 0] 24 (0, 0)) := X5.out.2.2
          obtain ⟨f1, f2, f3⟩ := state_fin (v := .slice none 0 0) (r := .int .i64 0) (n := .int .i64 0) HZ'
          have f3 := f3 w.heap.size w (by omega) B5.out
          clear x0 x1 x2 n0 n1 n2 n3 n4 n5 n6 n7 n8 z0 z1 z2 zf0 zf1 zf2
          generalize ((w5.setCell ⟨w.heap.size + 1 + 1, 0, none⟩ (.slice none 0 0)).setCell ⟨w.heap.size + 1 + 1, 1, none⟩ (.int .i64 0)).setCell ⟨w.heap.size + 1 + 1, 2, none⟩ (.int .i64 0) = W9 at *
          obtain ⟨c0, c1, c2⟩ := three f1
          refine bodyPost_ret (v := .tuple #[.agg #[.slice none 0 0, .int .i64 0, .int .i64 0], .int .i64 9]) (by simp [results, Tryz.results20, go_sem, c0, c1, c2]) rfl ?_
          rw [HR.out]
          exact ⟨_, _, _, rfl, noD_pg _ _, f3.mono HB.out⟩
        rw [if_neg hroot] at HEE
        have g3 : (root == pi) = false := by simpa using hroot
        obtain ⟨g, hg, -, -, -, -, -, -, r6⟩ := Pg.rowN_cells O5.out.row HM.out
        simp only [Option.some.injEq, Addr.mk.injEq, and_true] at hg
        subst hg
        obtain ⟨mka, mkc, hks⟩ := (O5.out.kids t m HM.out).shape
        have HKO : Hid (OwnZ w5 B (kb t) m.kids) := O5.out.kids t m HM.out
        rw [hks] at r6 HKO
        have HS0 : (fun w' : World => w'.cell? ⟨w.heap.size, 0, none⟩ = some (.slice (some ⟨b, 0, none⟩) ns.length vc) ∧ w'.cell? ⟨w.heap.size + 1, 1, none⟩ = some (.int .i64 pi) ∧ w'.cell? ⟨b, t * 7 + 6, none⟩ = some (.slice mka m.kids.length mkc)) w5.drew := ⟨x0, n1, r6⟩
        go_wp2_with fail
        refine Rg.Till.region (fun w' : World => w'.cell? ⟨w.heap.size, 0, none⟩ = some (.slice (some ⟨b, 0, none⟩) ns.length vc) ∧ w'.cell? ⟨w.heap.size + 1, 1, none⟩ = some (.int .i64 pi) ∧ w'.cell? ⟨b, t * 7 + 6, none⟩ = some (.slice mka m.kids.length mkc)) 9 (by kernel_rfl) ?_
        show Rg.Till _ _ _ _ _ 10 (Array.replicate 10 false) _ _
        refine Rg.Till.take (i := 0) (v := .pointer (some ⟨w.heap.size, 0, none⟩)) (some 50) rfl rfl (by kernel_rfl) (by kernel_rfl) (fun _ _ _ h => h) (by kernel_rfl) (by kernel_rfl) (Or.inl ⟨rfl, fun w' hS => ?_⟩) HS0 ?_
        · obtain ⟨y0, y1, y2⟩ := hS; go_simp
        simp only [Act.put, List.setIfInBounds_toArray, List.set_cons_zero, List.set_cons_succ]
        refine Rg.Till.take (i := 1) (v := .slice (some ⟨b, 0, none⟩) ns.length vc) (some 51) rfl rfl (by kernel_rfl) (by kernel_rfl) (fun _ _ _ h => h) (by kernel_rfl) (by kernel_rfl) (Or.inl ⟨rfl, fun w' hS => ?_⟩) HS0 ?_
        · obtain ⟨y0, y1, y2⟩ := hS; go_simp
        simp only [Act.put, List.setIfInBounds_toArray, List.set_cons_zero, List.set_cons_succ]
        refine Rg.Till.take (i := 2) (v := .int .i64 (t : Int)) (some 52) rfl rfl (by kernel_rfl) (by kernel_rfl) (fun _ _ _ h => h) (by kernel_rfl) (by kernel_rfl) (Or.inl ⟨rfl, fun w' hS => ?_⟩) HS0 ?_
        · obtain ⟨y0, y1, y2⟩ := hS; go_simp
        simp only [Act.put, List.setIfInBounds_toArray, List.set_cons_zero, List.set_cons_succ]
        refine Rg.Till.take (i := 3) (v := .pointer (some ⟨b, t * 7, none⟩)) (some 53) rfl rfl (by kernel_rfl) (by kernel_rfl) (fun _ _ _ h => h) (by kernel_rfl) (by kernel_rfl) (Or.inl ⟨rfl, fun w' hS => ?_⟩) HS0 ?_
        · obtain ⟨y0, y1, y2⟩ := hS; go_simp
        simp only [Act.put, List.setIfInBounds_toArray, List.set_cons_zero, List.set_cons_succ]
        refine Rg.Till.take (i := 4) (v := .pointer (some ⟨b, t * 7 + 6, none⟩)) (some 54) rfl rfl (by kernel_rfl) (by kernel_rfl) (fun _ _ _ h => h) (by kernel_rfl) (by kernel_rfl) (Or.inl ⟨rfl, fun w' hS => ?_⟩) HS0 ?_
        · obtain ⟨y0, y1, y2⟩ := hS; go_simp
        simp only [Act.put, List.setIfInBounds_toArray, List.set_cons_zero, List.set_cons_succ]
        refine Rg.Till.take (i := 5) (v := .slice mka m.kids.length mkc) (some 55) rfl rfl (by kernel_rfl) (by kernel_rfl) (fun _ _ _ h => h) (by kernel_rfl) (by kernel_rfl) (Or.inl ⟨rfl, fun w' hS => ?_⟩) HS0 ?_
        · obtain ⟨y0, y1, y2⟩ := hS; go_simp
        simp only [Act.put, List.setIfInBounds_toArray, List.set_cons_zero, List.set_cons_succ]
        refine Rg.Till.take (i := 6) (v := .pointer (some ⟨w.heap.size + 1, 1, none⟩)) (some 56) rfl rfl (by kernel_rfl) (by kernel_rfl) (fun _ _ _ h => h) (by kernel_rfl) (by kernel_rfl) (Or.inl ⟨rfl, fun w' hS => ?_⟩) HS0 ?_
        · obtain ⟨y0, y1, y2⟩ := hS; go_simp
        simp only [Act.put, List.setIfInBounds_toArray, List.set_cons_zero, List.set_cons_succ]
        refine Rg.Till.take (i := 7) (v := .int .i64 pi) (some 57) rfl rfl (by kernel_rfl) (by kernel_rfl) (fun _ _ _ h => h) (by kernel_rfl) (by kernel_rfl) (Or.inl ⟨rfl, fun w' hS => ?_⟩) HS0 ?_
        · obtain ⟨y0, y1, y2⟩ := hS; go_simp
        simp only [Act.put, List.setIfInBounds_toArray, List.set_cons_zero, List.set_cons_succ]
        refine Rg.Till.oneK (i := 8) (by kernel_rfl) rfl rfl ?_
        intro K hK
        refine op_call2 (d := some 58) rfl 51 (by intros; go_simp) _ _ _ rfl _ _ rfl rfl ((rless_any m.kids pi mka mkc w5.drew (HKO.out.nm HFT.out.kids.1 HFT.out.kids.2)).mono ?_)
        rintro e w6 ⟨kv, rfl, hk6, hb6⟩
        obtain ⟨ka, kc, rfl⟩ := hk6.shape
        have hb6' : Below w5.heap.size w5 w6 := (Below.refl _ w5).drew.trans hb6
        have HS1 : (fun w' : World => w'.cell? ⟨w.heap.size, 0, none⟩ = some (.slice (some ⟨b, 0, none⟩) ns.length vc) ∧ w'.cell? ⟨w.heap.size + 1, 1, none⟩ = some (.int .i64 pi) ∧ w'.cell? ⟨b, t * 7 + 6, none⟩ = some (.slice mka m.kids.length mkc)) w6 := ⟨keepc hb6' _ _ x0, keepc hb6' _ _ n1, keepc hb6' _ _ r6⟩
        refine ⟨_, rfl, hK.out _ _ (fun _ => HS1) ?_⟩
        clear hK K
        simp only [Act.put, List.setIfInBounds_toArray, List.set_cons_zero, List.set_cons_succ]
        refine Rg.Till.oneK (i := 9) (by kernel_rfl) rfl rfl ?_
        intro K hK
        go_simp
        refine hK.out _ _ (fun h => absurd rfl h) ?_
        clear hK K
        refine Rg.Till.done (by kernel_rfl) ?_
        have B6 : Hid (Below w.heap.size w w6) := nxt B5.out hb6'
        have X6 : Hid (w6.heap[w.heap.size]? = some (.cells #[.slice (some ⟨b, 0, none⟩) ns.length vc, .int .i64 root, .int .i64 next] 24 (0, 0)) ∧ w6.heap[w.heap.size + 1]? = some (.cells #[.int .i64 pw, .int .i64 pi, .int .i64 pp, .int .i64 pat, .string pg, .string pk, .string pt, .string pn, .string pv] 26 (0, 0)) ∧ w6.heap[w.heap.size + 2]? = some (.cells #[.slice none 0 0, .int .i64 0, .int .i64 0] 24 (0, 0))) := ⟨(hb6'.block _ (lt_of_block X5.out.1)).trans X5.out.1, (hb6'.block _ (lt_of_block X5.out.2.1)).trans X5.out.2.1, (hb6'.block _ (lt_of_block X5.out.2.2)).trans X5.out.2.2⟩
        have O6 : Hid (Pg.OwnN w6 B (.slice (some ⟨b, 0, none⟩) ns.length vc) ns ab kb) := O5.out.below hb6'
        have HLK : Hid (OwnZ w6 w5.heap.size (.slice ka (lessZ m.kids pi).length kc) (lessZ m.kids pi)) := hk6
        have HLF : Hid (I64 (lessZ m.kids pi) ∧ (lessZ m.kids pi).length * 8 ≤ 140737488351232) := lessZ_i64 pi HFT.out.kids
        clear HS0 HS1 hk6 hb6 hb6' r6 hks g3 hroot O5 HKO X5 x0 x1 x2 n0 n1 n2 n3 n4 n5 n6 n7 n8 z0 z1 z2 zf0 zf1 zf2
        obtain ⟨x0, x1, x2⟩ := three X6.out.1
        obtain ⟨n0, n1, n2, n3, n4, n5, n6, n7, n8⟩ := nine X6.out.2.1
        obtain ⟨⟨z0, z1, z2⟩, zf0, zf1, zf2⟩ : (w6.cell? ⟨w.heap.size + 2, 0, none⟩ = some (.slice none 0 0) ∧ w6.cell? ⟨w.heap.size + 2, 1, none⟩ = some (.int .i64 0) ∧ w6.cell? ⟨w.heap.size + 2, 2, none⟩ = some (.int .i64 0)) ∧ w6.frozen? ⟨w.heap.size + 2, 0, none⟩ = false ∧ w6.frozen? ⟨w.heap.size + 2, 1, none⟩ = false ∧ w6.frozen? ⟨w.heap.size + 2, 2, none⟩ = false := ⟨three X6.out.2.2, (cell_of X6.out.2.2 0).2, (cell_of X6.out.2.2 1).2, (cell_of X6.out.2.2 2).2⟩
        generalize hlk : lessZ m.kids pi = LK at *
        by_cases ha : pat < 0 ∨ (LK.length : Int) < pat
        · rw [if_pos ha] at HEE
          have HR : Hid ((hangP ⟨ns, root, next⟩ ⟨pw, pi, pp, pat, pg, pk, pt, pn, pv⟩) = (82, noD)) := by show _ = _; rw [HRE.out, HEE.out]; exact if_neg (by decide)
          clear HRE HEE
          by_cases ha0 : pat < 0
          · have g4 : decide (pat < 0) = true := decide_eq_true ha0
            go_wp2_with fail
            have HZ' : w6.heap[w.heap.size + 1 + 1]? = some (.cells #[.slice none 0 0, .int .i64 0, .int .i64 0] 24 (0, 0)) := X6.out.2.2
            obtain ⟨f1, f2, f3⟩ := state_fin (v := .slice none 0 0) (r := .int .i64 0) (n := .int .i64 0) HZ'
            have f3 := f3 w.heap.size w (by omega) B6.out
            clear x0 x1 x2 n0 n1 n2 n3 n4 n5 n6 n7 n8 z0 z1 z2 zf0 zf1 zf2
            generalize ((w6.setCell ⟨w.heap.size + 1 + 1, 0, none⟩ (.slice none 0 0)).setCell ⟨w.heap.size + 1 + 1, 1, none⟩ (.int .i64 0)).setCell ⟨w.heap.size + 1 + 1, 2, none⟩ (.int .i64 0) = W9 at *
            obtain ⟨c0, c1, c2⟩ := three f1
            refine bodyPost_ret (v := .tuple #[.agg #[.slice none 0 0, .int .i64 0, .int .i64 0], .int .i64 82]) (by simp [results, Tryz.results20, go_sem, c0, c1, c2]) rfl ?_
            rw [HR.out]
            exact ⟨_, _, _, rfl, noD_pg _ _, f3.mono HB.out⟩
          · have g4 : decide (pat < 0) = false := decide_eq_false ha0
            have g5 : decide ((LK.length : Int) < pat) = true := decide_eq_true (by omega)
            go_wp2_with fail
            have HZ' : w6.heap[w.heap.size + 1 + 1]? = some (.cells #[.slice none 0 0, .int .i64 0, .int .i64 0] 24 (0, 0)) := X6.out.2.2
            obtain ⟨f1, f2, f3⟩ := state_fin (v := .slice none 0 0) (r := .int .i64 0) (n := .int .i64 0) HZ'
            have f3 := f3 w.heap.size w (by omega) B6.out
            clear x0 x1 x2 n0 n1 n2 n3 n4 n5 n6 n7 n8 z0 z1 z2 zf0 zf1 zf2
            generalize ((w6.setCell ⟨w.heap.size + 1 + 1, 0, none⟩ (.slice none 0 0)).setCell ⟨w.heap.size + 1 + 1, 1, none⟩ (.int .i64 0)).setCell ⟨w.heap.size + 1 + 1, 2, none⟩ (.int .i64 0) = W9 at *
            obtain ⟨c0, c1, c2⟩ := three f1
            refine bodyPost_ret (v := .tuple #[.agg #[.slice none 0 0, .int .i64 0, .int .i64 0], .int .i64 82]) (by simp [results, Tryz.results20, go_sem, c0, c1, c2]) rfl ?_
            rw [HR.out]
            exact ⟨_, _, _, rfl, noD_pg _ _, f3.mono HB.out⟩
        rw [if_neg ha] at HEE
        have g4 : decide (pat < 0) = false := decide_eq_false (by omega)
        have g5 : decide ((LK.length : Int) < pat) = false := decide_eq_false (by omega)
        by_cases h32 : 32 ≤ LK.length
        · rw [if_pos h32] at HEE
          have g6 : decide ((32 : Int) ≤ (LK.length : Int)) = true := decide_eq_true (by omega)
          have g6' : decide (32 ≤ LK.length) = true := decide_eq_true (by omega)
          have HR : Hid ((hangP ⟨ns, root, next⟩ ⟨pw, pi, pp, pat, pg, pk, pt, pn, pv⟩) = (3, noD)) := by show _ = _; rw [HRE.out, HEE.out]; exact if_neg (by decide)
          clear HRE HEE
          go_wp2_with fail
          have HZ' : w6.heap[w.heap.size + 1 + 1]? = some (.cells #[.slice none 0 0, .int .i64 0, .int .i64 0] 24 (0, 0)) := X6.out.2.2
          obtain ⟨f1, f2, f3⟩ := state_fin (v := .slice none 0 0) (r := .int .i64 0) (n := .int .i64 0) HZ'
          have f3 := f3 w.heap.size w (by omega) B6.out
          clear x0 x1 x2 n0 n1 n2 n3 n4 n5 n6 n7 n8 z0 z1 z2 zf0 zf1 zf2
          generalize ((w6.setCell ⟨w.heap.size + 1 + 1, 0, none⟩ (.slice none 0 0)).setCell ⟨w.heap.size + 1 + 1, 1, none⟩ (.int .i64 0)).setCell ⟨w.heap.size + 1 + 1, 2, none⟩ (.int .i64 0) = W9 at *
          obtain ⟨c0, c1, c2⟩ := three f1
          refine bodyPost_ret (v := .tuple #[.agg #[.slice none 0 0, .int .i64 0, .int .i64 0], .int .i64 3]) (by simp [results, Tryz.results20, go_sem, c0, c1, c2]) rfl ?_
          rw [HR.out]
          exact ⟨_, _, _, rfl, noD_pg _ _, f3.mono HB.out⟩
        rw [if_neg h32] at HEE
        have g6 : decide ((32 : Int) ≤ (LK.length : Int)) = false := decide_eq_false (by omega)
        have g6' : decide (32 ≤ LK.length) = false := decide_eq_false (by omega)
        have HR : Hid ((hangP ⟨ns, root, next⟩ ⟨pw, pi, pp, pat, pg, pk, pt, pn, pv⟩) = (0, ⟨hungP ns m q t ⟨pw, pi, pp, pat, pg, pk, pt, pn, pv⟩, root, next⟩)) := by show _ = _; rw [HRE.out, HEE.out]; exact if_pos rfl
        clear HRE HEE
        have HOFF := roff_any ns root next pi q nq (some ⟨b, 0, none⟩) vc ab kb B w6 O6.out (Nat.le_trans HB.out B6.out.size) hn HPQ.out.1 HPQ.out.2 hr hx
        go_wp2_with fail
        refine HOFF.mono ?_
        rintro e w7 ⟨rfl, ⟨kb7, hO7, hkb⟩, hk7⟩
        have hbl : b < w.heap.size := (HO.out.foot (Or.inl rfl)).2
        have st7 : ∀ {j : Nat} {ob : Obj}, w.heap.size ≤ j → w6.heap[j]? = some ob → w7.heap[j]? = some ob := fun hj ho => (hk7.block _ (lt_of_block ho) (fun e => by simp only [Value.ownBlock, Option.some.injEq] at e; omega)).trans ho
        have X7 : Hid (w7.heap[w.heap.size]? = some (.cells #[.slice (some ⟨b, 0, none⟩) ns.length vc, .int .i64 root, .int .i64 next] 24 (0, 0)) ∧ w7.heap[w.heap.size + 1]? = some (.cells #[.int .i64 pw, .int .i64 pi, .int .i64 pp, .int .i64 pat, .string pg, .string pk, .string pt, .string pn, .string pv] 26 (0, 0)) ∧ w7.heap[w.heap.size + 2]? = some (.cells #[.slice none 0 0, .int .i64 0, .int .i64 0] 24 (0, 0))) := ⟨st7 (Nat.le_refl _) X6.out.1, st7 (by omega) X6.out.2.1, st7 (by omega) X6.out.2.2⟩
        have hb56 := B5.out.size
        have L7 : Hid (OwnZ w7 w5.heap.size (.slice ka LK.length kc) LK) := HLK.out.same fun g hg => hk7.block g (HLK.out.lt g hg).2 (fun e => by have h1 := (HLK.out.lt g hg).1; simp only [Value.ownBlock, Option.some.injEq] at e; omega)
        have O7 : Hid (Pg.OwnN w7 B (.slice (some ⟨b, 0, none⟩) ns.length vc) (offP ns pi) ab kb7 ∧ ∀ i, kb7 i = kb i ∨ ∀ b, (kb7 i).ownBlock = some b → w6.heap.size ≤ b) := ⟨hO7, hkb⟩
        have K7 : Hid (Kept (fun j => (Value.slice (some ⟨b, 0, none⟩) ns.length vc).ownBlock = some j) w w7) := ⟨hk7.os.trans B6.out.os, hk7.tape.trans B6.out.tape, hk7.output.trans B6.out.output, Nat.le_trans B6.out.size hk7.size, fun j hj hne => (hk7.block j (Nat.lt_of_lt_of_le hj B6.out.size) hne).trans (B6.out.block j hj)⟩
        clear hO7 hkb hk7 st7 X6 HLK O6 HOFF g4 g5 g6 g6' x0 x1 x2 n0 n1 n2 n3 n4 n5 n6 n7 n8 z0 z1 z2 zf0 zf1 zf2
        obtain ⟨x0, x1, x2⟩ := three X7.out.1
        obtain ⟨n0, n1, n2, n3, n4, n5, n6, n7, n8⟩ := nine X7.out.2.1
        obtain ⟨⟨z0, z1, z2⟩, zf0, zf1, zf2⟩ : (w7.cell? ⟨w.heap.size + 2, 0, none⟩ = some (.slice none 0 0) ∧ w7.cell? ⟨w.heap.size + 2, 1, none⟩ = some (.int .i64 0) ∧ w7.cell? ⟨w.heap.size + 2, 2, none⟩ = some (.int .i64 0)) ∧ w7.frozen? ⟨w.heap.size + 2, 0, none⟩ = false ∧ w7.frozen? ⟨w.heap.size + 2, 1, none⟩ = false ∧ w7.frozen? ⟨w.heap.size + 2, 2, none⟩ = false := ⟨three X7.out.2.2, (cell_of X7.out.2.2 0).2, (cell_of X7.out.2.2 1).2, (cell_of X7.out.2.2 2).2⟩
        have hcap := cap_of_own L7.out
        cases ka with
        | none =>
          have hnil : LK = [] ∧ kc = 0 := by
            obtain ⟨h1, h2⟩ := L7.out
            rcases h2 with ⟨h3, h4⟩ | ⟨g, cap, cur, h3, -⟩
            · simp only [Value.slice.injEq] at h3; exact ⟨List.eq_nil_of_length_eq_zero h3.2.1, h3.2.2⟩
            · simp at h3
          obtain ⟨hn1, hn2⟩ := hnil
          subst hn1
          subst hn2
          simp only [List.length_nil] at ha
          have hp0 : pat = 0 := by omega
          subst hp0
          have hpl : 0 ≤ ([] : List Int).length := Nat.zero_le _
          have hpid := HP.out.id
          go_wp2_with (refine wpList_pushI _ rfl (.tmp 86) (.tmp 89) rfl w7.heap.size (.slice none 0 0) [] rfl (OwnZ.nil _ _) pi ⟨w7.heap.size, 0, none⟩ 1 rfl (newCells w7 _ _ 0 _ rfl) (by simp) (by simp) ?_; intro v10 w10 q1 q2 q3; rw [List.nil_append] at q1; have R10 : Hid (OwnZ w10 w7.heap.size v10 [pi]) := q1; have B10 : Hid (Below w7.heap.size w7 w10) := (below_one _ _).trans (grownB (OwnZ.nil _ w7.heap.size) q2 (by simp)); clear q1 q2 q3)
          have X10 : Hid (w10.heap[w.heap.size]? = some (.cells #[.slice (some ⟨b, 0, none⟩) ns.length vc, .int .i64 root, .int .i64 next] 24 (0, 0)) ∧ w10.heap[w.heap.size + 1]? = some (.cells #[.int .i64 pw, .int .i64 pi, .int .i64 pp, .int .i64 0, .string pg, .string pk, .string pt, .string pn, .string pv] 26 (0, 0)) ∧ w10.heap[w.heap.size + 2]? = some (.cells #[.slice none 0 0, .int .i64 0, .int .i64 0] 24 (0, 0))) := ⟨(B10.out.block _ (lt_of_block X7.out.1)).trans X7.out.1, (B10.out.block _ (lt_of_block X7.out.2.1)).trans X7.out.2.1, (B10.out.block _ (lt_of_block X7.out.2.2)).trans X7.out.2.2⟩
          obtain ⟨sa, sc, hsv⟩ : ∃ a c, v10 = Value.slice a 1 c := R10.out.shape
          subst hsv
          clear x0 x1 x2 n0 n1 n2 n3 n4 n5 n6 n7 n8 z0 z1 z2 zf0 zf1 zf2
          obtain ⟨x0, x1, x2⟩ := three X10.out.1
          obtain ⟨n0, n1, n2, n3, n4, n5, n6, n7, n8⟩ := nine X10.out.2.1
          obtain ⟨⟨z0, z1, z2⟩, zf0, zf1, zf2⟩ : (w10.cell? ⟨w.heap.size + 2, 0, none⟩ = some (.slice none 0 0) ∧ w10.cell? ⟨w.heap.size + 2, 1, none⟩ = some (.int .i64 0) ∧ w10.cell? ⟨w.heap.size + 2, 2, none⟩ = some (.int .i64 0)) ∧ w10.frozen? ⟨w.heap.size + 2, 0, none⟩ = false ∧ w10.frozen? ⟨w.heap.size + 2, 1, none⟩ = false ∧ w10.frozen? ⟨w.heap.size + 2, 2, none⟩ = false := ⟨three X10.out.2.2, (cell_of X10.out.2.2 0).2, (cell_of X10.out.2.2 1).2, (cell_of X10.out.2.2 2).2⟩
          have HS2 : (fun w' : World => w'.cell? ⟨w.heap.size, 0, none⟩ = some (.slice (some ⟨b, 0, none⟩) ns.length vc) ∧ w'.cell? ⟨w.heap.size + 1, 3, none⟩ = some (.int .i64 0)) w10.drew := ⟨x0, n3⟩
          refine Rg.Till.region (fun w' : World => w'.cell? ⟨w.heap.size, 0, none⟩ = some (.slice (some ⟨b, 0, none⟩) ns.length vc) ∧ w'.cell? ⟨w.heap.size + 1, 3, none⟩ = some (.int .i64 0)) 11 (by kernel_rfl) ?_
          show Rg.Till _ _ _ _ _ 12 (Array.replicate 12 false) _ _
          refine Rg.Till.take (i := 0) (v := .pointer (some ⟨w.heap.size, 0, none⟩)) (some 91) rfl rfl (by kernel_rfl) (by kernel_rfl) (fun _ _ _ h => h) (by kernel_rfl) (by kernel_rfl) (Or.inl ⟨rfl, fun w' hS => ?_⟩) HS2 ?_
          · obtain ⟨y0, y1⟩ := hS; go_simp
          simp only [Act.put, List.setIfInBounds_toArray, List.set_cons_zero, List.set_cons_succ]
          refine Rg.Till.take (i := 1) (v := .slice (some ⟨b, 0, none⟩) ns.length vc) (some 92) rfl rfl (by kernel_rfl) (by kernel_rfl) (fun _ _ _ h => h) (by kernel_rfl) (by kernel_rfl) (Or.inl ⟨rfl, fun w' hS => ?_⟩) HS2 ?_
          · obtain ⟨y0, y1⟩ := hS; go_simp
          simp only [Act.put, List.setIfInBounds_toArray, List.set_cons_zero, List.set_cons_succ]
          refine Rg.Till.take (i := 2) (v := .int .i64 (t : Int)) (some 93) rfl rfl (by kernel_rfl) (by kernel_rfl) (fun _ _ _ h => h) (by kernel_rfl) (by kernel_rfl) (Or.inl ⟨rfl, fun w' hS => ?_⟩) HS2 ?_
          · obtain ⟨y0, y1⟩ := hS; go_simp
          simp only [Act.put, List.setIfInBounds_toArray, List.set_cons_zero, List.set_cons_succ]
          refine Rg.Till.take (i := 3) (v := .slice sa 1 sc) (some 94) rfl rfl (by kernel_rfl) (by kernel_rfl) (fun _ _ _ h => h) (by kernel_rfl) (by kernel_rfl) (Or.inl ⟨rfl, fun w' hS => ?_⟩) HS2 ?_
          · obtain ⟨y0, y1⟩ := hS; go_simp
          simp only [Act.put, List.setIfInBounds_toArray, List.set_cons_zero, List.set_cons_succ]
          refine Rg.Till.take (i := 4) (v := .slice none 0 0) (some 95) rfl rfl (by kernel_rfl) (by kernel_rfl) (fun _ _ _ h => h) (by kernel_rfl) (by kernel_rfl) (Or.inl ⟨rfl, fun w' hS => ?_⟩) HS2 ?_
          · obtain ⟨y0, y1⟩ := hS; go_simp
          simp only [Act.put, List.setIfInBounds_toArray, List.set_cons_zero, List.set_cons_succ]
          refine Rg.Till.take (i := 5) (v := .pointer (some ⟨w.heap.size + 1, 3, none⟩)) (some 96) rfl rfl (by kernel_rfl) (by kernel_rfl) (fun _ _ _ h => h) (by kernel_rfl) (by kernel_rfl) (Or.inl ⟨rfl, fun w' hS => ?_⟩) HS2 ?_
          · obtain ⟨y0, y1⟩ := hS; go_simp
          simp only [Act.put, List.setIfInBounds_toArray, List.set_cons_zero, List.set_cons_succ]
          refine Rg.Till.take (i := 6) (v := .int .i64 0) (some 97) rfl rfl (by kernel_rfl) (by kernel_rfl) (fun _ _ _ h => h) (by kernel_rfl) (by kernel_rfl) (Or.inl ⟨rfl, fun w' hS => ?_⟩) HS2 ?_
          · obtain ⟨y0, y1⟩ := hS; go_simp
          simp only [Act.put, List.setIfInBounds_toArray, List.set_cons_zero, List.set_cons_succ]
          refine Rg.Till.oneK (i := 7) (by kernel_rfl) rfl rfl ?_
          intro K hK
          go_simp
          refine hK.out _ _ (fun _ => HS2) ?_
          clear hK K
          refine Rg.Till.oneK (i := 8) (by kernel_rfl) rfl rfl ?_
          intro K hK
          have R11 : OwnZ w10.drew w7.heap.size (.slice sa 1 sc) [pi] := R10.out
          refine op_appZ (d := some 99) rfl _ _ rfl w7.heap.size (.slice sa 1 sc) [pi] rfl R11 none 0 0 [] rfl ?_ ?_ ?_ ?_ B10.out.size ?_
          · rfl
          · intro _; exact ⟨rfl, rfl⟩
          · intro j k hj; simp at hj
          · simp
          · intro v12 w12 q1 q2 q3
            obtain ⟨ea, ec, hv⟩ := q1.shape
            generalize ([pi] ++ []).length = el at hv
            subst hv
            have b12 : Below w7.heap.size w7 w12 := B10.out.drew.trans (grownB R11 q2 B10.out.size)
            have X12 : Hid (w12.heap[w.heap.size]? = some (.cells #[.slice (some ⟨b, 0, none⟩) ns.length vc, .int .i64 root, .int .i64 next] 24 (0, 0)) ∧ w12.heap[w.heap.size + 1]? = some (.cells #[.int .i64 pw, .int .i64 pi, .int .i64 pp, .int .i64 0, .string pg, .string pk, .string pt, .string pn, .string pv] 26 (0, 0)) ∧ w12.heap[w.heap.size + 2]? = some (.cells #[.slice none 0 0, .int .i64 0, .int .i64 0] 24 (0, 0))) := ⟨(b12.block _ (lt_of_block X7.out.1)).trans X7.out.1, (b12.block _ (lt_of_block X7.out.2.1)).trans X7.out.2.1, (b12.block _ (lt_of_block X7.out.2.2)).trans X7.out.2.2⟩
            have HS3 : (fun w' : World => w'.cell? ⟨w.heap.size, 0, none⟩ = some (.slice (some ⟨b, 0, none⟩) ns.length vc) ∧ w'.cell? ⟨w.heap.size + 1, 3, none⟩ = some (.int .i64 0)) w12 := ⟨(three X12.out.1).1, (nine X12.out.2.1).2.2.2.1⟩
            refine hK.out _ _ (fun _ => HS3) ?_
            clear hK K
            simp only [Act.put, List.setIfInBounds_toArray, List.set_cons_zero, List.set_cons_succ]
            refine Rg.Till.oneK (i := 9) (by kernel_rfl) rfl rfl ?_
            intro K hK
            go_simp
            refine hK.out _ _ (fun _ => HS3) ?_
            clear hK K
            refine Rg.Till.oneK (i := 10) (by kernel_rfl) rfl rfl ?_
            intro K hK
            go_simp
            refine hK.out _ _ (fun _ => HS3) ?_
            clear hK K
            have O12 : Pg.OwnN w12 B (.slice (some ⟨b, 0, none⟩) ns.length vc) (offP ns pi) ab kb7 := O7.out.1.below b12
            obtain ⟨m1, hm1⟩ : ∃ m1, (offP ns pi)[t]? = some m1 := ⟨_, List.getElem?_eq_getElem (by rw [offP_length]; exact htl)⟩
            obtain ⟨g, hg, -, -, -, -, -, -, z6⟩ := Pg.rowN_cells O12.row hm1
            simp only [Option.some.injEq, Addr.mk.injEq, and_true] at hg
            subst hg
            have f6 : w12.frozen? ⟨b, t * 7 + 6, none⟩ = false := own_frozen O12.row _
            refine Rg.Till.oneK (i := 11) (by kernel_rfl) rfl rfl ?_
            intro K hK
            go_simp
            refine hK.out _ _ (fun h => absurd rfl h) ?_
            clear hK K
            refine Rg.Till.done (by kernel_rfl) ?_
            have hB0 := HB.out
            have hw7 := K7.out.size
            have hK12 : OwnZ w12 B (.slice ea el ec) (insZ [] 0 pi) := OwnZ.less q1 (by omega)
            have hfit := insZ_i64 (i := 0) (x := pi) hpl HLF.out.1 hpid (by omega)
            have O13 : Hid (Pg.OwnN (w12.setCell ⟨b, t * 7 + 6, none⟩ (.slice ea el ec)) B (.slice (some ⟨b, 0, none⟩) ns.length vc) ((offP ns pi).set t (m1.withKids (insZ [] 0 pi))) ab (upd kb7 t (.slice ea el ec))) := O12.setKids hm1 hK12 hfit (fun j b' hj h1 h2 => by have h3 := (q1.lt b' h1).1; have h4 : b' < w7.heap.size := (O7.out.1.foot (Or.inr (Or.inr ⟨j, hj, h2⟩))).2; omega)
            have X13 : Hid ((w12.setCell ⟨b, t * 7 + 6, none⟩ (.slice ea el ec)).heap[w.heap.size]? = some (.cells #[.slice (some ⟨b, 0, none⟩) ns.length vc, .int .i64 root, .int .i64 next] 24 (0, 0)) ∧ (w12.setCell ⟨b, t * 7 + 6, none⟩ (.slice ea el ec)).heap[w.heap.size + 1]? = some (.cells #[.int .i64 pw, .int .i64 pi, .int .i64 pp, .int .i64 0, .string pg, .string pk, .string pt, .string pn, .string pv] 26 (0, 0)) ∧ (w12.setCell ⟨b, t * 7 + 6, none⟩ (.slice ea el ec)).heap[w.heap.size + 2]? = some (.cells #[.slice none 0 0, .int .i64 0, .int .i64 0] 24 (0, 0))) := ⟨(heap_set_other _ (by omega)).trans X12.out.1, (heap_set_other _ (by omega)).trans X12.out.2.1, (heap_set_other _ (by omega)).trans X12.out.2.2⟩
            have k12 : Kept (fun j => (Value.slice (some ⟨b, 0, none⟩) ns.length vc).ownBlock = some j) w w12 := ⟨b12.os.trans K7.out.os, b12.tape.trans K7.out.tape, b12.output.trans K7.out.output, Nat.le_trans K7.out.size b12.size, fun j hj hne => (b12.block j (by omega)).trans (K7.out.block j hj hne)⟩
            have K13 : Hid (Kept (fun j => (Value.slice (some ⟨b, 0, none⟩) ns.length vc).ownBlock = some j) w (w12.setCell ⟨b, t * 7 + 6, none⟩ (.slice ea el ec))) := k12.setCell _ rfl
            obtain ⟨nn, hnn⟩ : ∃ nn, ((offP ns pi).set t (m1.withKids (insZ [] 0 pi)))[q]? = some nn := ⟨_, List.getElem?_eq_getElem (by rw [List.length_set, offP_length]; exact hql)⟩
            have HHU : Hid (hungP ns m q t ⟨pw, pi, pp, 0, pg, pk, pt, pn, pv⟩ = ((offP ns pi).set t (m1.withKids (insZ [] 0 pi))).set q (nn.withPar pp)) := by show _ = _; unfold hungP; simp only [Int.toNat_zero, hlk]; rw [hm1]; simp only; rw [hnn]
            have HNN : Hid (((offP ns pi).set t (m1.withKids (insZ [] 0 pi)))[q]? = some nn) := hnn
            have HBB : Hid (B ≤ b) := (HO.out.foot (Or.inl rfl)).1
            clear hm1 hnn O12 q1 q2 q3 k12 hK12 hfit HS2 HS3 z6 f6 b12 X10 X12 R11 R10 B10 O7 K7 L7 X7 x0 x1 x2 n0 n1 n2 n3 n4 n5 n6 n7 n8 z0 z1 z2 zf0 zf1 zf2
            generalize ((offP ns pi).set t (m1.withKids (insZ [] 0 pi))) = ns13 at *
            generalize upd kb7 t (.slice ea el ec) = kb13 at *
            generalize (w12.setCell ⟨b, t * 7 + 6, none⟩ (.slice ea el ec)) = w13 at *
            obtain ⟨g, hg, -, r1, -, -, -, -, -⟩ := Pg.rowN_cells O13.out.row HNN.out
            simp only [Option.some.injEq, Addr.mk.injEq, and_true] at hg
            subst hg
            have r1f : w13.frozen? ⟨b, q * 7 + 1, none⟩ = false := own_frozen O13.out.row _
            obtain ⟨y0, y1, y2⟩ := three X13.out.1
            have yp := (nine X13.out.2.1).2.2.1
            have X14 : Hid ((w13.setCell ⟨b, q * 7 + 1, none⟩ (.int .i64 pp)).heap[w.heap.size]? = some (.cells #[.slice (some ⟨b, 0, none⟩) ns.length vc, .int .i64 root, .int .i64 next] 24 (0, 0)) ∧ (w13.setCell ⟨b, q * 7 + 1, none⟩ (.int .i64 pp)).heap[w.heap.size + 1]? = some (.cells #[.int .i64 pw, .int .i64 pi, .int .i64 pp, .int .i64 0, .string pg, .string pk, .string pt, .string pn, .string pv] 26 (0, 0)) ∧ (w13.setCell ⟨b, q * 7 + 1, none⟩ (.int .i64 pp)).heap[w.heap.size + 2]? = some (.cells #[.slice none 0 0, .int .i64 0, .int .i64 0] 24 (0, 0))) := ⟨(heap_set_other _ (by omega)).trans X13.out.1, (heap_set_other _ (by omega)).trans X13.out.2.1, (heap_set_other _ (by omega)).trans X13.out.2.2⟩
            obtain ⟨u0, u1, u2⟩ := three X14.out.1
            have O14 := O13.out.setP HNN.out HP.out.par
            have k14 : Kept (fun j => (Value.slice (some ⟨b, 0, none⟩) ns.length vc).ownBlock = some j) w (w13.setCell ⟨b, q * 7 + 1, none⟩ (.int .i64 pp)) := K13.out.setCell _ rfl
            have B14 : Below B w (w13.setCell ⟨b, q * 7 + 1, none⟩ (.int .i64 pp)) := ⟨k14.os, k14.tape, k14.output, k14.size, fun j hj => k14.block j (by have := HB.out; omega) (fun e => by have h1 := HBB.out; simp only [Value.ownBlock, Option.some.injEq] at e; omega)⟩
            have Z14 : (w13.setCell ⟨b, q * 7 + 1, none⟩ (.int .i64 pp)).heap[w.heap.size + 1 + 1]? = some (.cells #[.slice none 0 0, .int .i64 0, .int .i64 0] 24 (0, 0)) := X14.out.2.2
            obtain ⟨⟨z0, z1, z2⟩, zf0, zf1, zf2⟩ : ((w13.setCell ⟨b, q * 7 + 1, none⟩ (.int .i64 pp)).cell? ⟨w.heap.size + 2, 0, none⟩ = some (.slice none 0 0) ∧ (w13.setCell ⟨b, q * 7 + 1, none⟩ (.int .i64 pp)).cell? ⟨w.heap.size + 2, 1, none⟩ = some (.int .i64 0) ∧ (w13.setCell ⟨b, q * 7 + 1, none⟩ (.int .i64 pp)).cell? ⟨w.heap.size + 2, 2, none⟩ = some (.int .i64 0)) ∧ (w13.setCell ⟨b, q * 7 + 1, none⟩ (.int .i64 pp)).frozen? ⟨w.heap.size + 2, 0, none⟩ = false ∧ (w13.setCell ⟨b, q * 7 + 1, none⟩ (.int .i64 pp)).frozen? ⟨w.heap.size + 2, 1, none⟩ = false ∧ (w13.setCell ⟨b, q * 7 + 1, none⟩ (.int .i64 pp)).frozen? ⟨w.heap.size + 2, 2, none⟩ = false := ⟨three X14.out.2.2, (cell_of X14.out.2.2 0).2, (cell_of X14.out.2.2 1).2, (cell_of X14.out.2.2 2).2⟩
            obtain ⟨f1, f2, f3⟩ := state_fin (v := .slice (some ⟨b, 0, none⟩) ns.length vc) (r := .int .i64 root) (n := .int .i64 next) Z14
            have f3 := f3 B w (by have := HB.out; omega) B14
            have O15 : Hid (Pg.OwnN ((((w13.setCell ⟨b, q * 7 + 1, none⟩ (.int .i64 pp)).setCell ⟨w.heap.size + 1 + 1, 0, none⟩ (.slice (some ⟨b, 0, none⟩) ns.length vc)).setCell ⟨w.heap.size + 1 + 1, 1, none⟩ (.int .i64 root)).setCell ⟨w.heap.size + 1 + 1, 2, none⟩ (.int .i64 next)) B (.slice (some ⟨b, 0, none⟩) ns.length vc) (ns13.set q (nn.withPar pp)) ab kb13) := O14.same fun b hb => f2 b (O14.notState Z14 hb)
            have F1 : Hid (_ = some (Obj.cells _ _ _)) := f1
            have F3 : Hid (Below B w _) := f3
            clear f1 f2 f3 O14 k14 B14 Z14
            go_wp2_with fail
            all_goals (
            clear r1 r1f y0 y1 y2 yp u0 u1 u2 z0 z1 z2 zf0 zf1 zf2
            generalize (((w13.setCell ⟨b, q * 7 + 1, none⟩ (.int .i64 pp)).setCell ⟨w.heap.size + 1 + 1, 0, none⟩ (.slice (some ⟨b, 0, none⟩) ns.length vc)).setCell ⟨w.heap.size + 1 + 1, 1, none⟩ (.int .i64 root)).setCell ⟨w.heap.size + 1 + 1, 2, none⟩ (.int .i64 next) = W9 at *
            obtain ⟨c0, c1, c2⟩ := three F1.out
            refine bodyPost_ret (v := .tuple #[.agg #[.slice (some ⟨b, 0, none⟩) ns.length vc, .int .i64 root, .int .i64 next], .int .i64 0]) (by simp [results, Tryz.results20, go_sem, c0, c1, c2]) rfl ?_
            rw [HR.out, HHU.out]
            exact ⟨_, _, _, rfl, O15.out, F3.out⟩)
        | some kad =>
          obtain ⟨pa, hpa⟩ : ∃ k : Nat, pat = (k : Int) := ⟨pat.toNat, by omega⟩
          subst hpa
          have hpl : pa ≤ LK.length := by omega
          have hnm := L7.out.nm HLF.out.1 HLF.out.2
          have LT : Hid (LayZ w7 (some kad) LK) := hnm.1
          have hpid := HP.out.id
          have htl2 : (LK.take pa).length = pa := by rw [List.length_take]; omega
          have HTL : Hid ((LK.take pa).length = pa) := htl2
          clear hnm
          go_wp2_with (first | (refine wpList_appZ _ rfl (.tmp 80) (.tmp 84) rfl w7.heap.size (.slice none 0 0) [] rfl (OwnZ.nil _ _) (some kad) pa kc (LK.take pa) rfl HTL.out (fun h => by cases h) (LT.out.upto pa) (by have := HLF.out.2; simp; omega) (Nat.le_refl _) ?_; intro v8 w8 q1 q2 q3; rw [List.nil_append] at q1; obtain ⟨ra, rc, rfl⟩ : ∃ a c, v8 = Value.slice a pa c := (by obtain ⟨a, c, h⟩ := q1.shape; exact ⟨a, c, by rw [h, HTL.out]⟩); have R8 : Hid (OwnZ w8 w7.heap.size (.slice ra pa rc) (LK.take pa)) := q1; have B8 : Hid (Below w7.heap.size w7 w8) := grownB (OwnZ.nil w7 w7.heap.size) q2 (Nat.le_refl _); clear q1 q2 q3; have n1 := keepc B8.out _ _ n1; have R9 : Hid (OwnZ (w8.alloc (.cells #[.int .i64 pi] 3)) w7.heap.size (.slice ra pa rc) (LK.take pa)) := R8.out.below (below_one _ _); have S9 : Hid (w7.heap.size ≤ (w8.alloc (.cells #[.int .i64 pi] 3)).heap.size) := Nat.le_trans B8.out.size (below_one _ _).size) | (refine wpList_pushI _ rfl (.tmp 86) (.tmp 89) rfl w7.heap.size _ (LK.take pa) rfl R9.out pi ⟨w8.heap.size, 0, none⟩ 1 rfl (newCells w8 _ _ 0 _ rfl) (by have := HLF.out.2; have := HTL.out; omega) S9.out ?_; intro v10 w10 q1 q2 q3; have R10 : Hid (OwnZ w10 w7.heap.size v10 (LK.take pa ++ [pi])) := q1; have B10 : Hid (Below w7.heap.size w7 w10) := (nxt B8.out (below_one _ _)).trans (grownB R9.out q2 S9.out); clear q1 q2 q3))
          have X10 : Hid (w10.heap[w.heap.size]? = some (.cells #[.slice (some ⟨b, 0, none⟩) ns.length vc, .int .i64 root, .int .i64 next] 24 (0, 0)) ∧ w10.heap[w.heap.size + 1]? = some (.cells #[.int .i64 pw, .int .i64 pi, .int .i64 pp, .int .i64 (pa : Int), .string pg, .string pk, .string pt, .string pn, .string pv] 26 (0, 0)) ∧ w10.heap[w.heap.size + 2]? = some (.cells #[.slice none 0 0, .int .i64 0, .int .i64 0] 24 (0, 0))) := ⟨(B10.out.block _ (lt_of_block X7.out.1)).trans X7.out.1, (B10.out.block _ (lt_of_block X7.out.2.1)).trans X7.out.2.1, (B10.out.block _ (lt_of_block X7.out.2.2)).trans X7.out.2.2⟩
          obtain ⟨sa, sc, hsv⟩ := R10.out.shape
          subst hsv
          clear R8 R9 S9 x0 x1 x2 n0 n2 n3 n4 n5 n6 n7 n8 z0 z1 z2 zf0 zf1 zf2
          obtain ⟨x0, x1, x2⟩ := three X10.out.1
          obtain ⟨n0, n1, n2, n3, n4, n5, n6, n7, n8⟩ := nine X10.out.2.1
          obtain ⟨⟨z0, z1, z2⟩, zf0, zf1, zf2⟩ : (w10.cell? ⟨w.heap.size + 2, 0, none⟩ = some (.slice none 0 0) ∧ w10.cell? ⟨w.heap.size + 2, 1, none⟩ = some (.int .i64 0) ∧ w10.cell? ⟨w.heap.size + 2, 2, none⟩ = some (.int .i64 0)) ∧ w10.frozen? ⟨w.heap.size + 2, 0, none⟩ = false ∧ w10.frozen? ⟨w.heap.size + 2, 1, none⟩ = false ∧ w10.frozen? ⟨w.heap.size + 2, 2, none⟩ = false := ⟨three X10.out.2.2, (cell_of X10.out.2.2 0).2, (cell_of X10.out.2.2 1).2, (cell_of X10.out.2.2 2).2⟩
          have HS2 : (fun w' : World => w'.cell? ⟨w.heap.size, 0, none⟩ = some (.slice (some ⟨b, 0, none⟩) ns.length vc) ∧ w'.cell? ⟨w.heap.size + 1, 3, none⟩ = some (.int .i64 (pa : Int))) w10.drew := ⟨x0, n3⟩
          refine Rg.Till.region (fun w' : World => w'.cell? ⟨w.heap.size, 0, none⟩ = some (.slice (some ⟨b, 0, none⟩) ns.length vc) ∧ w'.cell? ⟨w.heap.size + 1, 3, none⟩ = some (.int .i64 (pa : Int))) 11 (by kernel_rfl) ?_
          show Rg.Till _ _ _ _ _ 12 (Array.replicate 12 false) _ _
          refine Rg.Till.take (i := 0) (v := .pointer (some ⟨w.heap.size, 0, none⟩)) (some 91) rfl rfl (by kernel_rfl) (by kernel_rfl) (fun _ _ _ h => h) (by kernel_rfl) (by kernel_rfl) (Or.inl ⟨rfl, fun w' hS => ?_⟩) HS2 ?_
          · obtain ⟨y0, y1⟩ := hS; go_simp
          simp only [Act.put, List.setIfInBounds_toArray, List.set_cons_zero, List.set_cons_succ]
          refine Rg.Till.take (i := 1) (v := .slice (some ⟨b, 0, none⟩) ns.length vc) (some 92) rfl rfl (by kernel_rfl) (by kernel_rfl) (fun _ _ _ h => h) (by kernel_rfl) (by kernel_rfl) (Or.inl ⟨rfl, fun w' hS => ?_⟩) HS2 ?_
          · obtain ⟨y0, y1⟩ := hS; go_simp
          simp only [Act.put, List.setIfInBounds_toArray, List.set_cons_zero, List.set_cons_succ]
          refine Rg.Till.take (i := 2) (v := .int .i64 (t : Int)) (some 93) rfl rfl (by kernel_rfl) (by kernel_rfl) (fun _ _ _ h => h) (by kernel_rfl) (by kernel_rfl) (Or.inl ⟨rfl, fun w' hS => ?_⟩) HS2 ?_
          · obtain ⟨y0, y1⟩ := hS; go_simp
          simp only [Act.put, List.setIfInBounds_toArray, List.set_cons_zero, List.set_cons_succ]
          refine Rg.Till.take (i := 3) (v := .slice sa (LK.take pa ++ [pi]).length sc) (some 94) rfl rfl (by kernel_rfl) (by kernel_rfl) (fun _ _ _ h => h) (by kernel_rfl) (by kernel_rfl) (Or.inl ⟨rfl, fun w' hS => ?_⟩) HS2 ?_
          · obtain ⟨y0, y1⟩ := hS; go_simp
          simp only [Act.put, List.setIfInBounds_toArray, List.set_cons_zero, List.set_cons_succ]
          refine Rg.Till.take (i := 4) (v := .slice (some kad) LK.length kc) (some 95) rfl rfl (by kernel_rfl) (by kernel_rfl) (fun _ _ _ h => h) (by kernel_rfl) (by kernel_rfl) (Or.inl ⟨rfl, fun w' hS => ?_⟩) HS2 ?_
          · obtain ⟨y0, y1⟩ := hS; go_simp
          simp only [Act.put, List.setIfInBounds_toArray, List.set_cons_zero, List.set_cons_succ]
          refine Rg.Till.take (i := 5) (v := .pointer (some ⟨w.heap.size + 1, 3, none⟩)) (some 96) rfl rfl (by kernel_rfl) (by kernel_rfl) (fun _ _ _ h => h) (by kernel_rfl) (by kernel_rfl) (Or.inl ⟨rfl, fun w' hS => ?_⟩) HS2 ?_
          · obtain ⟨y0, y1⟩ := hS; go_simp
          simp only [Act.put, List.setIfInBounds_toArray, List.set_cons_zero, List.set_cons_succ]
          refine Rg.Till.take (i := 6) (v := .int .i64 (pa : Int)) (some 97) rfl rfl (by kernel_rfl) (by kernel_rfl) (fun _ _ _ h => h) (by kernel_rfl) (by kernel_rfl) (Or.inl ⟨rfl, fun w' hS => ?_⟩) HS2 ?_
          · obtain ⟨y0, y1⟩ := hS; go_simp
          simp only [Act.put, List.setIfInBounds_toArray, List.set_cons_zero, List.set_cons_succ]
          refine Rg.Till.oneK (i := 7) (by kernel_rfl) rfl rfl ?_
          intro K hK
          go_simp
          refine hK.out _ _ (fun _ => HS2) ?_
          clear hK K
          refine Rg.Till.oneK (i := 8) (by kernel_rfl) rfl rfl ?_
          intro K hK
          have R11 : OwnZ w10.drew w7.heap.size (.slice sa (LK.take pa ++ [pi]).length sc) (LK.take pa ++ [pi]) := R10.out
          have e11 : (LK.take pa ++ [pi]).length = pa + 1 := by rw [List.length_append, htl2]; rfl
          rw [e11] at R11
          have L11 : LayZ w10.drew (some (kad.add pa)) (LK.drop pa) := (LT.out.below B10.out).fromN pa
          have ed : (LK.drop pa).length = LK.length - pa := List.length_drop
          refine op_appZ (d := some 99) rfl _ _ rfl w7.heap.size (.slice sa (pa + 1) sc) (LK.take pa ++ [pi]) rfl R11 _ _ _ (LK.drop pa) rfl ?_ ?_ ?_ ?_ B10.out.size ?_
          · exact ed
          · intro h
            split at h <;> cases h
          · split
            · intro j k hj
              rw [List.drop_eq_nil_of_le (by omega)] at hj
              cases hj
            · exact L11
          · rw [e11]
            have := HLF.out.2
            omega
          · intro v12 w12 q1 q2 q3
            obtain ⟨ea, ec, hv⟩ := q1.shape
            generalize (LK.take pa ++ [pi] ++ LK.drop pa).length = el at hv
            subst hv
            have b12 : Below w7.heap.size w7 w12 := B10.out.drew.trans (grownB R11 q2 B10.out.size)
            have X12 : Hid (w12.heap[w.heap.size]? = some (.cells #[.slice (some ⟨b, 0, none⟩) ns.length vc, .int .i64 root, .int .i64 next] 24 (0, 0)) ∧ w12.heap[w.heap.size + 1]? = some (.cells #[.int .i64 pw, .int .i64 pi, .int .i64 pp, .int .i64 (pa : Int), .string pg, .string pk, .string pt, .string pn, .string pv] 26 (0, 0)) ∧ w12.heap[w.heap.size + 2]? = some (.cells #[.slice none 0 0, .int .i64 0, .int .i64 0] 24 (0, 0))) := ⟨(b12.block _ (lt_of_block X7.out.1)).trans X7.out.1, (b12.block _ (lt_of_block X7.out.2.1)).trans X7.out.2.1, (b12.block _ (lt_of_block X7.out.2.2)).trans X7.out.2.2⟩
            have HS3 : (fun w' : World => w'.cell? ⟨w.heap.size, 0, none⟩ = some (.slice (some ⟨b, 0, none⟩) ns.length vc) ∧ w'.cell? ⟨w.heap.size + 1, 3, none⟩ = some (.int .i64 (pa : Int))) w12 := ⟨(three X12.out.1).1, (nine X12.out.2.1).2.2.2.1⟩
            refine hK.out _ _ (fun _ => HS3) ?_
            clear hK K
            simp only [Act.put, List.setIfInBounds_toArray, List.set_cons_zero, List.set_cons_succ]
            refine Rg.Till.oneK (i := 9) (by kernel_rfl) rfl rfl ?_
            intro K hK
            go_simp
            refine hK.out _ _ (fun _ => HS3) ?_
            clear hK K
            refine Rg.Till.oneK (i := 10) (by kernel_rfl) rfl rfl ?_
            intro K hK
            go_simp
            refine hK.out _ _ (fun _ => HS3) ?_
            clear hK K
            have O12 : Pg.OwnN w12 B (.slice (some ⟨b, 0, none⟩) ns.length vc) (offP ns pi) ab kb7 := O7.out.1.below b12
            obtain ⟨m1, hm1⟩ : ∃ m1, (offP ns pi)[t]? = some m1 := ⟨_, List.getElem?_eq_getElem (by rw [offP_length]; exact htl)⟩
            obtain ⟨g, hg, -, -, -, -, -, -, z6⟩ := Pg.rowN_cells O12.row hm1
            simp only [Option.some.injEq, Addr.mk.injEq, and_true] at hg
            subst hg
            have f6 : w12.frozen? ⟨b, t * 7 + 6, none⟩ = false := own_frozen O12.row _
            refine Rg.Till.oneK (i := 11) (by kernel_rfl) rfl rfl ?_
            intro K hK
            go_simp
            refine hK.out _ _ (fun h => absurd rfl h) ?_
            clear hK K
            refine Rg.Till.done (by kernel_rfl) ?_
            have hB0 := HB.out
            have hw7 := K7.out.size
            have hK12 : OwnZ w12 B (.slice ea el ec) (insZ LK pa pi) := OwnZ.less q1 (by omega)
            have hfit := insZ_i64 (i := pa) (x := pi) hpl HLF.out.1 hpid (by omega)
            have O13 : Hid (Pg.OwnN (w12.setCell ⟨b, t * 7 + 6, none⟩ (.slice ea el ec)) B (.slice (some ⟨b, 0, none⟩) ns.length vc) ((offP ns pi).set t (m1.withKids (insZ LK pa pi))) ab (upd kb7 t (.slice ea el ec))) := O12.setKids hm1 hK12 hfit (fun j b' hj h1 h2 => by have h3 := (q1.lt b' h1).1; have h4 : b' < w7.heap.size := (O7.out.1.foot (Or.inr (Or.inr ⟨j, hj, h2⟩))).2; omega)
            have X13 : Hid ((w12.setCell ⟨b, t * 7 + 6, none⟩ (.slice ea el ec)).heap[w.heap.size]? = some (.cells #[.slice (some ⟨b, 0, none⟩) ns.length vc, .int .i64 root, .int .i64 next] 24 (0, 0)) ∧ (w12.setCell ⟨b, t * 7 + 6, none⟩ (.slice ea el ec)).heap[w.heap.size + 1]? = some (.cells #[.int .i64 pw, .int .i64 pi, .int .i64 pp, .int .i64 (pa : Int), .string pg, .string pk, .string pt, .string pn, .string pv] 26 (0, 0)) ∧ (w12.setCell ⟨b, t * 7 + 6, none⟩ (.slice ea el ec)).heap[w.heap.size + 2]? = some (.cells #[.slice none 0 0, .int .i64 0, .int .i64 0] 24 (0, 0))) := ⟨(heap_set_other _ (by omega)).trans X12.out.1, (heap_set_other _ (by omega)).trans X12.out.2.1, (heap_set_other _ (by omega)).trans X12.out.2.2⟩
            have k12 : Kept (fun j => (Value.slice (some ⟨b, 0, none⟩) ns.length vc).ownBlock = some j) w w12 := ⟨b12.os.trans K7.out.os, b12.tape.trans K7.out.tape, b12.output.trans K7.out.output, Nat.le_trans K7.out.size b12.size, fun j hj hne => (b12.block j (by omega)).trans (K7.out.block j hj hne)⟩
            have K13 : Hid (Kept (fun j => (Value.slice (some ⟨b, 0, none⟩) ns.length vc).ownBlock = some j) w (w12.setCell ⟨b, t * 7 + 6, none⟩ (.slice ea el ec))) := k12.setCell _ rfl
            obtain ⟨nn, hnn⟩ : ∃ nn, ((offP ns pi).set t (m1.withKids (insZ LK pa pi)))[q]? = some nn := ⟨_, List.getElem?_eq_getElem (by rw [List.length_set, offP_length]; exact hql)⟩
            have HHU : Hid (hungP ns m q t ⟨pw, pi, pp, (pa : Int), pg, pk, pt, pn, pv⟩ = ((offP ns pi).set t (m1.withKids (insZ LK pa pi))).set q (nn.withPar pp)) := by show _ = _; unfold hungP; simp only [Int.toNat_natCast, hlk]; rw [hm1]; simp only; rw [hnn]
            have HNN : Hid (((offP ns pi).set t (m1.withKids (insZ LK pa pi)))[q]? = some nn) := hnn
            have HBB : Hid (B ≤ b) := (HO.out.foot (Or.inl rfl)).1
            clear hm1 hnn O12 q1 q2 q3 k12 hK12 hfit HS2 HS3 z6 f6 b12 X10 X12 R11 L11 R10 B10 B8 LT O7 K7 L7 X7 x0 x1 x2 n0 n1 n2 n3 n4 n5 n6 n7 n8 z0 z1 z2 zf0 zf1 zf2
            generalize ((offP ns pi).set t (m1.withKids (insZ LK pa pi))) = ns13 at *
            generalize upd kb7 t (.slice ea el ec) = kb13 at *
            generalize (w12.setCell ⟨b, t * 7 + 6, none⟩ (.slice ea el ec)) = w13 at *
            obtain ⟨g, hg, -, r1, -, -, -, -, -⟩ := Pg.rowN_cells O13.out.row HNN.out
            simp only [Option.some.injEq, Addr.mk.injEq, and_true] at hg
            subst hg
            have r1f : w13.frozen? ⟨b, q * 7 + 1, none⟩ = false := own_frozen O13.out.row _
            obtain ⟨y0, y1, y2⟩ := three X13.out.1
            have yp := (nine X13.out.2.1).2.2.1
            have X14 : Hid ((w13.setCell ⟨b, q * 7 + 1, none⟩ (.int .i64 pp)).heap[w.heap.size]? = some (.cells #[.slice (some ⟨b, 0, none⟩) ns.length vc, .int .i64 root, .int .i64 next] 24 (0, 0)) ∧ (w13.setCell ⟨b, q * 7 + 1, none⟩ (.int .i64 pp)).heap[w.heap.size + 1]? = some (.cells #[.int .i64 pw, .int .i64 pi, .int .i64 pp, .int .i64 (pa : Int), .string pg, .string pk, .string pt, .string pn, .string pv] 26 (0, 0)) ∧ (w13.setCell ⟨b, q * 7 + 1, none⟩ (.int .i64 pp)).heap[w.heap.size + 2]? = some (.cells #[.slice none 0 0, .int .i64 0, .int .i64 0] 24 (0, 0))) := ⟨(heap_set_other _ (by omega)).trans X13.out.1, (heap_set_other _ (by omega)).trans X13.out.2.1, (heap_set_other _ (by omega)).trans X13.out.2.2⟩
            obtain ⟨u0, u1, u2⟩ := three X14.out.1
            have O14 := O13.out.setP HNN.out HP.out.par
            have k14 : Kept (fun j => (Value.slice (some ⟨b, 0, none⟩) ns.length vc).ownBlock = some j) w (w13.setCell ⟨b, q * 7 + 1, none⟩ (.int .i64 pp)) := K13.out.setCell _ rfl
            have B14 : Below B w (w13.setCell ⟨b, q * 7 + 1, none⟩ (.int .i64 pp)) := ⟨k14.os, k14.tape, k14.output, k14.size, fun j hj => k14.block j (by have := HB.out; omega) (fun e => by have h1 := HBB.out; simp only [Value.ownBlock, Option.some.injEq] at e; omega)⟩
            have Z14 : (w13.setCell ⟨b, q * 7 + 1, none⟩ (.int .i64 pp)).heap[w.heap.size + 1 + 1]? = some (.cells #[.slice none 0 0, .int .i64 0, .int .i64 0] 24 (0, 0)) := X14.out.2.2
            obtain ⟨⟨z0, z1, z2⟩, zf0, zf1, zf2⟩ : ((w13.setCell ⟨b, q * 7 + 1, none⟩ (.int .i64 pp)).cell? ⟨w.heap.size + 2, 0, none⟩ = some (.slice none 0 0) ∧ (w13.setCell ⟨b, q * 7 + 1, none⟩ (.int .i64 pp)).cell? ⟨w.heap.size + 2, 1, none⟩ = some (.int .i64 0) ∧ (w13.setCell ⟨b, q * 7 + 1, none⟩ (.int .i64 pp)).cell? ⟨w.heap.size + 2, 2, none⟩ = some (.int .i64 0)) ∧ (w13.setCell ⟨b, q * 7 + 1, none⟩ (.int .i64 pp)).frozen? ⟨w.heap.size + 2, 0, none⟩ = false ∧ (w13.setCell ⟨b, q * 7 + 1, none⟩ (.int .i64 pp)).frozen? ⟨w.heap.size + 2, 1, none⟩ = false ∧ (w13.setCell ⟨b, q * 7 + 1, none⟩ (.int .i64 pp)).frozen? ⟨w.heap.size + 2, 2, none⟩ = false := ⟨three X14.out.2.2, (cell_of X14.out.2.2 0).2, (cell_of X14.out.2.2 1).2, (cell_of X14.out.2.2 2).2⟩
            obtain ⟨f1, f2, f3⟩ := state_fin (v := .slice (some ⟨b, 0, none⟩) ns.length vc) (r := .int .i64 root) (n := .int .i64 next) Z14
            have f3 := f3 B w (by have := HB.out; omega) B14
            have O15 : Hid (Pg.OwnN ((((w13.setCell ⟨b, q * 7 + 1, none⟩ (.int .i64 pp)).setCell ⟨w.heap.size + 1 + 1, 0, none⟩ (.slice (some ⟨b, 0, none⟩) ns.length vc)).setCell ⟨w.heap.size + 1 + 1, 1, none⟩ (.int .i64 root)).setCell ⟨w.heap.size + 1 + 1, 2, none⟩ (.int .i64 next)) B (.slice (some ⟨b, 0, none⟩) ns.length vc) (ns13.set q (nn.withPar pp)) ab kb13) := O14.same fun b hb => f2 b (O14.notState Z14 hb)
            have F1 : Hid (_ = some (Obj.cells _ _ _)) := f1
            have F3 : Hid (Below B w _) := f3
            clear f1 f2 f3 O14 k14 B14 Z14
            go_wp2_with fail
            all_goals (
            clear r1 r1f y0 y1 y2 yp u0 u1 u2 z0 z1 z2 zf0 zf1 zf2
            generalize (((w13.setCell ⟨b, q * 7 + 1, none⟩ (.int .i64 pp)).setCell ⟨w.heap.size + 1 + 1, 0, none⟩ (.slice (some ⟨b, 0, none⟩) ns.length vc)).setCell ⟨w.heap.size + 1 + 1, 1, none⟩ (.int .i64 root)).setCell ⟨w.heap.size + 1 + 1, 2, none⟩ (.int .i64 next) = W9 at *
            obtain ⟨c0, c1, c2⟩ := three F1.out
            refine bodyPost_ret (v := .tuple #[.agg #[.slice (some ⟨b, 0, none⟩) ns.length vc, .int .i64 root, .int .i64 next], .int .i64 0]) (by simp [results, Tryz.results20, go_sem, c0, c1, c2]) rfl ?_
            rw [HR.out, HHU.out]
            exact ⟨_, _, _, rfl, O15.out, F3.out⟩)
end Go.Proofs.YtcdnakcojanaeabGreat
