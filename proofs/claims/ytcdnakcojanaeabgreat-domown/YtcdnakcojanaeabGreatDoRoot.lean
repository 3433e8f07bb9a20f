/-
  The program's setRoot (what a patch 7 does).
-/
import Derived.Test.YtcdnakcojanaeabGreatDoCreate
namespace Go.Proofs.YtcdnakcojanaeabGreat
open Go.ChangeShapes Go.WideShapes Go.ChangeAt Go.RowKit Go.Deep
open Do

set_option maxRecDepth 100000 in
set_option maxHeartbeats 1600000 in
theorem setRoot_any (s : Ds) (p : Pt) (B P : Nat) (w : World) (hs : DsAt w B P s) (hB : B ≤ w.heap.size) (hn : s.nodes.length ≤ 1024) (hu : Up s.nodes) :
    Calls Tryz.prog 45 #[.pointer (some ⟨P, 0, none⟩), mkP p] w fun e w' => PtPost w w' B P e (rootD s p) := by
  obtain ⟨v, ab, kb, hP, hO, hBP⟩ := hs
  obtain ⟨va, vc, hvs⟩ := hO.shape
  subst hvs
  have HO : Hid (OwnN w B (.slice va s.nodes.length vc) s.nodes ab kb) := hO
  have HP : Hid (w.heap[P]? = some (.cells #[.slice va s.nodes.length vc, .int .i64 s.root, .int .i64 s.next] 30 (0, 0))) := hP
  have HBP : Hid (B ≤ P) := hBP
  have HU : Hid (Up s.nodes) := hu
  have hPl : P < w.heap.size := lt_of_block hP
  obtain ⟨ns, root, next⟩ := s
  obtain ⟨pw, pi, pp, pat, pg, pk, pt, pn, pv⟩ := p
  simp only at *
  clear hP hO hBP hu
  have KP : Hid (∀ W, Below w.heap.size w W → W.heap[P]? = some (.cells #[.slice va ns.length vc, .int .i64 root, .int .i64 next] 30 (0, 0))) := fun W hb => (hb.block _ hPl).trans HP.out
  have HSTAY : Hid (∀ W, Below w.heap.size w W → DsAt W B P ⟨ns, root, next⟩ ∧ Below B w W) := fun W hb => ⟨⟨_, ab, kb, KP.out W hb, HO.out.below hb, HBP.out⟩, hb.mono hB⟩
  have HSET : Hid (∀ W x, Below w.heap.size w W → DsAt (W.setCell ⟨P, 1, none⟩ (.int .i64 x)) B P ⟨ns, x, next⟩ ∧ Below B w (W.setCell ⟨P, 1, none⟩ (.int .i64 x))) := by
    intro W x hb
    have h1 := KP.out W hb
    have hO' := HO.out.below hb
    have hbp := HBP.out
    have hb' := hb.mono hB
    refine ⟨⟨_, ab, kb, ?_, hO'.same fun b hb2 => heap_set_other _ (hO'.notState h1 hb2), hbp⟩, ⟨hb'.os, hb'.tape, hb'.output, by have := hb'.size; simpa [World.setCell] using this, fun j hj => (heap_set_other _ (by omega)).trans (hb'.block j hj)⟩⟩
    rw [set_one_cell h1]
    simp
  have HFI : Hid (∀ W, Below w.heap.size w W → Calls Tryz.prog 54 #[.slice va ns.length vc, .int .i64 pi] W fun e w' => ∃ v, e = .returned v ∧ FindIs va ns pi v ∧ Below W.heap.size W w') := fun W hb => find_any ns pi va vc W (HO.out.below hb).lay HU.out hn
  obtain ⟨W1, hW1⟩ : ∃ W : World, W = w.alloc (.cells #[.int .i64 pw, .int .i64 pi, .int .i64 pp, .int .i64 pat, .string pg, .string pk, .string pt, .string pn, .string pv] 35) := ⟨_, rfl⟩
  have B1 : Hid (Below w.heap.size w W1) := by show Below _ _ _; rw [hW1]; exact below_one _ _
  have X1 : Hid (W1.heap[w.heap.size]? = some (.cells #[.int .i64 pw, .int .i64 pi, .int .i64 pp, .int .i64 pat, .string pg, .string pk, .string pt, .string pn, .string pv] 35 (0, 0))) := by show _ = _; rw [hW1]; exact heap_alloc_new _ _
  by_cases h0 : pi = 0
  · subst h0
    have HR : Hid (rootD ⟨ns, root, next⟩ ⟨pw, 0, pp, pat, pg, pk, pt, pn, pv⟩ = (0, ⟨ns, 0, next⟩)) := by show _ = _; unfold rootD; simp
    have f1 := (cell_of (KP.out _ B1.out) 1).2
    obtain ⟨p0, p1, p2⟩ := three (KP.out _ B1.out)
    rw [hW1] at f1 p0 p1 p2
    go_enter Tryz.func45, Tryz.ntmps45
    go_wp2_with fail
    go_ret
    rw [HR.out]
    have h := HSET.out w 0 (Below.refl _ _)
    exact ⟨rfl, h.1.below (below_one _ _), h.2.trans ((below_one _ _).mono (by simpa [World.setCell] using hB))⟩
  · have g0 : (pi == 0) = false := by simpa using h0
    go_enter Tryz.func45, Tryz.ntmps45
    go_wp2_with fail
    rw [← hW1]
    clear hW1
    obtain ⟨-, y1, -, -, -, -, -, -, -⟩ := nine X1.out
    obtain ⟨p0, p1, p2⟩ := three (KP.out _ B1.out)
    have y1' : W1.drew.cell? ⟨w.heap.size, 1, none⟩ = some (.int .i64 pi) := y1
    have p0' : W1.drew.cell? ⟨P, 0, none⟩ = some (.slice va ns.length vc) := p0
    go_region_held3 (fun w' => w'.cell? ⟨w.heap.size, 1, none⟩ = some (.int .i64 pi) ∧ w'.cell? ⟨P, 0, none⟩ = some (.slice va ns.length vc)) (go_keep) ((go_at_call 54; refine (HFI.out W1.drew B1.out.drew).mono ?_; rintro e w2 ⟨fv, rfl, hfi, hb2⟩; have u1 := keepc hb2 _ _ y1'; have u0 := keepc hb2 _ _ p0'))
    have B2 : Hid (Below w.heap.size w w2) := nxt B1.out.drew hb2
    have X2 : Hid (w2.heap[w.heap.size]? = _) := (hb2.block _ (lt_of_block X1.out)).trans X1.out
    clear hb2 u1 u0 y1 p0 p1 p2 y1' p0'
    unfold FindIs at hfi
    cases hp : pl ns pi with
    | none =>
      rw [hp] at hfi
      simp only at hfi
      subst hfi
      have HR : Hid (rootD ⟨ns, root, next⟩ ⟨pw, pi, pp, pat, pg, pk, pt, pn, pv⟩ = (71, ⟨ns, root, next⟩)) := by show _ = _; unfold rootD; simp only; rw [if_neg h0, hp]
      clear hp
      go_wp2_with fail
      go_ret
      rw [HR.out]
      exact ⟨rfl, HSTAY.out _ B2.out⟩
    | some q =>
      rw [hp] at hfi
      simp only at hfi
      obtain ⟨b, o, ha, rfl⟩ := hfi
      obtain ⟨m, hm1, hm2⟩ := pl_some hp
      obtain ⟨b', o', maa, mac, mka, mkc, ha', hN⟩ := (HO.out.below B2.out).lay q m hm1
      subst ha
      cases ha'
      have HRE : Hid (rootD ⟨ns, root, next⟩ ⟨pw, pi, pp, pat, pg, pk, pt, pn, pv⟩ = if m.tag.size = 0 then (81, ⟨ns, root, next⟩) else if m.par ≠ 0 then (9, ⟨ns, root, next⟩) else (0, ⟨ns, pi, next⟩)) := by show _ = _; unfold rootD; simp only; rw [if_neg h0, hp]; simp only; rw [hm1]
      obtain ⟨r0, r1, r2, r3, r4, r5, r6, -, -, -⟩ := hN
      clear hm1 hm2 hp
      obtain ⟨mi, mp, mg, mk, mt, ma, mks⟩ := m
      simp only at *
      have CI : Hid (∀ W, Calls Tryz.prog 56 #[mkN mi mp mg mk mt maa ma.length mac mka mks.length mkc] W _) := fun W => istextN_any mi mp mg mk mt maa ma.length mac mka mks.length mkc W
      by_cases hg : mg.size = 0
      · rw [if_pos hg] at HRE
        have CJ : Hid (∀ W, Calls Tryz.prog 56 #[mkN mi mp mg mk mt maa ma.length mac mka mks.length mkc] W fun e w' => e = .returned (.bool true) ∧ Below W.heap.size W w') := fun W => by have := CI.out W; rwa [empty_true hg] at this
        clear CI
        go_wp2_with (go_at_call 56; refine (CJ.out _).mono ?_; rintro e w3 ⟨rfl, hb3⟩; have B3 : Hid (Below w.heap.size w w3) := nxt B2.out hb3; clear hb3)
        go_ret
        rw [HRE.out]
        exact ⟨rfl, HSTAY.out _ B3.out⟩
      · rw [if_neg hg] at HRE
        have CJ : Hid (∀ W, Calls Tryz.prog 56 #[mkN mi mp mg mk mt maa ma.length mac mka mks.length mkc] W fun e w' => e = .returned (.bool false) ∧ Below W.heap.size W w') := fun W => by have := CI.out W; rwa [empty_false hg] at this
        clear CI
        go_wp2_with fail
        refine (CJ.out _).mono ?_
        rintro e w3 ⟨rfl, hb3⟩
        have B3 : Hid (Below w.heap.size w w3) := nxt B2.out hb3
        have q1 := keepc hb3 _ _ r1
        have X3 := (hb3.block _ (lt_of_block X2.out)).trans X2.out
        obtain ⟨-, y1, -, -, -, -, -, -, -⟩ := nine X3
        obtain ⟨p0, p1, p2⟩ := three (KP.out _ B3.out)
        have f1 := (cell_of (KP.out _ B3.out) 1).2
        clear hb3 r0 r1 r2 r3 r4 r5 r6 X3
        by_cases hpr : mp = 0
        · subst hpr
          rw [if_neg (by simp)] at HRE
          go_wp2_with fail
          go_ret
          rw [HRE.out]
          exact ⟨rfl, HSET.out _ pi B3.out⟩
        · rw [if_pos hpr] at HRE
          have g1 : (mp != 0) = true := by simpa using hpr
          have g2 : (mp == 0) = false := by simpa using hpr
          go_wp2_with fail
          go_ret
          rw [HRE.out]
          exact ⟨rfl, HSTAY.out _ B3.out⟩
end Go.Proofs.YtcdnakcojanaeabGreat
