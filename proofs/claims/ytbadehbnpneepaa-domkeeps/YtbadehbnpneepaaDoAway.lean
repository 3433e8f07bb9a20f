/-
  The program's takeAway (what a patch 3 does).
-/
import Derived.Test.YtbadehbnpneepaaDoLeft
import Derived.BigRegion
namespace Go.Proofs.Ytbadehbnpneepaa
open Go.ChangeShapes Go.WideShapes Go.ChangeAt Go.RowKit Go.Deep Go.Maps Go.WideMaps
open Do

theorem OwnN.src {w : World} {B : Nat} {a : Option Addr} {l c : Nat} {ns : List Nd} {ab kb : Nat → Value} (h : OwnN w B (.slice a l c) ns ab kb) : SrcN w a ns ab kb := by
  intro i n hi
  obtain ⟨g, rfl, q0, q1, q2, q3, q4, q5, q6⟩ := rowN_cells h.row hi
  have hA := h.ats i n hi
  have hK := h.kids i n hi
  obtain ⟨aa, ac, ea⟩ := hA.shape
  obtain ⟨ka, kc, ek⟩ := hK.shape
  have hf := h.fit n (List.mem_of_getElem? hi)
  rw [ea] at q5 hA
  rw [ek] at q6 hK
  have hnm := hK.nm hf.kids.1 hf.kids.2
  refine ⟨g, 0, aa, ac, ka, kc, rfl, ?_, ea, ek⟩
  rw [Nat.zero_add]
  exact ⟨q0, q1, q2, q3, q4, q5, q6, ⟨hf.id, hf.par, hf.node, ⟨(cap_of_own hA).1, (cap_of_own hA).2, hf.node.2.2.2.1, none_of_own hA⟩, hnm.2.1, hnm.2.2.1, hnm.2.2.2.1, hnm.2.2.2.2.1, hnm.2.2.2.2.2⟩, hA.lay hf.atr, hnm.1⟩

/-- A map of one's own stays in what grows. -/
theorem mapBelow {w w' : World} {G m : Nat} {D : DataW Unit} (h : w.ownsMap Try.prog 3 unitElem G m D) (hb : Below w.heap.size w w') : w'.ownsMap Try.prog 3 unitElem G m D := h.kept (row := none) ⟨hb.os, hb.tape, hb.output, hb.size, fun j hj _ => hb.block j hj⟩ (by simp)

theorem mapSame {w w' : World} {G m : Nat} {D : DataW Unit} (h : w.ownsMap Try.prog 3 unitElem G m D) (hb : w'.heap[G]? = w.heap[G]?) : w'.ownsMap Try.prog 3 unitElem G m D := by
  obtain ⟨es, clock, h1, h2⟩ := h
  exact ⟨es, clock, hb.trans h1, h2⟩

/-- The end: the nodes that are left, in the variable. -/
theorem away_end {w w0 w7 : World} {B P b vc l0 : Nat} {ns : List Nd} {ab kb : Nat → Value} {L : List Int} {v' : Value} {ix : Nat → Nat} {root next : Int} {n0 : Value} (hO : OwnN w0 B (.slice (some ⟨b, 0, none⟩) l0 vc) ns ab kb) (hB : B ≤ w0.heap.size) (hBP : B ≤ P) (hP : w0.heap[P]? = some (.cells #[n0, .int .i64 root, .int .i64 next] 29 (0, 0)))
    (hpk : Pick ns ns.length (leftN ns L) ix) (hr : w7.ownsRow w0.heap.size 54 7 v' (leftN ns L).length (rowN (leftN ns L) (fun i => ab (ix i)) (fun i => kb (ix i)))) (hb : Below w0.heap.size w0 w7) (hw : Below B w w0) :
    DsAt (w7.setCell ⟨P, 0, none⟩ v') B P ⟨leftN ns L, root, next⟩ ∧ Below B w (w7.setCell ⟨P, 0, none⟩ v') := by
  have hP7 := (hb.block _ (lt_of_block hP)).trans hP
  have hPl := lt_of_block hP
  have o7 : OwnN w7 B v' (leftN ns L) (fun i => ab (ix i)) (fun i => kb (ix i)) := hO.pick hpk hb (own_less hr hB)
  have hne : ∀ j, footN v' (leftN ns L).length (fun i => ab (ix i)) (fun i => kb (ix i)) j → j ≠ P := fun j hj => o7.notState hP7 hj
  have o8 : OwnN (w7.setCell ⟨P, 0, none⟩ v') B v' (leftN ns L) (fun i => ab (ix i)) (fun i => kb (ix i)) := o7.same fun j hj => heap_set_other _ (hne j hj)
  have hb0 := hw.trans (hb.mono hB)
  refine ⟨⟨v', _, _, ?_, o8, hBP⟩, ⟨hb0.os, hb0.tape, hb0.output, by have := hb0.size; simpa [World.setCell] using this, fun j hj => (heap_set_other _ (by omega)).trans (hb0.block j hj)⟩⟩
  rw [set_one_cell hP7]
  simp

set_option maxRecDepth 100000 in
set_option maxHeartbeats 3200000 in
theorem away_any (s : Ds) (p : Pt) (B P : Nat) (w : World) (hs : DsAt w B P s) (hB : B ≤ w.heap.size) (hok : OkD s) :
    Calls Try.prog 53 #[.pointer (some ⟨P, 0, none⟩), mkP p] w fun e w' => PtPost w w' B P e (awayD s p) := by
  obtain ⟨v, ab, kb, hP, hO, hBP⟩ := hs
  obtain ⟨va, vc, hvs⟩ := hO.shape
  subst hvs
  have HO : Hid (OwnN w B (.slice va s.nodes.length vc) s.nodes ab kb) := hO
  have HP : Hid (w.heap[P]? = some (.cells #[.slice va s.nodes.length vc, .int .i64 s.root, .int .i64 s.next] 29 (0, 0))) := hP
  have HBP : Hid (B ≤ P) := hBP
  have HOK : Hid (OkD s) := hok
  have hn := hok.len
  have hPl : P < w.heap.size := lt_of_block hP
  have hmm := @run_makeMap Try.prog
  have HRT : Hid (-9223372036854775808 ≤ s.root ∧ s.root ≤ 9223372036854775807) := by
    show _ ∧ _
    rcases hok.root with h0 | ⟨m, h1, -⟩
    · omega
    · have h2 := nd_some h1
      have h3 := (hO.fit m h2.1).id
      rw [h2.2] at h3
      exact h3
  obtain ⟨ns, root, next⟩ := s
  obtain ⟨pw, pi, pp, pat, pg, pk, pt, pn, pv⟩ := p
  simp only at *
  clear hP hO hBP hok
  have HG : Hid (Do.Good ns) := HOK.out.good
  have KP : Hid (∀ W, Below w.heap.size w W → W.heap[P]? = some (.cells #[.slice va ns.length vc, .int .i64 root, .int .i64 next] 29 (0, 0))) := fun W hb => (hb.block _ hPl).trans HP.out
  have HSTAY : Hid (∀ W, Below w.heap.size w W → DsAt W B P ⟨ns, root, next⟩ ∧ Below B w W) := fun W hb => ⟨⟨_, ab, kb, KP.out W hb, HO.out.below hb, HBP.out⟩, hb.mono hB⟩
  have HFI : Hid (∀ W, Below w.heap.size w W → Calls Try.prog 48 #[.slice va ns.length vc, .int .i64 pi] W fun e w' => ∃ v, e = .returned v ∧ FindIs va ns pi v ∧ Below W.heap.size W w') := fun W hb => find_any ns pi va vc W (HO.out.below hb).lay HG.out.up hn
  obtain ⟨W1, hW1⟩ : ∃ W : World, W = w.alloc (.cells #[.int .i64 pw, .int .i64 pi, .int .i64 pp, .int .i64 pat, .string pg, .string pk, .string pt, .string pn, .string pv] 49) := ⟨_, rfl⟩
  have B1 : Hid (Below w.heap.size w W1) := by show Below _ _ _; rw [hW1]; exact below_one _ _
  have X1 : Hid (W1.heap[w.heap.size]? = some (.cells #[.int .i64 pw, .int .i64 pi, .int .i64 pp, .int .i64 pat, .string pg, .string pk, .string pt, .string pn, .string pv] 49 (0, 0))) := by show _ = _; rw [hW1]; exact heap_alloc_new _ _
  go_enter Try.func53, Try.ntmps53
  go_wp2_with fail
  rw [← hW1]
  clear hW1
  obtain ⟨-, y1, -, -, -, -, -, -, -⟩ := nine X1.out
  obtain ⟨p0, p1, p2⟩ := three (KP.out _ B1.out)
  have y1' : W1.drew.cell? ⟨w.heap.size, 1, none⟩ = some (.int .i64 pi) := y1
  have p0' : W1.drew.cell? ⟨P, 0, none⟩ = some (.slice va ns.length vc) := p0
  go_region_held3 (fun w' => w'.cell? ⟨w.heap.size, 1, none⟩ = some (.int .i64 pi) ∧ w'.cell? ⟨P, 0, none⟩ = some (.slice va ns.length vc)) (go_keep) ((go_at_call 48; refine (HFI.out W1.drew B1.out.drew).mono ?_; rintro e w2 ⟨fv, rfl, hfi, hb2⟩; have u1 := keepc hb2 _ _ y1'; have u0 := keepc hb2 _ _ p0'))
  have B2 : Hid (Below w.heap.size w w2) := nxt B1.out.drew hb2
  have X2 : Hid (w2.heap[w.heap.size]? = _) := (hb2.block _ (lt_of_block X1.out)).trans X1.out
  clear hb2 u1 u0 y1 p0 p1 p2 y1' p0' HFI
  unfold FindIs at hfi
  cases hp : pl ns pi with
  | none =>
    rw [hp] at hfi
    simp only at hfi
    subst hfi
    have HR : Hid (awayD ⟨ns, root, next⟩ ⟨pw, pi, pp, pat, pg, pk, pt, pn, pv⟩ = (71, ⟨ns, root, next⟩)) := by show _ = _; unfold awayD; simp only; rw [nd_none.2 hp]
    clear hp
    go_wp2_with fail
    go_ret
    rw [HR.out]
    exact ⟨rfl, HSTAY.out _ B2.out⟩
  | some q =>
    rw [hp] at hfi
    simp only at hfi
    obtain ⟨b, o, ha, rfl⟩ := hfi
    obtain ⟨m, hm1, hm2⟩ := pl_some hp
    have O2 : Hid (OwnN w2 B (.slice va ns.length vc) ns ab kb) := HO.out.below B2.out
    subst ha
    obtain ⟨g, hg, r0, r1, r2, r3, r4, r5, r6⟩ := rowN_cells O2.out.row hm1
    cases hg
    rw [Nat.zero_add]
    obtain ⟨mka, mkc, hmk⟩ := (O2.out.kids q m hm1).shape
    obtain ⟨maa, mac, hma⟩ := (O2.out.ats q m hm1).shape
    rw [hmk] at r6
    rw [hma] at r5
    have HND : Hid (nd ns pi = some m) := at_nd hp hm1
    have HRE : Hid (awayD ⟨ns, root, next⟩ ⟨pw, pi, pp, pat, pg, pk, pt, pn, pv⟩ = (0, ⟨leftN (offN ns m) (markL (offN ns m) (ns.length + 1) pi), if pi ≠ 0 ∧ root ∈ markL (offN ns m) (ns.length + 1) pi then 0 else root, next⟩)) := by show _ = _; unfold awayD; simp only; rw [HND.out]
    have HPI : Hid (pi ≠ 0) := by show pi ≠ 0; have := (HG.out.at HND.out).pos; omega
    have HDN : Hid (Down (offN ns m) (ns.length + 1) pi) := down_off HG.out.up m (HG.out.down HND.out (by omega))
    have HMI : Hid (m.id = pi) := hm2
    obtain ⟨p0, p1, p2⟩ := three (KP.out _ B2.out)
    have HTO : Hid (Calls Try.prog 77 #[.slice (some ⟨b, 0, none⟩) ns.length vc, mkN m.id m.par m.tag m.key m.txt maa m.ats.length mac mka m.kids.length mkc] w2.drew _) := takeOff_any ns m (some ⟨b, 0, none⟩) vc ab kb B maa m.ats.length mac mka m.kids.length mkc w2.drew (HO.out.below B2.out.drew) (Nat.le_trans hB B2.out.drew.size) HG.out.up hn (fun h => by obtain ⟨m1, e1, -⟩ := HG.out.par m (List.mem_of_getElem? hm1) h; obtain ⟨q1, e2, -⟩ := nd_at e1; exact ⟨q1, e2⟩)
    have p0' : w2.drew.cell? ⟨P, 0, none⟩ = some (.slice (some ⟨b, 0, none⟩) ns.length vc) := p0
    have c0' : w2.drew.cell? ⟨b, q * 7, none⟩ = some (.int .i64 m.id) := r0
    have c1' : w2.drew.cell? ⟨b, q * 7 + 1, none⟩ = some (.int .i64 m.par) := r1
    have c2' : w2.drew.cell? ⟨b, q * 7 + 2, none⟩ = some (.string m.tag) := r2
    have c3' : w2.drew.cell? ⟨b, q * 7 + 3, none⟩ = some (.string m.key) := r3
    have c4' : w2.drew.cell? ⟨b, q * 7 + 4, none⟩ = some (.string m.txt) := r4
    have c5' : w2.drew.cell? ⟨b, q * 7 + 5, none⟩ = some (.slice maa m.ats.length mac) := r5
    have c6' : w2.drew.cell? ⟨b, q * 7 + 6, none⟩ = some (.slice mka m.kids.length mkc) := r6
    have HPb : Hid (P ≠ b) := by
      show P ≠ b
      rintro rfl
      obtain ⟨cur, hcur⟩ := HO.out.rowBlock
      rw [HP.out] at hcur
      simp at hcur
    have HBb : Hid (B ≤ b ∧ b < w.heap.size) := HO.out.foot (b := b) (Or.inl rfl)
    clear r0 r1 r2 r3 r4 r5 r6 p0 p1 p2 hm1 hm2 hp hmk hma HSTAY
    go_wp2_with fail
    go_region_with (go_at_call 77; refine HTO.out.mono ?_; rintro e w3 ⟨rfl, h3, hk3⟩)
    all_goals (
      clear p0' c0' c1' c2' c3' c4' c5' c6' HTO
      obtain ⟨kb', h3, -⟩ := h3
      have O3 : Hid (OwnN w3 B (.slice (some ⟨b, 0, none⟩) ns.length vc) (offN ns m) ab kb') := h3
      have K3 : Hid (∀ j, j < w2.heap.size → j ≠ b → w3.heap[j]? = w2.heap[j]?) := fun j hj hne => hk3.block j hj (by intro h; simp only [Value.ownBlock, Option.some.injEq] at h; exact hne h.symm)
      have HW3 : Hid (Below B w w3) := by
        have h1 := B2.out.drew.mono hB
        exact h1.trans (hk3.low (by intro j h; simp only [Value.ownBlock, Option.some.injEq] at h; subst h; exact HBb.out.1) (Nat.le_trans hB B2.out.size))
      have X3 : Hid (w3.heap[w.heap.size]? = _) := (K3.out w.heap.size (lt_of_block X2.out) (Nat.ne_of_gt HBb.out.2)).trans X2.out
      have P3 : Hid (w3.heap[P]? = _) := (K3.out P (Nat.lt_of_lt_of_le hPl B2.out.size) HPb.out).trans (KP.out _ B2.out)
      have HS3 : Hid (w.heap.size < w3.heap.size) := lt_of_block X3.out
      clear h3 hk3
      have HL : Hid ((offN ns m).length = ns.length) := offN_length ns m
      have HUP : Hid (Up (offN ns m)) := off_up HG.out.up m
      clear O2 B2 X2 B1 X1 K3
      generalize offN ns m = ns' at *
      go_wp2_with fail
      obtain ⟨W4, hW4⟩ : ∃ W : World, W = (w3.alloc (.map #[] 0)).alloc (.cells #[.map (some w3.heap.size)] 113) := ⟨_, rfl⟩
      rw [← hW4]
      have B4 : Hid (Below w3.heap.size w3 W4) := by show Below _ _ _; rw [hW4]; exact two_new _ _ _
      have M4 : Hid (W4.ownsMap Try.prog 3 unitElem w3.heap.size 0 (Mz [])) := by show World.ownsMap _ _ _ _ _ _ _; rw [hW4]; exact (World.ownsMap_made _ _ _ _).alloc _
      have Q4 : Hid (W4.heap[w3.heap.size + 1]? = some (.cells #[.map (some w3.heap.size)] 113 (0, 0))) := by show _ = _; rw [hW4]; exact heap_new2 _ _ _
      clear hW4
      have O4 : Hid (OwnN W4 B (.slice (some ⟨b, 0, none⟩) ns.length vc) ns' ab kb') := O3.out.below B4.out
      have X4 : Hid (W4.heap[w.heap.size]? = _) := (B4.out.block _ (lt_of_block X3.out)).trans X3.out
      have P4 : Hid (W4.heap[P]? = _) := (B4.out.block _ (lt_of_block P3.out)).trans P3.out
      have HMK : Hid (Calls Try.prog 79 #[.map (some w3.heap.size), .slice (some ⟨b, 0, none⟩) ns.length vc, .int .i64 pi] W4.drew fun e w' => e = .returned (.tuple #[]) ∧ (∃ m', w'.ownsMap Try.prog 3 unitElem w3.heap.size m' (Mz (markL ns' (ns.length + 1) pi))) ∧ Kept (fun b => b = w3.heap.size) W4.drew w' ∧ CellsStay W4.drew w') := by
        have h := mark_any ns' (some ⟨b, 0, none⟩) vc HUP.out (by rw [HL.out]; exact hn) (ns.length + 1) pi w3.heap.size 0 [] W4.drew (O4.out.below (Below.refl _ W4).drew).lay HDN.out M4.out.drew (fun y hy => by cases hy)
        rw [HL.out] at h
        exact h
      have z0 := (cell_of Q4.out 0).1
      obtain ⟨-, y1, -, -, -, -, -, -, -⟩ := nine X4.out
      obtain ⟨p0, p1, p2⟩ := three P4.out
      have z0' : W4.drew.cell? ⟨w3.heap.size + 1, 0, none⟩ = some (.map (some w3.heap.size)) := z0
      have y1' : W4.drew.cell? ⟨w.heap.size, 1, none⟩ = some (.int .i64 pi) := y1
      have p0' : W4.drew.cell? ⟨P, 0, none⟩ = some (.slice (some ⟨b, 0, none⟩) ns.length vc) := p0
      clear z0 y1 p0 p1 p2
      go_region_held3 (fun w' => w'.cell? ⟨w3.heap.size + 1, 0, none⟩ = some (.map (some w3.heap.size)) ∧ w'.cell? ⟨w.heap.size, 1, none⟩ = some (.int .i64 pi) ∧ w'.cell? ⟨P, 0, none⟩ = some (.slice (some ⟨b, 0, none⟩) ns.length vc)) (go_keep) ((go_at_call 79; refine HMK.out.mono ?_; rintro e w5 ⟨rfl, hm5, hk5, hc5⟩; have u0 := hc5 _ _ z0'; have u1 := hc5 _ _ y1'; have u2 := hc5 _ _ p0'))
      obtain ⟨m5, hm5⟩ := hm5
      have M5 : Hid (w5.ownsMap Try.prog 3 unitElem w3.heap.size m5 (Mz (markL ns' (ns.length + 1) pi))) := hm5
      have K5 : Hid (∀ j, j < W4.heap.size → j ≠ w3.heap.size → w5.heap[j]? = W4.heap[j]?) := fun j hj hne => hk5.block j hj hne
      have O5 : Hid (OwnN w5 B (.slice (some ⟨b, 0, none⟩) ns.length vc) ns' ab kb') := O4.out.same fun j hj => K5.out j (O4.out.foot hj).2 (by have := (O3.out.foot hj).2; omega)
      have P5 : Hid (w5.heap[P]? = _) := (K5.out P (lt_of_block P4.out) (by have := lt_of_block P3.out; omega)).trans P4.out
      have Q5 : Hid (w5.heap[w3.heap.size + 1]? = _) := (K5.out _ (lt_of_block Q4.out) (by omega)).trans Q4.out
      have HW5 : Hid (Below B w w5) := by
        have h1 : Below B w W4 := HW3.out.trans (B4.out.mono (Nat.le_trans hB (Nat.le_of_lt HS3.out)))
        have h2 : Below B W4.drew w5 := hk5.low (by rintro j rfl; exact Nat.le_trans hB (Nat.le_of_lt HS3.out)) (Nat.le_trans (Nat.le_trans hB (Nat.le_of_lt HS3.out)) B4.out.size)
        exact h1.drew.trans h2
      have HS5 : Hid (w.heap.size < w5.heap.size) := Nat.lt_of_lt_of_le (Nat.lt_of_lt_of_le HS3.out B4.out.size) hk5.size
      have hkey : keyOf Try.prog 3 (.int .i64 root) = some (litZ root) := keyOf_int_mk Try.underlying3 (wfZ HRT.out)
      have HLK : Hid (∀ W, W.heap[w3.heap.size]? = w5.heap[w3.heap.size]? → Sem.run Try.prog (Instr.lookup 113 (.map (some w3.heap.size)) (.int .i64 root) true) W = .ok (.tuple #[.agg #[], .bool ((markL ns' (ns.length + 1) pi).contains root)]) W) := by
        intro W hW
        obtain ⟨v, ps, h1, h2⟩ := (mapSame M5.out hW).look_ok (P := Try.prog) (t := 113) (e := 115) lawInt Try.underlying113 (zeroUnitD W) unitElem_mk hkey
        obtain ⟨rfl, -⟩ := unitElem_inv h2
        rw [has_Mz] at h1
        exact h1
      clear hm5 hk5 hc5 u0 u1 u2 z0' y1' p0' HMK M4 Q4 O4 X4 P4 B4 O3 X3 P3 hkey
      obtain ⟨z5, -⟩ := cell_of Q5.out 0
      obtain ⟨p0, p1, p2⟩ := three P5.out
      have z5' : w5.drew.cell? ⟨w3.heap.size + 1, 0, none⟩ = some (.map (some w3.heap.size)) := z5
      have p1' : w5.drew.cell? ⟨P, 1, none⟩ = some (.int .i64 root) := p1
      have lk0 := HLK.out w5.drew rfl
      have lk1 := HLK.out (w5.alloc (.cells #[] 115)).drew ((below_one w5 _).block _ M5.out.lt)
      have z6' : (w5.alloc (.cells #[] 115)).drew.cell? ⟨w3.heap.size + 1, 0, none⟩ = some (.map (some w3.heap.size)) := keepc (below_one w5 _) _ _ z5
      have p6' : (w5.alloc (.cells #[] 115)).drew.cell? ⟨P, 1, none⟩ = some (.int .i64 root) := keepc (below_one w5 _) _ _ p1
      have HCB : Hid ((markL ns' (ns.length + 1) pi).contains root = (markL ns' (ns.length + 1) pi).contains root) := rfl
      clear HCB
      obtain ⟨L, hL⟩ : ∃ L, L = markL ns' (ns.length + 1) pi := ⟨_, rfl⟩
      rw [← hL] at lk0 lk1 HRE M5
      clear hL
      obtain ⟨bc, hbc⟩ : ∃ bc, bc = L.contains root := ⟨_, rfl⟩
      rw [← hbc] at lk0 lk1
      have HCB : Hid (bc = L.contains root) := hbc
      clear hbc HLK
      go_wp2_with fail
      generalize hw5 : w5 = wz at *
      go_region
      all_goals (
        have B6 : Hid (Below wz.heap.size wz (wz.alloc (.cells #[] 115)).drew) := (below_one wz _).drew
        clear z5 z5' p0 p1 p2 p1' z6' p6' lk0 lk1 hw5
        generalize (wz.alloc (.cells #[] 115)).drew = W6 at *
        have O6 : Hid (OwnN W6 B (.slice (some ⟨b, 0, none⟩) ns.length vc) ns' ab kb') := O5.out.below B6.out
        have P6 : Hid (W6.heap[P]? = _) := (B6.out.block _ (lt_of_block P5.out)).trans P5.out
        have Q6 : Hid (W6.heap[w3.heap.size + 1]? = _) := (B6.out.block _ (lt_of_block Q5.out)).trans Q5.out
        have M6 : Hid (W6.ownsMap Try.prog 3 unitElem w3.heap.size m5 (Mz L)) := mapBelow M5.out B6.out
        have HBZ : Hid (B ≤ wz.heap.size) := Nat.le_trans hB (Nat.le_of_lt HS5.out)
        have HW6 : Hid (Below B w W6) := HW5.out.trans (B6.out.mono HBZ.out)
        have HB6 : Hid (B ≤ W6.heap.size) := Nat.le_trans HBZ.out B6.out.size
        have HQP : Hid (w3.heap.size + 1 ≠ P ∧ w3.heap.size ≠ P) := by
          have := HS3.out
          exact ⟨by omega, by omega⟩
        clear O5 P5 Q5 M5 B6 HW5 HS5
        cases bc with
        | true =>
          have HRE' : Hid (awayD ⟨ns, root, next⟩ ⟨pw, pi, pp, pat, pg, pk, pt, pn, pv⟩ = (0, ⟨leftN ns' L, 0, next⟩)) := by
            show _ = _
            rw [HRE.out, if_pos ⟨HPI.out, List.contains_iff_mem.1 HCB.out.symm⟩]
          have O7 : Hid (OwnN (W6.setCell ⟨P, 1, none⟩ (.int .i64 0)) B (.slice (some ⟨b, 0, none⟩) ns.length vc) ns' ab kb') := O6.out.same fun j hj => heap_set_other _ (O6.out.notState P6.out hj)
          have P7 : Hid ((W6.setCell ⟨P, 1, none⟩ (.int .i64 0)).heap[P]? = some (.cells #[.slice (some ⟨b, 0, none⟩) ns.length vc, .int .i64 0, .int .i64 next] 29 (0, 0))) := by
            show _ = _
            rw [set_one_cell P6.out]
            simp
          have M7 : Hid ((W6.setCell ⟨P, 1, none⟩ (.int .i64 0)).ownsMap Try.prog 3 unitElem w3.heap.size m5 (Mz L)) := mapSame M6.out (heap_set_other _ HQP.out.2)
          have Q7 : Hid ((W6.setCell ⟨P, 1, none⟩ (.int .i64 0)).heap[w3.heap.size + 1]? = _) := (heap_set_other _ HQP.out.1).trans Q6.out
          have HW7 : Hid (Below B w (W6.setCell ⟨P, 1, none⟩ (.int .i64 0))) := by
            have h := HW6.out
            exact ⟨h.os, h.tape, h.output, by have := h.size; simpa [World.setCell] using this, fun j hj => (heap_set_other _ (by have := HBP.out; omega)).trans (h.block j hj)⟩
          have HB7 : Hid (B ≤ (W6.setCell ⟨P, 1, none⟩ (.int .i64 0)).heap.size) := by show B ≤ _; have := HB6.out; simpa [World.setCell] using this
          obtain ⟨q0, -, -⟩ := three P6.out
          obtain ⟨q1, q1f⟩ := cell_of P6.out 1
          go_wp2_with fail
          clear q0 q1 q1f
          generalize W6.setCell ⟨P, 1, none⟩ (.int .i64 0) = W7 at *
          obtain ⟨p0, p1, p2⟩ := three P7.out
          have z7 := (cell_of Q7.out 0).1
          have HWG : Hid (Calls Try.prog 71 #[.slice (some ⟨b, 0, none⟩) ns.length vc, .func (.func 80) #[] #[.pointer (some ⟨w3.heap.size + 1, 0, none⟩)]] W7 fun e w' => ∃ v ix, e = .returned v ∧ Pick ns' ns.length (leftN ns' L) ix ∧ w'.ownsRow W7.heap.size 54 7 v (leftN ns' L).length (rowN (leftN ns' L) (fun i => ab (ix i)) (fun i => kb' (ix i))) ∧ Below W7.heap.size W7 w') := by
            have h := withoutG_any ns' ab kb' L (w3.heap.size + 1) w3.heap.size m5 (some ⟨b, 0, none⟩) vc W7 O7.out.src (by rw [HL.out]; omega) z7 M7.out
            rw [HL.out] at h
            exact h
          go_wp2_with fail
          refine HWG.out.mono ?_
          rintro e w8 ⟨v8, ix, rfl, hpk, hr8, hb8⟩
          obtain ⟨a8, c8, hv8⟩ := slice_of_own hr8
          subst hv8
          have P8 := (hb8.block _ (lt_of_block P7.out)).trans P7.out
          obtain ⟨t0, t0f⟩ := cell_of P8 0
          rw [← HL.out] at hpk
          have HFIN : Hid (PtPost w (w8.setCell ⟨P, 0, none⟩ (.slice a8 (leftN ns' L).length c8)) B P (.returned (.int .i64 0)) (awayD ⟨ns, root, next⟩ ⟨pw, pi, pp, pat, pg, pk, pt, pn, pv⟩)) := by
            show PtPost _ _ _ _ _ _
            rw [HRE'.out]
            exact ⟨rfl, away_end O7.out HB7.out HBP.out P7.out hpk hr8 hb8 HW7.out⟩
          clear hpk hr8 hb8 P8 p0 p1 p2 z7 HWG
          go_wp2_with fail
          go_ret
          exact HFIN.out
        | false =>
          have HRE' : Hid (awayD ⟨ns, root, next⟩ ⟨pw, pi, pp, pat, pg, pk, pt, pn, pv⟩ = (0, ⟨leftN ns' L, root, next⟩)) := by
            show _ = _
            rw [HRE.out, if_neg]
            rintro ⟨-, h⟩
            rw [← List.contains_iff_mem, ← HCB.out] at h
            cases h
          obtain ⟨p0, p1, p2⟩ := three P6.out
          have z7 := (cell_of Q6.out 0).1
          have HWG : Hid (Calls Try.prog 71 #[.slice (some ⟨b, 0, none⟩) ns.length vc, .func (.func 80) #[] #[.pointer (some ⟨w3.heap.size + 1, 0, none⟩)]] W6 fun e w' => ∃ v ix, e = .returned v ∧ Pick ns' ns.length (leftN ns' L) ix ∧ w'.ownsRow W6.heap.size 54 7 v (leftN ns' L).length (rowN (leftN ns' L) (fun i => ab (ix i)) (fun i => kb' (ix i))) ∧ Below W6.heap.size W6 w') := by
            have h := withoutG_any ns' ab kb' L (w3.heap.size + 1) w3.heap.size m5 (some ⟨b, 0, none⟩) vc W6 O6.out.src (by rw [HL.out]; omega) z7 M6.out
            rw [HL.out] at h
            exact h
          go_wp2_with fail
          refine HWG.out.mono ?_
          rintro e w8 ⟨v8, ix, rfl, hpk, hr8, hb8⟩
          obtain ⟨a8, c8, hv8⟩ := slice_of_own hr8
          subst hv8
          have P8 := (hb8.block _ (lt_of_block P6.out)).trans P6.out
          obtain ⟨t0, t0f⟩ := cell_of P8 0
          rw [← HL.out] at hpk
          have HFIN : Hid (PtPost w (w8.setCell ⟨P, 0, none⟩ (.slice a8 (leftN ns' L).length c8)) B P (.returned (.int .i64 0)) (awayD ⟨ns, root, next⟩ ⟨pw, pi, pp, pat, pg, pk, pt, pn, pv⟩)) := by
            show PtPost _ _ _ _ _ _
            rw [HRE'.out]
            exact ⟨rfl, away_end O6.out HB6.out HBP.out P6.out hpk hr8 hb8 HW6.out⟩
          clear hpk hr8 hb8 P8 p0 p1 p2 z7 HWG
          go_wp2_with fail
          go_ret
          exact HFIN.out))
end Go.Proofs.Ytbadehbnpneepaa
