/-
  The program's setText (what a patch 6 does).
-/
import Derived.Test.YtbadehbnpneepaaDoHang
namespace Go.Proofs.Ytbadehbnpneepaa
open Go.ChangeShapes Go.WideShapes Go.ChangeAt Go.RowKit Go.Deep
open Do

/-- A node with another text. -/
def Do.Nd.withTxt (n : Nd) (x : ByteArray) : Nd := { n with txt := x }

/-- What 6 does. -/
def Do.textD (s : Ds) (p : Pt) : Int × Ds := match pl s.nodes p.id with
  | none => (71, s)
  | some q => match s.nodes[q]? with
    | none => (71, s)
    | some n => if n.tag.size = 0 then (if 128 < p.txt.size then (5, s) else (0, ⟨s.nodes.set q (n.withTxt p.txt), s.root, s.next⟩)) else (81, s)

theorem rowN_setT : ∀ (ns : List Nd) (ab kb : Nat → Value) (q : Nat) (n : Nd) (x : ByteArray), ns[q]? = some n → (rowN ns ab kb).set (q * 7 + 4) (.string x) = rowN (ns.set q (n.withTxt x)) ab kb
  | [], _, _, _, _, _, h => by simp at h
  | m :: r, ab, kb, 0, n, x, h => by
    simp only [List.getElem?_cons_zero, Option.some.injEq] at h
    subst h
    simp only [rowN, List.set_cons_zero, Nat.zero_mul, Nat.zero_add]
    rw [List.set_append_left _ _ (by rw [cellsN_length]; omega)]
    simp [cellsN, Nd.withTxt]
  | m :: r, ab, kb, q + 1, n, x, h => by
    have ih := rowN_setT r (fun j => ab (j + 1)) (fun j => kb (j + 1)) q n x (by simpa using h)
    simp only [rowN, List.set_cons_succ]
    have e1 : (q + 1) * 7 + 4 - 7 = q * 7 + 4 := by omega
    rw [List.set_append_right _ _ (by rw [cellsN_length]; omega), cellsN_length, e1, ih]

theorem OwnN.setT {w : World} {B g c l : Nat} {ns : List Nd} {ab kb : Nat → Value} (h : OwnN w B (.slice (some ⟨g, 0, none⟩) l c) ns ab kb) {q : Nat} {n : Nd} (hq : ns[q]? = some n) {x : ByteArray} (hx : x.size ≤ 140737488351232) :
    OwnN (w.setCell ⟨g, q * 7 + 4, none⟩ (.string x)) B (.slice (some ⟨g, 0, none⟩) l c) (ns.set q (n.withTxt x)) ab kb := by
  obtain ⟨cur, hcur⟩ := h.rowBlock
  have hlen : (ns.set q (n.withTxt x)).length = ns.length := by simp
  refine ⟨?_, ?_, ?_, by rw [hlen]; exact h.apa, by rw [hlen]; exact h.apk, ?_⟩
  · rw [hlen, ← rowN_setT ns ab kb q n x hq]
    exact ownsRow_set h.row _ _
  · intro i m hm
    have ho : OwnA w B (ab i) m.ats := by
      rcases get_set_cases hm with ⟨rfl, rfl⟩ | ⟨hi, hm⟩
      · exact h.ats i n hq
      · exact h.ats i m hm
    refine ho.same fun b hb => heap_set_other _ ?_
    rintro rfl
    obtain ⟨cu, hc, -⟩ := ho.block hb
    rw [hcur] at hc
    simp at hc
  · intro i m hm
    have ho : OwnZ w B (kb i) m.kids := by
      rcases get_set_cases hm with ⟨rfl, rfl⟩ | ⟨hi, hm⟩
      · exact h.kids i n hq
      · exact h.kids i m hm
    refine ho.same fun b hb => heap_set_other _ ?_
    rintro rfl
    obtain ⟨cu, hc, -⟩ := ho.block hb
    rw [hcur] at hc
    simp at hc
  · intro m hm
    rcases List.mem_or_eq_of_mem_set hm with hm | rfl
    · exact h.fit m hm
    · have hf := h.fit n (List.mem_of_getElem? hq)
      obtain ⟨n1, n2, n3, n4, n5⟩ := hf.node
      exact ⟨hf.id, hf.par, ⟨n1, n2, hx, n4, n5⟩, hf.atr, hf.kids⟩

set_option maxRecDepth 100000 in
set_option maxHeartbeats 1600000 in
theorem setText_any (s : Ds) (p : Pt) (B P : Nat) (w : World) (hs : DsAt w B P s) (hp : PtOk p) (hB : B ≤ w.heap.size) (hn : s.nodes.length ≤ 1024) (hu : Up s.nodes) :
    Calls Try.prog 56 #[.pointer (some ⟨P, 0, none⟩), mkP p] w fun e w' => PtPost w w' B P e (textD s p) := by
  obtain ⟨v, ab, kb, hP, hO, hBP⟩ := hs
  obtain ⟨va, vc, hvs⟩ := hO.shape
  subst hvs
  have HO : Hid (OwnN w B (.slice va s.nodes.length vc) s.nodes ab kb) := hO
  have HP : Hid (w.heap[P]? = some (.cells #[.slice va s.nodes.length vc, .int .i64 s.root, .int .i64 s.next] 29 (0, 0))) := hP
  have HBP : Hid (B ≤ P) := hBP
  have HU : Hid (Up s.nodes) := hu
  have hPl : P < w.heap.size := lt_of_block hP
  have HTX : Hid (p.txt.size ≤ 140737488351232) := hp.txt
  obtain ⟨ns, root, next⟩ := s
  obtain ⟨pw, pi, pp, pat, pg, pk, pt, pn, pv⟩ := p
  simp only at *
  clear hP hO hBP hu hp
  have KP : Hid (∀ W, Below w.heap.size w W → W.heap[P]? = some (.cells #[.slice va ns.length vc, .int .i64 root, .int .i64 next] 29 (0, 0))) := fun W hb => (hb.block _ hPl).trans HP.out
  have HSTAY : Hid (∀ W, Below w.heap.size w W → DsAt W B P ⟨ns, root, next⟩ ∧ Below B w W) := fun W hb => ⟨⟨_, ab, kb, KP.out W hb, HO.out.below hb, HBP.out⟩, hb.mono hB⟩
  have HFI : Hid (∀ W, Below w.heap.size w W → Calls Try.prog 48 #[.slice va ns.length vc, .int .i64 pi] W fun e w' => ∃ v, e = .returned v ∧ FindIs va ns pi v ∧ Below W.heap.size W w') := fun W hb => find_any ns pi va vc W (HO.out.below hb).lay HU.out hn
  obtain ⟨W1, hW1⟩ : ∃ W : World, W = w.alloc (.cells #[.int .i64 pw, .int .i64 pi, .int .i64 pp, .int .i64 pat, .string pg, .string pk, .string pt, .string pn, .string pv] 49) := ⟨_, rfl⟩
  have B1 : Hid (Below w.heap.size w W1) := by show Below _ _ _; rw [hW1]; exact below_one _ _
  have X1 : Hid (W1.heap[w.heap.size]? = some (.cells #[.int .i64 pw, .int .i64 pi, .int .i64 pp, .int .i64 pat, .string pg, .string pk, .string pt, .string pn, .string pv] 49 (0, 0))) := by show _ = _; rw [hW1]; exact heap_alloc_new _ _
  go_enter Try.func56, Try.ntmps56
  go_wp2_with fail
  rw [← hW1]
  clear hW1
  obtain ⟨-, y1, -, -, -, -, -, -, -⟩ := nine X1.out
  obtain ⟨p0, p1, p2⟩ := three (KP.out _ B1.out)
  have y1' : W1.drew.cell? ⟨w.heap.size, 1, none⟩ = some (.int .i64 pi) := y1
  have p0' : W1.drew.cell? ⟨P, 0, none⟩ = some (.slice va ns.length vc) := p0
  go_region_held3 (fun w' => w'.cell? ⟨w.heap.size, 1, none⟩ = some (.int .i64 pi) ∧ w'.cell? ⟨P, 0, none⟩ = some (.slice va ns.length vc)) (go_keep) ((go_at_call 48; refine (HFI.out W1.drew B1.out.drew).mono ?_; rintro e w2 ⟨fv, rfl, hfi, hb2⟩; have u1 := keepc hb2 _ _ y1'; have u0 := keepc hb2 _ _ p0'))
  have B2 : Hid (Below w.heap.size w w2) := nxt B1.out.drew hb2
  have X2 : Hid (w2.heap[w.heap.size]? = _) := (hb2.block _ (lt_of_block X1.out)).trans X1.out
  clear hb2 u1 u0 y1 p0 p1 p2 y1' p0'
  unfold FindIs at hfi
  cases hp : pl ns pi with
  | none =>
    rw [hp] at hfi
    simp only at hfi
    subst hfi
    have HR : Hid (textD ⟨ns, root, next⟩ ⟨pw, pi, pp, pat, pg, pk, pt, pn, pv⟩ = (71, ⟨ns, root, next⟩)) := by show _ = _; unfold textD; simp only; rw [hp]
    clear hp
    go_wp2_with fail
    go_ret
    rw [HR.out]
    exact ⟨rfl, HSTAY.out _ B2.out⟩
  | some q =>
    rw [hp] at hfi
    simp only at hfi
    obtain ⟨b, o, ha, rfl⟩ := hfi
    obtain ⟨m, hm1, hm2⟩ := pl_some hp
    have O2 : Hid (OwnN w2 B (.slice va ns.length vc) ns ab kb) := HO.out.below B2.out
    subst ha
    obtain ⟨g, hg, r0, r1, r2, r3, r4, r5, r6⟩ := rowN_cells O2.out.row hm1
    cases hg
    rw [Nat.zero_add]
    obtain ⟨mka, mkc, hmk⟩ := (O2.out.kids q m hm1).shape
    obtain ⟨maa, mac, hma⟩ := (O2.out.ats q m hm1).shape
    rw [hmk] at r6
    rw [hma] at r5
    have HM : Hid (ns[q]? = some m) := hm1
    have HRE : Hid (textD ⟨ns, root, next⟩ ⟨pw, pi, pp, pat, pg, pk, pt, pn, pv⟩ = if m.tag.size = 0 then (if 128 < pt.size then (5, ⟨ns, root, next⟩) else (0, ⟨ns.set q (m.withTxt pt), root, next⟩)) else (81, ⟨ns, root, next⟩)) := by show _ = _; unfold textD; simp only; rw [hp]; simp only; rw [hm1]
    clear hm1 hm2 hp hmk hma
    have CI : Hid (∀ W, Calls Try.prog 58 #[mkN m.id m.par m.tag m.key m.txt maa m.ats.length mac mka m.kids.length mkc] W _) := fun W => istextN_any m.id m.par m.tag m.key m.txt maa m.ats.length mac mka m.kids.length mkc W
    by_cases hg : m.tag.size = 0
    · rw [if_pos hg] at HRE
      have CJ : Hid (∀ W, Calls Try.prog 58 #[mkN m.id m.par m.tag m.key m.txt maa m.ats.length mac mka m.kids.length mkc] W fun e w' => e = .returned (.bool true) ∧ Below W.heap.size W w') := fun W => by have := CI.out W; rwa [empty_true hg] at this
      clear CI
      go_wp2_with fail
      refine (CJ.out _).mono ?_
      rintro e w3 ⟨rfl, hb3⟩
      have B3 : Hid (Below w.heap.size w w3) := nxt B2.out hb3
      have X3 := (hb3.block _ (lt_of_block X2.out)).trans X2.out
      obtain ⟨-, -, -, -, -, -, y6, -, -⟩ := nine X3
      have q4 := keepc hb3 _ _ r4
      have O3 : Hid (OwnN w3 B (.slice (some ⟨b, 0, none⟩) ns.length vc) ns ab kb) := O2.out.below hb3
      have f4 := own_frozen O3.out.row (q * 7 + 4)
      clear hb3 r0 r1 r2 r3 r4 r5 r6 X3 CJ hg
      by_cases hl : 128 < pt.size
      · rw [if_pos hl] at HRE
        have g1 : decide ((128 : Int) < (pt.size : Int)) = true := decide_eq_true (by omega)
        clear hl
        go_wp2_with fail
        go_ret
        rw [HRE.out]
        exact ⟨rfl, HSTAY.out _ B3.out⟩
      · rw [if_neg hl] at HRE
        have g1 : decide ((128 : Int) < (pt.size : Int)) = false := decide_eq_false (by omega)
        have HFIN : Hid (PtPost w (w3.setCell ⟨b, q * 7 + 4, none⟩ (.string pt)) B P (.returned (.int .i64 0)) (textD ⟨ns, root, next⟩ ⟨pw, pi, pp, pat, pg, pk, pt, pn, pv⟩)) := by
          show PtPost _ _ _ _ _ _
          rw [HRE.out]
          have hPb : P ≠ b := by
            rintro rfl
            obtain ⟨cur, hcur⟩ := HO.out.rowBlock
            rw [HP.out] at hcur
            simp at hcur
          have hbb := HO.out.foot (b := b) (Or.inl rfl)
          have hb' := B3.out.mono hB
          refine ⟨rfl, ⟨_, _, _, (heap_set_other _ hPb).trans (KP.out _ B3.out), O3.out.setT HM.out HTX.out, HBP.out⟩, ⟨hb'.os, hb'.tape, hb'.output, by have := hb'.size; simpa [World.setCell] using this, fun j hj => (heap_set_other _ (by omega)).trans (hb'.block j hj)⟩⟩
        clear hl
        go_wp2_with fail
        go_ret
        exact HFIN.out
    · rw [if_neg hg] at HRE
      have CJ : Hid (∀ W, Calls Try.prog 58 #[mkN m.id m.par m.tag m.key m.txt maa m.ats.length mac mka m.kids.length mkc] W fun e w' => e = .returned (.bool false) ∧ Below W.heap.size W w') := fun W => by have := CI.out W; rwa [empty_false hg] at this
      clear CI hg
      go_wp2_with (go_at_call 58; refine (CJ.out _).mono ?_; rintro e w3 ⟨rfl, hb3⟩; have B3 : Hid (Below w.heap.size w w3) := nxt B2.out hb3; clear hb3)
      go_ret
      rw [HRE.out]
      exact ⟨rfl, HSTAY.out _ B3.out⟩
end Go.Proofs.Ytbadehbnpneepaa
