/-
  The program's without over attributes, by the function of unset.
-/
import Derived.Test.YtcdnakcojanaeabGreatDoTextJ
namespace Go.Proofs.YtcdnakcojanaeabGreat
open Go.ChangeShapes Go.WideShapes Go.ChangeAt Go.RowKit Go.Deep
open Do

/-- Attributes without those of a name. -/
def lessA (l : List Atr) (t : ByteArray) : List Atr := l.filter fun s => !(s.1.toList == t.toList)

set_option maxRecDepth 100000 in
theorem goneA_any (xn xv t : ByteArray) (Q : Nat) (w : World) (hQ : w.cell? ⟨Q, 7, none⟩ = some (.string t)) :
    Calls Tryz.prog 76 #[.agg #[.string xn, .string xv], .pointer (some ⟨Q, 0, none⟩)] w fun e w' => e = .returned (.bool (xn.toList == t.toList)) ∧ Below w.heap.size w w' := by
  have hq := keepc (below_one w (.cells #[.string xn, .string xv] 43)) _ _ hQ
  go_enter Tryz.func76, Tryz.ntmps76
  go_wp2_with fail
  go_ret
  exact ⟨rfl, below_one _ _⟩

set_option maxRecDepth 100000 in
set_option maxHeartbeats 1600000 in
theorem withoutU_any (ats : List Atr) (t : ByteArray) (Q : Nat) (a : Option Addr) (c : Nat) (w : World) (hl : LayA w a ats) (hQ : w.cell? ⟨Q, 7, none⟩ = some (.string t)) (hln : ats.length * 32 ≤ 140737488351232) :
    Calls Tryz.prog 63 #[.slice a ats.length c, .func (.func 76) #[] #[.pointer (some ⟨Q, 0, none⟩)]] w fun e w' => ∃ v, e = .returned v ∧ OwnA w' w.heap.size v (lessA ats t) ∧ Below w.heap.size w w' := by
  have HL : Hid (LayA w a ats) := hl
  have HC : Hid (∀ (W : World) (xn xv : ByteArray), Below w.heap.size w W → Calls Tryz.prog 76 #[.agg #[.string xn, .string xv], .pointer (some ⟨Q, 0, none⟩)] W fun e w' => e = .returned (.bool (xn.toList == t.toList)) ∧ Below W.heap.size W w') := fun W xn xv hb => goneA_any xn xv t Q W (keepc hb _ _ hQ)
  clear hl hQ
  go_enter Tryz.func63, Tryz.ntmps63
  go_wp2_with fail
  go_loopw [5, 10] (fun v5 v10 wr => ∃ i : Nat, i ≤ ats.length ∧ v10 = .int .i64 (i : Int) ∧ Hid (OwnA wr w.heap.size v5 (lessA (ats.take i) t)) ∧ Hid (Below w.heap.size w wr)) (fun _ v10 _ => ats.length - (intOf v10).toNat)
  case atStart => exact ⟨0, Nat.zero_le _, rfl, OwnA.nil _ _, Below.refl _ _⟩
  case round =>
    obtain ⟨i, hi, rfl, HO, HB⟩ := hrel
    by_cases hlt : i < ats.length
    · obtain ⟨b, o, ha, r1, r2, _⟩ := HL.out.below HB.out i ats[i] (List.getElem?_eq_getElem hlt)
      subst ha
      have HT : Hid (lessA (ats.take (i + 1)) t = lessA (ats.take i) t ++ lessA [ats[i]] t) := by
        show _ = _
        unfold lessA
        rw [List.take_succ_eq_append_getElem hlt, List.filter_append]
      have HLE : Hid ((lessA (ats.take i) t).length ≤ i) := by
        show _ ≤ _
        refine Nat.le_trans (List.length_filter_le _ _) ?_
        simp
        omega
      obtain ⟨oa, oc, hov⟩ := HO.out.shape
      subst hov
      generalize lessA (ats.take i) t = fl at *
      generalize ats[i] = x at *
      obtain ⟨xn, xv⟩ := x
      simp only at *
      have X1 : Hid ((wr.alloc (.cells #[.string xn, .string xv] 43)).heap[wr.heap.size]? = some (.cells #[.string xn, .string xv] 43 (0, 0))) := heap_alloc_new _ _
      have HCC := HC.out (wr.alloc (.cells #[.string xn, .string xv] 43)) xn xv (nxt HB.out (below_one _ _))
      cases hx : (xn.toList == t.toList) with
      | false =>
        rw [hx] at HCC
        have HCD : Hid (Calls Tryz.prog 76 #[.agg #[.string xn, .string xv], .pointer (some ⟨Q, 0, none⟩)] (wr.alloc (.cells #[.string xn, .string xv] 43)) _) := HCC
        have HT' : Hid (lessA (ats.take (i + 1)) t = fl ++ [(xn, xv)]) := by
          show _ = _
          rw [HT.out]
          simp [lessA, hx]
        clear HCC hx HT
        go_wp2_with fail
        refine HCD.out.mono ?_
        rintro e w2 ⟨rfl, hb2⟩
        have X2 := (hb2.block _ (lt_of_block X1.out)).trans X1.out
        obtain ⟨y0, y1⟩ := two X2
        have HOX : Hid (OwnA (w2.alloc (.cells #[.string xn, .string xv] 43)) w.heap.size (.slice oa fl.length oc) fl) := HO.out.below (nxt (nxt (below_one _ _) hb2) (below_one _ _))
        have HBX : Hid (Below w.heap.size w (w2.alloc (.cells #[.string xn, .string xv] 43))) := nxt HB.out (nxt (nxt (below_one _ _) hb2) (below_one _ _))
        have HNW : Hid ((w2.alloc (.cells #[.string xn, .string xv] 43)).cell? ((⟨w2.heap.size, 0, none⟩ : Addr).add 0) = some (.string xn) ∧ (w2.alloc (.cells #[.string xn, .string xv] 43)).cell? ((⟨w2.heap.size, 0, none⟩ : Addr).add 1) = some (.string xv)) := ⟨newCells w2 _ _ 0 _ rfl, newCells w2 _ _ 1 _ rfl⟩
        have HSZ : Hid ((fl.length + 1) * 32 ≤ 140737488355328 ∧ w.heap.size ≤ (w2.alloc (.cells #[.string xn, .string xv] 43)).heap.size) := ⟨by have := HLE.out; omega, HBX.out.size⟩
        clear HO HB r1 r2 X2 X1 hb2 HCD
        go_wp2_with (refine wpList_pushA _ rfl (.tmp 18) (.tmp 20) rfl w.heap.size _ fl rfl HOX.out (xn, xv) ⟨w2.heap.size, 0, none⟩ 1 rfl HNW.out.1 HNW.out.2 HSZ.out.1 HSZ.out.2 ?_; intro v' w' q1 q2 q3; have OO : Hid (OwnA w' w.heap.size v' (fl ++ [(xn, xv)])) := q1; have BB : Hid (Below w.heap.size w w') := HBX.out.trans (grownB HOX.out q2 HSZ.out.2); clear q1 q2 q3)
        go_roundw
        case rel => exact ⟨i + 1, by omega, by go_num, by rw [HT'.out]; exact OO.out, BB.out⟩
        case measure => simp [intOf]; omega
      | true =>
        rw [hx] at HCC
        have HCD : Hid (Calls Tryz.prog 76 #[.agg #[.string xn, .string xv], .pointer (some ⟨Q, 0, none⟩)] (wr.alloc (.cells #[.string xn, .string xv] 43)) _) := HCC
        have HT' : Hid (lessA (ats.take (i + 1)) t = fl) := by
          show _ = _
          rw [HT.out]
          simp [lessA, hx]
        clear HCC hx HT
        go_wp2_with fail
        refine HCD.out.mono ?_
        rintro e w2 ⟨rfl, hb2⟩
        have OO : Hid (OwnA w2 w.heap.size (.slice oa fl.length oc) fl) := HO.out.below (nxt (below_one _ _) hb2)
        have BB : Hid (Below w.heap.size w w2) := nxt HB.out (nxt (below_one _ _) hb2)
        clear HO HB r1 r2 X1 hb2 HCD
        go_wp2_with fail
        go_roundw
        case rel => exact ⟨i + 1, by omega, by go_num, by rw [HT'.out]; exact OO.out, BB.out⟩
        case measure => simp [intOf]; omega
    · have HE : Hid (ats.take i = ats) := List.take_of_length_le (by omega)
      rw [HE.out] at HO
      go_wp2_with fail
      go_ret
      exact ⟨_, rfl, HO.out, HB.out⟩
end Go.Proofs.YtcdnakcojanaeabGreat

/-
  A node's attributes laid anew in a row of one's own; the program's unset (what a patch 5 does).
-/
namespace Go.Proofs.YtcdnakcojanaeabGreat
open Go.ChangeShapes Go.WideShapes Go.ChangeAt Go.RowKit Go.Deep
open Do

/-- A node with other attributes. -/
def Do.Nd.withAts (n : Nd) (l : List Atr) : Nd := { n with ats := l }

/-- What 5 does. -/
def Do.unsetD (s : Ds) (p : Pt) : Int × Ds := match pl s.nodes p.id with
  | none => (71, s)
  | some q => match s.nodes[q]? with
    | none => (71, s)
    | some n => if n.tag.size = 0 then (81, s) else if hasA n.ats p.name = true then (0, ⟨s.nodes.set q (n.withAts (lessA n.ats p.name)), s.root, s.next⟩) else (31, s)

theorem rowN_setA : ∀ (ns : List Nd) (ab kb : Nat → Value) (q : Nat) (n : Nd) (l : List Atr) (av : Value), ns[q]? = some n → (rowN ns ab kb).set (q * 7 + 5) av = rowN (ns.set q (n.withAts l)) (upd ab q av) kb
  | [], _, _, _, _, _, _, h => by simp at h
  | m :: r, ab, kb, 0, n, l, av, h => by
    simp only [List.getElem?_cons_zero, Option.some.injEq] at h
    subst h
    simp only [rowN, List.set_cons_zero, Nat.zero_mul, Nat.zero_add, upd_same]
    have e : rowN r (fun i => upd ab 0 av (i + 1)) (fun i => kb (i + 1)) = rowN r (fun i => ab (i + 1)) (fun i => kb (i + 1)) := rowN_congr r fun i _ => ⟨upd_other _ _ (by omega), rfl⟩
    rw [e, List.set_append_left _ _ (by rw [cellsN_length]; omega)]
    simp [cellsN, Nd.withAts]
  | m :: r, ab, kb, q + 1, n, l, av, h => by
    have ih := rowN_setA r (fun j => ab (j + 1)) (fun j => kb (j + 1)) q n l av (by simpa using h)
    simp only [rowN, List.set_cons_succ]
    have e1 : (q + 1) * 7 + 5 - 7 = q * 7 + 5 := by omega
    rw [List.set_append_right _ _ (by rw [cellsN_length]; omega), cellsN_length, e1, ih, upd_other _ _ (show (0 : Nat) ≠ q + 1 by omega)]
    congr 1
    refine rowN_congr _ fun j _ => ⟨?_, rfl⟩
    simp [upd]

theorem OwnN.setAts {w : World} {B g c l : Nat} {ns : List Nd} {ab kb : Nat → Value} (h : OwnN w B (.slice (some ⟨g, 0, none⟩) l c) ns ab kb) {q : Nat} {n : Nd} (hq : ns[q]? = some n) {av : Value} {ats : List Atr} (hA : OwnA w B av ats) (hk : ∀ s ∈ ats, s.1.size ≤ 140737488351232 ∧ s.2.size ≤ 140737488351232) (hkl : ats.length * 32 ≤ 140737488351232) (hap : ∀ j b, j < ns.length → av.ownBlock = some b → (ab j).ownBlock ≠ some b) :
    OwnN (w.setCell ⟨g, q * 7 + 5, none⟩ av) B (.slice (some ⟨g, 0, none⟩) l c) (ns.set q (n.withAts ats)) (upd ab q av) kb := by
  obtain ⟨cur, hcur⟩ := h.rowBlock
  have neA : ∀ {v : Value} {l : List Atr} {D : Nat}, OwnA w D v l → ∀ b, v.ownBlock = some b → b ≠ g := by
    rintro v l D hv b hb rfl
    obtain ⟨cu, hc, -⟩ := hv.block hb
    rw [hcur] at hc
    simp at hc
  have neK : ∀ {v : Value} {l : List Int} {D : Nat}, OwnZ w D v l → ∀ b, v.ownBlock = some b → b ≠ g := by
    rintro v l D hv b hb rfl
    obtain ⟨cu, hc, -⟩ := hv.block hb
    rw [hcur] at hc
    simp at hc
  have hlen : (ns.set q (n.withAts ats)).length = ns.length := by simp
  refine ⟨?_, ?_, ?_, ?_, ?_, ?_⟩
  · rw [hlen, ← rowN_setA ns ab kb q n ats av hq]
    exact ownsRow_set h.row _ _
  · intro i m hm
    rcases get_set_cases hm with ⟨rfl, rfl⟩ | ⟨hi, hm⟩
    · rw [upd_same]
      exact hA.same fun b hb => heap_set_other _ (neA hA b hb)
    · rw [upd_other _ _ hi]
      have ho := h.ats i m hm
      exact ho.same fun b hb => heap_set_other _ (neA ho b hb)
  · intro i m hm
    rcases get_set_cases hm with ⟨rfl, rfl⟩ | ⟨hi, hm⟩
    · have ho := h.kids i n hq
      exact ho.same fun b hb => heap_set_other _ (neK ho b hb)
    · have ho := h.kids i m hm
      exact ho.same fun b hb => heap_set_other _ (neK ho b hb)
  · rw [hlen]
    intro i j b hi hj hij hb1 hb2
    by_cases e : i = q
    · subst e
      rw [upd_same] at hb1
      rw [upd_other _ _ (by omega)] at hb2
      exact hap j b hj hb1 hb2
    · rw [upd_other _ _ e] at hb1
      by_cases e' : j = q
      · subst e'
        rw [upd_same] at hb2
        exact hap i b hi hb2 hb1
      · rw [upd_other _ _ e'] at hb2
        exact h.apa i j b hi hj hij hb1 hb2
  · rw [hlen]; exact h.apk
  · intro m hm
    rcases List.mem_or_eq_of_mem_set hm with hm | rfl
    · exact h.fit m hm
    · have hf := h.fit n (List.mem_of_getElem? hq)
      obtain ⟨n1, n2, n3, -, n5⟩ := hf.node
      exact ⟨hf.id, hf.par, ⟨n1, n2, n3, hkl, n5⟩, hk, hf.kids⟩

end Go.Proofs.YtcdnakcojanaeabGreat

/-
  The program's unset (what a patch 5 does).
-/
namespace Go.Proofs.YtcdnakcojanaeabGreat
open Go.ChangeShapes Go.WideShapes Go.ChangeAt Go.RowKit Go.Deep
open Do

theorem OwnA.less {w : World} {B D : Nat} {v : Value} {l : List Atr} (h : OwnA w D v l) (hB : B ≤ D) : OwnA w B v l := by
  obtain ⟨h1, h2⟩ := h
  refine ⟨h1, ?_⟩
  rcases h2 with h3 | ⟨g, cap, cur, h3, h4, h5⟩
  · exact Or.inl h3
  · exact Or.inr ⟨g, cap, cur, h3, Nat.le_trans hB h4, h5⟩

theorem OwnA.rng {w : World} {B : Nat} {v : Value} {l : List Atr} (h : OwnA w B v l) {g : Nat} (hg : v.ownBlock = some g) : B ≤ g ∧ g < w.heap.size := by
  obtain ⟨cur, h1, h2⟩ := h.block hg
  exact ⟨h2, lt_of_block h1⟩

set_option maxRecDepth 100000 in
set_option maxHeartbeats 1600000 in
theorem unset_any (s : Ds) (p : Pt) (B P : Nat) (w : World) (hs : DsAt w B P s) (hB : B ≤ w.heap.size) (hn : s.nodes.length ≤ 1024) (hu : Up s.nodes) (hua : ∀ n ∈ s.nodes, UpA n.ats ∧ n.ats.length ≤ 16) :
    Calls Tryz.prog 43 #[.pointer (some ⟨P, 0, none⟩), mkP p] w fun e w' => PtPost w w' B P e (unsetD s p) := by
  obtain ⟨v, ab, kb, hP, hO, hBP⟩ := hs
  obtain ⟨va, vc, hvs⟩ := hO.shape
  subst hvs
  have HO : Hid (OwnN w B (.slice va s.nodes.length vc) s.nodes ab kb) := hO
  have HP : Hid (w.heap[P]? = some (.cells #[.slice va s.nodes.length vc, .int .i64 s.root, .int .i64 s.next] 30 (0, 0))) := hP
  have HBP : Hid (B ≤ P) := hBP
  have HU : Hid (Up s.nodes) := hu
  have hPl : P < w.heap.size := lt_of_block hP
  have HUA : Hid (∀ n ∈ s.nodes, UpA n.ats ∧ n.ats.length ≤ 16) := hua
  obtain ⟨ns, root, next⟩ := s
  obtain ⟨pw, pi, pp, pat, pg, pk, pt, pn, pv⟩ := p
  simp only at *
  clear hP hO hBP hu hua
  have KP : Hid (∀ W, Below w.heap.size w W → W.heap[P]? = some (.cells #[.slice va ns.length vc, .int .i64 root, .int .i64 next] 30 (0, 0))) := fun W hb => (hb.block _ hPl).trans HP.out
  have HSTAY : Hid (∀ W, Below w.heap.size w W → DsAt W B P ⟨ns, root, next⟩ ∧ Below B w W) := fun W hb => ⟨⟨_, ab, kb, KP.out W hb, HO.out.below hb, HBP.out⟩, hb.mono hB⟩
  have HFI : Hid (∀ W, Below w.heap.size w W → Calls Tryz.prog 54 #[.slice va ns.length vc, .int .i64 pi] W fun e w' => ∃ v, e = .returned v ∧ FindIs va ns pi v ∧ Below W.heap.size W w') := fun W hb => find_any ns pi va vc W (HO.out.below hb).lay HU.out hn
  obtain ⟨W1, hW1⟩ : ∃ W : World, W = w.alloc (.cells #[.int .i64 pw, .int .i64 pi, .int .i64 pp, .int .i64 pat, .string pg, .string pk, .string pt, .string pn, .string pv] 35) := ⟨_, rfl⟩
  have B1 : Hid (Below w.heap.size w W1) := by show Below _ _ _; rw [hW1]; exact below_one _ _
  have X1 : Hid (W1.heap[w.heap.size]? = some (.cells #[.int .i64 pw, .int .i64 pi, .int .i64 pp, .int .i64 pat, .string pg, .string pk, .string pt, .string pn, .string pv] 35 (0, 0))) := by show _ = _; rw [hW1]; exact heap_alloc_new _ _
  go_enter Tryz.func43, Tryz.ntmps43
  go_wp2_with fail
  rw [← hW1]
  clear hW1
  obtain ⟨-, y1, -, -, -, -, -, -, -⟩ := nine X1.out
  obtain ⟨p0, p1, p2⟩ := three (KP.out _ B1.out)
  have y1' : W1.drew.cell? ⟨w.heap.size, 1, none⟩ = some (.int .i64 pi) := y1
  have p0' : W1.drew.cell? ⟨P, 0, none⟩ = some (.slice va ns.length vc) := p0
  go_region_held3 (fun w' => w'.cell? ⟨w.heap.size, 1, none⟩ = some (.int .i64 pi) ∧ w'.cell? ⟨P, 0, none⟩ = some (.slice va ns.length vc)) (go_keep) ((go_at_call 54; refine (HFI.out W1.drew B1.out.drew).mono ?_; rintro e w2 ⟨fv, rfl, hfi, hb2⟩; have u1 := keepc hb2 _ _ y1'; have u0 := keepc hb2 _ _ p0'))
  have B2 : Hid (Below w.heap.size w w2) := nxt B1.out.drew hb2
  have X2 : Hid (w2.heap[w.heap.size]? = _) := (hb2.block _ (lt_of_block X1.out)).trans X1.out
  clear hb2 u1 u0 y1 p0 p1 p2 y1' p0'
  unfold FindIs at hfi
  cases hp : pl ns pi with
  | none =>
    rw [hp] at hfi
    simp only at hfi
    subst hfi
    have HR : Hid (unsetD ⟨ns, root, next⟩ ⟨pw, pi, pp, pat, pg, pk, pt, pn, pv⟩ = (71, ⟨ns, root, next⟩)) := by show _ = _; unfold unsetD; simp only; rw [hp]
    clear hp
    go_wp2_with fail
    go_ret
    rw [HR.out]
    exact ⟨rfl, HSTAY.out _ B2.out⟩
  | some q =>
    rw [hp] at hfi
    simp only at hfi
    obtain ⟨b, o, ha, rfl⟩ := hfi
    obtain ⟨m, hm1, hm2⟩ := pl_some hp
    have O2 : Hid (OwnN w2 B (.slice va ns.length vc) ns ab kb) := HO.out.below B2.out
    subst ha
    obtain ⟨g, hg, r0, r1, r2, r3, r4, r5, r6⟩ := rowN_cells O2.out.row hm1
    cases hg
    rw [Nat.zero_add]
    obtain ⟨mka, mkc, hmk⟩ := (O2.out.kids q m hm1).shape
    obtain ⟨maa, mac, hma⟩ := (O2.out.ats q m hm1).shape
    rw [hmk] at r6
    rw [hma] at r5
    have HM : Hid (ns[q]? = some m) := hm1
    have HRE : Hid (unsetD ⟨ns, root, next⟩ ⟨pw, pi, pp, pat, pg, pk, pt, pn, pv⟩ = if m.tag.size = 0 then (81, ⟨ns, root, next⟩) else if hasA m.ats pn = true then (0, ⟨ns.set q (m.withAts (lessA m.ats pn)), root, next⟩) else (31, ⟨ns, root, next⟩)) := by show _ = _; unfold unsetD; simp only; rw [hp]; simp only; rw [hm1]
    have HUM : Hid (UpA m.ats ∧ m.ats.length ≤ 16) := HUA.out m (List.mem_of_getElem? hm1)
    have HFM : Hid (NdFit m) := O2.out.fit m (List.mem_of_getElem? hm1)
    have HAM : Hid (OwnA w2 B (.slice maa m.ats.length mac) m.ats) := by show OwnA _ _ _ _; rw [← hma]; exact O2.out.ats q m hm1
    clear hm1 hm2 hp hmk hma
    have CI : Hid (∀ W, Calls Tryz.prog 56 #[mkN m.id m.par m.tag m.key m.txt maa m.ats.length mac mka m.kids.length mkc] W _) := fun W => istextN_any m.id m.par m.tag m.key m.txt maa m.ats.length mac mka m.kids.length mkc W
    by_cases hg : m.tag.size = 0
    · rw [if_pos hg] at HRE
      have CJ : Hid (∀ W, Calls Tryz.prog 56 #[mkN m.id m.par m.tag m.key m.txt maa m.ats.length mac mka m.kids.length mkc] W fun e w' => e = .returned (.bool true) ∧ Below W.heap.size W w') := fun W => by have := CI.out W; rwa [empty_true hg] at this
      clear CI hg
      go_wp2_with (go_at_call 56; refine (CJ.out _).mono ?_; rintro e w3 ⟨rfl, hb3⟩; have B3 : Hid (Below w.heap.size w w3) := nxt B2.out hb3; clear hb3)
      go_ret
      rw [HRE.out]
      exact ⟨rfl, HSTAY.out _ B3.out⟩
    · rw [if_neg hg] at HRE
      have CJ : Hid (∀ W, Calls Tryz.prog 56 #[mkN m.id m.par m.tag m.key m.txt maa m.ats.length mac mka m.kids.length mkc] W fun e w' => e = .returned (.bool false) ∧ Below W.heap.size W w') := fun W => by have := CI.out W; rwa [empty_false hg] at this
      clear CI hg
      go_wp2_with fail
      refine (CJ.out _).mono ?_
      rintro e w3 ⟨rfl, hb3⟩
      have B3 : Hid (Below w.heap.size w w3) := nxt B2.out hb3
      have X3 : Hid (w3.heap[w.heap.size]? = _) := (hb3.block _ (lt_of_block X2.out)).trans X2.out
      have q5 := keepc hb3 _ _ r5
      have A3 : Hid (OwnA w3 B (.slice maa m.ats.length mac) m.ats) := HAM.out.below hb3
      have O3 : Hid (OwnN w3 B (.slice (some ⟨b, 0, none⟩) ns.length vc) ns ab kb) := O2.out.below hb3
      obtain ⟨-, -, -, -, -, -, -, y7, -⟩ := nine X3.out
      have y7' : w3.drew.cell? ⟨w.heap.size, 7, none⟩ = some (.string pn) := y7
      have q5' : w3.drew.cell? ⟨b, q * 7 + 5, none⟩ = some (.slice maa m.ats.length mac) := q5
      have HAP : Hid (Calls Tryz.prog 74 #[.slice maa m.ats.length mac, .string pn] w3.drew _) := attrPlace_any m.ats pn maa mac w3.drew (A3.out.lay HFM.out.atr) HUM.out.1 HUM.out.2
      clear hb3 r0 r1 r2 r3 r4 r5 r6 CJ X2
      go_wp2_with fail
      go_region_held3 (fun w' => w'.cell? ⟨w.heap.size, 7, none⟩ = some (.string pn) ∧ w'.cell? ⟨b, q * 7 + 5, none⟩ = some (.slice maa m.ats.length mac)) (go_keep) ((go_at_call 74; refine HAP.out.mono ?_; rintro e w4 ⟨rfl, hb4⟩; have u7 := keepc hb4 _ _ y7'; have u5 := keepc hb4 _ _ q5'))
      have B34 : Hid (Below w3.heap.size w3 w4) := (Below.refl _ w3).drew.trans hb4
      have B4 : Hid (Below w.heap.size w w4) := nxt B3.out B34.out
      have A4 : Hid (OwnA w4 B (.slice maa m.ats.length mac) m.ats) := A3.out.below B34.out
      have O4 : Hid (OwnN w4 B (.slice (some ⟨b, 0, none⟩) ns.length vc) ns ab kb) := O3.out.below B34.out
      clear hb4 y7 y7' q5 q5' HAP
      generalize hasA m.ats pn = hh at *
      cases hh with
      | false =>
        rw [if_neg (by simp)] at HRE
        go_wp2_with fail
        go_ret
        rw [HRE.out]
        exact ⟨rfl, HSTAY.out _ B4.out⟩
      | true =>
        rw [if_pos rfl] at HRE
        have HWU : Hid (Calls Tryz.prog 63 #[.slice maa m.ats.length mac, .func (.func 76) #[] #[.pointer (some ⟨w.heap.size, 0, none⟩)]] w4 _) := withoutU_any m.ats pn w.heap.size maa mac w4 (A4.out.lay HFM.out.atr) u7 HFM.out.node.2.2.2.1
        go_wp2_with fail
        refine HWU.out.mono ?_
        rintro e w5 ⟨v5, rfl, hA5, hb5⟩
        obtain ⟨a5a, a5c, hv5⟩ := hA5.shape
        subst hv5
        have B5 : Below w.heap.size w w5 := nxt B4.out hb5
        have o5 := O4.out.below hb5
        obtain ⟨ga, hga, -, -, -, -, -, d5, -⟩ := rowN_cells o5.row HM.out
        cases hga
        have f5 := own_frozen o5.row (q * 7 + 5)
        have hll : (lessA m.ats pn).length ≤ m.ats.length := List.length_filter_le _ _
        have hml := HFM.out.node.2.2.2.1
        have hB4 : B ≤ w4.heap.size := Nat.le_trans hB B4.out.size
        have hAB : OwnA w5 B (.slice a5a (lessA m.ats pn).length a5c) (lessA m.ats pn) := OwnA.less hA5 hB4
        have hfs : ∀ s ∈ lessA m.ats pn, s.1.size ≤ 140737488351232 ∧ s.2.size ≤ 140737488351232 := fun s hs => HFM.out.atr s (List.mem_filter.1 hs).1
        have hfl : (lessA m.ats pn).length * 32 ≤ 140737488351232 := by omega
        have hap : ∀ j g, j < ns.length → (Value.slice a5a (lessA m.ats pn).length a5c).ownBlock = some g → (ab j).ownBlock ≠ some g := by
          intro j g hj h1 h2
          have h3 := (OwnA.rng hA5 h1).1
          have h4 := (OwnA.rng (O4.out.ats j ns[j] (List.getElem?_eq_getElem hj)) h2).2
          omega
        have o6 := o5.setAts HM.out hAB hfs hfl hap
        have HFIN : Hid (PtPost w (w5.setCell ⟨b, q * 7 + 5, none⟩ (.slice a5a (lessA m.ats pn).length a5c)) B P (.returned (.int .i64 0)) (unsetD ⟨ns, root, next⟩ ⟨pw, pi, pp, pat, pg, pk, pt, pn, pv⟩)) := by
          show PtPost _ _ _ _ _ _
          rw [HRE.out]
          have hPb : P ≠ b := by
            rintro rfl
            obtain ⟨cur, hcur⟩ := HO.out.rowBlock
            rw [HP.out] at hcur
            simp at hcur
          have hbb := HO.out.foot (b := b) (Or.inl rfl)
          have hb' := B5.mono hB
          refine ⟨rfl, ⟨_, _, _, (heap_set_other _ hPb).trans (KP.out _ B5), o6, HBP.out⟩, ⟨hb'.os, hb'.tape, hb'.output, by have := hb'.size; simpa [World.setCell] using this, fun j hj => (heap_set_other _ (by omega)).trans (hb'.block j hj)⟩⟩
        clear hll hml hB4 hAB hfs hfl hap o6 o5 hA5 hb5 B5 HWU u5 u7
        go_wp2_with fail
        go_ret
        exact HFIN.out
end Go.Proofs.YtcdnakcojanaeabGreat
