/-
  The program's set (what a patch 4 does).
-/
import Derived.Test.YtbadehbnpneepaaDoPut
namespace Go.Proofs.Ytbadehbnpneepaa
open Go.ChangeShapes Go.WideShapes Go.ChangeAt Go.RowKit Go.Deep
open Do

/-- One value of one attribute set; one attribute more. -/
def putV (l : List Atr) (j : Nat) (x : ByteArray) : List Atr := match l[j]? with
  | none => l
  | some s => l.set j (s.1, x)
def insAt (l : List Atr) (j : Nat) (y : Atr) : List Atr := l.take j ++ [y] ++ l.drop j

/-- What 4 does. -/
def Do.setD (s : Ds) (p : Pt) : Int × Ds := match pl s.nodes p.id with
  | none => (71, s)
  | some q => match s.nodes[q]? with
    | none => (71, s)
    | some n => if n.tag.size = 0 then (81, s) else if nmD p.name = false then (31, s) else if 128 < p.val.size then (5, s)
      else if hasA n.ats p.name = true then (0, ⟨s.nodes.set q (n.withAts (putV n.ats (lwA n.ats p.name) p.val)), s.root, s.next⟩)
      else if n.ats.length = 16 then (3, s) else (0, ⟨s.nodes.set q (n.withAts (insAt n.ats (lwA n.ats p.name) (p.name, p.val))), s.root, s.next⟩)

theorem cellsA_val : ∀ {l : List Atr} {j : Nat} {s : Atr}, l[j]? = some s → (cellsA l)[j * 2 + 1]? = some (.string s.2)
  | [], _, _, h => by simp at h
  | a :: r, 0, s, h => by
    simp only [List.getElem?_cons_zero, Option.some.injEq] at h
    subst h
    simp [cellsA]
  | a :: r, j + 1, s, h => by
    have ih := cellsA_val (l := r) (j := j) (s := s) (by simpa using h)
    have e : (j + 1) * 2 + 1 = (j * 2 + 1) + 1 + 1 := by omega
    rw [e]
    simpa [cellsA] using ih


theorem cellsA_one : ∀ (l : List Atr), ∀ v ∈ cellsA l, v.oneCell' = true
  | [], v, h => by simp [cellsA] at h
  | a :: r, v, h => by
    simp only [cellsA, List.mem_cons] at h
    rcases h with rfl | rfl | h
    · rfl
    · rfl
    · exact cellsA_one r v h

theorem cellsA_ins : ∀ (l : List Atr) (j : Nat) (y : Atr), j ≤ l.length → cellsA (insAt l j y) = (cellsA l).take (j * 2) ++ [.string y.1, .string y.2] ++ (cellsA l).drop (j * 2)
  | l, 0, y, _ => by simp [insAt, cellsA]
  | [], j + 1, y, h => by simp at h
  | a :: r, j + 1, y, h => by
    have ih := cellsA_ins r j y (by simpa using h)
    have e : (j + 1) * 2 = j * 2 + 1 + 1 := by omega
    unfold insAt at ih ⊢
    rw [e]
    simpa [cellsA] using ih

theorem insAt_length {l : List Atr} {j : Nat} (y : Atr) (h : j ≤ l.length) : (insAt l j y).length = l.length + 1 := by
  unfold insAt
  simp
  omega

theorem set_end {w W w' : World} {B P b vc q j : Nat} {ns : List Nd} {ab kb : Nat → Value} {m : Nd} {maa : Option Addr} {mac : Nat} {root next : Int} {pn pv : ByteArray} {v : Value} {R : Int × Ds}
    (hO : OwnN w B (.slice (some ⟨b, 0, none⟩) ns.length vc) ns ab kb)
    (hP : w.heap[P]? = some (.cells #[.slice (some ⟨b, 0, none⟩) ns.length vc, .int .i64 root, .int .i64 next] 29 (0, 0)))
    (hKP : ∀ W, Below w.heap.size w W → W.heap[P]? = some (.cells #[.slice (some ⟨b, 0, none⟩) ns.length vc, .int .i64 root, .int .i64 next] 29 (0, 0))) (hBP : B ≤ P)
    (hR : R = (0, ⟨ns.set q (m.withAts (insAt m.ats j (pn, pv))), root, next⟩)) (hab : ab q = .slice maa m.ats.length mac) (hM : ns[q]? = some m) (hb : Below w.heap.size w W) (hO6 : OwnN W B (.slice (some ⟨b, 0, none⟩) ns.length vc) ns ab kb) (hf : NdFit m) (hpn : pn.size ≤ 140737488351232 ∧ pv.size ≤ 140737488351232) (h16 : m.ats.length ≤ 16) (hj : j ≤ m.ats.length)
    (hown : w'.ownsRow B 90 2 v (m.ats.length + 1) ((cellsA m.ats).take (j * 2) ++ [.string pn, .string pv] ++ (cellsA m.ats).drop (j * 2))) (hg : W.grownBy w' (Value.slice maa m.ats.length mac).ownBlock) (hv : v.ownBlock = (Value.slice maa m.ats.length mac).ownBlock ∨ ∀ g, v.ownBlock = some g → W.heap.size ≤ g) :
    Hid (PtPost w (w'.setCell ⟨b, q * 7 + 5, none⟩ v) B P (.returned (.int .i64 0)) R) ∧ (∃ z, w'.cell? ⟨b, q * 7 + 5, none⟩ = some z) ∧ w'.frozen? ⟨b, q * 7 + 5, none⟩ = false := by
  rw [← hab] at hg hv
  have hA : OwnA w' B v (insAt m.ats j (pn, pv)) := by
    unfold OwnA
    rw [insAt_length _ hj, cellsA_ins _ _ _ hj]
    exact hown
  have hk : ∀ s ∈ insAt m.ats j (pn, pv), s.1.size ≤ 140737488351232 ∧ s.2.size ≤ 140737488351232 := by
    intro s hs
    unfold insAt at hs
    simp only [List.append_assoc, List.mem_append, List.mem_singleton] at hs
    rcases hs with hs | rfl | hs
    · exact hf.atr s (List.mem_of_mem_take hs)
    · exact hpn
    · exact hf.atr s (List.mem_of_mem_drop hs)
  obtain ⟨h1, h2⟩ := hO6.insA hM hg hv hA hk (by rw [insAt_length _ hj]; omega)
  have hbb := hO.foot (b := b) (Or.inl rfl)
  have hPb : P ≠ b := by
    rintro rfl
    obtain ⟨cur, hcur⟩ := hO.rowBlock
    rw [hP] at hcur
    simp at hcur
  have hAq : ∀ g, (ab q).ownBlock = some g → B ≤ g ∧ g ≠ P := by
    intro g hg'
    obtain ⟨cu, hc, hc2⟩ := (hO.ats q m hM).block hg'
    refine ⟨hc2, ?_⟩
    rintro rfl
    rw [hP] at hc
    simp at hc
  have hsz := hb.size
  have hPl : P < w.heap.size := lt_of_block hP
  refine ⟨?_, ?_, own_frozen h1 _⟩
  · show PtPost _ _ _ _ _ _
    rw [hR]
    refine ⟨rfl, ⟨_, _, _, (heap_set_other _ hPb).trans ((hg.block P (by omega) (fun e => (hAq P e.symm).2 rfl)).trans (hKP W hb)), h2, hBP⟩, ⟨hg.os.trans hb.os, hg.tape.trans hb.tape, hg.output.trans hb.output, ?_, fun k hk' => ?_⟩⟩
    · have := hg.size
      have h9 : w.heap.size ≤ w'.heap.size := by omega
      simpa [World.setCell] using h9
    · refine (heap_set_other _ (by omega)).trans ((hg.block k (by omega) ?_).trans (hb.block k (by omega)))
      intro e
      have := (hAq k e.symm).1
      omega
  · obtain ⟨g, hg', -, -, -, -, -, c5, -⟩ := rowN_cells h1 hM
    cases hg'
    exact ⟨_, c5⟩

set_option maxRecDepth 100000 in
set_option maxHeartbeats 1600000 in
theorem set_any (s : Ds) (p : Pt) (B P : Nat) (w : World) (hs : DsAt w B P s) (hp : PtOk p) (hB : B ≤ w.heap.size) (hn : s.nodes.length ≤ 1024) (hu : Up s.nodes) (hua : ∀ n ∈ s.nodes, UpA n.ats ∧ n.ats.length ≤ 16) :
    Calls Try.prog 54 #[.pointer (some ⟨P, 0, none⟩), mkP p] w fun e w' => PtPost w w' B P e (setD s p) := by
  obtain ⟨v, ab, kb, hP, hO, hBP⟩ := hs
  obtain ⟨va, vc, hvs⟩ := hO.shape
  subst hvs
  have HO : Hid (OwnN w B (.slice va s.nodes.length vc) s.nodes ab kb) := hO
  have HP : Hid (w.heap[P]? = some (.cells #[.slice va s.nodes.length vc, .int .i64 s.root, .int .i64 s.next] 29 (0, 0))) := hP
  have HBP : Hid (B ≤ P) := hBP
  have HU : Hid (Up s.nodes) := hu
  have hPl : P < w.heap.size := lt_of_block hP
  have HPN : Hid (p.name.size ≤ 140737488351232 ∧ p.val.size ≤ 140737488351232) := ⟨hp.name, hp.val⟩
  have HUA : Hid (∀ n ∈ s.nodes, UpA n.ats ∧ n.ats.length ≤ 16) := hua
  obtain ⟨ns, root, next⟩ := s
  obtain ⟨pw, pi, pp, pat, pg, pk, pt, pn, pv⟩ := p
  simp only at *
  clear hP hO hBP hu hua hp
  have KP : Hid (∀ W, Below w.heap.size w W → W.heap[P]? = some (.cells #[.slice va ns.length vc, .int .i64 root, .int .i64 next] 29 (0, 0))) := fun W hb => (hb.block _ hPl).trans HP.out
  have HSTAY : Hid (∀ W, Below w.heap.size w W → DsAt W B P ⟨ns, root, next⟩ ∧ Below B w W) := fun W hb => ⟨⟨_, ab, kb, KP.out W hb, HO.out.below hb, HBP.out⟩, hb.mono hB⟩
  have HFI : Hid (∀ W, Below w.heap.size w W → Calls Try.prog 48 #[.slice va ns.length vc, .int .i64 pi] W fun e w' => ∃ v, e = .returned v ∧ FindIs va ns pi v ∧ Below W.heap.size W w') := fun W hb => find_any ns pi va vc W (HO.out.below hb).lay HU.out hn
  obtain ⟨W1, hW1⟩ : ∃ W : World, W = w.alloc (.cells #[.int .i64 pw, .int .i64 pi, .int .i64 pp, .int .i64 pat, .string pg, .string pk, .string pt, .string pn, .string pv] 49) := ⟨_, rfl⟩
  have B1 : Hid (Below w.heap.size w W1) := by show Below _ _ _; rw [hW1]; exact below_one _ _
  have X1 : Hid (W1.heap[w.heap.size]? = some (.cells #[.int .i64 pw, .int .i64 pi, .int .i64 pp, .int .i64 pat, .string pg, .string pk, .string pt, .string pn, .string pv] 49 (0, 0))) := by show _ = _; rw [hW1]; exact heap_alloc_new _ _
  go_enter Try.func54, Try.ntmps54
  go_wp2_with fail
  rw [← hW1]
  clear hW1
  obtain ⟨-, y1, -, -, -, -, -, -, -⟩ := nine X1.out
  obtain ⟨p0, p1, p2⟩ := three (KP.out _ B1.out)
  have y1' : W1.drew.cell? ⟨w.heap.size, 1, none⟩ = some (.int .i64 pi) := y1
  have p0' : W1.drew.cell? ⟨P, 0, none⟩ = some (.slice va ns.length vc) := p0
  go_region_held3 (fun w' => w'.cell? ⟨w.heap.size, 1, none⟩ = some (.int .i64 pi) ∧ w'.cell? ⟨P, 0, none⟩ = some (.slice va ns.length vc)) (go_keep) ((go_at_call 48; refine (HFI.out W1.drew B1.out.drew).mono ?_; rintro e w2 ⟨fv, rfl, hfi, hb2⟩; have u1 := keepc hb2 _ _ y1'; have u0 := keepc hb2 _ _ p0'))
  have B2 : Hid (Below w.heap.size w w2) := nxt B1.out.drew hb2
  have X2 : Hid (w2.heap[w.heap.size]? = _) := (hb2.block _ (lt_of_block X1.out)).trans X1.out
  clear hb2 u1 u0 y1 p0 p1 p2 y1' p0'
  unfold FindIs at hfi
  cases hp : pl ns pi with
  | none =>
    rw [hp] at hfi
    simp only at hfi
    subst hfi
    have HR : Hid (setD ⟨ns, root, next⟩ ⟨pw, pi, pp, pat, pg, pk, pt, pn, pv⟩ = (71, ⟨ns, root, next⟩)) := by show _ = _; unfold setD; simp only; rw [hp]
    clear hp
    go_wp2_with fail
    go_ret
    rw [HR.out]
    exact ⟨rfl, HSTAY.out _ B2.out⟩
  | some q =>
    rw [hp] at hfi
    simp only at hfi
    obtain ⟨b, o, ha, rfl⟩ := hfi
    obtain ⟨m, hm1, hm2⟩ := pl_some hp
    have O2 : Hid (OwnN w2 B (.slice va ns.length vc) ns ab kb) := HO.out.below B2.out
    subst ha
    obtain ⟨g, hg, r0, r1, r2, r3, r4, r5, r6⟩ := rowN_cells O2.out.row hm1
    cases hg
    rw [Nat.zero_add]
    obtain ⟨mka, mkc, hmk⟩ := (O2.out.kids q m hm1).shape
    obtain ⟨maa, mac, hma⟩ := (O2.out.ats q m hm1).shape
    rw [hmk] at r6
    rw [hma] at r5
    have HM : Hid (ns[q]? = some m) := hm1
    have HRE : Hid (setD ⟨ns, root, next⟩ ⟨pw, pi, pp, pat, pg, pk, pt, pn, pv⟩ = if m.tag.size = 0 then (81, ⟨ns, root, next⟩) else if nmD pn = false then (31, ⟨ns, root, next⟩) else if 128 < pv.size then (5, ⟨ns, root, next⟩) else if hasA m.ats pn = true then (0, ⟨ns.set q (m.withAts (putV m.ats (lwA m.ats pn) pv)), root, next⟩) else if m.ats.length = 16 then (3, ⟨ns, root, next⟩) else (0, ⟨ns.set q (m.withAts (insAt m.ats (lwA m.ats pn) (pn, pv))), root, next⟩)) := by show _ = _; unfold setD; simp only; rw [hp]; simp only; rw [hm1]
    have HUM : Hid (UpA m.ats ∧ m.ats.length ≤ 16) := HUA.out m (List.mem_of_getElem? hm1)
    have HFM : Hid (NdFit m) := O2.out.fit m (List.mem_of_getElem? hm1)
    have HAM : Hid (OwnA w2 B (.slice maa m.ats.length mac) m.ats) := by show OwnA _ _ _ _; rw [← hma]; exact O2.out.ats q m hm1
    have HAB : Hid (ab q = .slice maa m.ats.length mac) := hma
    clear hm1 hm2 hp hmk hma
    have CI : Hid (∀ W, Calls Try.prog 58 #[mkN m.id m.par m.tag m.key m.txt maa m.ats.length mac mka m.kids.length mkc] W _) := fun W => istextN_any m.id m.par m.tag m.key m.txt maa m.ats.length mac mka m.kids.length mkc W
    by_cases hg : m.tag.size = 0
    · rw [if_pos hg] at HRE
      have CJ : Hid (∀ W, Calls Try.prog 58 #[mkN m.id m.par m.tag m.key m.txt maa m.ats.length mac mka m.kids.length mkc] W fun e w' => e = .returned (.bool true) ∧ Below W.heap.size W w') := fun W => by have := CI.out W; rwa [empty_true hg] at this
      clear CI hg
      go_wp2_with (go_at_call 58; refine (CJ.out _).mono ?_; rintro e w3 ⟨rfl, hb3⟩; have B3 : Hid (Below w.heap.size w w3) := nxt B2.out hb3; clear hb3)
      go_ret
      rw [HRE.out]
      exact ⟨rfl, HSTAY.out _ B3.out⟩
    · rw [if_neg hg] at HRE
      have CJ : Hid (∀ W, Calls Try.prog 58 #[mkN m.id m.par m.tag m.key m.txt maa m.ats.length mac mka m.kids.length mkc] W fun e w' => e = .returned (.bool false) ∧ Below W.heap.size W w') := fun W => by have := CI.out W; rwa [empty_false hg] at this
      clear CI hg
      go_wp2_with fail
      refine (CJ.out _).mono ?_
      rintro e w3 ⟨rfl, hb3⟩
      have B3 : Hid (Below w.heap.size w w3) := nxt B2.out hb3
      have X3 : Hid (w3.heap[w.heap.size]? = _) := (hb3.block _ (lt_of_block X2.out)).trans X2.out
      have hb3' := hb3
      have q5 := keepc hb3 _ _ r5
      have A3 : Hid (OwnA w3 B (.slice maa m.ats.length mac) m.ats) := HAM.out.below hb3
      have O3 : Hid (OwnN w3 B (.slice (some ⟨b, 0, none⟩) ns.length vc) ns ab kb) := O2.out.below hb3
      clear q5
      obtain ⟨-, -, -, -, -, -, -, y7, y8⟩ := nine X3.out
      clear hb3 r0 r1 r2 r3 r4 CJ X2
      go_wp2_with fail
      refine (isNameD_any pn _ HPN.out.1).mono ?_
      rintro e w4 ⟨rfl, hb4⟩
      have B4 : Hid (Below w.heap.size w w4) := nxt B3.out hb4
      have X4 : Hid (w4.heap[w.heap.size]? = _) := (hb4.block _ (lt_of_block X3.out)).trans X3.out
      have A4 : Hid (OwnA w4 B (.slice maa m.ats.length mac) m.ats) := A3.out.below hb4
      have O4 : Hid (OwnN w4 B (.slice (some ⟨b, 0, none⟩) ns.length vc) ns ab kb) := O3.out.below hb4
      have q5 := keepc (nxt hb3' hb4) _ _ r5
      clear hb4 y7 y8 X3 A3 O3 r5 r6 hb3'
      generalize nmD pn = hnm at *
      cases hnm with
      | false =>
        rw [if_pos rfl] at HRE
        go_wp2_with fail
        go_ret
        rw [HRE.out]
        exact ⟨rfl, HSTAY.out _ B4.out⟩
      | true =>
        rw [if_neg (by simp)] at HRE
        obtain ⟨-, -, -, -, -, -, -, y7, y8⟩ := nine X4.out
        by_cases hl : 128 < pv.size
        · rw [if_pos hl] at HRE
          have g1 : decide ((128 : Int) < (pv.size : Int)) = true := decide_eq_true (by omega)
          clear hl
          go_wp2_with fail
          go_ret
          rw [HRE.out]
          exact ⟨rfl, HSTAY.out _ B4.out⟩
        · rw [if_neg hl] at HRE
          have g1 : decide ((128 : Int) < (pv.size : Int)) = false := decide_eq_false (by omega)
          clear hl
          have y7' : w4.drew.cell? ⟨w.heap.size, 7, none⟩ = some (.string pn) := y7
          have q5' : w4.drew.cell? ⟨b, q * 7 + 5, none⟩ = some (.slice maa m.ats.length mac) := q5
          have HAP : Hid (Calls Try.prog 82 #[.slice maa m.ats.length mac, .string pn] w4.drew _) := attrPlace_any m.ats pn maa mac w4.drew (A4.out.lay HFM.out.atr) HUM.out.1 HUM.out.2
          go_wp2_with fail
          go_region_held3 (fun w' => w'.cell? ⟨w.heap.size, 7, none⟩ = some (.string pn) ∧ w'.cell? ⟨b, q * 7 + 5, none⟩ = some (.slice maa m.ats.length mac)) (go_keep) ((go_at_call 82; refine HAP.out.mono ?_; rintro e w5 ⟨rfl, hb5⟩; have u7 := keepc hb5 _ _ y7'; have u5 := keepc hb5 _ _ q5'))
          have B45 : Hid (Below w4.heap.size w4 w5) := (Below.refl _ w4).drew.trans hb5
          have B5 : Hid (Below w.heap.size w w5) := nxt B4.out B45.out
          have X5 : Hid (w5.heap[w.heap.size]? = _) := (B45.out.block _ (lt_of_block X4.out)).trans X4.out
          have A5 : Hid (OwnA w5 B (.slice maa m.ats.length mac) m.ats) := A4.out.below B45.out
          have O5 : Hid (OwnN w5 B (.slice (some ⟨b, 0, none⟩) ns.length vc) ns ab kb) := O4.out.below B45.out
          have hlw := lwA_le m.ats pn
          have HHAS : Hid (hasA m.ats pn = true → ∃ s, m.ats[lwA m.ats pn]? = some s) := by
            show _ → _
            intro h
            unfold hasA at h
            cases hc : m.ats[lwA m.ats pn]? with
            | none => rw [hc] at h; simp at h
            | some s => exact ⟨s, rfl⟩
          clear hb5 u7 y7 y8 y7' q5' q5 HAP A4 O4 X4 B4 B45
          generalize hhh : hasA m.ats pn = hh at *
          obtain ⟨-, -, -, -, -, -, -, y7, y8⟩ := nine X5.out
          cases hh with
          | true =>
            rw [if_pos rfl] at HRE
            obtain ⟨s, hs⟩ := HHAS.out rfl
            have hlt : lwA m.ats pn < m.ats.length := (List.getElem?_eq_some_iff.1 hs).1
            have hpv : putV m.ats (lwA m.ats pn) pv = m.ats.set (lwA m.ats pn) (s.1, pv) := by unfold putV; rw [hs]
            rw [hpv] at HRE
            have HS : Hid (m.ats[lwA m.ats pn]? = some s) := hs
            clear hs hpv hhh HHAS
            generalize lwA m.ats pn = j at *
            obtain ⟨a, ha, d1⟩ := cells_of_own A5.out (j * 2 + 1) (.string s.2) (cellsA_val HS.out)
            subst ha
            have f1 := own_frozen A5.out (j * 2 + 1)
            have hab : ab q = .slice (some ⟨a, 0, none⟩) m.ats.length mac := HAB.out
            have o6 := (O5.out.below (Below.refl _ w5).drew).setVal HM.out hab HS.out HPN.out.2
            have HFIN : Hid (PtPost w (w5.drew.setCell ⟨a, j * 2 + 1, none⟩ (.string pv)) B P (.returned (.int .i64 0)) (setD ⟨ns, root, next⟩ ⟨pw, pi, pp, pat, pg, pk, pt, pn, pv⟩)) := by
              show PtPost _ _ _ _ _ _
              rw [HRE.out]
              have hPa : P ≠ a := by
                rintro rfl
                obtain ⟨cu, hc, -⟩ := A5.out.block (g := P) rfl
                rw [KP.out _ B5.out] at hc
                simp at hc
              have hba := (A5.out.block (g := a) rfl)
              obtain ⟨-, -, hba⟩ := hba
              have hb' := B5.out.drew.mono hB
              refine ⟨rfl, ⟨_, _, _, (heap_set_other _ hPa).trans (KP.out _ B5.out.drew), o6, HBP.out⟩, ⟨hb'.os, hb'.tape, hb'.output, by have := hb'.size; simpa [World.setCell] using this, fun k hk => (heap_set_other _ (by omega)).trans (hb'.block k hk)⟩⟩
            clear o6 hab
            have y8' : w5.drew.cell? ⟨w.heap.size, 8, none⟩ = some (.string pv) := y8
            have u5' : w5.drew.cell? ⟨b, q * 7 + 5, none⟩ = some (.slice (some ⟨a, 0, none⟩) m.ats.length mac) := u5
            have d1' : w5.drew.cell? ⟨a, j * 2 + 1, none⟩ = some (.string s.2) := by rw [Nat.zero_add] at d1; exact d1
            have f1' : w5.drew.frozen? ⟨a, j * 2 + 1, none⟩ = false := f1
            go_wp2_with fail
            go_region_with (fail)
            all_goals (
              clear y8' u5' d1' f1' y7 y8 u5 d1 f1
              go_wp2_with fail
              go_ret
              exact HFIN.out)
          | false =>
            rw [if_neg (by simp)] at HRE
            clear HHAS hhh
            by_cases h16 : m.ats.length = 16
            · rw [if_pos h16] at HRE
              have g5 : ((m.ats.length : Int) == 16) = true := by simpa using (by exact_mod_cast h16 : (m.ats.length : Int) = 16)
              clear h16
              go_wp2_with fail
              go_ret
              rw [HRE.out]
              exact ⟨rfl, HSTAY.out _ B5.out⟩
            · rw [if_neg h16] at HRE
              have g5 : ((m.ats.length : Int) == 16) = false := by simpa using (by exact_mod_cast h16 : ¬ (m.ats.length : Int) = 16)
              clear h16
              go_wp2_with fail
              have HJ : Hid (lwA m.ats pn ≤ m.ats.length) := hlw
              have HL16 : Hid (m.ats.length ≤ 16) := HUM.out.2
              clear hlw
              generalize lwA m.ats pn = j at *
              obtain ⟨W6, hW6⟩ : ∃ W : World, W = w5.drew.alloc (.cells #[.string pn, .string pv] 90) := ⟨_, rfl⟩
              have B56 : Hid (Below w5.heap.size w5 W6) := by show Below _ _ _; rw [hW6]; exact nxt (Below.refl _ w5).drew (below_one w5.drew _)
              have O6 : Hid (OwnN W6 B (.slice (some ⟨b, 0, none⟩) ns.length vc) ns ab kb) := O5.out.below B56.out
              have A6 : Hid (OwnA W6 B (.slice maa m.ats.length mac) m.ats) := A5.out.below B56.out
              have B6 : Hid (Below w.heap.size w W6) := nxt B5.out B56.out
              have HIN : Hid (Calls Try.prog 83 #[.slice maa m.ats.length mac, .int .i64 j, .slice (some ⟨w5.heap.size, 0, none⟩) 1 1] W6 _) := insA_any (.slice maa m.ats.length mac) B m.ats.length j w5.heap.size (cellsA m.ats) [.string pn, .string pv] W6 HJ.out (Nat.le_trans hB B6.out.size) (by have := HL16.out; omega) A6.out (fun h => by have := (OwnA.rng A5.out h).2; omega) (by rw [hW6]; exact heap_alloc_new _ _) rfl (cellsA_one _) (by simp [Value.oneCell'])
              have y7' : w5.drew.cell? ⟨w.heap.size, 7, none⟩ = some (.string pn) := y7
              have y8' : w5.drew.cell? ⟨w.heap.size, 8, none⟩ = some (.string pv) := y8
              have u5' : w5.drew.cell? ⟨b, q * 7 + 5, none⟩ = some (.slice maa m.ats.length mac) := u5
              have u6 := keepc B56.out _ _ u5
              rw [hW6] at HIN u6
              have u6' : (w5.alloc (.cells #[.string pn, .string pv] 90)).drew.cell? ⟨b, q * 7 + 5, none⟩ = some (.slice maa m.ats.length mac) := u6
              have u6'' : (w5.alloc (.cells #[.string pn, .string pv] 90)).cell? ⟨b, q * 7 + 5, none⟩ = some (.slice maa m.ats.length mac) := u6
              go_wp2_with fail
              go_region_with (go_at_call 83; refine HIN.out.mono ?_; rintro e w7 ⟨v7, rfl, hown7, hg7, hv7⟩; obtain ⟨k7a, k7c, rfl⟩ := slice_of_own hown7; rw [← hW6] at hg7 hv7; obtain ⟨HF7, HC7, HZ7⟩ := set_end HO.out HP.out KP.out HBP.out HRE.out HAB.out HM.out B6.out O6.out HFM.out HPN.out HL16.out HJ.out hown7 hg7 hv7; obtain ⟨z7, hz7⟩ := HC7)
              all_goals (
                clear y7' y8' u5' u6 u6' u6'' y7 y8 u5 hown7 hg7 hv7 hz7 HZ7
                go_wp2_with fail
                go_ret
                exact HF7.out)
end Go.Proofs.Ytbadehbnpneepaa
