/-
  The program's hang (what a patch 2 does).
-/
import Derived.Test.YtcdnakcojanaeabGreatDoIns
namespace Go.Proofs.YtcdnakcojanaeabGreat
open Go.ChangeShapes Go.WideShapes Go.ChangeAt Go.RowKit Go.Deep
open Do

namespace Do
/-- A number put at a place of a list. -/
def insZ (ks : List Int) (i : Nat) (x : Int) : List Int := ks.take i ++ [x] ++ ks.drop i

/-- Nodes behind a node that is hung. -/
def hungN (ns : List Nd) (n m : Nd) (q t : Nat) (p : Pt) : List Nd :=
  match (offN ns n)[t]? with
  | none => ns
  | some m1 => match ((offN ns n).set t (m1.withKids (insZ (lessZ m.kids p.id) p.at_.toNat p.id)))[q]? with
    | none => ns
    | some n2 => ((offN ns n).set t (m1.withKids (insZ (lessZ m.kids p.id) p.at_.toNat p.id))).set q (n2.withPar p.par)

/-- What is told of a node and the node that it shall hang in. -/
def hangE (ns : List Nd) (root : Int) (m : Nd) (p : Pt) : Int :=
  if m.tag.size = 0 then 81 else if wiB ns p.id (ns.length + 1) p.par = true then 72 else if p.id = root then 9
  else if p.at_ < 0 ∨ (lessZ m.kids p.id).length < p.at_ then 82 else if (lessZ m.kids p.id).length = 32 then 3 else 0

/-- What 2 does. -/
def hangD (s : Ds) (p : Pt) : Int × Ds :=
  match pl s.nodes p.id, pl s.nodes p.par with
  | some q, some t => match s.nodes[q]?, s.nodes[t]? with
    | some n, some m => (hangE s.nodes s.root m p, if hangE s.nodes s.root m p = 0 then ⟨hungN s.nodes n m q t p, s.root, s.next⟩ else s)
    | _, _ => (71, s)
  | _, _ => (71, s)
end Do

theorem offN_length (ns : List Nd) (n : Nd) : (offN ns n).length = ns.length := by
  unfold offN
  split
  · rfl
  · split
    · rfl
    · split
      · rfl
      · simp

theorem insZ_length {ks : List Int} {i : Nat} (x : Int) (h : i ≤ ks.length) : (insZ ks i x).length = ks.length + 1 := by
  unfold insZ
  simp
  omega

theorem insZ_own {w : World} {D : Nat} {v : Value} {ks : List Int} {i : Nat} {x : Int} (hi : i ≤ ks.length) (h : w.ownsRow D 3 1 v (ks.length + 1) ((ks.map fun k => Value.int .i64 k).take i ++ [.int .i64 x] ++ (ks.map fun k => Value.int .i64 k).drop i)) : OwnZ w D v (insZ ks i x) := by
  unfold OwnZ
  rw [insZ_length x hi]
  have e : (insZ ks i x).map (fun k => Value.int .i64 k) = (ks.map fun k => Value.int .i64 k).take i ++ [.int .i64 x] ++ (ks.map fun k => Value.int .i64 k).drop i := by
    unfold insZ
    simp [List.map_take, List.map_drop]
  rw [e]
  exact h

theorem insZ_i64 {ks : List Int} {i : Nat} {x : Int} (hi : i ≤ ks.length) (h : I64 ks) (hx : -9223372036854775808 ≤ x ∧ x ≤ 9223372036854775807) (hl : ks.length ≤ 32) : I64 (insZ ks i x) ∧ (insZ ks i x).length * 8 ≤ 140737488351232 := by
  refine ⟨?_, by rw [insZ_length x hi]; omega⟩
  intro y hy
  unfold insZ at hy
  simp only [List.append_assoc, List.mem_append, List.mem_singleton] at hy
  rcases hy with hy | rfl | hy
  · exact h y (List.mem_of_mem_take hy)
  · exact hx
  · exact h y (List.mem_of_mem_drop hy)

theorem hang_mid {w w7 w8 : World} {B D b L vc : Nat} {ns : List Nd} {ab kb : Nat → Value} {kv : Value} {lk : List Int} (O : OwnN w B (.slice (some ⟨b, 0, none⟩) L vc) ns ab kb) (hD : w.heap.size ≤ D) (K7 : OwnZ w7 D kv lk) (hk8 : Kept (fun j => (Value.slice (some ⟨b, 0, none⟩) L vc).ownBlock = some j) w7 w8) :
    OwnZ w8 D kv lk ∧ (∀ j, j < w7.heap.size → j ≠ b → w8.heap[j]? = w7.heap[j]?) ∧ B ≤ b ∧ b < w.heap.size := by
  have hb := O.foot (b := b) (Or.inl rfl)
  have hs : ∀ j, j < w7.heap.size → j ≠ b → w8.heap[j]? = w7.heap[j]? := fun j hj hne => hk8.block j hj (by
    intro h
    simp only [Value.ownBlock, Option.some.injEq] at h
    exact hne h.symm)
  exact ⟨K7.same fun g hg => hs g (K7.lt g hg).2 (by have := (K7.lt g hg).1; omega), hs, hb.1, hb.2⟩

theorem hang_end {w w7 w8 w9 : World} {B D b L vc t : Nat} {ns ns8 : List Nd} {ab kb kb' : Nat → Value} {kv v' : Value} {lk ks9 : List Int} {o : Obj} {m1 : Nd} (O : OwnN w B (.slice (some ⟨b, 0, none⟩) L vc) ns ab kb) (B7 : Below w.heap.size w w7) (hD : w.heap.size < D) (K7 : OwnZ w7 D kv lk) (hk8 : Kept (fun j => (Value.slice (some ⟨b, 0, none⟩) L vc).ownBlock = some j) w7 w8)
    (O8 : OwnN w8 B (.slice (some ⟨b, 0, none⟩) L vc) ns8 ab kb') (hl : ns8.length = ns.length) (hkb : ∀ i, kb' i = kb i ∨ ∀ g, (kb' i).ownBlock = some g → w7.heap.size ≤ g)
    (hg : (w8.alloc o).grownBy w9 kv.ownBlock) (hv : v'.ownBlock = kv.ownBlock ∨ ∀ g, v'.ownBlock = some g → (w8.alloc o).heap.size ≤ g) (K9 : OwnZ w9 D v' ks9) (hf : I64 ks9 ∧ ks9.length * 8 ≤ 140737488351232) (hB : B ≤ w.heap.size) (ht : ns8[t]? = some m1) :
    OwnN w9 B (.slice (some ⟨b, 0, none⟩) L vc) ns8 ab kb' ∧ OwnN (w9.setCell ⟨b, t * 7 + 6, none⟩ v') B (.slice (some ⟨b, 0, none⟩) L vc) (ns8.set t (m1.withKids ks9)) ab (upd kb' t v') ∧ (∀ j, j < w7.heap.size → j < D → j ≠ b → w9.heap[j]? = w7.heap[j]?) ∧ Kept (fun j => j = b) w w9 := by
  obtain ⟨K8, hs, hb1, hb2⟩ := hang_mid O (by omega) K7 hk8
  have hz := (below_one w8 o).size
  have hsz := hk8.size
  have hsz7 := B7.size
  have hs9 : ∀ j, j < w8.heap.size → some j ≠ kv.ownBlock → w9.heap[j]? = w8.heap[j]? := by
    intro j hj hne
    rw [hg.block j (by omega) hne]
    exact (below_one w8 o).block j hj
  have old : ∀ j, j < ns.length → ∀ g, (kb' j).ownBlock = some g → g < w.heap.size ∨ w7.heap.size ≤ g := by
    intro j hj g hgb
    rcases hkb j with h | h
    · rw [h] at hgb
      exact Or.inl ((O.kids j ns[j] (List.getElem?_eq_getElem hj)).lt g hgb).2
    · exact Or.inr (h g hgb)
  have new : ∀ g, kv.ownBlock = some g → D ≤ g ∧ g < w7.heap.size := fun g h => K7.lt g h
  have O9 : OwnN w9 B (.slice (some ⟨b, 0, none⟩) L vc) ns8 ab kb' := by
    refine O8.same fun j hj => hs9 j (O8.foot hj).2 ?_
    intro he
    obtain ⟨h1, h2⟩ := new j he.symm
    rcases hj with h | ⟨i, hi, h⟩ | ⟨i, hi, h⟩
    · simp only [Value.ownBlock, Option.some.injEq] at h
      omega
    · rw [hl] at hi
      have := ((O.ats i ns[i] (List.getElem?_eq_getElem hi)).lt j h).2
      omega
    · rw [hl] at hi
      rcases old i hi j h with h' | h' <;> omega
  have K9' : OwnZ w9 B v' ks9 := K9.less (by omega)
  refine ⟨O9, O9.setKids ht K9' hf ?_, ?_, ?_⟩
  · intro j g hj hg1 hg2
    rw [hl] at hj
    have hlt := (O9.foot (Or.inr (Or.inr ⟨j, by rw [hl]; exact hj, hg2⟩))).2
    have hlt8 := (O8.foot (Or.inr (Or.inr ⟨j, by rw [hl]; exact hj, hg2⟩))).2
    have ho := old j hj g hg2
    rcases hv with h | h
    · rw [h] at hg1
      obtain ⟨h1, h2⟩ := new g hg1
      omega
    · have := h g hg1
      omega
  · intro j h1 h2 h3
    rw [hs9 j (by omega) (fun he => by have := (new j he.symm).1; omega)]
    exact hs j h1 h3
  · refine ⟨hg.os.trans (hk8.os.trans B7.os), hg.tape.trans (hk8.tape.trans B7.tape), hg.output.trans (hk8.output.trans B7.output), by have := hg.size; omega, fun j hj hne => ?_⟩
    rw [hs9 j (by omega) (fun he => by have := (new j he.symm).1; omega), hs j (by omega) hne]
    exact B7.block j hj

set_option maxRecDepth 100000 in
set_option maxHeartbeats 1600000 in
theorem hang_any (s : Ds) (p : Pt) (B P : Nat) (w : World) (hs : DsAt w B P s) (hp : PtOk p) (hB : B ≤ w.heap.size) (hn : s.nodes.length ≤ 1024) (hu : Up s.nodes) (hout : ∀ x q, pl s.nodes x = some q → Out s.nodes (s.nodes.length + 1) x) (hpars : ∀ n ∈ s.nodes, n.par ≠ 0 → ∃ q, pl s.nodes n.par = some q) (hkl : ∀ n ∈ s.nodes, n.kids.length ≤ 32) :
    Calls Tryz.prog 40 #[.pointer (some ⟨P, 0, none⟩), mkP p] w fun e w' => PtPost w w' B P e (hangD s p) := by
  obtain ⟨v, ab, kb, hP, hO, hBP⟩ := hs
  obtain ⟨va, vc, hvs⟩ := hO.shape
  subst hvs
  have HO : Hid (OwnN w B (.slice va s.nodes.length vc) s.nodes ab kb) := hO
  have HP : Hid (w.heap[P]? = some (.cells #[.slice va s.nodes.length vc, .int .i64 s.root, .int .i64 s.next] 30 (0, 0))) := hP
  have HBP : Hid (B ≤ P) := hBP
  have HU : Hid (Up s.nodes) := hu
  have HOUT : Hid (∀ x q, pl s.nodes x = some q → Out s.nodes (s.nodes.length + 1) x) := hout
  have HPS : Hid (∀ n ∈ s.nodes, n.par ≠ 0 → ∃ q, pl s.nodes n.par = some q) := hpars
  have HKL : Hid (∀ n ∈ s.nodes, n.kids.length ≤ 32) := hkl
  have HOK : Hid (PtOk p) := hp
  have hPl : P < w.heap.size := lt_of_block hP
  obtain ⟨ns, root, next⟩ := s
  obtain ⟨pw, pi, pp, pat, pg, pk, pt, pn, pv⟩ := p
  simp only at *
  clear hP hO hBP hu hout hpars hkl hp
  have KP : Hid (∀ W, Below w.heap.size w W → W.heap[P]? = some (.cells #[.slice va ns.length vc, .int .i64 root, .int .i64 next] 30 (0, 0))) := fun W hb => (hb.block _ hPl).trans HP.out
  have HSTAY : Hid (∀ W, Below w.heap.size w W → DsAt W B P ⟨ns, root, next⟩ ∧ Below B w W) := fun W hb => ⟨⟨_, ab, kb, KP.out W hb, HO.out.below hb, HBP.out⟩, hb.mono hB⟩
  have HFI : Hid (∀ W, Below w.heap.size w W → ∀ x, Calls Tryz.prog 54 #[.slice va ns.length vc, .int .i64 x] W fun e w' => ∃ v, e = .returned v ∧ FindIs va ns x v ∧ Below W.heap.size W w') := fun W hb x => find_any ns x va vc W (HO.out.below hb).lay HU.out hn
  obtain ⟨W1, hW1⟩ : ∃ W : World, W = w.alloc (.cells #[.int .i64 pw, .int .i64 pi, .int .i64 pp, .int .i64 pat, .string pg, .string pk, .string pt, .string pn, .string pv] 35) := ⟨_, rfl⟩
  have B1 : Hid (Below w.heap.size w W1) := by show Below _ _ _; rw [hW1]; exact below_one _ _
  have X1 : Hid (W1.heap[w.heap.size]? = some (.cells #[.int .i64 pw, .int .i64 pi, .int .i64 pp, .int .i64 pat, .string pg, .string pk, .string pt, .string pn, .string pv] 35 (0, 0))) := by show _ = _; rw [hW1]; exact heap_alloc_new _ _
  go_enter Tryz.func40, Tryz.ntmps40
  go_wp2_with fail
  rw [← hW1]
  clear hW1
  obtain ⟨-, y1, y2, -, -, -, -, -, -⟩ := nine X1.out
  obtain ⟨p0, -, -⟩ := three (KP.out _ B1.out)
  have y1' : W1.drew.cell? ⟨w.heap.size, 1, none⟩ = some (.int .i64 pi) := y1
  have y2' : W1.drew.cell? ⟨w.heap.size, 2, none⟩ = some (.int .i64 pp) := y2
  have p0' : W1.drew.cell? ⟨P, 0, none⟩ = some (.slice va ns.length vc) := p0
  go_region_held3 (fun w' => w'.cell? ⟨w.heap.size, 1, none⟩ = some (.int .i64 pi) ∧ w'.cell? ⟨w.heap.size, 2, none⟩ = some (.int .i64 pp) ∧ w'.cell? ⟨P, 0, none⟩ = some (.slice va ns.length vc)) (go_keep) (first
    | (go_at_call 54; refine (HFI.out w2 (nxt B1.out.drew hb2) pp).mono ?_; rintro e w3 ⟨fv3, rfl, hfi3, hb3⟩; have t1 := keepc hb3 _ _ u1; have t2 := keepc hb3 _ _ u2; have t0 := keepc hb3 _ _ u0)
    | (go_at_call 54; refine (HFI.out W1.drew B1.out.drew pi).mono ?_; rintro e w2 ⟨fv2, rfl, hfi2, hb2⟩; have u1 := keepc hb2 _ _ y1'; have u2 := keepc hb2 _ _ y2'; have u0 := keepc hb2 _ _ p0'))
  have B3 : Hid (Below w.heap.size w w3) := nxt (nxt B1.out.drew hb2) hb3
  have X3 : Hid (w3.heap[w.heap.size]? = _) := ((nxt hb2 hb3).block _ (lt_of_block X1.out)).trans X1.out
  clear hb2 hb3 u0 u1 u2 t0 t1 t2 y1 y2 y1' y2' p0 p0' X1 B1
  unfold FindIs at hfi2 hfi3
  cases hq : pl ns pi with
  | none =>
    rw [hq] at hfi2
    simp only at hfi2
    subst hfi2
    have HR : Hid (hangD ⟨ns, root, next⟩ ⟨pw, pi, pp, pat, pg, pk, pt, pn, pv⟩ = (71, ⟨ns, root, next⟩)) := by show _ = _; unfold hangD; simp only; rw [hq]
    clear hq hfi3
    go_wp2_with fail
    go_ret
    rw [HR.out]
    exact ⟨rfl, HSTAY.out _ B3.out⟩
  | some q =>
    rw [hq] at hfi2
    simp only at hfi2
    obtain ⟨b, o, ha, rfl⟩ := hfi2
    cases ht : pl ns pp with
    | none =>
      rw [ht] at hfi3
      simp only at hfi3
      subst hfi3
      have HR : Hid (hangD ⟨ns, root, next⟩ ⟨pw, pi, pp, pat, pg, pk, pt, pn, pv⟩ = (71, ⟨ns, root, next⟩)) := by show _ = _; unfold hangD; simp only; rw [hq, ht]
      clear hq ht
      subst ha
      go_wp2_with fail
      go_ret
      rw [HR.out]
      exact ⟨rfl, HSTAY.out _ B3.out⟩
    | some t =>
      rw [ht] at hfi3
      simp only at hfi3
      obtain ⟨b', o', ha', rfl⟩ := hfi3
      subst ha
      cases ha'
      obtain ⟨n, hq1, hq2⟩ := pl_some hq
      obtain ⟨m, ht1, ht2⟩ := pl_some ht
      have O3 : Hid (OwnN w3 B (.slice (some ⟨b, o, none⟩) ns.length vc) ns ab kb) := HO.out.below B3.out
      obtain ⟨g, hg, -⟩ := rowN_cells O3.out.row ht1
      cases hg
      have HRE : Hid (hangD ⟨ns, root, next⟩ ⟨pw, pi, pp, pat, pg, pk, pt, pn, pv⟩ = (hangE ns root m ⟨pw, pi, pp, pat, pg, pk, pt, pn, pv⟩, if hangE ns root m ⟨pw, pi, pp, pat, pg, pk, pt, pn, pv⟩ = 0 then ⟨hungN ns n m q t ⟨pw, pi, pp, pat, pg, pk, pt, pn, pv⟩, root, next⟩ else ⟨ns, root, next⟩)) := by
        show _ = _
        unfold hangD
        simp only
        rw [hq, ht]
        simp only
        rw [hq1, ht1]
      have HBAD : Hid (∀ x, hangE ns root m ⟨pw, pi, pp, pat, pg, pk, pt, pn, pv⟩ = x → x ≠ 0 → hangD ⟨ns, root, next⟩ ⟨pw, pi, pp, pat, pg, pk, pt, pn, pv⟩ = (x, ⟨ns, root, next⟩)) := by
        intro x hx h0
        rw [HRE.out, hx, if_neg h0]
      have HEE : Hid (hangE ns root m ⟨pw, pi, pp, pat, pg, pk, pt, pn, pv⟩ = if m.tag.size = 0 then 81 else if wiB ns pi (ns.length + 1) pp = true then 72 else if pi = root then 9 else if pat < 0 ∨ (lessZ m.kids pi).length < pat then 82 else if (lessZ m.kids pi).length = 32 then 3 else 0) := by show _ = _; rfl
      have HQ1 : Hid (ns[q]? = some n) := hq1
      have HT1 : Hid (ns[t]? = some m) := ht1
      have HTP : Hid (pl ns pp = some t) := ht
      have HFM : Hid (NdFit m) := O3.out.fit m (List.mem_of_getElem? ht1)
      have hml : (lessZ m.kids pi).length ≤ 32 := Nat.le_trans (List.length_filter_le _ _) (HKL.out m (List.mem_of_getElem? ht1))
      have hql : q < ns.length := (List.getElem?_eq_some_iff.1 hq1).1
      have htl : t < ns.length := (List.getElem?_eq_some_iff.1 ht1).1
      obtain ⟨mka, mkc, hmk⟩ := (O3.out.kids t m ht1).shape
      obtain ⟨maa, mac, hma⟩ := (O3.out.ats t m ht1).shape
      have HKT : Hid (OwnZ w3 B (.slice mka m.kids.length mkc) m.kids) := by rw [← hmk]; exact O3.out.kids t m ht1
      have HCM : Hid (∀ W, Below w3.heap.size w3 W → W.cell? ⟨b, t * 7, none⟩ = some (.int .i64 m.id) ∧ W.cell? ⟨b, t * 7 + 1, none⟩ = some (.int .i64 m.par) ∧ W.cell? ⟨b, t * 7 + 2, none⟩ = some (.string m.tag) ∧ W.cell? ⟨b, t * 7 + 3, none⟩ = some (.string m.key) ∧ W.cell? ⟨b, t * 7 + 4, none⟩ = some (.string m.txt) ∧ W.cell? ⟨b, t * 7 + 5, none⟩ = some (.slice maa m.ats.length mac) ∧ W.cell? ⟨b, t * 7 + 6, none⟩ = some (.slice mka m.kids.length mkc)) := by
        intro W hb
        obtain ⟨g', hg', c0, c1, c2, c3, c4, c5, c6⟩ := rowN_cells (O3.out.below hb).row HT1.out
        cases hg'
        rw [hma] at c5
        rw [hmk] at c6
        exact ⟨c0, c1, c2, c3, c4, c5, c6⟩
      clear hq ht hq1 hq2 ht1 ht2
      simp only [Nat.zero_add]
      go_wp2_with fail
      obtain ⟨-, y1, y2, y3, -, -, -, -, -⟩ := nine X3.out
      obtain ⟨-, -, -, -, -, -, c6⟩ := HCM.out w3 (Below.refl _ _)
      have HW4 : Hid (Calls Tryz.prog 67 #[.slice mka m.kids.length mkc, .int .i64 pi] w3.drew _) := withoutID_any m.kids pi mka mkc w3.drew (HKT.out.nm HFM.out.kids.1 HFM.out.kids.2)
      have y1' : w3.drew.cell? ⟨w.heap.size, 1, none⟩ = some (.int .i64 pi) := y1
      have c6' : w3.drew.cell? ⟨b, t * 7 + 6, none⟩ = some (.slice mka m.kids.length mkc) := c6
      go_region_held3 (fun w' => w'.cell? ⟨w.heap.size, 1, none⟩ = some (.int .i64 pi) ∧ w'.cell? ⟨b, t * 7 + 6, none⟩ = some (.slice mka m.kids.length mkc)) (go_keep) ((go_at_call 67; refine HW4.out.mono ?_; rintro e w4 ⟨kv, rfl, hk4, hb4⟩; have u1 := keepc hb4 _ _ y1'; have u6 := keepc hb4 _ _ c6'; obtain ⟨k4a, k4c, rfl⟩ := hk4.shape))
      have B34 : Hid (Below w3.heap.size w3 w4) := (Below.refl _ w3).drew.trans hb4
      have B4 : Hid (Below w.heap.size w w4) := nxt B3.out B34.out
      have K4 : Hid (OwnZ w4 w3.heap.size (.slice k4a (lessZ m.kids pi).length k4c) (lessZ m.kids pi)) := hk4
      have X4 : Hid (w4.heap[w.heap.size]? = _) := (B34.out.block _ (lt_of_block X3.out)).trans X3.out
      have HD3 : Hid (w.heap.size < w3.heap.size) := lt_of_block X3.out
      clear hb4 hk4 u1 u6 y1 y2 y3 y1' c6 c6' HW4 X3 HFI HKT
      obtain ⟨c0, c1, c2, c3, c4, c5, c6⟩ := HCM.out w4 B34.out
      have CI : Hid (∀ W, Calls Tryz.prog 56 #[mkN m.id m.par m.tag m.key m.txt maa m.ats.length mac mka m.kids.length mkc] W _) := fun W => istextN_any m.id m.par m.tag m.key m.txt maa m.ats.length mac mka m.kids.length mkc W
      by_cases hg : m.tag.size = 0
      · rw [if_pos hg] at HEE
        have HR := HBAD.out 81 HEE.out (by omega)
        have HR' : Hid (hangD ⟨ns, root, next⟩ ⟨pw, pi, pp, pat, pg, pk, pt, pn, pv⟩ = (81, ⟨ns, root, next⟩)) := HR
        clear HR
        have CJ : Hid (∀ W, Calls Tryz.prog 56 #[mkN m.id m.par m.tag m.key m.txt maa m.ats.length mac mka m.kids.length mkc] W fun e w' => e = .returned (.bool true) ∧ Below W.heap.size W w') := fun W => by have := CI.out W; rwa [empty_true hg] at this
        clear CI hg
        go_wp2_with (go_at_call 56; refine (CJ.out _).mono ?_; rintro e w5 ⟨rfl, hb5⟩; have B5 : Hid (Below w.heap.size w w5) := nxt B4.out hb5; clear hb5)
        go_ret
        rw [HR'.out]
        exact ⟨rfl, HSTAY.out _ B5.out⟩
      · rw [if_neg hg] at HEE
        have CJ : Hid (∀ W, Calls Tryz.prog 56 #[mkN m.id m.par m.tag m.key m.txt maa m.ats.length mac mka m.kids.length mkc] W fun e w' => e = .returned (.bool false) ∧ Below W.heap.size W w') := fun W => by have := CI.out W; rwa [empty_false hg] at this
        clear CI hg
        go_wp2_with fail
        refine (CJ.out _).mono ?_
        rintro e w5 ⟨rfl, hb5⟩
        have B5 : Hid (Below w.heap.size w w5) := nxt B4.out hb5
        have HB45 : Hid (Below w4.heap.size w4 w5) := hb5
        have X5 : Hid (w5.heap[w.heap.size]? = _) := (hb5.block _ (lt_of_block X4.out)).trans X4.out
        have K5 : Hid (OwnZ w5 w3.heap.size (.slice k4a (lessZ m.kids pi).length k4c) (lessZ m.kids pi)) := K4.out.below hb5
        have HIW : Hid (Calls Tryz.prog 68 #[.slice (some ⟨b, 0, none⟩) ns.length vc, .int .i64 pp, .int .i64 pi] w5.drew _) := isWithin_any ns pp pi (ns.length + 1) (some ⟨b, 0, none⟩) vc w5.drew (HO.out.below B5.out.drew).lay HU.out hn (HOUT.out pp t HTP.out)
        obtain ⟨-, y1, y2, y3, -, -, -, -, -⟩ := nine X5.out
        obtain ⟨p0, p1, p2⟩ := three (KP.out _ B5.out)
        clear c0 c1 c2 c3 c4 c5 c6 hb5 CJ X4
        have y1' : w5.drew.cell? ⟨w.heap.size, 1, none⟩ = some (.int .i64 pi) := y1
        have y2' : w5.drew.cell? ⟨w.heap.size, 2, none⟩ = some (.int .i64 pp) := y2
        have p0' : w5.drew.cell? ⟨P, 0, none⟩ = some (.slice (some ⟨b, 0, none⟩) ns.length vc) := p0
        generalize hwi : wiB ns pi (ns.length + 1) pp = bw at *
        go_wp2_with fail
        go_region_held3 (fun w' => w'.cell? ⟨w.heap.size, 1, none⟩ = some (.int .i64 pi) ∧ w'.cell? ⟨w.heap.size, 2, none⟩ = some (.int .i64 pp) ∧ w'.cell? ⟨P, 0, none⟩ = some (.slice (some ⟨b, 0, none⟩) ns.length vc)) (go_keep) ((go_at_call 68; refine HIW.out.mono ?_; rintro e w6 ⟨rfl, hb6⟩; have u1 := keepc hb6 _ _ y1'; have u2 := keepc hb6 _ _ y2'; have u0 := keepc hb6 _ _ p0'))
        have B56 : Hid (Below w5.heap.size w5 w6) := (Below.refl _ w5).drew.trans hb6
        have B6 : Hid (Below w.heap.size w w6) := nxt B5.out B56.out
        have K6 : Hid (OwnZ w6 w3.heap.size (.slice k4a (lessZ m.kids pi).length k4c) (lessZ m.kids pi)) := K5.out.below B56.out
        have X6 : Hid (w6.heap[w.heap.size]? = _) := (B56.out.block _ (lt_of_block X5.out)).trans X5.out
        clear hb6 u0 u1 u2 y1 y2 y3 y1' y2' p0 p1 p2 p0' HIW K5 X5 K4
        cases bw with
        | true =>
          rw [if_pos rfl] at HEE
          have HR' : Hid (hangD ⟨ns, root, next⟩ ⟨pw, pi, pp, pat, pg, pk, pt, pn, pv⟩ = (72, ⟨ns, root, next⟩)) := HBAD.out 72 HEE.out (by omega)
          clear HEE HRE HBAD hwi
          go_wp2_with fail
          go_ret
          rw [HR'.out]
          exact ⟨rfl, HSTAY.out _ B6.out⟩
        | false =>
          rw [if_neg (by simp)] at HEE
          clear hwi
          go_wp2_with fail
          obtain ⟨-, y1, y2, y3, -, -, -, -, -⟩ := nine X6.out
          obtain ⟨p0, p1, p2⟩ := three (KP.out _ B6.out)
          by_cases hr : pi = root
          · rw [if_pos hr] at HEE
            have HR' : Hid (hangD ⟨ns, root, next⟩ ⟨pw, pi, pp, pat, pg, pk, pt, pn, pv⟩ = (9, ⟨ns, root, next⟩)) := HBAD.out 9 HEE.out (by omega)
            have g1 : (pi == root) = true := by simpa using hr
            clear HEE HRE HBAD hr
            go_big_quiet (fail)
            go_wp2_with fail
            go_ret
            rw [HR'.out]
            exact ⟨rfl, HSTAY.out _ (nxt B6.out (Below_drewN _ _ _))⟩
          · rw [if_neg hr] at HEE
            have g1 : (pi == root) = false := by simpa using hr
            clear hr
            go_big_quiet (fail)
            have B7 : Hid (Below w.heap.size w (w6.drewN nq)) := nxt B6.out (Below_drewN _ _ _)
            have K7 : Hid (OwnZ (w6.drewN nq) w3.heap.size (.slice k4a (lessZ m.kids pi).length k4c) (lessZ m.kids pi)) := K6.out
            have X7 : Hid ((w6.drewN nq).heap[w.heap.size]? = _) := X6.out
            have B37 : Hid (Below w3.heap.size w3 (w6.drewN nq)) := by
              have h1 := nxt (nxt B34.out (show Below w4.heap.size w4 w5 from HB45.out)) (nxt B56.out (Below_drewN _ w6 nq))
              exact h1
            clear y1 y2 y3 p0 p1 p2 X6 K6
            generalize w6.drewN nq = w7 at *
            obtain ⟨-, y1, y2, y3, -, -, -, -, -⟩ := nine X7.out
            have PT : Hid (∀ x, hangE ns root m ⟨pw, pi, pp, pat, pg, pk, pt, pn, pv⟩ = x → x ≠ 0 → hangD ⟨ns, root, next⟩ ⟨pw, pi, pp, pat, pg, pk, pt, pn, pv⟩ = (x, ⟨ns, root, next⟩)) := HBAD.out
            clear HBAD
            by_cases hp0 : pat < 0
            · rw [if_pos (Or.inl hp0)] at HEE
              have HR' : Hid (hangD ⟨ns, root, next⟩ ⟨pw, pi, pp, pat, pg, pk, pt, pn, pv⟩ = (82, ⟨ns, root, next⟩)) := PT.out 82 HEE.out (by omega)
              have g2 : decide (pat < 0) = true := by simpa using hp0
              clear HEE HRE PT hp0
              go_wp2_with fail
              go_ret
              rw [HR'.out]
              exact ⟨rfl, HSTAY.out _ B7.out⟩
            · obtain ⟨i, hi⟩ : ∃ i : Nat, pat = (i : Int) := ⟨pat.toNat, by omega⟩
              subst hi
              clear hp0
              by_cases hil : (lessZ m.kids pi).length < i
              · rw [if_pos (Or.inr (by exact_mod_cast hil))] at HEE
                have HR' : Hid (hangD ⟨ns, root, next⟩ ⟨pw, pi, pp, i, pg, pk, pt, pn, pv⟩ = (82, ⟨ns, root, next⟩)) := PT.out 82 HEE.out (by omega)
                have g2 : decide ((i : Int) < 0) = false := by simp
                have g3 : decide (((lessZ m.kids pi).length : Int) < (i : Int)) = true := by simpa using hil
                have g4 : decide ((lessZ m.kids pi).length < i) = true := by simpa using hil
                clear HEE HRE PT hil
                go_wp2_with fail
                go_ret
                rw [HR'.out]
                exact ⟨rfl, HSTAY.out _ B7.out⟩
              · rw [if_neg (by rintro (h | h) <;> omega)] at HEE
                have g2 : decide ((i : Int) < 0) = false := by simp
                have g3 : decide (((lessZ m.kids pi).length : Int) < (i : Int)) = false := by simp; omega
                have g4 : decide ((lessZ m.kids pi).length < i) = false := by simp; omega
                have HIL : Hid (i ≤ (lessZ m.kids pi).length) := Nat.le_of_not_lt hil
                clear hil
                by_cases h32 : (lessZ m.kids pi).length = 32
                · rw [if_pos h32] at HEE
                  have HR' : Hid (hangD ⟨ns, root, next⟩ ⟨pw, pi, pp, i, pg, pk, pt, pn, pv⟩ = (3, ⟨ns, root, next⟩)) := PT.out 3 HEE.out (by omega)
                  have g5 : (((lessZ m.kids pi).length : Int) == 32) = true := by simpa using (by exact_mod_cast h32 : ((lessZ m.kids pi).length : Int) = 32)
                  clear HEE HRE PT h32
                  go_wp2_with fail
                  go_ret
                  rw [HR'.out]
                  exact ⟨rfl, HSTAY.out _ B7.out⟩
                · rw [if_neg h32] at HEE
                  have g5 : (((lessZ m.kids pi).length : Int) == 32) = false := by simpa using (by exact_mod_cast h32 : ¬ ((lessZ m.kids pi).length : Int) = 32)
                  have HR' : Hid (hangD ⟨ns, root, next⟩ ⟨pw, pi, pp, i, pg, pk, pt, pn, pv⟩ = (0, ⟨hungN ns n m q t ⟨pw, pi, pp, i, pg, pk, pt, pn, pv⟩, root, next⟩)) := by
                    show _ = _
                    rw [HRE.out, HEE.out]
                    simp
                  clear HEE HRE PT h32
                  go_wp2_with fail
                  obtain ⟨p0, p1, p2⟩ := three (KP.out _ B7.out)
                  have O7 : Hid (OwnN w7 B (.slice (some ⟨b, 0, none⟩) ns.length vc) ns ab kb) := HO.out.below B7.out
                  obtain ⟨nka, nkc, hnk⟩ := (O7.out.kids q n HQ1.out).shape
                  obtain ⟨naa, nac, hna⟩ := (O7.out.ats q n HQ1.out).shape
                  obtain ⟨g', hg', c0, c1, c2, c3, c4, c5, c6⟩ := rowN_cells O7.out.row HQ1.out
                  cases hg'
                  rw [hna] at c5
                  rw [hnk] at c6
                  clear hna hnk
                  have HTO : Hid (Calls Tryz.prog 69 #[.slice (some ⟨b, 0, none⟩) ns.length vc, mkN n.id n.par n.tag n.key n.txt naa n.ats.length nac nka n.kids.length nkc] w7.drew _) := takeOff_any ns n (some ⟨b, 0, none⟩) vc ab kb B naa n.ats.length nac nka n.kids.length nkc w7.drew (HO.out.below B7.out.drew) (Nat.le_trans hB B7.out.drew.size) HU.out hn (fun h => HPS.out n (List.mem_of_getElem? HQ1.out) h)
                  have p0' : w7.drew.cell? ⟨P, 0, none⟩ = some (.slice (some ⟨b, 0, none⟩) ns.length vc) := p0
                  have c0' : w7.drew.cell? ⟨b, q * 7, none⟩ = some (.int .i64 n.id) := c0
                  have c1' : w7.drew.cell? ⟨b, q * 7 + 1, none⟩ = some (.int .i64 n.par) := c1
                  have c2' : w7.drew.cell? ⟨b, q * 7 + 2, none⟩ = some (.string n.tag) := c2
                  have c3' : w7.drew.cell? ⟨b, q * 7 + 3, none⟩ = some (.string n.key) := c3
                  have c4' : w7.drew.cell? ⟨b, q * 7 + 4, none⟩ = some (.string n.txt) := c4
                  have c5' : w7.drew.cell? ⟨b, q * 7 + 5, none⟩ = some (.slice naa n.ats.length nac) := c5
                  have c6' : w7.drew.cell? ⟨b, q * 7 + 6, none⟩ = some (.slice nka n.kids.length nkc) := c6
                  clear p0 p1 p2 c0 c1 c2 c3 c4 c5 c6 y1 y2 y3 HCM HSTAY HOUT HPS HKL HTP
                  go_region_with (go_at_call 69; refine HTO.out.mono ?_; rintro e w8 ⟨rfl, h8, hk8⟩)
                  all_goals (
                    clear p0' c0' c1' c2' c3' c4' c5' c6' HTO
                    obtain ⟨kb', h8, hkb⟩ := h8
                    have O8 : Hid (OwnN w8 B (.slice (some ⟨b, 0, none⟩) ns.length vc) (offN ns n) ab kb') := h8
                    have HKB : Hid (∀ i, kb' i = kb i ∨ ∀ g, (kb' i).ownBlock = some g → w7.drew.heap.size ≤ g) := hkb
                    have HK8 : Hid (Kept (fun j => (Value.slice (some ⟨b, 0, none⟩) ns.length vc).ownBlock = some j) w7.drew w8) := hk8
                    obtain ⟨k8, hs8, hb1, hb2⟩ := hang_mid HO.out (Nat.le_of_lt HD3.out) (show OwnZ w7.drew _ _ _ from K7.out) hk8
                    have K8 : Hid (OwnZ w8 w3.heap.size (.slice k4a (lessZ m.kids pi).length k4c) (lessZ m.kids pi)) := k8
                    have HPb : Hid (P ≠ b) := by
                      show P ≠ b
                      rintro rfl
                      obtain ⟨cur, hcur⟩ := HO.out.rowBlock
                      rw [HP.out] at hcur
                      simp at hcur
                    have X8 : Hid (w8.heap[w.heap.size]? = _) := (hs8 w.heap.size (lt_of_block X7.out) (by omega)).trans X7.out
                    have HBb : Hid (B ≤ b ∧ b < w.heap.size) := ⟨hb1, hb2⟩
                    clear h8 hkb hk8 k8 hs8 hb1 hb2
                    obtain ⟨m1, hm1⟩ : ∃ m1, (offN ns n)[t]? = some m1 := ⟨_, List.getElem?_eq_getElem (by rw [offN_length]; exact htl)⟩
                    have HM1 : Hid ((offN ns n)[t]? = some m1) := hm1
                    clear hm1
                    obtain ⟨-, y1, y2, y3, -, -, -, -, -⟩ := nine X8.out
                    have HIN : Hid (Calls Tryz.prog 70 #[.slice k4a (lessZ m.kids pi).length k4c, .int .i64 i, .slice (some ⟨w8.heap.size, 0, none⟩) 1 1] (w8.alloc (.cells #[.int .i64 pi] 3)) _) := insZ_any (.slice k4a (lessZ m.kids pi).length k4c) w3.heap.size (lessZ m.kids pi).length i w8.heap.size ((lessZ m.kids pi).map fun k => Value.int .i64 k) [.int .i64 pi] (w8.alloc (.cells #[.int .i64 pi] 3)) HIL.out (by
                        have h1 := B37.out.size
                        have h2 := HK8.out.size
                        have h3 : w7.drew.heap.size = w7.heap.size := rfl
                        have h4 := (below_one w8 (.cells #[.int .i64 pi] 3)).size
                        omega) (by omega) (K8.out.below (below_one _ _)) (fun h => by have := (K8.out.lt _ h).2; omega) (heap_alloc_new _ _) rfl (by simp [Value.oneCell']) (by simp [Value.oneCell'])
                    go_wp2_with fail
                    refine HIN.out.mono ?_
                    rintro e w9 ⟨v9, rfl, hown9, hg9, hv9⟩
                    have K9 : OwnZ w9 w3.heap.size v9 (insZ (lessZ m.kids pi) i pi) := insZ_own HIL.out hown9
                    obtain ⟨k9a, k9c, hk9⟩ := K9.shape
                    subst hk9
                    generalize hks9 : insZ (lessZ m.kids pi) i pi = ks9 at *
                    have hf9 : I64 ks9 ∧ ks9.length * 8 ≤ 140737488351232 := by rw [← hks9]; exact insZ_i64 HIL.out (lessZ_i64 pi HFM.out.kids).1 HOK.out.id hml
                    obtain ⟨o9, o10, hs9, hkw⟩ := hang_end HO.out B7.out.drew HD3.out (show OwnZ w7.drew _ _ _ from K7.out) HK8.out O8.out (offN_length ns n) HKB.out hg9 hv9 K9 hf9 hB HM1.out
                    obtain ⟨n2, hn2⟩ : ∃ n2, ((offN ns n).set t (m1.withKids ks9))[q]? = some n2 := ⟨_, List.getElem?_eq_getElem (by rw [List.length_set, offN_length]; exact hql)⟩
                    obtain ⟨ga, hga, -, -, -, -, -, -, d6⟩ := rowN_cells o9.row HM1.out
                    cases hga
                    have f6 := own_frozen o9.row (t * 7 + 6)
                    obtain ⟨gb, hgb, -, d1, -, -, -, -, -⟩ := rowN_cells o10.row hn2
                    cases hgb
                    have f1 := own_frozen o10.row (q * 7 + 1)
                    have o11 := o10.setP hn2 HOK.out.par
                    have X9 : w9.heap[w.heap.size]? = _ := (hs9 w.heap.size (lt_of_block X7.out) HD3.out (Nat.ne_of_gt HBb.out.2)).trans X7.out
                    have P9 : w9.heap[P]? = _ := (hs9 P (Nat.lt_of_lt_of_le hPl B7.out.drew.size) (Nat.lt_trans hPl HD3.out) HPb.out).trans (KP.out _ B7.out.drew)
                    have X10 : (w9.setCell ⟨b, t * 7 + 6, none⟩ (.slice k9a ks9.length k9c)).heap[w.heap.size]? = _ := (heap_set_other _ (Nat.ne_of_gt HBb.out.2)).trans X9
                    have P10 : (w9.setCell ⟨b, t * 7 + 6, none⟩ (.slice k9a ks9.length k9c)).heap[P]? = _ := (heap_set_other _ HPb.out).trans P9
                    have P11 : ((w9.setCell ⟨b, t * 7 + 6, none⟩ (.slice k9a ks9.length k9c)).setCell ⟨b, q * 7 + 1, none⟩ (.int .i64 pp)).heap[P]? = _ := (heap_set_other _ HPb.out).trans P10
                    have HUN : hungN ns n m q t ⟨pw, pi, pp, i, pg, pk, pt, pn, pv⟩ = ((offN ns n).set t (m1.withKids ks9)).set q (n2.withPar pp) := by
                      unfold hungN
                      rw [HM1.out]
                      simp only [Int.toNat_natCast]
                      rw [hks9, hn2]
                    have HFIN : Hid (PtPost w ((w9.setCell ⟨b, t * 7 + 6, none⟩ (.slice k9a ks9.length k9c)).setCell ⟨b, q * 7 + 1, none⟩ (.int .i64 pp)) B P (.returned (.int .i64 0)) (hangD ⟨ns, root, next⟩ ⟨pw, pi, pp, i, pg, pk, pt, pn, pv⟩)) := by
                      show PtPost _ _ _ _ _ _
                      rw [HR'.out, HUN]
                      exact ⟨rfl, ⟨_, _, _, P11, o11, HBP.out⟩, ((hkw.setCell _ rfl).setCell _ rfl).low (by rintro j rfl; exact HBb.out.1) hB⟩
                    obtain ⟨-, -, y2', -, -, -, -, -, -⟩ := nine X10
                    clear y1 y2 y3 o9 o10 o11 hs9 hkw X9 X10 P9 P10 P11 HUN hn2 K9 hf9 hown9 hg9 hv9 hks9 HIN HM1 X8 K8 HBb HPb HK8 HKB O8 HR' O7 B37 X7 K7 B7 HD3 HIL
                    go_wp2_with fail
                    go_ret
                    exact HFIN.out)
end Go.Proofs.YtcdnakcojanaeabGreat
