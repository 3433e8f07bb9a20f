/-
  The program's treeOf and Tree, walked.
-/
import Derived.Test.YtcdnakcojanaeabGreatTfFrameJ
namespace Go.Proofs.YtcdnakcojanaeabGreat
open Go.ChangeShapes Go.WideShapes Go.ChangeAt Go.RowKit Go.Deep
open Do

theorem trcutB {w2 w3 : World} {n : Nd} {a3 : Option Addr} {c3 : Nat} (hA : OwnA w3 w2.drew.heap.size (.slice a3 n.ats.length c3) n.ats) (hb : Below w2.drew.heap.size w2.drew w3) :
    ∃ g9 a3' c3', Value.pointer (some ⟨w3.heap.size, 0, none⟩) = .pointer (some ⟨g9, 0, none⟩) ∧ Hid ((w3.alloc (.cells #[.string n.tag, .string n.key, .string n.txt, .slice a3 n.ats.length c3, .slice none 0 0] 53)).heap[g9]? = some (.cells #[.string n.tag, .string n.key, .string n.txt, .slice a3' n.ats.length c3', .slice none 0 0] 53 (0, 0))) ∧
      Hid (OwnA (w3.alloc (.cells #[.string n.tag, .string n.key, .string n.txt, .slice a3 n.ats.length c3, .slice none 0 0] 53)) w2.heap.size (.slice a3' n.ats.length c3') n.ats) ∧
      Hid (Below w2.heap.size w2 (w3.alloc (.cells #[.string n.tag, .string n.key, .string n.txt, .slice a3 n.ats.length c3, .slice none 0 0] 53)) ∧ w2.heap.size ≤ g9) := by
  have hA' : OwnA w3 w2.heap.size (.slice a3 n.ats.length c3) n.ats := hA
  have hb' : Below w2.heap.size w2 w3 := (Below.refl _ w2).drew.trans hb
  exact ⟨w3.heap.size, a3, c3, rfl, heap_alloc_new _ _, OwnA.below hA' (below_one _ _), nxt hb' (below_one _ _), hb'.size⟩

theorem trcutA {w2 w3 : World} {n : Nd} {a3 : Option Addr} {c3 : Nat} (hz : w3.heap[w2.heap.size]? = some (.cells #[.string ⟨#[]⟩, .string ⟨#[]⟩, .string ⟨#[]⟩, .slice none 0 0, .slice none 0 0] 53 (0, 0))) (hA : OwnA w3 (w2.alloc (.cells #[.string ⟨#[]⟩, .string ⟨#[]⟩, .string ⟨#[]⟩, .slice none 0 0, .slice none 0 0] 53)).drew.heap.size (.slice a3 n.ats.length c3) n.ats) (hb : Below (w2.alloc (.cells #[.string ⟨#[]⟩, .string ⟨#[]⟩, .string ⟨#[]⟩, .slice none 0 0, .slice none 0 0] 53)).drew.heap.size (w2.alloc (.cells #[.string ⟨#[]⟩, .string ⟨#[]⟩, .string ⟨#[]⟩, .slice none 0 0, .slice none 0 0] 53)).drew w3) :
    ∃ g9 a3' c3', Value.pointer (some ⟨w2.heap.size, 0, none⟩) = .pointer (some ⟨g9, 0, none⟩) ∧ Hid ((((((w3.setCell ⟨w2.heap.size, 0, none⟩ (.string n.tag)).setCell ⟨w2.heap.size, 1, none⟩ (.string n.key)).setCell ⟨w2.heap.size, 2, none⟩ (.string n.txt)).setCell ⟨w2.heap.size, 3, none⟩ (.slice a3 n.ats.length c3)).setCell ⟨w2.heap.size, 4, none⟩ (.slice none 0 0)).heap[g9]? = some (.cells #[.string n.tag, .string n.key, .string n.txt, .slice a3' n.ats.length c3', .slice none 0 0] 53 (0, 0))) ∧
      Hid (OwnA (((((w3.setCell ⟨w2.heap.size, 0, none⟩ (.string n.tag)).setCell ⟨w2.heap.size, 1, none⟩ (.string n.key)).setCell ⟨w2.heap.size, 2, none⟩ (.string n.txt)).setCell ⟨w2.heap.size, 3, none⟩ (.slice a3 n.ats.length c3)).setCell ⟨w2.heap.size, 4, none⟩ (.slice none 0 0)) w2.heap.size (.slice a3' n.ats.length c3') n.ats) ∧
      Hid (Below w2.heap.size w2 (((((w3.setCell ⟨w2.heap.size, 0, none⟩ (.string n.tag)).setCell ⟨w2.heap.size, 1, none⟩ (.string n.key)).setCell ⟨w2.heap.size, 2, none⟩ (.string n.txt)).setCell ⟨w2.heap.size, 3, none⟩ (.slice a3 n.ats.length c3)).setCell ⟨w2.heap.size, 4, none⟩ (.slice none 0 0)) ∧ w2.heap.size ≤ g9) := by
  obtain ⟨f1, f2, f3, f4⟩ := tree_fin (c0 := .string n.tag) (c1 := .string n.key) (c2 := .string n.txt) (c3 := .slice a3 n.ats.length c3) (c4 := .slice none 0 0) hz
  have e : (w2.alloc (.cells #[.string ⟨#[]⟩, .string ⟨#[]⟩, .string ⟨#[]⟩, .slice none 0 0, .slice none 0 0] 53)).drew.heap.size = w2.heap.size + 1 := by show (w2.alloc _).heap.size = _; simp
  have hb' : Below w2.heap.size w2 w3 := nxt (below_one w2 _).drew hb
  have f3 := f3 w2.heap.size w2 (Nat.le_refl _) hb'
  rw [e] at hA
  generalize ((((w3.setCell ⟨w2.heap.size, 0, none⟩ (.string n.tag)).setCell ⟨w2.heap.size, 1, none⟩ (.string n.key)).setCell ⟨w2.heap.size, 2, none⟩ (.string n.txt)).setCell ⟨w2.heap.size, 3, none⟩ (.slice a3 n.ats.length c3)).setCell ⟨w2.heap.size, 4, none⟩ (.slice none 0 0) = W9 at *
  exact ⟨w2.heap.size, a3, c3, rfl, f1, OwnA.less (OwnA.same hA fun b hb => f2 b (by have := (OwnA.rng hA hb).1; omega)) (by omega), f3, Nat.le_refl _⟩

set_option maxRecDepth 100000 in
set_option maxHeartbeats 3200000 in
theorem treeOf_any (ns : List Nd) (va : Option Addr) (vc : Nat) (hu : Up ns) (hn : ns.length ≤ 1024) (hkid : ∀ x n, nd ns x = some n → n.kids.length ≤ 32 ∧ ∀ y ∈ n.kids, ∃ m, nd ns y = some m) : ∀ (k : Nat) (x : Int) (w : World), k ≤ 8 → LayN w va ns → (∃ n, nd ns x = some n) →
    Calls Tryz.prog 27 #[.slice va ns.length vc, .int .i64 x, .int .i64 (9 - (k : Int))] w fun e w' => TrPost k w w' e 10 (trO ns k x)
  | 0, x, w, _, _, _ => by
    have X : Hid ((w.alloc (.cells #[.string ⟨#[]⟩, .string ⟨#[]⟩, .string ⟨#[]⟩, .slice none 0 0, .slice none 0 0] 53)).heap[w.heap.size]? = some (.cells #[.string ⟨#[]⟩, .string ⟨#[]⟩, .string ⟨#[]⟩, .slice none 0 0, .slice none 0 0] 53 (0, 0))) := heap_alloc_new _ _
    obtain ⟨⟨z0, z1, z2, z3, z4⟩, zf⟩ := five X.out
    have zf0 := zf 0
    have zf1 := zf 1
    have zf2 := zf 2
    have zf3 := zf 3
    have zf4 := zf 4
    clear zf
    have e9 : (9 - ((0 : Nat) : Int)) = 9 := by omega
    rw [e9]
    go_enter Tryz.func27, Tryz.ntmps27
    go_wp2_with fail
    refine bodyPost_ret (v := .tuple #[zT, .int .i64 10]) (by simp [results, Tryz.results27, go_sem, zT]) rfl ?_
    exact ⟨rfl, below_one _ _⟩
  | k + 1, x, w, hk, hL, hx => by
    obtain ⟨n, hx⟩ := hx
    have HIH : Hid (∀ (y : Int) (W : World), LayN W va ns → (∃ m, nd ns y = some m) → Calls Tryz.prog 27 #[.slice va ns.length vc, .int .i64 y, .int .i64 (9 - (k : Int))] W fun e w' => TrPost k W w' e 10 (trO ns k y)) := fun y W => treeOf_any ns va vc hu hn hkid k y W (by omega)
    obtain ⟨q, hq, hqn⟩ := nd_at hx
    have HTR : Hid (trO ns (k + 1) x = match allO (n.kids.map (trO ns k)) with
      | none => none
      | some its => some (n.tag, n.key, n.txt, n.ats, its)) := trO_node hx
    have HKD : Hid (∀ y ∈ n.kids, ∃ m, nd ns y = some m) := (hkid x n hx).2
    have hk32 : n.kids.length ≤ 32 := (hkid x n hx).1
    have HL : Hid (LayN w va ns) := hL
    have HQ : Hid (ns[q]? = some n ∧ pl ns x = some q) := ⟨hqn, hq⟩
    have HFI : Hid (∀ W, LayN W va ns → Calls Tryz.prog 54 #[.slice va ns.length vc, .int .i64 x] W fun e w' => ∃ v, e = .returned v ∧ FindIs va ns x v ∧ Below W.heap.size W w') := fun W hb => find_any ns x va vc W hb hu hn
    have HFT : Hid (NdFit n) := by
      obtain ⟨b0, o0, aa0, ac0, ka0, kc0, -, hN0⟩ := hL q n hqn
      exact fit_of hN0.fit hN0.ats hN0.kids
    have gd : decide (8 < (9 - ((k + 1 : Nat) : Int))) = false := by simp; omega
    have ed : (9 - ((k + 1 : Nat) : Int)) + 1 = 9 - (k : Int) := by omega
    have hd1 : 1 ≤ (9 - ((k + 1 : Nat) : Int)) ∧ (9 - ((k + 1 : Nat) : Int)) ≤ 8 := by omega
    generalize (9 - ((k + 1 : Nat) : Int)) = dd at *
    have HED : Hid (dd + 1 = 9 - (k : Int)) := ed
    clear hL hx hkid hq hqn hu hn ed
    have X1 : Hid ((w.alloc (.cells #[.string ⟨#[]⟩, .string ⟨#[]⟩, .string ⟨#[]⟩, .slice none 0 0, .slice none 0 0] 53)).heap[w.heap.size]? = some (.cells #[.string ⟨#[]⟩, .string ⟨#[]⟩, .string ⟨#[]⟩, .slice none 0 0, .slice none 0 0] 53 (0, 0))) := heap_alloc_new _ _
    have B1 : Hid (Below w.heap.size w (w.alloc (.cells #[.string ⟨#[]⟩, .string ⟨#[]⟩, .string ⟨#[]⟩, .slice none 0 0, .slice none 0 0] 53))) := below_one _ _
    go_enter Tryz.func27, Tryz.ntmps27
    go_wp2_with fail
    refine (HFI.out _ (HL.out.below B1.out)).mono ?_
    rintro e w2 ⟨fv, rfl, hfi, hb2⟩
    unfold FindIs at hfi
    rw [HQ.out.2] at hfi
    simp only at hfi
    obtain ⟨b, o, ha, rfl⟩ := hfi
    have B2 : Hid (Below w.heap.size w w2) := nxt B1.out hb2
    have X2 : Hid (w2.heap[w.heap.size]? = _) := (hb2.block _ (lt_of_block X1.out)).trans X1.out
    obtain ⟨b', o', aa, ac, ka, kc, ha', hN⟩ := HL.out q n HQ.out.1
    rw [ha] at ha'
    cases ha'
    subst ha
    have HN0 : Hid (NdAt w b (o + q * 7) n aa ac ka kc) := hN
    have HN : Hid (NdAt w2 b (o + q * 7) n aa ac ka kc) := hN.below B2.out
    have HCA : Hid (∀ W, Below w2.heap.size w2 W → Calls Tryz.prog 37 #[.slice aa n.ats.length ac] W fun e w' => ∃ v, e = .returned v ∧ OwnA w' W.heap.size v n.ats ∧ Below W.heap.size W w') := fun W hb => copyA_any n.ats aa ac W (HN.out.ats.below hb) HN.out.fit.ats.2.2.1
    clear hb2 hN X1 B1 HFI
    have r2 : w2.drew.cell? ⟨b, o + q * 7 + 2, none⟩ = some (.string n.tag) := HN.out.c2
    have r3 : w2.drew.cell? ⟨b, o + q * 7 + 3, none⟩ = some (.string n.key) := HN.out.c3
    have r4 : w2.drew.cell? ⟨b, o + q * 7 + 4, none⟩ = some (.string n.txt) := HN.out.c4
    have r5 : w2.drew.cell? ⟨b, o + q * 7 + 5, none⟩ = some (.slice aa n.ats.length ac) := HN.out.c5
    have s2 : (w2.alloc (.cells #[.string ⟨#[]⟩, .string ⟨#[]⟩, .string ⟨#[]⟩, .slice none 0 0, .slice none 0 0] 53)).drew.cell? ⟨b, o + q * 7 + 2, none⟩ = some (.string n.tag) := keepc (below_one w2 _) _ _ HN.out.c2
    have s3 : (w2.alloc (.cells #[.string ⟨#[]⟩, .string ⟨#[]⟩, .string ⟨#[]⟩, .slice none 0 0, .slice none 0 0] 53)).drew.cell? ⟨b, o + q * 7 + 3, none⟩ = some (.string n.key) := keepc (below_one w2 _) _ _ HN.out.c3
    have s4 : (w2.alloc (.cells #[.string ⟨#[]⟩, .string ⟨#[]⟩, .string ⟨#[]⟩, .slice none 0 0, .slice none 0 0] 53)).drew.cell? ⟨b, o + q * 7 + 4, none⟩ = some (.string n.txt) := keepc (below_one w2 _) _ _ HN.out.c4
    have s5 : (w2.alloc (.cells #[.string ⟨#[]⟩, .string ⟨#[]⟩, .string ⟨#[]⟩, .slice none 0 0, .slice none 0 0] 53)).drew.cell? ⟨b, o + q * 7 + 5, none⟩ = some (.slice aa n.ats.length ac) := keepc (below_one w2 _) _ _ HN.out.c5
    go_wp2_with fail
    go_cut [9] (fun v9 wc => ∃ g9 a3 c3, v9 = .pointer (some ⟨g9, 0, none⟩) ∧ Hid (wc.heap[g9]? = some (.cells #[.string n.tag, .string n.key, .string n.txt, .slice a3 n.ats.length c3, .slice none 0 0] 53 (0, 0))) ∧ Hid (OwnA wc w2.heap.size (.slice a3 n.ats.length c3) n.ats) ∧ Hid (Below w2.heap.size w2 wc ∧ w2.heap.size ≤ g9))
    case first =>
      have zz : (w2.alloc (.cells #[.string ⟨#[]⟩, .string ⟨#[]⟩, .string ⟨#[]⟩, .slice none 0 0, .slice none 0 0] 53)).drew.heap[w2.heap.size]? = some (.cells #[.string ⟨#[]⟩, .string ⟨#[]⟩, .string ⟨#[]⟩, .slice none 0 0, .slice none 0 0] 53 (0, 0)) := heap_alloc_new _ _
      have hbne : b ≠ w2.heap.size := Nat.ne_of_lt (lt_of_cell HN.out.c2)
      go_region_held3 (fun w' => w'.cell? ⟨b, o + q * 7 + 2, none⟩ = some (.string n.tag) ∧ w'.cell? ⟨b, o + q * 7 + 3, none⟩ = some (.string n.key) ∧ w'.cell? ⟨b, o + q * 7 + 4, none⟩ = some (.string n.txt) ∧ w'.cell? ⟨b, o + q * 7 + 5, none⟩ = some (.slice aa n.ats.length ac)) (go_keep) ((go_at_call 37; refine (HCA.out _ (by first | exact (Below.refl _ w2).drew | exact (below_one w2 _).drew)).mono ?_; rintro e w3 ⟨av, rfl, hA3, hb3⟩; obtain ⟨a3, c3, rfl⟩ := hA3.shape; have u2 := keepc hb3 _ _ (by first | exact r2 | exact s2); have u3 := keepc hb3 _ _ (by first | exact r3 | exact s3); have u4 := keepc hb3 _ _ (by first | exact r4 | exact s4); have u5 := keepc hb3 _ _ (by first | exact r5 | exact s5); have t2 : ∀ ob, (w3.alloc ob).cell? ⟨b, o + q * 7 + 2, none⟩ = some (.string n.tag) := fun ob => keepc (below_one w3 ob) _ _ u2; have t3 : ∀ ob, (w3.alloc ob).cell? ⟨b, o + q * 7 + 3, none⟩ = some (.string n.key) := fun ob => keepc (below_one w3 ob) _ _ u3; have t4 : ∀ ob, (w3.alloc ob).cell? ⟨b, o + q * 7 + 4, none⟩ = some (.string n.txt) := fun ob => keepc (below_one w3 ob) _ _ u4; have t5 : ∀ ob, (w3.alloc ob).cell? ⟨b, o + q * 7 + 5, none⟩ = some (.slice aa n.ats.length ac) := fun ob => keepc (below_one w3 ob) _ _ u5; (first | (have hz := (hb3.block w2.heap.size (lt_of_block zz)).trans zz; obtain ⟨⟨v0, v1, v2, v3, v4⟩, vf⟩ := five hz; have vf0 := vf 0; have vf1 := vf 1; have vf2 := vf 2; have vf3 := vf 3; have vf4 := vf 4; clear vf; have k2 := fun a0 a1 a2 a3 a4 => (World.cell?_of_block (a := ⟨b, o + q * 7 + 2, none⟩) ((tree_fin (c0 := a0) (c1 := a1) (c2 := a2) (c3 := a3) (c4 := a4) hz).2.1 b hbne)).trans u2; have k3 := fun a0 a1 a2 a3 a4 => (World.cell?_of_block (a := ⟨b, o + q * 7 + 3, none⟩) ((tree_fin (c0 := a0) (c1 := a1) (c2 := a2) (c3 := a3) (c4 := a4) hz).2.1 b hbne)).trans u3; have k4 := fun a0 a1 a2 a3 a4 => (World.cell?_of_block (a := ⟨b, o + q * 7 + 4, none⟩) ((tree_fin (c0 := a0) (c1 := a1) (c2 := a2) (c3 := a3) (c4 := a4) hz).2.1 b hbne)).trans u4; have k5 := fun a0 a1 a2 a3 a4 => (World.cell?_of_block (a := ⟨b, o + q * 7 + 5, none⟩) ((tree_fin (c0 := a0) (c1 := a1) (c2 := a2) (c3 := a3) (c4 := a4) hz).2.1 b hbne)).trans u5) | skip)))
      all_goals (
        go_wp2_with fail
        go_meet
        first
          | with_reducible exact trcutB hA3 hb3
          | exact trcutA hz hA3 hb3)
    case rest =>
      obtain ⟨g9, a3, c3, rfl, HBX, HAT, HB⟩ := hcut
      clear r2 r3 r4 r5 s2 s3 s4 s5 HCA
      have HLT : Hid (w.heap.size < w2.heap.size) := lt_of_block X2.out
      have HI0 : Hid (TrI k ns n w wc wc.heap.size g9 (.slice a3 n.ats.length c3) 0 [] [] (fun _ _ => False) none 0) := by
        have h1 := HLT.out
        have h2 := lt_of_block HBX.out
        refine ⟨rfl, HBX.out, World.ownsRow_nil _ _ _ _, (fun i u hi => by omega), (fun i b hi => by omega), (fun i j b hi => by omega), OwnA.less HAT.out (by omega), (HB.out.1.block _ (lt_of_block X2.out)).trans X2.out, nxt B2.out HB.out.1, fun b hb => (OwnA.rng HAT.out hb).2, by have := HB.out.2; omega, h2, Nat.le_refl _⟩
      have r6 := (HN.out.below HB.out.1).c6
      clear HBX HAT HB HN X2
      go_wp2_with fail
      clear r6
      obtain ⟨W5, hW5⟩ : ∃ W, W = wc := ⟨_, rfl⟩
      rw [← hW5] at HI0
      rw [← hW5]
      clear hW5
      go_loopw [43] (fun v43 wr => ∃ (m : Nat) (its : List (T k)) (xs : List Value) (G : Nat → Nat → Prop) (ra : Option Addr) (rc : Nat), m ≤ n.kids.length ∧ v43 = .int .i64 (m : Int) ∧ Hid (TrI k ns n w wr W5.heap.size g9 (.slice a3 n.ats.length c3) m its xs G ra rc)) (fun v43 _ => n.kids.length - (intOf v43).toNat)
      case atStart => exact ⟨0, [], [], _, none, 0, Nat.zero_le _, rfl, HI0.out⟩
      case round =>
        obtain ⟨m, its, xs, G, ra, rc, hm, rfl, HI⟩ := hrel
        clear HI0
        obtain ⟨⟨q0, q1, q2, q3, q4⟩, -⟩ := five HI.out.box
        by_cases hlt : m < n.kids.length
        · obtain ⟨b1, o1, ha1, r1, -⟩ := HN0.out.kids.below HI.out.bel m n.kids[m] (List.getElem?_eq_getElem hlt)
          subst ha1
          have HGK : Hid (n.kids[m]? = some n.kids[m]) := List.getElem?_eq_getElem hlt
          have HCC : Hid (Calls Tryz.prog 27 #[.slice (some ⟨b, o, none⟩) ns.length vc, .int .i64 n.kids[m], .int .i64 (dd + 1)] wr fun e w' => TrPost k wr w' e 10 (trO ns k n.kids[m])) := by
            show Calls _ _ _ _ _
            rw [HED.out]
            exact HIH.out n.kids[m] wr (HL.out.below HI.out.bel) (HKD.out _ (List.getElem_mem hlt))
          clear q0 q1 q2 q3 q4
          generalize n.kids[m] = y at *
          cases ht : trO ns k y with
          | none =>
            have HNO : Hid (trO ns (k + 1) x = none) := by
              show _ = _
              rw [HTR.out, allO_none]
              rw [← ht]
              exact List.mem_map.2 ⟨y, List.mem_of_getElem? HGK.out, rfl⟩
            rw [ht] at HCC
            clear ht HTR HGK
            go_wp2_with fail
            refine HCC.out.mono ?_
            rintro e w3 ⟨rfl, hb3⟩
            have B4 : Hid (Below w.heap.size w (w3.alloc (.cells #[.string ⟨#[]⟩, .string ⟨#[]⟩, .string ⟨#[]⟩, .slice none 0 0, .slice none 0 0] 53))) := nxt (nxt HI.out.bel hb3) (below_one _ _)
            have R4 : Hid ((w3.alloc (.cells #[.string ⟨#[]⟩, .string ⟨#[]⟩, .string ⟨#[]⟩, .slice none 0 0, .slice none 0 0] 53)).heap[w.heap.size]? = some (.cells #[.string ⟨#[]⟩, .string ⟨#[]⟩, .string ⟨#[]⟩, .slice none 0 0, .slice none 0 0] 53 (0, 0))) := ((nxt hb3 (below_one _ _)).block _ (lt_of_block HI.out.res)).trans HI.out.res
            obtain ⟨⟨z0, z1, z2, z3, z4⟩, zf⟩ := five R4.out
            have zf0 := zf 0
            have zf1 := zf 1
            have zf2 := zf 2
            have zf3 := zf 3
            have zf4 := zf 4
            clear zf hb3 HCC HI r1
            go_wp2_with fail
            obtain ⟨f1, -, f3, -⟩ := tree_fin (c0 := .string ⟨#[]⟩) (c1 := .string ⟨#[]⟩) (c2 := .string ⟨#[]⟩) (c3 := .slice none 0 0) (c4 := .slice none 0 0) R4.out
            have f3 := f3 w.heap.size w (Nat.le_refl _) B4.out
            clear z0 z1 z2 z3 z4 zf0 zf1 zf2 zf3 zf4 R4 B4
            generalize (((((w3.alloc (.cells #[.string ⟨#[]⟩, .string ⟨#[]⟩, .string ⟨#[]⟩, .slice none 0 0, .slice none 0 0] 53)).setCell ⟨w.heap.size, 0, none⟩ (.string ⟨#[]⟩)).setCell ⟨w.heap.size, 1, none⟩ (.string ⟨#[]⟩)).setCell ⟨w.heap.size, 2, none⟩ (.string ⟨#[]⟩)).setCell ⟨w.heap.size, 3, none⟩ (.slice none 0 0)).setCell ⟨w.heap.size, 4, none⟩ (.slice none 0 0) = W8 at *
            obtain ⟨⟨c0, c1, c2, c3, c4⟩, -⟩ := five f1
            refine bodyPost_ret (v := .tuple #[zT, .int .i64 10]) (by simp [results, Tryz.results27, go_sem, c0, c1, c2, c3, c4]) rfl ?_
            rw [HNO.out]
            exact ⟨rfl, f3⟩
          | some u =>
            rw [ht] at HCC
            have HTU : Hid (trO ns k y = some u) := ht
            clear ht HTR
            obtain ⟨i0, hi, hz0, hz1, hz2⟩ := info_parts Tryz.infoTree
            go_wp2_with fail
            refine HCC.out.mono ?_
            rintro e w3 ⟨yv, F, rfl, ho, hF, hb3⟩
            obtain ⟨k', b', t', ka', kl', kc', ia', il', ic', rfl⟩ := LayT.shape k (OwnT.lay k ho)
            have HO3 : Hid (OwnT w3 k (mkT k' b' t' ka' kl' kc' ia' il' ic') u F) := ho
            have HF3 : Hid (∀ b, F b → wr.heap.size ≤ b ∧ b < w3.heap.size) := hF
            have HB3 : Hid (Below wr.heap.size wr w3) := hb3
            have HI4 : Hid (TrI k ns n w (w3.alloc (.cells #[.string k', .string b', .string t', .slice ka' kl' kc', .slice ia' il' ic'] 53)) W5.heap.size g9 (.slice a3 n.ats.length c3) m its xs G ra rc) := HI.out.below (nxt hb3 (below_one _ _))
            have HX4 : Hid ((w3.alloc (.cells #[.string k', .string b', .string t', .slice ka' kl' kc', .slice ia' il' ic'] 53)).heap[w3.heap.size]? = some (.cells #[.string k', .string b', .string t', .slice ka' kl' kc', .slice ia' il' ic'] 53 (0, 0))) := heap_alloc_new _ _
            obtain ⟨⟨p0, p1, p2, p3, p4⟩, -⟩ := five HX4.out
            obtain ⟨⟨-, -, -, -, q4⟩, -⟩ := five HI4.out.box
            have HRW : Hid (((w3.alloc (.cells #[.string k', .string b', .string t', .slice ka' kl' kc', .slice ia' il' ic'] 53)).alloc (.cells #[.string k', .string b', .string t', .slice ka' kl' kc', .slice ia' il' ic'] 53)).ownsRow W5.heap.size 53 5 (.slice ra m rc) m xs) := ownsRow_same HI4.out.row fun g hg => (below_one _ _).block g (HI4.out.row.lt g hg).2
            have HSZ : Hid (W5.heap.size ≤ ((w3.alloc (.cells #[.string k', .string b', .string t', .slice ka' kl' kc', .slice ia' il' ic'] 53)).alloc (.cells #[.string k', .string b', .string t', .slice ka' kl' kc', .slice ia' il' ic'] 53)).heap.size ∧ (w3.alloc (.cells #[.string k', .string b', .string t', .slice ka' kl' kc', .slice ia' il' ic'] 53)).heap.size = w3.heap.size + 1) := ⟨Nat.le_trans HI4.out.order.2.2 (below_one _ _).size, by simp⟩
            clear ho hF hb3 HCC r1
            go_wp2_with (at_builtin; refine wpList_append_apart _ rfl _ _ 51 rfl W5.heap.size 53 i0 _ 5 96 Tryz.underlying51 hi hz0 hz1 hz2 rfl (by decide) _ m xs rfl HRW.out (some ⟨w3.heap.size + 1, 0, none⟩) 1 1 [.string k', .string b', .string t', .slice ka' kl' kc', .slice ia' il' ic'] rfl (by simp) rfl ?d1 ?d2 ?d3 ?d4 HSZ.out.1 ?_)
            case d1 =>
              intro ad e j v hj
              cases e
              have := heap_alloc_new (w3.alloc (.cells #[.string k', .string b', .string t', .slice ka' kl' kc', .slice ia' il' ic'] 53)) (.cells #[.string k', .string b', .string t', .slice ka' kl' kc', .slice ia' il' ic'] 53)
              rw [HSZ.out.2] at this
              rw [add_plain]
              simp only [World.cell?, this]
              simpa using hj
            case d2 => intro v hv; simp at hv; rcases hv with rfl | rfl | rfl | rfl | rfl <;> rfl
            case d3 => unfold maxLen; omega
            case d4 => omega
            · intro v' w5 hown' hgrow hv'
              obtain ⟨ra', rc', hv5, ⟨z, hz⟩, hfz, G', hI5⟩ := HI.out.push HGK.out HTU.out HO3.out HF3.out HB3.out hown' hgrow (hv'.imp id fun h g hg => by have := h g hg; have e := (below_one (w3.alloc (.cells #[.string k', .string b', .string t', .slice ka' kl' kc', .slice ia' il' ic'] 53)) (.cells #[.string k', .string b', .string t', .slice ka' kl' kc', .slice ia' il' ic'] 53)).size; simp at this ⊢; omega)
              subst hv5
              have HI5 : Hid (TrI k ns n w (w5.setCell ⟨g9, 4, none⟩ (.slice ra' (m + 1) rc')) W5.heap.size g9 (.slice a3 n.ats.length c3) (m + 1) (its ++ [u]) (xs ++ [.string k', .string b', .string t', .slice ka' kl' kc', .slice ia' il' ic']) G' ra' rc') := hI5
              clear hown' hgrow hv' hI5 p0 p1 p2 p3 p4 q4 HI HO3 HF3 HB3 HI4 HX4 HRW HSZ
              go_wp2_with fail
              go_roundw
              case rel => exact ⟨m + 1, _, _, G', ra', rc', by omega, by go_num, HI5⟩
              case measure => simp [intOf]; omega
        · have hme : m = n.kids.length := by omega
          subst hme
          have HSM : Hid (trO ns (k + 1) x = some (n.tag, n.key, n.txt, n.ats, its)) := by
            show _ = _
            have h1 := HI.out.it
            rw [List.take_length] at h1
            rw [HTR.out, h1]
            rfl
          obtain ⟨⟨z0, z1, z2, z3, z4⟩, zf⟩ := five HI.out.res
          have zf0 := zf 0
          have zf1 := zf 1
          have zf2 := zf 2
          have zf3 := zf 3
          have zf4 := zf 4
          clear zf
          go_wp2_with fail
          obtain ⟨f1, f2, f3, f4⟩ := tree_fin (c0 := .string n.tag) (c1 := .string n.key) (c2 := .string n.txt) (c3 := .slice a3 n.ats.length c3) (c4 := .slice ra n.kids.length rc) HI.out.res
          have f3 := f3 w.heap.size w (Nat.le_refl _) HI.out.bel
          clear z0 z1 z2 z3 z4 zf0 zf1 zf2 zf3 zf4 q0 q1 q2 q3 q4
          generalize ((((wr.setCell ⟨w.heap.size, 0, none⟩ (.string n.tag)).setCell ⟨w.heap.size, 1, none⟩ (.string n.key)).setCell ⟨w.heap.size, 2, none⟩ (.string n.txt)).setCell ⟨w.heap.size, 3, none⟩ (.slice a3 n.ats.length c3)).setCell ⟨w.heap.size, 4, none⟩ (.slice ra n.kids.length rc) = W8 at *
          obtain ⟨⟨c0, c1, c2, c3', c4⟩, -⟩ := five f1
          refine bodyPost_ret (v := .tuple #[mkT n.tag n.key n.txt a3 n.ats.length c3 ra n.kids.length rc, .int .i64 0]) (by simp [results, Tryz.results27, go_sem, c0, c1, c2, c3', c4]) rfl ?_
          rw [HSM.out]
          exact ⟨_, _, rfl, HI.out.done rfl HFT.out hk32 rfl (fun b hb => f2 b (by omega)) f4, (fun b hb => hb), f3⟩
end Go.Proofs.YtcdnakcojanaeabGreat

/-
  The program's Tree.
-/
namespace Go.Proofs.YtcdnakcojanaeabGreat
open Go.ChangeShapes Go.WideShapes Go.ChangeAt Go.RowKit Go.Deep
open Do

theorem okd_kid {s : Ds} (h : OkD s) : ∀ x n, nd s.nodes x = some n → n.kids.length ≤ 32 ∧ ∀ y ∈ n.kids, ∃ m, nd s.nodes y = some m := by
  intro x n hx
  have a := h.good.at hx
  exact ⟨(alone_iff.1 a.alone).2.2, fun y hy => by obtain ⟨m, h1, -⟩ := a.kid y hy; exact ⟨m, h1⟩⟩

theorem OwnT.less8 {w w' : World} {k : Nat} {y : Value} {t : T k} {F : Nat → Prop} {B : Nat} (h : OwnT w k y t F) (hF : ∀ b, F b → B ≤ b) (hk : ∀ b, B ≤ b → w'.heap[b]? = w.heap[b]?) : OwnT w' k y t F := h.same k fun b hb => hk b (hF b hb)

set_option maxRecDepth 100000 in
set_option maxHeartbeats 1600000 in
theorem tree_any (s : Ds) (a : Option Addr) (c : Nat) (w : World) (hs : DsIs w s a c) :
    Calls Tryz.prog 12 #[.agg #[.slice a s.nodes.length c, .int .i64 s.root, .int .i64 s.next]] w fun e w' => TrPost 8 w w' e (treeD s).1 (treeD s).2 := by
  have HCK : Hid (∀ W, Below w.heap.size w W → Calls Tryz.prog 14 #[.agg #[.slice a s.nodes.length c, .int .i64 s.root, .int .i64 s.next]] W fun e w' => e = .returned (.int .i64 (chkD s)) ∧ Below W.heap.size W w') := fun W hb => checkD_any s a c W (hs.below hb)
  have HTO : Hid (∀ W, Below w.heap.size w W → okD s = true → s.root ≠ 0 → Calls Tryz.prog 27 #[.slice a s.nodes.length c, .int .i64 s.root, .int .i64 1] W fun e w' => TrPost 8 W w' e 10 (trO s.nodes 8 s.root)) := by
    intro W hb hk h0
    have ho := okD_iff.1 hk
    have := treeOf_any s.nodes a c ho.good.up ho.len (okd_kid ho) 8 s.root W (Nat.le_refl _) (hs.below hb).lay (by
      rcases ho.root with h | ⟨m, h1, -⟩
      · exact absurd h h0
      · exact ⟨m, h1⟩)
    exact this
  unfold treeD
  unfold chkD at HCK
  clear hs
  generalize hk : okD s = k at *
  clear hk
  generalize htr : trO s.nodes 8 s.root = tr at *
  clear htr
  obtain ⟨K3, hK3⟩ : ∃ W : World, W = (w.alloc (.cells #[.slice a s.nodes.length c, .int .i64 s.root, .int .i64 s.next] 30)).alloc (.cells #[.string ⟨#[]⟩, .string ⟨#[]⟩, .string ⟨#[]⟩, .slice none 0 0, .slice none 0 0] 53) := ⟨_, rfl⟩
  have B3 : Hid (Below w.heap.size w K3) := by show Below _ _ _; rw [hK3]; exact two_new _ _ _
  have Y0 : Hid (K3.heap[w.heap.size]? = some (.cells #[.slice a s.nodes.length c, .int .i64 s.root, .int .i64 s.next] 30 (0, 0))) := by show _ = _; rw [hK3]; exact ((below_one _ _).block _ (by simp)).trans (heap_alloc_new _ _)
  have Y2 : Hid (K3.heap[w.heap.size + 1]? = some (.cells #[.string ⟨#[]⟩, .string ⟨#[]⟩, .string ⟨#[]⟩, .slice none 0 0, .slice none 0 0] 53 (0, 0))) := by show _ = _; rw [hK3]; exact heap_new2 _ _ _
  go_enter Tryz.func12, Tryz.ntmps12
  go_wp2_with fail
  rw [← hK3]
  clear hK3
  obtain ⟨y0, y1, y2⟩ := three Y0.out
  have FIN : Hid (∀ (W : World) (er : Int), Below w.heap.size w W → W.heap[w.heap.size + 1]? = some (.cells #[.string ⟨#[]⟩, .string ⟨#[]⟩, .string ⟨#[]⟩, .slice none 0 0, .slice none 0 0] 53 (0, 0)) → Below w.heap.size w (((((W.setCell ⟨w.heap.size + 1, 0, none⟩ (.string ⟨#[]⟩)).setCell ⟨w.heap.size + 1, 1, none⟩ (.string ⟨#[]⟩)).setCell ⟨w.heap.size + 1, 2, none⟩ (.string ⟨#[]⟩)).setCell ⟨w.heap.size + 1, 3, none⟩ (.slice none 0 0)).setCell ⟨w.heap.size + 1, 4, none⟩ (.slice none 0 0)) ∧ (((((W.setCell ⟨w.heap.size + 1, 0, none⟩ (.string ⟨#[]⟩)).setCell ⟨w.heap.size + 1, 1, none⟩ (.string ⟨#[]⟩)).setCell ⟨w.heap.size + 1, 2, none⟩ (.string ⟨#[]⟩)).setCell ⟨w.heap.size + 1, 3, none⟩ (.slice none 0 0)).setCell ⟨w.heap.size + 1, 4, none⟩ (.slice none 0 0)).heap[w.heap.size + 1]? = some (.cells #[.string ⟨#[]⟩, .string ⟨#[]⟩, .string ⟨#[]⟩, .slice none 0 0, .slice none 0 0] 53 (0, 0))) := by
    intro W er hb hR
    obtain ⟨f1, -, f3, -⟩ := tree_fin (c0 := .string ⟨#[]⟩) (c1 := .string ⟨#[]⟩) (c2 := .string ⟨#[]⟩) (c3 := .slice none 0 0) (c4 := .slice none 0 0) hR
    exact ⟨f3 w.heap.size w (by omega) hb, f1⟩
  cases k with
  | false =>
    have HC9 : Hid (∀ W, Below w.heap.size w W → Calls Tryz.prog 14 #[.agg #[.slice a s.nodes.length c, .int .i64 s.root, .int .i64 s.next]] W fun e w' => e = .returned (.int .i64 9) ∧ Below W.heap.size W w') := HCK.out
    clear HCK HTO
    go_wp2_with fail
    refine (HC9.out K3 B3.out).mono ?_
    rintro e w4 ⟨rfl, hb4⟩
    have B4 : Hid (Below w.heap.size w w4) := nxt B3.out hb4
    have R4 : Hid (w4.heap[w.heap.size + 1]? = _) := (hb4.block _ (lt_of_block Y2.out)).trans Y2.out
    obtain ⟨⟨z0, z1, z2, z3, z4⟩, zf⟩ := five R4.out
    have zf0 := zf 0
    have zf1 := zf 1
    have zf2 := zf 2
    have zf3 := zf 3
    have zf4 := zf 4
    clear hb4 y0 y1 y2 zf
    have HF := FIN.out w4 9 B4.out R4.out
    have HF' : Hid _ := HF
    clear HF
    go_wp2_with fail
    have f1 := HF'.out
    clear z0 z1 z2 z3 z4 zf0 zf1 zf2 zf3 zf4 HF' R4 B4
    generalize ((((w4.setCell ⟨w.heap.size + 1, 0, none⟩ (.string ⟨#[]⟩)).setCell ⟨w.heap.size + 1, 1, none⟩ (.string ⟨#[]⟩)).setCell ⟨w.heap.size + 1, 2, none⟩ (.string ⟨#[]⟩)).setCell ⟨w.heap.size + 1, 3, none⟩ (.slice none 0 0)).setCell ⟨w.heap.size + 1, 4, none⟩ (.slice none 0 0) = W8 at *
    obtain ⟨⟨c0, c1, c2, c3, c4⟩, -⟩ := five f1.2
    refine bodyPost_ret (v := .tuple #[zT, .int .i64 9]) (by simp [results, Tryz.results12, go_sem, c0, c1, c2, c3, c4]) rfl ?_
    exact ⟨rfl, f1.1⟩
  | true =>
    have HC0 : Hid (∀ W, Below w.heap.size w W → Calls Tryz.prog 14 #[.agg #[.slice a s.nodes.length c, .int .i64 s.root, .int .i64 s.next]] W fun e w' => e = .returned (.int .i64 0) ∧ Below W.heap.size W w') := HCK.out
    clear HCK
    go_wp2_with fail
    refine (HC0.out K3 B3.out).mono ?_
    rintro e w4 ⟨rfl, hb4⟩
    have B4 : Hid (Below w.heap.size w w4) := nxt B3.out hb4
    have R4 : Hid (w4.heap[w.heap.size + 1]? = _) := (hb4.block _ (lt_of_block Y2.out)).trans Y2.out
    have S4 : Hid (w4.heap[w.heap.size]? = _) := (hb4.block _ (lt_of_block Y0.out)).trans Y0.out
    clear hb4 y0 y1 y2
    obtain ⟨y0, y1, y2⟩ := three S4.out
    by_cases h0 : s.root = 0
    · have g0 : (s.root == 0) = true := by simpa using h0
      obtain ⟨⟨z0, z1, z2, z3, z4⟩, zf⟩ := five R4.out
      have zf0 := zf 0
      have zf1 := zf 1
      have zf2 := zf 2
      have zf3 := zf 3
      have zf4 := zf 4
      have HR0 : Hid (s.root = 0) := h0
      clear zf h0
      have HF := FIN.out w4 71 B4.out R4.out
      have HF' : Hid _ := HF
      clear HF
      go_wp2_with fail
      have f1 := HF'.out
      clear z0 z1 z2 z3 z4 zf0 zf1 zf2 zf3 zf4 HF' R4 B4 S4 y0 y1 y2
      generalize ((((w4.setCell ⟨w.heap.size + 1, 0, none⟩ (.string ⟨#[]⟩)).setCell ⟨w.heap.size + 1, 1, none⟩ (.string ⟨#[]⟩)).setCell ⟨w.heap.size + 1, 2, none⟩ (.string ⟨#[]⟩)).setCell ⟨w.heap.size + 1, 3, none⟩ (.slice none 0 0)).setCell ⟨w.heap.size + 1, 4, none⟩ (.slice none 0 0) = W8 at *
      obtain ⟨⟨c0, c1, c2, c3, c4⟩, -⟩ := five f1.2
      refine bodyPost_ret (v := .tuple #[zT, .int .i64 71]) (by simp [results, Tryz.results12, go_sem, c0, c1, c2, c3, c4]) rfl ?_
      first
        | exact ⟨rfl, f1.1⟩
        | (rw [if_pos HR0.out]; exact ⟨rfl, f1.1⟩)
    · have g0 : (s.root == 0) = false := by simpa using h0
      have HR0 : Hid (¬ s.root = 0) := h0
      have HT4 : Hid (Calls Tryz.prog 27 #[.slice a s.nodes.length c, .int .i64 s.root, .int .i64 1] w4 fun e w' => TrPost 8 w4 w' e 10 tr) := HTO.out w4 B4.out (by trivial) h0
      clear h0 HTO
      cases tr with
      | none =>
        go_wp2_with fail
        refine HT4.out.mono ?_
        rintro e w5 ⟨rfl, hb5⟩
        have B5 : Hid (Below w.heap.size w w5) := nxt B4.out hb5
        have R5 : Hid (w5.heap[w.heap.size + 1]? = _) := (hb5.block _ (lt_of_block R4.out)).trans R4.out
        obtain ⟨⟨z0, z1, z2, z3, z4⟩, zf⟩ := five R5.out
        have zf0 := zf 0
        have zf1 := zf 1
        have zf2 := zf 2
        have zf3 := zf 3
        have zf4 := zf 4
        clear zf hb5 y0 y1 y2 HT4
        have HF := FIN.out w5 10 B5.out R5.out
        have HF' : Hid _ := HF
        clear HF
        go_wp2_with fail
        have f1 := HF'.out
        clear z0 z1 z2 z3 z4 zf0 zf1 zf2 zf3 zf4 HF' R5 B5
        generalize ((((w5.setCell ⟨w.heap.size + 1, 0, none⟩ (.string ⟨#[]⟩)).setCell ⟨w.heap.size + 1, 1, none⟩ (.string ⟨#[]⟩)).setCell ⟨w.heap.size + 1, 2, none⟩ (.string ⟨#[]⟩)).setCell ⟨w.heap.size + 1, 3, none⟩ (.slice none 0 0)).setCell ⟨w.heap.size + 1, 4, none⟩ (.slice none 0 0) = W8 at *
        obtain ⟨⟨c0, c1, c2, c3, c4⟩, -⟩ := five f1.2
        refine bodyPost_ret (v := .tuple #[zT, .int .i64 10]) (by simp [results, Tryz.results12, go_sem, c0, c1, c2, c3, c4]) rfl ?_
        first
          | exact ⟨rfl, f1.1⟩
          | (rw [if_neg HR0.out]; exact ⟨rfl, f1.1⟩)
      | some t =>
        go_wp2_with fail
        refine HT4.out.mono ?_
        rintro e w5 ⟨yv, F, rfl, ho, hF, hb5⟩
        obtain ⟨k', b', t', ka', kl', kc', ia', il', ic', rfl⟩ := LayT.shape 8 (OwnT.lay 8 ho)
        have B5 : Hid (Below w.heap.size w w5) := nxt B4.out hb5
        have R5 : Hid (w5.heap[w.heap.size + 1]? = _) := (hb5.block _ (lt_of_block R4.out)).trans R4.out
        have HO5 : Hid (OwnT w5 8 (mkT k' b' t' ka' kl' kc' ia' il' ic') t F) := ho
        have HF5 : Hid (∀ b, F b → w.heap.size + 2 ≤ b ∧ b < w5.heap.size) := fun b hb => ⟨by have := (hF b hb).1; have := lt_of_block R4.out; omega, (hF b hb).2⟩
        obtain ⟨⟨z0, z1, z2, z3, z4⟩, zf⟩ := five R5.out
        have zf0 := zf 0
        have zf1 := zf 1
        have zf2 := zf 2
        have zf3 := zf 3
        have zf4 := zf 4
        clear zf hb5 y0 y1 y2 HT4 ho hF
        go_wp2_with fail
        obtain ⟨f1, f2, f3, f4⟩ := tree_fin (c0 := .string k') (c1 := .string b') (c2 := .string t') (c3 := .slice ka' kl' kc') (c4 := .slice ia' il' ic') R5.out
        have f3 := f3 w.heap.size w (by omega) B5.out
        clear z0 z1 z2 z3 z4 zf0 zf1 zf2 zf3 zf4 R5 B5
        generalize ((((w5.setCell ⟨w.heap.size + 1, 0, none⟩ (.string k')).setCell ⟨w.heap.size + 1, 1, none⟩ (.string b')).setCell ⟨w.heap.size + 1, 2, none⟩ (.string t')).setCell ⟨w.heap.size + 1, 3, none⟩ (.slice ka' kl' kc')).setCell ⟨w.heap.size + 1, 4, none⟩ (.slice ia' il' ic') = W8 at *
        obtain ⟨⟨c0, c1, c2, c3, c4⟩, -⟩ := five f1
        refine bodyPost_ret (v := .tuple #[mkT k' b' t' ka' kl' kc' ia' il' ic', .int .i64 0]) (by simp [results, Tryz.results12, go_sem, c0, c1, c2, c3, c4]) rfl ?_
        have HFIN : TrPost 8 w W8 (.returned (.tuple #[mkT k' b' t' ka' kl' kc' ia' il' ic', .int .i64 0])) 0 (some t) := ⟨_, F, rfl, HO5.out.same 8 fun b hb => f2 b (by have := (HF5.out b hb).1; omega), fun b hb => ⟨by have := (HF5.out b hb).1; omega, by rw [f4]; exact (HF5.out b hb).2⟩, f3⟩
        first
          | exact HFIN
          | (rw [if_neg HR0.out]; exact HFIN)
end Go.Proofs.YtcdnakcojanaeabGreat

/-
  The page's example.
-/
namespace Go.Proofs.YtcdnakcojanaeabGreat
open Go.ChangeShapes Go.WideShapes Go.ChangeAt Go.RowKit Go.Deep
open Do

theorem numD_any (x : Int) (w : World) : Calls Tryz.prog 8 #[.int .i64 x] w fun e w' => e = .returned (.int .i64 x) ∧ w' = w := by
  go_enter Tryz.func8, Tryz.ntmps8
  go_wp2_with fail
  go_ret
  exact ⟨rfl, rfl⟩

namespace Do
def bP : ByteArray := ⟨#[112]⟩
def bX : ByteArray := ⟨#[120]⟩
def bE : ByteArray := ⟨#[]⟩
def exPs : List Pt := [⟨1, 1, 0, 0, bP, bE, bE, bE, bE⟩, ⟨7, 1, 0, 0, bE, bE, bE, bE, bE⟩, ⟨1, 2, 0, 0, bE, bE, bX, bE, bE⟩, ⟨2, 2, 1, 0, bE, bE, bE, bE, bE⟩]
def exS : Ds := ⟨[⟨1, 0, bP, bE, bE, [], [2]⟩, ⟨2, 1, bE, bE, bX, [], []⟩], 1, 3⟩
theorem ex_run : runD ⟨[], 0, 1⟩ exPs = (exS, 4, 0) := by kernel_rfl
theorem ex_tree : treeD exS = (0, some (bP, bE, bE, [], [(bE, bE, bX, [], [])])) := by kernel_rfl
end Do

theorem DsOwn.is {w : World} {B : Nat} {x : Value} {s : Ds} (h : DsOwn w B x s) (hl : s.nodes.length ≤ 1024) (hr : -9223372036854775808 ≤ s.root ∧ s.root ≤ 9223372036854775807) (hx : -9223372036854775808 ≤ s.next ∧ s.next ≤ 9223372036854775807) : ∃ a c, x = .agg #[.slice a s.nodes.length c, .int .i64 s.root, .int .i64 s.next] ∧ DsIs w s a c := by
  obtain ⟨v, ab, kb, rfl, hO⟩ := h
  obtain ⟨a, c, hv⟩ := hO.shape
  subst hv
  exact ⟨a, c, rfl, ⟨hO.lay, by omega, cap_of_own hO.row, hr, hx⟩⟩

theorem new_is (w : World) : DsIs w ⟨[], 0, 1⟩ none 0 := ⟨fun i n h => by simp at h, by simp, ⟨Nat.le_refl _, by omega⟩, by simp, by simp⟩

/-- The cells of the page's patches. -/
def exC : Array Value := #[.int .i64 1, .int .i64 1, .int .i64 0, .int .i64 0, .string ⟨#[112]⟩, .string ⟨#[]⟩, .string ⟨#[]⟩, .string ⟨#[]⟩, .string ⟨#[]⟩, .int .i64 7, .int .i64 1, .int .i64 0, .int .i64 0, .string ⟨#[]⟩, .string ⟨#[]⟩, .string ⟨#[]⟩, .string ⟨#[]⟩, .string ⟨#[]⟩, .int .i64 1, .int .i64 2, .int .i64 0, .int .i64 0, .string ⟨#[]⟩, .string ⟨#[]⟩, .string ⟨#[120]⟩, .string ⟨#[]⟩, .string ⟨#[]⟩, .int .i64 2, .int .i64 2, .int .i64 1, .int .i64 0, .string ⟨#[]⟩, .string ⟨#[]⟩, .string ⟨#[]⟩, .string ⟨#[]⟩, .string ⟨#[]⟩]

theorem ex_ok : ∀ p ∈ exPs, PtOk p := by
  intro p hp
  simp only [exPs, List.mem_cons, List.not_mem_nil, or_false] at hp
  rcases hp with rfl | rfl | rfl | rfl <;> exact ⟨⟨by decide, by decide⟩, ⟨by decide, by decide⟩, ⟨by decide, by decide⟩, by decide, by decide, by decide, by decide, by decide⟩

theorem ex_lay (w : World) : LayP (w.alloc (.cells exC 35)) (some ⟨w.heap.size, 0, none⟩) exPs := by
  have key : ∀ j v, exC[j]? = some v → (w.alloc (.cells exC 35)).cell? ⟨w.heap.size, 0 + j, none⟩ = some v := by
    intro j v hj
    have := newCells w exC 35 j v hj
    rwa [add_plain] at this
  intro i p hi
  have hok := ex_ok p (List.mem_of_getElem? hi)
  match i, hi with
  | 0, hi => cases hi; exact ⟨w.heap.size, 0, rfl, ⟨key 0 _ rfl, key 1 _ rfl, key 2 _ rfl, key 3 _ rfl, key 4 _ rfl, key 5 _ rfl, key 6 _ rfl, key 7 _ rfl, key 8 _ rfl⟩, hok⟩
  | 1, hi => cases hi; exact ⟨w.heap.size, 0, rfl, ⟨key 9 _ rfl, key 10 _ rfl, key 11 _ rfl, key 12 _ rfl, key 13 _ rfl, key 14 _ rfl, key 15 _ rfl, key 16 _ rfl, key 17 _ rfl⟩, hok⟩
  | 2, hi => cases hi; exact ⟨w.heap.size, 0, rfl, ⟨key 18 _ rfl, key 19 _ rfl, key 20 _ rfl, key 21 _ rfl, key 22 _ rfl, key 23 _ rfl, key 24 _ rfl, key 25 _ rfl, key 26 _ rfl⟩, hok⟩
  | 3, hi => cases hi; exact ⟨w.heap.size, 0, rfl, ⟨key 27 _ rfl, key 28 _ rfl, key 29 _ rfl, key 30 _ rfl, key 31 _ rfl, key 32 _ rfl, key 33 _ rfl, key 34 _ rfl, key 35 _ rfl⟩, hok⟩
  | i + 4, hi => simp [exPs] at hi

set_option maxRecDepth 100000 in
set_option maxHeartbeats 1600000 in
theorem aliveD_any (w : World) : Calls Tryz.prog 4 #[] w fun e w' => e = .returned (.bool true) ∧ Below w.heap.size w w' := by
  go_enter Tryz.func4, Tryz.ntmps4
  go_wp2_with (go_at_call 11; refine (new_any _).mono ?_; rintro e w1 ⟨rfl, hb1⟩; have B1 : Hid (Below w.heap.size w w1) := hb1; clear hb1)
  have HRN := run_any ⟨[], 0, 1⟩ exPs none 0 (some ⟨w1.heap.size, 0, none⟩) 4 (w1.alloc (.cells exC 35)) (new_is _) (ex_lay w1) (by decide)
  rw [ex_run] at HRN
  unfold exC at HRN
  have HRN' : Hid (Calls Tryz.prog 10 _ _ fun e w' => ∃ a c, e = .returned (.tuple #[.agg #[.slice a 2 c, .int .i64 1, .int .i64 3], .int .i64 4, .int .i64 0]) ∧ DsIs w' exS a c ∧ Below w1.heap.size w1 w') := HRN.mono fun e w' h => by
    obtain ⟨x, rfl, hx, hb2⟩ := h
    obtain ⟨a2, c2, rfl, hs2⟩ := hx.is (by decide) (by decide) (by decide)
    exact ⟨a2, c2, rfl, hs2, nxt (below_one _ _) hb2⟩
  clear HRN
  refine HRN'.out.mono ?_
  rintro e w2 ⟨a2, c2, rfl, hs2, hb2⟩
  clear HRN'
  have B2 : Hid (Below w.heap.size w w2) := nxt B1.out hb2
  have X3 : Hid ((w2.alloc (.cells #[.slice a2 2 c2, .int .i64 1, .int .i64 3] 30)).heap[w2.heap.size]? = _) := heap_alloc_new _ _
  have B3 : Hid (Below w.heap.size w (w2.alloc (.cells #[.slice a2 2 c2, .int .i64 1, .int .i64 3] 30))) := nxt B2.out (below_one _ _)
  have HTR : Hid (Calls Tryz.prog 12 #[.agg #[.slice a2 2 c2, .int .i64 1, .int .i64 3]] (w2.alloc (.cells #[.slice a2 2 c2, .int .i64 1, .int .i64 3] 30)) fun e w' => ∃ ac ia ic aa b o k0 k1 k3 k4, e = .returned (.tuple #[mkT ⟨#[112]⟩ ⟨#[]⟩ ⟨#[]⟩ aa 0 ac ia 1 ic, .int .i64 0]) ∧ ia = some ⟨b, o, none⟩ ∧ (w'.cell? ⟨b, o, none⟩ = some k0 ∧ w'.cell? ⟨b, o + 1, none⟩ = some k1 ∧ w'.cell? ⟨b, o + 2, none⟩ = some (.string ⟨#[120]⟩) ∧ w'.cell? ⟨b, o + 3, none⟩ = some k3 ∧ w'.cell? ⟨b, o + 4, none⟩ = some k4) ∧ Below w.heap.size w w') := by
    have h := tree_any exS a2 c2 (w2.alloc (.cells #[.slice a2 2 c2, .int .i64 1, .int .i64 3] 30)) (hs2.below (below_one _ _))
    rw [ex_tree] at h
    refine Calls.mono h fun e w' h => ?_
    obtain ⟨y, F, rfl, ho, -, hb⟩ := h
    obtain ⟨aa, ac, ia, ic, rfl, -, -, -, -, hI⟩ := OwnT.lay 8 ho
    obtain ⟨b, o, c0, c1, c2', c3, c4, rfl, q0, q1, q2, q3, q4, hl⟩ := hI 0 _ rfl
    obtain ⟨aa', ac', ia', ic', hx, -⟩ := hl
    simp only [Value.agg.injEq, Array.mk.injEq, List.cons.injEq, and_true] at hx
    obtain ⟨rfl, rfl, rfl, rfl, rfl⟩ := hx
    exact ⟨ac, _, ic, aa, b, o, _, _, _, _, rfl, rfl, ⟨by simpa using q0, by simpa using q1, by simpa [bX] using q2, by simpa using q3, by simpa using q4⟩, nxt B3.out hb⟩
  clear hb2 hs2 B1
  obtain ⟨x0, x1, x2⟩ := three X3.out
  go_wp2_with (go_at_call 12; refine HTR.out.mono ?_; rintro e w4 ⟨ac, ia, ic, aa, b, o, k0, k1, k3, k4, rfl, rfl, ⟨q0, q1, q2, q3, q4⟩, hb4⟩; have B4 : Hid (Below w.heap.size w w4) := hb4; clear hb4)
  have X5 : Hid ((w4.alloc (.cells #[.string ⟨#[112]⟩, .string ⟨#[]⟩, .string ⟨#[]⟩, .slice aa 0 ac, .slice (some ⟨b, o, none⟩) 1 ic] 53)).heap[w4.heap.size]? = _) := heap_alloc_new _ _
  obtain ⟨⟨z0, z1, z2, z3, z4⟩, -⟩ := five X5.out
  have r2 := keepc (below_one w4 (.cells #[.string ⟨#[112]⟩, .string ⟨#[]⟩, .string ⟨#[]⟩, .slice aa 0 ac, .slice (some ⟨b, o, none⟩) 1 ic] 53)) _ _ q2
  have g1 : ((⟨#[112]⟩ : ByteArray).toList == (⟨#[112]⟩ : ByteArray).toList) = true := by simp
  have g2 : ((⟨#[120]⟩ : ByteArray).toList == (⟨#[120]⟩ : ByteArray).toList) = true := by simp
  go_wp2_with (go_at_call 8; refine (numD_any _ _).mono ?_; rintro e w9 ⟨rfl, h9⟩; subst w9)
  go_ret
  exact ⟨rfl, nxt B4.out (below_one _ _)⟩
end Go.Proofs.YtcdnakcojanaeabGreat
