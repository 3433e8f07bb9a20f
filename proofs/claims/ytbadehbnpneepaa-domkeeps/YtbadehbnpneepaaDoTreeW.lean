/-
  The program's treeOf and Tree, walked.
-/
import Derived.Test.YtbadehbnpneepaaJ2
namespace Go.Proofs.Ytbadehbnpneepaa
open Go.ChangeShapes Go.WideShapes Go.ChangeAt Go.RowKit Go.Deep
open Do

theorem trcutB {w2 w3 : World} {n : Nd} {a3 : Option Addr} {c3 : Nat} (hA : OwnA w3 w2.drew.heap.size (.slice a3 n.ats.length c3) n.ats) (hb : Below w2.drew.heap.size w2.drew w3) :
    ∃ g9 a3' c3', Value.pointer (some ⟨w3.heap.size, 0, none⟩) = .pointer (some ⟨g9, 0, none⟩) ∧ Hid ((w3.alloc (.cells #[.string n.tag, .string n.key, .string n.txt, .slice a3 n.ats.length c3, .slice none 0 0] 25)).heap[g9]? = some (.cells #[.string n.tag, .string n.key, .string n.txt, .slice a3' n.ats.length c3', .slice none 0 0] 25 (0, 0))) ∧
      Hid (OwnA (w3.alloc (.cells #[.string n.tag, .string n.key, .string n.txt, .slice a3 n.ats.length c3, .slice none 0 0] 25)) w2.heap.size (.slice a3' n.ats.length c3') n.ats) ∧
      Hid (Below w2.heap.size w2 (w3.alloc (.cells #[.string n.tag, .string n.key, .string n.txt, .slice a3 n.ats.length c3, .slice none 0 0] 25)) ∧ w2.heap.size ≤ g9) := by
  have hA' : OwnA w3 w2.heap.size (.slice a3 n.ats.length c3) n.ats := hA
  have hb' : Below w2.heap.size w2 w3 := (Below.refl _ w2).drew.trans hb
  exact ⟨w3.heap.size, a3, c3, rfl, heap_alloc_new _ _, OwnA.below hA' (below_one _ _), nxt hb' (below_one _ _), hb'.size⟩

theorem trcutA {w2 w3 : World} {n : Nd} {a3 : Option Addr} {c3 : Nat} (hz : w3.heap[w2.heap.size]? = some (.cells #[.string ⟨#[]⟩, .string ⟨#[]⟩, .string ⟨#[]⟩, .slice none 0 0, .slice none 0 0] 25 (0, 0))) (hA : OwnA w3 (w2.alloc (.cells #[.string ⟨#[]⟩, .string ⟨#[]⟩, .string ⟨#[]⟩, .slice none 0 0, .slice none 0 0] 25)).drew.heap.size (.slice a3 n.ats.length c3) n.ats) (hb : Below (w2.alloc (.cells #[.string ⟨#[]⟩, .string ⟨#[]⟩, .string ⟨#[]⟩, .slice none 0 0, .slice none 0 0] 25)).drew.heap.size (w2.alloc (.cells #[.string ⟨#[]⟩, .string ⟨#[]⟩, .string ⟨#[]⟩, .slice none 0 0, .slice none 0 0] 25)).drew w3) :
    ∃ g9 a3' c3', Value.pointer (some ⟨w2.heap.size, 0, none⟩) = .pointer (some ⟨g9, 0, none⟩) ∧ Hid ((((((w3.setCell ⟨w2.heap.size, 0, none⟩ (.string n.tag)).setCell ⟨w2.heap.size, 1, none⟩ (.string n.key)).setCell ⟨w2.heap.size, 2, none⟩ (.string n.txt)).setCell ⟨w2.heap.size, 3, none⟩ (.slice a3 n.ats.length c3)).setCell ⟨w2.heap.size, 4, none⟩ (.slice none 0 0)).heap[g9]? = some (.cells #[.string n.tag, .string n.key, .string n.txt, .slice a3' n.ats.length c3', .slice none 0 0] 25 (0, 0))) ∧
      Hid (OwnA (((((w3.setCell ⟨w2.heap.size, 0, none⟩ (.string n.tag)).setCell ⟨w2.heap.size, 1, none⟩ (.string n.key)).setCell ⟨w2.heap.size, 2, none⟩ (.string n.txt)).setCell ⟨w2.heap.size, 3, none⟩ (.slice a3 n.ats.length c3)).setCell ⟨w2.heap.size, 4, none⟩ (.slice none 0 0)) w2.heap.size (.slice a3' n.ats.length c3') n.ats) ∧
      Hid (Below w2.heap.size w2 (((((w3.setCell ⟨w2.heap.size, 0, none⟩ (.string n.tag)).setCell ⟨w2.heap.size, 1, none⟩ (.string n.key)).setCell ⟨w2.heap.size, 2, none⟩ (.string n.txt)).setCell ⟨w2.heap.size, 3, none⟩ (.slice a3 n.ats.length c3)).setCell ⟨w2.heap.size, 4, none⟩ (.slice none 0 0)) ∧ w2.heap.size ≤ g9) := by
  obtain ⟨f1, f2, f3, f4⟩ := tree_fin (c0 := .string n.tag) (c1 := .string n.key) (c2 := .string n.txt) (c3 := .slice a3 n.ats.length c3) (c4 := .slice none 0 0) hz
  have e : (w2.alloc (.cells #[.string ⟨#[]⟩, .string ⟨#[]⟩, .string ⟨#[]⟩, .slice none 0 0, .slice none 0 0] 25)).drew.heap.size = w2.heap.size + 1 := by show (w2.alloc _).heap.size = _; simp
  have hb' : Below w2.heap.size w2 w3 := nxt (below_one w2 _).drew hb
  have f3 := f3 w2.heap.size w2 (Nat.le_refl _) hb'
  rw [e] at hA
  generalize ((((w3.setCell ⟨w2.heap.size, 0, none⟩ (.string n.tag)).setCell ⟨w2.heap.size, 1, none⟩ (.string n.key)).setCell ⟨w2.heap.size, 2, none⟩ (.string n.txt)).setCell ⟨w2.heap.size, 3, none⟩ (.slice a3 n.ats.length c3)).setCell ⟨w2.heap.size, 4, none⟩ (.slice none 0 0) = W9 at *
  exact ⟨w2.heap.size, a3, c3, rfl, f1, OwnA.less (OwnA.same hA fun b hb => f2 b (by have := (OwnA.rng hA hb).1; omega)) (by omega), f3, Nat.le_refl _⟩

set_option maxRecDepth 100000 in
set_option maxHeartbeats 3200000 in
theorem treeOf_any (ns : List Nd) (va : Option Addr) (vc : Nat) (hu : Up ns) (hn : ns.length ≤ 1024) (hkid : ∀ x n, nd ns x = some n → n.kids.length ≤ 32 ∧ ∀ y ∈ n.kids, ∃ m, nd ns y = some m) : ∀ (k : Nat) (x : Int) (w : World), k ≤ 8 → LayN w va ns → (∃ n, nd ns x = some n) →
    Calls Try.prog 28 #[.slice va ns.length vc, .int .i64 x, .int .i64 (9 - (k : Int))] w fun e w' => TrPost k w w' e 10 (trO ns k x)
  | 0, x, w, _, _, _ => by
    have X : Hid ((w.alloc (.cells #[.string ⟨#[]⟩, .string ⟨#[]⟩, .string ⟨#[]⟩, .slice none 0 0, .slice none 0 0] 25)).heap[w.heap.size]? = some (.cells #[.string ⟨#[]⟩, .string ⟨#[]⟩, .string ⟨#[]⟩, .slice none 0 0, .slice none 0 0] 25 (0, 0))) := heap_alloc_new _ _
    obtain ⟨⟨z0, z1, z2, z3, z4⟩, zf⟩ := five X.out
    have zf0 := zf 0
    have zf1 := zf 1
    have zf2 := zf 2
    have zf3 := zf 3
    have zf4 := zf 4
    clear zf
    have e9 : (9 - ((0 : Nat) : Int)) = 9 := by omega
    rw [e9]
    go_enter Try.func28, Try.ntmps28
    go_wp2_with fail
    refine bodyPost_ret (v := .tuple #[zT, .int .i64 10]) (by simp [results, Try.results28, go_sem, zT]) rfl ?_
    exact ⟨rfl, below_one _ _⟩
  | k + 1, x, w, hk, hL, hx => by
    obtain ⟨n, hx⟩ := hx
    have HIH : Hid (∀ (y : Int) (W : World), LayN W va ns → (∃ m, nd ns y = some m) → Calls Try.prog 28 #[.slice va ns.length vc, .int .i64 y, .int .i64 (9 - (k : Int))] W fun e w' => TrPost k W w' e 10 (trO ns k y)) := fun y W => treeOf_any ns va vc hu hn hkid k y W (by omega)
    obtain ⟨q, hq, hqn⟩ := nd_at hx
    have HTR : Hid (trO ns (k + 1) x = match allO (n.kids.map (trO ns k)) with
      | none => none
      | some its => some (n.tag, n.key, n.txt, n.ats, its)) := trO_node hx
    have HKD : Hid (∀ y ∈ n.kids, ∃ m, nd ns y = some m) := (hkid x n hx).2
    have hk32 : n.kids.length ≤ 32 := (hkid x n hx).1
    have HL : Hid (LayN w va ns) := hL
    have HQ : Hid (ns[q]? = some n ∧ pl ns x = some q) := ⟨hqn, hq⟩
    have HFI : Hid (∀ W, LayN W va ns → Calls Try.prog 48 #[.slice va ns.length vc, .int .i64 x] W fun e w' => ∃ v, e = .returned v ∧ FindIs va ns x v ∧ Below W.heap.size W w') := fun W hb => find_any ns x va vc W hb hu hn
    have HFT : Hid (NdFit n) := by
      obtain ⟨b0, o0, aa0, ac0, ka0, kc0, -, hN0⟩ := hL q n hqn
      exact fit_of hN0.fit hN0.ats hN0.kids
    have gd : decide (8 < (9 - ((k + 1 : Nat) : Int))) = false := by simp; omega
    have ed : (9 - ((k + 1 : Nat) : Int)) + 1 = 9 - (k : Int) := by omega
    have hd1 : 1 ≤ (9 - ((k + 1 : Nat) : Int)) ∧ (9 - ((k + 1 : Nat) : Int)) ≤ 8 := by omega
    generalize (9 - ((k + 1 : Nat) : Int)) = dd at *
    have HED : Hid (dd + 1 = 9 - (k : Int)) := ed
    clear hL hx hkid hq hqn hu hn ed
    have X1 : Hid ((w.alloc (.cells #[.string ⟨#[]⟩, .string ⟨#[]⟩, .string ⟨#[]⟩, .slice none 0 0, .slice none 0 0] 25)).heap[w.heap.size]? = some (.cells #[.string ⟨#[]⟩, .string ⟨#[]⟩, .string ⟨#[]⟩, .slice none 0 0, .slice none 0 0] 25 (0, 0))) := heap_alloc_new _ _
    have B1 : Hid (Below w.heap.size w (w.alloc (.cells #[.string ⟨#[]⟩, .string ⟨#[]⟩, .string ⟨#[]⟩, .slice none 0 0, .slice none 0 0] 25))) := below_one _ _
    go_enter Try.func28, Try.ntmps28
    go_wp2_with fail
    refine (HFI.out _ (HL.out.below B1.out)).mono ?_
    rintro e w2 ⟨fv, rfl, hfi, hb2⟩
    unfold FindIs at hfi
    rw [HQ.out.2] at hfi
    simp only at hfi
    obtain ⟨b, o, ha, rfl⟩ := hfi
    have B2 : Hid (Below w.heap.size w w2) := nxt B1.out hb2
    have X2 : Hid (w2.heap[w.heap.size]? = _) := (hb2.block _ (lt_of_block X1.out)).trans X1.out
    obtain ⟨b', o', aa, ac, ka, kc, ha', hN⟩ := HL.out q n HQ.out.1
    rw [ha] at ha'
    cases ha'
    subst ha
    have HN0 : Hid (NdAt w b (o + q * 7) n aa ac ka kc) := hN
    have HN : Hid (NdAt w2 b (o + q * 7) n aa ac ka kc) := hN.below B2.out
    have HCA : Hid (∀ W, Below w2.heap.size w2 W → Calls Try.prog 46 #[.slice aa n.ats.length ac] W fun e w' => ∃ v, e = .returned v ∧ OwnA w' W.heap.size v n.ats ∧ Below W.heap.size W w') := fun W hb => copyA_any n.ats aa ac W (HN.out.ats.below hb) HN.out.fit.ats.2.2.1
    clear hb2 hN X1 B1 HFI
    have r2 : w2.drew.cell? ⟨b, o + q * 7 + 2, none⟩ = some (.string n.tag) := HN.out.c2
    have r3 : w2.drew.cell? ⟨b, o + q * 7 + 3, none⟩ = some (.string n.key) := HN.out.c3
    have r4 : w2.drew.cell? ⟨b, o + q * 7 + 4, none⟩ = some (.string n.txt) := HN.out.c4
    have r5 : w2.drew.cell? ⟨b, o + q * 7 + 5, none⟩ = some (.slice aa n.ats.length ac) := HN.out.c5
    have s2 : (w2.alloc (.cells #[.string ⟨#[]⟩, .string ⟨#[]⟩, .string ⟨#[]⟩, .slice none 0 0, .slice none 0 0] 25)).drew.cell? ⟨b, o + q * 7 + 2, none⟩ = some (.string n.tag) := keepc (below_one w2 _) _ _ HN.out.c2
    have s3 : (w2.alloc (.cells #[.string ⟨#[]⟩, .string ⟨#[]⟩, .string ⟨#[]⟩, .slice none 0 0, .slice none 0 0] 25)).drew.cell? ⟨b, o + q * 7 + 3, none⟩ = some (.string n.key) := keepc (below_one w2 _) _ _ HN.out.c3
    have s4 : (w2.alloc (.cells #[.string ⟨#[]⟩, .string ⟨#[]⟩, .string ⟨#[]⟩, .slice none 0 0, .slice none 0 0] 25)).drew.cell? ⟨b, o + q * 7 + 4, none⟩ = some (.string n.txt) := keepc (below_one w2 _) _ _ HN.out.c4
    have s5 : (w2.alloc (.cells #[.string ⟨#[]⟩, .string ⟨#[]⟩, .string ⟨#[]⟩, .slice none 0 0, .slice none 0 0] 25)).drew.cell? ⟨b, o + q * 7 + 5, none⟩ = some (.slice aa n.ats.length ac) := keepc (below_one w2 _) _ _ HN.out.c5
    go_wp2_with fail
    go_cut [9] (fun v9 wc => ∃ g9 a3 c3, v9 = .pointer (some ⟨g9, 0, none⟩) ∧ Hid (wc.heap[g9]? = some (.cells #[.string n.tag, .string n.key, .string n.txt, .slice a3 n.ats.length c3, .slice none 0 0] 25 (0, 0))) ∧ Hid (OwnA wc w2.heap.size (.slice a3 n.ats.length c3) n.ats) ∧ Hid (Below w2.heap.size w2 wc ∧ w2.heap.size ≤ g9))
    case first =>
      have zz : (w2.alloc (.cells #[.string ⟨#[]⟩, .string ⟨#[]⟩, .string ⟨#[]⟩, .slice none 0 0, .slice none 0 0] 25)).drew.heap[w2.heap.size]? = some (.cells #[.string ⟨#[]⟩, .string ⟨#[]⟩, .string ⟨#[]⟩, .slice none 0 0, .slice none 0 0] 25 (0, 0)) := heap_alloc_new _ _
      have hbne : b ≠ w2.heap.size := Nat.ne_of_lt (lt_of_cell HN.out.c2)
      go_region_held3 (fun w' => w'.cell? ⟨b, o + q * 7 + 2, none⟩ = some (.string n.tag) ∧ w'.cell? ⟨b, o + q * 7 + 3, none⟩ = some (.string n.key) ∧ w'.cell? ⟨b, o + q * 7 + 4, none⟩ = some (.string n.txt) ∧ w'.cell? ⟨b, o + q * 7 + 5, none⟩ = some (.slice aa n.ats.length ac)) (go_keep) ((go_at_call 46; refine (HCA.out _ (by first | exact (Below.refl _ w2).drew | exact (below_one w2 _).drew)).mono ?_; rintro e w3 ⟨av, rfl, hA3, hb3⟩; obtain ⟨a3, c3, rfl⟩ := hA3.shape; have u2 := keepc hb3 _ _ (by first | exact r2 | exact s2); have u3 := keepc hb3 _ _ (by first | exact r3 | exact s3); have u4 := keepc hb3 _ _ (by first | exact r4 | exact s4); have u5 := keepc hb3 _ _ (by first | exact r5 | exact s5); have t2 : ∀ ob, (w3.alloc ob).cell? ⟨b, o + q * 7 + 2, none⟩ = some (.string n.tag) := fun ob => keepc (below_one w3 ob) _ _ u2; have t3 : ∀ ob, (w3.alloc ob).cell? ⟨b, o + q * 7 + 3, none⟩ = some (.string n.key) := fun ob => keepc (below_one w3 ob) _ _ u3; have t4 : ∀ ob, (w3.alloc ob).cell? ⟨b, o + q * 7 + 4, none⟩ = some (.string n.txt) := fun ob => keepc (below_one w3 ob) _ _ u4; have t5 : ∀ ob, (w3.alloc ob).cell? ⟨b, o + q * 7 + 5, none⟩ = some (.slice aa n.ats.length ac) := fun ob => keepc (below_one w3 ob) _ _ u5; (first | (have hz := (hb3.block w2.heap.size (lt_of_block zz)).trans zz; obtain ⟨⟨v0, v1, v2, v3, v4⟩, vf⟩ := five hz; have vf0 := vf 0; have vf1 := vf 1; have vf2 := vf 2; have vf3 := vf 3; have vf4 := vf 4; clear vf; have k2 := fun a0 a1 a2 a3 a4 => (World.cell?_of_block (a := ⟨b, o + q * 7 + 2, none⟩) ((tree_fin (c0 := a0) (c1 := a1) (c2 := a2) (c3 := a3) (c4 := a4) hz).2.1 b hbne)).trans u2; have k3 := fun a0 a1 a2 a3 a4 => (World.cell?_of_block (a := ⟨b, o + q * 7 + 3, none⟩) ((tree_fin (c0 := a0) (c1 := a1) (c2 := a2) (c3 := a3) (c4 := a4) hz).2.1 b hbne)).trans u3; have k4 := fun a0 a1 a2 a3 a4 => (World.cell?_of_block (a := ⟨b, o + q * 7 + 4, none⟩) ((tree_fin (c0 := a0) (c1 := a1) (c2 := a2) (c3 := a3) (c4 := a4) hz).2.1 b hbne)).trans u4; have k5 := fun a0 a1 a2 a3 a4 => (World.cell?_of_block (a := ⟨b, o + q * 7 + 5, none⟩) ((tree_fin (c0 := a0) (c1 := a1) (c2 := a2) (c3 := a3) (c4 := a4) hz).2.1 b hbne)).trans u5) | skip)))
      all_goals (
        go_wp2_with fail
        go_meet
        first
          | with_reducible exact trcutB hA3 hb3
          | exact trcutA hz hA3 hb3)
    case rest =>
      obtain ⟨g9, a3, c3, rfl, HBX, HAT, HB⟩ := hcut
      clear r2 r3 r4 r5 s2 s3 s4 s5 HCA
      have HLT : Hid (w.heap.size < w2.heap.size) := lt_of_block X2.out
      have HI0 : Hid (TrI k ns n w wc wc.heap.size g9 (.slice a3 n.ats.length c3) 0 [] [] (fun _ _ => False) none 0) := by
        have h1 := HLT.out
        have h2 := lt_of_block HBX.out
        refine ⟨rfl, HBX.out, World.ownsRow_nil _ _ _ _, (fun i u hi => by omega), (fun i b hi => by omega), (fun i j b hi => by omega), OwnA.less HAT.out (by omega), (HB.out.1.block _ (lt_of_block X2.out)).trans X2.out, nxt B2.out HB.out.1, fun b hb => (OwnA.rng HAT.out hb).2, by have := HB.out.2; omega, h2, Nat.le_refl _⟩
      have r6 := (HN.out.below HB.out.1).c6
      clear HBX HAT HB HN X2
      go_wp2_with fail
      clear r6
      obtain ⟨W5, hW5⟩ : ∃ W, W = wc := ⟨_, rfl⟩
      rw [← hW5] at HI0
      rw [← hW5]
      clear hW5
      go_loopw [43] (fun v43 wr => ∃ (m : Nat) (its : List (T k)) (xs : List Value) (G : Nat → Nat → Prop) (ra : Option Addr) (rc : Nat), m ≤ n.kids.length ∧ v43 = .int .i64 (m : Int) ∧ Hid (TrI k ns n w wr W5.heap.size g9 (.slice a3 n.ats.length c3) m its xs G ra rc)) (fun v43 _ => n.kids.length - (intOf v43).toNat)
      case atStart => exact ⟨0, [], [], _, none, 0, Nat.zero_le _, rfl, HI0.out⟩
      case round =>
        obtain ⟨m, its, xs, G, ra, rc, hm, rfl, HI⟩ := hrel
        clear HI0
        obtain ⟨⟨q0, q1, q2, q3, q4⟩, -⟩ := five HI.out.box
        by_cases hlt : m < n.kids.length
        · obtain ⟨b1, o1, ha1, r1, -⟩ := HN0.out.kids.below HI.out.bel m n.kids[m] (List.getElem?_eq_getElem hlt)
          subst ha1
          have HGK : Hid (n.kids[m]? = some n.kids[m]) := List.getElem?_eq_getElem hlt
          have HCC : Hid (Calls Try.prog 28 #[.slice (some ⟨b, o, none⟩) ns.length vc, .int .i64 n.kids[m], .int .i64 (dd + 1)] wr fun e w' => TrPost k wr w' e 10 (trO ns k n.kids[m])) := by
            show Calls _ _ _ _ _
            rw [HED.out]
            exact HIH.out n.kids[m] wr (HL.out.below HI.out.bel) (HKD.out _ (List.getElem_mem hlt))
          clear q0 q1 q2 q3 q4
          generalize n.kids[m] = y at *
          cases ht : trO ns k y with
          | none =>
            have HNO : Hid (trO ns (k + 1) x = none) := by
              show _ = _
              rw [HTR.out, allO_none]
              rw [← ht]
              exact List.mem_map.2 ⟨y, List.mem_of_getElem? HGK.out, rfl⟩
            rw [ht] at HCC
            clear ht HTR HGK
            go_wp2_with fail
            refine HCC.out.mono ?_
            rintro e w3 ⟨rfl, hb3⟩
            have B4 : Hid (Below w.heap.size w (w3.alloc (.cells #[.string ⟨#[]⟩, .string ⟨#[]⟩, .string ⟨#[]⟩, .slice none 0 0, .slice none 0 0] 25))) := nxt (nxt HI.out.bel hb3) (below_one _ _)
            have R4 : Hid ((w3.alloc (.cells #[.string ⟨#[]⟩, .string ⟨#[]⟩, .string ⟨#[]⟩, .slice none 0 0, .slice none 0 0] 25)).heap[w.heap.size]? = some (.cells #[.string ⟨#[]⟩, .string ⟨#[]⟩, .string ⟨#[]⟩, .slice none 0 0, .slice none 0 0] 25 (0, 0))) := ((nxt hb3 (below_one _ _)).block _ (lt_of_block HI.out.res)).trans HI.out.res
            obtain ⟨⟨z0, z1, z2, z3, z4⟩, zf⟩ := five R4.out
            have zf0 := zf 0
            have zf1 := zf 1
            have zf2 := zf 2
            have zf3 := zf 3
            have zf4 := zf 4
            clear zf hb3 HCC HI r1
            go_wp2_with fail
            obtain ⟨f1, -, f3, -⟩ := tree_fin (c0 := .string ⟨#[]⟩) (c1 := .string ⟨#[]⟩) (c2 := .string ⟨#[]⟩) (c3 := .slice none 0 0) (c4 := .slice none 0 0) R4.out
            have f3 := f3 w.heap.size w (Nat.le_refl _) B4.out
            clear z0 z1 z2 z3 z4 zf0 zf1 zf2 zf3 zf4 R4 B4
            generalize (((((w3.alloc (.cells #[.string ⟨#[]⟩, .string ⟨#[]⟩, .string ⟨#[]⟩, .slice none 0 0, .slice none 0 0] 25)).setCell ⟨w.heap.size, 0, none⟩ (.string ⟨#[]⟩)).setCell ⟨w.heap.size, 1, none⟩ (.string ⟨#[]⟩)).setCell ⟨w.heap.size, 2, none⟩ (.string ⟨#[]⟩)).setCell ⟨w.heap.size, 3, none⟩ (.slice none 0 0)).setCell ⟨w.heap.size, 4, none⟩ (.slice none 0 0) = W8 at *
            obtain ⟨⟨c0, c1, c2, c3, c4⟩, -⟩ := five f1
            refine bodyPost_ret (v := .tuple #[zT, .int .i64 10]) (by simp [results, Try.results28, go_sem, c0, c1, c2, c3, c4]) rfl ?_
            rw [HNO.out]
            exact ⟨rfl, f3⟩
          | some u =>
            rw [ht] at HCC
            have HTU : Hid (trO ns k y = some u) := ht
            clear ht HTR
            obtain ⟨i0, hi, hz0, hz1, hz2⟩ := info_parts Try.infoTree
            go_wp2_with fail
            refine HCC.out.mono ?_
            rintro e w3 ⟨yv, F, rfl, ho, hF, hb3⟩
            obtain ⟨k', b', t', ka', kl', kc', ia', il', ic', rfl⟩ := LayT.shape k (OwnT.lay k ho)
            have HO3 : Hid (OwnT w3 k (mkT k' b' t' ka' kl' kc' ia' il' ic') u F) := ho
            have HF3 : Hid (∀ b, F b → wr.heap.size ≤ b ∧ b < w3.heap.size) := hF
            have HB3 : Hid (Below wr.heap.size wr w3) := hb3
            have HI4 : Hid (TrI k ns n w (w3.alloc (.cells #[.string k', .string b', .string t', .slice ka' kl' kc', .slice ia' il' ic'] 25)) W5.heap.size g9 (.slice a3 n.ats.length c3) m its xs G ra rc) := HI.out.below (nxt hb3 (below_one _ _))
            have HX4 : Hid ((w3.alloc (.cells #[.string k', .string b', .string t', .slice ka' kl' kc', .slice ia' il' ic'] 25)).heap[w3.heap.size]? = some (.cells #[.string k', .string b', .string t', .slice ka' kl' kc', .slice ia' il' ic'] 25 (0, 0))) := heap_alloc_new _ _
            obtain ⟨⟨p0, p1, p2, p3, p4⟩, -⟩ := five HX4.out
            obtain ⟨⟨-, -, -, -, q4⟩, -⟩ := five HI4.out.box
            have HRW : Hid (((w3.alloc (.cells #[.string k', .string b', .string t', .slice ka' kl' kc', .slice ia' il' ic'] 25)).alloc (.cells #[.string k', .string b', .string t', .slice ka' kl' kc', .slice ia' il' ic'] 25)).ownsRow W5.heap.size 25 5 (.slice ra m rc) m xs) := ownsRow_same HI4.out.row fun g hg => (below_one _ _).block g (HI4.out.row.lt g hg).2
            have HSZ : Hid (W5.heap.size ≤ ((w3.alloc (.cells #[.string k', .string b', .string t', .slice ka' kl' kc', .slice ia' il' ic'] 25)).alloc (.cells #[.string k', .string b', .string t', .slice ka' kl' kc', .slice ia' il' ic'] 25)).heap.size ∧ (w3.alloc (.cells #[.string k', .string b', .string t', .slice ka' kl' kc', .slice ia' il' ic'] 25)).heap.size = w3.heap.size + 1) := ⟨Nat.le_trans HI4.out.order.2.2 (below_one _ _).size, by simp⟩
            clear ho hF hb3 HCC r1
            go_wp2_with (at_builtin; refine wpList_append_apart _ rfl _ _ 23 rfl W5.heap.size 25 i0 _ 5 96 Try.underlying23 hi hz0 hz1 hz2 rfl (by decide) _ m xs rfl HRW.out (some ⟨w3.heap.size + 1, 0, none⟩) 1 1 [.string k', .string b', .string t', .slice ka' kl' kc', .slice ia' il' ic'] rfl (by simp) rfl ?d1 ?d2 ?d3 ?d4 HSZ.out.1 ?_)
            case d1 =>
              intro ad e j v hj
              cases e
              have := heap_alloc_new (w3.alloc (.cells #[.string k', .string b', .string t', .slice ka' kl' kc', .slice ia' il' ic'] 25)) (.cells #[.string k', .string b', .string t', .slice ka' kl' kc', .slice ia' il' ic'] 25)
              rw [HSZ.out.2] at this
              rw [add_plain]
              simp only [World.cell?, this]
              simpa using hj
            case d2 => intro v hv; simp at hv; rcases hv with rfl | rfl | rfl | rfl | rfl <;> rfl
            case d3 => unfold maxLen; omega
            case d4 => omega
            · intro v' w5 hown' hgrow hv'
              obtain ⟨ra', rc', hv5, ⟨z, hz⟩, hfz, G', hI5⟩ := HI.out.push HGK.out HTU.out HO3.out HF3.out HB3.out hown' hgrow (hv'.imp id fun h g hg => by have := h g hg; have e := (below_one (w3.alloc (.cells #[.string k', .string b', .string t', .slice ka' kl' kc', .slice ia' il' ic'] 25)) (.cells #[.string k', .string b', .string t', .slice ka' kl' kc', .slice ia' il' ic'] 25)).size; simp at this ⊢; omega)
              subst hv5
              have HI5 : Hid (TrI k ns n w (w5.setCell ⟨g9, 4, none⟩ (.slice ra' (m + 1) rc')) W5.heap.size g9 (.slice a3 n.ats.length c3) (m + 1) (its ++ [u]) (xs ++ [.string k', .string b', .string t', .slice ka' kl' kc', .slice ia' il' ic']) G' ra' rc') := hI5
              clear hown' hgrow hv' hI5 p0 p1 p2 p3 p4 q4 HI HO3 HF3 HB3 HI4 HX4 HRW HSZ
              go_wp2_with fail
              go_roundw
              case rel => exact ⟨m + 1, _, _, G', ra', rc', by omega, by go_num, HI5⟩
              case measure => simp [intOf]; omega
        · have hme : m = n.kids.length := by omega
          subst hme
          have HSM : Hid (trO ns (k + 1) x = some (n.tag, n.key, n.txt, n.ats, its)) := by
            show _ = _
            have h1 := HI.out.it
            rw [List.take_length] at h1
            rw [HTR.out, h1]
            rfl
          obtain ⟨⟨z0, z1, z2, z3, z4⟩, zf⟩ := five HI.out.res
          have zf0 := zf 0
          have zf1 := zf 1
          have zf2 := zf 2
          have zf3 := zf 3
          have zf4 := zf 4
          clear zf
          go_wp2_with fail
          obtain ⟨f1, f2, f3, f4⟩ := tree_fin (c0 := .string n.tag) (c1 := .string n.key) (c2 := .string n.txt) (c3 := .slice a3 n.ats.length c3) (c4 := .slice ra n.kids.length rc) HI.out.res
          have f3 := f3 w.heap.size w (Nat.le_refl _) HI.out.bel
          clear z0 z1 z2 z3 z4 zf0 zf1 zf2 zf3 zf4 q0 q1 q2 q3 q4
          generalize ((((wr.setCell ⟨w.heap.size, 0, none⟩ (.string n.tag)).setCell ⟨w.heap.size, 1, none⟩ (.string n.key)).setCell ⟨w.heap.size, 2, none⟩ (.string n.txt)).setCell ⟨w.heap.size, 3, none⟩ (.slice a3 n.ats.length c3)).setCell ⟨w.heap.size, 4, none⟩ (.slice ra n.kids.length rc) = W8 at *
          obtain ⟨⟨c0, c1, c2, c3', c4⟩, -⟩ := five f1
          refine bodyPost_ret (v := .tuple #[mkT n.tag n.key n.txt a3 n.ats.length c3 ra n.kids.length rc, .int .i64 0]) (by simp [results, Try.results28, go_sem, c0, c1, c2, c3', c4]) rfl ?_
          rw [HSM.out]
          exact ⟨_, _, rfl, HI.out.done rfl HFT.out hk32 rfl (fun b hb => f2 b (by omega)) f4, (fun b hb => hb), f3⟩
end Go.Proofs.Ytbadehbnpneepaa
