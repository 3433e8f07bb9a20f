/-
  The program's takeOff, isWithin.
-/
import Derived.Test.YtcdnakcojanaeabGreatDoSet
namespace Go.Proofs.YtcdnakcojanaeabGreat
open Go.ChangeShapes Go.WideShapes Go.ChangeAt Go.RowKit Go.Deep
open Do

/-- Nodes behind taking a node from among its parent's kids. -/
def offN (ns : List Nd) (n : Nd) : List Nd := if n.par = 0 then ns else match pl ns n.par with
  | none => ns
  | some q => match ns[q]? with
    | none => ns
    | some m => ns.set q (m.withKids (lessZ m.kids n.id))

theorem lessZ_i64 {ks : List Int} (x : Int) (h : I64 ks ∧ ks.length * 8 ≤ 140737488351232) : I64 (lessZ ks x) ∧ (lessZ ks x).length * 8 ≤ 140737488351232 := by
  have hl : (lessZ ks x).length ≤ ks.length := List.length_filter_le _ _
  exact ⟨fun y hy => h.1 y (List.mem_filter.1 hy).1, by omega⟩

set_option maxRecDepth 100000 in
set_option maxHeartbeats 1600000 in
theorem takeOff_any (ns : List Nd) (n : Nd) (va : Option Addr) (vc : Nat) (ab kb : Nat → Value) (B : Nat) (aa : Option Addr) (al ac : Nat) (ka : Option Addr) (kl kc : Nat) (w : World) (hO : OwnN w B (.slice va ns.length vc) ns ab kb) (hB : B ≤ w.heap.size) (hu : Up ns) (hn : ns.length ≤ 1024) (hpar : n.par ≠ 0 → ∃ q, pl ns n.par = some q) :
    Calls Tryz.prog 69 #[.slice va ns.length vc, mkN n.id n.par n.tag n.key n.txt aa al ac ka kl kc] w fun e w' => e = .returned (.tuple #[]) ∧ (∃ kb', OwnN w' B (.slice va ns.length vc) (offN ns n) ab kb' ∧ ∀ i, kb' i = kb i ∨ ∀ b, (kb' i).ownBlock = some b → w.heap.size ≤ b) ∧ Kept (fun b => (Value.slice va ns.length vc).ownBlock = some b) w w' := by
  have HO : Hid (OwnN w B (.slice va ns.length vc) ns ab kb) := hO
  have HFI : Hid (∀ W, Below w.heap.size w W → ∀ x, Calls Tryz.prog 54 #[.slice va ns.length vc, .int .i64 x] W fun e w' => ∃ v, e = .returned v ∧ FindIs va ns x v ∧ Below W.heap.size W w') := fun W hb x => find_any ns x va vc W (hO.below hb).lay hu hn
  clear hO
  by_cases h0 : n.par = 0
  · have HR : Hid (offN ns n = ns) := if_pos h0
    have g0 : (n.par == 0) = true := by simpa using h0
    go_enter Tryz.func69, Tryz.ntmps69
    go_wp2_with fail
    refine bodyPost_ret (results_none rfl _ _ _) rfl ?_
    rw [HR.out]
    exact ⟨rfl, ⟨kb, HO.out.below (below_one _ _), fun _ => Or.inl rfl⟩, Kept.of_below (below_one _ _)⟩
  · obtain ⟨q, hq⟩ := hpar h0
    obtain ⟨m, hm1, hm2⟩ := pl_some hq
    have HR : Hid (offN ns n = ns.set q (m.withKids (lessZ m.kids n.id))) := by show _ = _; unfold offN; rw [if_neg h0, hq]; simp only; rw [hm1]
    have HM : Hid (ns[q]? = some m) := hm1
    have HFT : Hid (NdFit m) := HO.out.fit m (List.mem_of_getElem? hm1)
    have g0 : (n.par == 0) = false := by simpa using h0
    have hql : q < ns.length := (List.getElem?_eq_some_iff.1 hm1).1
    clear hpar h0 hm2
    obtain ⟨ni, np, ng, nk, nt, nas, nks⟩ := n
    simp only at *
    have X1 : Hid ((w.alloc (.cells #[.int .i64 ni, .int .i64 np, .string ng, .string nk, .string nt, .slice aa al ac, .slice ka kl kc] 41)).heap[w.heap.size]? = some (.cells #[.int .i64 ni, .int .i64 np, .string ng, .string nk, .string nt, .slice aa al ac, .slice ka kl kc] 41 (0, 0))) := heap_alloc_new _ _
    go_enter Tryz.func69, Tryz.ntmps69
    go_wp2_with fail
    refine (HFI.out _ (below_one _ _) np).mono ?_
    rintro e w2 ⟨fv, rfl, hfi, hb2⟩
    have B2 : Hid (Below w.heap.size w w2) := nxt (below_one _ _) hb2
    have X2 : Hid (w2.heap[w.heap.size]? = _) := (hb2.block _ (lt_of_block X1.out)).trans X1.out
    unfold FindIs at hfi
    rw [hq] at hfi
    simp only at hfi
    obtain ⟨b, o, ha, rfl⟩ := hfi
    have C2 : Hid (OwnN w2 B (.slice va ns.length vc) ns ab kb) := HO.out.below B2.out
    obtain ⟨g, hg, -, -, -, -, -, -, r6⟩ := rowN_cells C2.out.row hm1
    rw [ha] at hg
    cases hg
    subst ha
    obtain ⟨ka', kc', hks⟩ := (C2.out.kids q m hm1).shape
    have HKO : Hid (OwnZ w2 B (kb q) m.kids) := C2.out.kids q m hm1
    rw [hks] at r6 HKO
    rw [Nat.zero_add]
    clear hb2 hq hm1 X1 HFI
    obtain ⟨y0, -, -, -, -, -, -⟩ := seven X2.out
    have HW : Hid (Calls Tryz.prog 67 #[.slice ka' m.kids.length kc', .int .i64 ni] w2.drew _) := withoutID_any m.kids ni ka' kc' w2.drew (HKO.out.nm HFT.out.kids.1 HFT.out.kids.2)
    have y0' : w2.drew.cell? ⟨w.heap.size, 0, none⟩ = some (.int .i64 ni) := y0
    have r6' : w2.drew.cell? ⟨b, q * 7 + 6, none⟩ = some (.slice ka' m.kids.length kc') := r6
    have HF6 : Hid (∀ W, Below w2.heap.size w2 W → W.frozen? ⟨b, q * 7 + 6, none⟩ = false) := fun W hb => own_frozen (C2.out.below hb).row _
    go_wp2_with fail
    go_region_with (go_at_call 67; refine HW.out.mono ?_; rintro e w3 ⟨kv, rfl, hk3, hb3⟩; have z6 := keepc hb3 _ _ r6'; have f6 := HF6.out w3 ((Below.refl _ w2).drew.trans hb3); obtain ⟨k3a, k3c, rfl⟩ := hk3.shape)
    all_goals (
      have hb23 : Below w2.heap.size w2 w3 := (Below.refl _ w2).drew.trans hb3
      have hO3 := C2.out.setK hb23 (by have := B2.out.size; omega) HM.out (kv := .slice k3a (lessZ m.kids ni).length k3c) (ks := lessZ m.kids ni) hk3 (lessZ_i64 ni HFT.out.kids)
      have HF : Hid (OwnN (w3.setCell ⟨b, q * 7 + 6, none⟩ (.slice k3a (lessZ m.kids ni).length k3c)) B (.slice (some ⟨b, 0, none⟩) ns.length vc) (ns.set q (m.withKids (lessZ m.kids ni))) ab (upd kb q (.slice k3a (lessZ m.kids ni).length k3c))) := hO3
      have HK : Hid (Kept (fun j => (Value.slice (some ⟨b, 0, none⟩) ns.length vc).ownBlock = some j) w (w3.setCell ⟨b, q * 7 + 6, none⟩ (.slice k3a (lessZ m.kids ni).length k3c))) := (Kept.of_below (nxt B2.out hb23)).setCell _ rfl
      have HNK : Hid (∀ b', (Value.slice k3a (lessZ m.kids ni).length k3c).ownBlock = some b' → w.heap.size ≤ b') := fun b' h1 => Nat.le_trans B2.out.size (hk3.lt b' h1).1
      clear hO3 hb23 hk3 hb3 z6 f6 r6 r6' y0 y0'
      generalize w3.setCell ⟨b, q * 7 + 6, none⟩ (.slice k3a (lessZ m.kids ni).length k3c) = W9 at *
      go_wp2_with fail
      go_end0
      rw [HR.out]
      refine ⟨rfl, ⟨_, HF.out, fun i => ?_⟩, HK.out⟩
      by_cases e : i = q
      · right
        rw [e, upd_same]
        exact HNK.out
      · left
        exact upd_other _ _ e)
end Go.Proofs.YtcdnakcojanaeabGreat
