/-
  The program's mark: a map of numbers of one's own; a node's number and all below it are put into it.
-/
import Derived.Test.YtcdnakcojanaeabGreatDoGoodJ
import Derived.Maps.OwnSet
import Derived.Maps.AppendAt
import Derived.BigRegion
namespace Go.Proofs.YtcdnakcojanaeabGreat
open Go.ChangeShapes Go.WideShapes Go.ChangeAt Go.RowKit Go.Deep Go.Maps Go.WideMaps
open Do

/-- All cells that are there stay. -/
def CellsStay (w w' : World) : Prop := ∀ ad v, w.cell? ad = some v → w'.cell? ad = some v

theorem CellsStay.of_below {w w' : World} (h : Below w.heap.size w w') : CellsStay w w' := fun ad v hv => keepc h ad v hv
theorem CellsStay.trans {a b c : World} (h : CellsStay a b) (k : CellsStay b c) : CellsStay a c := fun ad v hv => k ad v (h ad v hv)

theorem LayA.stay {w w' : World} {a : Option Addr} {l : List Atr} (h : LayA w a l) (hc : CellsStay w w') : LayA w' a l := by
  intro i s hi
  obtain ⟨b, o, h1, h2, h3, h4⟩ := h i s hi
  exact ⟨b, o, h1, hc _ _ h2, hc _ _ h3, h4⟩
theorem LayZ.stay {w w' : World} {a : Option Addr} {l : List Int} (h : LayZ w a l) (hc : CellsStay w w') : LayZ w' a l := by
  intro i s hi
  obtain ⟨b, o, h1, h2, h3⟩ := h i s hi
  exact ⟨b, o, h1, hc _ _ h2, h3⟩
theorem NdAt.stay {w w' : World} {b o : Nat} {n : Nd} {aa : Option Addr} {ac : Nat} {ka : Option Addr} {kc : Nat} (h : NdAt w b o n aa ac ka kc) (hc : CellsStay w w') : NdAt w' b o n aa ac ka kc :=
  ⟨hc _ _ h.c0, hc _ _ h.c1, hc _ _ h.c2, hc _ _ h.c3, hc _ _ h.c4, hc _ _ h.c5, hc _ _ h.c6, h.fit, h.ats.stay hc, h.kids.stay hc⟩
theorem LayN.stay {w w' : World} {a : Option Addr} {ns : List Nd} (h : LayN w a ns) (hc : CellsStay w w') : LayN w' a ns := by
  intro i n hi
  obtain ⟨b, o, aa, ac, ka, kc, h1, h2⟩ := h i n hi
  exact ⟨b, o, aa, ac, ka, kc, h1, h2.stay hc⟩

theorem lawInt : Keyed Tryz.prog 3 := int_keyed Tryz.underlying3
theorem zeroUnitD (w : World) : (zeroValue 100).run Tryz.prog w = .ok (.agg #[]) w := by kernel_rfl

def litZ (x : Int) : Lit := .int .i64 x
theorem wfZ {x : Int} (h : -9223372036854775808 ≤ x ∧ x ≤ 9223372036854775807) : (Lit.int .i64 x).wf = true := by
  have e1 : IntKind.i64.min = -9223372036854775808 := by decide
  have e2 : IntKind.i64.max = 9223372036854775807 := by decide
  simp only [Lit.wf, e1, e2]
  simp
  omega
/-- A set of numbers, as the map that it is. -/
def Mz (l : List Int) : DataW Unit := setOf (.agg []) (l.map litZ)

theorem litZ_key (x : Int) : WideAt.IsKeyLit (litZ x) := by simp [litZ, WideAt.IsKeyLit]
theorem keys_Mz (l : List Int) : ∀ y ∈ l.map litZ, WideAt.IsKeyLit y := fun y hy => by obtain ⟨z, -, rfl⟩ := List.mem_map.1 hy; exact litZ_key z

theorem litZ_inj {x y : Int} (h : litZ x = litZ y) : x = y := by simpa [litZ] using h

theorem has_Mz (l : List Int) (x : Int) : Maps.has (Mz l) (litZ x) = l.contains x := by
  unfold Mz
  rw [has_setOf _ _ _ (keys_Mz l), List.any_map, ← List.any_beq']
  congr 1
  funext y
  have h := WideAt.sameKey_iff (a := litZ y) (litZ_key x)
  simp only [Function.comp]
  by_cases e : y = x
  · subst e
    rw [h.2 rfl]
    simp
  · have h1 : (litZ y).sameKey (litZ x) = false := by
      cases hs : (litZ y).sameKey (litZ x) with
      | false => rfl
      | true => exact absurd (litZ_inj (h.1 hs)) e
    rw [h1]
    simp [e]

theorem Mz_snoc (l : List Int) (x : Int) : Mz (l ++ [x]) = (Mz l).put (litZ x) (.agg []) := by
  unfold Mz
  rw [List.map_append]
  exact setOf_snoc _ _ _

theorem addKeys {S : List Lit} (hS : ∀ y ∈ S, WideAt.IsKeyLit y) : ∀ (xs acc : List Lit), (∀ y ∈ xs, y ∈ S) → acc.Nodup → (∀ y ∈ acc, y ∈ S) → (xs.foldl Maps.addKey acc).Nodup ∧ ∀ y ∈ xs.foldl Maps.addKey acc, y ∈ S
  | [], acc, _, h1, h2 => ⟨h1, h2⟩
  | x :: r, acc, hx, h1, h2 => by
    rw [List.foldl_cons]
    refine addKeys hS r _ (fun y hy => hx y (by simp [hy])) ?_ ?_
    · unfold Maps.addKey
      split
      · exact h1
      · rename_i hany
        rw [List.nodup_append]
        refine ⟨h1, by simp, fun a ha b hb => ?_⟩
        rw [List.mem_singleton] at hb
        subst hb
        rintro rfl
        exact hany (List.any_eq_true.2 ⟨a, ha, WideAt.sameKey_self (hS a (hx a (by simp)))⟩)
    · unfold Maps.addKey
      split
      · exact h2
      · intro y hy
        rcases List.mem_append.1 hy with hy | hy
        · exact h2 y hy
        · rw [List.mem_singleton] at hy
          subst hy
          exact hx y (by simp)

theorem size_Mz {l ids : List Int} (h : ∀ x ∈ l, x ∈ ids) : Maps.size (Mz l) ≤ ids.length := by
  unfold Mz
  rw [size_setOf _ _ (keys_Mz l)]
  haveI : DecidableEq Lit := fun _ _ => Classical.propDecidable _
  have h1 := addKeys (S := ids.map litZ) (keys_Mz ids) (l.map litZ) [] (fun y hy => by obtain ⟨z, hz, rfl⟩ := List.mem_map.1 hy; exact List.mem_map.2 ⟨z, h z hz, rfl⟩) List.nodup_nil (fun y hy => by cases hy)
  have := nodup_sub h1.1 h1.2
  rwa [List.length_map] at this

/-- A map of numbers that are all among few has few entries. -/
theorem tightZ {w : World} {G m : Nat} {l ids : List Int} (h : w.ownsMap Tryz.prog 3 unitElem G m (Mz l)) (hs : ∀ x ∈ l, x ∈ ids) (hn : ids.length ≤ 1024) : w.ownsMap Tryz.prog 3 unitElem G 1024 (Mz l) := by
  have hz := size_Mz hs
  obtain ⟨es, clock, hb, F, -, hD⟩ := h
  refine ⟨es, clock, hb, F, ?_, hD⟩
  have e : Maps.size (Mz l) = es.size := by rw [hD]; simp [Maps.size, length_sorted]
  omega

/-- A map's block has no cells: what grows by it leaves all cells as they are. -/
theorem CellsStay.of_map {w w' : World} {G m : Nat} {D : DataW Unit} (h : w.ownsMap Tryz.prog 3 unitElem G m D) (hg : w.grownBy w' (some G)) : CellsStay w w' := by
  obtain ⟨es, clock, hb, -⟩ := h
  intro ad v hv
  have hlt := lt_of_cell hv
  have hne : ad.block ≠ G := by
    rintro rfl
    simp [World.cell?, hb] at hv
  rw [World.cell?_of_block (hg.block ad.block hlt (by simpa using hne))]
  exact hv

theorem mark_flat {ns : List Nd} {k i : Nat} {ks : List Int} (h : i < ks.length) : (ks.take (i + 1)).flatMap (markL ns k) = (ks.take i).flatMap (markL ns k) ++ markL ns k ks[i] := by
  rw [List.take_succ_eq_append_getElem h, List.flatMap_append]
  simp

theorem mark_ids {ns : List Nd} : ∀ {k : Nat} {x : Int}, Down ns k x → ∀ y ∈ markL ns k x, y ∈ ns.map Nd.id
  | 0, _, h, _, _ => h.elim
  | k + 1, x, h, y, hy => by
    obtain ⟨n, h1, h2⟩ := h
    simp only [markL, List.mem_cons, List.mem_flatMap] at hy
    rw [kidsOf_some h1] at hy
    rcases hy with rfl | ⟨c, hc, hy⟩
    · have := nd_some h1
      exact List.mem_map.2 ⟨n, this.1, this.2⟩
    · exact mark_ids (h2 c hc) y hy

set_option maxRecDepth 100000 in
set_option maxHeartbeats 1600000 in
theorem mark_any (ns : List Nd) (va : Option Addr) (vc : Nat) (hu : Up ns) (hn : ns.length ≤ 1024) : ∀ (k : Nat) (x : Int) (G m : Nat) (l : List Int) (w : World), LayN w va ns → Down ns k x → w.ownsMap Tryz.prog 3 unitElem G m (Mz l) → (∀ y ∈ l, y ∈ ns.map Nd.id) →
    Calls Tryz.prog 71 #[.map (some G), .slice va ns.length vc, .int .i64 x] w fun e w' => e = .returned (.tuple #[]) ∧ (∃ m', w'.ownsMap Tryz.prog 3 unitElem G m' (Mz (l ++ markL ns k x))) ∧ Kept (fun b => b = G) w w' ∧ CellsStay w w'
  | 0, _, _, _, _, _, _, h, _, _ => h.elim
  | k + 1, x, G, m, l, w, hL, hd, hM, hl => by
    have HK : Hid (∀ (y : Int) (m : Nat) (l : List Int) (W : World), LayN W va ns → Down ns k y → W.ownsMap Tryz.prog 3 unitElem G m (Mz l) → (∀ y ∈ l, y ∈ ns.map Nd.id) → Calls Tryz.prog 71 #[.map (some G), .slice va ns.length vc, .int .i64 y] W fun e w' => e = .returned (.tuple #[]) ∧ (∃ m', w'.ownsMap Tryz.prog 3 unitElem G m' (Mz (l ++ markL ns k y))) ∧ Kept (fun b => b = G) W w' ∧ CellsStay W w') := fun y m l W => mark_any ns va vc hu hn k y G m l W
    obtain ⟨n, h1, h2⟩ := hd
    obtain ⟨q, hq, hqn⟩ := nd_at h1
    have hnd := nd_some h1
    have HID : Hid (x ∈ ns.map Nd.id) := List.mem_map.2 ⟨n, hnd.1, hnd.2⟩
    have HM : Hid (w.ownsMap Tryz.prog 3 unitElem G 1024 (Mz l)) := tightZ hM hl (by simpa using hn)
    have HL : Hid (LayN w va ns) := hL
    have HDN : Hid (∀ y ∈ n.kids, Down ns k y) := h2
    have HMK : Hid (markL ns (k + 1) x = x :: n.kids.flatMap (markL ns k)) := by show _ = _; simp only [markL]; rw [kidsOf_some h1]
    have HFI : Hid (∀ W, LayN W va ns → Calls Tryz.prog 54 #[.slice va ns.length vc, .int .i64 x] W fun e w' => ∃ v, e = .returned v ∧ FindIs va ns x v ∧ Below W.heap.size W w') := fun W hb => find_any ns x va vc W hb hu hn
    have HIN : Hid (∀ y ∈ l, y ∈ ns.map Nd.id) := hl
    obtain ⟨b0, o0, aa0, ac0, ka0, kc0, hva, hN0⟩ := hL q n hqn
    have hfit := hN0.fit
    have hx64 : -9223372036854775808 ≤ x ∧ x ≤ 9223372036854775807 := by rw [← hnd.2]; exact hfit.id
    have hkey : keyOf Tryz.prog 3 (.int .i64 x) = some (litZ x) := keyOf_int_mk Tryz.underlying3 (wfZ hx64)
    have hmx : 1024 < maxLen := by unfold maxLen; omega
    have HQ : Hid (ns[q]? = some n ∧ pl ns x = some q) := ⟨hqn, hq⟩
    have hkl : n.kids.length * 8 ≤ 140737488351232 := hfit.kids.2.2.1
    clear hL hM hl h1 h2 hq hqn hnd hN0 hfit hx64 hva hu hn
    go_enter Tryz.func71, Tryz.ntmps71
    go_wp2_with (at_mapUpdate; refine wpList_mapUpdate_own _ rfl _ _ _ 98 rfl 3 100 lawInt Tryz.underlying98 (unitElem (H := Unit)) G 1024 (Mz l) rfl HM.out hmx _ _ _ rfl rfl hkey _ [] unitElem_mk ?_; intro w1 hown1 hgrow1; have HM1 : Hid (w1.ownsMap Tryz.prog 3 unitElem G (1024 + 1) (Mz (l ++ [x]))) := (by show World.ownsMap _ _ _ _ _ _ _; rw [Mz_snoc]; exact hown1); have HK1 : Hid (Kept (fun b => b = G) w w1 ∧ CellsStay w w1) := ⟨⟨hgrow1.os, hgrow1.tape, hgrow1.output, hgrow1.size, fun j hj hn => hgrow1.block j hj (by simpa using hn)⟩, CellsStay.of_map HM.out hgrow1⟩; clear hown1 hgrow1)
    refine (HFI.out w1 (HL.out.stay HK1.out.2)).mono ?_
    rintro e w2 ⟨fv, rfl, hfi, hb2⟩
    unfold FindIs at hfi
    rw [HQ.out.2] at hfi
    simp only at hfi
    obtain ⟨b, o, ha, rfl⟩ := hfi
    have HK2 : Hid (Kept (fun b => b = G) w w2 ∧ CellsStay w w2) := ⟨HK1.out.1.trans (Kept.of_below hb2), HK1.out.2.trans (CellsStay.of_below hb2)⟩
    have HM2 : Hid (w2.ownsMap Tryz.prog 3 unitElem G (1024 + 1) (Mz (l ++ [x]))) := HM1.out.kept (row := none) ⟨hb2.os, hb2.tape, hb2.output, hb2.size, fun j hj _ => hb2.block j hj⟩ (by simp)
    obtain ⟨b', o', aa, ac, ka, kc, ha', hN⟩ := HL.out.stay HK2.out.2 q n HQ.out.1
    rw [ha] at ha'
    cases ha'
    have r6 := hN.c6
    have HLZ : Hid (LayZ w2 ka n.kids) := hN.kids
    subst ha
    clear hN hb2 HM1 HK1 HM HFI
    generalize n.kids = ks at *
    go_wp2_with fail
    go_loopw [18] (fun v18 wr => ∃ i : Nat, i ≤ ks.length ∧ v18 = .int .i64 (i : Int) ∧ Hid (∃ m', wr.ownsMap Tryz.prog 3 unitElem G m' (Mz (l ++ [x] ++ (ks.take i).flatMap (markL ns k)))) ∧ Hid (Kept (fun b => b = G) w wr ∧ CellsStay w2 wr)) (fun v18 _ => ks.length - (intOf v18).toNat)
    case atStart => exact ⟨0, Nat.zero_le _, rfl, ⟨_, by simpa using HM2.out⟩, HK2.out.1, fun ad v h => h⟩
    case round =>
      obtain ⟨i, hi, rfl, HO, HB⟩ := hrel
      by_cases hlt : i < ks.length
      · obtain ⟨b1, o1, ha1, r1, _⟩ := HLZ.out.stay HB.out.2 i ks[i] (List.getElem?_eq_getElem hlt)
        subst ha1
        have HD1 : Hid (Down ns k ks[i]) := HDN.out _ (List.getElem_mem hlt)
        have HT : Hid ((ks.take (i + 1)).flatMap (markL ns k) = (ks.take i).flatMap (markL ns k) ++ markL ns k ks[i]) := mark_flat hlt
        have HI1 : Hid (∀ y ∈ l ++ [x] ++ (ks.take i).flatMap (markL ns k), y ∈ ns.map Nd.id) := by
          intro y hy
          rcases List.mem_append.1 hy with hy | hy
          · rcases List.mem_append.1 hy with hy | hy
            · exact HIN.out y hy
            · rw [List.mem_singleton] at hy
              subst hy
              exact HID.out
          · obtain ⟨c, hc, hy⟩ := List.mem_flatMap.1 hy
            exact mark_ids (HDN.out c (List.mem_of_mem_take hc)) y hy
        obtain ⟨m', hm'⟩ := HO.out
        have HCC : Hid (Calls Tryz.prog 71 #[.map (some G), .slice (some ⟨b, o, none⟩) ns.length vc, .int .i64 ks[i]] wr _) := HK.out ks[i] m' _ wr (HL.out.stay (HK2.out.2.trans HB.out.2)) HD1.out hm' HI1.out
        clear hm' HD1 HI1
        generalize hfl : (ks.take i).flatMap (markL ns k) = fl at *
        generalize ks[i] = y at *
        clear hfl
        go_wp2_with (go_at_call 71; refine HCC.out.mono ?_; rintro e w3 ⟨rfl, hm3, hk3, hc3⟩; have HM3 : Hid (∃ m', w3.ownsMap Tryz.prog 3 unitElem G m' (Mz (l ++ [x] ++ fl ++ markL ns k y))) := hm3; have HK3 : Hid (Kept (fun b => b = G) w w3 ∧ CellsStay w2 w3) := ⟨HB.out.1.trans hk3, HB.out.2.trans hc3⟩; clear hm3 hk3 hc3)
        go_roundw
        case rel => exact ⟨i + 1, by omega, by go_num, by rw [HT.out, ← List.append_assoc]; exact HM3.out, HK3.out⟩
        case measure => simp [intOf]; omega
      · have HE : Hid (ks.take i = ks) := List.take_of_length_le (by omega)
        rw [HE.out] at HO
        have HFIN : Hid (∃ m', wr.ownsMap Tryz.prog 3 unitElem G m' (Mz (l ++ markL ns (k + 1) x))) := by
          show ∃ m', _
          rw [HMK.out]
          have := HO.out
          rwa [List.append_assoc] at this
        go_wp2_with fail
        go_end0
        exact ⟨rfl, HFIN.out, HB.out.1, HK2.out.2.trans HB.out.2⟩
end Go.Proofs.YtcdnakcojanaeabGreat

/-
  The program's without over nodes, by the function of takeAway: the nodes that are left.
-/
namespace Go.Proofs.YtcdnakcojanaeabGreat
open Go.ChangeShapes Go.WideShapes Go.ChangeAt Go.RowKit Go.Deep Go.Maps Go.WideMaps
open Do

/-- Nodes picked out of others, in order: where each one was. -/
structure Pick (ns : List Nd) (m : Nat) (ls : List Nd) (ix : Nat → Nat) : Prop where
  at_ : ∀ i n, ls[i]? = some n → ns[ix i]? = some n ∧ ix i < m
  inj : ∀ i j, i < ls.length → j < ls.length → ix i = ix j → i = j

theorem Pick.nil (ns : List Nd) : Pick ns 0 [] (fun _ => 0) := ⟨fun i n h => by simp at h, fun i j h => by simp at h⟩
theorem Pick.mono {ns ls : List Nd} {m m' : Nat} {ix : Nat → Nat} (h : Pick ns m ls ix) (hm : m ≤ m') : Pick ns m' ls ix := ⟨fun i n hi => ⟨(h.at_ i n hi).1, by have := (h.at_ i n hi).2; omega⟩, h.inj⟩
theorem Pick.snoc {ns ls : List Nd} {m : Nat} {ix : Nat → Nat} (h : Pick ns m ls ix) {n : Nd} (hn : ns[m]? = some n) : Pick ns (m + 1) (ls ++ [n]) (fun i => if i = ls.length then m else ix i) := by
  have lt : ∀ i, i < ls.length → ix i < m := fun i hi => (h.at_ i ls[i] (List.getElem?_eq_getElem hi)).2
  refine ⟨fun i x hi => ?_, fun i j hi hj e => ?_⟩
  · by_cases e : i = ls.length
    · subst e
      simp only [if_true]
      rw [List.getElem?_append_right (Nat.le_refl _)] at hi
      simp at hi
      subst hi
      exact ⟨hn, by omega⟩
    · have hl : i < ls.length := by have := (List.getElem?_eq_some_iff.1 hi).1; simp at this; omega
      rw [List.getElem?_append_left hl] at hi
      simp only [if_neg e]
      exact ⟨(h.at_ i x hi).1, by have := (h.at_ i x hi).2; omega⟩
  · simp only [List.length_append, List.length_singleton] at hi hj
    by_cases e1 : i = ls.length <;> by_cases e2 : j = ls.length
    · omega
    · simp only [if_pos e1, if_neg e2] at e
      have := lt j (by omega)
      omega
    · simp only [if_neg e1, if_pos e2] at e
      have := lt i (by omega)
      omega
    · simp only [if_neg e1, if_neg e2] at e
      exact h.inj i j (by omega) (by omega) e

theorem OwnN.pick {w w' : World} {B : Nat} {v v' : Value} {ns ls : List Nd} {ab kb : Nat → Value} {m : Nat} {ix : Nat → Nat} (h : OwnN w B v ns ab kb) (hp : Pick ns m ls ix) (hb : Below w.heap.size w w') (hr : w'.ownsRow B 41 7 v' ls.length (rowN ls (fun i => ab (ix i)) (fun i => kb (ix i)))) :
    OwnN w' B v' ls (fun i => ab (ix i)) (fun i => kb (ix i)) := by
  have lt : ∀ i, i < ls.length → ix i < ns.length := fun i hi => (List.getElem?_eq_some_iff.1 (hp.at_ i ls[i] (List.getElem?_eq_getElem hi)).1).1
  refine ⟨hr, fun i n hi => (h.ats _ n (hp.at_ i n hi).1).below hb, fun i n hi => (h.kids _ n (hp.at_ i n hi).1).below hb, ?_, ?_, fun n hn => ?_⟩
  · intro i j g hi hj hij
    exact h.apa _ _ g (lt i hi) (lt j hj) fun e => hij (hp.inj i j hi hj e)
  · intro i j g hi hj hij
    exact h.apk _ _ g (lt i hi) (lt j hj) fun e => hij (hp.inj i j hi hj e)
  · obtain ⟨i, hi, rfl⟩ := List.getElem_of_mem hn
    exact h.fit _ (List.mem_of_getElem? (hp.at_ i ls[i] (List.getElem?_eq_getElem hi)).1)

theorem left_take {ns : List Nd} {L : List Int} {i : Nat} (h : i < ns.length) : leftN (ns.take (i + 1)) L = leftN (ns.take i) L ++ (if L.contains ns[i].id = true then [] else [ns[i]]) := by
  unfold leftN
  rw [List.take_succ_eq_append_getElem h, List.filter_append]
  congr 1
  rw [List.filter_cons, List.filter_nil]
  cases L.contains ns[i].id <;> rfl

set_option maxRecDepth 100000 in
set_option maxHeartbeats 800000 in
theorem goneN_any (x : Int) (c1 c2 c3 c4 c5 c6 : Value) (L : List Int) (Q G m : Nat) (w : World) (hx : -9223372036854775808 ≤ x ∧ x ≤ 9223372036854775807) (hQ : w.cell? ⟨Q, 0, none⟩ = some (.map (some G))) (hM : w.ownsMap Tryz.prog 3 unitElem G m (Mz L)) :
    Calls Tryz.prog 72 #[.agg #[.int .i64 x, c1, c2, c3, c4, c5, c6], .pointer (some ⟨Q, 0, none⟩)] w fun e w' => e = .returned (.bool (L.contains x)) ∧ Below w.heap.size w w' := by
  have hq := keepc (below_one w (.cells #[.int .i64 x, c1, c2, c3, c4, c5, c6] 41)) _ _ hQ
  have HM2 : Hid ((w.alloc (.cells #[.int .i64 x, c1, c2, c3, c4, c5, c6] 41)).ownsMap Tryz.prog 3 unitElem G m (Mz L)) := hM.alloc _
  have hkey : keyOf Tryz.prog 3 (.int .i64 x) = some (litZ x) := keyOf_int_mk Tryz.underlying3 (wfZ hx)
  have HH : Hid (Maps.has (Mz L) (litZ x) = L.contains x) := has_Mz L x
  clear hQ hM hx
  generalize hc : L.contains x = bc at *
  clear hc
  go_enter Tryz.func72, Tryz.ntmps72
  go_wp2_with (at_lookup; refine wpList_lookup_own_unit _ rfl _ _ 98 rfl 3 100 lawInt Tryz.underlying98 (zeroUnitD _) G m (Mz L) rfl HM2.out _ _ rfl hkey ?_; rw [HH.out])
  go_ret
  exact ⟨rfl, nxt (below_one _ _) (below_one _ _)⟩

set_option maxRecDepth 100000 in
set_option maxHeartbeats 1600000 in
theorem withoutG_any (ns : List Nd) (ab kb : Nat → Value) (L : List Int) (Q G m : Nat) (a : Option Addr) (c : Nat) (w : World) (hl : SrcN w a ns ab kb) (hln : ns.length * 112 ≤ 140737488351232) (hQ : w.cell? ⟨Q, 0, none⟩ = some (.map (some G))) (hM : w.ownsMap Tryz.prog 3 unitElem G m (Mz L)) :
    Calls Tryz.prog 61 #[.slice a ns.length c, .func (.func 72) #[] #[.pointer (some ⟨Q, 0, none⟩)]] w fun e w' => ∃ v ix, e = .returned v ∧ Pick ns ns.length (leftN ns L) ix ∧ w'.ownsRow w.heap.size 41 7 v (leftN ns L).length (rowN (leftN ns L) (fun i => ab (ix i)) (fun i => kb (ix i))) ∧ Below w.heap.size w w' := by
  have HL : Hid (SrcN w a ns ab kb) := hl
  have HC : Hid (∀ (W : World) (x : Int) (c1 c2 c3 c4 c5 c6 : Value), -9223372036854775808 ≤ x ∧ x ≤ 9223372036854775807 → Below w.heap.size w W → Calls Tryz.prog 72 #[.agg #[.int .i64 x, c1, c2, c3, c4, c5, c6], .pointer (some ⟨Q, 0, none⟩)] W fun e w' => e = .returned (.bool (L.contains x)) ∧ Below W.heap.size W w') := fun W x c1 c2 c3 c4 c5 c6 hx hb => goneN_any x c1 c2 c3 c4 c5 c6 L Q G m W hx (keepc hb _ _ hQ) (hM.kept (row := none) ⟨hb.os, hb.tape, hb.output, hb.size, fun j hj _ => hb.block j hj⟩ (by simp))
  clear hl hQ hM
  go_enter Tryz.func61, Tryz.ntmps61
  go_wp2_with fail
  go_loopw [5, 10] (fun v5 v10 wr => ∃ (i : Nat) (ix : Nat → Nat), i ≤ ns.length ∧ v10 = .int .i64 (i : Int) ∧ Hid (Pick ns i (leftN (ns.take i) L) ix) ∧ Hid (wr.ownsRow w.heap.size 41 7 v5 (leftN (ns.take i) L).length (rowN (leftN (ns.take i) L) (fun i => ab (ix i)) (fun i => kb (ix i)))) ∧ Hid (Below w.heap.size w wr)) (fun _ v10 _ => ns.length - (intOf v10).toNat)
  case atStart => exact ⟨0, fun _ => 0, Nat.zero_le _, rfl, Pick.nil _, World.ownsRow_nil _ _ _ _, Below.refl _ _⟩
  case round =>
    obtain ⟨i, ix, hi, rfl, HPK, HO, HB⟩ := hrel
    by_cases hlt : i < ns.length
    · obtain ⟨b, o, aa, ac, ka, kc, ha, hN, hab, hkb⟩ := HL.out.below HB.out i ns[i] (List.getElem?_eq_getElem hlt)
      subst ha
      obtain ⟨r0, r1, r2, r3, r4, r5, r6, hfit, -, -⟩ := hN
      have HT : Hid (leftN (ns.take (i + 1)) L = leftN (ns.take i) L ++ (if L.contains ns[i].id = true then [] else [ns[i]])) := left_take hlt
      have HLE : Hid ((leftN (ns.take i) L).length ≤ i) := by show _ ≤ _; refine Nat.le_trans (List.length_filter_le _ _) ?_; simp; omega
      have HG : Hid (ns[i]? = some ns[i]) := List.getElem?_eq_getElem hlt
      have HAB : Hid (ab i = .slice aa ns[i].ats.length ac ∧ kb i = .slice ka ns[i].kids.length kc) := ⟨hab, hkb⟩
      obtain ⟨oa, oc, hov⟩ := slice_of_own HO.out
      subst hov
      have hxr := hfit.id
      clear hab hkb hfit
      generalize leftN (ns.take i) L = fl at *
      generalize hm : ns[i] = mm at *
      clear hm
      obtain ⟨mi, mp, mg, mk, mt, ma, mks⟩ := mm
      simp only at *
      have X1 : Hid ((wr.alloc (.cells #[.int .i64 mi, .int .i64 mp, .string mg, .string mk, .string mt, .slice aa ma.length ac, .slice ka mks.length kc] 41)).heap[wr.heap.size]? = some (.cells #[.int .i64 mi, .int .i64 mp, .string mg, .string mk, .string mt, .slice aa ma.length ac, .slice ka mks.length kc] 41 (0, 0))) := heap_alloc_new _ _
      have HCC := HC.out (wr.alloc (.cells #[.int .i64 mi, .int .i64 mp, .string mg, .string mk, .string mt, .slice aa ma.length ac, .slice ka mks.length kc] 41)) mi (.int .i64 mp) (.string mg) (.string mk) (.string mt) (.slice aa ma.length ac) (.slice ka mks.length kc) hxr (nxt HB.out (below_one _ _))
      clear hxr
      cases hc : L.contains mi with
      | true =>
        rw [hc] at HCC HT
        simp only [if_true, List.append_nil] at HT
        have HCD : Hid (Calls Tryz.prog 72 #[.agg #[.int .i64 mi, .int .i64 mp, .string mg, .string mk, .string mt, .slice aa ma.length ac, .slice ka mks.length kc], .pointer (some ⟨Q, 0, none⟩)] (wr.alloc (.cells #[.int .i64 mi, .int .i64 mp, .string mg, .string mk, .string mt, .slice aa ma.length ac, .slice ka mks.length kc] 41)) _) := HCC
        clear HCC hc
        go_wp2_with fail
        refine HCD.out.mono ?_
        rintro e w2 ⟨rfl, hb2⟩
        have BB : Hid (Below w.heap.size w w2) := nxt HB.out (nxt (below_one _ _) hb2)
        have OO : Hid (w2.ownsRow w.heap.size 41 7 (.slice oa fl.length oc) fl.length (rowN fl (fun i => ab (ix i)) (fun i => kb (ix i)))) := ownsRow_same HO.out fun g hg => (nxt (below_one wr _) hb2).block g (HO.out.lt g hg).2
        clear HO HB r0 r1 r2 r3 r4 r5 r6 X1 hb2 HCD
        go_wp2_with fail
        go_roundw
        case rel => exact ⟨i + 1, ix, by omega, by go_num, by rw [HT.out]; exact HPK.out.mono (Nat.le_succ _), by rw [HT.out]; exact OO.out, BB.out⟩
        case measure => simp [intOf]; omega
      | false =>
        rw [hc] at HCC HT
        simp only [Bool.false_eq_true, if_false] at HT
        have HCD : Hid (Calls Tryz.prog 72 #[.agg #[.int .i64 mi, .int .i64 mp, .string mg, .string mk, .string mt, .slice aa ma.length ac, .slice ka mks.length kc], .pointer (some ⟨Q, 0, none⟩)] (wr.alloc (.cells #[.int .i64 mi, .int .i64 mp, .string mg, .string mk, .string mt, .slice aa ma.length ac, .slice ka mks.length kc] 41)) _) := HCC
        have HP2 : Hid (Pick ns (i + 1) (fl ++ [⟨mi, mp, mg, mk, mt, ma, mks⟩]) (fun j => if j = fl.length then i else ix j)) := HPK.out.snoc HG.out
        have HR2 : Hid (rowN (fl ++ [⟨mi, mp, mg, mk, mt, ma, mks⟩]) (fun j => ab (if j = fl.length then i else ix j)) (fun j => kb (if j = fl.length then i else ix j)) = rowN fl (fun j => ab (ix j)) (fun j => kb (ix j)) ++ cellsN ⟨mi, mp, mg, mk, mt, ma, mks⟩ (.slice aa ma.length ac) (.slice ka mks.length kc)) := by
          show _ = _
          rw [rowN_snoc]
          simp only [if_true]
          rw [HAB.out.1, HAB.out.2]
          congr 1
          refine rowN_congr fl fun j hj => ?_
          rw [if_neg (by omega)]
          exact ⟨rfl, rfl⟩
        clear HCC hc
        generalize rowN fl (fun j => ab (ix j)) (fun j => kb (ix j)) = rw0 at *
        go_wp2_with fail
        refine HCD.out.mono ?_
        rintro e w2 ⟨rfl, hb2⟩
        have X2 := (hb2.block _ (lt_of_block X1.out)).trans X1.out
        obtain ⟨y0, y1, y2, y3, y4, y5, y6⟩ := seven X2
        have BB2 : Below wr.heap.size wr (w2.alloc (.cells #[.int .i64 mi, .int .i64 mp, .string mg, .string mk, .string mt, .slice aa ma.length ac, .slice ka mks.length kc] 41)) := nxt (nxt (below_one _ _) hb2) (below_one _ _)
        have HOX : Hid ((w2.alloc (.cells #[.int .i64 mi, .int .i64 mp, .string mg, .string mk, .string mt, .slice aa ma.length ac, .slice ka mks.length kc] 41)).ownsRow w.heap.size 41 7 (.slice oa fl.length oc) fl.length rw0) := ownsRow_same HO.out fun g hg => BB2.block g (HO.out.lt g hg).2
        have HBX : Hid (Below w.heap.size w (w2.alloc (.cells #[.int .i64 mi, .int .i64 mp, .string mg, .string mk, .string mt, .slice aa ma.length ac, .slice ka mks.length kc] 41))) := nxt HB.out BB2
        have HNW : Hid (∀ j u, (cellsN ⟨mi, mp, mg, mk, mt, ma, mks⟩ (.slice aa ma.length ac) (.slice ka mks.length kc))[j]? = some u → (w2.alloc (.cells #[.int .i64 mi, .int .i64 mp, .string mg, .string mk, .string mt, .slice aa ma.length ac, .slice ka mks.length kc] 41)).cell? ((⟨w2.heap.size, 0, none⟩ : Addr).add j) = some u) := fun j u hj => newCells w2 _ _ j u (by rw [← Array.getElem?_toList]; exact hj)
        have HSZ : Hid ((fl.length + 1) * 112 ≤ 140737488355328 ∧ w.heap.size ≤ (w2.alloc (.cells #[.int .i64 mi, .int .i64 mp, .string mg, .string mk, .string mt, .slice aa ma.length ac, .slice ka mks.length kc] 41)).heap.size) := ⟨by have := HLE.out; omega, HBX.out.size⟩
        clear HO HB r0 r1 r2 r3 r4 r5 r6 X2 X1 hb2 BB2 HCD
        go_wp2_with (refine wpList_pushN _ rfl (.tmp 18) (.tmp 20) rfl w.heap.size _ fl.length rw0 rfl HOX.out ⟨mi, mp, mg, mk, mt, ma, mks⟩ aa ma.length ac ka mks.length kc ⟨w2.heap.size, 0, none⟩ 1 rfl HNW.out HSZ.out.1 HSZ.out.2 ?_; intro v' w' q1 q2 q3; have OO : Hid (w'.ownsRow w.heap.size 41 7 v' (fl.length + 1) (rw0 ++ cellsN ⟨mi, mp, mg, mk, mt, ma, mks⟩ (.slice aa ma.length ac) (.slice ka mks.length kc))) := q1; have BB : Hid (Below w.heap.size w w') := HBX.out.trans (grownB HOX.out q2 HSZ.out.2); clear q1 q2 q3)
        go_roundw
        case rel => exact ⟨i + 1, _, by omega, by go_num, by rw [HT.out]; exact HP2.out, by rw [HT.out, HR2.out, List.length_append]; exact OO.out, BB.out⟩
        case measure => simp [intOf]; omega
    · have HE : Hid (ns.take i = ns ∧ i = ns.length) := ⟨List.take_of_length_le (by omega), by omega⟩
      rw [HE.out.1] at HO HPK
      rw [HE.out.2] at HPK
      go_wp2_with fail
      go_ret
      exact ⟨_, ix, rfl, HPK.out, HO.out, HB.out⟩
end Go.Proofs.YtcdnakcojanaeabGreat

/-
  The program's takeAway (what a patch 3 does).
-/
namespace Go.Proofs.YtcdnakcojanaeabGreat
open Go.ChangeShapes Go.WideShapes Go.ChangeAt Go.RowKit Go.Deep Go.Maps Go.WideMaps
open Do

theorem OwnN.src {w : World} {B : Nat} {a : Option Addr} {l c : Nat} {ns : List Nd} {ab kb : Nat → Value} (h : OwnN w B (.slice a l c) ns ab kb) : SrcN w a ns ab kb := by
  intro i n hi
  obtain ⟨g, rfl, q0, q1, q2, q3, q4, q5, q6⟩ := rowN_cells h.row hi
  have hA := h.ats i n hi
  have hK := h.kids i n hi
  obtain ⟨aa, ac, ea⟩ := hA.shape
  obtain ⟨ka, kc, ek⟩ := hK.shape
  have hf := h.fit n (List.mem_of_getElem? hi)
  rw [ea] at q5 hA
  rw [ek] at q6 hK
  have hnm := hK.nm hf.kids.1 hf.kids.2
  refine ⟨g, 0, aa, ac, ka, kc, rfl, ?_, ea, ek⟩
  rw [Nat.zero_add]
  exact ⟨q0, q1, q2, q3, q4, q5, q6, ⟨hf.id, hf.par, hf.node, ⟨(cap_of_own hA).1, (cap_of_own hA).2, hf.node.2.2.2.1, none_of_own hA⟩, hnm.2.1, hnm.2.2.1, hnm.2.2.2.1, hnm.2.2.2.2.1, hnm.2.2.2.2.2⟩, hA.lay hf.atr, hnm.1⟩

/-- A map of one's own stays in what grows. -/
theorem mapBelow {w w' : World} {G m : Nat} {D : DataW Unit} (h : w.ownsMap Tryz.prog 3 unitElem G m D) (hb : Below w.heap.size w w') : w'.ownsMap Tryz.prog 3 unitElem G m D := h.kept (row := none) ⟨hb.os, hb.tape, hb.output, hb.size, fun j hj _ => hb.block j hj⟩ (by simp)

theorem mapSame {w w' : World} {G m : Nat} {D : DataW Unit} (h : w.ownsMap Tryz.prog 3 unitElem G m D) (hb : w'.heap[G]? = w.heap[G]?) : w'.ownsMap Tryz.prog 3 unitElem G m D := by
  obtain ⟨es, clock, h1, h2⟩ := h
  exact ⟨es, clock, hb.trans h1, h2⟩

/-- The end: the nodes that are left, in the variable. -/
theorem away_end {w w0 w7 : World} {B P b vc l0 : Nat} {ns : List Nd} {ab kb : Nat → Value} {L : List Int} {v' : Value} {ix : Nat → Nat} {root next : Int} {n0 : Value} (hO : OwnN w0 B (.slice (some ⟨b, 0, none⟩) l0 vc) ns ab kb) (hB : B ≤ w0.heap.size) (hBP : B ≤ P) (hP : w0.heap[P]? = some (.cells #[n0, .int .i64 root, .int .i64 next] 30 (0, 0)))
    (hpk : Pick ns ns.length (leftN ns L) ix) (hr : w7.ownsRow w0.heap.size 41 7 v' (leftN ns L).length (rowN (leftN ns L) (fun i => ab (ix i)) (fun i => kb (ix i)))) (hb : Below w0.heap.size w0 w7) (hw : Below B w w0) :
    DsAt (w7.setCell ⟨P, 0, none⟩ v') B P ⟨leftN ns L, root, next⟩ ∧ Below B w (w7.setCell ⟨P, 0, none⟩ v') := by
  have hP7 := (hb.block _ (lt_of_block hP)).trans hP
  have hPl := lt_of_block hP
  have o7 : OwnN w7 B v' (leftN ns L) (fun i => ab (ix i)) (fun i => kb (ix i)) := hO.pick hpk hb (own_less hr hB)
  have hne : ∀ j, footN v' (leftN ns L).length (fun i => ab (ix i)) (fun i => kb (ix i)) j → j ≠ P := fun j hj => o7.notState hP7 hj
  have o8 : OwnN (w7.setCell ⟨P, 0, none⟩ v') B v' (leftN ns L) (fun i => ab (ix i)) (fun i => kb (ix i)) := o7.same fun j hj => heap_set_other _ (hne j hj)
  have hb0 := hw.trans (hb.mono hB)
  refine ⟨⟨v', _, _, ?_, o8, hBP⟩, ⟨hb0.os, hb0.tape, hb0.output, by have := hb0.size; simpa [World.setCell] using this, fun j hj => (heap_set_other _ (by omega)).trans (hb0.block j hj)⟩⟩
  rw [set_one_cell hP7]
  simp

set_option maxRecDepth 100000 in
set_option maxHeartbeats 3200000 in
theorem away_any (s : Ds) (p : Pt) (B P : Nat) (w : World) (hs : DsAt w B P s) (hB : B ≤ w.heap.size) (hok : OkD s) :
    Calls Tryz.prog 41 #[.pointer (some ⟨P, 0, none⟩), mkP p] w fun e w' => PtPost w w' B P e (awayD s p) := by
  obtain ⟨v, ab, kb, hP, hO, hBP⟩ := hs
  obtain ⟨va, vc, hvs⟩ := hO.shape
  subst hvs
  have HO : Hid (OwnN w B (.slice va s.nodes.length vc) s.nodes ab kb) := hO
  have HP : Hid (w.heap[P]? = some (.cells #[.slice va s.nodes.length vc, .int .i64 s.root, .int .i64 s.next] 30 (0, 0))) := hP
  have HBP : Hid (B ≤ P) := hBP
  have HOK : Hid (OkD s) := hok
  have hn := hok.len
  have hPl : P < w.heap.size := lt_of_block hP
  have hmm := @run_makeMap Tryz.prog
  have HRT : Hid (-9223372036854775808 ≤ s.root ∧ s.root ≤ 9223372036854775807) := by
    show _ ∧ _
    rcases hok.root with h0 | ⟨m, h1, -⟩
    · omega
    · have h2 := nd_some h1
      have h3 := (hO.fit m h2.1).id
      rw [h2.2] at h3
      exact h3
  obtain ⟨ns, root, next⟩ := s
  obtain ⟨pw, pi, pp, pat, pg, pk, pt, pn, pv⟩ := p
  simp only at *
  clear hP hO hBP hok
  have HG : Hid (Do.Good ns) := HOK.out.good
  have KP : Hid (∀ W, Below w.heap.size w W → W.heap[P]? = some (.cells #[.slice va ns.length vc, .int .i64 root, .int .i64 next] 30 (0, 0))) := fun W hb => (hb.block _ hPl).trans HP.out
  have HSTAY : Hid (∀ W, Below w.heap.size w W → DsAt W B P ⟨ns, root, next⟩ ∧ Below B w W) := fun W hb => ⟨⟨_, ab, kb, KP.out W hb, HO.out.below hb, HBP.out⟩, hb.mono hB⟩
  have HFI : Hid (∀ W, Below w.heap.size w W → Calls Tryz.prog 54 #[.slice va ns.length vc, .int .i64 pi] W fun e w' => ∃ v, e = .returned v ∧ FindIs va ns pi v ∧ Below W.heap.size W w') := fun W hb => find_any ns pi va vc W (HO.out.below hb).lay HG.out.up hn
  obtain ⟨W1, hW1⟩ : ∃ W : World, W = w.alloc (.cells #[.int .i64 pw, .int .i64 pi, .int .i64 pp, .int .i64 pat, .string pg, .string pk, .string pt, .string pn, .string pv] 35) := ⟨_, rfl⟩
  have B1 : Hid (Below w.heap.size w W1) := by show Below _ _ _; rw [hW1]; exact below_one _ _
  have X1 : Hid (W1.heap[w.heap.size]? = some (.cells #[.int .i64 pw, .int .i64 pi, .int .i64 pp, .int .i64 pat, .string pg, .string pk, .string pt, .string pn, .string pv] 35 (0, 0))) := by show _ = _; rw [hW1]; exact heap_alloc_new _ _
  go_enter Tryz.func41, Tryz.ntmps41
  go_wp2_with fail
  rw [← hW1]
  clear hW1
  obtain ⟨-, y1, -, -, -, -, -, -, -⟩ := nine X1.out
  obtain ⟨p0, p1, p2⟩ := three (KP.out _ B1.out)
  have y1' : W1.drew.cell? ⟨w.heap.size, 1, none⟩ = some (.int .i64 pi) := y1
  have p0' : W1.drew.cell? ⟨P, 0, none⟩ = some (.slice va ns.length vc) := p0
  go_region_held3 (fun w' => w'.cell? ⟨w.heap.size, 1, none⟩ = some (.int .i64 pi) ∧ w'.cell? ⟨P, 0, none⟩ = some (.slice va ns.length vc)) (go_keep) ((go_at_call 54; refine (HFI.out W1.drew B1.out.drew).mono ?_; rintro e w2 ⟨fv, rfl, hfi, hb2⟩; have u1 := keepc hb2 _ _ y1'; have u0 := keepc hb2 _ _ p0'))
  have B2 : Hid (Below w.heap.size w w2) := nxt B1.out.drew hb2
  have X2 : Hid (w2.heap[w.heap.size]? = _) := (hb2.block _ (lt_of_block X1.out)).trans X1.out
  clear hb2 u1 u0 y1 p0 p1 p2 y1' p0' HFI
  unfold FindIs at hfi
  cases hp : pl ns pi with
  | none =>
    rw [hp] at hfi
    simp only at hfi
    subst hfi
    have HR : Hid (awayD ⟨ns, root, next⟩ ⟨pw, pi, pp, pat, pg, pk, pt, pn, pv⟩ = (71, ⟨ns, root, next⟩)) := by show _ = _; unfold awayD; simp only; rw [nd_none.2 hp]
    clear hp
    go_wp2_with fail
    go_ret
    rw [HR.out]
    exact ⟨rfl, HSTAY.out _ B2.out⟩
  | some q =>
    rw [hp] at hfi
    simp only at hfi
    obtain ⟨b, o, ha, rfl⟩ := hfi
    obtain ⟨m, hm1, hm2⟩ := pl_some hp
    have O2 : Hid (OwnN w2 B (.slice va ns.length vc) ns ab kb) := HO.out.below B2.out
    subst ha
    obtain ⟨g, hg, r0, r1, r2, r3, r4, r5, r6⟩ := rowN_cells O2.out.row hm1
    cases hg
    rw [Nat.zero_add]
    obtain ⟨mka, mkc, hmk⟩ := (O2.out.kids q m hm1).shape
    obtain ⟨maa, mac, hma⟩ := (O2.out.ats q m hm1).shape
    rw [hmk] at r6
    rw [hma] at r5
    have HND : Hid (nd ns pi = some m) := at_nd hp hm1
    have HRE : Hid (awayD ⟨ns, root, next⟩ ⟨pw, pi, pp, pat, pg, pk, pt, pn, pv⟩ = (0, ⟨leftN (offN ns m) (markL (offN ns m) (ns.length + 1) pi), if pi ≠ 0 ∧ root ∈ markL (offN ns m) (ns.length + 1) pi then 0 else root, next⟩)) := by show _ = _; unfold awayD; simp only; rw [HND.out]
    have HPI : Hid (pi ≠ 0) := by show pi ≠ 0; have := (HG.out.at HND.out).pos; omega
    have HDN : Hid (Down (offN ns m) (ns.length + 1) pi) := down_off HG.out.up m (HG.out.down HND.out (by omega))
    have HMI : Hid (m.id = pi) := hm2
    obtain ⟨p0, p1, p2⟩ := three (KP.out _ B2.out)
    have HTO : Hid (Calls Tryz.prog 69 #[.slice (some ⟨b, 0, none⟩) ns.length vc, mkN m.id m.par m.tag m.key m.txt maa m.ats.length mac mka m.kids.length mkc] w2.drew _) := takeOff_any ns m (some ⟨b, 0, none⟩) vc ab kb B maa m.ats.length mac mka m.kids.length mkc w2.drew (HO.out.below B2.out.drew) (Nat.le_trans hB B2.out.drew.size) HG.out.up hn (fun h => by obtain ⟨m1, e1, -⟩ := HG.out.par m (List.mem_of_getElem? hm1) h; obtain ⟨q1, e2, -⟩ := nd_at e1; exact ⟨q1, e2⟩)
    have p0' : w2.drew.cell? ⟨P, 0, none⟩ = some (.slice (some ⟨b, 0, none⟩) ns.length vc) := p0
    have c0' : w2.drew.cell? ⟨b, q * 7, none⟩ = some (.int .i64 m.id) := r0
    have c1' : w2.drew.cell? ⟨b, q * 7 + 1, none⟩ = some (.int .i64 m.par) := r1
    have c2' : w2.drew.cell? ⟨b, q * 7 + 2, none⟩ = some (.string m.tag) := r2
    have c3' : w2.drew.cell? ⟨b, q * 7 + 3, none⟩ = some (.string m.key) := r3
    have c4' : w2.drew.cell? ⟨b, q * 7 + 4, none⟩ = some (.string m.txt) := r4
    have c5' : w2.drew.cell? ⟨b, q * 7 + 5, none⟩ = some (.slice maa m.ats.length mac) := r5
    have c6' : w2.drew.cell? ⟨b, q * 7 + 6, none⟩ = some (.slice mka m.kids.length mkc) := r6
    have HPb : Hid (P ≠ b) := by
      show P ≠ b
      rintro rfl
      obtain ⟨cur, hcur⟩ := HO.out.rowBlock
      rw [HP.out] at hcur
      simp at hcur
    have HBb : Hid (B ≤ b ∧ b < w.heap.size) := HO.out.foot (b := b) (Or.inl rfl)
    clear r0 r1 r2 r3 r4 r5 r6 p0 p1 p2 hm1 hm2 hp hmk hma HSTAY
    go_wp2_with fail
    go_region_with (go_at_call 69; refine HTO.out.mono ?_; rintro e w3 ⟨rfl, h3, hk3⟩)
    all_goals (
      clear p0' c0' c1' c2' c3' c4' c5' c6' HTO
      obtain ⟨kb', h3, -⟩ := h3
      have O3 : Hid (OwnN w3 B (.slice (some ⟨b, 0, none⟩) ns.length vc) (offN ns m) ab kb') := h3
      have K3 : Hid (∀ j, j < w2.heap.size → j ≠ b → w3.heap[j]? = w2.heap[j]?) := fun j hj hne => hk3.block j hj (by intro h; simp only [Value.ownBlock, Option.some.injEq] at h; exact hne h.symm)
      have HW3 : Hid (Below B w w3) := by
        have h1 := B2.out.drew.mono hB
        exact h1.trans (hk3.low (by intro j h; simp only [Value.ownBlock, Option.some.injEq] at h; subst h; exact HBb.out.1) (Nat.le_trans hB B2.out.size))
      have X3 : Hid (w3.heap[w.heap.size]? = _) := (K3.out w.heap.size (lt_of_block X2.out) (Nat.ne_of_gt HBb.out.2)).trans X2.out
      have P3 : Hid (w3.heap[P]? = _) := (K3.out P (Nat.lt_of_lt_of_le hPl B2.out.size) HPb.out).trans (KP.out _ B2.out)
      have HS3 : Hid (w.heap.size < w3.heap.size) := lt_of_block X3.out
      clear h3 hk3
      have HL : Hid ((offN ns m).length = ns.length) := offN_length ns m
      have HUP : Hid (Up (offN ns m)) := off_up HG.out.up m
      clear O2 B2 X2 B1 X1 K3
      generalize offN ns m = ns' at *
      go_wp2_with fail
      obtain ⟨W4, hW4⟩ : ∃ W : World, W = (w3.alloc (.map #[] 0)).alloc (.cells #[.map (some w3.heap.size)] 98) := ⟨_, rfl⟩
      rw [← hW4]
      have B4 : Hid (Below w3.heap.size w3 W4) := by show Below _ _ _; rw [hW4]; exact two_new _ _ _
      have M4 : Hid (W4.ownsMap Tryz.prog 3 unitElem w3.heap.size 0 (Mz [])) := by show World.ownsMap _ _ _ _ _ _ _; rw [hW4]; exact (World.ownsMap_made _ _ _ _).alloc _
      have Q4 : Hid (W4.heap[w3.heap.size + 1]? = some (.cells #[.map (some w3.heap.size)] 98 (0, 0))) := by show _ = _; rw [hW4]; exact heap_new2 _ _ _
      clear hW4
      have O4 : Hid (OwnN W4 B (.slice (some ⟨b, 0, none⟩) ns.length vc) ns' ab kb') := O3.out.below B4.out
      have X4 : Hid (W4.heap[w.heap.size]? = _) := (B4.out.block _ (lt_of_block X3.out)).trans X3.out
      have P4 : Hid (W4.heap[P]? = _) := (B4.out.block _ (lt_of_block P3.out)).trans P3.out
      have HMK : Hid (Calls Tryz.prog 71 #[.map (some w3.heap.size), .slice (some ⟨b, 0, none⟩) ns.length vc, .int .i64 pi] W4.drew fun e w' => e = .returned (.tuple #[]) ∧ (∃ m', w'.ownsMap Tryz.prog 3 unitElem w3.heap.size m' (Mz (markL ns' (ns.length + 1) pi))) ∧ Kept (fun b => b = w3.heap.size) W4.drew w' ∧ CellsStay W4.drew w') := by
        have h := mark_any ns' (some ⟨b, 0, none⟩) vc HUP.out (by rw [HL.out]; exact hn) (ns.length + 1) pi w3.heap.size 0 [] W4.drew (O4.out.below (Below.refl _ W4).drew).lay HDN.out M4.out.drew (fun y hy => by cases hy)
        rw [HL.out] at h
        exact h
      have z0 := (cell_of Q4.out 0).1
      obtain ⟨-, y1, -, -, -, -, -, -, -⟩ := nine X4.out
      obtain ⟨p0, p1, p2⟩ := three P4.out
      have z0' : W4.drew.cell? ⟨w3.heap.size + 1, 0, none⟩ = some (.map (some w3.heap.size)) := z0
      have y1' : W4.drew.cell? ⟨w.heap.size, 1, none⟩ = some (.int .i64 pi) := y1
      have p0' : W4.drew.cell? ⟨P, 0, none⟩ = some (.slice (some ⟨b, 0, none⟩) ns.length vc) := p0
      clear z0 y1 p0 p1 p2
      go_region_held3 (fun w' => w'.cell? ⟨w3.heap.size + 1, 0, none⟩ = some (.map (some w3.heap.size)) ∧ w'.cell? ⟨w.heap.size, 1, none⟩ = some (.int .i64 pi) ∧ w'.cell? ⟨P, 0, none⟩ = some (.slice (some ⟨b, 0, none⟩) ns.length vc)) (go_keep) ((go_at_call 71; refine HMK.out.mono ?_; rintro e w5 ⟨rfl, hm5, hk5, hc5⟩; have u0 := hc5 _ _ z0'; have u1 := hc5 _ _ y1'; have u2 := hc5 _ _ p0'))
      obtain ⟨m5, hm5⟩ := hm5
      have M5 : Hid (w5.ownsMap Tryz.prog 3 unitElem w3.heap.size m5 (Mz (markL ns' (ns.length + 1) pi))) := hm5
      have K5 : Hid (∀ j, j < W4.heap.size → j ≠ w3.heap.size → w5.heap[j]? = W4.heap[j]?) := fun j hj hne => hk5.block j hj hne
      have O5 : Hid (OwnN w5 B (.slice (some ⟨b, 0, none⟩) ns.length vc) ns' ab kb') := O4.out.same fun j hj => K5.out j (O4.out.foot hj).2 (by have := (O3.out.foot hj).2; omega)
      have P5 : Hid (w5.heap[P]? = _) := (K5.out P (lt_of_block P4.out) (by have := lt_of_block P3.out; omega)).trans P4.out
      have Q5 : Hid (w5.heap[w3.heap.size + 1]? = _) := (K5.out _ (lt_of_block Q4.out) (by omega)).trans Q4.out
      have HW5 : Hid (Below B w w5) := by
        have h1 : Below B w W4 := HW3.out.trans (B4.out.mono (Nat.le_trans hB (Nat.le_of_lt HS3.out)))
        have h2 : Below B W4.drew w5 := hk5.low (by rintro j rfl; exact Nat.le_trans hB (Nat.le_of_lt HS3.out)) (Nat.le_trans (Nat.le_trans hB (Nat.le_of_lt HS3.out)) B4.out.size)
        exact h1.drew.trans h2
      have HS5 : Hid (w.heap.size < w5.heap.size) := Nat.lt_of_lt_of_le (Nat.lt_of_lt_of_le HS3.out B4.out.size) hk5.size
      have hkey : keyOf Tryz.prog 3 (.int .i64 root) = some (litZ root) := keyOf_int_mk Tryz.underlying3 (wfZ HRT.out)
      have HLK : Hid (∀ W, W.heap[w3.heap.size]? = w5.heap[w3.heap.size]? → Sem.run Tryz.prog (Instr.lookup 98 (.map (some w3.heap.size)) (.int .i64 root) true) W = .ok (.tuple #[.agg #[], .bool ((markL ns' (ns.length + 1) pi).contains root)]) W) := by
        intro W hW
        obtain ⟨v, ps, h1, h2⟩ := (mapSame M5.out hW).look_ok (P := Tryz.prog) (t := 98) (e := 100) lawInt Tryz.underlying98 (zeroUnitD W) unitElem_mk hkey
        obtain ⟨rfl, -⟩ := unitElem_inv h2
        rw [has_Mz] at h1
        exact h1
      clear hm5 hk5 hc5 u0 u1 u2 z0' y1' p0' HMK M4 Q4 O4 X4 P4 B4 O3 X3 P3 hkey
      obtain ⟨z5, -⟩ := cell_of Q5.out 0
      obtain ⟨p0, p1, p2⟩ := three P5.out
      have z5' : w5.drew.cell? ⟨w3.heap.size + 1, 0, none⟩ = some (.map (some w3.heap.size)) := z5
      have p1' : w5.drew.cell? ⟨P, 1, none⟩ = some (.int .i64 root) := p1
      have lk0 := HLK.out w5.drew rfl
      have lk1 := HLK.out (w5.alloc (.cells #[] 100)).drew ((below_one w5 _).block _ M5.out.lt)
      have z6' : (w5.alloc (.cells #[] 100)).drew.cell? ⟨w3.heap.size + 1, 0, none⟩ = some (.map (some w3.heap.size)) := keepc (below_one w5 _) _ _ z5
      have p6' : (w5.alloc (.cells #[] 100)).drew.cell? ⟨P, 1, none⟩ = some (.int .i64 root) := keepc (below_one w5 _) _ _ p1
      have HCB : Hid ((markL ns' (ns.length + 1) pi).contains root = (markL ns' (ns.length + 1) pi).contains root) := rfl
      clear HCB
      obtain ⟨L, hL⟩ : ∃ L, L = markL ns' (ns.length + 1) pi := ⟨_, rfl⟩
      rw [← hL] at lk0 lk1 HRE M5
      clear hL
      obtain ⟨bc, hbc⟩ : ∃ bc, bc = L.contains root := ⟨_, rfl⟩
      rw [← hbc] at lk0 lk1
      have HCB : Hid (bc = L.contains root) := hbc
      clear hbc HLK
      go_wp2_with fail
      generalize hw5 : w5 = wz at *
      go_region
      all_goals (
        have B6 : Hid (Below wz.heap.size wz (wz.alloc (.cells #[] 100)).drew) := (below_one wz _).drew
        clear z5 z5' p0 p1 p2 p1' z6' p6' lk0 lk1 hw5
        generalize (wz.alloc (.cells #[] 100)).drew = W6 at *
        have O6 : Hid (OwnN W6 B (.slice (some ⟨b, 0, none⟩) ns.length vc) ns' ab kb') := O5.out.below B6.out
        have P6 : Hid (W6.heap[P]? = _) := (B6.out.block _ (lt_of_block P5.out)).trans P5.out
        have Q6 : Hid (W6.heap[w3.heap.size + 1]? = _) := (B6.out.block _ (lt_of_block Q5.out)).trans Q5.out
        have M6 : Hid (W6.ownsMap Tryz.prog 3 unitElem w3.heap.size m5 (Mz L)) := mapBelow M5.out B6.out
        have HBZ : Hid (B ≤ wz.heap.size) := Nat.le_trans hB (Nat.le_of_lt HS5.out)
        have HW6 : Hid (Below B w W6) := HW5.out.trans (B6.out.mono HBZ.out)
        have HB6 : Hid (B ≤ W6.heap.size) := Nat.le_trans HBZ.out B6.out.size
        have HQP : Hid (w3.heap.size + 1 ≠ P ∧ w3.heap.size ≠ P) := by
          have := HS3.out
          exact ⟨by omega, by omega⟩
        clear O5 P5 Q5 M5 B6 HW5 HS5
        cases bc with
        | true =>
          have HRE' : Hid (awayD ⟨ns, root, next⟩ ⟨pw, pi, pp, pat, pg, pk, pt, pn, pv⟩ = (0, ⟨leftN ns' L, 0, next⟩)) := by
            show _ = _
            rw [HRE.out, if_pos ⟨HPI.out, List.contains_iff_mem.1 HCB.out.symm⟩]
          have O7 : Hid (OwnN (W6.setCell ⟨P, 1, none⟩ (.int .i64 0)) B (.slice (some ⟨b, 0, none⟩) ns.length vc) ns' ab kb') := O6.out.same fun j hj => heap_set_other _ (O6.out.notState P6.out hj)
          have P7 : Hid ((W6.setCell ⟨P, 1, none⟩ (.int .i64 0)).heap[P]? = some (.cells #[.slice (some ⟨b, 0, none⟩) ns.length vc, .int .i64 0, .int .i64 next] 30 (0, 0))) := by
            show _ = _
            rw [set_one_cell P6.out]
            simp
          have M7 : Hid ((W6.setCell ⟨P, 1, none⟩ (.int .i64 0)).ownsMap Tryz.prog 3 unitElem w3.heap.size m5 (Mz L)) := mapSame M6.out (heap_set_other _ HQP.out.2)
          have Q7 : Hid ((W6.setCell ⟨P, 1, none⟩ (.int .i64 0)).heap[w3.heap.size + 1]? = _) := (heap_set_other _ HQP.out.1).trans Q6.out
          have HW7 : Hid (Below B w (W6.setCell ⟨P, 1, none⟩ (.int .i64 0))) := by
            have h := HW6.out
            exact ⟨h.os, h.tape, h.output, by have := h.size; simpa [World.setCell] using this, fun j hj => (heap_set_other _ (by have := HBP.out; omega)).trans (h.block j hj)⟩
          have HB7 : Hid (B ≤ (W6.setCell ⟨P, 1, none⟩ (.int .i64 0)).heap.size) := by show B ≤ _; have := HB6.out; simpa [World.setCell] using this
          obtain ⟨q0, -, -⟩ := three P6.out
          obtain ⟨q1, q1f⟩ := cell_of P6.out 1
          go_wp2_with fail
          clear q0 q1 q1f
          generalize W6.setCell ⟨P, 1, none⟩ (.int .i64 0) = W7 at *
          obtain ⟨p0, p1, p2⟩ := three P7.out
          have z7 := (cell_of Q7.out 0).1
          have HWG : Hid (Calls Tryz.prog 61 #[.slice (some ⟨b, 0, none⟩) ns.length vc, .func (.func 72) #[] #[.pointer (some ⟨w3.heap.size + 1, 0, none⟩)]] W7 fun e w' => ∃ v ix, e = .returned v ∧ Pick ns' ns.length (leftN ns' L) ix ∧ w'.ownsRow W7.heap.size 41 7 v (leftN ns' L).length (rowN (leftN ns' L) (fun i => ab (ix i)) (fun i => kb' (ix i))) ∧ Below W7.heap.size W7 w') := by
            have h := withoutG_any ns' ab kb' L (w3.heap.size + 1) w3.heap.size m5 (some ⟨b, 0, none⟩) vc W7 O7.out.src (by rw [HL.out]; omega) z7 M7.out
            rw [HL.out] at h
            exact h
          go_wp2_with fail
          refine HWG.out.mono ?_
          rintro e w8 ⟨v8, ix, rfl, hpk, hr8, hb8⟩
          obtain ⟨a8, c8, hv8⟩ := slice_of_own hr8
          subst hv8
          have P8 := (hb8.block _ (lt_of_block P7.out)).trans P7.out
          obtain ⟨t0, t0f⟩ := cell_of P8 0
          rw [← HL.out] at hpk
          have HFIN : Hid (PtPost w (w8.setCell ⟨P, 0, none⟩ (.slice a8 (leftN ns' L).length c8)) B P (.returned (.int .i64 0)) (awayD ⟨ns, root, next⟩ ⟨pw, pi, pp, pat, pg, pk, pt, pn, pv⟩)) := by
            show PtPost _ _ _ _ _ _
            rw [HRE'.out]
            exact ⟨rfl, away_end O7.out HB7.out HBP.out P7.out hpk hr8 hb8 HW7.out⟩
          clear hpk hr8 hb8 P8 p0 p1 p2 z7 HWG
          go_wp2_with fail
          go_ret
          exact HFIN.out
        | false =>
          have HRE' : Hid (awayD ⟨ns, root, next⟩ ⟨pw, pi, pp, pat, pg, pk, pt, pn, pv⟩ = (0, ⟨leftN ns' L, root, next⟩)) := by
            show _ = _
            rw [HRE.out, if_neg]
            rintro ⟨-, h⟩
            rw [← List.contains_iff_mem, ← HCB.out] at h
            cases h
          obtain ⟨p0, p1, p2⟩ := three P6.out
          have z7 := (cell_of Q6.out 0).1
          have HWG : Hid (Calls Tryz.prog 61 #[.slice (some ⟨b, 0, none⟩) ns.length vc, .func (.func 72) #[] #[.pointer (some ⟨w3.heap.size + 1, 0, none⟩)]] W6 fun e w' => ∃ v ix, e = .returned v ∧ Pick ns' ns.length (leftN ns' L) ix ∧ w'.ownsRow W6.heap.size 41 7 v (leftN ns' L).length (rowN (leftN ns' L) (fun i => ab (ix i)) (fun i => kb' (ix i))) ∧ Below W6.heap.size W6 w') := by
            have h := withoutG_any ns' ab kb' L (w3.heap.size + 1) w3.heap.size m5 (some ⟨b, 0, none⟩) vc W6 O6.out.src (by rw [HL.out]; omega) z7 M6.out
            rw [HL.out] at h
            exact h
          go_wp2_with fail
          refine HWG.out.mono ?_
          rintro e w8 ⟨v8, ix, rfl, hpk, hr8, hb8⟩
          obtain ⟨a8, c8, hv8⟩ := slice_of_own hr8
          subst hv8
          have P8 := (hb8.block _ (lt_of_block P6.out)).trans P6.out
          obtain ⟨t0, t0f⟩ := cell_of P8 0
          rw [← HL.out] at hpk
          have HFIN : Hid (PtPost w (w8.setCell ⟨P, 0, none⟩ (.slice a8 (leftN ns' L).length c8)) B P (.returned (.int .i64 0)) (awayD ⟨ns, root, next⟩ ⟨pw, pi, pp, pat, pg, pk, pt, pn, pv⟩)) := by
            show PtPost _ _ _ _ _ _
            rw [HRE'.out]
            exact ⟨rfl, away_end O6.out HB6.out HBP.out P6.out hpk hr8 hb8 HW6.out⟩
          clear hpk hr8 hb8 P8 p0 p1 p2 z7 HWG
          go_wp2_with fail
          go_ret
          exact HFIN.out))
end Go.Proofs.YtcdnakcojanaeabGreat
