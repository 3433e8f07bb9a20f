/-
  The program's mark: a map of numbers of one's own; a node's number and all below it are put into it.
-/
import Derived.Test.YtbadehbnpneepaaDoMarkM
import Derived.Maps.OwnSet
import Derived.Maps.AppendAt
namespace Go.Proofs.Ytbadehbnpneepaa
open Go.ChangeShapes Go.WideShapes Go.ChangeAt Go.RowKit Go.Deep Go.Maps Go.WideMaps
open Do

/-- All cells that are there stay. -/
def CellsStay (w w' : World) : Prop := ∀ ad v, w.cell? ad = some v → w'.cell? ad = some v

theorem CellsStay.of_below {w w' : World} (h : Below w.heap.size w w') : CellsStay w w' := fun ad v hv => keepc h ad v hv
theorem CellsStay.trans {a b c : World} (h : CellsStay a b) (k : CellsStay b c) : CellsStay a c := fun ad v hv => k ad v (h ad v hv)

theorem LayA.stay {w w' : World} {a : Option Addr} {l : List Atr} (h : LayA w a l) (hc : CellsStay w w') : LayA w' a l := by
  intro i s hi
  obtain ⟨b, o, h1, h2, h3, h4⟩ := h i s hi
  exact ⟨b, o, h1, hc _ _ h2, hc _ _ h3, h4⟩
theorem LayZ.stay {w w' : World} {a : Option Addr} {l : List Int} (h : LayZ w a l) (hc : CellsStay w w') : LayZ w' a l := by
  intro i s hi
  obtain ⟨b, o, h1, h2, h3⟩ := h i s hi
  exact ⟨b, o, h1, hc _ _ h2, h3⟩
theorem NdAt.stay {w w' : World} {b o : Nat} {n : Nd} {aa : Option Addr} {ac : Nat} {ka : Option Addr} {kc : Nat} (h : NdAt w b o n aa ac ka kc) (hc : CellsStay w w') : NdAt w' b o n aa ac ka kc :=
  ⟨hc _ _ h.c0, hc _ _ h.c1, hc _ _ h.c2, hc _ _ h.c3, hc _ _ h.c4, hc _ _ h.c5, hc _ _ h.c6, h.fit, h.ats.stay hc, h.kids.stay hc⟩
theorem LayN.stay {w w' : World} {a : Option Addr} {ns : List Nd} (h : LayN w a ns) (hc : CellsStay w w') : LayN w' a ns := by
  intro i n hi
  obtain ⟨b, o, aa, ac, ka, kc, h1, h2⟩ := h i n hi
  exact ⟨b, o, aa, ac, ka, kc, h1, h2.stay hc⟩

theorem lawInt : Keyed Try.prog 3 := int_keyed Try.underlying3
theorem zeroUnitD (w : World) : (zeroValue 115).run Try.prog w = .ok (.agg #[]) w := by kernel_rfl

def litZ (x : Int) : Lit := .int .i64 x
theorem wfZ {x : Int} (h : -9223372036854775808 ≤ x ∧ x ≤ 9223372036854775807) : (Lit.int .i64 x).wf = true := by
  have e1 : IntKind.i64.min = -9223372036854775808 := by decide
  have e2 : IntKind.i64.max = 9223372036854775807 := by decide
  simp only [Lit.wf, e1, e2]
  simp
  omega
/-- A set of numbers, as the map that it is. -/
def Mz (l : List Int) : DataW Unit := setOf (.agg []) (l.map litZ)

theorem litZ_key (x : Int) : WideAt.IsKeyLit (litZ x) := by simp [litZ, WideAt.IsKeyLit]
theorem keys_Mz (l : List Int) : ∀ y ∈ l.map litZ, WideAt.IsKeyLit y := fun y hy => by obtain ⟨z, -, rfl⟩ := List.mem_map.1 hy; exact litZ_key z

theorem litZ_inj {x y : Int} (h : litZ x = litZ y) : x = y := by simpa [litZ] using h

theorem has_Mz (l : List Int) (x : Int) : Maps.has (Mz l) (litZ x) = l.contains x := by
  unfold Mz
  rw [has_setOf _ _ _ (keys_Mz l), List.any_map, ← List.any_beq']
  congr 1
  funext y
  have h := WideAt.sameKey_iff (a := litZ y) (litZ_key x)
  simp only [Function.comp]
  by_cases e : y = x
  · subst e
    rw [h.2 rfl]
    simp
  · have h1 : (litZ y).sameKey (litZ x) = false := by
      cases hs : (litZ y).sameKey (litZ x) with
      | false => rfl
      | true => exact absurd (litZ_inj (h.1 hs)) e
    rw [h1]
    simp [e]

theorem Mz_snoc (l : List Int) (x : Int) : Mz (l ++ [x]) = (Mz l).put (litZ x) (.agg []) := by
  unfold Mz
  rw [List.map_append]
  exact setOf_snoc _ _ _

theorem addKeys {S : List Lit} (hS : ∀ y ∈ S, WideAt.IsKeyLit y) : ∀ (xs acc : List Lit), (∀ y ∈ xs, y ∈ S) → acc.Nodup → (∀ y ∈ acc, y ∈ S) → (xs.foldl Maps.addKey acc).Nodup ∧ ∀ y ∈ xs.foldl Maps.addKey acc, y ∈ S
  | [], acc, _, h1, h2 => ⟨h1, h2⟩
  | x :: r, acc, hx, h1, h2 => by
    rw [List.foldl_cons]
    refine addKeys hS r _ (fun y hy => hx y (by simp [hy])) ?_ ?_
    · unfold Maps.addKey
      split
      · exact h1
      · rename_i hany
        rw [List.nodup_append]
        refine ⟨h1, by simp, fun a ha b hb => ?_⟩
        rw [List.mem_singleton] at hb
        subst hb
        rintro rfl
        exact hany (List.any_eq_true.2 ⟨a, ha, WideAt.sameKey_self (hS a (hx a (by simp)))⟩)
    · unfold Maps.addKey
      split
      · exact h2
      · intro y hy
        rcases List.mem_append.1 hy with hy | hy
        · exact h2 y hy
        · rw [List.mem_singleton] at hy
          subst hy
          exact hx y (by simp)

theorem size_Mz {l ids : List Int} (h : ∀ x ∈ l, x ∈ ids) : Maps.size (Mz l) ≤ ids.length := by
  unfold Mz
  rw [size_setOf _ _ (keys_Mz l)]
  haveI : DecidableEq Lit := fun _ _ => Classical.propDecidable _
  have h1 := addKeys (S := ids.map litZ) (keys_Mz ids) (l.map litZ) [] (fun y hy => by obtain ⟨z, hz, rfl⟩ := List.mem_map.1 hy; exact List.mem_map.2 ⟨z, h z hz, rfl⟩) List.nodup_nil (fun y hy => by cases hy)
  have := nodup_sub h1.1 h1.2
  rwa [List.length_map] at this

/-- A map of numbers that are all among few has few entries. -/
theorem tightZ {w : World} {G m : Nat} {l ids : List Int} (h : w.ownsMap Try.prog 3 unitElem G m (Mz l)) (hs : ∀ x ∈ l, x ∈ ids) (hn : ids.length ≤ 1024) : w.ownsMap Try.prog 3 unitElem G 1024 (Mz l) := by
  have hz := size_Mz hs
  obtain ⟨es, clock, hb, F, -, hD⟩ := h
  refine ⟨es, clock, hb, F, ?_, hD⟩
  have e : Maps.size (Mz l) = es.size := by rw [hD]; simp [Maps.size, length_sorted]
  omega

/-- A map's block has no cells: what grows by it leaves all cells as they are. -/
theorem CellsStay.of_map {w w' : World} {G m : Nat} {D : DataW Unit} (h : w.ownsMap Try.prog 3 unitElem G m D) (hg : w.grownBy w' (some G)) : CellsStay w w' := by
  obtain ⟨es, clock, hb, -⟩ := h
  intro ad v hv
  have hlt := lt_of_cell hv
  have hne : ad.block ≠ G := by
    rintro rfl
    simp [World.cell?, hb] at hv
  rw [World.cell?_of_block (hg.block ad.block hlt (by simpa using hne))]
  exact hv

theorem mark_flat {ns : List Nd} {k i : Nat} {ks : List Int} (h : i < ks.length) : (ks.take (i + 1)).flatMap (markL ns k) = (ks.take i).flatMap (markL ns k) ++ markL ns k ks[i] := by
  rw [List.take_succ_eq_append_getElem h, List.flatMap_append]
  simp

theorem mark_ids {ns : List Nd} : ∀ {k : Nat} {x : Int}, Down ns k x → ∀ y ∈ markL ns k x, y ∈ ns.map Nd.id
  | 0, _, h, _, _ => h.elim
  | k + 1, x, h, y, hy => by
    obtain ⟨n, h1, h2⟩ := h
    simp only [markL, List.mem_cons, List.mem_flatMap] at hy
    rw [kidsOf_some h1] at hy
    rcases hy with rfl | ⟨c, hc, hy⟩
    · have := nd_some h1
      exact List.mem_map.2 ⟨n, this.1, this.2⟩
    · exact mark_ids (h2 c hc) y hy

set_option maxRecDepth 100000 in
set_option maxHeartbeats 1600000 in
theorem mark_any (ns : List Nd) (va : Option Addr) (vc : Nat) (hu : Up ns) (hn : ns.length ≤ 1024) : ∀ (k : Nat) (x : Int) (G m : Nat) (l : List Int) (w : World), LayN w va ns → Down ns k x → w.ownsMap Try.prog 3 unitElem G m (Mz l) → (∀ y ∈ l, y ∈ ns.map Nd.id) →
    Calls Try.prog 79 #[.map (some G), .slice va ns.length vc, .int .i64 x] w fun e w' => e = .returned (.tuple #[]) ∧ (∃ m', w'.ownsMap Try.prog 3 unitElem G m' (Mz (l ++ markL ns k x))) ∧ Kept (fun b => b = G) w w' ∧ CellsStay w w'
  | 0, _, _, _, _, _, _, h, _, _ => h.elim
  | k + 1, x, G, m, l, w, hL, hd, hM, hl => by
    have HK : Hid (∀ (y : Int) (m : Nat) (l : List Int) (W : World), LayN W va ns → Down ns k y → W.ownsMap Try.prog 3 unitElem G m (Mz l) → (∀ y ∈ l, y ∈ ns.map Nd.id) → Calls Try.prog 79 #[.map (some G), .slice va ns.length vc, .int .i64 y] W fun e w' => e = .returned (.tuple #[]) ∧ (∃ m', w'.ownsMap Try.prog 3 unitElem G m' (Mz (l ++ markL ns k y))) ∧ Kept (fun b => b = G) W w' ∧ CellsStay W w') := fun y m l W => mark_any ns va vc hu hn k y G m l W
    obtain ⟨n, h1, h2⟩ := hd
    obtain ⟨q, hq, hqn⟩ := nd_at h1
    have hnd := nd_some h1
    have HID : Hid (x ∈ ns.map Nd.id) := List.mem_map.2 ⟨n, hnd.1, hnd.2⟩
    have HM : Hid (w.ownsMap Try.prog 3 unitElem G 1024 (Mz l)) := tightZ hM hl (by simpa using hn)
    have HL : Hid (LayN w va ns) := hL
    have HDN : Hid (∀ y ∈ n.kids, Down ns k y) := h2
    have HMK : Hid (markL ns (k + 1) x = x :: n.kids.flatMap (markL ns k)) := by show _ = _; simp only [markL]; rw [kidsOf_some h1]
    have HFI : Hid (∀ W, LayN W va ns → Calls Try.prog 48 #[.slice va ns.length vc, .int .i64 x] W fun e w' => ∃ v, e = .returned v ∧ FindIs va ns x v ∧ Below W.heap.size W w') := fun W hb => find_any ns x va vc W hb hu hn
    have HIN : Hid (∀ y ∈ l, y ∈ ns.map Nd.id) := hl
    obtain ⟨b0, o0, aa0, ac0, ka0, kc0, hva, hN0⟩ := hL q n hqn
    have hfit := hN0.fit
    have hx64 : -9223372036854775808 ≤ x ∧ x ≤ 9223372036854775807 := by rw [← hnd.2]; exact hfit.id
    have hkey : keyOf Try.prog 3 (.int .i64 x) = some (litZ x) := keyOf_int_mk Try.underlying3 (wfZ hx64)
    have hmx : 1024 < maxLen := by unfold maxLen; omega
    have HQ : Hid (ns[q]? = some n ∧ pl ns x = some q) := ⟨hqn, hq⟩
    have hkl : n.kids.length * 8 ≤ 140737488351232 := hfit.kids.2.2.1
    clear hL hM hl h1 h2 hq hqn hnd hN0 hfit hx64 hva hu hn
    go_enter Try.func79, Try.ntmps79
    go_wp2_with (at_mapUpdate; refine wpList_mapUpdate_own _ rfl _ _ _ 113 rfl 3 115 lawInt Try.underlying113 (unitElem (H := Unit)) G 1024 (Mz l) rfl HM.out hmx _ _ _ rfl rfl hkey _ [] unitElem_mk ?_; intro w1 hown1 hgrow1; have HM1 : Hid (w1.ownsMap Try.prog 3 unitElem G (1024 + 1) (Mz (l ++ [x]))) := (by show World.ownsMap _ _ _ _ _ _ _; rw [Mz_snoc]; exact hown1); have HK1 : Hid (Kept (fun b => b = G) w w1 ∧ CellsStay w w1) := ⟨⟨hgrow1.os, hgrow1.tape, hgrow1.output, hgrow1.size, fun j hj hn => hgrow1.block j hj (by simpa using hn)⟩, CellsStay.of_map HM.out hgrow1⟩; clear hown1 hgrow1)
    refine (HFI.out w1 (HL.out.stay HK1.out.2)).mono ?_
    rintro e w2 ⟨fv, rfl, hfi, hb2⟩
    unfold FindIs at hfi
    rw [HQ.out.2] at hfi
    simp only at hfi
    obtain ⟨b, o, ha, rfl⟩ := hfi
    have HK2 : Hid (Kept (fun b => b = G) w w2 ∧ CellsStay w w2) := ⟨HK1.out.1.trans (Kept.of_below hb2), HK1.out.2.trans (CellsStay.of_below hb2)⟩
    have HM2 : Hid (w2.ownsMap Try.prog 3 unitElem G (1024 + 1) (Mz (l ++ [x]))) := HM1.out.kept (row := none) ⟨hb2.os, hb2.tape, hb2.output, hb2.size, fun j hj _ => hb2.block j hj⟩ (by simp)
    obtain ⟨b', o', aa, ac, ka, kc, ha', hN⟩ := HL.out.stay HK2.out.2 q n HQ.out.1
    rw [ha] at ha'
    cases ha'
    have r6 := hN.c6
    have HLZ : Hid (LayZ w2 ka n.kids) := hN.kids
    subst ha
    clear hN hb2 HM1 HK1 HM HFI
    generalize n.kids = ks at *
    go_wp2_with fail
    go_loopw [18] (fun v18 wr => ∃ i : Nat, i ≤ ks.length ∧ v18 = .int .i64 (i : Int) ∧ Hid (∃ m', wr.ownsMap Try.prog 3 unitElem G m' (Mz (l ++ [x] ++ (ks.take i).flatMap (markL ns k)))) ∧ Hid (Kept (fun b => b = G) w wr ∧ CellsStay w2 wr)) (fun v18 _ => ks.length - (intOf v18).toNat)
    case atStart => exact ⟨0, Nat.zero_le _, rfl, ⟨_, by simpa using HM2.out⟩, HK2.out.1, fun ad v h => h⟩
    case round =>
      obtain ⟨i, hi, rfl, HO, HB⟩ := hrel
      by_cases hlt : i < ks.length
      · obtain ⟨b1, o1, ha1, r1, _⟩ := HLZ.out.stay HB.out.2 i ks[i] (List.getElem?_eq_getElem hlt)
        subst ha1
        have HD1 : Hid (Down ns k ks[i]) := HDN.out _ (List.getElem_mem hlt)
        have HT : Hid ((ks.take (i + 1)).flatMap (markL ns k) = (ks.take i).flatMap (markL ns k) ++ markL ns k ks[i]) := mark_flat hlt
        have HI1 : Hid (∀ y ∈ l ++ [x] ++ (ks.take i).flatMap (markL ns k), y ∈ ns.map Nd.id) := by
          intro y hy
          rcases List.mem_append.1 hy with hy | hy
          · rcases List.mem_append.1 hy with hy | hy
            · exact HIN.out y hy
            · rw [List.mem_singleton] at hy
              subst hy
              exact HID.out
          · obtain ⟨c, hc, hy⟩ := List.mem_flatMap.1 hy
            exact mark_ids (HDN.out c (List.mem_of_mem_take hc)) y hy
        obtain ⟨m', hm'⟩ := HO.out
        have HCC : Hid (Calls Try.prog 79 #[.map (some G), .slice (some ⟨b, o, none⟩) ns.length vc, .int .i64 ks[i]] wr _) := HK.out ks[i] m' _ wr (HL.out.stay (HK2.out.2.trans HB.out.2)) HD1.out hm' HI1.out
        clear hm' HD1 HI1
        generalize hfl : (ks.take i).flatMap (markL ns k) = fl at *
        generalize ks[i] = y at *
        clear hfl
        go_wp2_with (go_at_call 79; refine HCC.out.mono ?_; rintro e w3 ⟨rfl, hm3, hk3, hc3⟩; have HM3 : Hid (∃ m', w3.ownsMap Try.prog 3 unitElem G m' (Mz (l ++ [x] ++ fl ++ markL ns k y))) := hm3; have HK3 : Hid (Kept (fun b => b = G) w w3 ∧ CellsStay w2 w3) := ⟨HB.out.1.trans hk3, HB.out.2.trans hc3⟩; clear hm3 hk3 hc3)
        go_roundw
        case rel => exact ⟨i + 1, by omega, by go_num, by rw [HT.out, ← List.append_assoc]; exact HM3.out, HK3.out⟩
        case measure => simp [intOf]; omega
      · have HE : Hid (ks.take i = ks) := List.take_of_length_le (by omega)
        rw [HE.out] at HO
        have HFIN : Hid (∃ m', wr.ownsMap Try.prog 3 unitElem G m' (Mz (l ++ markL ns (k + 1) x))) := by
          show ∃ m', _
          rw [HMK.out]
          have := HO.out
          rwa [List.append_assoc] at this
        go_wp2_with fail
        go_end0
        exact ⟨rfl, HFIN.out, HB.out.1, HK2.out.2.trans HB.out.2⟩
end Go.Proofs.Ytbadehbnpneepaa
