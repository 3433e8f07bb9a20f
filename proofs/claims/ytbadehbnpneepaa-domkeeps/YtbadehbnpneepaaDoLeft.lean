/-
  The program's without over nodes, by the function of takeAway: the nodes that are left.
-/
import Derived.Test.YtbadehbnpneepaaDoMark
namespace Go.Proofs.Ytbadehbnpneepaa
open Go.ChangeShapes Go.WideShapes Go.ChangeAt Go.RowKit Go.Deep Go.Maps Go.WideMaps
open Do

/-- Nodes picked out of others, in order: where each one was. -/
structure Pick (ns : List Nd) (m : Nat) (ls : List Nd) (ix : Nat → Nat) : Prop where
  at_ : ∀ i n, ls[i]? = some n → ns[ix i]? = some n ∧ ix i < m
  inj : ∀ i j, i < ls.length → j < ls.length → ix i = ix j → i = j

theorem Pick.nil (ns : List Nd) : Pick ns 0 [] (fun _ => 0) := ⟨fun i n h => by simp at h, fun i j h => by simp at h⟩
theorem Pick.mono {ns ls : List Nd} {m m' : Nat} {ix : Nat → Nat} (h : Pick ns m ls ix) (hm : m ≤ m') : Pick ns m' ls ix := ⟨fun i n hi => ⟨(h.at_ i n hi).1, by have := (h.at_ i n hi).2; omega⟩, h.inj⟩
theorem Pick.snoc {ns ls : List Nd} {m : Nat} {ix : Nat → Nat} (h : Pick ns m ls ix) {n : Nd} (hn : ns[m]? = some n) : Pick ns (m + 1) (ls ++ [n]) (fun i => if i = ls.length then m else ix i) := by
  have lt : ∀ i, i < ls.length → ix i < m := fun i hi => (h.at_ i ls[i] (List.getElem?_eq_getElem hi)).2
  refine ⟨fun i x hi => ?_, fun i j hi hj e => ?_⟩
  · by_cases e : i = ls.length
    · subst e
      simp only [if_true]
      rw [List.getElem?_append_right (Nat.le_refl _)] at hi
      simp at hi
      subst hi
      exact ⟨hn, by omega⟩
    · have hl : i < ls.length := by have := (List.getElem?_eq_some_iff.1 hi).1; simp at this; omega
      rw [List.getElem?_append_left hl] at hi
      simp only [if_neg e]
      exact ⟨(h.at_ i x hi).1, by have := (h.at_ i x hi).2; omega⟩
  · simp only [List.length_append, List.length_singleton] at hi hj
    by_cases e1 : i = ls.length <;> by_cases e2 : j = ls.length
    · omega
    · simp only [if_pos e1, if_neg e2] at e
      have := lt j (by omega)
      omega
    · simp only [if_neg e1, if_pos e2] at e
      have := lt i (by omega)
      omega
    · simp only [if_neg e1, if_neg e2] at e
      exact h.inj i j (by omega) (by omega) e

theorem OwnN.pick {w w' : World} {B : Nat} {v v' : Value} {ns ls : List Nd} {ab kb : Nat → Value} {m : Nat} {ix : Nat → Nat} (h : OwnN w B v ns ab kb) (hp : Pick ns m ls ix) (hb : Below w.heap.size w w') (hr : w'.ownsRow B 54 7 v' ls.length (rowN ls (fun i => ab (ix i)) (fun i => kb (ix i)))) :
    OwnN w' B v' ls (fun i => ab (ix i)) (fun i => kb (ix i)) := by
  have lt : ∀ i, i < ls.length → ix i < ns.length := fun i hi => (List.getElem?_eq_some_iff.1 (hp.at_ i ls[i] (List.getElem?_eq_getElem hi)).1).1
  refine ⟨hr, fun i n hi => (h.ats _ n (hp.at_ i n hi).1).below hb, fun i n hi => (h.kids _ n (hp.at_ i n hi).1).below hb, ?_, ?_, fun n hn => ?_⟩
  · intro i j g hi hj hij
    exact h.apa _ _ g (lt i hi) (lt j hj) fun e => hij (hp.inj i j hi hj e)
  · intro i j g hi hj hij
    exact h.apk _ _ g (lt i hi) (lt j hj) fun e => hij (hp.inj i j hi hj e)
  · obtain ⟨i, hi, rfl⟩ := List.getElem_of_mem hn
    exact h.fit _ (List.mem_of_getElem? (hp.at_ i ls[i] (List.getElem?_eq_getElem hi)).1)

theorem left_take {ns : List Nd} {L : List Int} {i : Nat} (h : i < ns.length) : leftN (ns.take (i + 1)) L = leftN (ns.take i) L ++ (if L.contains ns[i].id = true then [] else [ns[i]]) := by
  unfold leftN
  rw [List.take_succ_eq_append_getElem h, List.filter_append]
  congr 1
  rw [List.filter_cons, List.filter_nil]
  cases L.contains ns[i].id <;> rfl

set_option maxRecDepth 100000 in
set_option maxHeartbeats 800000 in
theorem goneN_any (x : Int) (c1 c2 c3 c4 c5 c6 : Value) (L : List Int) (Q G m : Nat) (w : World) (hx : -9223372036854775808 ≤ x ∧ x ≤ 9223372036854775807) (hQ : w.cell? ⟨Q, 0, none⟩ = some (.map (some G))) (hM : w.ownsMap Try.prog 3 unitElem G m (Mz L)) :
    Calls Try.prog 80 #[.agg #[.int .i64 x, c1, c2, c3, c4, c5, c6], .pointer (some ⟨Q, 0, none⟩)] w fun e w' => e = .returned (.bool (L.contains x)) ∧ Below w.heap.size w w' := by
  have hq := keepc (below_one w (.cells #[.int .i64 x, c1, c2, c3, c4, c5, c6] 54)) _ _ hQ
  have HM2 : Hid ((w.alloc (.cells #[.int .i64 x, c1, c2, c3, c4, c5, c6] 54)).ownsMap Try.prog 3 unitElem G m (Mz L)) := hM.alloc _
  have hkey : keyOf Try.prog 3 (.int .i64 x) = some (litZ x) := keyOf_int_mk Try.underlying3 (wfZ hx)
  have HH : Hid (Maps.has (Mz L) (litZ x) = L.contains x) := has_Mz L x
  clear hQ hM hx
  generalize hc : L.contains x = bc at *
  clear hc
  go_enter Try.func80, Try.ntmps80
  go_wp2_with (at_lookup; refine wpList_lookup_own_unit _ rfl _ _ 113 rfl 3 115 lawInt Try.underlying113 (zeroUnitD _) G m (Mz L) rfl HM2.out _ _ rfl hkey ?_; rw [HH.out])
  go_ret
  exact ⟨rfl, nxt (below_one _ _) (below_one _ _)⟩

set_option maxRecDepth 100000 in
set_option maxHeartbeats 1600000 in
theorem withoutG_any (ns : List Nd) (ab kb : Nat → Value) (L : List Int) (Q G m : Nat) (a : Option Addr) (c : Nat) (w : World) (hl : SrcN w a ns ab kb) (hln : ns.length * 112 ≤ 140737488351232) (hQ : w.cell? ⟨Q, 0, none⟩ = some (.map (some G))) (hM : w.ownsMap Try.prog 3 unitElem G m (Mz L)) :
    Calls Try.prog 71 #[.slice a ns.length c, .func (.func 80) #[] #[.pointer (some ⟨Q, 0, none⟩)]] w fun e w' => ∃ v ix, e = .returned v ∧ Pick ns ns.length (leftN ns L) ix ∧ w'.ownsRow w.heap.size 54 7 v (leftN ns L).length (rowN (leftN ns L) (fun i => ab (ix i)) (fun i => kb (ix i))) ∧ Below w.heap.size w w' := by
  have HL : Hid (SrcN w a ns ab kb) := hl
  have HC : Hid (∀ (W : World) (x : Int) (c1 c2 c3 c4 c5 c6 : Value), -9223372036854775808 ≤ x ∧ x ≤ 9223372036854775807 → Below w.heap.size w W → Calls Try.prog 80 #[.agg #[.int .i64 x, c1, c2, c3, c4, c5, c6], .pointer (some ⟨Q, 0, none⟩)] W fun e w' => e = .returned (.bool (L.contains x)) ∧ Below W.heap.size W w') := fun W x c1 c2 c3 c4 c5 c6 hx hb => goneN_any x c1 c2 c3 c4 c5 c6 L Q G m W hx (keepc hb _ _ hQ) (hM.kept (row := none) ⟨hb.os, hb.tape, hb.output, hb.size, fun j hj _ => hb.block j hj⟩ (by simp))
  clear hl hQ hM
  go_enter Try.func71, Try.ntmps71
  go_wp2_with fail
  go_loopw [5, 10] (fun v5 v10 wr => ∃ (i : Nat) (ix : Nat → Nat), i ≤ ns.length ∧ v10 = .int .i64 (i : Int) ∧ Hid (Pick ns i (leftN (ns.take i) L) ix) ∧ Hid (wr.ownsRow w.heap.size 54 7 v5 (leftN (ns.take i) L).length (rowN (leftN (ns.take i) L) (fun i => ab (ix i)) (fun i => kb (ix i)))) ∧ Hid (Below w.heap.size w wr)) (fun _ v10 _ => ns.length - (intOf v10).toNat)
  case atStart => exact ⟨0, fun _ => 0, Nat.zero_le _, rfl, Pick.nil _, World.ownsRow_nil _ _ _ _, Below.refl _ _⟩
  case round =>
    obtain ⟨i, ix, hi, rfl, HPK, HO, HB⟩ := hrel
    by_cases hlt : i < ns.length
    · obtain ⟨b, o, aa, ac, ka, kc, ha, hN, hab, hkb⟩ := HL.out.below HB.out i ns[i] (List.getElem?_eq_getElem hlt)
      subst ha
      obtain ⟨r0, r1, r2, r3, r4, r5, r6, hfit, -, -⟩ := hN
      have HT : Hid (leftN (ns.take (i + 1)) L = leftN (ns.take i) L ++ (if L.contains ns[i].id = true then [] else [ns[i]])) := left_take hlt
      have HLE : Hid ((leftN (ns.take i) L).length ≤ i) := by show _ ≤ _; refine Nat.le_trans (List.length_filter_le _ _) ?_; simp; omega
      have HG : Hid (ns[i]? = some ns[i]) := List.getElem?_eq_getElem hlt
      have HAB : Hid (ab i = .slice aa ns[i].ats.length ac ∧ kb i = .slice ka ns[i].kids.length kc) := ⟨hab, hkb⟩
      obtain ⟨oa, oc, hov⟩ := slice_of_own HO.out
      subst hov
      have hxr := hfit.id
      clear hab hkb hfit
      generalize leftN (ns.take i) L = fl at *
      generalize hm : ns[i] = mm at *
      clear hm
      obtain ⟨mi, mp, mg, mk, mt, ma, mks⟩ := mm
      simp only at *
      have X1 : Hid ((wr.alloc (.cells #[.int .i64 mi, .int .i64 mp, .string mg, .string mk, .string mt, .slice aa ma.length ac, .slice ka mks.length kc] 54)).heap[wr.heap.size]? = some (.cells #[.int .i64 mi, .int .i64 mp, .string mg, .string mk, .string mt, .slice aa ma.length ac, .slice ka mks.length kc] 54 (0, 0))) := heap_alloc_new _ _
      have HCC := HC.out (wr.alloc (.cells #[.int .i64 mi, .int .i64 mp, .string mg, .string mk, .string mt, .slice aa ma.length ac, .slice ka mks.length kc] 54)) mi (.int .i64 mp) (.string mg) (.string mk) (.string mt) (.slice aa ma.length ac) (.slice ka mks.length kc) hxr (nxt HB.out (below_one _ _))
      clear hxr
      cases hc : L.contains mi with
      | true =>
        rw [hc] at HCC HT
        simp only [if_true, List.append_nil] at HT
        have HCD : Hid (Calls Try.prog 80 #[.agg #[.int .i64 mi, .int .i64 mp, .string mg, .string mk, .string mt, .slice aa ma.length ac, .slice ka mks.length kc], .pointer (some ⟨Q, 0, none⟩)] (wr.alloc (.cells #[.int .i64 mi, .int .i64 mp, .string mg, .string mk, .string mt, .slice aa ma.length ac, .slice ka mks.length kc] 54)) _) := HCC
        clear HCC hc
        go_wp2_with fail
        refine HCD.out.mono ?_
        rintro e w2 ⟨rfl, hb2⟩
        have BB : Hid (Below w.heap.size w w2) := nxt HB.out (nxt (below_one _ _) hb2)
        have OO : Hid (w2.ownsRow w.heap.size 54 7 (.slice oa fl.length oc) fl.length (rowN fl (fun i => ab (ix i)) (fun i => kb (ix i)))) := ownsRow_same HO.out fun g hg => (nxt (below_one wr _) hb2).block g (HO.out.lt g hg).2
        clear HO HB r0 r1 r2 r3 r4 r5 r6 X1 hb2 HCD
        go_wp2_with fail
        go_roundw
        case rel => exact ⟨i + 1, ix, by omega, by go_num, by rw [HT.out]; exact HPK.out.mono (Nat.le_succ _), by rw [HT.out]; exact OO.out, BB.out⟩
        case measure => simp [intOf]; omega
      | false =>
        rw [hc] at HCC HT
        simp only [Bool.false_eq_true, if_false] at HT
        have HCD : Hid (Calls Try.prog 80 #[.agg #[.int .i64 mi, .int .i64 mp, .string mg, .string mk, .string mt, .slice aa ma.length ac, .slice ka mks.length kc], .pointer (some ⟨Q, 0, none⟩)] (wr.alloc (.cells #[.int .i64 mi, .int .i64 mp, .string mg, .string mk, .string mt, .slice aa ma.length ac, .slice ka mks.length kc] 54)) _) := HCC
        have HP2 : Hid (Pick ns (i + 1) (fl ++ [⟨mi, mp, mg, mk, mt, ma, mks⟩]) (fun j => if j = fl.length then i else ix j)) := HPK.out.snoc HG.out
        have HR2 : Hid (rowN (fl ++ [⟨mi, mp, mg, mk, mt, ma, mks⟩]) (fun j => ab (if j = fl.length then i else ix j)) (fun j => kb (if j = fl.length then i else ix j)) = rowN fl (fun j => ab (ix j)) (fun j => kb (ix j)) ++ cellsN ⟨mi, mp, mg, mk, mt, ma, mks⟩ (.slice aa ma.length ac) (.slice ka mks.length kc)) := by
          show _ = _
          rw [rowN_snoc]
          simp only [if_true]
          rw [HAB.out.1, HAB.out.2]
          congr 1
          refine rowN_congr fl fun j hj => ?_
          rw [if_neg (by omega)]
          exact ⟨rfl, rfl⟩
        clear HCC hc
        generalize rowN fl (fun j => ab (ix j)) (fun j => kb (ix j)) = rw0 at *
        go_wp2_with fail
        refine HCD.out.mono ?_
        rintro e w2 ⟨rfl, hb2⟩
        have X2 := (hb2.block _ (lt_of_block X1.out)).trans X1.out
        obtain ⟨y0, y1, y2, y3, y4, y5, y6⟩ := seven X2
        have BB2 : Below wr.heap.size wr (w2.alloc (.cells #[.int .i64 mi, .int .i64 mp, .string mg, .string mk, .string mt, .slice aa ma.length ac, .slice ka mks.length kc] 54)) := nxt (nxt (below_one _ _) hb2) (below_one _ _)
        have HOX : Hid ((w2.alloc (.cells #[.int .i64 mi, .int .i64 mp, .string mg, .string mk, .string mt, .slice aa ma.length ac, .slice ka mks.length kc] 54)).ownsRow w.heap.size 54 7 (.slice oa fl.length oc) fl.length rw0) := ownsRow_same HO.out fun g hg => BB2.block g (HO.out.lt g hg).2
        have HBX : Hid (Below w.heap.size w (w2.alloc (.cells #[.int .i64 mi, .int .i64 mp, .string mg, .string mk, .string mt, .slice aa ma.length ac, .slice ka mks.length kc] 54))) := nxt HB.out BB2
        have HNW : Hid (∀ j u, (cellsN ⟨mi, mp, mg, mk, mt, ma, mks⟩ (.slice aa ma.length ac) (.slice ka mks.length kc))[j]? = some u → (w2.alloc (.cells #[.int .i64 mi, .int .i64 mp, .string mg, .string mk, .string mt, .slice aa ma.length ac, .slice ka mks.length kc] 54)).cell? ((⟨w2.heap.size, 0, none⟩ : Addr).add j) = some u) := fun j u hj => newCells w2 _ _ j u (by rw [← Array.getElem?_toList]; exact hj)
        have HSZ : Hid ((fl.length + 1) * 112 ≤ 140737488355328 ∧ w.heap.size ≤ (w2.alloc (.cells #[.int .i64 mi, .int .i64 mp, .string mg, .string mk, .string mt, .slice aa ma.length ac, .slice ka mks.length kc] 54)).heap.size) := ⟨by have := HLE.out; omega, HBX.out.size⟩
        clear HO HB r0 r1 r2 r3 r4 r5 r6 X2 X1 hb2 BB2 HCD
        go_wp2_with (refine wpList_pushN _ rfl (.tmp 18) (.tmp 20) rfl w.heap.size _ fl.length rw0 rfl HOX.out ⟨mi, mp, mg, mk, mt, ma, mks⟩ aa ma.length ac ka mks.length kc ⟨w2.heap.size, 0, none⟩ 1 rfl HNW.out HSZ.out.1 HSZ.out.2 ?_; intro v' w' q1 q2 q3; have OO : Hid (w'.ownsRow w.heap.size 54 7 v' (fl.length + 1) (rw0 ++ cellsN ⟨mi, mp, mg, mk, mt, ma, mks⟩ (.slice aa ma.length ac) (.slice ka mks.length kc))) := q1; have BB : Hid (Below w.heap.size w w') := HBX.out.trans (grownB HOX.out q2 HSZ.out.2); clear q1 q2 q3)
        go_roundw
        case rel => exact ⟨i + 1, _, by omega, by go_num, by rw [HT.out]; exact HP2.out, by rw [HT.out, HR2.out, List.length_append]; exact OO.out, BB.out⟩
        case measure => simp [intOf]; omega
    · have HE : Hid (ns.take i = ns ∧ i = ns.length) := ⟨List.take_of_length_le (by omega), by omega⟩
      rw [HE.out.1] at HO HPK
      rw [HE.out.2] at HPK
      go_wp2_with fail
      go_ret
      exact ⟨_, ix, rfl, HPK.out, HO.out, HB.out⟩
end Go.Proofs.Ytbadehbnpneepaa
