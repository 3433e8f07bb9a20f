/-
  The program's without over attributes, by the function of unset.
-/
import Derived.Test.YtbadehbnpneepaaDoAtt
namespace Go.Proofs.Ytbadehbnpneepaa
open Go.ChangeShapes Go.WideShapes Go.ChangeAt Go.RowKit Go.Deep
open Do

/-- Attributes without those of a name. -/
def lessA (l : List Atr) (t : ByteArray) : List Atr := l.filter fun s => !(s.1.toList == t.toList)

set_option maxRecDepth 100000 in
theorem goneA_any (xn xv t : ByteArray) (Q : Nat) (w : World) (hQ : w.cell? ⟨Q, 7, none⟩ = some (.string t)) :
    Calls Try.prog 84 #[.agg #[.string xn, .string xv], .pointer (some ⟨Q, 0, none⟩)] w fun e w' => e = .returned (.bool (xn.toList == t.toList)) ∧ Below w.heap.size w w' := by
  have hq := keepc (below_one w (.cells #[.string xn, .string xv] 90)) _ _ hQ
  go_enter Try.func84, Try.ntmps84
  go_wp2_with fail
  go_ret
  exact ⟨rfl, below_one _ _⟩

set_option maxRecDepth 100000 in
set_option maxHeartbeats 1600000 in
theorem withoutU_any (ats : List Atr) (t : ByteArray) (Q : Nat) (a : Option Addr) (c : Nat) (w : World) (hl : LayA w a ats) (hQ : w.cell? ⟨Q, 7, none⟩ = some (.string t)) (hln : ats.length * 32 ≤ 140737488351232) :
    Calls Try.prog 68 #[.slice a ats.length c, .func (.func 84) #[] #[.pointer (some ⟨Q, 0, none⟩)]] w fun e w' => ∃ v, e = .returned v ∧ OwnA w' w.heap.size v (lessA ats t) ∧ Below w.heap.size w w' := by
  have HL : Hid (LayA w a ats) := hl
  have HC : Hid (∀ (W : World) (xn xv : ByteArray), Below w.heap.size w W → Calls Try.prog 84 #[.agg #[.string xn, .string xv], .pointer (some ⟨Q, 0, none⟩)] W fun e w' => e = .returned (.bool (xn.toList == t.toList)) ∧ Below W.heap.size W w') := fun W xn xv hb => goneA_any xn xv t Q W (keepc hb _ _ hQ)
  clear hl hQ
  go_enter Try.func68, Try.ntmps68
  go_wp2_with fail
  go_loopw [5, 10] (fun v5 v10 wr => ∃ i : Nat, i ≤ ats.length ∧ v10 = .int .i64 (i : Int) ∧ Hid (OwnA wr w.heap.size v5 (lessA (ats.take i) t)) ∧ Hid (Below w.heap.size w wr)) (fun _ v10 _ => ats.length - (intOf v10).toNat)
  case atStart => exact ⟨0, Nat.zero_le _, rfl, OwnA.nil _ _, Below.refl _ _⟩
  case round =>
    obtain ⟨i, hi, rfl, HO, HB⟩ := hrel
    by_cases hlt : i < ats.length
    · obtain ⟨b, o, ha, r1, r2, _⟩ := HL.out.below HB.out i ats[i] (List.getElem?_eq_getElem hlt)
      subst ha
      have HT : Hid (lessA (ats.take (i + 1)) t = lessA (ats.take i) t ++ lessA [ats[i]] t) := by
        show _ = _
        unfold lessA
        rw [List.take_succ_eq_append_getElem hlt, List.filter_append]
      have HLE : Hid ((lessA (ats.take i) t).length ≤ i) := by
        show _ ≤ _
        refine Nat.le_trans (List.length_filter_le _ _) ?_
        simp
        omega
      obtain ⟨oa, oc, hov⟩ := HO.out.shape
      subst hov
      generalize lessA (ats.take i) t = fl at *
      generalize ats[i] = x at *
      obtain ⟨xn, xv⟩ := x
      simp only at *
      have X1 : Hid ((wr.alloc (.cells #[.string xn, .string xv] 90)).heap[wr.heap.size]? = some (.cells #[.string xn, .string xv] 90 (0, 0))) := heap_alloc_new _ _
      have HCC := HC.out (wr.alloc (.cells #[.string xn, .string xv] 90)) xn xv (nxt HB.out (below_one _ _))
      cases hx : (xn.toList == t.toList) with
      | false =>
        rw [hx] at HCC
        have HCD : Hid (Calls Try.prog 84 #[.agg #[.string xn, .string xv], .pointer (some ⟨Q, 0, none⟩)] (wr.alloc (.cells #[.string xn, .string xv] 90)) _) := HCC
        have HT' : Hid (lessA (ats.take (i + 1)) t = fl ++ [(xn, xv)]) := by
          show _ = _
          rw [HT.out]
          simp [lessA, hx]
        clear HCC hx HT
        go_wp2_with fail
        refine HCD.out.mono ?_
        rintro e w2 ⟨rfl, hb2⟩
        have X2 := (hb2.block _ (lt_of_block X1.out)).trans X1.out
        obtain ⟨y0, y1⟩ := two X2
        have HOX : Hid (OwnA (w2.alloc (.cells #[.string xn, .string xv] 90)) w.heap.size (.slice oa fl.length oc) fl) := HO.out.below (nxt (nxt (below_one _ _) hb2) (below_one _ _))
        have HBX : Hid (Below w.heap.size w (w2.alloc (.cells #[.string xn, .string xv] 90))) := nxt HB.out (nxt (nxt (below_one _ _) hb2) (below_one _ _))
        have HNW : Hid ((w2.alloc (.cells #[.string xn, .string xv] 90)).cell? ((⟨w2.heap.size, 0, none⟩ : Addr).add 0) = some (.string xn) ∧ (w2.alloc (.cells #[.string xn, .string xv] 90)).cell? ((⟨w2.heap.size, 0, none⟩ : Addr).add 1) = some (.string xv)) := ⟨newCells w2 _ _ 0 _ rfl, newCells w2 _ _ 1 _ rfl⟩
        have HSZ : Hid ((fl.length + 1) * 32 ≤ 140737488355328 ∧ w.heap.size ≤ (w2.alloc (.cells #[.string xn, .string xv] 90)).heap.size) := ⟨by have := HLE.out; omega, HBX.out.size⟩
        clear HO HB r1 r2 X2 X1 hb2 HCD
        go_wp2_with (refine wpList_pushA _ rfl (.tmp 18) (.tmp 20) rfl w.heap.size _ fl rfl HOX.out (xn, xv) ⟨w2.heap.size, 0, none⟩ 1 rfl HNW.out.1 HNW.out.2 HSZ.out.1 HSZ.out.2 ?_; intro v' w' q1 q2 q3; have OO : Hid (OwnA w' w.heap.size v' (fl ++ [(xn, xv)])) := q1; have BB : Hid (Below w.heap.size w w') := HBX.out.trans (grownB HOX.out q2 HSZ.out.2); clear q1 q2 q3)
        go_roundw
        case rel => exact ⟨i + 1, by omega, by go_num, by rw [HT'.out]; exact OO.out, BB.out⟩
        case measure => simp [intOf]; omega
      | true =>
        rw [hx] at HCC
        have HCD : Hid (Calls Try.prog 84 #[.agg #[.string xn, .string xv], .pointer (some ⟨Q, 0, none⟩)] (wr.alloc (.cells #[.string xn, .string xv] 90)) _) := HCC
        have HT' : Hid (lessA (ats.take (i + 1)) t = fl) := by
          show _ = _
          rw [HT.out]
          simp [lessA, hx]
        clear HCC hx HT
        go_wp2_with fail
        refine HCD.out.mono ?_
        rintro e w2 ⟨rfl, hb2⟩
        have OO : Hid (OwnA w2 w.heap.size (.slice oa fl.length oc) fl) := HO.out.below (nxt (below_one _ _) hb2)
        have BB : Hid (Below w.heap.size w w2) := nxt HB.out (nxt (below_one _ _) hb2)
        clear HO HB r1 r2 X1 hb2 HCD
        go_wp2_with fail
        go_roundw
        case rel => exact ⟨i + 1, by omega, by go_num, by rw [HT'.out]; exact OO.out, BB.out⟩
        case measure => simp [intOf]; omega
    · have HE : Hid (ats.take i = ats) := List.take_of_length_le (by omega)
      rw [HE.out] at HO
      go_wp2_with fail
      go_ret
      exact ⟨_, rfl, HO.out, HB.out⟩
end Go.Proofs.Ytbadehbnpneepaa
