/-
  The program's New and Next.
-/
import Derived.Test.YtfdbhojghkdlkaaObAdd
import Derived.Lib.AppendZeros
namespace Go.Proofs.Ytfdbhojghkdlkaa
open Go.ChangeShapes Go.WideShapes Go.ChangeAt Go.RowKit

set_option maxRecDepth 100000 in
theorem new_any (w : World) : Calls Try.prog 27 #[] w fun e w' => e = .returned (.agg #[.int .i64 0, .slice none 0 0]) ∧ Below w.heap.size w w' := by
  go_enter Try.func27, Try.ntmps27
  go_wp2_with fail
  refine bodyPost_ret (v := .agg #[.int .i64 0, .slice none 0 0]) (by simp [results, Try.results27, go_sem]) rfl ?_
  exact ⟨rfl, below_one _ _⟩

/-- What a call tells that answers a list. -/
def ListPost {n : Nat} (w : World) (R : Int × List (Tm n)) (e : Ending) (w' : World) : Prop := ∃ v H, e = .returned (.tuple #[v, .int .i64 R.1]) ∧ CopyInv (shT n) w w' v R.2 H

theorem CopyInv.none {α : Type} {n : Nat} (S : Sh α n) {w w1 : World} (hb : Below w.heap.size w w1) : CopyInv S w w1 (.slice none 0 0) [] (fun _ => False) := ⟨OwnR.nil S _, fun _ hb => hb.elim, hb⟩
theorem CopyInv.from {α : Type} {n : Nat} {S : Sh α n} {w w1 w2 : World} {v : Value} {its : List α} {H : Nat → Prop} (h : CopyInv S w1 w2 v its H) (hb : Below w.heap.size w w1) : CopyInv S w w2 v its H :=
  ⟨h.1, fun b hb' => ⟨by have := (h.2.1 b hb').1; have := hb.size; omega, (h.2.1 b hb').2⟩, nxt hb h.2.2⟩

set_option maxRecDepth 100000 in
set_option maxHeartbeats 3200000 in
theorem next_box {n : Nat} (L k : Int) (its : List (Tm n)) (ia : Option Addr) (ic : Nat) (w : World) (hT : TIs w n ia ic its) (hk : k ≤ 9223372036854775807) :
    Calls Try.prog 28 #[.agg #[.int .i64 L, .slice ia its.length ic], .int .i64 k] w (ListPost w (nextR L its k)) := by
  have HT : Hid (TIs w n ia ic its) := hT
  have hlT := hT.2.2.1
  have hc1 := hT.1
  have hc2 := hT.2.1
  have C1 : Hid (∀ w', Below w.heap.size w w' → Calls Try.prog 15 #[.agg #[.int .i64 L, .slice ia its.length ic]] w' fun e w'' => e = .returned (.int .i64 (chkB L its)) ∧ Below w'.heap.size w' w'') := fun w' hb => bcheck_any L its ia ic w' (hT.below hb)
  have X0 : Hid ((w.alloc (.cells #[.int .i64 L, .slice ia its.length ic] 26)).heap[w.heap.size]? = some (.cells #[.int .i64 L, .slice ia its.length ic] 26 (0, 0))) := heap_alloc_new _ _
  have B0 : Hid (Below w.heap.size w (w.alloc (.cells #[.int .i64 L, .slice ia its.length ic] 26))) := below_one _ _
  clear hT
  by_cases h0 : chkB L its = 0
  · by_cases h1 : 0 ≤ k
    · have E : Hid (nextR L its k = (0, its.take k.toNat)) := by show _ = _; unfold nextR; rw [if_pos h0, if_pos h1]
      obtain ⟨e1, e2, e3, e4⟩ := chkB_ok h0
      have HC1 : Hid (∀ u ∈ its, chk u.2.2 = 0) := fun u hu => (effE_chk (okT_mem e4 u hu).2.2).1
      rw [h0] at C1
      clear h0 e4
      by_cases h2 : k ≤ its.length
      · obtain ⟨j, rfl⟩ : ∃ j : Nat, k = j := ⟨k.toNat, by omega⟩
        have hj : j ≤ its.length := by omega
        have ET : Hid ((its.take ((j : Int)).toNat).length = j) := by show _ = _; simp; omega
        have C5 : Hid (∀ w', Below w.heap.size w w' → Calls Try.prog 45 #[.slice ia (its.take ((j : Int)).toNat).length ic] w' _) := fun w' hb => bcopy_any _ ia ic w' ((HT.out.below hb).take _) (fun u hu => HC1.out u (List.mem_of_mem_take hu))
        rw [ET.out] at C5
        have hmin : min (j : Int) (its.length : Int) = j := by omega
        generalize its.take ((j : Int)).toNat = acc at *
        go_enter Try.func28, Try.ntmps28
        go_wp2_with fail
        refine (C1.out _ B0.out).mono ?_
        rintro e w1 ⟨rfl, hb1⟩
        have X1 : Hid (w1.heap[w.heap.size]? = some (.cells #[.int .i64 L, .slice ia its.length ic] 26 (0, 0))) := (hb1.block _ (lt_of_block X0.out)).trans X0.out
        have B1 : Hid (Below w.heap.size w w1) := nxt B0.out hb1
        clear hb1
        obtain ⟨x0, -⟩ := cell_of X1.out 0
        obtain ⟨x1, -⟩ := cell_of X1.out 1
        simp only [List.getElem?_toArray, List.getElem?_cons_zero, List.getElem?_cons_succ] at x0 x1
        go_wp2_with fail
        refine (C5.out _ B1.out).mono ?_
        rintro e w2 ⟨v2, H2, rfl, h2⟩
        have HR : Hid _ := h2
        clear h2
        go_wp2_with fail
        go_ret2
        rw [E.out]
        exact ⟨v2, H2, rfl, CopyInv.from HR.out B1.out⟩
      · have ET : Hid (its.take k.toNat = its) := by show _ = _; rw [List.take_of_length_le (by omega)]
        rw [ET.out] at E
        have C5 : Hid (∀ w', Below w.heap.size w w' → Calls Try.prog 45 #[.slice ia its.length ic] w' _) := fun w' hb => bcopy_any _ ia ic w' (HT.out.below hb) (fun u hu => HC1.out u hu)
        have hmin : min k (its.length : Int) = its.length := by omega
        go_enter Try.func28, Try.ntmps28
        go_wp2_with fail
        refine (C1.out _ B0.out).mono ?_
        rintro e w1 ⟨rfl, hb1⟩
        have X1 : Hid (w1.heap[w.heap.size]? = some (.cells #[.int .i64 L, .slice ia its.length ic] 26 (0, 0))) := (hb1.block _ (lt_of_block X0.out)).trans X0.out
        have B1 : Hid (Below w.heap.size w w1) := nxt B0.out hb1
        clear hb1
        obtain ⟨x0, -⟩ := cell_of X1.out 0
        obtain ⟨x1, -⟩ := cell_of X1.out 1
        simp only [List.getElem?_toArray, List.getElem?_cons_zero, List.getElem?_cons_succ] at x0 x1
        go_wp2_with fail
        refine (C5.out _ B1.out).mono ?_
        rintro e w2 ⟨v2, H2, rfl, h2⟩
        have HR : Hid _ := h2
        clear h2
        go_wp2_with fail
        go_ret2
        rw [E.out]
        exact ⟨v2, H2, rfl, CopyInv.from HR.out B1.out⟩
    · have E : Hid (nextR L its k = (4, [])) := by show _ = _; unfold nextR; rw [if_pos h0, if_neg h1]
      rw [h0] at C1
      clear h0
      go_enter Try.func28, Try.ntmps28
      go_wp2_with fail
      refine (C1.out _ B0.out).mono ?_
      rintro e w1 ⟨rfl, hb1⟩
      go_wp2_with fail
      go_ret2
      rw [E.out]
      exact ⟨_, _, rfl, CopyInv.none _ (nxt B0.out hb1)⟩
  · have E : Hid (nextR L its k = (9, [])) := by show _ = _; unfold nextR; rw [if_neg h0]
    have h9 : chkB L its = 9 := (chkB_cases L its).resolve_left h0
    rw [h9] at C1
    clear h0 h9
    go_enter Try.func28, Try.ntmps28
    go_wp2_with fail
    refine (C1.out _ B0.out).mono ?_
    rintro e w1 ⟨rfl, hb1⟩
    go_wp2_with fail
    go_ret2
    rw [E.out]
    exact ⟨_, _, rfl, CopyInv.none _ (nxt B0.out hb1)⟩
end Go.Proofs.Ytfdbhojghkdlkaa

/-
  slices.IndexFunc by Ack's closure; slices.Grow of nothing; slices.Concat of two slices of items.
-/
namespace Go.Proofs.Ytfdbhojghkdlkaa
open Go.ChangeShapes Go.WideShapes Go.ChangeAt Go.RowKit

set_option maxRecDepth 100000 in
theorem asked_any (i id : Int) (nm : ByteArray) (c0 c1 c2 c3 c4 : Value) (p : Nat) (w : World) (hp : w.cell? ⟨p, 0, none⟩ = some (.int .i64 id)) :
    Calls Try.prog 46 #[.agg #[.int .i64 i, .string nm, c0, c1, c2, c3, c4], .pointer (some ⟨p, 0, none⟩)] w fun e w' => e = .returned (.bool (i == id)) ∧ Below w.heap.size w w' := by
  have hp' : (w.alloc (.cells #[.int .i64 i, .string nm, c0, c1, c2, c3, c4] 54)).cell? ⟨p, 0, none⟩ = some (.int .i64 id) := keepc (below_one _ _) _ _ hp
  go_enter Try.func46, Try.ntmps46
  go_wp2_with fail
  go_ret
  exact ⟨rfl, below_one _ _⟩

/-- Where the item id stands. -/
def IdxIs {n : Nat} (id : Int) (its : List (Tm n)) (i : Int) : Prop := (i = -1 ∧ ∀ u ∈ its, ¬ u.1 = id) ∨ ∃ m : Nat, ∃ h : m < its.length, i = m ∧ its[m].1 = id

set_option maxRecDepth 100000 in
set_option maxHeartbeats 1600000 in
theorem indexT_any {n : Nat} (id : Int) (its : List (Tm n)) (ia : Option Addr) (ic p : Nat) (w : World) (hT : TIs w n ia ic its) (hp : w.cell? ⟨p, 0, none⟩ = some (.int .i64 id)) :
    Calls Try.prog 47 #[.slice ia its.length ic, .func (.func 46) #[] #[.pointer (some ⟨p, 0, none⟩)]] w fun e w' => ∃ i, e = .returned (.int .i64 i) ∧ IdxIs id its i ∧ Below w.heap.size w w' := by
  have HT : Hid (TIs w n ia ic its) := hT
  have HP : Hid (w.cell? ⟨p, 0, none⟩ = some (.int .i64 id)) := hp
  have hlen := hT.2.2.1
  clear hT hp
  go_enter Try.func47, Try.ntmps47
  go_wp2_with fail
  go_loopw [8] (fun i wr => ∃ m : Nat, m ≤ its.length ∧ i = .int .i64 m ∧ Hid (∀ u ∈ its.take m, ¬ u.1 = id) ∧ Hid (Below w.heap.size w wr)) (fun i _ => its.length - (intOf i).toNat)
  case atStart => exact ⟨0, Nat.zero_le _, rfl, (fun u h => by simp at h), Below.refl _ _⟩
  case round =>
    obtain ⟨m, hm, rfl, HZ, HW⟩ := hrel
    by_cases hlt : m < its.length
    · obtain ⟨b, o, k, bb, t, ka, kl, kc, ja, jl, jc, rfl, q0, q1, q2, q3, q4, q5, q6, -, -⟩ := (HT.out.below HW.out).at m hlt
      have hm1 : (m : Int) < (its.length : Int) := by omega
      have HC : Hid (Calls Try.prog 46 #[.agg #[.int .i64 its[m].1, .string its[m].2.1, .int .i64 k, .int .u64 bb, .string t, .slice ka kl kc, .slice ja jl jc], .pointer (some ⟨p, 0, none⟩)] wr _) := asked_any its[m].1 id its[m].2.1 _ _ _ _ _ p wr (keepc HW.out _ _ HP.out)
      have HTK : Hid (its.take (m + 1) = its.take m ++ [its[m]]) := List.take_succ_eq_append_getElem hlt
      have HE : Hid (∃ v, v = its[m].1) := ⟨_, rfl⟩
      obtain ⟨v, hv⟩ := HE.out
      clear HE
      have HV : Hid (v = its[m].1) := hv
      rw [← hv] at q0 HC
      clear hv
      generalize its[m].2.1 = nm at *
      by_cases hz : v = id
      · have hzb : (v == id) = true := by simpa using hz
        have HZ2 : Hid (v = id) := hz
        rw [hzb] at HC
        clear hz
        go_wp2_with (refine HC.out.mono ?_; rintro e w2 ⟨rfl, hb2⟩)
        go_ret
        exact ⟨m, rfl, Or.inr ⟨m, hlt, rfl, by rw [← HV.out]; exact HZ2.out⟩, nxt HW.out hb2⟩
      · have hzb : (v == id) = false := by simpa using hz
        have HA : Hid (∀ u ∈ its.take (m + 1), ¬ u.1 = id) := by
          intro x hx
          rw [HTK.out] at hx
          rcases List.mem_append.1 hx with h | h
          · exact HZ.out x h
          · simp at h; rw [h, ← HV.out]; exact hz
        rw [hzb] at HC
        clear hz
        go_wp2_with (refine HC.out.mono ?_; rintro e w2 ⟨rfl, hb2⟩)
        exact ⟨⟨m + 1, by omega, by go_num, HA.out, nxt HW.out hb2⟩, by simp [intOf]; omega⟩
    · have hme : m = its.length := by omega
      subst hme
      go_wp2_with fail
      go_ret
      have h := HZ.out
      rw [List.take_length] at h
      exact ⟨-1, rfl, Or.inl ⟨rfl, h⟩, HW.out⟩

set_option maxRecDepth 100000 in
theorem growT_any {n : Nat} (k : Nat) (w : World) (hk : k ≤ 256) : Calls Try.prog 61 #[.slice none 0 0, .int .i64 k] w (ShPost (n := n) w []) := by
  by_cases h0 : k = 0
  · subst h0
    go_enter Try.func61, Try.ntmps61
    go_wp2_with fail
    go_ret
    exact ⟨_, rfl, ShRow.nil _ _ _, Below.refl _ _⟩
  · obtain ⟨i0, hi, hz0, hz1, hz2⟩ := info_parts Try.infoItem
    have hr : ∀ ty, _ := fun ty => Go.Lib.run_append_nil_zeros (P := Try.prog) w 22 3 ty 54 i0 _ .i64 .i64 Try.underlying22 Try.underlying3 hi hz0 k (by omega) (by rw [hz1]; decide) (by omega) (by rw [hz2]; omega)
    have hk0 : 0 < k := by omega
    have hge := grownCap_ge w k 0 54
    have hcm := grownCap_le_maxLen w k 0 54 (by unfold maxLen; omega)
    generalize grownCap w k 0 54 = cp at *
    have S1 : Hid (ShRow (n := n) w (w.drew.alloc (.cells (Builtin.zeroCells (Value.agg #[.int .i64 0, .string ⟨#[]⟩, .int .i64 0, .int .u64 0, .string ⟨#[]⟩, .slice none 0 0, .slice none 0 0]).cells k ++ Builtin.zeroCells (Value.agg #[.int .i64 0, .string ⟨#[]⟩, .int .i64 0, .int .u64 0, .string ⟨#[]⟩, .slice none 0 0, .slice none 0 0]).cells (cp - k)) 54)) w.heap.size (.slice (some ⟨w.heap.size, 0, none⟩) 0 cp) []) := by
      refine ⟨[], ⟨rfl, Or.inr ⟨w.heap.size, cp, _, rfl, Nat.le_refl _, heap_alloc_new w.drew _, Nat.zero_le _, hcm, ?_, by simp⟩⟩, fun i u hi => by simp at hi⟩
      have hs : (Value.agg #[.int .i64 0, .string ⟨#[]⟩, .int .i64 0, .int .u64 0, .string ⟨#[]⟩, .slice none 0 0, .slice none 0 0]).cells.size = 7 := rfl
      simp only [Array.size_append, size_zeroCells, hs]
      omega
    have B1 : Hid (Below w.heap.size w (w.drew.alloc (.cells (Builtin.zeroCells (Value.agg #[.int .i64 0, .string ⟨#[]⟩, .int .i64 0, .int .u64 0, .string ⟨#[]⟩, .slice none 0 0, .slice none 0 0]).cells k ++ Builtin.zeroCells (Value.agg #[.int .i64 0, .string ⟨#[]⟩, .int .i64 0, .int .u64 0, .string ⟨#[]⟩, .slice none 0 0, .slice none 0 0]).cells (cp - k)) 54))) := ((Below.refl _ w).drew).alloc (Nat.le_refl _) _
    generalize w.drew.alloc (.cells (Builtin.zeroCells (Value.agg #[.int .i64 0, .string ⟨#[]⟩, .int .i64 0, .int .u64 0, .string ⟨#[]⟩, .slice none 0 0, .slice none 0 0]).cells k ++ Builtin.zeroCells (Value.agg #[.int .i64 0, .string ⟨#[]⟩, .int .i64 0, .int .u64 0, .string ⟨#[]⟩, .slice none 0 0, .slice none 0 0]).cells (cp - k)) 54) = W at *
    unfold maxLen at hcm
    go_enter Try.func61, Try.ntmps61
    go_wp2_with (refine Go.Lib.wpList_append_run w rfl _ _ _ _ rfl (.slice none 0 0) (.int .i64 k) rfl rfl _ _ (hr _) ?_)
    go_ret
    exact ⟨_, rfl, S1.out, B1.out⟩

/-- Three ways. -/
def Way {n : Nat} (w wr : World) (v : Value) (l1 l2 : List (Tm n)) (m : Nat) : Prop := (m = 0 ∧ ShRow w wr w.heap.size v ([] : List (Tm n))) ∨ (m = 1 ∧ ShRow w wr w.heap.size v l1) ∨ (m = 2 ∧ ShRow w wr w.heap.size v (l1 ++ l2))
theorem Way.at0 {n : Nat} {w wr : World} {v : Value} {l1 l2 : List (Tm n)} (h : Way w wr v l1 l2 0) : ShRow w wr w.heap.size v ([] : List (Tm n)) := by
  rcases h with h | h | h
  · exact h.2
  · exact absurd h.1 (by decide)
  · exact absurd h.1 (by decide)
theorem Way.at1 {n : Nat} {w wr : World} {v : Value} {l1 l2 : List (Tm n)} (h : Way w wr v l1 l2 1) : ShRow w wr w.heap.size v l1 := by
  rcases h with h | h | h
  · exact absurd h.1 (by decide)
  · exact h.2
  · exact absurd h.1 (by decide)
theorem Way.at2 {n : Nat} {w wr : World} {v : Value} {l1 l2 : List (Tm n)} (h : Way w wr v l1 l2 2) : ShRow w wr w.heap.size v (l1 ++ l2) := by
  rcases h with h | h | h
  · exact absurd h.1 (by decide)
  · exact absurd h.1 (by decide)
  · exact h.2
def sz (a b : Nat) (m : Nat) : Nat := if m = 0 then 0 else if m = 1 then a else a + b

set_option maxRecDepth 100000 in
set_option maxHeartbeats 3200000 in
theorem concatT_any {n : Nat} (l1 l2 : List (Tm n)) (a1 a2 : Option Addr) (c1 c2 g : Nat) (w : World) (h1 : TIs w n a1 c1 l1) (h2 : TIs w n a2 c2 l2) (g0 : w.cell? ⟨g, 0, none⟩ = some (.slice a1 l1.length c1)) (g1 : w.cell? ⟨g, 1, none⟩ = some (.slice a2 l2.length c2)) (hn : l1.length + l2.length ≤ 256) :
    Calls Try.prog 48 #[.slice (some ⟨g, 0, none⟩) 2 2] w (ShPost w (l1 ++ l2)) := by
  have H1 : Hid (TIs w n a1 c1 l1) := h1
  have H2 : Hid (TIs w n a2 c2 l2) := h2
  have G0 : Hid (w.cell? ⟨g, 0, none⟩ = some (.slice a1 l1.length c1)) := g0
  have G1 : Hid (w.cell? ⟨g, 1, none⟩ = some (.slice a2 l2.length c2)) := g1
  have b1 := h1.1
  have b2 := h2.1
  have d1 := h1.2.1
  have d2 := h2.2.1
  clear h1 h2
  go_enter Try.func48, Try.ntmps48
  go_wp2_with fail
  go_loopw [3, 11] (fun v i wr => ∃ m : Nat, m ≤ 2 ∧ i = .int .i64 m ∧ v = .int .i64 (sz l1.length l2.length m : Nat) ∧ Hid (wr = w)) (fun _ i _ => 2 - (intOf i).toNat)
  case atStart => exact ⟨0, by decide, rfl, rfl, rfl⟩
  case round =>
    obtain ⟨m, hm, rfl, rfl, HW⟩ := hrel
    obtain rfl := HW.out
    rcases (show m = 0 ∨ m = 1 ∨ m = 2 by omega) with rfl | rfl | rfl
    · have e0 : sz l1.length l2.length 0 = 0 := rfl
      rw [e0]
      go_wp2_with fail
      go_roundw
      case rel => exact ⟨1, by decide, rfl, by simp [sz], trivial⟩
      case measure => simp [intOf]
    · have e0 : sz l1.length l2.length 1 = l1.length := rfl
      rw [e0]
      go_wp2_with fail
      go_roundw
      case rel => exact ⟨2, by decide, rfl, by simp [sz], trivial⟩
      case measure => simp [intOf]
    · have e0 : sz l1.length l2.length 2 = l1.length + l2.length := rfl
      rw [e0]
      clear e0
      go_wp2_with fail
      refine (growT_any (n := n) (l1.length + l2.length) _ hn).mono ?_
      rintro e w3 ⟨v3, rfl, s3, hb3⟩
      have S3 : Hid (ShRow (n := n) wr w3 wr.heap.size v3 []) := s3
      have B3 : Hid (Below wr.heap.size wr w3) := hb3
      clear s3 hb3 HW
      obtain ⟨W0, hW0⟩ : ∃ W, W = wr := ⟨_, rfl⟩
      subst hW0
      go_wp2_with fail
      go_loopw [6, 27] (fun v i wd => ∃ m : Nat, m ≤ 2 ∧ i = .int .i64 m ∧ Hid (Way W0 wd v l1 l2 m) ∧ Hid (Below W0.heap.size W0 wd)) (fun _ i _ => 2 - (intOf i).toNat)
      case atStart => exact ⟨0, by decide, rfl, Or.inl ⟨rfl, S3.out⟩, B3.out⟩
      case round =>
        obtain ⟨m, hm, rfl, HY, HB⟩ := hrel
        have q0 := keepc HB.out _ _ G0.out
        have q1 := keepc HB.out _ _ G1.out
        have hsz := HB.out.size
        rcases (show m = 0 ∨ m = 1 ∨ m = 2 by omega) with rfl | rfl | rfl
        · have S4 : Hid (ShRow W0 wr W0.heap.size u6 ([] : List (Tm n))) := HY.out.at0
          go_wp2_with (at_builtin; refine wpList_appSh (w0 := W0) _ rfl _ _ rfl W0.heap.size _ [] l1 rfl S4.out HB.out a1 c1 rfl H1.out ?d0 hsz ?_)
          case d0 => simp; omega
          intro v' w5 k1 k2
          have S5 : Hid (ShRow W0 w5 W0.heap.size v' l1) := by simpa [Hid] using k1
          have B5 : Hid (Below W0.heap.size W0 w5) := HB.out.grown k2 hsz (fun g hg => by obtain ⟨xs, p1, _⟩ := S4.out; exact (p1.lt g hg).1)
          clear k1 k2
          go_wp2_with fail
          go_roundw
          case rel => exact ⟨1, by decide, rfl, Or.inr (Or.inl ⟨rfl, S5.out⟩), B5.out⟩
          case measure => simp [intOf]
        · have S4 : Hid (ShRow W0 wr W0.heap.size u6 l1) := HY.out.at1
          go_wp2_with (at_builtin; refine wpList_appSh (w0 := W0) _ rfl _ _ rfl W0.heap.size _ l1 l2 rfl S4.out HB.out a2 c2 rfl H2.out ?d0 hsz ?_)
          case d0 => omega
          intro v' w5 k1 k2
          have S5 : Hid (ShRow W0 w5 W0.heap.size v' (l1 ++ l2)) := k1
          have B5 : Hid (Below W0.heap.size W0 w5) := HB.out.grown k2 hsz (fun g hg => by obtain ⟨xs, p1, _⟩ := S4.out; exact (p1.lt g hg).1)
          clear k1 k2
          go_wp2_with fail
          go_roundw
          case rel => exact ⟨2, by decide, rfl, Or.inr (Or.inr ⟨rfl, S5.out⟩), B5.out⟩
          case measure => simp [intOf]
        · have S4 : Hid (ShRow W0 wr W0.heap.size u6 (l1 ++ l2)) := HY.out.at2
          go_wp2_with fail
          go_ret
          exact ⟨_, rfl, S4.out, HB.out⟩
end Go.Proofs.Ytfdbhojghkdlkaa
