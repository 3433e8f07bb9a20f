/-
  The page's Get.
-/
import Derived.Test.YtocodkoanjcmkabSeRfO
import Derived.Test.YtocodkoanjcmkabOcStep
import Derived.Test.YtocodkoanjcmkabSeSpot
import Derived.Deep.RegionHeld3
namespace Go.Proofs.Ytocodkoanjcmkab
open Go.ChangeShapes Go.WideShapes Go.ChangeAt Go.RowKit Go.Deep
open Se

theorem lenO_num {l : List UInt8} (h : 4 ≤ l.length) : numO ((l.take 4).drop 1) = (lenO l : Nat) := by
  match l, h with
  | a :: b :: c :: d :: l, _ =>
    simp only [List.take_succ_cons, List.take_zero, List.drop_succ_cons, List.drop_zero, numO, List.foldl_cons, List.foldl_nil, lenO, List.getD_cons_succ, List.getD_cons_zero]
    omega

theorem conv4 {w : World} {b off c n : Nat} {l : List UInt8} (ho : Oct w (some ⟨b, off, none⟩) c l) (hlt : 4 + n + 4 ≤ l.length) :
    Sem.run Try.prog (convert 25 9 (.slice (some ⟨b, off + (4 + n), none⟩) 4 (c - (4 + n)))) w = .ok (.string ⟨((l.drop (4 + n)).take 4).toArray⟩) w := by
  have h := ho.part (4 + n) (4 + n + 4) (by omega) hlt
  rw [List.drop_take, show 4 + n + 4 - (4 + n) = 4 by omega] at h
  have hm4 : ((l.drop (4 + n)).take 4).length = 4 := by rw [List.length_take, List.length_drop]; omega
  have h2 := run_str (c := c - (4 + n)) h.1
  rw [hm4] at h2
  exact h2
theorem toList_mk (l : List UInt8) : (⟨l.toArray⟩ : ByteArray).toList = l := by rw [ByteArray.toList_eq]

set_option maxRecDepth 100000 in
set_option maxHeartbeats 3200000 in
theorem rget_any (a : Option Addr) (c : Nat) (l : List UInt8) (w : World) (ho : Oct w a c l) :
    Calls Try.prog 42 #[.slice a l.length c] w fun e w' => ∃ s, e = .returned (.tuple #[.agg #[.int .i64 (getR l).2.1, s], .int .i64 (getR l).2.2.2, .int .i64 (getR l).1]) ∧ Bs w' w.heap.size s (getR l).2.2.1 ∧ Below w.heap.size w w' := by
  have HO : Hid (Oct w a c l) := ho
  obtain ⟨hL, hcl, hc63, hdl, hnil, had⟩ := ho
  have HL : Hid (LayB w a l) := hL
  clear hL hnil had
  unfold getR
  by_cases h8 : l.length < 8
  · rw [if_pos h8]
    have h8' : (l.length : Int) < 8 := by omega
    go_enter Try.func42, Try.ntmps42
    go_wp2_with fail
    exact bodyPost_ret (v := .tuple #[.agg #[.int .i64 0, .slice none 0 0], .int .i64 0, .int .i64 8]) (by simp [results, Try.results42, go_sem]) rfl ⟨_, rfl, Bs.nil _ _, below_one _ _⟩
  rw [if_neg h8]
  have h8' : ¬ (l.length : Int) < 8 := by omega
  obtain ⟨b, off, rfl, q0⟩ := layB_get HL.out (show 0 < l.length by omega)
  have Q0 : Hid (w.cell? ⟨b, off + 0, none⟩ = some (.int .u8 ((l.getD 0 0).toNat : Int))) := by rw [getD_get (by omega)]; exact q0
  have d0 := u8_lt (l.getD 0 0)
  have HNM : Hid (numO ((l.take 4).drop 1) = (lenO l : Nat)) := lenO_num (by omega)
  have hno : lenO l < 16777216 := by
    have d1 := u8_lt (l.getD 1 0)
    have d2 := u8_lt (l.getD 2 0)
    have d3 := u8_lt (l.getD 3 0)
    unfold lenO
    omega
  generalize (l.getD 0 0).toNat = o0 at *
  generalize lenO l = n at *
  clear q0
  have QW : Hid (∀ W, Below w.heap.size w W → W.cell? ⟨b, off, none⟩ = some (.int .u8 (o0 : Int))) := fun W hb => keepc hb _ _ Q0.out
  clear Q0
  have X0 : Hid ((w.alloc (.cells #[.int .i64 0, .slice none 0 0] 77)).heap[w.heap.size]? = some (.cells #[.int .i64 0, .slice none 0 0] 77 (0, 0))) := heap_alloc_new _ _
  have B0 : Hid (Below w.heap.size w (w.alloc (.cells #[.int .i64 0, .slice none 0 0] 77))) := below_one _ _
  have y0 := QW.out _ B0.out
  by_cases hk : o0 = 0
  · rw [if_pos hk]
    have hk' : ((o0 : Int) == 0) = true := by simp [hk]
    go_enter Try.func42, Try.ntmps42
    go_wp2_with fail
    exact bodyPost_ret (v := .tuple #[.agg #[.int .i64 0, .slice none 0 0], .int .i64 0, .int .i64 22]) (by simp [results, Try.results42, go_sem]) rfl ⟨_, rfl, Bs.nil _ _, below_one _ _⟩
  rw [if_neg hk]
  have hk' : ((o0 : Int) == 0) = false := by simp; omega
  have HN : Hid (Calls Try.prog 43 #[.slice (some ⟨b, off + 1, none⟩) 3 (c - 1)] (w.alloc (.cells #[.int .i64 0, .slice none 0 0] 77)) fun e w' => e = .returned (.int .u64 (n : Nat)) ∧ w' = (w.alloc (.cells #[.int .i64 0, .slice none 0 0] 77))) := by
    have h := (HO.out.below B0.out).part 1 4 (by omega) (by omega)
    have hm : ((l.take 4).drop 1).length = 3 := by simp; omega
    have := rnumber_any (some ⟨b, off + 1, none⟩) (c - 1) ((l.take 4).drop 1) _ h.1 (by omega)
    rw [hm, HNM.out] at this
    exact this
  have hc3 : (4 : Int) ≤ c := by omega
  have hw64 : IntKind.i64.wrap (n : Int) = (n : Int) := by rw [IntKind.wrap_i64]; omega
  by_cases h5 : 65536 < n
  · rw [if_pos h5]
    have h5' : (65536 : Int) < n := by omega
    go_enter Try.func42, Try.ntmps42
    go_wp2_with fail
    refine HN.out.mono ?_
    rintro e w1 ⟨rfl, hw1⟩
    subst w1
    go_wp2_with fail
    exact bodyPost_ret (v := .tuple #[.agg #[.int .i64 0, .slice none 0 0], .int .i64 0, .int .i64 5]) (by simp [results, Try.results42, go_sem]) rfl ⟨_, rfl, Bs.nil _ _, below_one _ _⟩
  rw [if_neg h5]
  have h5' : ¬ (65536 : Int) < n := by omega
  by_cases hs : l.length < 4 + n + 4
  · rw [if_pos hs]
    have hs' : (l.length : Int) < (n : Int) + 8 := by omega
    go_enter Try.func42, Try.ntmps42
    go_wp2_with fail
    refine HN.out.mono ?_
    rintro e w1 ⟨rfl, hw1⟩
    subst w1
    go_wp2_with fail
    exact bodyPost_ret (v := .tuple #[.agg #[.int .i64 0, .slice none 0 0], .int .i64 0, .int .i64 8]) (by simp [results, Try.results42, go_sem]) rfl ⟨_, rfl, Bs.nil _ _, below_one _ _⟩
  rw [if_neg hs]
  have hs' : ¬ (l.length : Int) < (n : Int) + 8 := by omega
  generalize hGG : (if le4 (sum (l.take (4 + n))) = (l.drop (4 + n)).take 4 then ((0 : Int), (o0 : Int), (l.take (4 + n)).drop 4, 4 + n + 4) else ((21 : Int), (0 : Int), ([] : List UInt8), 0)) = G
  have HGG : Hid ((if le4 (sum (l.take (4 + n))) = (l.drop (4 + n)).take 4 then ((0 : Int), (o0 : Int), (l.take (4 + n)).drop 4, 4 + n + 4) else ((21 : Int), (0 : Int), ([] : List UInt8), 0)) = G) := hGG
  clear hGG
  go_enter Try.func42, Try.ntmps42
  go_wp2_with fail
  refine HN.out.mono ?_
  rintro e w1 ⟨rfl, hw1⟩
  subst w1
  generalize w.alloc (.cells #[.int .i64 0, .slice none 0 0] 77) = W at *
  clear HN y0
  go_wp2_with fail
  have hlt : 4 + n + 4 ≤ l.length := by omega
  have HLW : Hid (LayB W (some ⟨b, off, none⟩) l) := HL.out.below B0.out
  have HSM : Hid (∀ W', Below W.heap.size W W' → Calls Try.prog 51 #[.slice (some ⟨b, off, none⟩) (4 + n) c] W' fun e w' => e = .returned (.int .u32 (sum (l.take (4 + n)) : Nat)) ∧ w' = W') := fun W' hb => by
    have h := rsum_any (some ⟨b, off, none⟩) c (l.take (4 + n)) W' (fun i o hi => (HLW.out.below hb) i o (by rw [List.getElem?_take] at hi; split at hi; exact hi; cases hi)) (by rw [List.length_take]; omega)
    rw [List.length_take, Nat.min_eq_left (by omega)] at h
    exact h
  have hsl := sum_lt (l.take (4 + n))
  generalize hS : sum (l.take (4 + n)) = S at *
  have HSS : Hid (sum (l.take (4 + n)) = S) := hS
  clear hS
  have hc8 : (8 : Int) + n ≤ c := by omega
  have e1 : IntKind.i64.wrap (4 + (n : Int)) = 4 + (n : Int) := by rw [IntKind.wrap_i64]; omega
  have e2 : IntKind.i64.wrap (8 + (n : Int)) = 8 + (n : Int) := by rw [IntKind.wrap_i64]; omega
  have e3 : wrap64 (4 + (n : Int)) = 4 + (n : Int) := IntWalk.wrap64_in _ (by omega)
  have e4 : wrap64 (8 + (n : Int)) = 8 + (n : Int) := IntWalk.wrap64_in _ (by omega)
  have t1 : ((8 : Int) + n).toNat = 8 + n := by omega
  have t2 : ((4 : Int) + n).toNat = 4 + n := by omega
  have b1 : 0 ≤ (8 : Int) + n ∧ (8 : Int) + n ≤ c := by omega
  have b2 : 0 ≤ (4 : Int) + n ∧ (4 : Int) + n ≤ c := by omega
  have b5 : 0 ≤ (4 : Int) + n ∧ (4 : Int) + n ≤ ((8 + n : Nat) : Int) := by omega
  have b6 : 0 ≤ (4 : Int) + n ∧ (4 : Int) + n ≤ 8 + (n : Int) := by omega
  have n1 : 8 + n - (4 + n) = 4 := by omega
  have n2 : ¬ c = 4 + n := by omega
  obtain ⟨TA, hTA⟩ : ∃ TA : ByteArray, TA = ⟨((l.drop (4 + n)).take 4).toArray⟩ := ⟨_, rfl⟩
  obtain ⟨TB, hTB⟩ : ∃ TB : ByteArray, TB = ⟨(le4 S).toArray⟩ := ⟨_, rfl⟩
  have hcv : ∀ w', Below W.heap.size W w' → Sem.run Try.prog (convert 25 9 (.slice (some ⟨b, off + (4 + n), none⟩) 4 (c - (4 + n)))) w' = .ok (.string TA) w' := fun w' hb => by
    rw [hTA]
    exact conv4 (HO.out.below (nxt B0.out hb)) hlt
  have HSM2 : Hid (∀ W', Below W.heap.size W W' → Calls Try.prog 51 #[.slice (some ⟨b, off, none⟩) (4 + n) c] W' fun e w' => e = .returned (.int .u32 (S : Nat)) ∧ w' = W') := HSM.out
  clear HSM
  have HTA : Hid (TA.toList = (l.drop (4 + n)).take 4) := by show _ = _; rw [hTA]; exact toList_mk _
  have HTB : Hid (TB = ⟨(le4 S).toArray⟩) := hTB
  have HTL : Hid (TB.toList = le4 S) := by show _ = _; rw [hTB]; exact toList_mk _
  have hx1 := hcv _ (Below.refl _ W).drew
  have HCV : Hid (∀ w', Below W.heap.size W w' → Sem.run Try.prog (convert 25 9 (.slice (some ⟨b, off + (4 + n), none⟩) 4 (c - (4 + n)))) w' = .ok (.string TA) w') := hcv
  have HBD : Hid (l.length ≤ c ∧ c ≤ 9223372036854775807 ∧ 4 + n + 4 ≤ l.length ∧ n ≤ 65536) := ⟨hcl, hc63, hlt, by omega⟩
  have HO0 : Hid (o0 < 256) := d0
  clear hcv hcl hc63 hdl h8 h8' hno d0 hk hk' hc3 hw64 h5 h5' hs hs' hc8 hlt HL HLW HNM hTA hTB
  go_cut [32] (fun s32 wc => Hid (s32 = .bool (! decide (le4 S = (l.drop (4 + n)).take 4))) ∧ Hid (Below W.heap.size W wc))
  case first =>
    go_region_with (first
      | (go_at_call 51; refine (HSM2.out _ (Below.refl _ _).drew).mono ?_; rintro e w2 ⟨rfl, hw2⟩; subst w2)
      | (go_at_call 50; refine (laid_any S hsl _).mono ?_; rintro e w3 ⟨v3, rfl, hs3, hb3⟩; have hx3 := HCV.out w3 (((Below.refl _ W).drew).trans hb3); obtain ⟨a3, c3, rfl⟩ := hs3.shape; obtain ⟨g3, rfl, -⟩ := hs3.spot (by simp [le4]); have hv3 := run_str (c := c3) hs3.lay; rw [← HTB.out, le4_length] at hv3; simp only [le4_length]))
    all_goals
      go_wp2_with fail
      go_meet
      refine ⟨?_, ((Below.refl _ W).drew).trans hb3⟩
      show _ = _
      rw [HTA.out, HTL.out]
      congr 2
      by_cases hq : le4 S = (l.drop (4 + n)).take 4
      · simp [hq]
      · have hq' : ¬ (l.drop (4 + n)).take 4 = le4 S := fun e => hq e.symm
        simp [hq, hq']
  case rest =>
    obtain ⟨hs32, BC⟩ := hcut
    have hs32' := hs32.out
    subst hs32'
    have XC : Hid (wc.heap[w.heap.size]? = some (.cells #[.int .i64 0, .slice none 0 0] 77 (0, 0))) := (BC.out.block _ (lt_of_block X0.out)).trans X0.out
    have BB : Hid (Below w.heap.size w wc) := nxt B0.out BC.out
    clear BC X0 B0 HSM2 HCV hx1 HTA HTB HTL hs32
    by_cases heq : le4 S = (l.drop (4 + n)).take 4
    · have HG : Hid (G = ((0 : Int), (o0 : Int), (l.take (4 + n)).drop 4, 4 + n + 4)) := by have := HGG.out; rw [if_pos heq] at this; exact this.symm
      rw [decide_eq_true heq]
      clear heq HGG
      simp only [Bool.not_true]
      obtain ⟨hcl, hc63, hlt, hn6⟩ := HBD.out
      have OD : Hid (Oct wc (some ⟨b, off + 4, none⟩) (c - 4) ((l.take (4 + n)).drop 4)) := (HO.out.below BB.out).part 4 (4 + n) (by omega) (by omega)
      have HML : Hid (((l.take (4 + n)).drop 4).length = n) := by show _ = _; simp; omega
      have CC : Hid (∀ W', Below wc.heap.size wc W' → Calls Try.prog 39 #[.slice (some ⟨b, off + 4, none⟩) n (c - 4)] W' fun e w' => ∃ s, e = .returned s ∧ Bs w' W'.heap.size s ((l.take (4 + n)).drop 4) ∧ Below W'.heap.size W' w') := fun W' hb => by
        have h := copied_any (some ⟨b, off + 4, none⟩) (c - 4) ((l.take (4 + n)).drop 4) W' (OD.out.below hb) (by rw [HML.out]; omega)
        rw [HML.out] at h
        exact h
      have z0 : wc.drew.cell? ⟨b, off, none⟩ = some (.int .u8 (o0 : Int)) := QW.out _ BB.out.drew
      have z1 : wc.cell? ⟨b, off, none⟩ = some (.int .u8 (o0 : Int)) := QW.out _ BB.out
      have hll : (0 : Int) < l.length := by omega
      have hl0 : (0 : Int) ≤ 0 ∧ (0 : Int) < l.length := by omega
      have f1 : 0 ≤ (4 : Int) + n ∧ (4 : Int) + n ≤ c := by omega
      have f2 : (4 : Int) ≤ ((4 + n : Nat) : Int) := by omega
      have f3 : (4 : Int) ≤ 4 + (n : Int) := by omega
      have f4 : 4 + n - 4 = n := by omega
      have f5 : ¬ c = 4 := by omega
      have f6 : IntKind.i64.wrap ((n : Int) + 8) = (n : Int) + 8 := by rw [IntKind.wrap_i64]; omega
      have f7 : wrap64 ((n : Int) + 8) = (n : Int) + 8 := IntWalk.wrap64_in _ (by omega)
      have f8 : IntKind.i64.wrap (o0 : Int) = (o0 : Int) := by rw [IntKind.wrap_i64]; have := HO0.out; omega
      clear b1 b2 b5 b6 n1 n2 e2 e4 t1 hll HBD hcl hc63 hlt hn6
      go_wp2_with fail
      go_region_with (first
        | (go_at_call 39; refine (CC.out _ (Below.refl _ _).drew).mono ?_; rintro e w5 ⟨v5, rfl, hs5, hb5⟩; have q0 := keepc hb5 _ _ z0; obtain ⟨t0, t1', r0, r1⟩ := of_cells (hb5.block _ (lt_of_block XC.out)) XC.out; obtain ⟨a5, c5, rfl⟩ := hs5.shape; rw [HML.out] at hs5 ⊢))
      all_goals
        have S5 : Hid (Bs w5 wc.heap.size (.slice a5 n c5) ((l.take (4 + n)).drop 4)) := hs5
        have B5 : Hid (Below w.heap.size w w5) := BB.out.drew.trans (hb5.mono BB.out.size)
        have hwc : w.heap.size < wc.heap.size := lt_of_block XC.out
        clear hs5 hb5
        go_wp2_with fail
        refine bodyPost_ret (v := .tuple #[.agg #[.int .i64 o0, .slice a5 n c5], .int .i64 ((n : Int) + 8), .int .i64 0]) (by simp [results, Try.results42, go_sem, t0, t1']) rfl ?_
        refine ⟨.slice a5 n c5, by rw [HG.out]; simp; omega, ?_, (B5.out.setCell (Nat.le_refl _) _).setCell (Nat.le_refl _) _⟩
        rw [HG.out]
        have h := S5.out
        refine Bs.up (B := wc.heap.size) (ownsRow_same h ?_) ?_
        · intro g hg
          have := (h.base g hg).1
          rw [Below.heap_setCell _ _ _ _ (by show g ≠ w.heap.size; omega), Below.heap_setCell _ _ _ _ (by show g ≠ w.heap.size; omega)]
        · intro g hg
          have := (h.base g hg).1
          omega
    · have HG : Hid (G = ((21 : Int), (0 : Int), ([] : List UInt8), 0)) := by have := HGG.out; rw [if_neg heq] at this; exact this.symm
      rw [decide_eq_false heq]
      clear heq HGG
      simp only [Bool.not_false]
      obtain ⟨z0, f0⟩ := cell_of XC.out 0
      obtain ⟨z1, f1⟩ := cell_of XC.out 1
      simp at z0 z1
      go_wp2_with fail
      refine bodyPost_ret (v := .tuple #[.agg #[.int .i64 0, .slice none 0 0], .int .i64 0, .int .i64 21]) (by simp [results, Try.results42, go_sem, z0, z1]) rfl ?_
      exact ⟨.slice none 0 0, by rw [HG.out]; simp, by rw [HG.out]; exact Bs.nil _ _, (BB.out.setCell (Nat.le_refl _) _).setCell (Nat.le_refl _) _⟩
end Go.Proofs.Ytocodkoanjcmkab
