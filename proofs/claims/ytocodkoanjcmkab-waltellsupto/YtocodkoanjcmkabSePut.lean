/-
  The program's Put.
-/
import Derived.Test.YtocodkoanjcmkabSeSum
namespace Go.Proofs.Ytocodkoanjcmkab
open Go.ChangeShapes Go.WideShapes Go.ChangeAt Go.RowKit Go.Deep
open Se

/-- A frame's octets ahead of the sum. -/
def hdr (k : Int) (d : List UInt8) : List UInt8 := [UInt8.ofNat k.toNat, UInt8.ofNat (d.length / 65536), UInt8.ofNat (d.length / 256), UInt8.ofNat d.length] ++ d
def frame (k : Int) (d : List UInt8) : List UInt8 := hdr k d ++ le4 (sum (hdr k d))
/-- Put's answer: the error, the octets. -/
def putR (k : Int) (d : List UInt8) : Int × List UInt8 := if k < 1 ∨ 255 < k then (22, []) else if 65536 < d.length then (5, []) else (0, frame k d)

/-- make of no octets, with room. -/
theorem wpList_mkB (w : World) {ops : Array Oper} {rest : List Oper} {o : Oper} {a : Act} {Q : Exit → Act → World → Prop} (hg : o.guard = none) (l c : Operand) (hop : o.op = Op.makeSlice 25 l c)
    (C : Int) (n : Nat) (hl : a.eval l = .int .i64 0) (hc : a.eval c = .int .i64 C) (hC : C = (n : Int)) (hn : n ≤ 281474976710656)
    (hK : ∀ s w', Bs w' w.heap.size s [] → Below w.heap.size w w' → wpList Try.prog ops Q rest (a.put o.dst s) w') : wpList Try.prog ops Q (o :: rest) a w := by
  obtain ⟨i0, hi, hz0, hz1, hz2⟩ := info_parts Try.infoU8
  refine wpList_make_own w hg l c 25 hop w.heap.size 5 i0 _ 1 Try.underlying25 hi hz0 hz1 .i64 .i64 C n hl hc hC (by rw [hz2]; omega) (by unfold maxLen; omega) (Nat.le_refl _) ?_
  intro w' h1 h2
  exact hK _ w' h1 ⟨h2.os, h2.tape, h2.output, h2.size, fun k hk => h2.block k hk (by simp)⟩

theorem index4 (v0 v1 v2 v3 v : Value) (m : Nat) (w : World) (h : (#[v0, v1, v2, v3] : Array Value)[m]? = some v) :
    Sem.run Try.prog (Instr.index 97 (.agg #[v0, v1, v2, v3]) (.int .i64 m)) w = .ok v w := by
  have hm : m < 4 := by have := (Array.getElem?_eq_some_iff.1 h).1; simpa using this
  obtain ⟨i0, hi, hz0, hz1, hz2⟩ := info_parts Try.infoU8
  have hs : ∀ w, Sem.run Try.prog (sizeOf 5) w = .ok 1 w := fun w => by simp [sizeOf, typeInfo, hi, hz1]
  have ha : ∀ w, Sem.run Try.prog (isAgg 5) w = .ok false w := fun w => by simp [isAgg, run_underlying Try.underlying5]
  have e : m = 0 ∨ m = 1 ∨ m = 2 ∨ m = 3 := by omega
  rcases e with rfl | rfl | rfl | rfl <;> simp at h <;> subst h <;> simp [Instr.index, asIntOf, run_underlying Try.underlying97, part, hs, ha]

set_option maxRecDepth 100000 in
set_option maxHeartbeats 1600000 in
theorem put_any (k : Int) (a : Option Addr) (c : Nat) (d : List UInt8) (w : World) (ho : Oct w a c d) :
    Calls Try.prog 44 #[.agg #[.int .i64 k, .slice a d.length c]] w fun e w' => ∃ s, e = .returned (.tuple #[s, .int .i64 (putR k d).1]) ∧ Bs w' w.heap.size s (putR k d).2 ∧ Below w.heap.size w w' := by
  have HO : Hid (Oct w a c d) := ho
  have hdl := ho.2.2.2.1
  clear ho
  unfold putR
  by_cases h1 : k < 1
  · rw [if_pos (Or.inl h1)]
    go_enter Try.func44, Try.ntmps44
    go_wp2_with fail
    refine bodyPost_ret (v := .tuple #[.slice none 0 0, .int .i64 22]) (by simp [results, Try.results44, go_sem]) rfl ⟨_, rfl, Bs.nil _ _, below_one _ _⟩
  by_cases h2 : 255 < k
  · rw [if_pos (Or.inr h2)]
    go_enter Try.func44, Try.ntmps44
    go_wp2_with fail
    refine bodyPost_ret (v := .tuple #[.slice none 0 0, .int .i64 22]) (by simp [results, Try.results44, go_sem]) rfl ⟨_, rfl, Bs.nil _ _, below_one _ _⟩
  rw [if_neg (by omega)]
  by_cases h3 : 65536 < d.length
  · rw [if_pos h3]
    have h3' : (65536 : Int) < d.length := by omega
    go_enter Try.func44, Try.ntmps44
    go_wp2_with fail
    refine bodyPost_ret (v := .tuple #[.slice none 0 0, .int .i64 5]) (by simp [results, Try.results44, go_sem]) rfl ⟨_, rfl, Bs.nil _ _, below_one _ _⟩
  rw [if_neg h3]
  have h3' : ¬ (65536 : Int) < d.length := by omega
  go_enter Try.func44, Try.ntmps44
  go_wp2_with (refine wpList_mkB _ rfl _ _ rfl _ (8 + d.length) rfl rfl ?c0 ?c1 ?_)
  case c0 => omega
  case c1 => omega
  intro s2 w2 hs2 hb2
  have X2 : Hid (w2.heap[w.heap.size]? = some (.cells #[.int .i64 k, .slice a d.length c] 84 (0, 0))) := (hb2.block _ (by simp)).trans (heap_alloc_new _ _)
  have S2 : Hid (Bs w2 (w.heap.size + 1) s2 []) := hs2
  have B2 : Hid (Below w.heap.size w w2) := (below_one w _).trans (hb2.mono (by omega))
  have hw2 : w.heap.size < w2.heap.size := lt_of_block X2.out
  clear hs2 hb2
  obtain ⟨x0, -⟩ := cell_of X2.out 0
  obtain ⟨x1, -⟩ := cell_of X2.out 1
  simp at x0 x1
  obtain ⟨h4, hh4⟩ : ∃ h4, h4 = [UInt8.ofNat k.toNat, UInt8.ofNat (d.length / 65536), UInt8.ofNat (d.length / 256), UInt8.ofNat d.length] := ⟨_, rfl⟩
  have H4 : Hid (h4 = [UInt8.ofNat k.toNat, UInt8.ofNat (d.length / 65536), UInt8.ofNat (d.length / 256), UInt8.ofNat d.length]) := hh4
  have H4L : Hid (h4.length = 4) := by rw [hh4]; rfl
  have H4C : Hid (cellsO h4 = [.int .u8 k, .int .u8 ((d.length : Int) / 65536), .int .u8 ((d.length : Int) / 256 % 256), .int .u8 ((d.length : Int) % 256)]) := by
    show _ = _
    rw [hh4]
    simp only [cellsO, List.map_cons, List.map_nil, UInt8.toNat_ofNat', List.cons.injEq, Value.int.injEq, true_and, and_true]
    refine ⟨by omega, by omega, by omega, by omega⟩
  clear hh4
  go_wp2_with (at_builtin; refine wpList_app _ rfl _ _ rfl (w.heap.size + 1) _ [] h4 rfl ?d0 ⟨w2.heap.size, 0, none⟩ 4 ?d4 ?d1 ?d2 ?d3 ?_)
  case d0 => exact S2.out.below (below_one _ _)
  case d4 => rw [H4L.out]; rfl
  case d1 => exact new_octets w2 _ h4 _ (by rw [H4C.out])
  case d2 => have := H4L.out; simp; omega
  case d3 => simp; omega
  intro s3 w3 hs3 hr3
  have S3 : Hid (Bs w3 (w.heap.size + 1) s3 h4) := hs3
  have B3' : Below (w.heap.size + 1) w2 w3 := ((below_one w2 _).mono (by omega)).trans (hr3.below (by simp; omega) fun g hg => (S2.out.base g hg).1)
  have B3 : Hid (Below w.heap.size w w3) := B2.out.trans (B3'.mono (by omega))
  have X3 : Hid (w3.heap[w.heap.size]? = some (.cells #[.int .i64 k, .slice a d.length c] 84 (0, 0))) := (B3'.block _ (by omega)).trans X2.out
  have hw3 : w.heap.size < w3.heap.size := lt_of_block X3.out
  clear hs3 hr3 B3' X2 S2 B2 x0 x1 hw2 H4C
  obtain ⟨x0, -⟩ := cell_of X3.out 0
  obtain ⟨x1, -⟩ := cell_of X3.out 1
  simp at x0 x1
  go_wp2_with (at_builtin; refine wpList_appO _ rfl _ _ rfl (w.heap.size + 1) _ h4 d rfl S3.out a c rfl ?d0 ?d2 ?d3 ?_)
  case d0 => exact HO.out.below B3.out
  case d2 => have := H4L.out; omega
  case d3 => omega
  intro s4 w4 hs4 hr4
  have HH : Hid (h4 ++ d = hdr k d) := by show _ = _; rw [H4.out]; rfl
  rw [HH.out] at hs4
  have S4 : Hid (Bs w4 (w.heap.size + 1) s4 (hdr k d)) := hs4
  have hl4 : (hdr k d).length ≤ 100000 := by rw [← HH.out, List.length_append, H4L.out]; omega
  have B4 : Hid (Below w.heap.size w w4) := B3.out.trans ((hr4.below (B := w.heap.size + 1) (by omega) fun g hg => (S3.out.base g hg).1).mono (by omega))
  have hw4 : w.heap.size < w4.heap.size := Nat.lt_of_lt_of_le hw3 hr4.grown.size
  clear hs4 hr4 S3 B3 X3 x0 x1 HH H4 H4L hw3
  obtain ⟨a4, c4, rfl⟩ := S4.out.shape
  generalize hH : hdr k d = H at *
  have HF : Hid (frame k d = H ++ le4 (sum H)) := by show _ = _; rw [← hH]; rfl
  clear hH
  have HC : Hid (Calls Try.prog 52 #[.slice a4 H.length c4] w4 _) := sealOf_any a4 c4 H w4 S4.out.lay (by omega)
  obtain ⟨v0, v1, v2, v3, hv⟩ : ∃ v0 v1 v2 v3, (cellsO (le4 (sum H))) = [v0, v1, v2, v3] := ⟨_, _, _, _, rfl⟩
  have HV : Hid (cellsO (le4 (sum H)) = [v0, v1, v2, v3]) := hv
  rw [hv] at HC
  clear hv
  go_wp2_with fail
  refine HC.out.mono ?_
  rintro e w5 ⟨rfl, hb5⟩
  have S5 : Hid (Bs w5 (w.heap.size + 1) (.slice a4 H.length c4) H) := S4.out.below hb5
  have B5 : Hid (Below w.heap.size w w5) := nxt B4.out hb5
  have hw5 : w.heap.size < w5.heap.size := Nat.lt_of_lt_of_le hw4 hb5.size
  clear hb5 S4 B4 hw4 HC
  have hsl := sum_lt H
  generalize hs : sum H = s at *
  have HSS : Hid (frame k d = H ++ le4 s) := HF.out
  clear HF hs
  go_wp2_with fail
  go_loopw [5, 45] (fun v i wr => ∃ m : Nat, m ≤ 4 ∧ i = .int .i64 m ∧ Hid (Bs wr (w.heap.size + 1) v (H ++ (le4 s).take m)) ∧ Hid (Below w.heap.size w wr ∧ w.heap.size < wr.heap.size)) (fun _ i _ => 4 - (intOf i).toNat)
  case atStart => exact ⟨0, by omega, rfl, by show Bs _ _ _ _; simpa using S5.out, B5.out, hw5⟩
  case round =>
    obtain ⟨m, hm, rfl, HR, HB⟩ := hrel
    by_cases hlt : m < 4
    · have hm1 : (m : Int) < 4 := by omega
      obtain ⟨o, hoo⟩ : ∃ o, (le4 s)[m]? = some o := ⟨_, List.getElem?_eq_getElem (by rw [le4_length]; exact hlt)⟩
      have hv : (#[v0, v1, v2, v3] : Array Value)[m]? = some (.int .u8 (o.toNat : Int)) := by
        have e : (#[v0, v1, v2, v3] : Array Value)[m]? = ([v0, v1, v2, v3] : List Value)[m]? := by simp
        rw [e, ← HV.out]
        simp [cellsO, hoo]
      have hix : ∀ w', Sem.run Try.prog (Instr.index 97 (.agg #[v0, v1, v2, v3]) (.int .i64 m)) w' = .ok (.int .u8 (o.toNat : Int)) w' := fun w' => index4 _ _ _ _ _ m w' hv
      have HT : Hid ((le4 s).take (m + 1) = (le4 s).take m ++ [o]) := by
        show _ = _
        rw [List.take_succ_eq_append_getElem (by rw [le4_length]; exact hlt)]
        rw [List.getElem?_eq_getElem (by rw [le4_length]; exact hlt)] at hoo
        simp only [Option.some.injEq] at hoo
        rw [hoo]
      clear hv hoo
      go_wp2_with (at_builtin; refine wpList_app _ rfl _ _ rfl (w.heap.size + 1) _ (H ++ (le4 s).take m) [o] rfl ?d0 ⟨wr.heap.size, 0, none⟩ 1 rfl ?d1 ?d2 ?d3 ?_)
      case d0 => exact HR.out.below (below_one _ _)
      case d1 => exact new_octets wr _ _ _ (by simp [cellsO])
      case d2 => have := List.length_take_le m (le4 s); simp only [List.length_append, List.length_singleton]; omega
      case d3 => have := HB.out.2; simp; omega
      intro s6 w6 hs6 hr6
      have S6 : Hid (Bs w6 (w.heap.size + 1) s6 (H ++ (le4 s).take (m + 1))) := by
        show Bs _ _ _ _
        rw [HT.out]
        exact hs6
      have B6 : Hid (Below w.heap.size w w6 ∧ w.heap.size < w6.heap.size) := by
        have h1 := hr6.grown.size
        have h2 := HB.out.2
        simp at h1
        refine ⟨(nxt HB.out.1 (below_one _ _)).trans ((hr6.below (B := w.heap.size + 1) (by simp; omega) fun g hg => (HR.out.base g hg).1).mono (by omega)), by omega⟩
      clear hs6 hr6
      go_wp2_with fail
      go_roundw
      case rel => exact ⟨m + 1, by omega, by go_num, S6.out, B6.out⟩
      case measure => simp [intOf]; omega
    · have hme : m = 4 := by omega
      subst hme
      go_wp2_with fail
      refine bodyPost_ret (v := .tuple #[u5, .int .i64 0]) (by simp [results, Try.results44, go_sem]) rfl ⟨_, rfl, ?_, HB.out.1⟩
      rw [HSS.out]
      have := HR.out
      rw [List.take_of_length_le (by rw [le4_length]; omega)] at this
      exact this.up fun g hg => by have := (this.base g hg).1; omega
end Go.Proofs.Ytocodkoanjcmkab
