/-
  PackBack holds for every value and all octets: a value comes back from its octets; what is read is built again of what was read. No condition.
-/
import Derived.Test.YtghogejjijdfeabPkLaw
namespace Go.Proofs.Ytghogejjijdfeab.packBack
open Go.ChangeShapes Go.WideShapes Go.ChangeAt Go.RowKit
open Fl

set_option maxRecDepth 100000 in
set_option maxHeartbeats 6400000 in
theorem walk (n : Nat) (u : V n) (x : Value) (bs : List UInt8) (xb : Value) (w : World) (hu : Lay w n x u) (hb : BytesIs w xb bs) :
    Calls Try.prog 4 #[x, xb] w fun e w' => e = .returned (.bool true) ∧ Below w.heap.size w w' := by
  obtain ⟨k, b, t, ka, kl, kc, ia, il, ic, rfl⟩ := Lay.shape n hu
  obtain ⟨ba, bc, rfl, hb⟩ := hb
  have HU : Hid (Lay w n (mk k b t ka kl kc ia il ic) u) := hu
  have HB : Hid (Oct w ba bc bs) := hb
  clear hu hb
  go_enter Try.func4, Try.ntmps4
  go_wp2_with fail
  refine (pkalive_any _).mono ?_
  rintro e w1 ⟨rfl, hb1⟩
  have X1 : Hid (w1.heap[w.heap.size]? = some (.cells #[.int .i64 k, .int .u64 b, .string t, .slice ka kl kc, .slice ia il ic] 26 (0, 0))) := (hb1.block _ (by simp)).trans (heap_alloc_new _ _)
  have B1 : Hid (Below w.heap.size w w1) := nxt (below_one _ _) hb1
  clear hb1
  obtain ⟨p0, p1, p2, p3, p4, -⟩ := box_cells X1.out
  by_cases hcu : chk u = 0
  · obtain ⟨v, hL, hcv⟩ := Lay.eight hcu
    have HV : Hid (Lay w 8 (mk k b t ka kl kc ia il ic) v) := hL _ _ HU.out
    have HCV : Hid (chk v = 0) := hcv
    clear hL hcv hcu HU
    go_wp2_with fail
    have CE := encode_any 8 v _ w1 (Lay.below _ HV.out B1.out)
    rw [HCV.out, if_pos rfl] at CE
    refine CE.mono ?_
    rintro e w2 ⟨s2, rfl, hs2, hb2⟩
    obtain ⟨a2, c2, rfl⟩ := hs2.shape
    have hlen : (enc 8 v).length ≤ 100000 := by have := enc_len 8 v (ok_of_chk HCV.out); have := cnt_of_chk HCV.out; omega
    have O2 : Hid (Oct w2 a2 c2 (enc 8 v)) := hs2.oct (by omega)
    have X2 : Hid (w2.heap[w.heap.size]? = some (.cells #[.int .i64 k, .int .u64 b, .string t, .slice ka kl kc, .slice ia il ic] 26 (0, 0))) := (hb2.block _ (lt_of_block X1.out)).trans X1.out
    have B2 : Hid (Below w.heap.size w w2) := nxt B1.out hb2
    have HDV : Hid (Calls Try.prog 13 #[.slice a2 (enc 8 v).length c2] w2 _) := decode_any a2 c2 (enc 8 v) w2 O2.out
    rw [dec_enc HCV.out (Lay.bits _ HV.out)] at HDV
    clear CE hs2 hb2 X1 B1 p0 p1 p2 p3 p4 hlen
    generalize (enc 8 v).length = lv at *
    go_wp2_with fail
    refine (num_any _ _).mono ?_
    rintro e w3 ⟨rfl, rfl⟩
    go_wp2_with fail
    refine HDV.out.mono ?_
    rintro e w3 ⟨y3, F3, rfl, ho3, -, hb3⟩
    have hl3 := Own.lay _ ho3
    obtain ⟨k3, b3, t3, ka3, kl3, kc3, ia3, il3, ic3, rfl⟩ := Lay.shape _ hl3
    have L3 : Hid (Lay w3 8 (mk k3 b3 t3 ka3 kl3 kc3 ia3 il3 ic3) v) := hl3
    have X3 : Hid (w3.heap[w.heap.size]? = some (.cells #[.int .i64 k, .int .u64 b, .string t, .slice ka kl kc, .slice ia il ic] 26 (0, 0))) := (hb3.block _ (lt_of_block X2.out)).trans X2.out
    have B3 : Hid (Below w.heap.size w w3) := nxt B2.out hb3
    clear ho3 hl3 hb3 X2 B2 O2 HDV
    go_wp2_with fail
    refine (num_any _ _).mono ?_
    rintro e w4 ⟨rfl, rfl⟩
    have Y4 : Hid ((w3.alloc (.cells #[.int .i64 k3, .int .u64 b3, .string t3, .slice ka3 kl3 kc3, .slice ia3 il3 ic3] 26)).heap[w3.heap.size]? = some (.cells #[.int .i64 k3, .int .u64 b3, .string t3, .slice ka3 kl3 kc3, .slice ia3 il3 ic3] 26 (0, 0))) := heap_alloc_new _ _
    have B4 : Hid (Below w3.heap.size w3 (w3.alloc (.cells #[.int .i64 k3, .int .u64 b3, .string t3, .slice ka3 kl3 kc3, .slice ia3 il3 ic3] 26))) := below_one _ _
    generalize w3.alloc (.cells #[.int .i64 k3, .int .u64 b3, .string t3, .slice ka3 kl3 kc3, .slice ia3 il3 ic3] 26) = w4 at *
    have X4 : Hid (w4.heap[w.heap.size]? = some (.cells #[.int .i64 k, .int .u64 b, .string t, .slice ka kl kc, .slice ia il ic] 26 (0, 0))) := (B4.out.block _ (lt_of_block X3.out)).trans X3.out
    have BB4 : Hid (Below w.heap.size w w4) := nxt B3.out B4.out
    have L4 : Hid (Lay w4 8 (mk k3 b3 t3 ka3 kl3 kc3 ia3 il3 ic3) v) := Lay.below _ L3.out B4.out
    clear X3 B3 L3 B4
    obtain ⟨p0, p1, p2, p3, p4, -⟩ := box_cells X4.out
    obtain ⟨q0, q1, q2, q3, q4, -⟩ := box_cells Y4.out
    go_wp2_with fail
    have CS := same_any 8 v v _ _ w4 L4.out (Lay.below _ HV.out BB4.out)
    rw [one_true rfl] at CS
    refine CS.mono ?_
    rintro e w9 ⟨rfl, hb9⟩
    have XV : Hid (w9.heap[w.heap.size]? = some (.cells #[.int .i64 k, .int .u64 b, .string t, .slice ka kl kc, .slice ia il ic] 26 (0, 0))) := (hb9.block _ (lt_of_block X4.out)).trans X4.out
    have BW : Hid (Below w.heap.size w w9) := nxt BB4.out hb9
    clear CS hb9 X4 BB4 L4 Y4 p0 p1 p2 p3 p4 q0 q1 q2 q3 q4 HV HCV
    obtain ⟨p0, p1, p2, p3, p4, -⟩ := box_cells XV.out
    have HD : Hid (∀ w', Below w.heap.size w w' → Calls Try.prog 13 #[.slice ba bs.length bc] w' _) := fun w' hb => decode_any ba bc bs w' (HB.out.below hb)
    by_cases hd0 : (decR bs).1 = 0
    · obtain ⟨v', e1, e2, e3, e4⟩ := dec_back hd0
      rw [e1] at HD
      have HE : Hid (bs = enc 8 v') := e2
      have HC' : Hid (chk v' = 0) := e3
      clear hd0 e1 e2 e3 e4
      go_wp2_with fail
      refine (HD.out _ BW.out).mono ?_
      rintro e w5 ⟨y5, F5, rfl, ho5, -, hb5⟩
      have hl5 := Own.lay _ ho5
      obtain ⟨k5, b5, t5, ka5, kl5, kc5, ia5, il5, ic5, rfl⟩ := Lay.shape _ hl5
      have L5 : Hid (Lay w5 8 (mk k5 b5 t5 ka5 kl5 kc5 ia5 il5 ic5) v') := hl5
      have B5 : Hid (Below w.heap.size w w5) := nxt BW.out hb5
      clear ho5 hl5 hb5 p0 p1 p2 p3 p4
      go_wp2_with fail
      refine (num_any _ _).mono ?_
      rintro e w6 ⟨rfl, rfl⟩
      have X6 : Hid ((w5.alloc (.cells #[.int .i64 k5, .int .u64 b5, .string t5, .slice ka5 kl5 kc5, .slice ia5 il5 ic5] 26)).heap[w5.heap.size]? = some (.cells #[.int .i64 k5, .int .u64 b5, .string t5, .slice ka5 kl5 kc5, .slice ia5 il5 ic5] 26 (0, 0))) := heap_alloc_new _ _
      have B6 : Hid (Below w5.heap.size w5 (w5.alloc (.cells #[.int .i64 k5, .int .u64 b5, .string t5, .slice ka5 kl5 kc5, .slice ia5 il5 ic5] 26))) := below_one _ _
      generalize w5.alloc (.cells #[.int .i64 k5, .int .u64 b5, .string t5, .slice ka5 kl5 kc5, .slice ia5 il5 ic5] 26) = w6 at *
      obtain ⟨q0, q1, q2, q3, q4, -⟩ := box_cells X6.out
      have L6 : Hid (Lay w6 8 (mk k5 b5 t5 ka5 kl5 kc5 ia5 il5 ic5) v') := Lay.below _ L5.out B6.out
      have BB6 : Hid (Below w.heap.size w w6) := nxt B5.out B6.out
      clear L5 B5 B6
      go_wp2_with fail
      have CE := encode_any 8 v' _ w6 L6.out
      rw [HC'.out, if_pos rfl] at CE
      refine CE.mono ?_
      rintro e w7 ⟨s7, rfl, hs7, hb7⟩
      obtain ⟨a7, c7, rfl⟩ := hs7.shape
      have L7 : Hid (LayB w7 a7 (enc 8 v')) := hs7.lay
      have B7 : Hid (Below w.heap.size w w7) := nxt BB6.out hb7
      have HSB : Hid (Calls Try.prog 17 #[.slice a7 (enc 8 v').length c7, .slice ba bs.length bc] w7 fun e w' => e = .returned (.bool true) ∧ w' = w7) := by
        have := sameB_any (enc 8 v') bs a7 ba c7 bc w7 L7.out (HB.out.1.below B7.out)
        show Calls _ _ _ _ _
        rw [← HE.out] at this ⊢
        simpa using this
      clear CE hs7 hb7 L7 L6 HE HC'
      generalize (enc 8 v').length = l7 at *
      go_wp2_with fail
      refine (num_any _ _).mono ?_
      rintro e w8 ⟨rfl, rfl⟩
      go_wp2_with fail
      refine HSB.out.mono ?_
      rintro e w9 ⟨rfl, rfl⟩
      go_wp2_with fail
      go_ret
      exact ⟨rfl, B7.out⟩
    · have hz := dec_err hd0
      rw [hz] at HD
      have hd1 : ((decR bs).1 == 0) = false := by simpa using hd0
      clear hd0 hz
      generalize (decR bs).1 = er at *
      go_wp2_with fail
      refine (HD.out _ BW.out).mono ?_
      rintro e w5 ⟨y5, F5, rfl, ho5, -, hb5⟩
      have hl5 := Own.lay _ ho5
      obtain ⟨k5, b5, t5, ka5, kl5, kc5, ia5, il5, ic5, rfl⟩ := Lay.shape _ hl5
      have L5 : Hid (Lay w5 zeroPT.1 (mk k5 b5 t5 ka5 kl5 kc5 ia5 il5 ic5) zeroPT.2) := hl5
      have B5 : Hid (Below w.heap.size w w5) := nxt BW.out hb5
      clear ho5 hl5 hb5 p0 p1 p2 p3 p4
      go_wp2_with fail
      refine (num_any _ _).mono ?_
      rintro e w6 ⟨rfl, rfl⟩
      go_wp2_with fail
      have CS := same_any _ zeroPT.2 zeroPT.2 _ _ _ (Lay.below _ L5.out (below_one w5 (.cells #[.int .i64 k5, .int .u64 b5, .string t5, .slice ka5 kl5 kc5, .slice ia5 il5 ic5] 26))) (Own.lay _ (own_zeroPT _))
      rw [one_true rfl] at CS
      refine CS.mono ?_
      rintro e w7 ⟨rfl, hb7⟩
      go_wp2_with fail
      go_ret
      exact ⟨rfl, nxt (nxt B5.out (below_one _ _)) hb7⟩
  · have h2 : (chk u == 0) = false := by simpa using hcu
    have CE := encode_any n u _ w1 (Lay.below _ HU.out B1.out)
    rw [if_neg hcu] at CE
    have HCE : Hid (Calls Try.prog 11 #[mk k b t ka kl kc ia il ic] w1 _) := CE
    clear hcu CE
    generalize chk u = cu at *
    go_wp2_with fail
    refine HCE.out.mono ?_
    rintro e w2 ⟨s2, rfl, hs2, hb2⟩
    have XV : Hid (w2.heap[w.heap.size]? = some (.cells #[.int .i64 k, .int .u64 b, .string t, .slice ka kl kc, .slice ia il ic] 26 (0, 0))) := (hb2.block _ (lt_of_block X1.out)).trans X1.out
    have BW : Hid (Below w.heap.size w w2) := nxt B1.out hb2
    clear hs2 hb2 X1 B1 p0 p1 p2 p3 p4
    go_wp2_with fail
    refine (num_any _ _).mono ?_
    rintro e w9 ⟨rfl, rfl⟩
    obtain ⟨p0, p1, p2, p3, p4, -⟩ := box_cells XV.out
    have HD : Hid (∀ w', Below w.heap.size w w' → Calls Try.prog 13 #[.slice ba bs.length bc] w' _) := fun w' hb => decode_any ba bc bs w' (HB.out.below hb)
    by_cases hd0 : (decR bs).1 = 0
    · obtain ⟨v', e1, e2, e3, e4⟩ := dec_back hd0
      rw [e1] at HD
      have HE : Hid (bs = enc 8 v') := e2
      have HC' : Hid (chk v' = 0) := e3
      clear hd0 e1 e2 e3 e4
      go_wp2_with fail
      refine (HD.out _ BW.out).mono ?_
      rintro e w5 ⟨y5, F5, rfl, ho5, -, hb5⟩
      have hl5 := Own.lay _ ho5
      obtain ⟨k5, b5, t5, ka5, kl5, kc5, ia5, il5, ic5, rfl⟩ := Lay.shape _ hl5
      have L5 : Hid (Lay w5 8 (mk k5 b5 t5 ka5 kl5 kc5 ia5 il5 ic5) v') := hl5
      have B5 : Hid (Below w.heap.size w w5) := nxt BW.out hb5
      clear ho5 hl5 hb5 p0 p1 p2 p3 p4
      go_wp2_with fail
      refine (num_any _ _).mono ?_
      rintro e w6 ⟨rfl, rfl⟩
      have X6 : Hid ((w5.alloc (.cells #[.int .i64 k5, .int .u64 b5, .string t5, .slice ka5 kl5 kc5, .slice ia5 il5 ic5] 26)).heap[w5.heap.size]? = some (.cells #[.int .i64 k5, .int .u64 b5, .string t5, .slice ka5 kl5 kc5, .slice ia5 il5 ic5] 26 (0, 0))) := heap_alloc_new _ _
      have B6 : Hid (Below w5.heap.size w5 (w5.alloc (.cells #[.int .i64 k5, .int .u64 b5, .string t5, .slice ka5 kl5 kc5, .slice ia5 il5 ic5] 26))) := below_one _ _
      generalize w5.alloc (.cells #[.int .i64 k5, .int .u64 b5, .string t5, .slice ka5 kl5 kc5, .slice ia5 il5 ic5] 26) = w6 at *
      obtain ⟨q0, q1, q2, q3, q4, -⟩ := box_cells X6.out
      have L6 : Hid (Lay w6 8 (mk k5 b5 t5 ka5 kl5 kc5 ia5 il5 ic5) v') := Lay.below _ L5.out B6.out
      have BB6 : Hid (Below w.heap.size w w6) := nxt B5.out B6.out
      clear L5 B5 B6
      go_wp2_with fail
      have CE := encode_any 8 v' _ w6 L6.out
      rw [HC'.out, if_pos rfl] at CE
      refine CE.mono ?_
      rintro e w7 ⟨s7, rfl, hs7, hb7⟩
      obtain ⟨a7, c7, rfl⟩ := hs7.shape
      have L7 : Hid (LayB w7 a7 (enc 8 v')) := hs7.lay
      have B7 : Hid (Below w.heap.size w w7) := nxt BB6.out hb7
      have HSB : Hid (Calls Try.prog 17 #[.slice a7 (enc 8 v').length c7, .slice ba bs.length bc] w7 fun e w' => e = .returned (.bool true) ∧ w' = w7) := by
        have := sameB_any (enc 8 v') bs a7 ba c7 bc w7 L7.out (HB.out.1.below B7.out)
        show Calls _ _ _ _ _
        rw [← HE.out] at this ⊢
        simpa using this
      clear CE hs7 hb7 L7 L6 HE HC'
      generalize (enc 8 v').length = l7 at *
      go_wp2_with fail
      refine (num_any _ _).mono ?_
      rintro e w8 ⟨rfl, rfl⟩
      go_wp2_with fail
      refine HSB.out.mono ?_
      rintro e w9 ⟨rfl, rfl⟩
      go_wp2_with fail
      go_ret
      exact ⟨rfl, B7.out⟩
    · have hz := dec_err hd0
      rw [hz] at HD
      have hd1 : ((decR bs).1 == 0) = false := by simpa using hd0
      clear hd0 hz
      generalize (decR bs).1 = er at *
      go_wp2_with fail
      refine (HD.out _ BW.out).mono ?_
      rintro e w5 ⟨y5, F5, rfl, ho5, -, hb5⟩
      have hl5 := Own.lay _ ho5
      obtain ⟨k5, b5, t5, ka5, kl5, kc5, ia5, il5, ic5, rfl⟩ := Lay.shape _ hl5
      have L5 : Hid (Lay w5 zeroPT.1 (mk k5 b5 t5 ka5 kl5 kc5 ia5 il5 ic5) zeroPT.2) := hl5
      have B5 : Hid (Below w.heap.size w w5) := nxt BW.out hb5
      clear ho5 hl5 hb5 p0 p1 p2 p3 p4
      go_wp2_with fail
      refine (num_any _ _).mono ?_
      rintro e w6 ⟨rfl, rfl⟩
      go_wp2_with fail
      have CS := same_any _ zeroPT.2 zeroPT.2 _ _ _ (Lay.below _ L5.out (below_one w5 (.cells #[.int .i64 k5, .int .u64 b5, .string t5, .slice ka5 kl5 kc5, .slice ia5 il5 ic5] 26))) (Own.lay _ (own_zeroPT _))
      rw [one_true rfl] at CS
      refine CS.mono ?_
      rintro e w7 ⟨rfl, hb7⟩
      go_wp2_with fail
      go_ret
      exact ⟨rfl, nxt (nxt B5.out (below_one _ _)) hb7⟩

set_option maxRecDepth 100000 in
set_option maxHeartbeats 1600000 in
theorem lifted (os : Os) (started : os.Started) (H : Type) (enc : TypeId × Value → H) :
    ReturnsInHanded {} Try.checked os 4 .any (Rows.packBackSpec.pre6 enc Try.prog Try.f4 Rows.packBackRow.domain false) (Rows.packBackSpec.post enc Try.prog Try.f4 false true false false) := by
  refine returnsInHanded_of_change_sized (C := Try.checked) Try.own started (by kernel_rfl) Try.func4
    (ChangeSpec.witness6 (enc := enc) (C := Try.checked) false ⟨#[], #[.agg #[.int .i64 0, .int .u64 0, .string ⟨#[]⟩, .slice none 0 0, .slice none 0 0], .slice none 0 0], []⟩ 8 (by kernel_rfl) (by kernel_rfl) (by kernel_rfl) (by kernel_rfl)) ?_
  intro W base args ds gs before hval0 hW _ hsz0 _
  have hsz : (DataW.weightsEach Try.prog (Try.f4.params.toList ++ Rows.packBackSpec.plain.varTypes Try.prog) (ds ++ gs)).all (· ≤ reachBytes) = true := hsz0
  have hval : ∀ (j : Nat) t v, Try.f4.params[j]? = some t → args[j]? = some v → Value.okWide Try.prog W .any base t v := hval0
  have hW' := hW
  obtain ⟨p, q, hA0, hV, rfl, hfz, hnd⟩ := hW
  have hA : DataW.TrodAll enc Try.prog W 0 (fun _ => true) true Try.f4.params.toList args.toList ds p := hA0
  rw [Try.params4] at hA hval hsz
  obtain ⟨v0, vs0, d0, ds0, p0, q0, hargs, rfl, rfl, h0, r0⟩ := trodAll_cons hA
  obtain ⟨v1, vs1, d1, ds1, p1, q1, rfl, rfl, rfl, h1, r1⟩ := trodAll_cons r0
  obtain ⟨rfl, rfl, rfl⟩ := trodAll_nil r1
  obtain rfl : args = #[v0, v1] := by cases args; simp_all
  obtain ⟨rfl, rfl⟩ := trodVars_none hV
  clear hA0 hval0
  simp only [List.append_nil] at hW' hsz
  have hlt : ∀ x ∈ p0 ++ p1, x.block < W.heap.size := fun x hx => hW'.lt x (by simpa using hx)
  have hall : ∀ x ∈ DataW.weightsEach Try.prog [26, 27] [d0, d1], x ≤ reachBytes := fun x hx => of_decide_eq_true (List.all_eq_true.1 hsz x hx)
  have g0 : ∀ x ∈ d0.weights Try.prog 26, x ≤ reachBytes := fun x hx => hall x (DataW.weights_mem_each (j := 0) rfl rfl x hx)
  obtain ⟨u0, l0⟩ := lay_of_arg (k := SizeOf.sizeOf d0) (hval 0 _ v0 rfl rfl) h0 (by omega) g0
  have g1 : ∀ x ∈ d1.weights Try.prog 27, x ≤ reachBytes := fun x hx => hall x (DataW.weights_mem_each (j := 1) rfl rfl x hx)
  obtain ⟨u1, l1⟩ := bytes_of_arg (hval 1 _ v1 rfl rfl) h1 g1
  refine (walk _ u0 v0 u1 v1 W l0 l1).mono fun e W' ⟨he, bel⟩ => ?_
  subst he
  exact ⟨_, rfl, _, _, _, [], _, [], hW', trodAll_mk1 (shut_bool Try.underlying4 _), (trodAll_cons_mk (Below.trod Try.laidOut (by kernel_rfl) (of_decide_eq_true (by kernel_rfl)) h0 bel (fun x hx => hlt x (by simp [hx]))) (trodAll_cons_mk (Below.trod Try.laidOut (by kernel_rfl) (of_decide_eq_true (by kernel_rfl)) h1 bel (fun x hx => hlt x (by simp [hx]))) trodAll_mk0)), rfl, bel.frame _, fun h => by cases h⟩

theorem over : Rows.packBackRow.holds Try.pinned (OpenSpec.ofChange Rows.packBackSpec) :=
  OpenClaim.holds_of_wide 4 Try.f4 rfl rfl rfl rfl rfl rfl rfl ⟨rfl, rfl, rfl, rfl, rfl⟩ rfl rfl rfl rfl rfl (by kernel_rfl) Try.func4 (by kernel_rfl)
    (of_decide_eq_true (by kernel_rfl)) (by unfold Func.isWrapper; first | (rw [if_pos (by decide +kernel)]; kernel_rfl) | (rw [if_neg (by decide +kernel)]; exact ⟨rfl, rfl⟩))
    (fun os started H enc _ => lifted os started H enc)

/-- THE STATEMENT. -/
theorem proved : Rows.PackBackSaid := over
#print axioms proved
end Go.Proofs.Ytghogejjijdfeab.packBack
