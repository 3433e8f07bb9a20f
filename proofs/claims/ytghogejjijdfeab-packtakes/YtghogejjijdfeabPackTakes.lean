/-
  PackTakes holds for every value and all octets behind its own: the value is taken, and told how long it is. No condition.
-/
import Derived.Test.YtghogejjijdfeabPkCopy
namespace Go.Proofs.Ytghogejjijdfeab.packTakes
open Go.ChangeShapes Go.WideShapes Go.ChangeAt Go.RowKit
open Fl

set_option maxRecDepth 100000 in
set_option maxHeartbeats 6400000 in
theorem walk (n : Nat) (u : V n) (x : Value) (bs : List UInt8) (xb : Value) (w : World) (hu : Lay w n x u) (hb : BytesIs w xb bs) :
    Calls Try.prog 5 #[x, xb] w fun e w' => e = .returned (.bool true) ∧ Below w.heap.size w w' := by
  obtain ⟨k, b, t, ka, kl, kc, ia, il, ic, rfl⟩ := Lay.shape n hu
  obtain ⟨ba, bc, rfl, hb, hbl⟩ := hb
  have HB : Hid (Oct w ba bc bs) := hb
  clear hb
  have HU : Hid (Lay w n (mk k b t ka kl kc ia il ic) u) := hu
  clear hu
  go_enter Try.func5, Try.ntmps5
  go_wp2_with fail
  refine (pkalive_any _).mono ?_
  rintro e w1 ⟨rfl, hb1⟩
  have X1 : Hid (w1.heap[w.heap.size]? = some (.cells #[.int .i64 k, .int .u64 b, .string t, .slice ka kl kc, .slice ia il ic] 26 (0, 0))) := (hb1.block _ (by simp)).trans (heap_alloc_new _ _)
  have B1 : Hid (Below w.heap.size w w1) := nxt (below_one _ _) hb1
  clear hb1
  obtain ⟨p0, p1, p2, p3, p4, -⟩ := box_cells X1.out
  by_cases hcu : chk u = 0
  · obtain ⟨v, hL, hcv⟩ := Lay.eight hcu
    have HV : Hid (Lay w 8 (mk k b t ka kl kc ia il ic) v) := hL _ _ HU.out
    have HCV : Hid (chk v = 0) := hcv
    clear hL hcv hcu HU
    go_wp2_with fail
    have CE := encode_any 8 v _ w1 (Lay.below _ HV.out B1.out)
    rw [HCV.out, if_pos rfl] at CE
    refine CE.mono ?_
    rintro e w2 ⟨s2, rfl, hs2, hb2⟩
    obtain ⟨a2, c2, rfl⟩ := hs2.shape
    have hlen : (enc 8 v).length ≤ 100000 := by have := enc_len 8 v (ok_of_chk HCV.out); have := cnt_of_chk HCV.out; omega
    have hpos := enc_pos v
    have O2 : Hid (Oct w2 a2 c2 (enc 8 v)) := hs2.oct (by omega)
    have X2 : Hid (w2.heap[w.heap.size]? = some (.cells #[.int .i64 k, .int .u64 b, .string t, .slice ka kl kc, .slice ia il ic] 26 (0, 0))) := (hb2.block _ (lt_of_block X1.out)).trans X1.out
    have B2 : Hid (Below w.heap.size w w2) := nxt B1.out hb2
    clear CE hs2 hb2 X1 B1 p0 p1 p2 p3 p4
    have HCB : Hid (Calls Try.prog 10 #[.slice a2 (enc 8 v).length c2] w2 _) := copyB_any a2 c2 (enc 8 v) w2 O2.out (by omega)
    have HLE : Hid ((enc 8 v).length ≤ 100000) := hlen
    have HTR : Hid (takeR (enc 8 v ++ bs) = (0, ⟨8, v⟩, (enc 8 v).length)) := take_enc HCV.out (Lay.bits _ HV.out) bs
    obtain ⟨lv, hlv⟩ : ∃ lv, lv = (enc 8 v).length := ⟨_, rfl⟩
    have HLV : Hid (lv = (enc 8 v).length) := hlv
    rw [← hlv] at HCB HTR HLE hlen hpos ⊢
    clear O2 hlv
    go_wp2_with fail
    refine (num_any _ _).mono ?_
    rintro e w3 ⟨rfl, hw3⟩
    subst w3
    go_wp2_with fail
    refine HCB.out.mono ?_
    rintro e w3 ⟨s3, rfl, hs3, hb3⟩
    have S3 : Hid (Bs w3 w2.heap.size s3 (enc 8 v)) := hs3
    have B3 : Hid (Below w.heap.size w w3) := nxt B2.out hb3
    have X3 : Hid (w3.heap[w.heap.size]? = some (.cells #[.int .i64 k, .int .u64 b, .string t, .slice ka kl kc, .slice ia il ic] 26 (0, 0))) := (hb3.block _ (lt_of_block X2.out)).trans X2.out
    have HW23 : Hid (w2.heap.size ≤ w3.heap.size) := hb3.size
    have HW2 : Hid (w.heap.size < w2.heap.size) := lt_of_block X2.out
    clear hs3 hb3 HCB X2 B2
    go_wp2_with (at_builtin; refine wpList_appL _ rfl _ _ rfl w2.heap.size _ (enc 8 v) bs rfl S3.out ba bc rfl (HB.out.below B3.out) ?d0 HW23.out ?_)
    case d0 => have := HLE.out; rw [← HLV.out]; omega
    intro s4 w4 h4 h5
    obtain ⟨a4, c4, rfl⟩ := h4.shape
    have O4 : Hid (Oct w4 a4 c4 (enc 8 v ++ bs)) := h4.oct (by have := HLE.out; rw [List.length_append, ← HLV.out]; omega)
    have B34 : Below w2.heap.size w3 w4 := h5.below HW23.out fun g hg => (S3.out.base g hg).1
    have B4 : Hid (Below w.heap.size w w4) := B3.out.trans (B34.mono (by have := HW2.out; omega))
    have X4 : Hid (w4.heap[w.heap.size]? = some (.cells #[.int .i64 k, .int .u64 b, .string t, .slice ka kl kc, .slice ia il ic] 26 (0, 0))) := (B34.block _ HW2.out).trans X3.out
    have HTK : Hid (Calls Try.prog 15 #[.slice a4 (enc 8 v ++ bs).length c4] w4 _) := take_any a4 c4 (enc 8 v ++ bs) w4 O4.out
    rw [HTR.out] at HTK
    clear h4 h5 B34 O4 S3 B3 X3
    generalize (enc 8 v ++ bs).length = l4 at *
    go_wp2_with fail
    refine HTK.out.mono ?_
    rintro e w5 ⟨y5, F5, rfl, ho5, -, hb5⟩
    have hl5 := Own.lay _ ho5
    obtain ⟨k5, b5, t5, ka5, kl5, kc5, ia5, il5, ic5, rfl⟩ := Lay.shape _ hl5
    have L5 : Hid (Lay w5 8 (mk k5 b5 t5 ka5 kl5 kc5 ia5 il5 ic5) v) := hl5
    have B5 : Hid (Below w.heap.size w w5) := nxt B4.out hb5
    have X5 : Hid (w5.heap[w.heap.size]? = some (.cells #[.int .i64 k, .int .u64 b, .string t, .slice ka kl kc, .slice ia il ic] 26 (0, 0))) := (hb5.block _ (lt_of_block X4.out)).trans X4.out
    clear ho5 hl5 hb5 HTK X4 B4
    go_wp2_with fail
    refine (num_any _ _).mono ?_
    rintro e w6 ⟨rfl, rfl⟩
    have Y6 : Hid ((w5.alloc (.cells #[.int .i64 k5, .int .u64 b5, .string t5, .slice ka5 kl5 kc5, .slice ia5 il5 ic5] 26)).heap[w5.heap.size]? = some (.cells #[.int .i64 k5, .int .u64 b5, .string t5, .slice ka5 kl5 kc5, .slice ia5 il5 ic5] 26 (0, 0))) := heap_alloc_new _ _
    have B6 : Hid (Below w5.heap.size w5 (w5.alloc (.cells #[.int .i64 k5, .int .u64 b5, .string t5, .slice ka5 kl5 kc5, .slice ia5 il5 ic5] 26))) := below_one _ _
    generalize w5.alloc (.cells #[.int .i64 k5, .int .u64 b5, .string t5, .slice ka5 kl5 kc5, .slice ia5 il5 ic5] 26) = w6 at *
    obtain ⟨p0, p1, p2, p3, p4, -⟩ := box_cells ((B6.out.block _ (lt_of_block X5.out)).trans X5.out)
    obtain ⟨q0, q1, q2, q3, q4, -⟩ := box_cells Y6.out
    have BB6 : Hid (Below w.heap.size w w6) := nxt B5.out B6.out
    have L6 : Hid (Lay w6 8 (mk k5 b5 t5 ka5 kl5 kc5 ia5 il5 ic5) v) := Lay.below _ L5.out B6.out
    clear L5 B5 B6 X5 Y6
    go_wp2_with fail
    have CS := same_any 8 v v _ _ w6 L6.out (Lay.below _ HV.out BB6.out)
    rw [one_true rfl] at CS
    refine CS.mono ?_
    rintro e w7 ⟨rfl, hb7⟩
    go_wp2_with fail
    go_ret
    exact ⟨rfl, nxt BB6.out hb7⟩
  · have h2 : (chk u == 0) = false := by simpa using hcu
    have CE := encode_any n u _ w1 (Lay.below _ HU.out B1.out)
    rw [if_neg hcu] at CE
    have HCE : Hid (Calls Try.prog 11 #[mk k b t ka kl kc ia il ic] w1 _) := CE
    have h3 : (chk u != 0) = true := by simpa using hcu
    clear CE
    generalize hcu' : chk u = cu at *
    have HCU : Hid (chk u = cu) := hcu'
    clear hcu'
    go_wp2_with fail
    refine HCE.out.mono ?_
    rintro e w2 ⟨s2, rfl, hs2, hb2⟩
    obtain ⟨a2, c2, rfl⟩ := hs2.shape
    have BW : Hid (Below w.heap.size w w2) := nxt B1.out hb2
    have XW : Hid (w2.heap[w.heap.size]? = some (.cells #[.int .i64 k, .int .u64 b, .string t, .slice ka kl kc, .slice ia il ic] 26 (0, 0))) := (hb2.block _ (lt_of_block X1.out)).trans X1.out
    have HCK : Hid (Calls Try.prog 21 #[mk k b t ka kl kc ia il ic] w2 fun e w' => e = .returned (.int .i64 cu) ∧ Below w2.heap.size w2 w') := by
      have := rcheck_any n u _ w2 (Lay.below _ HU.out BW.out)
      rw [show (msr (wk n u 1 (0, 0))).2.2 = cu from HCU.out] at this
      exact this
    clear hs2 hb2 X1 B1 p0 p1 p2 p3 p4
    obtain ⟨p0, p1, p2, p3, p4, -⟩ := box_cells XW.out
    go_wp2_with fail
    refine (num_any _ _).mono ?_
    rintro e w6 ⟨rfl, rfl⟩
    go_wp2_with fail
    refine HCK.out.mono ?_
    rintro e w6 ⟨rfl, hb6⟩
    go_wp2_with fail
    go_ret
    exact ⟨rfl, nxt BW.out hb6⟩

set_option maxRecDepth 100000 in
set_option maxHeartbeats 1600000 in
theorem lifted (os : Os) (started : os.Started) (H : Type) (enc : TypeId × Value → H) :
    ReturnsInHanded {} Try.checked os 5 .any (Rows.packTakesSpec.pre6 enc Try.prog Try.f5 Rows.packTakesRow.domain false) (Rows.packTakesSpec.post enc Try.prog Try.f5 false true false false) := by
  refine returnsInHanded_of_change_sized (C := Try.checked) Try.own started (by kernel_rfl) Try.func5
    (ChangeSpec.witness6 (enc := enc) (C := Try.checked) false ⟨#[], #[.agg #[.int .i64 0, .int .u64 0, .string ⟨#[]⟩, .slice none 0 0, .slice none 0 0], .slice none 0 0], []⟩ 8 (by kernel_rfl) (by kernel_rfl) (by kernel_rfl) (by kernel_rfl)) ?_
  intro W base args ds gs before hval0 hW _ hsz0 _
  have hsz : (DataW.weightsEach Try.prog (Try.f5.params.toList ++ Rows.packTakesSpec.plain.varTypes Try.prog) (ds ++ gs)).all (· ≤ reachBytes) = true := hsz0
  have hval : ∀ (j : Nat) t v, Try.f5.params[j]? = some t → args[j]? = some v → Value.okWide Try.prog W .any base t v := hval0
  have hW' := hW
  obtain ⟨p, q, hA0, hV, rfl, hfz, hnd⟩ := hW
  have hA : DataW.TrodAll enc Try.prog W 0 (fun _ => true) true Try.f5.params.toList args.toList ds p := hA0
  rw [Try.params5] at hA hval hsz
  obtain ⟨v0, vs0, d0, ds0, p0, q0, hargs, rfl, rfl, h0, r0⟩ := trodAll_cons hA
  obtain ⟨v1, vs1, d1, ds1, p1, q1, rfl, rfl, rfl, h1, r1⟩ := trodAll_cons r0
  obtain ⟨rfl, rfl, rfl⟩ := trodAll_nil r1
  obtain rfl : args = #[v0, v1] := by cases args; simp_all
  obtain ⟨rfl, rfl⟩ := trodVars_none hV
  clear hA0 hval0
  simp only [List.append_nil] at hW' hsz
  have hlt : ∀ x ∈ p0 ++ p1, x.block < W.heap.size := fun x hx => hW'.lt x (by simpa using hx)
  have hall : ∀ x ∈ DataW.weightsEach Try.prog [26, 27] [d0, d1], x ≤ reachBytes := fun x hx => of_decide_eq_true (List.all_eq_true.1 hsz x hx)
  have g0 : ∀ x ∈ d0.weights Try.prog 26, x ≤ reachBytes := fun x hx => hall x (DataW.weights_mem_each (j := 0) rfl rfl x hx)
  obtain ⟨u0, l0⟩ := lay_of_arg (k := SizeOf.sizeOf d0) (hval 0 _ v0 rfl rfl) h0 (by omega) g0
  have g1 : ∀ x ∈ d1.weights Try.prog 27, x ≤ reachBytes := fun x hx => hall x (DataW.weights_mem_each (j := 1) rfl rfl x hx)
  obtain ⟨u1, l1⟩ := bytes_of_arg (hval 1 _ v1 rfl rfl) h1 g1
  refine (walk _ u0 v0 u1 v1 W l0 l1).mono fun e W' ⟨he, bel⟩ => ?_
  subst he
  exact ⟨_, rfl, _, _, _, [], _, [], hW', trodAll_mk1 (shut_bool Try.underlying4 _), (trodAll_cons_mk (Below.trod Try.laidOut (by kernel_rfl) (of_decide_eq_true (by kernel_rfl)) h0 bel (fun x hx => hlt x (by simp [hx]))) (trodAll_cons_mk (Below.trod Try.laidOut (by kernel_rfl) (of_decide_eq_true (by kernel_rfl)) h1 bel (fun x hx => hlt x (by simp [hx]))) trodAll_mk0)), rfl, bel.frame _, fun h => by cases h⟩

theorem over : Rows.packTakesRow.holds Try.pinned (OpenSpec.ofChange Rows.packTakesSpec) :=
  OpenClaim.holds_of_wide 5 Try.f5 rfl rfl rfl rfl rfl rfl rfl ⟨rfl, rfl, rfl, rfl, rfl⟩ rfl rfl rfl rfl rfl (by kernel_rfl) Try.func5 (by kernel_rfl)
    (of_decide_eq_true (by kernel_rfl)) (by unfold Func.isWrapper; first | (rw [if_pos (by decide +kernel)]; kernel_rfl) | (rw [if_neg (by decide +kernel)]; exact ⟨rfl, rfl⟩))
    (fun os started H enc _ => lifted os started H enc)

/-- THE STATEMENT. -/
theorem proved : Rows.PackTakesSaid := over
#print axioms proved
end Go.Proofs.Ytghogejjijdfeab.packTakes
