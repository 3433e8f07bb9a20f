/-
  PackOwn holds for every value: what is answered is its holder's: it stays when what was handed in is written over. No condition.
-/
import Derived.Test.YtghogejjijdfeabPkCopy
namespace Go.Proofs.Ytghogejjijdfeab.packOwn
open Go.ChangeShapes Go.WideShapes Go.ChangeAt Go.RowKit
open Fl

theorem kept_below {F : Nat → Prop} {w w' : World} {B : Nat} (h : Kept F w w') (hB : B ≤ w.heap.size) (hF : ∀ b, F b → B ≤ b) : Below B w w' := ⟨h.os, h.tape, h.output, h.size, fun k hk => h.block k (by omega) fun e => by have := hF k e; omega⟩

set_option maxRecDepth 100000 in
set_option maxHeartbeats 6400000 in
theorem walk (n : Nat) (u : V n) (x : Value) (w : World) (hu : Lay w n x u) :
    Calls Try.prog 8 #[x] w fun e w' => e = .returned (.bool true) ∧ Below w.heap.size w w' := by
  obtain ⟨k, b, t, ka, kl, kc, ia, il, ic, rfl⟩ := Lay.shape n hu
  have HU : Hid (Lay w n (mk k b t ka kl kc ia il ic) u) := hu
  clear hu
  go_enter Try.func8, Try.ntmps8
  go_wp2_with fail
  refine (pkalive_any _).mono ?_
  rintro e w1 ⟨rfl, hb1⟩
  have X1 : Hid (w1.heap[w.heap.size]? = some (.cells #[.int .i64 k, .int .u64 b, .string t, .slice ka kl kc, .slice ia il ic] 26 (0, 0))) := (hb1.block _ (by simp)).trans (heap_alloc_new _ _)
  have B1 : Hid (Below w.heap.size w w1) := nxt (below_one _ _) hb1
  clear hb1
  obtain ⟨p0, p1, p2, p3, p4, -⟩ := box_cells X1.out
  go_wp2_with fail
  refine (copy_any n u _ w1 (Lay.below n HU.out B1.out)).mono ?_
  rintro e w2 ⟨y, F, rfl, ho2, hF2, hb2⟩
  obtain ⟨k2, b2, t2, ka2, kl2, kc2, ia2, il2, ic2, rfl⟩ := Lay.shape n (Own.lay n ho2)
  have bA := below_one w2 (.cells #[.int .i64 k2, .int .u64 b2, .string t2, .slice ka2 kl2 kc2, .slice ia2 il2 ic2] 26)
  have HO3 : Hid (Own (w2.alloc (.cells #[.int .i64 k2, .int .u64 b2, .string t2, .slice ka2 kl2 kc2, .slice ia2 il2 ic2] 26)) n (mk k2 b2 t2 ka2 kl2 kc2 ia2 il2 ic2) u F) := ho2.same n fun j hj => bA.block j (hF2 j hj).2
  have HF3 : Hid (∀ j, F j → w.heap.size < j ∧ j < w2.heap.size) := fun j hj => by have := hF2 j hj; have := lt_of_block X1.out; omega
  have X3 : Hid ((w2.alloc (.cells #[.int .i64 k2, .int .u64 b2, .string t2, .slice ka2 kl2 kc2, .slice ia2 il2 ic2] 26)).heap[w.heap.size]? = some (.cells #[.int .i64 k, .int .u64 b, .string t, .slice ka kl kc, .slice ia il ic] 26 (0, 0))) := ((nxt hb2 bA).block _ (lt_of_block X1.out)).trans X1.out
  have Y3 : Hid ((w2.alloc (.cells #[.int .i64 k2, .int .u64 b2, .string t2, .slice ka2 kl2 kc2, .slice ia2 il2 ic2] 26)).heap[w2.heap.size]? = some (.cells #[.int .i64 k2, .int .u64 b2, .string t2, .slice ka2 kl2 kc2, .slice ia2 il2 ic2] 26 (0, 0))) := heap_alloc_new _ _
  have B3 : Hid (Below w.heap.size w (w2.alloc (.cells #[.int .i64 k2, .int .u64 b2, .string t2, .slice ka2 kl2 kc2, .slice ia2 il2 ic2] 26))) := nxt (nxt B1.out hb2) bA
  have hw12 : w.heap.size < w2.heap.size := by have := lt_of_block X1.out; have := hb2.size; omega
  clear ho2 hF2 hb2 bA X1 B1 p0 p1 p2 p3 p4
  go_upto_region 4 with fail
  generalize w2.alloc (.cells #[.int .i64 k2, .int .u64 b2, .string t2, .slice ka2 kl2 kc2, .slice ia2 il2 ic2] 26) = w3 at *
  generalize hg2 : w2.heap.size = g2 at *
  clear hg2
  obtain ⟨q0, q1, q2, q3, q4, -⟩ := box_cells Y3.out
  by_cases hcu : chk u = 0
  · obtain ⟨v, hL, hcv⟩ := Lay.eight hcu
    have HV : Hid (Lay w 8 (mk k b t ka kl kc ia il ic) v) := hL _ _ HU.out
    have HCV : Hid (chk v = 0) := hcv
    have CE := encode_any 8 v _ w3 (hL _ _ (Own.lay n HO3.out))
    rw [HCV.out, if_pos rfl] at CE
    clear hL hcv hcu HU
    go_wp2_with fail
    refine CE.mono ?_
    rintro e w4 ⟨s4, rfl, hs4, hb4⟩
    obtain ⟨a4, c4, rfl⟩ := hs4.shape
    have hlen : (enc 8 v).length ≤ 100000 := by have := enc_len 8 v (ok_of_chk HCV.out); have := cnt_of_chk HCV.out; omega
    have HLE : Hid ((enc 8 v).length ≤ 100000) := hlen
    have hw34 := hb4.size
    have hg3 := lt_of_block Y3.out
    have S4 : Hid (Bs w4 w3.heap.size (.slice a4 (enc 8 v).length c4) (enc 8 v)) := hs4
    have HO4 : Hid (Own w4 n (mk k2 b2 t2 ka2 kl2 kc2 ia2 il2 ic2) u F) := HO3.out.same n fun j hj => hb4.block j (by have := (HF3.out j hj).2; omega)
    have X4 : Hid (w4.heap[w.heap.size]? = some (.cells #[.int .i64 k, .int .u64 b, .string t, .slice ka kl kc, .slice ia il ic] 26 (0, 0))) := (hb4.block _ (lt_of_block X3.out)).trans X3.out
    have Y4 : Hid (w4.heap[g2]? = some (.cells #[.int .i64 k2, .int .u64 b2, .string t2, .slice ka2 kl2 kc2, .slice ia2 il2 ic2] 26 (0, 0))) := (hb4.block _ (lt_of_block Y3.out)).trans Y3.out
    have B4 : Hid (Below w.heap.size w w4) := nxt B3.out hb4
    have HDV : Hid (∀ w', Oct w' a4 c4 (enc 8 v) → Calls Try.prog 13 #[.slice a4 (enc 8 v).length c4] w' fun e w'' => ∃ y F, e = .returned (.tuple #[y, .int .i64 0]) ∧ Own w'' 8 y v F ∧ (∀ b, F b → w'.heap.size ≤ b ∧ b < w''.heap.size) ∧ Below w'.heap.size w' w'') := fun w' ho => by
      have := decode_any a4 c4 (enc 8 v) w' ho
      rw [dec_enc HCV.out (Lay.bits _ HV.out)] at this
      exact this
    clear CE hs4 hb4 X3 Y3 B3 HO3 q0 q1 q2 q3 q4 hlen
    obtain ⟨q0, q1, q2, q3, q4, -⟩ := box_cells Y4.out
    generalize hlv : (enc 8 v).length = lv at *
    have HLV : Hid ((enc 8 v).length = lv) := hlv
    clear hlv
    go_wp2_with fail
    refine (spoil_any n u _ F w4 HO4.out (fun j hj => by have := (HF3.out j hj).2; omega)).mono ?_
    rintro e w5 ⟨rfl, hk5⟩
    have hw45 := hk5.size
    have S5 : Hid (Bs w5 w3.heap.size (.slice a4 lv c4) (enc 8 v)) := ownsRow_same S4.out fun g hg => hk5.block g (S4.out.base g hg).2 fun e => by have := (HF3.out g e).2; have := (S4.out.base g hg).1; omega
    have X5 : Hid (w5.heap[w.heap.size]? = some (.cells #[.int .i64 k, .int .u64 b, .string t, .slice ka kl kc, .slice ia il ic] 26 (0, 0))) := (hk5.block _ (lt_of_block X4.out) fun e => by have := (HF3.out _ e).1; omega).trans X4.out
    have B5 : Hid (Below w.heap.size w w5) := B4.out.trans (kept_below hk5 B4.out.size fun j hj => by have := (HF3.out j hj).1; omega)
    have O5 : Hid (Oct w5 a4 c4 (enc 8 v)) := S5.out.oct (by have := HLE.out; have := HLV.out; omega)
    clear hk5 X4 Y4 B4 S4 HO4 q0 q1 q2 q3 q4
    go_wp2_with fail
    refine (HDV.out w5 O5.out).mono ?_
    rintro e w6 ⟨y6, F6, rfl, ho6, hF6, hb6⟩
    obtain ⟨k6, b6, t6, ka6, kl6, kc6, ia6, il6, ic6, rfl⟩ := Lay.shape _ (Own.lay _ ho6)
    have bA := below_one w6 (.cells #[.int .i64 k6, .int .u64 b6, .string t6, .slice ka6 kl6 kc6, .slice ia6 il6 ic6] 26)
    have HO7 : Hid (Own (w6.alloc (.cells #[.int .i64 k6, .int .u64 b6, .string t6, .slice ka6 kl6 kc6, .slice ia6 il6 ic6] 26)) 8 (mk k6 b6 t6 ka6 kl6 kc6 ia6 il6 ic6) v F6) := ho6.same 8 fun j hj => bA.block j (hF6 j hj).2
    have HF7 : Hid (∀ j, F6 j → w5.heap.size ≤ j ∧ j < w6.heap.size) := hF6
    have X7 : Hid ((w6.alloc (.cells #[.int .i64 k6, .int .u64 b6, .string t6, .slice ka6 kl6 kc6, .slice ia6 il6 ic6] 26)).heap[w.heap.size]? = some (.cells #[.int .i64 k, .int .u64 b, .string t, .slice ka kl kc, .slice ia il ic] 26 (0, 0))) := ((nxt hb6 bA).block _ (lt_of_block X5.out)).trans X5.out
    have Y7 : Hid ((w6.alloc (.cells #[.int .i64 k6, .int .u64 b6, .string t6, .slice ka6 kl6 kc6, .slice ia6 il6 ic6] 26)).heap[w6.heap.size]? = some (.cells #[.int .i64 k6, .int .u64 b6, .string t6, .slice ka6 kl6 kc6, .slice ia6 il6 ic6] 26 (0, 0))) := heap_alloc_new _ _
    have B7 : Hid (Below w.heap.size w (w6.alloc (.cells #[.int .i64 k6, .int .u64 b6, .string t6, .slice ka6 kl6 kc6, .slice ia6 il6 ic6] 26))) := nxt (nxt B5.out hb6) bA
    have S7 : Hid (Bs (w6.alloc (.cells #[.int .i64 k6, .int .u64 b6, .string t6, .slice ka6 kl6 kc6, .slice ia6 il6 ic6] 26)) w3.heap.size (.slice a4 lv c4) (enc 8 v)) := S5.out.below (nxt hb6 bA)
    have HS5 : Hid (∀ g, (Value.slice a4 lv c4).ownBlock = some g → w3.heap.size ≤ g ∧ g < w5.heap.size) := S5.out.base
    have hw56 := hb6.size
    clear ho6 hF6 hb6 bA X5 B5 S5 O5
    go_upto_region 7 with fail
    generalize w6.alloc (.cells #[.int .i64 k6, .int .u64 b6, .string t6, .slice ka6 kl6 kc6, .slice ia6 il6 ic6] 26) = w7 at *
    go_wp2_with fail
    refine (spoilB_any w3.heap.size _ (enc 8 v) w7 S7.out (by have := HLE.out; have := HLV.out; omega)).mono ?_
    rintro e w8 ⟨rfl, hk8⟩
    have X8 : Hid (w8.heap[w.heap.size]? = some (.cells #[.int .i64 k, .int .u64 b, .string t, .slice ka kl kc, .slice ia il ic] 26 (0, 0))) := (hk8.block _ (lt_of_block X7.out) fun e => by have := (HS5.out _ e).1; omega).trans X7.out
    have Y8 : Hid (w8.heap[w6.heap.size]? = some (.cells #[.int .i64 k6, .int .u64 b6, .string t6, .slice ka6 kl6 kc6, .slice ia6 il6 ic6] 26 (0, 0))) := (hk8.block _ (lt_of_block Y7.out) fun e => by have := (HS5.out _ e).2; omega).trans Y7.out
    have L8 : Hid (Lay w8 8 (mk k6 b6 t6 ka6 kl6 kc6 ia6 il6 ic6) v) := Own.lay _ (HO7.out.same 8 fun j hj => hk8.block j (by have := (HF7.out j hj).2; have := lt_of_block Y7.out; omega) fun e => by have := (HS5.out _ e).2; have := (HF7.out j hj).1; omega)
    have B8 : Hid (Below w.heap.size w w8) := B7.out.trans (kept_below hk8 B7.out.size fun j hj => by have := (HS5.out j hj).1; omega)
    clear hk8 X7 Y7 B7 S7 HO7
    obtain ⟨p0, p1, p2, p3, p4, -⟩ := box_cells X8.out
    obtain ⟨q0, q1, q2, q3, q4, -⟩ := box_cells Y8.out
    go_wp2_with (go_at_call 18; refine (num_any _ _).mono ?_; rintro e w' ⟨rfl, rfl⟩)
    have CS := same_any 8 v v _ _ _ L8.out (Lay.below _ HV.out B8.out)
    rw [one_true rfl] at CS
    refine CS.mono ?_
    rintro e w9 ⟨rfl, hb9⟩
    go_wp2_with fail
    go_ret
    exact ⟨rfl, nxt B8.out hb9⟩
  · have h2 : (chk u == 0) = false := by simpa using hcu
    have h3 : (chk u != 0) = true := by simpa using hcu
    have CE := encode_any n u _ w3 (Own.lay n HO3.out)
    rw [if_neg hcu] at CE
    have HCE : Hid (Calls Try.prog 11 #[mk k2 b2 t2 ka2 kl2 kc2 ia2 il2 ic2] w3 _) := CE
    clear CE
    generalize chk u = cu at *
    go_wp2_with fail
    refine HCE.out.mono ?_
    rintro e w4 ⟨s4, rfl, hs4, hb4⟩
    obtain ⟨a4, c4, rfl⟩ := hs4.shape
    have hw34 := hb4.size
    have hg3 := lt_of_block Y3.out
    have S4 : Hid (Bs w4 w3.heap.size (.slice a4 ([] : List UInt8).length c4) []) := hs4
    have HO4 : Hid (Own w4 n (mk k2 b2 t2 ka2 kl2 kc2 ia2 il2 ic2) u F) := HO3.out.same n fun j hj => hb4.block j (by have := (HF3.out j hj).2; omega)
    have Y4 : Hid (w4.heap[g2]? = some (.cells #[.int .i64 k2, .int .u64 b2, .string t2, .slice ka2 kl2 kc2, .slice ia2 il2 ic2] 26 (0, 0))) := (hb4.block _ (lt_of_block Y3.out)).trans Y3.out
    have B4 : Hid (Below w.heap.size w w4) := nxt B3.out hb4
    clear hs4 hb4 X3 Y3 B3 HO3 q0 q1 q2 q3 q4
    obtain ⟨q0, q1, q2, q3, q4, -⟩ := box_cells Y4.out
    go_wp2_with fail
    refine (spoil_any n u _ F w4 HO4.out (fun j hj => by have := (HF3.out j hj).2; omega)).mono ?_
    rintro e w5 ⟨rfl, hk5⟩
    have hw45 := hk5.size
    have S5 : Hid (Bs w5 w3.heap.size (.slice a4 ([] : List UInt8).length c4) []) := ownsRow_same S4.out fun g hg => hk5.block g (S4.out.base g hg).2 fun e => by have := (HF3.out g e).2; have := (S4.out.base g hg).1; omega
    have B5 : Hid (Below w.heap.size w w5) := B4.out.trans (kept_below hk5 B4.out.size fun j hj => by have := (HF3.out j hj).1; omega)
    have HDV : Hid (Calls Try.prog 13 #[.slice a4 ([] : List UInt8).length c4] w5 _) := decode_any a4 c4 [] w5 (S5.out.oct (by simp))
    clear hk5 Y4 B4 S4 HO4 q0 q1 q2 q3 q4
    go_wp2_with fail
    refine HDV.out.mono ?_
    generalize decR [] = R
    obtain ⟨er, m6, u6⟩ := R
    rintro e w6 ⟨y6, F6, rfl, ho6, hF6, hb6⟩
    obtain ⟨k6, b6, t6, ka6, kl6, kc6, ia6, il6, ic6, rfl⟩ := Lay.shape _ (Own.lay _ ho6)
    have bA := below_one w6 (.cells #[.int .i64 k6, .int .u64 b6, .string t6, .slice ka6 kl6 kc6, .slice ia6 il6 ic6] 26)
    have B7 : Hid (Below w.heap.size w (w6.alloc (.cells #[.int .i64 k6, .int .u64 b6, .string t6, .slice ka6 kl6 kc6, .slice ia6 il6 ic6] 26))) := nxt (nxt B5.out hb6) bA
    have S7 : Hid (Bs (w6.alloc (.cells #[.int .i64 k6, .int .u64 b6, .string t6, .slice ka6 kl6 kc6, .slice ia6 il6 ic6] 26)) w3.heap.size (.slice a4 ([] : List UInt8).length c4) []) := S5.out.below (nxt hb6 bA)
    clear ho6 hF6 hb6 bA B5 S5
    go_upto_region 7 with fail
    generalize w6.alloc (.cells #[.int .i64 k6, .int .u64 b6, .string t6, .slice ka6 kl6 kc6, .slice ia6 il6 ic6] 26) = w7 at *
    go_wp2_with fail
    refine (spoilB_any w3.heap.size _ [] w7 S7.out (by simp)).mono ?_
    rintro e w8 ⟨rfl, hk8⟩
    have B8 : Hid (Below w.heap.size w w8) := B7.out.trans (kept_below hk8 B7.out.size fun j hj => by have := (S7.out.base j hj).1; omega)
    clear hk8 B7 S7
    go_wp2_with (go_at_call 18; refine (num_any _ _).mono ?_; rintro e w' ⟨rfl, rfl⟩)
    go_ret
    exact ⟨rfl, B8.out⟩

set_option maxRecDepth 100000 in
set_option maxHeartbeats 1600000 in
theorem lifted (os : Os) (started : os.Started) (H : Type) (enc : TypeId × Value → H) :
    ReturnsInHanded {} Try.checked os 8 .any (Rows.packOwnSpec.pre6 enc Try.prog Try.f8 Rows.packOwnRow.domain false) (Rows.packOwnSpec.post enc Try.prog Try.f8 false true false false) := by
  refine returnsInHanded_of_change_sized (C := Try.checked) Try.own started (by kernel_rfl) Try.func8
    (ChangeSpec.witness6 (enc := enc) (C := Try.checked) false ⟨#[], #[.agg #[.int .i64 0, .int .u64 0, .string ⟨#[]⟩, .slice none 0 0, .slice none 0 0]], []⟩ 8 (by kernel_rfl) (by kernel_rfl) (by kernel_rfl) (by kernel_rfl)) ?_
  intro W base args ds gs before hval0 hW _ hsz0 _
  have hsz : (DataW.weightsEach Try.prog (Try.f8.params.toList ++ Rows.packOwnSpec.plain.varTypes Try.prog) (ds ++ gs)).all (· ≤ reachBytes) = true := hsz0
  have hval : ∀ (j : Nat) t v, Try.f8.params[j]? = some t → args[j]? = some v → Value.okWide Try.prog W .any base t v := hval0
  have hW' := hW
  obtain ⟨p, q, hA0, hV, rfl, hfz, hnd⟩ := hW
  have hA : DataW.TrodAll enc Try.prog W 0 (fun _ => true) true Try.f8.params.toList args.toList ds p := hA0
  rw [Try.params8] at hA hval hsz
  obtain ⟨v0, vs0, d0, ds0, p0, q0, hargs, rfl, rfl, h0, r0⟩ := trodAll_cons hA
  obtain ⟨rfl, rfl, rfl⟩ := trodAll_nil r0
  obtain rfl : args = #[v0] := by cases args; simp_all
  obtain ⟨rfl, rfl⟩ := trodVars_none hV
  clear hA0 hval0
  simp only [List.append_nil] at hW' hsz
  have hlt : ∀ x ∈ p0, x.block < W.heap.size := fun x hx => hW'.lt x (by simpa using hx)
  have hall : ∀ x ∈ DataW.weightsEach Try.prog [26] [d0], x ≤ reachBytes := fun x hx => of_decide_eq_true (List.all_eq_true.1 hsz x hx)
  have g0 : ∀ x ∈ d0.weights Try.prog 26, x ≤ reachBytes := fun x hx => hall x (DataW.weights_mem_each (j := 0) rfl rfl x hx)
  obtain ⟨u0, l0⟩ := lay_of_arg (k := SizeOf.sizeOf d0) (hval 0 _ v0 rfl rfl) h0 (by omega) g0
  refine (walk _ u0 v0 W l0).mono fun e W' ⟨he, bel⟩ => ?_
  subst he
  exact ⟨_, rfl, _, _, _, [], _, [], hW', trodAll_mk1 (shut_bool Try.underlying4 _), (trodAll_cons_mk (Below.trod Try.laidOut (by kernel_rfl) (of_decide_eq_true (by kernel_rfl)) h0 bel (fun x hx => hlt x (by simp [hx]))) trodAll_mk0), rfl, bel.frame _, fun h => by cases h⟩

theorem over : Rows.packOwnRow.holds Try.pinned (OpenSpec.ofChange Rows.packOwnSpec) :=
  OpenClaim.holds_of_wide 8 Try.f8 rfl rfl rfl rfl rfl rfl rfl ⟨rfl, rfl, rfl, rfl, rfl⟩ rfl rfl rfl rfl rfl (by kernel_rfl) Try.func8 (by kernel_rfl)
    (of_decide_eq_true (by kernel_rfl)) (by unfold Func.isWrapper; first | (rw [if_pos (by decide +kernel)]; kernel_rfl) | (rw [if_neg (by decide +kernel)]; exact ⟨rfl, rfl⟩))
    (fun os started H enc _ => lifted os started H enc)

/-- THE STATEMENT. -/
theorem proved : Rows.PackOwnSaid := over
#print axioms proved
end Go.Proofs.Ytghogejjijdfeab.packOwn
