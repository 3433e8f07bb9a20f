/-
  PackCut holds for every value and every number: octets of a value that are cut off are refused. No condition.
-/
import Derived.Test.YtghogejjijdfeabPkCopy
namespace Go.Proofs.Ytghogejjijdfeab.packCut
open Go.ChangeShapes Go.WideShapes Go.ChangeAt Go.RowKit
open Fl

set_option maxRecDepth 100000 in
set_option maxHeartbeats 6400000 in
theorem walk (n : Nat) (u : V n) (x : Value) (at' : Int) (w : World) (hu : Lay w n x u) (hat : (Lit.int .i64 at').wf = true) :
    Calls Try.prog 6 #[x, .int .i64 at'] w fun e w' => e = .returned (.bool true) ∧ Below w.heap.size w w' := by
  obtain ⟨k, b, t, ka, kl, kc, ia, il, ic, rfl⟩ := Lay.shape n hu
  have hbd := bounds_i64 hat
  clear hat
  have HU : Hid (Lay w n (mk k b t ka kl kc ia il ic) u) := hu
  clear hu
  go_enter Try.func6, Try.ntmps6
  go_wp2_with fail
  refine (pkalive_any _).mono ?_
  rintro e w1 ⟨rfl, hb1⟩
  have X1 : Hid (w1.heap[w.heap.size]? = some (.cells #[.int .i64 k, .int .u64 b, .string t, .slice ka kl kc, .slice ia il ic] 26 (0, 0))) := (hb1.block _ (by simp)).trans (heap_alloc_new _ _)
  have B1 : Hid (Below w.heap.size w w1) := nxt (below_one _ _) hb1
  clear hb1
  obtain ⟨p0, p1, p2, p3, p4, -⟩ := box_cells X1.out
  by_cases hcu : chk u = 0
  · obtain ⟨v, hL, hcv⟩ := Lay.eight hcu
    have HV : Hid (Lay w 8 (mk k b t ka kl kc ia il ic) v) := hL _ _ HU.out
    have HCV : Hid (chk v = 0) := hcv
    clear hL hcv hcu HU
    go_wp2_with fail
    have CE := encode_any 8 v _ w1 (Lay.below _ HV.out B1.out)
    rw [HCV.out, if_pos rfl] at CE
    refine CE.mono ?_
    rintro e w2 ⟨s2, rfl, hs2, hb2⟩
    obtain ⟨a2, c2, rfl⟩ := hs2.shape
    have hlen : (enc 8 v).length ≤ 100000 := by have := enc_len 8 v (ok_of_chk HCV.out); have := cnt_of_chk HCV.out; omega
    have hpos := enc_pos v
    have O2 : Hid (Oct w2 a2 c2 (enc 8 v)) := hs2.oct (by omega)
    have X2 : Hid (w2.heap[w.heap.size]? = some (.cells #[.int .i64 k, .int .u64 b, .string t, .slice ka kl kc, .slice ia il ic] 26 (0, 0))) := (hb2.block _ (lt_of_block X1.out)).trans X1.out
    have B2 : Hid (Below w.heap.size w w2) := nxt B1.out hb2
    clear CE hs2 hb2 X1 B1 p0 p1 p2 p3 p4
    have hj : ∃ j : Nat, ((at'.tmod ((enc 8 v).length : Int) + ((enc 8 v).length : Int)).tmod ((enc 8 v).length : Int)) = (j : Int) ∧ j < (enc 8 v).length := by
      have h1 : (0 : Int) < ((enc 8 v).length : Int) := by omega
      have h2 := Int.tmod_lt_of_pos at' h1
      have h3 := Int.lt_tmod_of_pos at' h1
      have h4 : 0 ≤ at'.tmod ((enc 8 v).length : Int) + ((enc 8 v).length : Int) := by omega
      have h5 := Int.tmod_nonneg ((enc 8 v).length : Int) h4
      have h6 := Int.tmod_lt_of_pos (at'.tmod ((enc 8 v).length : Int) + ((enc 8 v).length : Int)) h1
      exact ⟨((at'.tmod ((enc 8 v).length : Int) + ((enc 8 v).length : Int)).tmod ((enc 8 v).length : Int)).toNat, by omega, by omega⟩
    obtain ⟨j, hj1, hj2⟩ := hj
    have HT : Hid (takeR ((enc 8 v).take j) = (8, zeroPT, 0)) := take_cut HCV.out (Lay.bits _ HV.out) hj2
    have hjl : ((enc 8 v).take j).length = j := by rw [List.length_take]; exact Nat.min_eq_left (by omega)
    have OJ : Hid (Oct w2 a2 c2 ((enc 8 v).take j)) := ⟨fun i o hi => by
      have hij : i < j := by have := (List.getElem?_eq_some_iff.1 hi).1; rw [hjl] at this; exact this
      rw [List.getElem?_take_of_lt hij] at hi
      exact O2.out.1 i o hi, by have := O2.out.2.1; rw [hjl]; omega, O2.out.2.2.1, by rw [hjl]; omega, O2.out.2.2.2.2⟩
    have HTK : Hid (Calls Try.prog 15 #[.slice a2 j c2] w2 fun e w' => ∃ y F, e = .returned (.tuple #[y, .int .i64 0, .int .i64 8]) ∧ Own w' zeroPT.1 y zeroPT.2 F ∧ (∀ b, F b → w2.heap.size ≤ b ∧ b < w'.heap.size) ∧ Below w2.heap.size w2 w') := by
      have := take_any a2 c2 ((enc 8 v).take j) w2 OJ.out
      rw [hjl, HT.out] at this
      exact this
    have hcap : (enc 8 v).length ≤ c2 := O2.out.2.1
    have hcap2 := O2.out.2.2.1
    have hl0 : (((enc 8 v).length : Int) == 0) = false := beq_eq_false_iff_ne.2 (by omega)
    have hne : ¬ ((enc 8 v).length : Int) = 0 := by omega
    have ht1 : -((enc 8 v).length : Int) < at'.tmod ((enc 8 v).length : Int) := Int.lt_tmod_of_pos at' (by omega)
    have ht2 : at'.tmod ((enc 8 v).length : Int) < ((enc 8 v).length : Int) := Int.tmod_lt_of_pos at' (by omega)
    clear OJ HT hjl O2
    generalize (enc 8 v).length = lv at *
    go_wp2_with fail
    refine (num_any _ _).mono ?_
    rintro e w3 ⟨rfl, rfl⟩
    go_wp2_with fail
    refine HTK.out.mono ?_
    rintro e w5 ⟨y5, F5, rfl, ho5, -, hb5⟩
    have hl5 := Own.lay _ ho5
    obtain ⟨k5, b5, t5, ka5, kl5, kc5, ia5, il5, ic5, rfl⟩ := Lay.shape _ hl5
    have L5 : Hid (Lay w5 zeroPT.1 (mk k5 b5 t5 ka5 kl5 kc5 ia5 il5 ic5) zeroPT.2) := hl5
    have B5 : Hid (Below w.heap.size w w5) := nxt B2.out hb5
    clear ho5 hl5 hb5 hj1 ht1 ht2
    go_wp2_with fail
    refine (num_any _ _).mono ?_
    rintro e w6 ⟨rfl, rfl⟩
    go_wp2_with fail
    have CS := same_any _ zeroPT.2 zeroPT.2 _ _ _ (Lay.below _ L5.out (below_one w5 (.cells #[.int .i64 k5, .int .u64 b5, .string t5, .slice ka5 kl5 kc5, .slice ia5 il5 ic5] 26))) (Own.lay _ (own_zeroPT _))
    rw [one_true rfl] at CS
    refine CS.mono ?_
    rintro e w7 ⟨rfl, hb7⟩
    go_wp2_with fail
    go_ret
    exact ⟨rfl, nxt (nxt B5.out (below_one _ _)) hb7⟩
  · have h2 : (chk u == 0) = false := by simpa using hcu
    have CE := encode_any n u _ w1 (Lay.below _ HU.out B1.out)
    rw [if_neg hcu] at CE
    have HCE : Hid (Calls Try.prog 11 #[mk k b t ka kl kc ia il ic] w1 _) := CE
    have h3 : (chk u != 0) = true := by simpa using hcu
    clear CE
    generalize chk u = cu at *
    go_wp2_with fail
    refine HCE.out.mono ?_
    rintro e w2 ⟨s2, rfl, hs2, hb2⟩
    obtain ⟨a2, c2, rfl⟩ := hs2.shape
    have BW : Hid (Below w.heap.size w w2) := nxt B1.out hb2
    clear hs2 hb2 X1 B1 p0 p1 p2 p3 p4
    go_wp2_with fail
    refine (num_any _ _).mono ?_
    rintro e w6 ⟨rfl, rfl⟩
    go_wp2_with fail
    refine (num_any _ _).mono ?_
    rintro e w6 ⟨rfl, rfl⟩
    go_wp2_with fail
    go_ret
    exact ⟨rfl, BW.out⟩

set_option maxRecDepth 100000 in
set_option maxHeartbeats 1600000 in
theorem lifted (os : Os) (started : os.Started) (H : Type) (enc : TypeId × Value → H) :
    ReturnsInHanded {} Try.checked os 6 .any (Rows.packCutSpec.pre6 enc Try.prog Try.f6 Rows.packCutRow.domain false) (Rows.packCutSpec.post enc Try.prog Try.f6 false true false false) := by
  refine returnsInHanded_of_change_sized (C := Try.checked) Try.own started (by kernel_rfl) Try.func6
    (ChangeSpec.witness6 (enc := enc) (C := Try.checked) false ⟨#[], #[.agg #[.int .i64 0, .int .u64 0, .string ⟨#[]⟩, .slice none 0 0, .slice none 0 0], .int .i64 0], []⟩ 8 (by kernel_rfl) (by kernel_rfl) (by kernel_rfl) (by kernel_rfl)) ?_
  intro W base args ds gs before hval0 hW _ hsz0 _
  have hsz : (DataW.weightsEach Try.prog (Try.f6.params.toList ++ Rows.packCutSpec.plain.varTypes Try.prog) (ds ++ gs)).all (· ≤ reachBytes) = true := hsz0
  have hval : ∀ (j : Nat) t v, Try.f6.params[j]? = some t → args[j]? = some v → Value.okWide Try.prog W .any base t v := hval0
  have hW' := hW
  obtain ⟨p, q, hA0, hV, rfl, hfz, hnd⟩ := hW
  have hA : DataW.TrodAll enc Try.prog W 0 (fun _ => true) true Try.f6.params.toList args.toList ds p := hA0
  rw [Try.params6] at hA hval hsz
  obtain ⟨v0, vs0, d0, ds0, p0, q0, hargs, rfl, rfl, h0, r0⟩ := trodAll_cons hA
  obtain ⟨v1, vs1, d1, ds1, p1, q1, rfl, rfl, rfl, h1, r1⟩ := trodAll_cons r0
  obtain ⟨rfl, rfl, rfl⟩ := trodAll_nil r1
  obtain rfl : args = #[v0, v1] := by cases args; simp_all
  obtain ⟨rfl, rfl⟩ := trodVars_none hV
  clear hA0 hval0
  simp only [List.append_nil] at hW' hsz
  have hlt : ∀ x ∈ p0 ++ p1, x.block < W.heap.size := fun x hx => hW'.lt x (by simpa using hx)
  have hall : ∀ x ∈ DataW.weightsEach Try.prog [26, 3] [d0, d1], x ≤ reachBytes := fun x hx => of_decide_eq_true (List.all_eq_true.1 hsz x hx)
  have g0 : ∀ x ∈ d0.weights Try.prog 26, x ≤ reachBytes := fun x hx => hall x (DataW.weights_mem_each (j := 0) rfl rfl x hx)
  obtain ⟨u0, l0⟩ := lay_of_arg (k := SizeOf.sizeOf d0) (hval 0 _ v0 rfl rfl) h0 (by omega) g0
  obtain ⟨a1, rfl, rfl, rfl, w1⟩ := open_int Try.underlying3 (hval 1 3 v1 rfl rfl) h1
  refine (walk _ u0 v0 a1 W l0 w1).mono fun e W' ⟨he, bel⟩ => ?_
  subst he
  exact ⟨_, rfl, _, _, _, [], _, [], hW', trodAll_mk1 (shut_bool Try.underlying4 _), (trodAll_cons_mk (Below.trod Try.laidOut (by kernel_rfl) (of_decide_eq_true (by kernel_rfl)) h0 bel (fun x hx => hlt x (by simp [hx]))) (trodAll_cons_mk (shut_int Try.underlying3 w1) trodAll_mk0)), rfl, bel.frame _, fun h => by cases h⟩

theorem over : Rows.packCutRow.holds Try.pinned (OpenSpec.ofChange Rows.packCutSpec) :=
  OpenClaim.holds_of_wide 6 Try.f6 rfl rfl rfl rfl rfl rfl rfl ⟨rfl, rfl, rfl, rfl, rfl⟩ rfl rfl rfl rfl rfl (by kernel_rfl) Try.func6 (by kernel_rfl)
    (of_decide_eq_true (by kernel_rfl)) (by unfold Func.isWrapper; first | (rw [if_pos (by decide +kernel)]; kernel_rfl) | (rw [if_neg (by decide +kernel)]; exact ⟨rfl, rfl⟩))
    (fun os started H enc _ => lifted os started H enc)

/-- THE STATEMENT. -/
theorem proved : Rows.PackCutSaid := over
#print axioms proved
end Go.Proofs.Ytghogejjijdfeab.packCut
