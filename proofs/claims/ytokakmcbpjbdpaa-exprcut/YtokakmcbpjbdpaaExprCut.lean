/-
  ExprCut: for every expression, every number and every octet: octets of an expression that are cut off are refused as too short; with one more behind them, too, as too many. No condition.
-/
import Derived.Test.YtokakmcbpjbdpaaExLaw
namespace Go.Proofs.Ytokakmcbpjbdpaa.exprCut
open Go.ChangeShapes Go.WideShapes Go.ChangeAt Go.RowKit
open Fl

set_option maxRecDepth 100000 in
set_option maxHeartbeats 6400000 in
theorem walk (n : Nat) (v : X n) (x : Value) (at' mo : Int) (w : World) (hv : LayX w n x v) (hat : (Lit.int .i64 at').wf = true) (hmo : (Lit.int .u8 mo).wf = true) :
    Calls Try.prog 7 #[x, .int .i64 at', .int .u8 mo] w fun e w' => e = .returned (.bool true) ∧ Below w.heap.size w w' := by
  obtain ⟨k, b, t, ia, il, ic, rfl⟩ := LayX.shape n hv
  have hbd := bounds_i64 hat
  obtain ⟨o, rfl⟩ := octet_of hmo
  clear hat hmo
  have HV : Hid (LayX w n (mkX k b t ia il ic) v) := hv
  have HFT : Hid (fitX n v) := LayX.fit n hv
  clear hv
  go_enter Try.func7, Try.ntmps7
  go_wp2_with fail
  refine (aliveX_any _).mono ?_
  rintro e w1 ⟨rfl, hb1⟩
  have X1 : Hid (w1.heap[w.heap.size]? = some (.cells #[.int .i64 k, .int .u64 b, .string t, .slice ia il ic] 25 (0, 0))) := (hb1.block _ (by simp)).trans (heap_alloc_new _ _)
  have B1 : Hid (Below w.heap.size w w1) := nxt (below_one _ _) hb1
  clear hb1
  obtain ⟨p0, p1, p2, p3, -⟩ := box4 X1.out
  go_wp2_with fail
  refine (ofX_any n v _ w1 (LayX.below n HV.out B1.out)).mono ?_
  rintro e w2 ⟨y, F, rfl, ho, -, hb2⟩
  have B2 : Hid (Below w.heap.size w w2) := nxt B1.out hb2
  have L2 : Hid (LayX w2 n y v) := OwnX.lay n ho
  clear ho hb2 p0 p1 p2 p3
  go_wp2_with fail
  cases hr : pre stM n v 1 (0, 0) with
  | error er =>
    have he := preM_err n v 1 (0, 0) er hr
    have h3 : (er != 0) = true := by simp; omega
    refine (enc_err L2.out hr).mono ?_
    rintro e w3 ⟨rfl, hb3⟩
    have B3 : Hid (Below w.heap.size w w3) := nxt B2.out hb3
    clear hb3 hr he
    go_wp2_with (go_at_call 17; refine (num_any _ _).mono ?_; rintro e w6 ⟨rfl, hw6⟩; subst w6)
    go_ret
    exact ⟨rfl, B3.out⟩
  | ok s =>
    obtain ⟨hlen, hpos⟩ := encX_len hr
    refine (enc_ok L2.out hr).mono ?_
    rintro e w3 ⟨a2, c2, rfl, hs3, hb3⟩
    have O3 : Hid (Oct w3 a2 c2 (encX n v)) := hs3.oct (by omega)
    have B3 : Hid (Below w.heap.size w w3) := nxt B2.out hb3
    clear hs3 hb3
    have hj : ∃ j : Nat, ((at'.tmod ((encX n v).length : Int) + ((encX n v).length : Int)).tmod ((encX n v).length : Int)) = (j : Int) ∧ j < (encX n v).length := by
      have h1 : (0 : Int) < ((encX n v).length : Int) := by omega
      have h2 := Int.tmod_lt_of_pos at' h1
      have h3 := Int.lt_tmod_of_pos at' h1
      have h4 : 0 ≤ at'.tmod ((encX n v).length : Int) + ((encX n v).length : Int) := by omega
      have h5 := Int.tmod_nonneg ((encX n v).length : Int) h4
      have h6 := Int.tmod_lt_of_pos (at'.tmod ((encX n v).length : Int) + ((encX n v).length : Int)) h1
      exact ⟨((at'.tmod ((encX n v).length : Int) + ((encX n v).length : Int)).tmod ((encX n v).length : Int)).toNat, by omega, by omega⟩
    obtain ⟨j, hj1, hj2⟩ := hj
    have hjl : ((encX n v).take j).length = j := by rw [List.length_take]; exact Nat.min_eq_left (by omega)
    have OJ : Oct w3 a2 c2 ((encX n v).take j) := ⟨fun i o hi => by
      have hij : i < j := by have := (List.getElem?_eq_some_iff.1 hi).1; rw [hjl] at this; exact this
      rw [List.getElem?_take_of_lt hij] at hi
      exact O3.out.1 i o hi, by have := O3.out.2.1; rw [hjl]; omega, O3.out.2.2.1, by rw [hjl]; omega, O3.out.2.2.2.2⟩
    have HD1 : Hid (Calls Try.prog 15 #[.slice a2 j c2] w3 fun e w' => e = .returned (.tuple #[mkX 0 0 ⟨#[]⟩ none 0 0, .int .i64 8]) ∧ Below w3.heap.size w3 w') := by
      have := dec_err OJ.x (dec_cut HFT.out hr hj2)
      rw [hjl] at this
      exact this
    have HD2 : Hid (decR (encX n v ++ [o], 0) = .error 23) := by
      obtain ⟨p, -, -, h⟩ := dec_enc HFT.out hr
      exact h o
    have hcap : (encX n v).length ≤ c2 := O3.out.2.1
    have hcap2 := O3.out.2.2.1
    have hl0 : (((encX n v).length : Int) == 0) = false := beq_eq_false_iff_ne.2 (by omega)
    have hne : ¬ ((encX n v).length : Int) = 0 := by omega
    have ht1 : -((encX n v).length : Int) < at'.tmod ((encX n v).length : Int) := Int.lt_tmod_of_pos at' (by omega)
    have ht2 : at'.tmod ((encX n v).length : Int) < ((encX n v).length : Int) := Int.tmod_lt_of_pos at' (by omega)
    clear OJ hjl hr
    generalize encX n v = l at *
    go_wp2_with (go_at_call 17; refine (num_any _ _).mono ?_; rintro e w6 ⟨rfl, hw6⟩; subst w6)
    refine HD1.out.mono ?_
    rintro e w4 ⟨rfl, hb4⟩
    have O5 : Hid (Oct (w4.alloc (.cells #[.int .i64 0, .int .u64 0, .string ⟨#[]⟩, .slice none 0 0] 29)) a2 c2 l) := O3.out.below (nxt hb4 (below_one _ _))
    have B5 : Hid (Below w.heap.size w (w4.alloc (.cells #[.int .i64 0, .int .u64 0, .string ⟨#[]⟩, .slice none 0 0] 29))) := nxt B3.out (nxt hb4 (below_one _ _))
    clear hb4 hj1 ht1 ht2 O3 B3
    go_wp2_with fail
    refine (copyB_any a2 c2 l _ O5.out (by omega)).mono ?_
    rintro e w6 ⟨s6, rfl, hs6, hb6⟩
    have S6 : Hid (Bs w6 (w4.alloc (.cells #[.int .i64 0, .int .u64 0, .string ⟨#[]⟩, .slice none 0 0] 29)).heap.size s6 l) := hs6
    have B6 : Hid (Below w.heap.size w w6) := nxt B5.out hb6
    have Z6 : Hid ((w4.alloc (.cells #[.int .i64 0, .int .u64 0, .string ⟨#[]⟩, .slice none 0 0] 29)).heap.size ≤ w6.heap.size) := hb6.size
    have Z5 : Hid (w.heap.size ≤ (w4.alloc (.cells #[.int .i64 0, .int .u64 0, .string ⟨#[]⟩, .slice none 0 0] 29)).heap.size) := B5.out.size
    clear hs6 hb6 O5 B5
    generalize (w4.alloc (.cells #[.int .i64 0, .int .u64 0, .string ⟨#[]⟩, .slice none 0 0] 29)).heap.size = D at *
    go_wp2_with (at_builtin; refine wpList_app _ rfl _ _ rfl D _ l [o] rfl ?d0 ⟨w6.heap.size, 0, none⟩ 1 rfl ?d1 ?d2 ?d3 ?_)
    case d0 => exact S6.out.below (below_one _ _)
    case d1 => exact new_octets w6 _ _ _ (by simp [cellsO])
    case d2 => simp; omega
    case d3 => have := Z6.out; simp; omega
    intro s7 w7 h7 r7
    obtain ⟨a7, c7, rfl⟩ := h7.shape
    have B7 : Hid (Below w.heap.size w w7) := by
      have q := r7.below (B := w.heap.size) (by have := B6.out.size; simp; omega) (fun g hg => by have := (S6.out.base g hg).1; have := Z5.out; omega)
      exact (nxt B6.out (below_one _ _)).trans q
    have HD7 : Hid (Calls Try.prog 15 #[.slice a7 (l.length + 1) c7] w7 fun e w' => e = .returned (.tuple #[mkX 0 0 ⟨#[]⟩ none 0 0, .int .i64 23]) ∧ Below w7.heap.size w7 w') := by
      have q := dec_err (h7.oct (by simp; omega)).x HD2.out
      rw [List.length_append, List.length_singleton] at q
      exact q
    clear h7 r7
    go_wp2_with fail
    refine HD7.out.mono ?_
    rintro e w8 ⟨rfl, hb8⟩
    have B8 : Hid (Below w.heap.size w w8) := nxt B7.out hb8
    clear hb8
    go_wp2_with (go_at_call 17; refine (num_any _ _).mono ?_; rintro e w9 ⟨rfl, hw9⟩; subst w9)
    go_ret
    exact ⟨rfl, nxt B8.out (below_one _ _)⟩

set_option maxRecDepth 100000 in
set_option maxHeartbeats 1600000 in
theorem lifted (os : Os) (started : os.Started) (H : Type) (enc : TypeId × Value → H) :
    ReturnsInHanded {} Try.checked os 7 .any (Rows.exprCutSpec.pre6 enc Try.prog Try.f7 Rows.exprCutRow.domain false) (Rows.exprCutSpec.post enc Try.prog Try.f7 false true false false) := by
  refine returnsInHanded_of_change_sized (C := Try.checked) Try.own started (by kernel_rfl) Try.func7
    (ChangeSpec.witness6 (enc := enc) (C := Try.checked) false ⟨#[], #[.agg #[.int .i64 0, .int .u64 0, .string ⟨#[]⟩, .slice none 0 0], .int .i64 0, .int .u8 0], []⟩ 8 (by kernel_rfl) (by kernel_rfl) (by kernel_rfl) (by kernel_rfl)) ?_
  intro W base args ds gs before hval0 hW _ hsz0 _
  have hsz : (DataW.weightsEach Try.prog (Try.f7.params.toList ++ Rows.exprCutSpec.plain.varTypes Try.prog) (ds ++ gs)).all (· ≤ reachBytes) = true := hsz0
  have hval : ∀ (j : Nat) t v, Try.f7.params[j]? = some t → args[j]? = some v → Value.okWide Try.prog W .any base t v := hval0
  have hW' := hW
  obtain ⟨p, q, hA0, hV, rfl, hfz, hnd⟩ := hW
  have hA : DataW.TrodAll enc Try.prog W 0 (fun _ => true) true Try.f7.params.toList args.toList ds p := hA0
  rw [Try.params7] at hA hval hsz
  obtain ⟨v0, vs0, d0, ds0, p0, q0, hargs, rfl, rfl, h0, r0⟩ := trodAll_cons hA
  obtain ⟨v1, vs1, d1, ds1, p1, q1, rfl, rfl, rfl, h1, r1⟩ := trodAll_cons r0
  obtain ⟨v2, vs2, d2, ds2, p2, q2, rfl, rfl, rfl, h2, r2⟩ := trodAll_cons r1
  obtain ⟨rfl, rfl, rfl⟩ := trodAll_nil r2
  obtain rfl : args = #[v0, v1, v2] := by cases args; simp_all
  obtain ⟨rfl, rfl⟩ := trodVars_none hV
  clear hA0 hval0
  simp only [List.append_nil] at hW' hsz
  have hlt : ∀ x ∈ p0 ++ p1 ++ p2, x.block < W.heap.size := fun x hx => hW'.lt x (by simpa using hx)
  have hall : ∀ x ∈ DataW.weightsEach Try.prog [25, 3, 5] [d0, d1, d2], x ≤ reachBytes := fun x hx => of_decide_eq_true (List.all_eq_true.1 hsz x hx)
  have g0 : ∀ x ∈ d0.weights Try.prog 25, x ≤ reachBytes := fun x hx => hall x (DataW.weights_mem_each (j := 0) rfl rfl x hx)
  obtain ⟨u0, l0⟩ := ex_of_arg (k := SizeOf.sizeOf d0) (hval 0 _ v0 rfl rfl) h0 (by omega) g0
  obtain ⟨a1, rfl, rfl, rfl, w1⟩ := open_int Try.underlying3 (hval 1 3 v1 rfl rfl) h1
  obtain ⟨a2, rfl, rfl, rfl, w2⟩ := open_int Try.underlying5 (hval 2 5 v2 rfl rfl) h2
  refine (walk _ u0 v0 a1 a2 W l0 w1 w2).mono fun e W' ⟨he, bel⟩ => ?_
  subst he
  exact ⟨_, rfl, _, _, _, [], _, [], hW', trodAll_mk1 (shut_bool Try.underlying4 _), (trodAll_cons_mk (Below.trod Try.laidOut (by kernel_rfl) (of_decide_eq_true (by kernel_rfl)) h0 bel (fun x hx => hlt x (by simp [hx]))) (trodAll_cons_mk (shut_int Try.underlying3 w1) (trodAll_cons_mk (shut_int Try.underlying5 w2) trodAll_mk0))), rfl, bel.frame _, fun h => by cases h⟩

theorem over : Rows.exprCutRow.holds Try.pinned (OpenSpec.ofChange Rows.exprCutSpec) :=
  OpenClaim.holds_of_wide 7 Try.f7 rfl rfl rfl rfl rfl rfl rfl ⟨rfl, rfl, rfl, rfl, rfl⟩ rfl rfl rfl rfl rfl (by kernel_rfl) Try.func7 (by kernel_rfl)
    (of_decide_eq_true (by kernel_rfl)) (by unfold Func.isWrapper; first | (rw [if_pos (by decide +kernel)]; kernel_rfl) | (rw [if_neg (by decide +kernel)]; exact ⟨rfl, rfl⟩))
    (fun os started H enc _ => lifted os started H enc)

/-- THE STATEMENT. -/
theorem proved : Rows.ExprCutSaid := over
#print axioms proved
end Go.Proofs.Ytokakmcbpjbdpaa.exprCut
