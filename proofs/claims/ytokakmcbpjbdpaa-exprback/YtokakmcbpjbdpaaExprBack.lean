/-
  ExprBack: for every expression and all octets: an expression comes back from its octets; what is read is built again of what was read; of what cannot be read nothing is told. No condition.
-/
import Derived.Test.YtokakmcbpjbdpaaExFwd
namespace Go.Proofs.Ytokakmcbpjbdpaa.exprBack
open Go.ChangeShapes Go.WideShapes Go.ChangeAt Go.RowKit
open Fl

theorem octetX_err {s : SX} {e : Int} (h : octetX s = .error e) : e ≠ 0 := by
  obtain ⟨l, q⟩ := s
  cases l with
  | nil => simp only [octetX] at h; cases h; decide
  | cons o r => cases h

theorem headR_err {k : Int} {s : SX} {e : Int} (h : headR k s = .error e) : e ≠ 0 := by
  unfold headR at h
  split at h
  · split at h
    · rename_i h1
      cases h
      unfold bitsR at h1
      split at h1
      · cases h1; decide
      · split at h1
        · cases h1
        · cases h1; decide
    · cases h
  · split at h
    · split at h
      · rename_i h1
        cases h
        unfold textR at h1
        split at h1
        · rename_i h2; cases h1; exact octetX_err h2
        · split at h1
          · split at h1
            · cases h1; decide
            · cases h1
          · cases h1; decide
      · cases h
    · cases h

theorem countR_err {k : Int} {s : SX} {e : Int} (h : countR k s = .error e) : e ≠ 0 := by
  unfold countR at h
  split at h
  · cases h
  · split at h
    · rename_i h2; cases h; exact octetX_err h2
    · split at h
      · cases h; decide
      · cases h

theorem opR_err {s : SX} {e : Int} (h : opR s = .error e) : e ≠ 0 := by
  unfold opR at h
  split at h
  · rename_i h2; cases h; exact octetX_err h2
  · split at h
    · cases h
    · cases h; decide

theorem iterX_err {α : Type} {f : SX → Except Int (α × SX)} (hf : ∀ s e, f s = .error e → e ≠ 0) : ∀ (m : Nat) (s : SX) (e : Int), iterX f m s = .error e → e ≠ 0
  | 0, s, e, h => by simp only [iterX] at h; cases h
  | m + 1, s, e, h => by
    simp only [iterX] at h
    cases h1 : iterX f m s with
    | error e1 => rw [h1] at h; cases h; exact iterX_err hf m s e h1
    | ok ls =>
      obtain ⟨l, s1⟩ := ls
      rw [h1] at h
      simp only at h
      cases h2 : f s1 with
      | error e2 => rw [h2] at h; cases h; exact hf _ _ h2
      | ok ua => rw [h2] at h; cases h

theorem rdX_err : ∀ (n : Nat) (s : SX) (e : Int), rdX n s = .error e → e ≠ 0
  | 0, s, e, h => by simp only [rdX] at h; cases h; decide
  | n + 1, s, e, h => by
    simp only [rdX] at h
    cases h1 : opR (s.1, s.2 + 1) with
    | error e1 => rw [h1] at h; cases h; exact opR_err h1
    | ok ks =>
      obtain ⟨k, s1⟩ := ks
      rw [h1] at h
      simp only at h
      cases h2 : headR k s1 with
      | error e1 => rw [h2] at h; cases h; exact headR_err h2
      | ok bts =>
        obtain ⟨b, t, s2⟩ := bts
        rw [h2] at h
        simp only at h
        cases h3 : countR k s2 with
        | error e1 => rw [h3] at h; cases h; exact countR_err h3
        | ok ms =>
          obtain ⟨m, s3⟩ := ms
          rw [h3] at h
          simp only at h
          cases h4 : iterX (rdX n) m.toNat s3 with
          | error e1 => rw [h4] at h; cases h; exact iterX_err (rdX_err n) _ _ _ h4
          | ok is => rw [h4] at h; cases h

theorem decR_err {s : SX} {e : Int} (h : decR s = .error e) : e ≠ 0 := by
  unfold decR at h
  cases h1 : rdX 8 s with
  | error e1 => rw [h1] at h; cases h; exact rdX_err 8 s e h1
  | ok vs =>
    obtain ⟨v, s'⟩ := vs
    rw [h1] at h
    simp only at h
    split at h
    · cases h; decide
    · split at h
      · cases h; decide
      · cases h

theorem alike_zero (w : World) : Calls Try.prog 21 #[mkX 0 0 ⟨#[]⟩ none 0 0, mkX 0 0 ⟨#[]⟩ none 0 0] w fun e w' => e = .returned (.int .i64 0) ∧ Below w.heap.size w w' := by
  have hl : LayX w 1 (mkX 0 0 ⟨#[]⟩ none 0 0) ((0, 0, ⟨#[]⟩, []) : X 1) := ⟨none, 0, rfl, ⟨by omega, by omega, by decide, by decide, by decide, by decide⟩, by simp, fun i u h => by simp at h⟩
  have q := alikeX_any 1 1 _ _ _ _ w hl hl
  have hs : sameX 1 1 ((0, 0, ⟨#[]⟩, []) : X 1) ((0, 0, ⟨#[]⟩, []) : X 1) := ⟨rfl, rfl, rfl, rfl, fun i u u' h => by simp at h⟩
  rw [alkX_yes hs] at q
  exact q

set_option maxRecDepth 100000 in
set_option maxHeartbeats 6400000 in
theorem walk (n : Nat) (v : X n) (x : Value) (bs : List UInt8) (y : Value) (w : World) (hv : LayX w n x v) (hb : BytesIs w y bs) :
    Calls Try.prog 4 #[x, y] w fun e w' => e = .returned (.bool true) ∧ Below w.heap.size w w' := by
  obtain ⟨k, b, t, ia, il, ic, rfl⟩ := LayX.shape n hv
  obtain ⟨ba, bc, rfl, hbo, -⟩ := hb
  have HBO : Hid (Oct w ba bc bs) := hbo
  have HV : Hid (LayX w n (mkX k b t ia il ic) v) := hv
  have HFT : Hid (fitX n v) := LayX.fit n hv
  clear hv hbo
  go_enter Try.func4, Try.ntmps4
  go_wp2_with fail
  refine (aliveX_any _).mono ?_
  rintro e w1 ⟨rfl, hb1⟩
  have X1 : Hid (w1.heap[w.heap.size]? = some (.cells #[.int .i64 k, .int .u64 b, .string t, .slice ia il ic] 25 (0, 0))) := (hb1.block _ (by simp)).trans (heap_alloc_new _ _)
  have B1 : Hid (Below w.heap.size w w1) := nxt (below_one _ _) hb1
  clear hb1
  obtain ⟨p0, p1, p2, p3, -⟩ := box4 X1.out
  go_wp2_with fail
  refine (ofX_any n v _ w1 (LayX.below n HV.out B1.out)).mono ?_
  rintro e w2 ⟨y, F, rfl, ho, -, hb2⟩
  have B2 : Hid (Below w.heap.size w w2) := nxt B1.out hb2
  have X2 : Hid (w2.heap[w.heap.size]? = some (.cells #[.int .i64 k, .int .u64 b, .string t, .slice ia il ic] 25 (0, 0))) := (hb2.block _ (lt_of_block X1.out)).trans X1.out
  have L2 : Hid (LayX w2 n y v) := OwnX.lay n ho
  clear ho hb2 p0 p1 p2 p3 X1 B1
  go_wp2_with fail
  cases hr : pre stM n v 1 (0, 0) with
  | error er =>
    have he := preM_err n v 1 (0, 0) er hr
    have h3 : (er == 0) = false := by simp; omega
    refine (enc_err L2.out hr).mono ?_
    rintro e w3 ⟨rfl, hb3⟩
    have BZ : Hid (Below w.heap.size w w3) := nxt B2.out hb3
    clear hb3 hr he L2 B2 X2
    go_wp2_with (go_at_call 17; refine (num_any _ _).mono ?_; rintro e w6 ⟨rfl, hw6⟩; subst w6)
    cases hr2 : decR (bs, 0) with
    | error er2 =>
      have HE2 : Hid (er2 ≠ 0) := decR_err hr2
      have he2 : (er2 != 0) = true := by have := HE2.out; simpa using this
      refine (dec_err (HBO.out.below BZ.out).x hr2).mono ?_
      rintro e w10 ⟨rfl, hb10⟩
      have HZ : Hid (Calls Try.prog 21 #[mkX 0 0 ⟨#[]⟩ none 0 0, mkX 0 0 ⟨#[]⟩ none 0 0] (w10.alloc (.cells #[.int .i64 0, .int .u64 0, .string ⟨#[]⟩, .slice none 0 0] 29)) fun e w' => e = .returned (.int .i64 0) ∧ Below (w10.alloc (.cells #[.int .i64 0, .int .u64 0, .string ⟨#[]⟩, .slice none 0 0] 29)).heap.size (w10.alloc (.cells #[.int .i64 0, .int .u64 0, .string ⟨#[]⟩, .slice none 0 0] 29)) w') := alike_zero _
      have BZ2 : Hid (Below w.heap.size w (w10.alloc (.cells #[.int .i64 0, .int .u64 0, .string ⟨#[]⟩, .slice none 0 0] 29))) := nxt (nxt BZ.out hb10) (below_one _ _)
      clear hb10 hr2
      go_wp2_with (first
        | (go_at_call 17; refine (num_any _ _).mono ?_; rintro e w11 ⟨rfl, hw11⟩; subst w11)
        | (go_at_call 21; refine HZ.out.mono ?_; rintro e w12 ⟨rfl, hb12⟩))
      go_ret
      exact ⟨rfl, nxt BZ2.out hb12⟩
    | ok p2 =>
      obtain ⟨hen, sp, hsp⟩ := dec_fwd hr2
      refine (dec_ok (HBO.out.below BZ.out).x hr2).mono ?_
      rintro e w10 ⟨k10, b10, t10, ia10, il10, ic10, F10, rfl, hO10, -, hb10⟩
      have L11 : Hid (LayX (w10.alloc (.cells #[.int .i64 k10, .int .u64 b10, .string t10, .slice ia10 il10 ic10] 29)) 8 (mkX k10 b10 t10 ia10 il10 ic10) p2) := LayX.below _ (OwnX.lay _ hO10) (below_one _ _)
      have BZ2 : Hid (Below w.heap.size w (w10.alloc (.cells #[.int .i64 k10, .int .u64 b10, .string t10, .slice ia10 il10 ic10] 29))) := nxt (nxt BZ.out hb10) (below_one _ _)
      have HC : Hid (Calls Try.prog 13 #[mkX k10 b10 t10 ia10 il10 ic10] (w10.alloc (.cells #[.int .i64 k10, .int .u64 b10, .string t10, .slice ia10 il10 ic10] 29)) _) := enc_ok L11.out hsp
      rw [hen] at HC
      clear hO10 hb10 hr2 hen hsp
      go_wp2_with (first
        | (go_at_call 17; refine (num_any _ _).mono ?_; rintro e w11 ⟨rfl, hw11⟩; subst w11))
      refine HC.out.mono ?_
      rintro e w12 ⟨a12, c12, rfl, hs12, hb12⟩
      have BZ3 : Hid (Below w.heap.size w w12) := nxt BZ2.out hb12
      have HSB : Hid (Calls Try.prog 20 #[.slice a12 bs.length c12, .slice ba bs.length bc] w12 fun e w' => e = .returned (.bool true) ∧ w' = w12) := by
        have q := sameB_any bs bs a12 ba c12 bc w12 hs12.lay (HBO.out.below BZ3.out).1
        rw [show (bs == bs) = true from beq_self_eq_true bs] at q
        exact q
      clear hs12 hb12
      go_wp2_with (first
        | (go_at_call 17; refine (num_any _ _).mono ?_; rintro e w13 ⟨rfl, hw13⟩; subst w13)
        | (go_at_call 20; refine HSB.out.mono ?_; rintro e w14 ⟨rfl, rfl⟩))
      go_ret
      exact ⟨rfl, BZ3.out⟩
  | ok s =>
    obtain ⟨hlen, hpos⟩ := encX_len hr
    obtain ⟨p, hd1, hd2, -⟩ := dec_enc HFT.out hr
    refine (enc_ok L2.out hr).mono ?_
    rintro e w3 ⟨a2, c2, rfl, hs3, hb3⟩
    have B3 : Hid (Below w.heap.size w w3) := nxt B2.out hb3
    have X3 : Hid (w3.heap[w.heap.size]? = some (.cells #[.int .i64 k, .int .u64 b, .string t, .slice ia il ic] 25 (0, 0))) := (hb3.block _ (lt_of_block X2.out)).trans X2.out
    have HD : Hid (Calls Try.prog 15 #[.slice a2 (encX n v).length c2] w3 _) := dec_ok (hs3.oct (by omega)).x hd1
    have HSM : Hid (sameX 8 n p v) := hd2
    clear hs3 hb3 hr hd1 hd2 L2 B2 X2 hpos
    generalize (encX n v).length = lv at *
    go_wp2_with (go_at_call 17; refine (num_any _ _).mono ?_; rintro e w6 ⟨rfl, hw6⟩; subst w6)
    refine HD.out.mono ?_
    rintro e w4 ⟨k4, b4, t4, ia4, il4, ic4, F4, rfl, hO4, -, hb4⟩
    have P5 : Hid ((w4.alloc (.cells #[.int .i64 k4, .int .u64 b4, .string t4, .slice ia4 il4 ic4] 29)).heap[w4.heap.size]? = some (.cells #[.int .i64 k4, .int .u64 b4, .string t4, .slice ia4 il4 ic4] 29 (0, 0))) := heap_alloc_new _ _
    have X5 : Hid ((w4.alloc (.cells #[.int .i64 k4, .int .u64 b4, .string t4, .slice ia4 il4 ic4] 29)).heap[w.heap.size]? = some (.cells #[.int .i64 k, .int .u64 b, .string t, .slice ia il ic] 25 (0, 0))) := ((below_one _ _).block _ (by have := lt_of_block X3.out; have := hb4.size; omega)).trans ((hb4.block _ (lt_of_block X3.out)).trans X3.out)
    have B5 : Hid (Below w.heap.size w (w4.alloc (.cells #[.int .i64 k4, .int .u64 b4, .string t4, .slice ia4 il4 ic4] 29))) := nxt (nxt B3.out hb4) (below_one _ _)
    have HAL : Hid (Calls Try.prog 21 #[mkX k4 b4 t4 ia4 il4 ic4, mkX k b t ia il ic] (w4.alloc (.cells #[.int .i64 k4, .int .u64 b4, .string t4, .slice ia4 il4 ic4] 29)) fun e w' => e = .returned (.int .i64 0) ∧ Below (w4.alloc (.cells #[.int .i64 k4, .int .u64 b4, .string t4, .slice ia4 il4 ic4] 29)).heap.size (w4.alloc (.cells #[.int .i64 k4, .int .u64 b4, .string t4, .slice ia4 il4 ic4] 29)) w') := by
      have q := alikeX_any 8 n p v _ _ (w4.alloc (.cells #[.int .i64 k4, .int .u64 b4, .string t4, .slice ia4 il4 ic4] 29)) (LayX.below _ (OwnX.lay _ hO4) (below_one _ _)) (LayX.below _ HV.out B5.out)
      rw [alkX_yes HSM.out] at q
      exact q
    clear hO4 hb4 X3 B3 HD
    obtain ⟨y0, y1, y2, y3, -⟩ := box4 P5.out
    obtain ⟨z0, z1, z2, z3, -⟩ := box4 X5.out
    go_wp2_with (first
      | (go_at_call 17; refine (num_any _ _).mono ?_; rintro e w6 ⟨rfl, hw6⟩; subst w6)
      | (go_at_call 21; refine HAL.out.mono ?_; rintro e w7 ⟨rfl, hb7⟩))
    have BZ : Hid (Below w.heap.size w w7) := nxt B5.out hb7
    clear y0 y1 y2 y3 z0 z1 z2 z3 hb7 HAL P5 X5 B5
    cases hr2 : decR (bs, 0) with
    | error er2 =>
      have HE2 : Hid (er2 ≠ 0) := decR_err hr2
      have he2 : (er2 != 0) = true := by have := HE2.out; simpa using this
      refine (dec_err (HBO.out.below BZ.out).x hr2).mono ?_
      rintro e w10 ⟨rfl, hb10⟩
      have HZ : Hid (Calls Try.prog 21 #[mkX 0 0 ⟨#[]⟩ none 0 0, mkX 0 0 ⟨#[]⟩ none 0 0] (w10.alloc (.cells #[.int .i64 0, .int .u64 0, .string ⟨#[]⟩, .slice none 0 0] 29)) fun e w' => e = .returned (.int .i64 0) ∧ Below (w10.alloc (.cells #[.int .i64 0, .int .u64 0, .string ⟨#[]⟩, .slice none 0 0] 29)).heap.size (w10.alloc (.cells #[.int .i64 0, .int .u64 0, .string ⟨#[]⟩, .slice none 0 0] 29)) w') := alike_zero _
      have BZ2 : Hid (Below w.heap.size w (w10.alloc (.cells #[.int .i64 0, .int .u64 0, .string ⟨#[]⟩, .slice none 0 0] 29))) := nxt (nxt BZ.out hb10) (below_one _ _)
      clear hb10 hr2
      go_wp2_with (first
        | (go_at_call 17; refine (num_any _ _).mono ?_; rintro e w11 ⟨rfl, hw11⟩; subst w11)
        | (go_at_call 21; refine HZ.out.mono ?_; rintro e w12 ⟨rfl, hb12⟩))
      go_ret
      exact ⟨rfl, nxt BZ2.out hb12⟩
    | ok p2 =>
      obtain ⟨hen, sp, hsp⟩ := dec_fwd hr2
      refine (dec_ok (HBO.out.below BZ.out).x hr2).mono ?_
      rintro e w10 ⟨k10, b10, t10, ia10, il10, ic10, F10, rfl, hO10, -, hb10⟩
      have L11 : Hid (LayX (w10.alloc (.cells #[.int .i64 k10, .int .u64 b10, .string t10, .slice ia10 il10 ic10] 29)) 8 (mkX k10 b10 t10 ia10 il10 ic10) p2) := LayX.below _ (OwnX.lay _ hO10) (below_one _ _)
      have BZ2 : Hid (Below w.heap.size w (w10.alloc (.cells #[.int .i64 k10, .int .u64 b10, .string t10, .slice ia10 il10 ic10] 29))) := nxt (nxt BZ.out hb10) (below_one _ _)
      have HC : Hid (Calls Try.prog 13 #[mkX k10 b10 t10 ia10 il10 ic10] (w10.alloc (.cells #[.int .i64 k10, .int .u64 b10, .string t10, .slice ia10 il10 ic10] 29)) _) := enc_ok L11.out hsp
      rw [hen] at HC
      clear hO10 hb10 hr2 hen hsp
      go_wp2_with (first
        | (go_at_call 17; refine (num_any _ _).mono ?_; rintro e w11 ⟨rfl, hw11⟩; subst w11))
      refine HC.out.mono ?_
      rintro e w12 ⟨a12, c12, rfl, hs12, hb12⟩
      have BZ3 : Hid (Below w.heap.size w w12) := nxt BZ2.out hb12
      have HSB : Hid (Calls Try.prog 20 #[.slice a12 bs.length c12, .slice ba bs.length bc] w12 fun e w' => e = .returned (.bool true) ∧ w' = w12) := by
        have q := sameB_any bs bs a12 ba c12 bc w12 hs12.lay (HBO.out.below BZ3.out).1
        rw [show (bs == bs) = true from beq_self_eq_true bs] at q
        exact q
      clear hs12 hb12
      go_wp2_with (first
        | (go_at_call 17; refine (num_any _ _).mono ?_; rintro e w13 ⟨rfl, hw13⟩; subst w13)
        | (go_at_call 20; refine HSB.out.mono ?_; rintro e w14 ⟨rfl, rfl⟩))
      go_ret
      exact ⟨rfl, BZ3.out⟩

set_option maxRecDepth 100000 in
set_option maxHeartbeats 1600000 in
theorem lifted (os : Os) (started : os.Started) (H : Type) (enc : TypeId × Value → H) :
    ReturnsInHanded {} Try.checked os 4 .any (Rows.exprBackSpec.pre6 enc Try.prog Try.f4 Rows.exprBackRow.domain false) (Rows.exprBackSpec.post enc Try.prog Try.f4 false true false false) := by
  refine returnsInHanded_of_change_sized (C := Try.checked) Try.own started (by kernel_rfl) Try.func4
    (ChangeSpec.witness6 (enc := enc) (C := Try.checked) false ⟨#[], #[.agg #[.int .i64 0, .int .u64 0, .string ⟨#[]⟩, .slice none 0 0], .slice none 0 0], []⟩ 8 (by kernel_rfl) (by kernel_rfl) (by kernel_rfl) (by kernel_rfl)) ?_
  intro W base args ds gs before hval0 hW _ hsz0 _
  have hsz : (DataW.weightsEach Try.prog (Try.f4.params.toList ++ Rows.exprBackSpec.plain.varTypes Try.prog) (ds ++ gs)).all (· ≤ reachBytes) = true := hsz0
  have hval : ∀ (j : Nat) t v, Try.f4.params[j]? = some t → args[j]? = some v → Value.okWide Try.prog W .any base t v := hval0
  have hW' := hW
  obtain ⟨p, q, hA0, hV, rfl, hfz, hnd⟩ := hW
  have hA : DataW.TrodAll enc Try.prog W 0 (fun _ => true) true Try.f4.params.toList args.toList ds p := hA0
  rw [Try.params4] at hA hval hsz
  obtain ⟨v0, vs0, d0, ds0, p0, q0, hargs, rfl, rfl, h0, r0⟩ := trodAll_cons hA
  obtain ⟨v1, vs1, d1, ds1, p1, q1, rfl, rfl, rfl, h1, r1⟩ := trodAll_cons r0
  obtain ⟨rfl, rfl, rfl⟩ := trodAll_nil r1
  obtain rfl : args = #[v0, v1] := by cases args; simp_all
  obtain ⟨rfl, rfl⟩ := trodVars_none hV
  clear hA0 hval0
  simp only [List.append_nil] at hW' hsz
  have hlt : ∀ x ∈ p0 ++ p1, x.block < W.heap.size := fun x hx => hW'.lt x (by simpa using hx)
  have hall : ∀ x ∈ DataW.weightsEach Try.prog [25, 26] [d0, d1], x ≤ reachBytes := fun x hx => of_decide_eq_true (List.all_eq_true.1 hsz x hx)
  have g0 : ∀ x ∈ d0.weights Try.prog 25, x ≤ reachBytes := fun x hx => hall x (DataW.weights_mem_each (j := 0) rfl rfl x hx)
  obtain ⟨u0, l0⟩ := ex_of_arg (k := SizeOf.sizeOf d0) (hval 0 _ v0 rfl rfl) h0 (by omega) g0
  have g1 : ∀ x ∈ d1.weights Try.prog 26, x ≤ reachBytes := fun x hx => hall x (DataW.weights_mem_each (j := 1) rfl rfl x hx)
  obtain ⟨u1, l1⟩ := bytes_of_arg (hval 1 _ v1 rfl rfl) h1 g1
  refine (walk _ u0 v0 u1 v1 W l0 l1).mono fun e W' ⟨he, bel⟩ => ?_
  subst he
  exact ⟨_, rfl, _, _, _, [], _, [], hW', trodAll_mk1 (shut_bool Try.underlying4 _), (trodAll_cons_mk (Below.trod Try.laidOut (by kernel_rfl) (of_decide_eq_true (by kernel_rfl)) h0 bel (fun x hx => hlt x (by simp [hx]))) (trodAll_cons_mk (Below.trod Try.laidOut (by kernel_rfl) (of_decide_eq_true (by kernel_rfl)) h1 bel (fun x hx => hlt x (by simp [hx]))) trodAll_mk0)), rfl, bel.frame _, fun h => by cases h⟩

theorem over : Rows.exprBackRow.holds Try.pinned (OpenSpec.ofChange Rows.exprBackSpec) :=
  OpenClaim.holds_of_wide 4 Try.f4 rfl rfl rfl rfl rfl rfl rfl ⟨rfl, rfl, rfl, rfl, rfl⟩ rfl rfl rfl rfl rfl (by kernel_rfl) Try.func4 (by kernel_rfl)
    (of_decide_eq_true (by kernel_rfl)) (by unfold Func.isWrapper; first | (rw [if_pos (by decide +kernel)]; kernel_rfl) | (rw [if_neg (by decide +kernel)]; exact ⟨rfl, rfl⟩))
    (fun os started H enc _ => lifted os started H enc)

/-- THE STATEMENT. -/
theorem proved : Rows.ExprBackSaid := over
#print axioms proved
end Go.Proofs.Ytokakmcbpjbdpaa.exprBack
