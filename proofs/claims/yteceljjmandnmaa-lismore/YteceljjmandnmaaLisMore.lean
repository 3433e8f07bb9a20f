/-
  LisMore holds for every list and every number: one number more makes the longest rising part at most one longer, and no shorter; a greatest one behind makes it just one longer. No condition.
-/
import Derived.Test.YteceljjmandnmaaLiLaw
namespace Go.Proofs.Yteceljjmandnmaa.lisMore
open Go.ChangeShapes Go.WideShapes Go.ChangeAt Go.RowKit Go.Deep
open Li

set_option maxRecDepth 100000 in
set_option maxHeartbeats 6400000 in
theorem walk (ks : List Int) (x0 : Value) (x : Int) (w : World) (hx : NumsArg w x0 ks) (hxi : (Lit.int .i64 x).wf = true) :
    Calls Try.prog 6 #[x0, .int .i64 x] w fun e w' => e = .returned (.bool true) ∧ Below w.heap.size w w' := by
  obtain ⟨a, c, rfl, hnm⟩ := hx
  have hb := bounds_i64 hxi
  have HNM : Hid (Nm w a c ks) := hnm
  have hln : ks.length ≤ 140737488351232 := by have := hnm.2.2.2.1; omega
  have hlc : ks.length ≤ c := hnm.2.1
  have hcc : c ≤ 9223372036854775807 := hnm.2.2.1
  clear hnm hxi
  go_enter Try.func6, Try.ntmps6
  go_wp2_with fail
  refine (alive_any _).mono ?_
  rintro e w1 ⟨rfl, hb1⟩
  have B1 : Hid (Below w.heap.size w w1) := hb1
  clear hb1
  by_cases hk : ks.length ≤ 200
  · go_wp2_with fail
    have HJ : Hid (∃ (js : List Int) (n : Nat), js.length = n ∧ n = ks.length ∧ n ≤ 200 ∧ Nm w a c js) := ⟨ks, ks.length, rfl, rfl, hk, HNM.out⟩
    obtain ⟨js, n, hj1, hj2, hj3, hj4⟩ := HJ.out
    rw [← hj2]
    have HN : Hid (Nm w a c js) := hj4
    have HJL : Hid (js.length = n) := hj1
    clear HJ hj4
    refine (length_n js n HJL.out (by omega) a c w1 (HN.out.below B1.out)).mono ?_
    rintro e w2 ⟨rfl, hb2⟩
    have B2 : Hid (Below w.heap.size w w2) := nxt B1.out hb2
    have hl1 : len js ≤ 200 := by have := heads_le_len js; omega
    have HTM : Hid (len (js ++ [x]) = len js + 1 ∨ (len (js ++ [x]) = len js ∧ tp js x = false)) := tp_more js x
    have hl2 : len (js ++ [x]) ≤ 201 := by have := HTM.out; omega
    have CP : Hid (Calls Try.prog 9 #[.slice a n c] w2 _) := hj1 ▸ copyI_any js a c w2 (HN.out.below B2.out)
    have HLY : Hid (LayI w a js) := HN.out.1
    have HI : Hid (I64 (js ++ [x])) := by
      intro y hy
      rcases List.mem_append.1 hy with hy | hy
      · exact HLY.out.i64 y hy
      · have e : y = x := by simpa using hy
        rw [e]
        exact hb
    clear hb2 B1 hj1 hj2 HNM HN
    generalize len js = ln at *
    generalize hmm : len (js ++ [x]) = m at *
    go_wp2_with fail
    refine CP.out.mono ?_
    rintro e w3 ⟨v, rfl, ho, hb3⟩
    have B3 : Hid (Below w.heap.size w w3) := nxt B2.out hb3
    have HOX : Hid (OwnI (w3.alloc (.cells #[.int .i64 x] 3)) w2.heap.size v js) := ho.below (below_one _ _)
    have BX : Hid (Below w.heap.size w (w3.alloc (.cells #[.int .i64 x] 3))) := nxt B3.out (below_one _ _)
    have HNW : Hid ((w3.alloc (.cells #[.int .i64 x] 3)).cell? ((⟨w3.heap.size, 0, none⟩ : Addr).add 0) = some (.int .i64 x)) := newCells w3 _ _ 0 _ rfl
    have HSZ : Hid ((js.length + 1) * 8 ≤ 140737488355328 ∧ w2.heap.size ≤ (w3.alloc (.cells #[.int .i64 x] 3)).heap.size) := ⟨by have := HJL.out; omega, by have := hb3.size; simp; omega⟩
    clear ho hb3 CP
    go_wp2_with (refine wpList_pushI _ rfl (.tmp 25) (.tmp 27) rfl w2.heap.size _ js rfl HOX.out x ⟨w3.heap.size, 0, none⟩ 1 rfl HNW.out HSZ.out.1 HSZ.out.2 ?_; intro v' w4 q1 q2 q3; have OO : Hid (OwnI w4 w2.heap.size v' (js ++ [x])) := q1; have B4 : Hid (Below w.heap.size w w4) := BX.out.trans ((grown_below HOX.out q2 HSZ.out.2).mono B2.out.size); clear q1 q2 q3)
    obtain ⟨va, vc, hvs⟩ := OO.out.shape
    subst hvs
    have HLX : Hid ((js ++ [x]).length = n + 1) := by show _ = _; simp [HJL.out]
    refine (length_n (js ++ [x]) (js ++ [x]).length rfl (by have := HLX.out; omega) va vc w4 (OO.out.nm HI.out (by have := HLX.out; omega))).mono ?_
    rintro e w5 ⟨rfl, hb5⟩
    rw [hmm]
    have B5 : Hid (Below w.heap.size w w5) := nxt B4.out hb5
    clear hb5 OO HOX BX HNW HSZ HI
    go_wp2_with fail
    go_loopw [9, 10] (fun v9 v10 wr => ∃ i : Nat, i ≤ n ∧ v10 = .int .i64 (i : Int) ∧ v9 = .bool (tp (js.take i) x) ∧ wr = w5) (fun _ v10 _ => n - (intOf v10).toNat)
    case atStart => exact ⟨0, Nat.zero_le _, rfl, rfl, rfl⟩
    case round =>
      obtain ⟨i, hi, rfl, rfl, rfl⟩ := hrel
      by_cases hlt : i < n
      · have hij : i < js.length := by rw [HJL.out]; exact hlt
        obtain ⟨b1, o1, ha1, r1, _⟩ := HLY.out.below B5.out i js[i] (List.getElem?_eq_getElem hij)
        subst ha1
        have hts := tp_step hij x
        cases ht : tp (js.take i) x with
        | true =>
          rw [ht, Bool.true_and] at hts
          have HTS : Hid (tp (js.take (i + 1)) x = decide (js[i] < x)) := hts
          clear hts ht
          go_wp2_with fail
          go_roundw
          case rel => exact ⟨i + 1, by omega, by go_num, by rw [HTS.out], trivial⟩
          case measure => simp [intOf]; omega
        | false =>
          rw [ht, Bool.false_and] at hts
          have HTS : Hid (tp (js.take (i + 1)) x = false) := hts
          clear hts ht
          go_wp2_with fail
          go_roundw
          case rel => exact ⟨i + 1, by omega, by go_num, by rw [HTS.out], trivial⟩
          case measure => simp [intOf]; omega
      · have hin : i = n := by omega
        have HTJ : Hid (js.take i = js) := List.take_of_length_le (by have := HJL.out; omega)
        rw [HTJ.out]
        rcases HTM.out with h1 | ⟨h1, h2⟩
        · have hq : ((m : Int) == (ln : Int) + 1) = true := by simp; omega
          subst h1
          go_wp2_with (go_at_call 17; refine (num_any _ _).mono ?_; rintro e w9 ⟨rfl, h9⟩; subst w9)
          go_ret
          exact ⟨rfl, B5.out⟩
        · rw [h2]
          subst h1
          have hq : ((m : Int) == (m : Int) + 1) = false := by simp; omega
          go_wp2_with (go_at_call 17; refine (num_any _ _).mono ?_; rintro e w9 ⟨rfl, h9⟩; subst w9)
          go_ret
          exact ⟨rfl, B5.out⟩
  · go_wp2_with fail
    have HJ : Hid (∃ (js : List Int) (n : Nat), js.length = n ∧ n = 200 ∧ n ≤ 200 ∧ Nm w a c js) := ⟨ks.take 200, 200, by simp; omega, rfl, Nat.le_refl _, HNM.out.take 200⟩
    obtain ⟨js, n, hj1, hj2, hj3, hj4⟩ := HJ.out
    rw [← hj2]
    have HN : Hid (Nm w a c js) := hj4
    have HJL : Hid (js.length = n) := hj1
    clear HJ hj4
    refine (length_n js n HJL.out (by omega) a c w1 (HN.out.below B1.out)).mono ?_
    rintro e w2 ⟨rfl, hb2⟩
    have B2 : Hid (Below w.heap.size w w2) := nxt B1.out hb2
    have hl1 : len js ≤ 200 := by have := heads_le_len js; omega
    have HTM : Hid (len (js ++ [x]) = len js + 1 ∨ (len (js ++ [x]) = len js ∧ tp js x = false)) := tp_more js x
    have hl2 : len (js ++ [x]) ≤ 201 := by have := HTM.out; omega
    have CP : Hid (Calls Try.prog 9 #[.slice a n c] w2 _) := hj1 ▸ copyI_any js a c w2 (HN.out.below B2.out)
    have HLY : Hid (LayI w a js) := HN.out.1
    have HI : Hid (I64 (js ++ [x])) := by
      intro y hy
      rcases List.mem_append.1 hy with hy | hy
      · exact HLY.out.i64 y hy
      · have e : y = x := by simpa using hy
        rw [e]
        exact hb
    clear hb2 B1 hj1 hj2 HNM HN
    generalize len js = ln at *
    generalize hmm : len (js ++ [x]) = m at *
    go_wp2_with fail
    refine CP.out.mono ?_
    rintro e w3 ⟨v, rfl, ho, hb3⟩
    have B3 : Hid (Below w.heap.size w w3) := nxt B2.out hb3
    have HOX : Hid (OwnI (w3.alloc (.cells #[.int .i64 x] 3)) w2.heap.size v js) := ho.below (below_one _ _)
    have BX : Hid (Below w.heap.size w (w3.alloc (.cells #[.int .i64 x] 3))) := nxt B3.out (below_one _ _)
    have HNW : Hid ((w3.alloc (.cells #[.int .i64 x] 3)).cell? ((⟨w3.heap.size, 0, none⟩ : Addr).add 0) = some (.int .i64 x)) := newCells w3 _ _ 0 _ rfl
    have HSZ : Hid ((js.length + 1) * 8 ≤ 140737488355328 ∧ w2.heap.size ≤ (w3.alloc (.cells #[.int .i64 x] 3)).heap.size) := ⟨by have := HJL.out; omega, by have := hb3.size; simp; omega⟩
    clear ho hb3 CP
    go_wp2_with (refine wpList_pushI _ rfl (.tmp 25) (.tmp 27) rfl w2.heap.size _ js rfl HOX.out x ⟨w3.heap.size, 0, none⟩ 1 rfl HNW.out HSZ.out.1 HSZ.out.2 ?_; intro v' w4 q1 q2 q3; have OO : Hid (OwnI w4 w2.heap.size v' (js ++ [x])) := q1; have B4 : Hid (Below w.heap.size w w4) := BX.out.trans ((grown_below HOX.out q2 HSZ.out.2).mono B2.out.size); clear q1 q2 q3)
    obtain ⟨va, vc, hvs⟩ := OO.out.shape
    subst hvs
    have HLX : Hid ((js ++ [x]).length = n + 1) := by show _ = _; simp [HJL.out]
    refine (length_n (js ++ [x]) (js ++ [x]).length rfl (by have := HLX.out; omega) va vc w4 (OO.out.nm HI.out (by have := HLX.out; omega))).mono ?_
    rintro e w5 ⟨rfl, hb5⟩
    rw [hmm]
    have B5 : Hid (Below w.heap.size w w5) := nxt B4.out hb5
    clear hb5 OO HOX BX HNW HSZ HI
    go_wp2_with fail
    go_loopw [9, 10] (fun v9 v10 wr => ∃ i : Nat, i ≤ n ∧ v10 = .int .i64 (i : Int) ∧ v9 = .bool (tp (js.take i) x) ∧ wr = w5) (fun _ v10 _ => n - (intOf v10).toNat)
    case atStart => exact ⟨0, Nat.zero_le _, rfl, rfl, rfl⟩
    case round =>
      obtain ⟨i, hi, rfl, rfl, rfl⟩ := hrel
      by_cases hlt : i < n
      · have hij : i < js.length := by rw [HJL.out]; exact hlt
        obtain ⟨b1, o1, ha1, r1, _⟩ := HLY.out.below B5.out i js[i] (List.getElem?_eq_getElem hij)
        subst ha1
        have hts := tp_step hij x
        cases ht : tp (js.take i) x with
        | true =>
          rw [ht, Bool.true_and] at hts
          have HTS : Hid (tp (js.take (i + 1)) x = decide (js[i] < x)) := hts
          clear hts ht
          go_wp2_with fail
          go_roundw
          case rel => exact ⟨i + 1, by omega, by go_num, by rw [HTS.out], trivial⟩
          case measure => simp [intOf]; omega
        | false =>
          rw [ht, Bool.false_and] at hts
          have HTS : Hid (tp (js.take (i + 1)) x = false) := hts
          clear hts ht
          go_wp2_with fail
          go_roundw
          case rel => exact ⟨i + 1, by omega, by go_num, by rw [HTS.out], trivial⟩
          case measure => simp [intOf]; omega
      · have hin : i = n := by omega
        have HTJ : Hid (js.take i = js) := List.take_of_length_le (by have := HJL.out; omega)
        rw [HTJ.out]
        rcases HTM.out with h1 | ⟨h1, h2⟩
        · have hq : ((m : Int) == (ln : Int) + 1) = true := by simp; omega
          subst h1
          go_wp2_with (go_at_call 17; refine (num_any _ _).mono ?_; rintro e w9 ⟨rfl, h9⟩; subst w9)
          go_ret
          exact ⟨rfl, B5.out⟩
        · rw [h2]
          subst h1
          have hq : ((m : Int) == (m : Int) + 1) = false := by simp; omega
          go_wp2_with (go_at_call 17; refine (num_any _ _).mono ?_; rintro e w9 ⟨rfl, h9⟩; subst w9)
          go_ret
          exact ⟨rfl, B5.out⟩

set_option maxRecDepth 100000 in
set_option maxHeartbeats 1600000 in
theorem lifted (os : Os) (started : os.Started) (H : Type) (enc : TypeId × Value → H) :
    ReturnsInHanded {} Try.checked os 6 .any (Rows.lisMoreSpec.pre6 enc Try.prog Try.f6 Rows.lisMoreRow.domain false) (Rows.lisMoreSpec.post enc Try.prog Try.f6 false true false false) := by
  refine returnsInHanded_of_change_sized (C := Try.checked) Try.own started (by kernel_rfl) Try.func6
    (ChangeSpec.witness6 (enc := enc) (C := Try.checked) false ⟨#[], #[.slice none 0 0, .int .i64 0], []⟩ 8 (by kernel_rfl) (by kernel_rfl) (by kernel_rfl) (by kernel_rfl)) ?_
  intro W base args ds gs before hval0 hW _ hsz0 _
  have hsz : (DataW.weightsEach Try.prog (Try.f6.params.toList ++ Rows.lisMoreSpec.plain.varTypes Try.prog) (ds ++ gs)).all (· ≤ reachBytes) = true := hsz0
  have hval : ∀ (j : Nat) t v, Try.f6.params[j]? = some t → args[j]? = some v → Value.okWide Try.prog W .any base t v := hval0
  have hW' := hW
  obtain ⟨p, q, hA0, hV, rfl, hfz, hnd⟩ := hW
  have hA : DataW.TrodAll enc Try.prog W 0 (fun _ => true) true Try.f6.params.toList args.toList ds p := hA0
  rw [Try.params6] at hA hval hsz
  obtain ⟨v0, vs0, d0, ds0, p0, q0, hargs, rfl, rfl, h0, r0⟩ := trodAll_cons hA
  obtain ⟨v1, vs1, d1, ds1, p1, q1, rfl, rfl, rfl, h1, r1⟩ := trodAll_cons r0
  obtain ⟨rfl, rfl, rfl⟩ := trodAll_nil r1
  obtain rfl : args = #[v0, v1] := by cases args; simp_all
  obtain ⟨rfl, rfl⟩ := trodVars_none hV
  clear hA0 hval0
  simp only [List.append_nil] at hW' hsz
  have hlt : ∀ x ∈ p0 ++ p1, x.block < W.heap.size := fun x hx => hW'.lt x (by simpa using hx)
  have hall : ∀ x ∈ DataW.weightsEach Try.prog [22, 3] [d0, d1], x ≤ reachBytes := fun x hx => of_decide_eq_true (List.all_eq_true.1 hsz x hx)
  have g0 : ∀ x ∈ d0.weights Try.prog 22, x ≤ reachBytes := fun x hx => hall x (DataW.weights_mem_each (j := 0) rfl rfl x hx)
  obtain ⟨u0, l0⟩ := ints_of_arg (hval 0 _ v0 rfl rfl) h0 g0
  obtain ⟨a1, rfl, rfl, rfl, w1⟩ := open_int Try.underlying3 (hval 1 3 v1 rfl rfl) h1
  refine (walk u0 v0 a1 W l0 w1).mono fun e W' ⟨he, bel⟩ => ?_
  subst he
  exact ⟨_, rfl, _, _, _, [], _, [], hW', trodAll_mk1 (shut_bool Try.underlying4 _), (trodAll_cons_mk (Below.trod Try.laidOut (by kernel_rfl) (of_decide_eq_true (by kernel_rfl)) h0 bel (fun x hx => hlt x (by simp [hx]))) (trodAll_cons_mk (shut_int Try.underlying3 w1) trodAll_mk0)), rfl, bel.frame _, fun h => by cases h⟩

theorem over : Rows.lisMoreRow.holds Try.pinned (OpenSpec.ofChange Rows.lisMoreSpec) :=
  OpenClaim.holds_of_wide 6 Try.f6 rfl rfl rfl rfl rfl rfl rfl ⟨rfl, rfl, rfl, rfl, rfl⟩ rfl rfl rfl rfl rfl (by kernel_rfl) Try.func6 (by kernel_rfl)
    (of_decide_eq_true (by kernel_rfl)) (by unfold Func.isWrapper; first | (rw [if_pos (by decide +kernel)]; kernel_rfl) | (rw [if_neg (by decide +kernel)]; exact ⟨rfl, rfl⟩))
    (fun os started H enc _ => lifted os started H enc)

/-- THE STATEMENT. -/
theorem proved : Rows.LisMoreSaid := over
#print axioms proved
end Go.Proofs.Yteceljjmandnmaa.lisMore
