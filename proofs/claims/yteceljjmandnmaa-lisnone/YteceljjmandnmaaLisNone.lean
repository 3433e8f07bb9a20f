/-
  LisNone holds for every list and every choice: no rising part that is made by choosing places is longer than what Length answers. No condition.
-/
import Derived.Test.YteceljjmandnmaaLiLaw
namespace Go.Proofs.Yteceljjmandnmaa.lisNone
open Go.ChangeShapes Go.WideShapes Go.ChangeAt Go.RowKit Go.Deep
open Li

set_option maxRecDepth 100000 in
set_option maxHeartbeats 6400000 in
theorem walk (ks : List Int) (x0 : Value) (x : Int) (w : World) (hx : NumsArg w x0 ks) (hxi : (Lit.int .u64 x).wf = true) :
    Calls Try.prog 5 #[x0, .int .u64 x] w fun e w' => e = .returned (.bool true) ∧ Below w.heap.size w w' := by
  obtain ⟨a, c, rfl, hnm⟩ := hx
  have hb := bounds_u64 hxi
  have HNM : Hid (Nm w a c ks) := hnm
  have hln : ks.length ≤ 140737488351232 := by have := hnm.2.2.2.1; omega
  have hlc : ks.length ≤ c := hnm.2.1
  have hcc : c ≤ 9223372036854775807 := hnm.2.2.1
  clear hnm hxi
  go_enter Try.func5, Try.ntmps5
  go_wp2_with fail
  refine (alive_any _).mono ?_
  rintro e w1 ⟨rfl, hb1⟩
  have B1 : Hid (Below w.heap.size w w1) := hb1
  clear hb1
  by_cases hk : ks.length ≤ 64
  · go_wp2_with fail
    have HJ : Hid (∃ (js : List Int) (n : Nat), js.length = n ∧ n = ks.length ∧ n ≤ 64 ∧ Nm w a c js) := ⟨ks, ks.length, rfl, rfl, hk, HNM.out⟩
    obtain ⟨js, n, hj1, hj2, hj3, hj4⟩ := HJ.out
    rw [← hj2]
    have HN : Hid (Nm w a c js) := hj4
    have HJL : Hid (js.length = n) := hj1
    clear HJ hj4
    refine (length_n js n HJL.out (by omega) a c w1 (HN.out.below B1.out)).mono ?_
    rintro e w2 ⟨rfl, hb2⟩
    have B2 : Hid (Below w.heap.size w w2) := nxt B1.out hb2
    have hl1 : len js ≤ 64 := by have := heads_le_len js; omega
    have HLY : Hid (LayI w a js) := HN.out.1
    have HR : Hid (∀ s : List Int, s.Sublist js → Rises s → s.length ≤ len js) := fun s h1 h2 => rise_le js s h1 h2
    clear hb2 B1 hj1 hj2 HNM HN
    generalize len js = ln at *
    go_wp2_with (go_at_call 17; refine (num_any _ _).mono ?_; rintro e w9 ⟨rfl, h9⟩; subst w9)
    go_loopw [7, 8, 9, 10] (fun v7 v8 v9 v10 wr => ∃ (i k : Nat) (last : Int) (some_ : Bool) (s : List Int), i ≤ n ∧ k ≤ i ∧ v10 = .int .i64 (i : Int) ∧ v7 = .int .i64 (k : Int) ∧ v8 = .int .i64 last ∧ v9 = .bool some_ ∧ Hid (s.Sublist (js.take i) ∧ Rises s ∧ s.length = k ∧ (some_ = false → s = []) ∧ (some_ = true → ∀ y ∈ s, y ≤ last)) ∧ Hid (Below w.heap.size w wr)) (fun _ _ _ v10 _ => n - (intOf v10).toNat)
    case atStart => exact ⟨0, 0, 0, false, [], Nat.zero_le _, Nat.le_refl _, rfl, rfl, rfl, rfl, ⟨by simp, List.Pairwise.nil, rfl, fun _ => rfl, fun h => by cases h⟩, B2.out⟩
    case round =>
      obtain ⟨i, k, last, sm, s, hi, hki, rfl, rfl, rfl, rfl, HS, HB⟩ := hrel
      by_cases hlt : i < n
      · have hij : i < js.length := by rw [HJL.out]; exact hlt
        obtain ⟨b1, o1, ha1, r1, _⟩ := HLY.out.below HB.out i js[i] (List.getElem?_eq_getElem hij)
        subst ha1
        have HT : Hid (js.take (i + 1) = js.take i ++ [js[i]]) := List.take_succ_eq_append_getElem hij
        have HST : Hid (s.Sublist (js.take (i + 1))) := by
          show s.Sublist _
          rw [HT.out]
          exact HS.out.1.trans (List.sublist_append_left _ _)
        have HSN : Hid ((s ++ [js[i]]).Sublist (js.take (i + 1))) := by
          show List.Sublist _ _
          rw [HT.out]
          exact HS.out.1.append (List.Sublist.refl _)
        generalize js[i] = z at *
        by_cases hbit : bits BinOp.and IntKind.u64 (x / 2 ^ i) 1 = 1
        · cases sm with
          | false =>
            have hs0 : s = [] := HS.out.2.2.2.1 rfl
            subst hs0
            have hk0 : k = 0 := HS.out.2.2.1.symm
            subst hk0
            go_wp2_with fail
            go_quiet (fail)
            go_wp2_with fail
            go_roundw
            case rel => exact ⟨i + 1, 1, z, true, [z], by omega, by omega, by go_num, by go_num, rfl, rfl, ⟨by simpa using HSN.out, List.pairwise_singleton _ _, rfl, (fun h => by cases h), (fun _ y hy => by simp at hy; omega)⟩, nxt HB.out (Below_drewN _ _ _)⟩
            case measure => simp [intOf]; omega
          | true =>
            by_cases hz : last < z
            · go_wp2_with fail
              go_quiet (fail)
              go_wp2_with fail
              go_roundw
              case rel =>
                refine ⟨i + 1, k + 1, z, true, s ++ [z], by omega, by omega, by go_num, by go_num, rfl, rfl, ⟨HSN.out, ?_, by simp [HS.out.2.2.1], (fun h => by cases h), fun _ y hy => ?_⟩, nxt HB.out (Below_drewN _ _ _)⟩
                · refine List.pairwise_append.2 ⟨HS.out.2.1, List.pairwise_singleton _ _, fun y hy z' hz' => ?_⟩
                  have e : z' = z := by simpa using hz'
                  have := HS.out.2.2.2.2 trivial y hy
                  omega
                · rcases List.mem_append.1 hy with h | h
                  · have := HS.out.2.2.2.2 trivial y h
                    omega
                  · have e : y = z := by simpa using h
                    omega
              case measure => simp [intOf]; omega
            · have hz' : z ≤ last := by omega
              clear hz
              go_wp2_with fail
              go_roundw
              case rel => exact ⟨i + 1, k, last, true, s, by omega, by omega, by go_num, rfl, rfl, rfl, ⟨HST.out, HS.out.2⟩, HB.out⟩
              case measure => simp [intOf]; omega
        · go_wp2_with fail
          go_roundw
          case rel => exact ⟨i + 1, k, last, sm, s, by omega, by omega, by go_num, rfl, rfl, rfl, ⟨HST.out, HS.out.2⟩, HB.out⟩
          case measure => simp [intOf]; omega
      · have hkl : k ≤ ln := by
          have h1 := HS.out
          have h2 := HR.out s (h1.1.trans (List.take_sublist _ _)) h1.2.1
          omega
        by_cases hn0 : n = 0
        · subst hn0
          go_wp2_with fail
          go_ret
          exact ⟨rfl, HB.out⟩
        · have hlp : 0 < ln := by
            have hj : 0 < js.length := by rw [HJL.out]; omega
            have h2 := HR.out [js[0]] (List.singleton_sublist.2 (List.getElem_mem hj)) (List.pairwise_singleton _ _)
            simp only [List.length_cons, List.length_nil] at h2
            omega
          have hq : ((n : Int) == 0) = false := by simp; omega
          go_wp2_with fail
          go_ret
          exact ⟨rfl, HB.out⟩
  · go_wp2_with fail
    have HJ : Hid (∃ (js : List Int) (n : Nat), js.length = n ∧ n = 64 ∧ n ≤ 64 ∧ Nm w a c js) := ⟨ks.take 64, 64, by simp; omega, rfl, Nat.le_refl _, HNM.out.take 64⟩
    obtain ⟨js, n, hj1, hj2, hj3, hj4⟩ := HJ.out
    rw [← hj2]
    have HN : Hid (Nm w a c js) := hj4
    have HJL : Hid (js.length = n) := hj1
    clear HJ hj4
    refine (length_n js n HJL.out (by omega) a c w1 (HN.out.below B1.out)).mono ?_
    rintro e w2 ⟨rfl, hb2⟩
    have B2 : Hid (Below w.heap.size w w2) := nxt B1.out hb2
    have hl1 : len js ≤ 64 := by have := heads_le_len js; omega
    have HLY : Hid (LayI w a js) := HN.out.1
    have HR : Hid (∀ s : List Int, s.Sublist js → Rises s → s.length ≤ len js) := fun s h1 h2 => rise_le js s h1 h2
    clear hb2 B1 hj1 hj2 HNM HN
    generalize len js = ln at *
    go_wp2_with (go_at_call 17; refine (num_any _ _).mono ?_; rintro e w9 ⟨rfl, h9⟩; subst w9)
    go_loopw [7, 8, 9, 10] (fun v7 v8 v9 v10 wr => ∃ (i k : Nat) (last : Int) (some_ : Bool) (s : List Int), i ≤ n ∧ k ≤ i ∧ v10 = .int .i64 (i : Int) ∧ v7 = .int .i64 (k : Int) ∧ v8 = .int .i64 last ∧ v9 = .bool some_ ∧ Hid (s.Sublist (js.take i) ∧ Rises s ∧ s.length = k ∧ (some_ = false → s = []) ∧ (some_ = true → ∀ y ∈ s, y ≤ last)) ∧ Hid (Below w.heap.size w wr)) (fun _ _ _ v10 _ => n - (intOf v10).toNat)
    case atStart => exact ⟨0, 0, 0, false, [], Nat.zero_le _, Nat.le_refl _, rfl, rfl, rfl, rfl, ⟨by simp, List.Pairwise.nil, rfl, fun _ => rfl, fun h => by cases h⟩, B2.out⟩
    case round =>
      obtain ⟨i, k, last, sm, s, hi, hki, rfl, rfl, rfl, rfl, HS, HB⟩ := hrel
      by_cases hlt : i < n
      · have hij : i < js.length := by rw [HJL.out]; exact hlt
        obtain ⟨b1, o1, ha1, r1, _⟩ := HLY.out.below HB.out i js[i] (List.getElem?_eq_getElem hij)
        subst ha1
        have HT : Hid (js.take (i + 1) = js.take i ++ [js[i]]) := List.take_succ_eq_append_getElem hij
        have HST : Hid (s.Sublist (js.take (i + 1))) := by
          show s.Sublist _
          rw [HT.out]
          exact HS.out.1.trans (List.sublist_append_left _ _)
        have HSN : Hid ((s ++ [js[i]]).Sublist (js.take (i + 1))) := by
          show List.Sublist _ _
          rw [HT.out]
          exact HS.out.1.append (List.Sublist.refl _)
        generalize js[i] = z at *
        by_cases hbit : bits BinOp.and IntKind.u64 (x / 2 ^ i) 1 = 1
        · cases sm with
          | false =>
            have hs0 : s = [] := HS.out.2.2.2.1 rfl
            subst hs0
            have hk0 : k = 0 := HS.out.2.2.1.symm
            subst hk0
            go_wp2_with fail
            go_quiet (fail)
            go_wp2_with fail
            go_roundw
            case rel => exact ⟨i + 1, 1, z, true, [z], by omega, by omega, by go_num, by go_num, rfl, rfl, ⟨by simpa using HSN.out, List.pairwise_singleton _ _, rfl, (fun h => by cases h), (fun _ y hy => by simp at hy; omega)⟩, nxt HB.out (Below_drewN _ _ _)⟩
            case measure => simp [intOf]; omega
          | true =>
            by_cases hz : last < z
            · go_wp2_with fail
              go_quiet (fail)
              go_wp2_with fail
              go_roundw
              case rel =>
                refine ⟨i + 1, k + 1, z, true, s ++ [z], by omega, by omega, by go_num, by go_num, rfl, rfl, ⟨HSN.out, ?_, by simp [HS.out.2.2.1], (fun h => by cases h), fun _ y hy => ?_⟩, nxt HB.out (Below_drewN _ _ _)⟩
                · refine List.pairwise_append.2 ⟨HS.out.2.1, List.pairwise_singleton _ _, fun y hy z' hz' => ?_⟩
                  have e : z' = z := by simpa using hz'
                  have := HS.out.2.2.2.2 trivial y hy
                  omega
                · rcases List.mem_append.1 hy with h | h
                  · have := HS.out.2.2.2.2 trivial y h
                    omega
                  · have e : y = z := by simpa using h
                    omega
              case measure => simp [intOf]; omega
            · have hz' : z ≤ last := by omega
              clear hz
              go_wp2_with fail
              go_roundw
              case rel => exact ⟨i + 1, k, last, true, s, by omega, by omega, by go_num, rfl, rfl, rfl, ⟨HST.out, HS.out.2⟩, HB.out⟩
              case measure => simp [intOf]; omega
        · go_wp2_with fail
          go_roundw
          case rel => exact ⟨i + 1, k, last, sm, s, by omega, by omega, by go_num, rfl, rfl, rfl, ⟨HST.out, HS.out.2⟩, HB.out⟩
          case measure => simp [intOf]; omega
      · have hkl : k ≤ ln := by
          have h1 := HS.out
          have h2 := HR.out s (h1.1.trans (List.take_sublist _ _)) h1.2.1
          omega
        by_cases hn0 : n = 0
        · subst hn0
          go_wp2_with fail
          go_ret
          exact ⟨rfl, HB.out⟩
        · have hlp : 0 < ln := by
            have hj : 0 < js.length := by rw [HJL.out]; omega
            have h2 := HR.out [js[0]] (List.singleton_sublist.2 (List.getElem_mem hj)) (List.pairwise_singleton _ _)
            simp only [List.length_cons, List.length_nil] at h2
            omega
          have hq : ((n : Int) == 0) = false := by simp; omega
          go_wp2_with fail
          go_ret
          exact ⟨rfl, HB.out⟩

set_option maxRecDepth 100000 in
set_option maxHeartbeats 1600000 in
theorem lifted (os : Os) (started : os.Started) (H : Type) (enc : TypeId × Value → H) :
    ReturnsInHanded {} Try.checked os 5 .any (Rows.lisNoneSpec.pre6 enc Try.prog Try.f5 Rows.lisNoneRow.domain false) (Rows.lisNoneSpec.post enc Try.prog Try.f5 false true false false) := by
  refine returnsInHanded_of_change_sized (C := Try.checked) Try.own started (by kernel_rfl) Try.func5
    (ChangeSpec.witness6 (enc := enc) (C := Try.checked) false ⟨#[], #[.slice none 0 0, .int .u64 0], []⟩ 8 (by kernel_rfl) (by kernel_rfl) (by kernel_rfl) (by kernel_rfl)) ?_
  intro W base args ds gs before hval0 hW _ hsz0 _
  have hsz : (DataW.weightsEach Try.prog (Try.f5.params.toList ++ Rows.lisNoneSpec.plain.varTypes Try.prog) (ds ++ gs)).all (· ≤ reachBytes) = true := hsz0
  have hval : ∀ (j : Nat) t v, Try.f5.params[j]? = some t → args[j]? = some v → Value.okWide Try.prog W .any base t v := hval0
  have hW' := hW
  obtain ⟨p, q, hA0, hV, rfl, hfz, hnd⟩ := hW
  have hA : DataW.TrodAll enc Try.prog W 0 (fun _ => true) true Try.f5.params.toList args.toList ds p := hA0
  rw [Try.params5] at hA hval hsz
  obtain ⟨v0, vs0, d0, ds0, p0, q0, hargs, rfl, rfl, h0, r0⟩ := trodAll_cons hA
  obtain ⟨v1, vs1, d1, ds1, p1, q1, rfl, rfl, rfl, h1, r1⟩ := trodAll_cons r0
  obtain ⟨rfl, rfl, rfl⟩ := trodAll_nil r1
  obtain rfl : args = #[v0, v1] := by cases args; simp_all
  obtain ⟨rfl, rfl⟩ := trodVars_none hV
  clear hA0 hval0
  simp only [List.append_nil] at hW' hsz
  have hlt : ∀ x ∈ p0 ++ p1, x.block < W.heap.size := fun x hx => hW'.lt x (by simpa using hx)
  have hall : ∀ x ∈ DataW.weightsEach Try.prog [22, 37] [d0, d1], x ≤ reachBytes := fun x hx => of_decide_eq_true (List.all_eq_true.1 hsz x hx)
  have g0 : ∀ x ∈ d0.weights Try.prog 22, x ≤ reachBytes := fun x hx => hall x (DataW.weights_mem_each (j := 0) rfl rfl x hx)
  obtain ⟨u0, l0⟩ := ints_of_arg (hval 0 _ v0 rfl rfl) h0 g0
  obtain ⟨a1, rfl, rfl, rfl, w1⟩ := open_int Try.underlying37 (hval 1 37 v1 rfl rfl) h1
  refine (walk u0 v0 a1 W l0 w1).mono fun e W' ⟨he, bel⟩ => ?_
  subst he
  exact ⟨_, rfl, _, _, _, [], _, [], hW', trodAll_mk1 (shut_bool Try.underlying4 _), (trodAll_cons_mk (Below.trod Try.laidOut (by kernel_rfl) (of_decide_eq_true (by kernel_rfl)) h0 bel (fun x hx => hlt x (by simp [hx]))) (trodAll_cons_mk (shut_int Try.underlying37 w1) trodAll_mk0)), rfl, bel.frame _, fun h => by cases h⟩

theorem over : Rows.lisNoneRow.holds Try.pinned (OpenSpec.ofChange Rows.lisNoneSpec) :=
  OpenClaim.holds_of_wide 5 Try.f5 rfl rfl rfl rfl rfl rfl rfl ⟨rfl, rfl, rfl, rfl, rfl⟩ rfl rfl rfl rfl rfl (by kernel_rfl) Try.func5 (by kernel_rfl)
    (of_decide_eq_true (by kernel_rfl)) (by unfold Func.isWrapper; first | (rw [if_pos (by decide +kernel)]; kernel_rfl) | (rw [if_neg (by decide +kernel)]; exact ⟨rfl, rfl⟩))
    (fun os started H enc _ => lifted os started H enc)

/-- THE STATEMENT. -/
theorem proved : Rows.LisNoneSaid := over
#print axioms proved
end Go.Proofs.Yteceljjmandnmaa.lisNone
