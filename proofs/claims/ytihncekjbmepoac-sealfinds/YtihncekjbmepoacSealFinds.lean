/-
  SealFinds holds for every frame, every place and every pattern of 32 bits: turned bits, up to 32 in a row, behind the length, are told. No condition.
-/
import Derived.Test.YtihncekjbmepoacSeFind
namespace Go.Proofs.Ytihncekjbmepoac.sealFinds
open Go.ChangeShapes Go.WideShapes Go.ChangeAt Go.RowKit Go.Deep
open Se

theorem bit_int (t m : Nat) : ((t : Int) / 2 ^ m).tmod 2 = ((t / 2 ^ m % 2 : Nat) : Int) := by
  rw [Int.tmod_eq_emod_of_nonneg (Int.ediv_nonneg (by omega) (Int.le_of_lt (Int.pow_pos (by decide))))]
  simp

theorem xor_small (o : UInt8) (b : Nat) (h : b < 8) : o.toNat ^^^ 2 ^ b < 256 := Nat.xor_lt_two_pow (n := 8) (u8_lt o) (Nat.pow_lt_pow_right (by decide) h)
theorem xor_toNat (o : UInt8) (b : Nat) (h : b < 8) : (UInt8.ofNat (o.toNat ^^^ 2 ^ b)).toNat = o.toNat ^^^ 2 ^ b := by
  rw [UInt8.toNat_ofNat', Nat.mod_eq_of_lt (xor_small o b h)]
theorem xor_oct (o : UInt8) (b : Nat) (h : b < 8) : bits .xor .u8 (o.toNat : Int) (2 ^ b % 256) = (((UInt8.ofNat (o.toNat ^^^ 2 ^ b)).toNat : Nat) : Int) := by
  have h2 : (2 : Nat) ^ b < 256 := Nat.pow_lt_pow_right (m := b) (n := 8) (by decide) h
  have e : (2 : Int) ^ b % 256 = ((2 ^ b : Nat) : Int) := by
    have : ((2 ^ b : Nat) : Int) = (2 : Int) ^ b := by simp
    rw [← this]
    generalize 2 ^ b = p at *
    omega
  rw [e, u8_xor_nat _ _ (u8_lt o) h2, xor_toNat o b h]

set_option maxRecDepth 100000 in
set_option maxHeartbeats 6400000 in
theorem walk (f : Int × List UInt8) (x : Value) (at0 tn0 : Int) (w : World) (hf : FrameIs w x f) (hat : (Lit.int .i64 at0).wf = true) (htn : (Lit.int .u32 tn0).wf = true) :
    Calls Try.prog 5 #[x, .int .i64 at0, .int .u32 tn0] w fun e w' => e = .returned (.bool true) ∧ Below w.heap.size w w' := by
  obtain ⟨k, d⟩ := f
  obtain ⟨a, c, rfl, hkb, ho, hdl⟩ := hf
  simp only at hkb ho hdl ⊢
  have hab := bounds_i64 hat
  have htb := bounds_u32 htn
  obtain ⟨tn, rfl⟩ : ∃ tn : Nat, tn0 = tn := ⟨tn0.toNat, by omega⟩
  clear hat htn
  have HO : Hid (Oct w a c d) := ho
  clear ho
  go_enter Try.func5, Try.ntmps5
  go_wp2_with fail
  refine (alive_any _).mono ?_
  rintro e w1 ⟨rfl, hb1⟩
  have X1 : Hid (w1.heap[w.heap.size]? = some (.cells #[.int .i64 k, .slice a d.length c] 24 (0, 0))) := (hb1.block _ (by simp)).trans (heap_alloc_new _ _)
  have B1 : Hid (Below w.heap.size w w1) := nxt (below_one _ _) hb1
  clear hb1
  obtain ⟨x0, -⟩ := cell_of X1.out 0
  obtain ⟨x1, -⟩ := cell_of X1.out 1
  simp at x0 x1
  go_wp2_with fail
  refine (of_any k a c d w1 (HO.out.below B1.out) hdl).mono ?_
  rintro e w2 ⟨s2, rfl, hs2, hb2⟩
  obtain ⟨a2, c2, rfl⟩ := hs2.shape
  have O2 : Hid (Oct w2 a2 c2 d) := hs2.oct (by omega)
  have B2 : Hid (Below w.heap.size w w2) := nxt B1.out hb2
  clear hs2 hb2 X1 B1 x0 x1
  go_wp2_with fail
  have HP := put_any k a2 c2 d w2 O2.out
  by_cases hgood : (1 ≤ k ∧ k ≤ 255) ∧ d.length ≤ 65536
  · rw [put_ok hgood.1 hgood.2] at HP
    simp only at HP
    refine HP.mono ?_
    rintro e w3 ⟨s3, rfl, hs3, hb3⟩
    have HGD : Hid ((1 ≤ k ∧ k ≤ 255) ∧ d.length ≤ 65536) := hgood
    have hfl := frame_length k d
    obtain ⟨a3, c3, rfl⟩ := hs3.shape
    obtain ⟨g, rfl, hg⟩ := hs3.spot (by omega)
    have S3 : Hid (Bs w3 w2.heap.size (.slice (some ⟨g, 0, none⟩) (frame k d).length c3) (frame k d)) := hs3
    have B3 : Hid (Below w.heap.size w w3) := nxt B2.out hb3
    have hlf : 8 ≤ (frame k d).length ∧ (frame k d).length ≤ 100000 := by omega
    have HW : Hid (w.heap.size ≤ g) := Nat.le_trans B2.out.size hg
    clear hs3 hb3 B2 HP O2 hfl hgood hg
    generalize hL : (frame k d).length = L at *
    have HL : Hid ((frame k d).length = L) := hL
    clear hL
    obtain ⟨hL8, hLm⟩ := hlf
    by_cases ht0 : tn = 0
    · have ht1 : ((tn : Int) == 0) = true := by simp [ht0]
      go_wp2_with fail
      refine (num_any _ _).mono ?_
      rintro e w4 ⟨rfl, hw4⟩
      subst w4
      go_wp2_with fail
      refine (num_any _ _).mono ?_
      rintro e w4 ⟨rfl, hw4⟩
      subst w4
      go_wp2_with fail
      go_ret
      exact ⟨rfl, B3.out⟩
    · have ht1 : ((tn : Int) == 0) = false := by simp; omega
      have HT0 : Hid (tn ≠ 0) := ht0
      clear ht0
      go_wp2_with fail
      refine (num_any _ _).mono ?_
      rintro e w4 ⟨rfl, hw4⟩
      subst w4
      have hn0 : ¬ (8 * ((L : Int) - 4) - 31) = 0 := by omega
      go_wp2_with fail
      obtain ⟨A, hA, hA1, hA2⟩ := place at0 L hL8 hLm
      generalize wrap64 (32 + (wrap64 (at0.tmod (8 * ((L : Int) - 4) - 31) + (8 * ((L : Int) - 4) - 31))).tmod (8 * ((L : Int) - 4) - 31)) = AA at *
      subst hA
      clear hn0
      generalize hF : frame k d = F at *
      have HF : Hid (frame k d = F) := hF
      clear hF
      go_loopw [10] (fun i wr => ∃ (m : Nat) (X : List UInt8), m ≤ 32 ∧ i = .int .i64 m ∧ Hid (Bs wr w2.heap.size (.slice (some ⟨g, 0, none⟩) L c3) X) ∧ Hid (X.length = L ∧ X.take 4 = F.take 4 ∧ val X = val F ^^^ (tn % 2 ^ m) * 2 ^ A) ∧ Hid (Below w.heap.size w wr)) (fun i _ => 32 - (intOf i).toNat)
      case atStart => exact ⟨0, F, by omega, rfl, S3.out, ⟨HL.out, rfl, by simp [Nat.mod_one]⟩, B3.out⟩
      case round =>
        obtain ⟨m, X, hm, rfl, HR, HX, HB⟩ := hrel
        by_cases hlt : m < 32
        · have hm1 : (m : Int) < 32 := by omega
          obtain ⟨j, hj⟩ : ∃ j, j = (A + m) / 8 := ⟨_, rfl⟩
          obtain ⟨bt, hbt⟩ : ∃ bt, bt = (A + m) % 8 := ⟨_, rfl⟩
          have hjl : j < X.length := by rw [HX.out.1]; omega
          obtain ⟨o, hjo⟩ : ∃ o, X[j]? = some o := ⟨_, List.getElem?_eq_getElem hjl⟩
          obtain ⟨cj, fj⟩ := HR.out.cell hjo
          by_cases hbit : tn / 2 ^ m % 2 = 1
          · have hb' : (((tn : Int) / 2 ^ m).tmod 2 == 1) = true := by
              have : ((tn : Int) / 2 ^ m).tmod 2 = ((tn / 2 ^ m % 2 : Nat) : Int) := bit_int tn m
              rw [this, hbit]; rfl
            have cj' : wr.drew.cell? ⟨g, (A + m) / 8, none⟩ = some (.int .u8 (o.toNat : Int)) := by rw [← hj]; exact cj
            have fj' : wr.drew.frozen? ⟨g, (A + m) / 8, none⟩ = false := by rw [← hj]; exact fj
            have ho := u8_lt o
            go_wp2_with fail
            go_region
            have HV : bits .xor .u8 (o.toNat : Int) (2 ^ ((A + m) % 8) % 256) = (((UInt8.ofNat (o.toNat ^^^ 2 ^ bt)).toNat : Nat) : Int) := by rw [hbt]; exact xor_oct o _ (by omega)
            have HX2 : Hid (val (X.set j (UInt8.ofNat (o.toNat ^^^ 2 ^ bt))) = val F ^^^ (tn % 2 ^ (m + 1)) * 2 ^ A) := by
              show _ = _
              rw [val_set X j bt o _ hjo (xor_toNat o bt (by omega)), HX.out.2.2, turn_xor tn m A hbit, ← Nat.xor_assoc]
              congr 2
              omega
            have HT2 : Hid ((X.set j (UInt8.ofNat (o.toNat ^^^ 2 ^ bt))).take 4 = F.take 4) := by
              show _ = _
              rw [List.take_set, List.set_eq_of_length_le (by rw [List.length_take]; omega)]
              exact HX.out.2.1
            have HR2 : Hid (Bs (wr.setCell ⟨g, j, none⟩ (.int .u8 ((UInt8.ofNat (o.toNat ^^^ 2 ^ bt)).toNat : Int))).drew w2.heap.size (.slice (some ⟨g, 0, none⟩) L c3) (X.set j (UInt8.ofNat (o.toNat ^^^ 2 ^ bt)))) := (HR.out.set j _).below (Below.refl _ _).drew
            have HB2 : Hid (Below w.heap.size w (wr.setCell ⟨g, j, none⟩ (.int .u8 ((UInt8.ofNat (o.toNat ^^^ 2 ^ bt)).toNat : Int))).drew) := (HB.out.setCell (by exact HW.out) _).drew
            rw [← hj, HV]
            clear HV cj' fj' cj fj hb' hjo hbit
            generalize (wr.setCell ⟨g, j, none⟩ (.int .u8 ((UInt8.ofNat (o.toNat ^^^ 2 ^ bt)).toNat : Int))).drew = W9 at *
            have HL2 : Hid ((X.set j (UInt8.ofNat (o.toNat ^^^ 2 ^ bt))).length = L) := by show _ = _; rw [List.length_set]; exact HX.out.1
            generalize X.set j (UInt8.ofNat (o.toNat ^^^ 2 ^ bt)) = X2 at *
            go_wp2_with fail
            exact ⟨⟨m + 1, X2, by omega, by go_num, HR2.out, ⟨HL2.out, HT2.out, HX2.out⟩, HB2.out⟩, by simp [intOf]; omega⟩
          · have hb0 : tn / 2 ^ m % 2 = 0 := by omega
            have hb' : (((tn : Int) / 2 ^ m).tmod 2 == 1) = false := by
              have : ((tn : Int) / 2 ^ m).tmod 2 = ((tn / 2 ^ m % 2 : Nat) : Int) := bit_int tn m
              rw [this, hb0]; rfl
            go_wp2_with fail
            refine ⟨⟨m + 1, X, by omega, by go_num, HR.out, ⟨HX.out.1, HX.out.2.1, ?_⟩, HB.out⟩, by simp [intOf]; omega⟩
            rw [turn_same tn m A hb0]
            exact HX.out.2.2
        · have hme : m = 32 := by omega
          subst hme
          have hX := HX.out
          have HG := get_any (some ⟨g, 0, none⟩) c3 X wr (HR.out.oct (by rw [hX.1]; omega))
          have hgt : getR X = (21, 0, [], 0) := by
            have hF := HF.out
            subst hF
            refine get_turned HGD.out.1 HGD.out.2 (hX.1.trans HL.out.symm) hX.2.1 A tn (by omega) HT0.out (by rw [HL.out]; exact hA2) ?_
            rw [hX.2.2, Nat.mod_eq_of_lt (by omega)]
          rw [hgt, hX.1] at HG
          have HGG : Hid (Calls Try.prog 12 #[.slice (some ⟨g, 0, none⟩) L c3] wr _) := HG
          clear HG hX hgt
          go_wp2_with fail
          refine HGG.out.mono ?_
          rintro e w6 ⟨s6, rfl, hs6, hb6⟩
          obtain ⟨a6, c6, rfl⟩ := hs6.shape
          have B6 : Hid (Below w.heap.size w w6) := nxt HB.out hb6
          clear hs6 hb6 HGG
          go_wp2_with fail
          refine (num_any _ _).mono ?_
          rintro e w7 ⟨rfl, hw7⟩
          subst w7
          go_wp2_with fail
          go_ret
          exact ⟨rfl, nxt B6.out (below_one _ _)⟩
  · obtain ⟨hb1, hb2⟩ := put_bad hgood
    rw [hb2] at HP
    have hne : ((putR k d).1 == 0) = false := by simpa using hb1
    have hne' : ((putR k d).1 != 0) = true := by simpa using hb1
    clear hb1 hb2
    generalize (putR k d).1 = er at *
    refine HP.mono ?_
    rintro e w4 ⟨s4, rfl, hs4, hb4⟩
    obtain ⟨a4, c4, rfl⟩ := hs4.shape
    have B4 : Hid (Below w.heap.size w w4) := nxt B2.out hb4
    clear hs4 hb4 HP
    go_wp2_with fail
    refine (num_any _ _).mono ?_
    rintro e w5 ⟨rfl, hw5⟩
    subst w5
    go_wp2_with fail
    refine (num_any _ _).mono ?_
    rintro e w5 ⟨rfl, hw5⟩
    subst w5
    go_wp2_with fail
    go_ret
    exact ⟨rfl, B4.out⟩

set_option maxRecDepth 100000 in
set_option maxHeartbeats 1600000 in
theorem lifted (os : Os) (started : os.Started) (H : Type) (enc : TypeId × Value → H) :
    ReturnsInHanded {} Try.checked os 5 .any (Rows.sealFindsSpec.pre6 enc Try.prog Try.f5 Rows.sealFindsRow.domain false) (Rows.sealFindsSpec.post enc Try.prog Try.f5 false true false false) := by
  refine returnsInHanded_of_change_sized (C := Try.checked) Try.own started (by kernel_rfl) Try.func5
    (ChangeSpec.witness6 (enc := enc) (C := Try.checked) false ⟨#[], #[.agg #[.int .i64 0, .slice none 0 0], .int .i64 0, .int .u32 0], []⟩ 8 (by kernel_rfl) (by kernel_rfl) (by kernel_rfl) (by kernel_rfl)) ?_
  intro W base args ds gs before hval0 hW _ hsz0 _
  have hsz : (DataW.weightsEach Try.prog (Try.f5.params.toList ++ Rows.sealFindsSpec.plain.varTypes Try.prog) (ds ++ gs)).all (· ≤ reachBytes) = true := hsz0
  have hval : ∀ (j : Nat) t v, Try.f5.params[j]? = some t → args[j]? = some v → Value.okWide Try.prog W .any base t v := hval0
  have hW' := hW
  obtain ⟨p, q, hA0, hV, rfl, hfz, hnd⟩ := hW
  have hA : DataW.TrodAll enc Try.prog W 0 (fun _ => true) true Try.f5.params.toList args.toList ds p := hA0
  rw [Try.params5] at hA hval hsz
  obtain ⟨v0, vs0, d0, ds0, p0, q0, hargs, rfl, rfl, h0, r0⟩ := trodAll_cons hA
  obtain ⟨v1, vs1, d1, ds1, p1, q1, rfl, rfl, rfl, h1, r1⟩ := trodAll_cons r0
  obtain ⟨v2, vs2, d2, ds2, p2, q2, rfl, rfl, rfl, h2, r2⟩ := trodAll_cons r1
  obtain ⟨rfl, rfl, rfl⟩ := trodAll_nil r2
  obtain rfl : args = #[v0, v1, v2] := by cases args; simp_all
  obtain ⟨rfl, rfl⟩ := trodVars_none hV
  clear hA0 hval0
  simp only [List.append_nil] at hW' hsz
  have hlt : ∀ x ∈ p0 ++ p1 ++ p2, x.block < W.heap.size := fun x hx => hW'.lt x (by simpa using hx)
  have hall : ∀ x ∈ DataW.weightsEach Try.prog [24, 3, 47] [d0, d1, d2], x ≤ reachBytes := fun x hx => of_decide_eq_true (List.all_eq_true.1 hsz x hx)
  have g0 : ∀ x ∈ d0.weights Try.prog 24, x ≤ reachBytes := fun x hx => hall x (DataW.weights_mem_each (j := 0) rfl rfl x hx)
  obtain ⟨u0, l0⟩ := fr_of_arg (hval 0 _ v0 rfl rfl) h0 g0
  obtain ⟨a1, rfl, rfl, rfl, w1⟩ := open_int Try.underlying3 (hval 1 3 v1 rfl rfl) h1
  obtain ⟨a2, rfl, rfl, rfl, w2⟩ := open_int Try.underlying47 (hval 2 47 v2 rfl rfl) h2
  refine (walk u0 v0 a1 a2 W l0 w1 w2).mono fun e W' ⟨he, bel⟩ => ?_
  subst he
  exact ⟨_, rfl, _, _, _, [], _, [], hW', trodAll_mk1 (shut_bool Try.underlying4 _), (trodAll_cons_mk (Below.trod Try.laidOut (by kernel_rfl) (of_decide_eq_true (by kernel_rfl)) h0 bel (fun x hx => hlt x (by simp [hx]))) (trodAll_cons_mk (shut_int Try.underlying3 w1) (trodAll_cons_mk (shut_int Try.underlying47 w2) trodAll_mk0))), rfl, bel.frame _, fun h => by cases h⟩

theorem over : Rows.sealFindsRow.holds Try.pinned (OpenSpec.ofChange Rows.sealFindsSpec) :=
  OpenClaim.holds_of_wide 5 Try.f5 rfl rfl rfl rfl rfl rfl rfl ⟨rfl, rfl, rfl, rfl, rfl⟩ rfl rfl rfl rfl rfl (by kernel_rfl) Try.func5 (by kernel_rfl)
    (of_decide_eq_true (by kernel_rfl)) (by unfold Func.isWrapper; first | (rw [if_pos (by decide +kernel)]; kernel_rfl) | (rw [if_neg (by decide +kernel)]; exact ⟨rfl, rfl⟩))
    (fun os started H enc _ => lifted os started H enc)

/-- THE STATEMENT. -/
theorem proved : Rows.SealFindsSaid := over
#print axioms proved
end Go.Proofs.Ytihncekjbmepoac.sealFinds
