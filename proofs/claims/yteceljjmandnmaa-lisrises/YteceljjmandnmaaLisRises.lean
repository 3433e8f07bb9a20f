/-
  LisRises holds for every list: the places of the longest part rise, and so do the numbers there; with the other places they are all. No condition.
-/
import Derived.Test.YteceljjmandnmaaLiLaw
namespace Go.Proofs.Yteceljjmandnmaa.lisRises
open Go.ChangeShapes Go.WideShapes Go.ChangeAt Go.RowKit Go.Deep
open Li

theorem lon_lt (ks : List Int) {j : Nat} (h : j < (lon ks).length) : (lon ks)[j] < ks.length := by
  have := (sp_range (fr ks) (len ks) 0).1 (lon ks)[j] (List.getElem_mem h)
  rw [fr_length] at this
  omega

theorem lon_pk (ks : List Int) {j : Nat} (h : j < (lon ks).length) : ∃ h' : j < (pk ks (len ks)).length, (pk ks (len ks))[j] = ks[(lon ks)[j]]'(lon_lt ks h) := by
  have e := pk_lon ks
  have hl := congrArg List.length e
  simp only [List.length_map] at hl
  refine ⟨by omega, ?_⟩
  have h2 := congrArg (fun l => l[j]?) e
  simp only [List.getElem?_map] at h2
  rw [List.getElem?_eq_getElem h, List.getElem?_eq_getElem (by omega)] at h2
  simp only [Option.map_some, Option.some.injEq] at h2
  rw [List.getElem?_eq_getElem (lon_lt ks h)] at h2
  exact Option.some.inj h2

/-- Places and numbers rise. -/
theorem lon_next (ks : List Int) {j : Nat} (h : j + 1 < (lon ks).length) : (lon ks)[j] < (lon ks)[j + 1] ∧ ks[(lon ks)[j]]'(lon_lt ks (by omega)) < ks[(lon ks)[j + 1]]'(lon_lt ks h) := by
  refine ⟨(List.pairwise_iff_getElem.1 (sp_rise (fr ks) (len ks) 0)) j (j + 1) _ _ (by omega), ?_⟩
  obtain ⟨h1, e1⟩ := lon_pk ks (show j < (lon ks).length by omega)
  obtain ⟨h2, e2⟩ := lon_pk ks h
  rw [← e1, ← e2]
  exact (List.pairwise_iff_getElem.1 (pk_rises ks).1) j (j + 1) _ _ (by omega)

set_option maxRecDepth 100000 in
set_option maxHeartbeats 1600000 in
theorem walk (ks : List Int) (x0 : Value) (w : World) (hx : NumsArg w x0 ks) :
    Calls Try.prog 4 #[x0] w fun e w' => e = .returned (.bool true) ∧ Below w.heap.size w w' := by
  obtain ⟨a, c, rfl, hnm⟩ := hx
  have HNM : Hid (Nm w a c ks) := hnm
  have hln : ks.length ≤ 140737488351232 := by have := hnm.2.2.2.1; omega
  clear hnm
  go_enter Try.func4, Try.ntmps4
  go_wp2_with fail
  refine (alive_any _).mono ?_
  rintro e w1 ⟨rfl, hb1⟩
  have B1 : Hid (Below w.heap.size w w1) := hb1
  clear hb1
  go_wp2_with fail
  refine (longest_any ks a c w1 (HNM.out.below B1.out)).mono ?_
  rintro e w2 ⟨vp, rfl, hop, hb2⟩
  have B2 : Hid (Below w.heap.size w w2) := nxt B1.out hb2
  obtain ⟨pa, pc, hps⟩ := hop.shape
  subst hps
  have HOP : Hid (OwnI w2 w1.heap.size (.slice pa (lonR ks).length pc) (lonR ks)) := hop
  clear hb2 hop
  go_wp2_with fail
  refine (moves_any ks a c w2 (HNM.out.below B2.out)).mono ?_
  rintro e w3 ⟨vm, rfl, hom, hb3⟩
  have B3 : Hid (Below w.heap.size w w3) := nxt B2.out hb3
  obtain ⟨ma, mc, hms⟩ := hom.shape
  subst hms
  have HOM : Hid (OwnI w3 w2.heap.size (.slice ma (movR ks).length mc) (movR ks)) := hom
  have HOP3 : Hid (OwnI w3 w1.heap.size (.slice pa (lonR ks).length pc) (lonR ks)) := HOP.out.below hb3
  clear hb3 hom HOP B1 B2
  by_cases hn : ks.length ≤ 256
  · have e1 : lonR ks = ints (lon ks) := if_pos hn
    have e2 : movR ks = ints (mov ks) := if_pos hn
    have e3 : errR ks = 0 := if_pos hn
    rw [e1, ints_length] at HOP3
    rw [e2, ints_length] at HOM
    rw [e1, e2, e3, ints_length, ints_length]
    clear e1 e2 e3
    have hpl : (lon ks).length ≤ 256 := by have := lon_length ks; have := heads_le_len ks; omega
    have hml : (mov ks).length ≤ 256 := by have := mov_length ks; omega
    have HSUM : Hid ((lon ks).length + (mov ks).length = ks.length) := by show _ = _; have := lon_length ks; have := heads_le_len ks; have := mov_length ks; omega
    have HLY : Hid (LayI w3 a ks) := (HNM.out.below B3.out).1
    have HFL : Hid ((fr ks).length = ks.length) := fr_length ks
    clear HNM
    go_wp2_with (go_at_call 17; refine (num_any _ _).mono ?_; rintro e w9 ⟨rfl, h9⟩; subst w9)
    go_loopw [7] (fun v7 wr => ∃ i : Nat, i ≤ (lon ks).length ∧ v7 = .int .i64 (i : Int) ∧ Hid (Below w3.heap.size w3 wr)) (fun v7 _ => (lon ks).length - (intOf v7).toNat)
    case atStart => exact ⟨0, Nat.zero_le _, rfl, Below.refl _ _⟩
    case round =>
      obtain ⟨i, hi, rfl, HB⟩ := hrel
      by_cases hlt : i < (lon ks).length
      · have hq := lon_lt ks hlt
        obtain ⟨g, hg, r1⟩ := (HOP3.out.below HB.out).at i (by rw [ints_length]; exact hlt)
        subst hg
        rw [ints_at, Nat.zero_add] at r1
        cases i with
        | zero =>
          generalize (lon ks)[0] = q at *
          have c1 : decide ((q : Int) < 0) = false := by simp
          have c2 : decide (ks.length ≤ q) = false := by simp; omega
          clear HOM HSUM HFL
          go_wp2_with fail
          go_big_quiet (fail)
          go_wp2_with fail
          go_roundw
          case rel => exact ⟨1, by omega, by go_num, nxt HB.out (Below_drewN _ _ _)⟩
          case measure => simp [intOf]; omega
        | succ j =>
          obtain ⟨hn1, hn2⟩ := lon_next ks hlt
          have hq0 := lon_lt ks (show j < (lon ks).length by omega)
          obtain ⟨g', hg', r2⟩ := (HOP3.out.below HB.out).at j (by rw [ints_length]; omega)
          cases hg'
          rw [ints_at, Nat.zero_add] at r2
          obtain ⟨b1, o1, ha1, s1, _⟩ := HLY.out.below HB.out _ _ (List.getElem?_eq_getElem hq)
          subst ha1
          obtain ⟨b2, o2, ha2, s2, _⟩ := HLY.out.below HB.out _ _ (List.getElem?_eq_getElem hq0)
          cases ha2
          generalize hy : ks[(lon ks)[j + 1]] = y at *
          generalize hy' : ks[(lon ks)[j]] = y' at *
          clear hy hy'
          generalize (lon ks)[j + 1] = q at *
          generalize (lon ks)[j] = q' at *
          have c1 : decide ((q : Int) < 0) = false := by simp
          have c2 : decide (ks.length ≤ q) = false := by simp; omega
          have c3 : decide (q ≤ q') = false := by simp; omega
          have c4 : decide (y ≤ y') = false := by simp; omega
          clear HOM HSUM HFL HLY
          go_wp2_with fail
          go_big_quiet (fail)
          go_wp2_with fail
          go_roundw
          case rel => exact ⟨j + 1 + 1, by omega, by go_num, nxt HB.out (Below_drewN _ _ _)⟩
          case measure => simp [intOf]; omega
      · obtain ⟨W4, hW4⟩ : ∃ W, W = wr := ⟨_, rfl⟩
        subst hW4
        have HP4 : Hid (OwnI W4 w1.heap.size (.slice pa (lon ks).length pc) (ints (lon ks))) := HOP3.out.below HB.out
        have HM4 : Hid (OwnI W4 w2.heap.size (.slice ma (mov ks).length mc) (ints (mov ks))) := HOM.out.below HB.out
        have B4 : Hid (Below w.heap.size w W4) := nxt B3.out HB.out
        clear HOP3 HOM B3 HB HLY
        go_wp2_with fail
        clear hlt
        go_loopw [8, 9, 10] (fun v8 v9 _ wr => ∃ i k d due : Nat, i = k + d ∧ i ≤ ks.length ∧ k ≤ (lon ks).length ∧ d ≤ (mov ks).length ∧ v9 = .int .i64 (i : Int) ∧ v8 = .int .i64 (k : Int) ∧ Hid ((lon ks).drop k = (sp ((fr ks).drop i) due i).1 ∧ (mov ks).drop d = (sp ((fr ks).drop i) due i).2) ∧ wr = W4) (fun _ v9 _ _ => ks.length - (intOf v9).toNat)
        case atStart => exact ⟨0, 0, 0, len ks, rfl, Nat.zero_le _, Nat.zero_le _, Nat.zero_le _, rfl, rfl, ⟨by simp [lon], by simp [mov]⟩, rfl⟩
        case round =>
          obtain ⟨i, k, d, due, hikd, hi2, hk2, hd2, rfl, rfl, HD, rfl⟩ := hrel
          by_cases hlt2 : i < ks.length
          · have hif : i < (fr ks).length := by rw [HFL.out]; exact hlt2
            by_cases he : (fr ks)[i] = due
            · obtain ⟨hD1, hD2⟩ := HD.out
              rw [(sp_fst hif he).1] at hD1
              rw [(sp_fst hif he).2] at hD2
              obtain ⟨hkl, hkq, hD3⟩ := drop_cons hD1
              have HD' : Hid ((lon ks).drop (k + 1) = (sp ((fr ks).drop (i + 1)) (due - 1) (i + 1)).1 ∧ (mov ks).drop d = (sp ((fr ks).drop (i + 1)) (due - 1) (i + 1)).2) := ⟨hD3, hD2⟩
              obtain ⟨g, hg, r1⟩ := HP4.out.at k (by rw [ints_length]; exact hkl)
              subst hg
              rw [ints_at, Nat.zero_add] at r1
              have hqi : (lon ks)[k] = i := by rw [List.getElem?_eq_getElem hkl] at hkq; exact Option.some.inj hkq
              rw [hqi] at r1
              clear hqi hkq hD1 hD2 hD3 HD he
              go_wp2_with fail
              go_roundw
              case rel => exact ⟨i + 1, k + 1, d, due - 1, by omega, by omega, by omega, by omega, by go_num, by go_num, HD'.out, trivial⟩
              case measure => simp [intOf]; omega
            · obtain ⟨hD1, hD2⟩ := HD.out
              rw [(sp_snd hif he).1] at hD1
              rw [(sp_snd hif he).2] at hD2
              obtain ⟨hdl, hdq, hD3⟩ := drop_cons hD2
              have HD' : Hid ((lon ks).drop k = (sp ((fr ks).drop (i + 1)) due (i + 1)).1 ∧ (mov ks).drop (d + 1) = (sp ((fr ks).drop (i + 1)) due (i + 1)).2) := ⟨hD1, hD3⟩
              obtain ⟨g2, hg2, r2⟩ := HM4.out.at d (by rw [ints_length]; exact hdl)
              subst hg2
              rw [ints_at, Nat.zero_add] at r2
              have hqi : (mov ks)[d] = i := by rw [List.getElem?_eq_getElem hdl] at hdq; exact Option.some.inj hdq
              rw [hqi] at r2
              have hdd : ((i : Int) - (k : Int)).toNat = d := by omega
              have r3 : wr.cell? ⟨g2, ((i : Int) - (k : Int)).toNat, none⟩ = some (.int .i64 (i : Int)) := by rw [hdd]; exact r2
              have HNE : Hid (∀ q, (lon ks)[k]? = some q → ¬ q = i) := by
                intro q hq
                have hkm := (List.getElem?_eq_some_iff.1 hq).1
                have h1 := HD'.out.1
                rw [List.drop_eq_getElem_cons hkm] at h1
                have h2 := (sp_range ((fr ks).drop (i + 1)) due (i + 1)).1 q (by rw [← h1]; rw [List.getElem?_eq_getElem hkm] at hq; cases hq; exact List.mem_cons_self)
                omega
              clear hqi hdq hD1 hD2 hD3 HD he
              by_cases hkm : k < (lon ks).length
              · obtain ⟨g, hg, r1⟩ := HP4.out.at k (by rw [ints_length]; exact hkm)
                subst hg
                rw [ints_at, Nat.zero_add] at r1
                have hne := HNE.out (lon ks)[k] (List.getElem?_eq_getElem hkm)
                have hq : (((lon ks)[k] : Int) == (i : Int)) = false := by simp; omega
                clear hne HNE
                generalize (lon ks)[k] = q at *
                go_wp2_with fail
                go_roundw
                case rel => exact ⟨i + 1, k, d + 1, due, by omega, by omega, by omega, by omega, by go_num, rfl, HD'.out, trivial⟩
                case measure => simp [intOf]; omega
              · clear HNE
                go_wp2_with fail
                go_roundw
                case rel => exact ⟨i + 1, k, d + 1, due, by omega, by omega, by omega, by omega, by go_num, rfl, HD'.out, trivial⟩
                case measure => simp [intOf]; omega
          · have hs := HSUM.out
            have hq : (((lon ks).length : Int) + ((mov ks).length : Int) == (ks.length : Int)) = true := by simp; omega
            clear HD
            go_wp2_with fail
            go_ret
            exact ⟨by simp, B4.out⟩
  · have e1 : lonR ks = [] := if_neg hn
    have e2 : movR ks = [] := if_neg hn
    have e3 : errR ks = 3 := if_neg hn
    rw [e1, e2, e3]
    clear e1 e2 e3 HOM HOP3
    simp only [List.length_nil]
    go_wp2_with (go_at_call 17; refine (num_any _ _).mono ?_; rintro e w9 ⟨rfl, h9⟩; subst w9)
    go_ret
    exact ⟨by simp, B3.out⟩

set_option maxRecDepth 100000 in
set_option maxHeartbeats 1600000 in
theorem lifted (os : Os) (started : os.Started) (H : Type) (enc : TypeId × Value → H) :
    ReturnsInHanded {} Try.checked os 4 .any (Rows.lisRisesSpec.pre6 enc Try.prog Try.f4 Rows.lisRisesRow.domain false) (Rows.lisRisesSpec.post enc Try.prog Try.f4 false true false false) := by
  refine returnsInHanded_of_change_sized (C := Try.checked) Try.own started (by kernel_rfl) Try.func4
    (ChangeSpec.witness6 (enc := enc) (C := Try.checked) false ⟨#[], #[.slice none 0 0], []⟩ 8 (by kernel_rfl) (by kernel_rfl) (by kernel_rfl) (by kernel_rfl)) ?_
  intro W base args ds gs before hval0 hW _ hsz0 _
  have hsz : (DataW.weightsEach Try.prog (Try.f4.params.toList ++ Rows.lisRisesSpec.plain.varTypes Try.prog) (ds ++ gs)).all (· ≤ reachBytes) = true := hsz0
  have hval : ∀ (j : Nat) t v, Try.f4.params[j]? = some t → args[j]? = some v → Value.okWide Try.prog W .any base t v := hval0
  have hW' := hW
  obtain ⟨p, q, hA0, hV, rfl, hfz, hnd⟩ := hW
  have hA : DataW.TrodAll enc Try.prog W 0 (fun _ => true) true Try.f4.params.toList args.toList ds p := hA0
  rw [Try.params4] at hA hval hsz
  obtain ⟨v0, vs0, d0, ds0, p0, q0, hargs, rfl, rfl, h0, r0⟩ := trodAll_cons hA
  obtain ⟨rfl, rfl, rfl⟩ := trodAll_nil r0
  obtain rfl : args = #[v0] := by cases args; simp_all
  obtain ⟨rfl, rfl⟩ := trodVars_none hV
  clear hA0 hval0
  simp only [List.append_nil] at hW' hsz
  have hlt : ∀ x ∈ p0, x.block < W.heap.size := fun x hx => hW'.lt x (by simpa using hx)
  have hall : ∀ x ∈ DataW.weightsEach Try.prog [22] [d0], x ≤ reachBytes := fun x hx => of_decide_eq_true (List.all_eq_true.1 hsz x hx)
  have g0 : ∀ x ∈ d0.weights Try.prog 22, x ≤ reachBytes := fun x hx => hall x (DataW.weights_mem_each (j := 0) rfl rfl x hx)
  obtain ⟨u0, l0⟩ := ints_of_arg (hval 0 _ v0 rfl rfl) h0 g0
  refine (walk u0 v0 W l0).mono fun e W' ⟨he, bel⟩ => ?_
  subst he
  exact ⟨_, rfl, _, _, _, [], _, [], hW', trodAll_mk1 (shut_bool Try.underlying4 _), (trodAll_cons_mk (Below.trod Try.laidOut (by kernel_rfl) (of_decide_eq_true (by kernel_rfl)) h0 bel (fun x hx => hlt x (by simp [hx]))) trodAll_mk0), rfl, bel.frame _, fun h => by cases h⟩

theorem over : Rows.lisRisesRow.holds Try.pinned (OpenSpec.ofChange Rows.lisRisesSpec) :=
  OpenClaim.holds_of_wide 4 Try.f4 rfl rfl rfl rfl rfl rfl rfl ⟨rfl, rfl, rfl, rfl, rfl⟩ rfl rfl rfl rfl rfl (by kernel_rfl) Try.func4 (by kernel_rfl)
    (of_decide_eq_true (by kernel_rfl)) (by unfold Func.isWrapper; first | (rw [if_pos (by decide +kernel)]; kernel_rfl) | (rw [if_neg (by decide +kernel)]; exact ⟨rfl, rfl⟩))
    (fun os started H enc _ => lifted os started H enc)

/-- THE STATEMENT. -/
theorem proved : Rows.LisRisesSaid := over
#print axioms proved
end Go.Proofs.Yteceljjmandnmaa.lisRises
