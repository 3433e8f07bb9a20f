/-
  LisMoved holds for every list: without its moved places a list rises, and a list that rises has none. No condition.
-/
import Derived.Test.YteceljjmandnmaaLiLaw
namespace Go.Proofs.Yteceljjmandnmaa.lisMoved
open Go.ChangeShapes Go.WideShapes Go.ChangeAt Go.RowKit Go.Deep
open Li

set_option maxRecDepth 100000 in
set_option maxHeartbeats 6400000 in
theorem walk (ks : List Int) (x0 : Value) (w : World) (hx : NumsArg w x0 ks) :
    Calls Try.prog 7 #[x0] w fun e w' => e = .returned (.bool true) ∧ Below w.heap.size w w' := by
  obtain ⟨a, c, rfl, hnm⟩ := hx
  have HNM : Hid (Nm w a c ks) := hnm
  have hln : ks.length ≤ 140737488351232 := by have := hnm.2.2.2.1; omega
  clear hnm
  go_enter Try.func7, Try.ntmps7
  go_wp2_with fail
  refine (alive_any _).mono ?_
  rintro e w1 ⟨rfl, hb1⟩
  have B1 : Hid (Below w.heap.size w w1) := hb1
  clear hb1
  go_wp2_with fail
  refine (moves_any ks a c w1 (HNM.out.below B1.out)).mono ?_
  rintro e w2 ⟨v, rfl, ho, hb⟩
  have B2 : Hid (Below w.heap.size w w2) := nxt B1.out hb
  by_cases hn : ks.length ≤ 256
  · have e1 : movR ks = ints (mov ks) := if_pos hn
    have e2 : errR ks = 0 := if_pos hn
    rw [e1] at ho
    rw [e2]
    clear e1 e2 hb
    have ho' := ho
    obtain ⟨ma, mc, rfl⟩ := ho.shape
    rw [ints_length] at ho' ⊢
    have HOM : Hid (OwnI w2 w1.heap.size (.slice ma (mov ks).length mc) (ints (mov ks))) := ho'
    have hml : (mov ks).length ≤ 256 := by have := mov_length ks; omega
    have HLY : Hid (LayI w2 a ks) := (HNM.out.below B2.out).1
    clear ho ho' HNM B1
    have HFL : Hid ((fr ks).length = ks.length) := fr_length ks
    go_wp2_with (go_at_call 17; refine (num_any _ _).mono ?_; rintro e w9 ⟨rfl, h9⟩; subst w9)
    go_loopw [5, 6, 7] (fun v5 v6 v7 wr => ∃ (i k due : Nat) (lf : List Int), i ≤ ks.length ∧ k ≤ (mov ks).length ∧ v7 = .int .i64 (i : Int) ∧ v6 = .int .i64 (k : Int) ∧ Hid (OwnI wr w2.heap.size v5 lf) ∧ lf.length ≤ i ∧ Hid (Below w2.heap.size w2 wr) ∧ Hid ((mov ks).drop k = (sp ((fr ks).drop i) due i).2) ∧ Hid (lf ++ pk (ks.drop i) due = pk ks (len ks))) (fun _ _ v7 _ => ks.length - (intOf v7).toNat)
    case atStart => exact ⟨0, 0, len ks, [], Nat.zero_le _, Nat.zero_le _, rfl, rfl, OwnI.nil _ _, Nat.le_refl _, Below.refl _ _, (show _ = _ from by simp [mov]), (show _ = _ from by simp)⟩
    case round =>
      obtain ⟨i, k, due, lf, hi, hk, rfl, rfl, HO, hlf, HB, HD, HP⟩ := hrel
      by_cases hlt : i < ks.length
      · have hif : i < (fr ks).length := by rw [HFL.out]; exact hlt
        obtain ⟨la, lc, hlv⟩ := HO.out.shape
        subst hlv
        by_cases he : (fr ks)[i] = due
        · have HD' : Hid ((mov ks).drop k = (sp ((fr ks).drop (i + 1)) (due - 1) (i + 1)).2) := HD.out.trans (sp_fst hif he).2
          have HP' : Hid ((lf ++ [ks[i]]) ++ pk (ks.drop (i + 1)) (due - 1) = pk ks (len ks)) := by
            show _ = _
            rw [← HP.out, pk_drop hif hlt, if_pos he]
            simp
          obtain ⟨b1, o1, ha1, r1, _⟩ := HLY.out.below HB.out i ks[i] (List.getElem?_eq_getElem hlt)
          subst ha1
          have HNE : Hid (∀ q, (mov ks)[k]? = some q → ¬ q = i) := by
            intro q hq
            have hkm := (List.getElem?_eq_some_iff.1 hq).1
            have h1 := HD'.out
            rw [List.drop_eq_getElem_cons hkm] at h1
            have h2 := (sp_range ((fr ks).drop (i + 1)) (due - 1) (i + 1)).2 q (by rw [← h1]; rw [List.getElem?_eq_getElem hkm] at hq; cases hq; exact List.mem_cons_self)
            omega
          clear HD HP he
          generalize ks[i] = x at *
          by_cases hkm : k < (mov ks).length
          · obtain ⟨g, hg, q1⟩ := (HOM.out.below HB.out).at k (by rw [ints_length]; exact hkm)
            subst hg
            rw [ints_at, Nat.zero_add] at q1
            have hne := HNE.out (mov ks)[k] (List.getElem?_eq_getElem hkm)
            have hq : (((mov ks)[k] : Int) == (i : Int)) = false := by simp; omega
            clear hne HNE
            generalize (mov ks)[k] = q at *
            have HOX : Hid (OwnI (wr.alloc (.cells #[.int .i64 x] 3)) w2.heap.size (.slice la lf.length lc) lf) := HO.out.below (below_one _ _)
            have HBX : Hid (Below w2.heap.size w2 (wr.alloc (.cells #[.int .i64 x] 3))) := nxt HB.out (below_one _ _)
            have HNW : Hid ((wr.alloc (.cells #[.int .i64 x] 3)).cell? ((⟨wr.heap.size, 0, none⟩ : Addr).add 0) = some (.int .i64 x)) := newCells wr _ _ 0 _ rfl
            have HSZ : Hid ((lf.length + 1) * 8 ≤ 140737488355328 ∧ w2.heap.size ≤ (wr.alloc (.cells #[.int .i64 x] 3)).heap.size) := ⟨by omega, HBX.out.size⟩
            clear HO HB
            go_wp2_with (refine wpList_pushI _ rfl (.tmp 43) (.tmp 48) rfl w2.heap.size _ lf rfl HOX.out x ⟨wr.heap.size, 0, none⟩ 1 rfl HNW.out HSZ.out.1 HSZ.out.2 ?_; intro v' w' q1 q2 q3; have OO : Hid (OwnI w' w2.heap.size v' (lf ++ [x])) := q1; have BB : Hid (Below w2.heap.size w2 w') := HBX.out.trans (grown_below HOX.out q2 HSZ.out.2); clear q1 q2 q3)
            go_roundw
            case rel => exact ⟨i + 1, k, due - 1, lf ++ [x], by omega, by omega, by go_num, rfl, OO.out, by simp; omega, BB.out, HD'.out, HP'.out⟩
            case measure => simp [intOf]; omega
          · clear HNE
            have HOX : Hid (OwnI (wr.alloc (.cells #[.int .i64 x] 3)) w2.heap.size (.slice la lf.length lc) lf) := HO.out.below (below_one _ _)
            have HBX : Hid (Below w2.heap.size w2 (wr.alloc (.cells #[.int .i64 x] 3))) := nxt HB.out (below_one _ _)
            have HNW : Hid ((wr.alloc (.cells #[.int .i64 x] 3)).cell? ((⟨wr.heap.size, 0, none⟩ : Addr).add 0) = some (.int .i64 x)) := newCells wr _ _ 0 _ rfl
            have HSZ : Hid ((lf.length + 1) * 8 ≤ 140737488355328 ∧ w2.heap.size ≤ (wr.alloc (.cells #[.int .i64 x] 3)).heap.size) := ⟨by omega, HBX.out.size⟩
            clear HO HB
            go_wp2_with (refine wpList_pushI _ rfl (.tmp 43) (.tmp 48) rfl w2.heap.size _ lf rfl HOX.out x ⟨wr.heap.size, 0, none⟩ 1 rfl HNW.out HSZ.out.1 HSZ.out.2 ?_; intro v' w' q1 q2 q3; have OO : Hid (OwnI w' w2.heap.size v' (lf ++ [x])) := q1; have BB : Hid (Below w2.heap.size w2 w') := HBX.out.trans (grown_below HOX.out q2 HSZ.out.2); clear q1 q2 q3)
            go_roundw
            case rel => exact ⟨i + 1, k, due - 1, lf ++ [x], by omega, by omega, by go_num, rfl, OO.out, by simp; omega, BB.out, HD'.out, HP'.out⟩
            case measure => simp [intOf]; omega
        · have hD := HD.out
          rw [(sp_snd hif he).2] at hD
          obtain ⟨hkm, hkq, hD2⟩ := drop_cons hD
          have HD' : Hid ((mov ks).drop (k + 1) = (sp ((fr ks).drop (i + 1)) due (i + 1)).2) := hD2
          have HP' : Hid (lf ++ pk (ks.drop (i + 1)) due = pk ks (len ks)) := by
            show _ = _
            rw [← HP.out, pk_drop hif hlt, if_neg he]
          obtain ⟨g, hg, q1⟩ := (HOM.out.below HB.out).at k (by rw [ints_length]; exact hkm)
          subst hg
          rw [ints_at, Nat.zero_add] at q1
          have hqi : (mov ks)[k] = i := by rw [List.getElem?_eq_getElem hkm] at hkq; exact Option.some.inj hkq
          rw [hqi] at q1
          clear hqi hkq hD2 hD HD HP he
          go_wp2_with fail
          go_roundw
          case rel => exact ⟨i + 1, k + 1, due, lf, by omega, by omega, by go_num, by go_num, HO.out, by omega, HB.out, HD'.out, HP'.out⟩
          case measure => simp [intOf]; omega
      · have hin : i = ks.length := by omega
        subst hin
        have hkl : k = (mov ks).length := by
          have h := HD.out
          have hz : (fr ks).drop ks.length = [] := List.drop_eq_nil_of_le (by rw [HFL.out]; exact Nat.le_refl _)
          rw [hz] at h
          have h2 := List.drop_eq_nil_iff.1 (h.trans rfl)
          omega
        have hlp : lf = pk ks (len ks) := by
          have h := HP.out
          rw [List.drop_length] at h
          simpa [pk] using h
        have HRI : Hid (movR lf = [] ∧ errR lf = 0) := by
          show _ ∧ _
          have h1 := mov_rises (pk_rises ks).1
          rw [← hlp] at h1
          exact ⟨by unfold movR; rw [if_pos (by omega), h1.1]; rfl, if_pos (by omega)⟩
        have I6 : I64 lf := by
          intro y hy
          rw [hlp] at hy
          exact HLY.out.i64 y ((pk_sub ks _).subset hy)
        obtain ⟨la, lc, hlv⟩ := HO.out.shape
        subst hlv
        have HC : Hid (Calls Try.prog 14 #[.slice la lf.length lc] wr _) := moves_any lf la lc wr (HO.out.nm I6 (by omega))
        have HE : Hid (Below w.heap.size w wr) := B2.out.trans (HB.out.mono B2.out.size)
        subst hkl
        clear HD HP hlp I6 HO HB HLY HOM
        go_wp2_with fail
        refine HC.out.mono ?_
        rintro e w4 ⟨v4, rfl, ho4, hb4⟩
        rw [HRI.out.1] at ho4
        rw [HRI.out.2]
        obtain ⟨va, vc, rfl⟩ := ho4.shape
        have HE4 : Hid (Below w.heap.size w w4) := nxt HE.out hb4
        clear ho4 hb4
        simp only [List.length_nil]
        go_wp2_with (go_at_call 17; refine (num_any _ _).mono ?_; rintro e w9 ⟨rfl, h9⟩; subst w9)
        go_ret
        exact ⟨rfl, HE4.out⟩
  · have e1 : movR ks = [] := if_neg hn
    have e2 : errR ks = 3 := if_neg hn
    rw [e2]
    clear e1 e2 hb ho
    go_wp2_with (go_at_call 17; refine (num_any _ _).mono ?_; rintro e w9 ⟨rfl, h9⟩; subst w9)
    go_ret
    exact ⟨by simp; omega, B2.out⟩

set_option maxRecDepth 100000 in
set_option maxHeartbeats 1600000 in
theorem lifted (os : Os) (started : os.Started) (H : Type) (enc : TypeId × Value → H) :
    ReturnsInHanded {} Try.checked os 7 .any (Rows.lisMovedSpec.pre6 enc Try.prog Try.f7 Rows.lisMovedRow.domain false) (Rows.lisMovedSpec.post enc Try.prog Try.f7 false true false false) := by
  refine returnsInHanded_of_change_sized (C := Try.checked) Try.own started (by kernel_rfl) Try.func7
    (ChangeSpec.witness6 (enc := enc) (C := Try.checked) false ⟨#[], #[.slice none 0 0], []⟩ 8 (by kernel_rfl) (by kernel_rfl) (by kernel_rfl) (by kernel_rfl)) ?_
  intro W base args ds gs before hval0 hW _ hsz0 _
  have hsz : (DataW.weightsEach Try.prog (Try.f7.params.toList ++ Rows.lisMovedSpec.plain.varTypes Try.prog) (ds ++ gs)).all (· ≤ reachBytes) = true := hsz0
  have hval : ∀ (j : Nat) t v, Try.f7.params[j]? = some t → args[j]? = some v → Value.okWide Try.prog W .any base t v := hval0
  have hW' := hW
  obtain ⟨p, q, hA0, hV, rfl, hfz, hnd⟩ := hW
  have hA : DataW.TrodAll enc Try.prog W 0 (fun _ => true) true Try.f7.params.toList args.toList ds p := hA0
  rw [Try.params7] at hA hval hsz
  obtain ⟨v0, vs0, d0, ds0, p0, q0, hargs, rfl, rfl, h0, r0⟩ := trodAll_cons hA
  obtain ⟨rfl, rfl, rfl⟩ := trodAll_nil r0
  obtain rfl : args = #[v0] := by cases args; simp_all
  obtain ⟨rfl, rfl⟩ := trodVars_none hV
  clear hA0 hval0
  simp only [List.append_nil] at hW' hsz
  have hlt : ∀ x ∈ p0, x.block < W.heap.size := fun x hx => hW'.lt x (by simpa using hx)
  have hall : ∀ x ∈ DataW.weightsEach Try.prog [22] [d0], x ≤ reachBytes := fun x hx => of_decide_eq_true (List.all_eq_true.1 hsz x hx)
  have g0 : ∀ x ∈ d0.weights Try.prog 22, x ≤ reachBytes := fun x hx => hall x (DataW.weights_mem_each (j := 0) rfl rfl x hx)
  obtain ⟨u0, l0⟩ := ints_of_arg (hval 0 _ v0 rfl rfl) h0 g0
  refine (walk u0 v0 W l0).mono fun e W' ⟨he, bel⟩ => ?_
  subst he
  exact ⟨_, rfl, _, _, _, [], _, [], hW', trodAll_mk1 (shut_bool Try.underlying4 _), (trodAll_cons_mk (Below.trod Try.laidOut (by kernel_rfl) (of_decide_eq_true (by kernel_rfl)) h0 bel (fun x hx => hlt x (by simp [hx]))) trodAll_mk0), rfl, bel.frame _, fun h => by cases h⟩

theorem over : Rows.lisMovedRow.holds Try.pinned (OpenSpec.ofChange Rows.lisMovedSpec) :=
  OpenClaim.holds_of_wide 7 Try.f7 rfl rfl rfl rfl rfl rfl rfl ⟨rfl, rfl, rfl, rfl, rfl⟩ rfl rfl rfl rfl rfl (by kernel_rfl) Try.func7 (by kernel_rfl)
    (of_decide_eq_true (by kernel_rfl)) (by unfold Func.isWrapper; first | (rw [if_pos (by decide +kernel)]; kernel_rfl) | (rw [if_neg (by decide +kernel)]; exact ⟨rfl, rfl⟩))
    (fun os started H enc _ => lifted os started H enc)

/-- THE STATEMENT. -/
theorem proved : Rows.LisMovedSaid := over
#print axioms proved
end Go.Proofs.Yteceljjmandnmaa.lisMoved
