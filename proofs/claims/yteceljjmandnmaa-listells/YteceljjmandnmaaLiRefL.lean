/-
  The page's Longest, Length, Moves.
-/
import Derived.Test.YteceljjmandnmaaLiRef
namespace Go.Proofs.Yteceljjmandnmaa
open Go.ChangeShapes Go.WideShapes Go.ChangeAt Go.RowKit Go.Deep
open Li

theorem fsOf_zero (ks : List Int) : fsOf ks 0 = ints (fr ks) := by simp [fsOf, ints]

set_option maxRecDepth 100000 in
set_option maxHeartbeats 3200000 in
theorem rlongest_ok (ks : List Int) (la : Option Addr) (c : Nat) (w : World) (hl : LayI w la ks) (hn : ks.length ≤ 256) :
    Calls Try.prog 11 #[.slice la ks.length c] w fun e w' => ∃ v, e = .returned (.tuple #[v, .int .i64 0]) ∧ OwnI w' w.heap.size v (ints (lon ks)) ∧ Below w.heap.size w w' := by
  have HL : Hid (LayI w la ks) := hl
  have HC : Hid (Calls Try.prog 20 #[.slice la ks.length c] w _) := rfrom_any ks la c w hl hn
  have HFL : Hid ((fr ks).length = ks.length) := fr_length ks
  have HFB : Hid (∀ i (h : i < (fr ks).length), 1 ≤ (fr ks)[i] ∧ (fr ks)[i] ≤ ks.length) := fun i h => fr_pos ks h
  have HMX : Hid (mxl ((fr ks).take ks.length) = len ks) := by
    show _ = _
    rw [List.take_of_length_le (by rw [fr_length]; exact Nat.le_refl _)]
    exact mxl_fr ks
  have HLL : Hid (len ks ≤ 256) := by show _ ≤ _; have := heads_le_len ks; omega
  clear hl
  go_enter Try.func11, Try.ntmps11
  go_wp2_with fail
  refine HC.out.mono ?_
  rintro e w1 ⟨rfl, ho1, hb1⟩
  rw [fsOf_zero] at ho1
  have O1 : Hid (OwnI w1 w.heap.size (.slice (some ⟨w.heap.size, 0, none⟩) ks.length ks.length) (ints (fr ks))) := ho1
  have B1 : Hid (Below w.heap.size w w1) := hb1
  clear ho1 hb1 HC
  go_wp2_with fail
  go_loopw [5, 6] (fun v5 v6 wr => ∃ i mx : Nat, i ≤ ks.length ∧ v6 = .int .i64 (i : Int) ∧ v5 = .int .i64 (mx : Int) ∧ mx ≤ 256 ∧ Hid (mx = mxl ((fr ks).take i)) ∧ wr = w1) (fun _ v6 _ => ks.length - (intOf v6).toNat)
  case atStart => exact ⟨0, 0, Nat.zero_le _, rfl, rfl, by omega, (show _ = _ from rfl), rfl⟩
  case round =>
    obtain ⟨i, mx, hi, rfl, rfl, hmx, HE, rfl⟩ := hrel
    by_cases hlt : i < ks.length
    · have hif : i < (fr ks).length := by rw [HFL.out]; exact hlt
      obtain ⟨r1, -⟩ := O1.out.cell (j := i) (by rw [ints_length]; exact hif)
      rw [ints_at] at r1
      have hfb := HFB.out i hif
      have HT : Hid (mxl ((fr ks).take (i + 1)) = max (mxl ((fr ks).take i)) (fr ks)[i]) := by
        show _ = _
        rw [List.take_succ_eq_append_getElem hif, mxl_snoc]
      rw [← HE.out] at HT
      generalize (fr ks)[i] = f at *
      clear HE
      by_cases hmf : mx < f
      · have HT' : Hid (f = mxl ((fr ks).take (i + 1))) := by show _ = _; rw [HT.out]; omega
        go_wp2_with fail
        go_roundw
        case rel => exact ⟨i + 1, f, by omega, by go_num, rfl, by omega, HT'.out, trivial⟩
        case measure => simp [intOf]; omega
      · have HT' : Hid (mx = mxl ((fr ks).take (i + 1))) := by show _ = _; rw [HT.out]; omega
        go_wp2_with fail
        go_roundw
        case rel => exact ⟨i + 1, mx, by omega, by go_num, rfl, by omega, HT'.out, trivial⟩
        case measure => simp [intOf]; omega
    · have hin : i = ks.length := by omega
      subst hin
      have hml : mx = len ks := HE.out.trans HMX.out
      subst hml
      clear HE HMX
      obtain ⟨w1, hw1⟩ : ∃ W, W = wr := ⟨_, rfl⟩
      subst hw1
      go_wp2_with fail
      go_loopw [5, 7, 8] (fun v5 v7 v8 wr => ∃ (i due : Nat) (lg : List Nat), i ≤ ks.length ∧ due ≤ 256 ∧ v8 = .int .i64 (i : Int) ∧ v5 = .int .i64 (due : Int) ∧ Hid (OwnI wr w1.heap.size v7 (ints lg)) ∧ lg.length ≤ i ∧ Hid (Below w1.heap.size w1 wr) ∧ Hid (Pick ks i due lg)) (fun _ _ v8 _ => ks.length - (intOf v8).toNat)
      case atStart => exact ⟨0, len ks, [], Nat.zero_le _, HLL.out, rfl, rfl, OwnI.nil _ _, Nat.le_refl _, Below.refl _ _, Pick.start ks⟩
      case round =>
        obtain ⟨i, due, lg, hi2, hd2, rfl, rfl, HO, hlg, HB, HP⟩ := hrel
        by_cases hin : i < ks.length
        · by_cases hdp : 0 < due
          · have hif : i < (fr ks).length := by rw [HFL.out]; exact hin
            obtain ⟨r1, -⟩ := (O1.out.below HB.out).cell (j := i) (by rw [ints_length]; exact hif)
            rw [ints_at] at r1
            by_cases he : (fr ks)[i] = due
            · have HPT : Hid (Pick ks (i + 1) (due - 1) (lg ++ [i])) := HP.out.take hin hif he
              rw [he] at r1
              rcases List.eq_nil_or_concat lg with hnil | ⟨lg', q, hlq⟩
              · obtain ⟨oa, oc, hov⟩ := HO.out.shape
                have hil : (ints lg).length = 0 := by rw [hnil]; rfl
                rw [hil] at hov
                subst hov
                clear HP he hil hnil
                go_wp2_with fail
                go_big_quiet (fail)
                have HOX : Hid (OwnI ((wr.drewN nq).alloc (.cells #[.int .i64 (i : Int)] 3)) w1.heap.size (.slice oa 0 oc) (ints lg)) := HO.out.below (nxt (Below_drewN _ _ _) (below_one _ _))
                have HBX : Hid (Below w1.heap.size w1 ((wr.drewN nq).alloc (.cells #[.int .i64 (i : Int)] 3))) := nxt HB.out (nxt (Below_drewN _ _ _) (below_one _ _))
                have HNW : Hid (((wr.drewN nq).alloc (.cells #[.int .i64 (i : Int)] 3)).cell? ((⟨(wr.drewN nq).heap.size, 0, none⟩ : Addr).add 0) = some (.int .i64 (i : Int))) := newCells (wr.drewN nq) _ _ 0 _ rfl
                have HSZ : Hid (((ints lg).length + 1) * 8 ≤ 140737488355328 ∧ w1.heap.size ≤ ((wr.drewN nq).alloc (.cells #[.int .i64 (i : Int)] 3)).heap.size) := ⟨by rw [ints_length]; omega, HBX.out.size⟩
                clear HO HB
                generalize wr.drewN nq = W6 at *
                go_wp2_with (refine wpList_pushI _ rfl (.tmp 63) (.tmp 65) rfl w1.heap.size _ (ints lg) rfl HOX.out (i : Int) ⟨W6.heap.size, 0, none⟩ 1 rfl HNW.out HSZ.out.1 HSZ.out.2 ?_; intro v' w' q1 q2 q3; have OO : Hid (OwnI w' w1.heap.size v' (ints lg ++ [(i : Int)])) := q1; have BB : Hid (Below w1.heap.size w1 w') := HBX.out.trans (grown_below HOX.out q2 HSZ.out.2); clear q1 q2 q3)
                go_roundw
                case rel => exact ⟨i + 1, due - 1, lg ++ [i], by omega, by omega, by go_num, by go_num, by rw [ints_append]; exact OO.out, by simp; omega, BB.out, HPT.out⟩
                case measure => simp [intOf]; omega
              · have hlq' : lg = lg' ++ [q] := by simpa using hlq
                have hq : lg.getLast? = some q := by rw [hlq']; simp
                have hqi := HP.out.inl q (by rw [hlq']; simp)
                have hqk : q < ks.length := by omega
                have hyx := HP.out.rises hin hif he hq (List.getElem?_eq_getElem hqk)
                obtain ⟨oa, oc, hov⟩ := HO.out.shape
                have hil : (ints lg).length = lg'.length + 1 := by rw [ints_length, hlq']; simp
                have hgq := HO.out
                rw [hov] at hgq
                obtain ⟨g, hg, r2⟩ := hgq.at lg'.length (by rw [hil]; omega)
                have e2 : (ints lg)[lg'.length]'(by rw [hil]; omega) = (q : Int) := by
                  rw [ints_at]
                  simp [hlq']
                rw [e2, Nat.zero_add] at r2
                subst hg
                rw [hil] at hov
                subst hov
                obtain ⟨b1, o1, ha1, s1, _⟩ := HL.out.below (nxt B1.out HB.out) i ks[i] (List.getElem?_eq_getElem hin)
                subst ha1
                obtain ⟨b2, o2, ha2, s2, _⟩ := HL.out.below (nxt B1.out HB.out) q ks[q] (List.getElem?_eq_getElem hqk)
                cases ha2
                have hl1 : lg'.length ≤ 300 := by rw [hlq'] at hlg; simp at hlg; omega
                obtain ⟨oa, hoa⟩ : ∃ oa : Option Addr, oa = some ⟨g, 0, none⟩ := ⟨_, rfl⟩
                clear HP he hlq hq e2 hil hgq
                generalize ks[i] = x at *
                generalize ks[q] = y at *
                generalize hgl : lg'.length = m at *
                clear hgl hlq'
                have c1 : ((m + 1 : Nat) == 0) = false := by simp
                have c2 : (((m : Int) + 1) == 0) = false := by simp; omega
                have c3 : decide (y < x) = true := by simp; omega
                go_wp2_with fail
                go_big_quiet (fail)
                have HOX : Hid (OwnI ((wr.drewN nq).alloc (.cells #[.int .i64 (i : Int)] 3)) w1.heap.size (.slice (some ⟨g, 0, none⟩) (m + 1) oc) (ints lg)) := HO.out.below (nxt (Below_drewN _ _ _) (below_one _ _))
                have HBX : Hid (Below w1.heap.size w1 ((wr.drewN nq).alloc (.cells #[.int .i64 (i : Int)] 3))) := nxt HB.out (nxt (Below_drewN _ _ _) (below_one _ _))
                have HNW : Hid (((wr.drewN nq).alloc (.cells #[.int .i64 (i : Int)] 3)).cell? ((⟨(wr.drewN nq).heap.size, 0, none⟩ : Addr).add 0) = some (.int .i64 (i : Int))) := newCells (wr.drewN nq) _ _ 0 _ rfl
                have HSZ : Hid (((ints lg).length + 1) * 8 ≤ 140737488355328 ∧ w1.heap.size ≤ ((wr.drewN nq).alloc (.cells #[.int .i64 (i : Int)] 3)).heap.size) := ⟨by rw [ints_length]; omega, HBX.out.size⟩
                clear HO HB
                generalize wr.drewN nq = W6 at *
                go_wp2_with (refine wpList_pushI _ rfl (.tmp 63) (.tmp 65) rfl w1.heap.size _ (ints lg) rfl HOX.out (i : Int) ⟨W6.heap.size, 0, none⟩ 1 rfl HNW.out HSZ.out.1 HSZ.out.2 ?_; intro v' w' q1 q2 q3; have OO : Hid (OwnI w' w1.heap.size v' (ints lg ++ [(i : Int)])) := q1; have BB : Hid (Below w1.heap.size w1 w') := HBX.out.trans (grown_below HOX.out q2 HSZ.out.2); clear q1 q2 q3)
                go_roundw
                case rel => exact ⟨i + 1, due - 1, lg ++ [i], by omega, by omega, by go_num, by go_num, by rw [ints_append]; exact OO.out, by simp; omega, BB.out, HPT.out⟩
                case measure => simp [intOf]; omega
            · have HPT : Hid (Pick ks (i + 1) due lg) := HP.out.skip hin hif he
              generalize hff : (fr ks)[i] = f at *
              clear hff
              have c1 : (f == due) = false := by simp; omega
              have c2 : ((f : Int) == (due : Int)) = false := by simp; omega
              clear HP
              go_wp2_with fail
              go_big_quiet (fail)
              go_wp2_with fail
              go_roundw
              case rel => exact ⟨i + 1, due, lg, by omega, by omega, by go_num, rfl, HO.out, by omega, nxt HB.out (Below_drewN _ _ _), HPT.out⟩
              case measure => simp [intOf]; omega
          · have hd0 : due = 0 := by omega
            subst hd0
            have HPD : Hid (lg = lon ks) := HP.out.done (Or.inl rfl)
            clear HP
            go_wp2_with fail
            go_ret2
            exact ⟨_, rfl, by rw [← HPD.out]; exact HO.out.less B1.out.size, B1.out.trans (HB.out.mono B1.out.size)⟩
        · have HPD : Hid (lg = lon ks) := HP.out.done (Or.inr (by omega))
          clear HP
          go_wp2_with fail
          go_ret2
          exact ⟨_, rfl, by rw [← HPD.out]; exact HO.out.less B1.out.size, B1.out.trans (HB.out.mono B1.out.size)⟩

set_option maxRecDepth 100000 in
theorem rlongest_any (ks : List Int) (la : Option Addr) (c : Nat) (w : World) (hl : Nm w la c ks) :
    Calls Try.prog 11 #[.slice la ks.length c] w fun e w' => ∃ v, e = .returned (.tuple #[v, .int .i64 (errR ks)]) ∧ OwnI w' w.heap.size v (lonR ks) ∧ Below w.heap.size w w' := by
  by_cases hn : ks.length ≤ 256
  · have h := rlongest_ok ks la c w hl.1 hn
    rw [show lonR ks = ints (lon ks) from if_pos hn, show errR ks = 0 from if_pos hn]
    exact h
  · have e1 : lonR ks = [] := if_neg hn
    have e2 : errR ks = 3 := if_neg hn
    have hln : ks.length ≤ 140737488351232 := by have := hl.2.2.2.1; omega
    rw [e1, e2]
    clear hl e1 e2
    go_enter Try.func11, Try.ntmps11
    go_wp2_with fail
    go_ret2
    exact ⟨_, rfl, OwnI.nil _ _, Below.refl _ _⟩

set_option maxRecDepth 100000 in
theorem rlength_any (ks : List Int) (la : Option Addr) (c : Nat) (w : World) (hl : Nm w la c ks) :
    Calls Try.prog 13 #[.slice la ks.length c] w fun e w' => e = .returned (.tuple #[.int .i64 (lenR ks), .int .i64 (errR ks)]) ∧ Below w.heap.size w w' := by
  have HC : Hid (Calls Try.prog 11 #[.slice la ks.length c] w _) := rlongest_any ks la c w hl
  have HE : Hid (((lonR ks).length : Int) = lenR ks) := by
    show _ = _
    unfold lonR lenR
    split
    · rw [ints_length, lon_length]
    · rfl
  clear hl
  go_enter Try.func13, Try.ntmps13
  go_wp2_with fail
  refine HC.out.mono ?_
  rintro e w1 ⟨v, rfl, ho, hb⟩
  have hlb := (lonR_i64 ks).2
  obtain ⟨va, vc, hvs⟩ := ho.shape
  subst hvs
  have B1 : Hid (Below w.heap.size w w1) := hb
  clear ho hb
  generalize her : errR ks = er
  have HER : Hid (errR ks = er) := her
  clear her
  go_wp2_with fail
  go_ret2
  exact ⟨by rw [← HE.out, HER.out]; rfl, B1.out⟩

set_option maxRecDepth 100000 in
set_option maxHeartbeats 1600000 in
theorem rmoves_any (ks : List Int) (la : Option Addr) (c : Nat) (w : World) (hl : Nm w la c ks) :
    Calls Try.prog 15 #[.slice la ks.length c] w fun e w' => ∃ v, e = .returned (.tuple #[v, .int .i64 (errR ks)]) ∧ OwnI w' w.heap.size v (movR ks) ∧ Below w.heap.size w w' := by
  have HC : Hid (Calls Try.prog 11 #[.slice la ks.length c] w _) := rlongest_any ks la c w hl
  have hln : ks.length ≤ 140737488351232 := by have := hl.2.2.2.1; omega
  clear hl
  by_cases hn : ks.length ≤ 256
  · have e1 : lonR ks = ints (lon ks) := if_pos hn
    have e2 : movR ks = ints (mov ks) := if_pos hn
    have e3 : errR ks = 0 := if_pos hn
    rw [e1, e3] at HC
    rw [e2, e3]
    clear e1 e2 e3
    have HFL : Hid ((fr ks).length = ks.length) := fr_length ks
    have hpl : (lon ks).length ≤ 256 := by have := lon_length ks; have := heads_le_len ks; omega
    go_enter Try.func15, Try.ntmps15
    go_wp2_with fail
    refine HC.out.mono ?_
    rintro e w1 ⟨v, rfl, ho, hb⟩
    obtain ⟨pa, pc, hvs⟩ := ho.shape
    rw [ints_length] at hvs
    subst hvs
    have B1 : Hid (Below w.heap.size w w1) := hb
    have OP : Hid (OwnI w1 w.heap.size (.slice pa (lon ks).length pc) (ints (lon ks))) := ho
    clear ho hb HC
    go_wp2_with fail
    go_loopw [6, 7, 8] (fun v6 v7 v8 wr => ∃ (i k due : Nat) (ot : List Nat), i ≤ ks.length ∧ k ≤ (lon ks).length ∧ v8 = .int .i64 (i : Int) ∧ v7 = .int .i64 (k : Int) ∧ Hid (OwnI wr w1.heap.size v6 (ints ot)) ∧ ot.length ≤ i ∧ Hid (Below w1.heap.size w1 wr) ∧ Hid ((lon ks).drop k = (sp ((fr ks).drop i) due i).1 ∧ mov ks = ot ++ (sp ((fr ks).drop i) due i).2)) (fun _ _ v8 _ => ks.length - (intOf v8).toNat)
    case atStart => exact ⟨0, 0, len ks, [], Nat.zero_le _, Nat.zero_le _, rfl, rfl, OwnI.nil _ _, Nat.le_refl _, Below.refl _ _, ⟨by simp [lon], by simp [mov]⟩⟩
    case round =>
      obtain ⟨i, k, due, ot, hi, hk, rfl, rfl, HO, hot, HB, HD⟩ := hrel
      by_cases hlt : i < ks.length
      · have hif : i < (fr ks).length := by rw [HFL.out]; exact hlt
        by_cases he : (fr ks)[i] = due
        · obtain ⟨hD1, hD2⟩ := HD.out
          rw [(sp_fst hif he).1] at hD1
          rw [(sp_fst hif he).2] at hD2
          obtain ⟨hkl, hkq, hD3⟩ := drop_cons hD1
          have HD' : Hid ((lon ks).drop (k + 1) = (sp ((fr ks).drop (i + 1)) (due - 1) (i + 1)).1 ∧ mov ks = ot ++ (sp ((fr ks).drop (i + 1)) (due - 1) (i + 1)).2) := ⟨hD3, hD2⟩
          obtain ⟨g, hg, r1⟩ := (OP.out.below HB.out).at k (by rw [ints_length]; exact hkl)
          subst hg
          rw [ints_at, Nat.zero_add] at r1
          have hqi : (lon ks)[k] = i := by rw [List.getElem?_eq_getElem hkl] at hkq; exact Option.some.inj hkq
          rw [hqi] at r1
          clear hqi hkq hD1 hD2 hD3 HD he
          go_wp2_with fail
          go_roundw
          case rel => exact ⟨i + 1, k + 1, due - 1, ot, by omega, by omega, by go_num, by go_num, HO.out, by omega, HB.out, HD'.out⟩
          case measure => simp [intOf]; omega
        · obtain ⟨hD1, hD2⟩ := HD.out
          rw [(sp_snd hif he).1] at hD1
          rw [(sp_snd hif he).2] at hD2
          have HD' : Hid ((lon ks).drop k = (sp ((fr ks).drop (i + 1)) due (i + 1)).1 ∧ mov ks = (ot ++ [i]) ++ (sp ((fr ks).drop (i + 1)) due (i + 1)).2) := ⟨hD1, by rw [hD2]; simp⟩
          have HNE : Hid (∀ q, (lon ks)[k]? = some q → ¬ q = i) := by
            intro q hq
            have hkm := (List.getElem?_eq_some_iff.1 hq).1
            have h1 := HD'.out.1
            rw [List.drop_eq_getElem_cons hkm] at h1
            have h2 := (sp_range ((fr ks).drop (i + 1)) due (i + 1)).1 q (by rw [← h1]; rw [List.getElem?_eq_getElem hkm] at hq; cases hq; exact List.mem_cons_self)
            omega
          obtain ⟨oa, oc, hov⟩ := HO.out.shape
          subst hov
          clear hD1 hD2 HD he
          by_cases hkm : k < (lon ks).length
          · obtain ⟨g, hg, r1⟩ := (OP.out.below HB.out).at k (by rw [ints_length]; exact hkm)
            subst hg
            rw [ints_at, Nat.zero_add] at r1
            have hne := HNE.out (lon ks)[k] (List.getElem?_eq_getElem hkm)
            have hq : (((lon ks)[k] : Int) == (i : Int)) = false := by simp; omega
            clear hne HNE
            generalize (lon ks)[k] = q at *
            have HOX : Hid (OwnI (wr.alloc (.cells #[.int .i64 (i : Int)] 3)) w1.heap.size (.slice oa (ints ot).length oc) (ints ot)) := HO.out.below (below_one _ _)
            have HBX : Hid (Below w1.heap.size w1 (wr.alloc (.cells #[.int .i64 (i : Int)] 3))) := nxt HB.out (below_one _ _)
            have HNW : Hid ((wr.alloc (.cells #[.int .i64 (i : Int)] 3)).cell? ((⟨wr.heap.size, 0, none⟩ : Addr).add 0) = some (.int .i64 (i : Int))) := newCells wr _ _ 0 _ rfl
            have HSZ : Hid (((ints ot).length + 1) * 8 ≤ 140737488355328 ∧ w1.heap.size ≤ (wr.alloc (.cells #[.int .i64 (i : Int)] 3)).heap.size) := ⟨by rw [ints_length]; omega, HBX.out.size⟩
            clear HO HB
            go_wp2_with (refine wpList_pushI _ rfl (.tmp 37) (.tmp 39) rfl w1.heap.size _ (ints ot) rfl HOX.out (i : Int) ⟨wr.heap.size, 0, none⟩ 1 rfl HNW.out HSZ.out.1 HSZ.out.2 ?_; intro v' w' q1 q2 q3; have OO : Hid (OwnI w' w1.heap.size v' (ints ot ++ [(i : Int)])) := q1; have BB : Hid (Below w1.heap.size w1 w') := HBX.out.trans (grown_below HOX.out q2 HSZ.out.2); clear q1 q2 q3)
            go_roundw
            case rel => exact ⟨i + 1, k, due, ot ++ [i], by omega, by omega, by go_num, rfl, by rw [ints_append]; exact OO.out, by simp; omega, BB.out, HD'.out⟩
            case measure => simp [intOf]; omega
          · clear HNE
            have HOX : Hid (OwnI (wr.alloc (.cells #[.int .i64 (i : Int)] 3)) w1.heap.size (.slice oa (ints ot).length oc) (ints ot)) := HO.out.below (below_one _ _)
            have HBX : Hid (Below w1.heap.size w1 (wr.alloc (.cells #[.int .i64 (i : Int)] 3))) := nxt HB.out (below_one _ _)
            have HNW : Hid ((wr.alloc (.cells #[.int .i64 (i : Int)] 3)).cell? ((⟨wr.heap.size, 0, none⟩ : Addr).add 0) = some (.int .i64 (i : Int))) := newCells wr _ _ 0 _ rfl
            have HSZ : Hid (((ints ot).length + 1) * 8 ≤ 140737488355328 ∧ w1.heap.size ≤ (wr.alloc (.cells #[.int .i64 (i : Int)] 3)).heap.size) := ⟨by rw [ints_length]; omega, HBX.out.size⟩
            clear HO HB
            go_wp2_with (refine wpList_pushI _ rfl (.tmp 37) (.tmp 39) rfl w1.heap.size _ (ints ot) rfl HOX.out (i : Int) ⟨wr.heap.size, 0, none⟩ 1 rfl HNW.out HSZ.out.1 HSZ.out.2 ?_; intro v' w' q1 q2 q3; have OO : Hid (OwnI w' w1.heap.size v' (ints ot ++ [(i : Int)])) := q1; have BB : Hid (Below w1.heap.size w1 w') := HBX.out.trans (grown_below HOX.out q2 HSZ.out.2); clear q1 q2 q3)
            go_roundw
            case rel => exact ⟨i + 1, k, due, ot ++ [i], by omega, by omega, by go_num, rfl, by rw [ints_append]; exact OO.out, by simp; omega, BB.out, HD'.out⟩
            case measure => simp [intOf]; omega
      · have HZ : Hid (mov ks = ot) := by
          show _ = _
          have h := HD.out.2
          have hz : (fr ks).drop i = [] := List.drop_eq_nil_of_le (by rw [HFL.out]; omega)
          rw [hz] at h
          simpa [sp] using h
        clear HD
        go_wp2_with fail
        go_ret2
        exact ⟨_, rfl, by rw [HZ.out]; exact HO.out.less B1.out.size, B1.out.trans (HB.out.mono B1.out.size)⟩
  · have e1 : lonR ks = [] := if_neg hn
    have e2 : movR ks = [] := if_neg hn
    have e3 : errR ks = 3 := if_neg hn
    rw [e1, e3] at HC
    rw [e2, e3]
    clear e1 e2 e3
    go_enter Try.func15, Try.ntmps15
    go_wp2_with fail
    refine HC.out.mono ?_
    rintro e w1 ⟨v, rfl, ho, hb⟩
    have B1 : Hid (Below w.heap.size w w1) := hb
    clear ho hb HC
    go_wp2_with fail
    go_ret2
    exact ⟨_, rfl, OwnI.nil _ _, B1.out⟩
end Go.Proofs.Yteceljjmandnmaa
