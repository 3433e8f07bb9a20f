/-
  The page's order of two values that may be: the walk.
-/
import Derived.Test.YtghogejjijdfeaaVaRefOrd
namespace Go.Proofs.Ytghogejjijdfeaa
open Go.ChangeShapes Go.WideShapes Go.ChangeAt Go.RowKit
open Fl

set_option maxRecDepth 100000 in
set_option maxHeartbeats 6400000 in
theorem rord_any (n : Nat) : ∀ (u v : V n) (x y : Value) (w : World), Lay w n x u → Lay w n y v → okV n u → okV n v → Calls Try.prog 31 #[x, y] w fun e w' => e = .returned (.int .i64 (vcmp n u v)) ∧ Below w.heap.size w w' := by
  induction n with
  | zero => intro v; exact v.elim
  | succ n ih =>
    rintro ⟨k, b, t, ks, its⟩ ⟨k', b', t', ks', its'⟩ x y w ⟨ka, kc, ia, ic, rfl, hfit, nk, ni, hks, his⟩ ⟨ka', kc', ia', ic', rfl, hfit', nk', ni', hks', his'⟩ ⟨hm, ho⟩ ⟨hm', ho'⟩
    obtain ⟨-, hU, -, -, -, hkr, -, -, hir⟩ := hfit
    obtain ⟨-, hU', -, -, -, hkr', -, -, hir'⟩ := hfit'
    have HU : Hid (U b) := hU
    have HU' : Hid (U b') := hU'
    have HS : Hid (LayS w ka ks) := hks
    have HI : Hid (LayI w (Lay w n) ia its) := his
    have HS' : Hid (LayS w ka' ks') := hks'
    have HI' : Hid (LayI w (Lay w n) ia' its') := his'
    have HO : Hid (∀ u ∈ its, okV n u) := ho
    have HO' : Hid (∀ u ∈ its', okV n u) := ho'
    clear nk ni nk' ni' hks his hks' his' hU hU' ho ho'
    by_cases e1 : k = k'
    · subst e1
      have hkind := vcmp_kind hm hm'
      clear hm hm'
      rcases hkind with ⟨rfl, hv⟩ | ⟨rfl, hv⟩ | ⟨rfl, hv⟩ | ⟨⟨z1, z2, z3⟩, hv⟩
      · have HV : Hid _ := hv
        clear hv
        go_enter Try.func31, Try.ntmps31
        go_wp2_with (go_at_call 48; refine (number_any _ _ _).mono ?_; rintro e w' ⟨rfl, rfl⟩)
        go_ret
        exact ⟨ret_int ((num_icmp _ _).trans HV.out.symm), below_two _ _ _⟩
      · have HV : Hid _ := hv
        clear hv
        go_enter Try.func31, Try.ntmps31
        go_wp2_with fail
        go_quiet ((go_at_call 49; exact Calls.quiet_of_same (rorder_any _ _ (by first | exact HU.out | exact HU'.out))))
        go_wp2_with (go_at_call 48; refine (number_any _ _ _).mono ?_; rintro e w' ⟨rfl, rfl⟩)
        go_ret
        exact ⟨ret_int ((num_icmp _ _).trans HV.out.symm), (below_two _ _ _).trans (Below_drewN _ _ _)⟩
      · have HV : Hid _ := hv
        clear hv
        go_enter Try.func31, Try.ntmps31
        go_wp2_with (go_at_call 48; refine (number_any _ _ _).mono ?_; rintro e w' ⟨rfl, rfl⟩)
        go_ret
        exact ⟨ret_int ((num_scmp _ _).trans HV.out.symm), below_two _ _ _⟩
      · have HV : Hid (vcmp (n + 1) (k, b, t, ks, its) (k, b', t', ks', its') = if lcmp scmp ks ks' = 0 then lcmp (vcmp n) its its' else lcmp scmp ks ks') := hv
        clear hv
        go_enter Try.func31, Try.ntmps31
        go_wp2_with fail
        obtain ⟨h1, h2⟩ := two_boxes w (.int .i64 k) (.int .u64 b) (.string t) (.slice ka ks.length kc) (.slice ia its.length ic) (.int .i64 k) (.int .u64 b') (.string t') (.slice ka' ks'.length kc') (.slice ia' its'.length ic') 26 26
        have B2 := below_two w (.cells #[.int .i64 k, .int .u64 b, .string t, .slice ka ks.length kc, .slice ia its.length ic] 26) (.cells #[.int .i64 k, .int .u64 b', .string t', .slice ka' ks'.length kc', .slice ia' its'.length ic'] 26)
        generalize hW : (w.alloc (.cells #[.int .i64 k, .int .u64 b, .string t, .slice ka ks.length kc, .slice ia its.length ic] 26)).alloc (.cells #[.int .i64 k, .int .u64 b', .string t', .slice ka' ks'.length kc', .slice ia' its'.length ic'] 26) = W2
        rw [hW] at h1 h2 B2
        clear hW
        obtain ⟨-, -, -, p3, p4, -⟩ := box_cells h1
        obtain ⟨-, -, -, q3, q4, -⟩ := box_cells h2
        have P3 : Hid (W2.cell? ⟨w.heap.size, 3, none⟩ = some (.slice ka ks.length kc)) := p3
        have P4 : Hid (W2.cell? ⟨w.heap.size, 4, none⟩ = some (.slice ia its.length ic)) := p4
        have Q3 : Hid (W2.cell? ⟨w.heap.size + 1, 3, none⟩ = some (.slice ka' ks'.length kc')) := q3
        have Q4 : Hid (W2.cell? ⟨w.heap.size + 1, 4, none⟩ = some (.slice ia' its'.length ic')) := q4
        have HB2 : Hid (Below w.heap.size w W2) := B2
        clear h1 h2 B2 p3 p4 q3 q4
        go_loopw [7] (fun i wr => ∃ m : Nat, m ≤ ks.length ∧ m ≤ ks'.length ∧ i = .int .i64 m ∧ Hid (lcmp scmp ks ks' = lcmp scmp (ks.drop m) (ks'.drop m)) ∧ Hid (Below W2.heap.size W2 wr)) (fun i _ => ks.length - (intOf i).toNat)
        case atStart => exact ⟨0, Nat.zero_le _, Nat.zero_le _, rfl, rfl, Below.refl _ _⟩
        case round =>
          obtain ⟨m, hm, hm2, rfl, HE, HW⟩ := hrel
          have p3 := keepc HW.out _ _ P3.out
          have p4 := keepc HW.out _ _ P4.out
          have q3 := keepc HW.out _ _ Q3.out
          have q4 := keepc HW.out _ _ Q4.out
          have BW : Hid (Below w.heap.size w wr) := nxt HB2.out HW.out
          by_cases hlt : m < ks.length
          · by_cases hlt2 : m < ks'.length
            · have hi1 : (m : Int) < (ks.length : Int) := by omega
              have hi2 : (m : Int) < (ks'.length : Int) := by omega
              obtain ⟨b1, o1, rfl, r1, _⟩ := HS.out m ks[m] (by simp [hlt])
              obtain ⟨b2, o2, rfl, r2, _⟩ := HS'.out m ks'[m] (by simp [hlt2])
              rw [← BW.out.cell (lt_of_cell r1)] at r1
              rw [← BW.out.cell (lt_of_cell r2)] at r2
              have HD : Hid (lcmp scmp (ks.drop m) (ks'.drop m) = if scmp ks[m] ks'[m] = 0 then lcmp scmp (ks.drop (m + 1)) (ks'.drop (m + 1)) else scmp ks[m] ks'[m]) := lcmp_drop hlt hlt2
              by_cases he : ks[m] = ks'[m]
              · go_wp2_with fail
                go_quiet (fail)
                go_wp2_with fail
                go_roundw
                case rel => exact ⟨m + 1, by omega, by omega, by go_num, by rw [HE.out, HD.out, if_pos (by rw [he]; exact scmp_self _)]; rfl, HW.out.trans (Below_drewN _ _ _)⟩
                case measure => simp [intOf]; omega
              · have hd := toList_beq_false he
                have HN : Hid (¬ ks[m] = ks'[m]) := he
                clear he
                cases hl : Op.bytesLess ks[m].toList ks'[m].toList
                all_goals
                  have HL : Hid (Op.bytesLess ks[m].toList ks'[m].toList = _) := hl
                  go_wp2_with fail
                  go_quiet (fail)
                  go_wp2_with fail
                  have BQ : Below wr.heap.size wr (wr.drewN nq) := (Below.refl _ _).trans (Below_drewN _ _ _)
                  generalize wr.drewN nq = wq at BQ ⊢
                  have p3' := keepc BQ _ _ p3
                  have q3' := keepc BQ _ _ q3
                  have r1' := keepc BQ _ _ r1
                  have r2' := keepc BQ _ _ r2
                  have HQ : Hid (Below wr.heap.size wr wq) := BQ
                  clear BQ
                  go_quiet ((go_at_call 48; exact Calls.quiet_of_same (number_any _ _ _)))
                  go_wp2_with fail
                  go_ret
                  refine ⟨ret_int ?_, (nxt BW.out HQ.out).trans (Below_drewN _ _ _)⟩
                  have hz : ¬ scmp ks[m] ks'[m] = 0 := fun e => HN.out (scmp_zero e)
                  rw [HV.out, HE.out, HD.out, if_neg hz, if_neg hz, ← num_scmp' HN.out, HL.out]
            · have hg : ¬ (ks.length : Int) < (ks'.length : Int) := by omega
              go_wp2_with (go_at_call 48; refine (number_any _ _ _).mono ?_; rintro e w' ⟨rfl, rfl⟩)
              go_ret
              refine ⟨ret_int ?_, BW.out⟩
              have hz : lcmp scmp ks ks' = 1 := by rw [HE.out, lcmp_left hlt (by omega)]
              rw [HV.out, hz]
              rfl
          · by_cases hlt2 : m < ks'.length
            · have hg : (ks.length : Int) < (ks'.length : Int) := by omega
              go_wp2_with (go_at_call 48; refine (number_any _ _ _).mono ?_; rintro e w' ⟨rfl, rfl⟩)
              go_ret
              refine ⟨ret_int ?_, BW.out⟩
              have hz : lcmp scmp ks ks' = -1 := by rw [HE.out, lcmp_right (by omega) hlt2]
              rw [HV.out, hz]
              rfl
            · have hz : lcmp scmp ks ks' = 0 := by rw [HE.out, lcmp_none (by omega) (by omega)]
              have HV2 : Hid (vcmp (n + 1) (k, b, t, ks, its) (k, b', t', ks', its') = lcmp (vcmp n) its its') := by show _ = _; rw [HV.out, if_pos hz]
              have hle : (ks.length : Int) = (ks'.length : Int) := by omega
              clear hz HE HV
              go_wp2_with fail
              have P4' : Hid (wr.cell? ⟨w.heap.size, 4, none⟩ = some (.slice ia its.length ic)) := p4
              have Q4' : Hid (wr.cell? ⟨w.heap.size + 1, 4, none⟩ = some (.slice ia' its'.length ic')) := q4
              clear p3 p4 q3 q4
              go_loopw [8] (fun i wr2 => ∃ m : Nat, m ≤ its.length ∧ m ≤ its'.length ∧ i = .int .i64 m ∧ Hid (lcmp (vcmp n) its its' = lcmp (vcmp n) (its.drop m) (its'.drop m)) ∧ Hid (Below wr.heap.size wr wr2)) (fun i _ => its.length - (intOf i).toNat)
              case atStart => exact ⟨0, Nat.zero_le _, Nat.zero_le _, rfl, rfl, Below.refl _ _⟩
              case round =>
                obtain ⟨j, hj, hj2, rfl, HE2, HW2⟩ := hrel
                have p4 := keepc HW2.out _ _ P4'.out
                have q4 := keepc HW2.out _ _ Q4'.out
                have BW2 : Hid (Below w.heap.size w wr) := nxt BW.out HW2.out
                by_cases jlt : j < its.length
                · by_cases jlt2 : j < its'.length
                  · have hi1 : (j : Int) < (its.length : Int) := by omega
                    have hi2 : (j : Int) < (its'.length : Int) := by omega
                    obtain ⟨s1, hs1⟩ : ∃ s, its[j]? = some s := ⟨its[j], by simp [jlt]⟩
                    have e1 : its[j] = s1 := by rw [List.getElem?_eq_getElem jlt] at hs1; simpa using hs1
                    obtain ⟨s2, hs2⟩ : ∃ s, its'[j]? = some s := ⟨its'[j], by simp [jlt2]⟩
                    have e2 : its'[j] = s2 := by rw [List.getElem?_eq_getElem jlt2] at hs2; simpa using hs2
                    have HD : Hid (lcmp (vcmp n) (its.drop j) (its'.drop j) = if vcmp n s1 s2 = 0 then lcmp (vcmp n) (its.drop (j + 1)) (its'.drop (j + 1)) else vcmp n s1 s2) := by
                      have := lcmp_drop (f := vcmp n) jlt jlt2
                      rw [e1, e2] at this
                      exact this
                    obtain ⟨g1, o1, c0, c1, c2, c3, c4, rfl, a0, a1, a2, a3, a4, l1⟩ := (LayI.below HI.out BW2.out) j s1 hs1
                    obtain ⟨k1, b1, t1, ka1, kl1, kc1, ia1, il1, ic1, rfl, rfl, rfl, rfl, rfl⟩ := Lay.five n l1
                    obtain ⟨g2, o2, d0, d1, d2, d3, d4, rfl, f0, f1, f2, f3, f4, l2⟩ := (LayI.below HI'.out BW2.out) j s2 hs2
                    obtain ⟨k2, b2, t2, ka2, kl2, kc2, ia2, il2, ic2, rfl, rfl, rfl, rfl, rfl⟩ := Lay.five n l2
                    have C : Hid (∀ s : Cls wr, Calls Try.prog 31 #[mk k1 b1 t1 ka1 kl1 kc1 ia1 il1 ic1, mk k2 b2 t2 ka2 kl2 kc2 ia2 il2 ic2] s.1 fun e w' => e = .returned (.int .i64 (vcmp n s1 s2)) ∧ Below s.1.heap.size s.1 w') := fun s =>
                      ih _ _ _ _ _ (Cls.lay l1 s) (Cls.lay l2 s) (HO.out _ (List.mem_of_getElem? hs1)) (HO'.out _ (List.mem_of_getElem? hs2))
                    have inst : Nonempty (Cls wr) := ⟨⟨wr, Below.refl _ _⟩⟩
                    have A0 := fun s => Cls.cell a0 s
                    have A1 := fun s => Cls.cell a1 s
                    have A2 := fun s => Cls.cell a2 s
                    have A3 := fun s => Cls.cell a3 s
                    have A4 := fun s => Cls.cell a4 s
                    have F0 := fun s => Cls.cell f0 s
                    have F1 := fun s => Cls.cell f1 s
                    have F2 := fun s => Cls.cell f2 s
                    have F3 := fun s => Cls.cell f3 s
                    have F4 := fun s => Cls.cell f4 s
                    have P4s := fun s => Cls.cell p4 s
                    have Q4s := fun s => Cls.cell q4 s
                    clear a0 a1 a2 a3 a4 f0 f1 f2 f3 f4 l1 l2 hs1 hs2 e1 e2
                    cases hz : (vcmp n s1 s2 == 0) with
                    | true =>
                      go_wp2_with fail
                      refine wp_region_cls (by kernel_rfl) (by kernel_rfl) ?_
                      repeat (go_big_quiet_step ((go_at_call 31; exact Calls.cls (C.out _))))
                      refine wpQuiet_nil ?_
                      intro _ hw'
                      obtain ⟨s, hw''⟩ := hw'
                      subst hw''
                      go_wp2_with fail
                      go_roundw
                      case rel => exact ⟨j + 1, by omega, by omega, by go_num, by rw [HE2.out, HD.out, if_pos (by simpa using hz)]; rfl, nxt HW2.out s.2⟩
                      case measure => simp [intOf]; omega
                    | false =>
                      go_wp2_with fail
                      refine wp_region_cls (by kernel_rfl) (by kernel_rfl) ?_
                      repeat (go_big_quiet_step ((go_at_call 31; exact Calls.cls (C.out _))))
                      refine wpQuiet_nil ?_
                      intro _ hw'
                      obtain ⟨s, hw''⟩ := hw'
                      subst hw''
                      go_wp2_with fail
                      go_ret
                      exact ⟨ret_int (by rw [HV2.out, HE2.out, HD.out, if_neg (by simpa using hz)]), nxt BW2.out s.2⟩
                  · have hg : ¬ (its.length : Int) < (its'.length : Int) := by omega
                    have hg2 : ((its.length : Int) == (its'.length : Int)) = false := by simp; omega
                    go_wp2_with (go_at_call 48; refine (number_any _ _ _).mono ?_; rintro e w' ⟨rfl, rfl⟩)
                    go_ret
                    refine ⟨ret_int ?_, BW2.out⟩
                    rw [HV2.out, HE2.out, lcmp_left jlt (by omega)]
                    rfl
                · by_cases jlt2 : j < its'.length
                  · have hg : (its.length : Int) < (its'.length : Int) := by omega
                    go_wp2_with (go_at_call 48; refine (number_any _ _ _).mono ?_; rintro e w' ⟨rfl, rfl⟩)
                    go_ret
                    refine ⟨ret_int ?_, BW2.out⟩
                    rw [HV2.out, HE2.out, lcmp_right (by omega) jlt2]
                    rfl
                  · have hg : (its.length : Int) = (its'.length : Int) := by omega
                    go_wp2_with (go_at_call 48; refine (number_any _ _ _).mono ?_; rintro e w' ⟨rfl, rfl⟩)
                    go_ret
                    refine ⟨ret_int ?_, BW2.out⟩
                    rw [HV2.out, HE2.out, lcmp_none (by omega) (by omega)]
                    rfl
    · have HV : Hid (vcmp (n + 1) (k, b, t, ks, its) (k', b', t', ks', its') = nmb (decide (k < k')) false) := (vcmp_other e1).trans (num_icmp' e1).symm
      have d1 : (k == k') = false := by simpa using e1
      go_enter Try.func31, Try.ntmps31
      go_wp2_with (go_at_call 48; refine (number_any _ _ _).mono ?_; rintro e w' ⟨rfl, rfl⟩)
      go_ret
      exact ⟨ret_int HV.out.symm, below_two _ _ _⟩
end Go.Proofs.Ytghogejjijdfeaa
