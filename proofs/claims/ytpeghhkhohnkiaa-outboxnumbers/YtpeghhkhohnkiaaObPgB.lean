/-
  The page's Add.
-/
import Derived.Test.YtpeghhkhohnkiaaObPgA
namespace Go.Proofs.Ytpeghhkhohnkiaa
open Go.ChangeShapes Go.WideShapes Go.ChangeAt Go.RowKit

theorem effE_bad {n : Nat} {nm : ByteArray} {u : V n} (h : nmB nm = false) : effE nm u = 31 := by
  unfold effE
  rw [if_pos]
  unfold nmB at h
  by_cases h1 : 1 ≤ nm.size
  · simp [h1] at h; omega
  · omega
theorem effE_good {n : Nat} {nm : ByteArray} {u : V n} (h : nmB nm = true) : effE nm u = chk u := by
  unfold effE
  unfold nmB at h
  simp at h
  rw [if_neg (by omega)]

set_option maxRecDepth 100000 in
set_option maxHeartbeats 6400000 in
theorem radd_any {n : Nat} (L s : Int) (its : List (Tm n)) (ia : Option Addr) (ic : Nat) (l : List (Ef n)) (ea : Option Addr) (ec : Nat) (w : World) (hT : TIs w n ia ic its) (hE : EIs w n ea ec l) :
    Calls Try.prog 12 #[.agg #[.int .i64 L, .slice ia its.length ic], .int .i64 s, .slice ea l.length ec] w (BoxPost w (addR L its s l)) := by
  have HT : Hid (TIs w n ia ic its) := hT
  have HE : Hid (EIs w n ea ec l) := hE
  have hlT := hT.2.2.1
  have hlE := hE.2.2.1
  have C1 : Hid (∀ w', Below w.heap.size w w' → Calls Try.prog 21 #[.agg #[.int .i64 L, .slice ia its.length ic]] w' fun e w'' => e = .returned (.int .i64 (chkB L its)) ∧ Below w'.heap.size w' w'') := fun w' hb => rbcheck_any L its ia ic w' (hT.below hb)
  have C2 : Hid (∀ w', Below w.heap.size w w' → Calls Try.prog 39 #[.agg #[.int .i64 L, .slice ia its.length ic]] w' (ROwnPost w' L its)) := fun w' hb => rOwn_any L its ia ic w' (hT.below hb)
  clear hT hE
  by_cases h0 : chkB L its = 0
  · obtain ⟨e1, e2, e3, -⟩ := chkB_ok h0
    have HC0 : Hid (chkB L its = 0) := h0
    rw [h0] at C1
    clear h0
    by_cases f1 : s ≤ L
    · have E : Hid (addR L its s l = (32, 0, [])) := by
        have : evE L s l = 32 := by unfold evE; rw [if_pos f1]
        show _ = _
        unfold addR
        rw [if_pos HC0.out, this, if_neg (by decide)]
      go_enter Try.func12, Try.ntmps12
      go_wp2_with fail
      refine (C1.out _ (below_two _ _ _)).mono ?_
      rintro e w1 ⟨rfl, hb1⟩
      have T1 : Hid (Two w w1 _ _) := Two.new w _ _ hb1
      have B1 : Hid (Below w.heap.size w w1) := nxt (below_two _ _ _) hb1
      clear hb1
      obtain ⟨x0, x1, y0, y1, z0, z1⟩ := two_cells2 T1.out
      go_wp2_with fail
      refine bodyPost_ret (v := .tuple #[.agg #[.int .i64 0, .slice none 0 0], .int .i64 32]) (by simp [results, Try.results12, go_sem, y0, y1]) rfl ?_
      rw [E.out]
      exact ⟨_, _, rfl, CopyInv.none2 _ B1.out (by omega) _ _⟩
    · by_cases f2 : 1099511627776 < s
      · have E : Hid (addR L its s l = (4, 0, [])) := by
          have : evE L s l = 4 := by unfold evE; rw [if_neg f1, if_pos f2]
          show _ = _
          unfold addR
          rw [if_pos HC0.out, this, if_neg (by decide)]
        go_enter Try.func12, Try.ntmps12
        go_wp2_with fail
        refine (C1.out _ (below_two _ _ _)).mono ?_
        rintro e w1 ⟨rfl, hb1⟩
        have T1 : Hid (Two w w1 _ _) := Two.new w _ _ hb1
        have B1 : Hid (Below w.heap.size w w1) := nxt (below_two _ _ _) hb1
        clear hb1
        obtain ⟨x0, x1, y0, y1, z0, z1⟩ := two_cells2 T1.out
        go_wp2_with fail
        refine bodyPost_ret (v := .tuple #[.agg #[.int .i64 0, .slice none 0 0], .int .i64 4]) (by simp [results, Try.results12, go_sem, y0, y1]) rfl ?_
        rw [E.out]
        exact ⟨_, _, rfl, CopyInv.none2 _ B1.out (by omega) _ _⟩
      · by_cases f3 : 32 < l.length
        · have E : Hid (addR L its s l = (3, 0, [])) := by
            have : evE L s l = 3 := by unfold evE; rw [if_neg f1, if_neg f2, if_pos f3]
            show _ = _
            unfold addR
            rw [if_pos HC0.out, this, if_neg (by decide)]
          go_enter Try.func12, Try.ntmps12
          go_wp2_with fail
          refine (C1.out _ (below_two _ _ _)).mono ?_
          rintro e w1 ⟨rfl, hb1⟩
          have T1 : Hid (Two w w1 _ _) := Two.new w _ _ hb1
          have B1 : Hid (Below w.heap.size w w1) := nxt (below_two _ _ _) hb1
          clear hb1
          obtain ⟨x0, x1, y0, y1, z0, z1⟩ := two_cells2 T1.out
          go_wp2_with fail
          refine bodyPost_ret (v := .tuple #[.agg #[.int .i64 0, .slice none 0 0], .int .i64 3]) (by simp [results, Try.results12, go_sem, y0, y1]) rfl ?_
          rw [E.out]
          exact ⟨_, _, rfl, CopyInv.none2 _ B1.out (by omega) _ _⟩
        · have EV : Hid (evE L s l = effsE l) := by show _ = _; unfold evE; rw [if_neg f1, if_neg f2, if_neg f3]
          have hs0 : 0 ≤ s := by omega
          have hs1 : s ≤ 1099511627776 := by omega
          have hl32 : l.length ≤ 32 := by omega
          go_enter Try.func12, Try.ntmps12
          go_wp2_with fail
          refine (C1.out _ (below_two _ _ _)).mono ?_
          rintro e w1 ⟨rfl, hb1⟩
          have T1 : Hid (Two w w1 _ _) := Two.new w _ _ hb1
          have B1 : Hid (Below w.heap.size w w1) := nxt (below_two _ _ _) hb1
          clear hb1
          obtain ⟨x0, x1, y0, y1, z0, z1⟩ := two_cells2 T1.out
          go_wp2_with fail
          refine (C2.out _ B1.out).mono ?_
          rintro e w2 ⟨v2, H2, rfl, h2⟩
          obtain ⟨a2, c2, rfl⟩ := h2.1.shape
          have P2 : Hid (PgI w1 (w2.alloc (.cells #[.int .i64 s, .slice a2 its.length c2] 24)) w2.heap.size s (.slice a2 its.length c2) its H2) := PgI.start w2 s h2.1 w1 h2.2.2 h2.2.1
          clear h2 x0 x1 y0 y1 z0 z1
          go_wp2_with fail
          generalize w2.alloc (.cells #[.int .i64 s, .slice a2 its.length c2] 24) = W3 at *
          generalize w2.heap.size = T at *
          go_loopw [9] (fun i wr => ∃ (m : Nat) (v : Value) (H : Nat → Prop), m ≤ l.length ∧ i = .int .i64 m ∧ Hid (effsE l = effsE (l.drop m)) ∧ Hid (PgI w1 wr T s v (its ++ nums s 0 (l.take m)) H)) (fun i _ => l.length - (intOf i).toNat)
          case atStart => exact ⟨0, _, H2, Nat.zero_le _, rfl, (by show _ = _; rw [List.drop_zero]), by simpa [nums] using P2⟩
          case round =>
            obtain ⟨m, v, H, hm, rfl, HO, HI⟩ := hrel
            obtain ⟨acc, hacc⟩ : ∃ acc, its ++ nums s 0 (l.take m) = acc := ⟨_, rfl⟩
            rw [hacc] at HI
            have HACC : Hid (its ++ nums s 0 (l.take m) = acc) := hacc
            clear hacc
            have HAL : Hid (acc.length = its.length + m) := by show _ = _; rw [← HACC.out, List.length_append, nums_length, List.length_take]; omega
            obtain ⟨va, vc, rfl⟩ := HI.out.1.shape
            have HBW : Hid (Below w.heap.size w wr) := nxt B1.out HI.out.2.2.1
            have TW : Hid (Two w wr _ _) := T1.out.below HI.out.2.2.1
            obtain ⟨t0, -⟩ := cell_of HI.out.2.2.2.2 0
            obtain ⟨t1, tf⟩ := cell_of HI.out.2.2.2.2 1
            simp only [List.getElem?_toArray, List.getElem?_cons_zero, List.getElem?_cons_succ] at t0 t1
            by_cases hlt : m < l.length
            · obtain ⟨b, o, k, bb, t, ka, kl, kc, ja, jl, jc, rfl, q0, q1, q2, q3, q4, q5, hl, hk⟩ := (HE.out.below HBW.out).at m hlt
              have hm1 : (m : Int) < (l.length : Int) := by omega
              have HL : Hid (Lay wr n (mk k bb t ka kl kc ja jl jc) l[m].2) := hl
              have hbw1 : b < w1.heap.size := by
                obtain ⟨b9, o9, -, -, -, -, -, -, -, -, -, e9, p9, -⟩ := (HE.out.below B1.out).at m hlt
                cases e9
                exact lt_of_cell p9
              have dn : ∀ j v, wr.cell? ⟨b, j, none⟩ = some v → w1.cell? ⟨b, j, none⟩ = some v := fun j v h => by rw [HI.out.2.2.1.cell (p := ⟨b, j, none⟩) hbw1] at h; exact h
              have p0 := dn _ _ q0
              have p1 := dn _ _ q1
              have p2 := dn _ _ q2
              have p3 := dn _ _ q3
              have p4 := dn _ _ q4
              have p5 := dn _ _ q5
              clear dn
              have HD : Hid _ := effsE_drop hlt HO.out
              have HN : Hid (its ++ nums s 0 (l.take (m + 1)) = acc ++ [(32 * s + m, l[m].1, l[m].2)]) := by show _ = _; rw [nums_snoc s l m hlt, ← List.append_assoc, HACC.out]
              have NB : Hid (∀ w', Calls Try.prog 40 #[.string l[m].1] w' fun e w'' => e = .returned (.bool (nmB l[m].1)) ∧ w'' = w') := fun w' => name_any _ _ hk
              have CV : Hid (∀ w', Below wr.heap.size wr w' → Calls Try.prog 41 #[mk k bb t ka kl kc ja jl jc] w' fun e w'' => e = .returned (.int .i64 (chk l[m].2)) ∧ Below w'.heap.size w' w'') := fun w' hb => rcheck_any n _ _ w' (Lay.below n HL.out hb)
              have HEB : Hid (nmB l[m].1 = false → effE l[m].1 l[m].2 = 31) := fun h => effE_bad h
              have HEG : Hid (nmB l[m].1 = true → effE l[m].1 l[m].2 = chk l[m].2) := fun h => effE_good h
              clear hl hk
              obtain ⟨⟨nm, u⟩, hu⟩ : ∃ u : Ef n, l[m] = u := ⟨_, rfl⟩
              rw [hu] at q0 p0 HL HD HN NB CV HEB HEG
              simp only at q0 p0 HL HD HN NB CV HEB HEG
              clear hu
              generalize effE nm u = ef at *
              generalize chk u = ee at *
              generalize nmB nm = nb at *
              cases nb
              · have E : Hid (addR L its s l = (31, 0, [])) := by
                  have h31 := HEB.out rfl
                  have : evE L s l = 31 := by rw [EV.out, HD.out, h31, if_neg (by decide)]
                  show _ = _
                  unfold addR
                  rw [if_pos HC0.out, this, if_neg (by decide)]
                obtain ⟨x0, x1, y0, y1, z0, z1⟩ := two_cells2 TW.out
                go_wp2_with (go_at_call 40; refine (NB.out _).mono ?_; rintro e w4 ⟨rfl, hw4⟩; subst w4)
                refine bodyPost_ret (v := .tuple #[.agg #[.int .i64 0, .slice none 0 0], .int .i64 31]) (by simp [results, Try.results12, go_sem, y0, y1]) rfl ?_
                rw [E.out]
                exact ⟨_, _, rfl, CopyInv.none2 _ HBW.out (by omega) _ _⟩
              · have hef := HEG.out rfl
                subst hef
                by_cases c5 : ef = 0
                · subst c5
                  have HO2 : Hid (effsE l = effsE (l.drop (m + 1))) := by show _ = _; rw [HD.out, if_pos rfl]
                  have HLEN : Hid ((acc.length + 1) * 104 ≤ 140737488355328) := by show _ ≤ _; rw [HAL.out]; omega
                  have n1 : IntKind.i64.wrap (32 * s) = 32 * s := by rw [IntKind.wrap_i64]; omega
                  have n2 : IntKind.i64.wrap (32 * s + (m : Int)) = 32 * s + (m : Int) := by rw [IntKind.wrap_i64]; omega
                  go_wp2_with (first
                    | (go_at_call 40; refine (NB.out _).mono ?_; rintro e w4 ⟨rfl, hw4⟩; subst w4)
                    | (go_at_call 41; refine (CV.out _ (Below.refl _ _)).mono ?_; rintro e w4 ⟨rfl, hb4⟩))
                  have HI4 : Hid (PgI w1 w4 T s (.slice va acc.length vc) acc H) := ⟨HI.out.1.same fun b hb => hb4.block b (HI.out.2.1 b hb).2.2, fun b hb => ⟨(HI.out.2.1 b hb).1, (HI.out.2.1 b hb).2.1, by have := (HI.out.2.1 b hb).2.2; have := hb4.size; omega⟩, nxt HI.out.2.2.1 hb4, HI.out.2.2.2.1, (hb4.block _ (lt_of_block HI.out.2.2.2.2)).trans HI.out.2.2.2.2⟩
                  have HL4 : Hid (Lay w4 n (mk k bb t ka kl kc ja jl jc) u) := Lay.below n HL.out hb4
                  replace q0 := keepc hb4 _ _ q0
                  replace q1 := keepc hb4 _ _ q1
                  replace q2 := keepc hb4 _ _ q2
                  replace q3 := keepc hb4 _ _ q3
                  replace q4 := keepc hb4 _ _ q4
                  replace q5 := keepc hb4 _ _ q5
                  replace t1 := keepc hb4 _ _ t1
                  clear hb4 HL HI tf t0 TW HBW
                  have t1d : w4.drew.cell? ⟨T, 1, none⟩ = _ := t1
                  clear HAL HACC HEB HEG NB CV HD HO
                  have t1a0 : ∀ o, (w4.alloc o).cell? ⟨T, 1, none⟩ = some (.slice va acc.length vc) := fun o => keepc (below_one w4 o) _ _ t1
                  have q0d : w4.drew.cell? ⟨b, o + m * 6, none⟩ = some (.string nm) := q0
                  have q1d : w4.drew.cell? ⟨b, o + m * 6 + 1, none⟩ = some (.int .i64 k) := q1
                  have q2d : w4.drew.cell? ⟨b, o + m * 6 + 2, none⟩ = some (.int .u64 bb) := q2
                  have q3d : w4.drew.cell? ⟨b, o + m * 6 + 3, none⟩ = some (.string t) := q3
                  have q4d : w4.drew.cell? ⟨b, o + m * 6 + 4, none⟩ = some (.slice ka kl kc) := q4
                  have q5d : w4.drew.cell? ⟨b, o + m * 6 + 5, none⟩ = some (.slice ja jl jc) := q5
                  clear p0 p1 p2 p3 p4 p5 hbw1
                  go_wp2_with fail
                  go_region_law (first
                    | (refine step_call1 rfl 42 (by intros; go_simp) _ _ rfl (.agg #[.int .i64 (32 * s + (m : Int)), .string nm, .int .i64 k, .int .u64 bb, .string t, .slice ka kl kc, .slice ja jl jc]) (by first | (simp [Act.eval]; done) | simp [Act.eval, Act.put]) (fun y w' => OwnPost w4.drew (32 * s + (m : Int)) nm u y w') (pown_any (32 * s + (m : Int)) nm u k bb t ka kl kc ja jl jc _ (Lay.below n HL4.out (Below.refl _ w4).drew)) ?_; intro y w6 hR; obtain ⟨k', b', t', ka', kl', kc', ja', jl', jc', F, rfl, ho, hF, hbel0⟩ := hR
                       have hbel : Below w4.heap.size w4 w6 := nxt (Below.refl _ w4).drew hbel0
                       have t1w := keepc hbel _ _ t1
                       have t1a : ∀ o, (w6.alloc o).cell? ⟨T, 1, none⟩ = some (.slice va acc.length vc) := fun o => keepc (below_one w6 o) _ _ t1w
                       have SD := PgI.side HI4.out hbel ho hF (.cells #[.int .i64 (32 * s + (m : Int)), .string nm, .int .i64 k', .int .u64 b', .string t', .slice ka' kl' kc', .slice ja' jl' jc'] 70))
                    | (refine step_pushT rfl _ _ rfl (.slice va acc.length vc) acc H (by first | (simp [Act.eval]; done) | simp [Act.eval, Act.put]) SD.1 (32 * s + (m : Int), nm, u) F (.int .i64 k') (.int .u64 b') (.string t') (.slice ka' kl' kc') (.slice ja' jl' jc') SD.2.1 SD.2.2.1 SD.2.2.2.1 SD.2.2.2.2 ⟨w6.heap.size, 0, none⟩ 1 (by first | (simp [Act.eval]; done) | simp [Act.eval, Act.put]) (fun j y hj => newCells w6 _ _ j y (by simpa using hj)) HLEN.out ?_; intro v' w5 q1 q2 q3 q4
                       have NX := PgI.next HI4.out hbel hF q1 q2 q3 q4
                       obtain ⟨c5, f5⟩ := cell_of NX.2.1 1
                       simp only [List.getElem?_toArray, List.getElem?_cons_zero, List.getElem?_cons_succ] at c5
                       obtain ⟨av', cv', rfl⟩ := q1.shape))
                  all_goals
                    have hle : (acc ++ [(32 * s + (m : Int), nm, u)]).length = acc.length + 1 := by simp
                    have NX1 := NX.1
                    rw [hle] at NX1
                    have NX' : Hid _ := NX1
                    clear NX1 NX hle
                    go_wp2_with fail
                    exact ⟨⟨m + 1, _, _, by omega, by go_num, HO2.out, by rw [HN.out]; exact NX'.out⟩, by simp [intOf]; omega⟩
                · have E : Hid (addR L its s l = (ef, 0, [])) := by
                    have : evE L s l = ef := by rw [EV.out, HD.out, if_neg c5]
                    show _ = _
                    unfold addR
                    rw [if_pos HC0.out, this, if_neg c5]
                  have hd3 : (ef == 0) = false := by simpa using c5
                  have hd4 : (ef != 0) = true := by simpa using c5
                  go_wp2_with (first
                    | (go_at_call 40; refine (NB.out _).mono ?_; rintro e w4 ⟨rfl, hw4⟩; subst w4)
                    | (go_at_call 41; refine (CV.out _ (Below.refl _ _)).mono ?_; rintro e w4 ⟨rfl, hb4⟩; obtain ⟨x0, x1, y0, y1, z0, z1⟩ := two_cells2 (TW.out.below hb4)))
                  refine bodyPost_ret (v := .tuple #[.agg #[.int .i64 0, .slice none 0 0], .int .i64 ef]) (by simp [results, Try.results12, go_sem, y0, y1]) rfl ?_
                  rw [E.out]
                  exact ⟨_, _, rfl, CopyInv.none2 _ (nxt HBW.out hb4) (by omega) _ _⟩
            · have hme : m = l.length := by omega
              subst hme
              have HEV : Hid (evE L s l = 0) := by show _ = _; rw [EV.out, HO.out, List.drop_eq_nil_of_le (by omega)]; rfl
              have hacc := HACC.out
              rw [List.take_length] at hacc
              have hal := HAL.out
              obtain ⟨x0, x1, y0, y1, z0, z1⟩ := two_cells2 TW.out
              by_cases hfull : its.length + l.length ≤ 256
              · have E : Hid (addR L its s l = (0, s, acc)) := by
                  show _ = _
                  unfold addR
                  rw [if_pos HC0.out, if_pos HEV.out, if_pos hfull, hacc]
                have hd1 : decide ((256 : Int) < (acc.length : Int)) = false := by simp; omega
                clear hacc hal
                go_wp2_with fail
                refine bodyPost_ret (v := .tuple #[.agg #[.int .i64 s, .slice va acc.length vc], .int .i64 0]) (by simp [results, Try.results12, go_sem, y0, y1]) rfl ?_
                rw [E.out]
                exact ⟨_, H, rfl, PgI.out2 HI.out B1.out (by omega) (lt_of_block T1.out.2) _ _⟩
              · have E : Hid (addR L its s l = (51, 0, [])) := by
                  show _ = _
                  unfold addR
                  rw [if_pos HC0.out, if_pos HEV.out, if_neg hfull]
                have hd1 : decide ((256 : Int) < (acc.length : Int)) = true := by simp; omega
                clear hacc hal
                go_wp2_with fail
                refine bodyPost_ret (v := .tuple #[.agg #[.int .i64 0, .slice none 0 0], .int .i64 51]) (by simp [results, Try.results12, go_sem, y0, y1]) rfl ?_
                rw [E.out]
                exact ⟨_, _, rfl, CopyInv.none2 _ HBW.out (by omega) _ _⟩
  · have E : Hid (addR L its s l = (9, 0, [])) := by show _ = _; unfold addR; rw [if_neg h0]
    have h9 : chkB L its = 9 := (chkB_cases L its).resolve_left h0
    rw [h9] at C1
    clear h0 h9
    go_enter Try.func12, Try.ntmps12
    go_wp2_with fail
    refine (C1.out _ (below_two _ _ _)).mono ?_
    rintro e w1 ⟨rfl, hb1⟩
    have T1 : Hid (Two w w1 _ _) := Two.new w _ _ hb1
    have B1 : Hid (Below w.heap.size w w1) := nxt (below_two _ _ _) hb1
    clear hb1
    obtain ⟨x0, x1, y0, y1, z0, z1⟩ := two_cells2 T1.out
    go_wp2_with fail
    refine bodyPost_ret (v := .tuple #[.agg #[.int .i64 0, .slice none 0 0], .int .i64 9]) (by simp [results, Try.results12, go_sem, y0, y1]) rfl ?_
    rw [E.out]
    exact ⟨_, _, rfl, CopyInv.none2 _ B1.out (by omega) _ _⟩
end Go.Proofs.Ytpeghhkhohnkiaa
