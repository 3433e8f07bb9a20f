/-
  OutboxFull: for every list of numbers and every text: no more than 256 effects wait; an event whose effects would be more is refused, and changes nothing; acknowledged ones make room. No condition.
-/
import Derived.Test.YtpeghhkhohnkiaaObArg
import Derived.Deep.CutRange
namespace Go.Proofs.Ytpeghhkhohnkiaa.outboxFull
open Go.ChangeShapes Go.WideShapes Go.ChangeAt Go.RowKit Go.Deep Go.ChangeMaps

/-- Where the loop stands. -/
def Inv (w wr : World) (P m : Nat) (L : Int) (its : List (Tm 1)) : Prop := BoxV wr (P + 1) P L its ∧ chkB L its = 0 ∧ L ≤ m ∧ Below w.heap.size w wr ∧ w.heap.size ≤ P

set_option maxRecDepth 100000 in
set_option maxHeartbeats 6400000 in
theorem walk (ks : List Int) (x0 : Value) (nm0 : ByteArray) (w : World) (hk : IntsArg w x0 ks) (hn : nm0.size ≤ 140737488351232) :
    Calls Try.prog 8 #[x0, .string nm0] w fun e w' => e = .returned (.bool true) ∧ Below w.heap.size w w' := by
  obtain ⟨a, c, rfl, hc1, hc2, hks⟩ := hk
  have HK : Hid (∀ i v, ks[i]? = some v → ∃ b o, a = some (⟨b, o, none⟩ : Addr) ∧ w.cell? ⟨b, o + i, none⟩ = some (.int .i64 v) ∧ -9223372036854775808 ≤ v ∧ v ≤ 9223372036854775807) := hks
  clear hks
  go_enter Try.func8, Try.ntmps8
  go_upto_region 3 with (go_at_call 23; refine (alive_any _).mono ?_; rintro e w1 ⟨rfl, hb1⟩)
  have B1 : Hid (Below w.heap.size w w1) := hb1
  clear hb1
  go_cut [26] (fun v wc => v = .bool (decide (nm0.size < 1 ∨ 16 < nm0.size)) ∧ Hid (wc = w1))
  case first =>
    by_cases h1 : nm0.size < 1
    · have e1 : decide (nm0.size < 1 ∨ 16 < nm0.size) = true := decide_eq_true (Or.inl h1)
      go_wp2_with fail
      go_meet
      exact ⟨by first | (rw [e1]; done) | (rw [e1]; simp; omega), rfl⟩
    · by_cases h2 : 16 < nm0.size
      · have e1 : decide (nm0.size < 1 ∨ 16 < nm0.size) = true := decide_eq_true (Or.inr h2)
        go_wp2_with fail
        go_meet
        exact ⟨by first | (rw [e1]; done) | (rw [e1]; simp; omega), rfl⟩
      · have e1 : decide (nm0.size < 1 ∨ 16 < nm0.size) = false := decide_eq_false (by omega)
        go_wp2_with fail
        go_meet
        exact ⟨by first | (rw [e1]; done) | (rw [e1]; simp; omega), rfl⟩
  case rest =>
    obtain ⟨rfl, HW⟩ := hcut
    obtain rfl := HW.out
    clear HW
    obtain ⟨W1, hW1⟩ : ∃ W, W = wc := ⟨_, rfl⟩
    subst hW1
    go_upto_if 26 with fail
    go_cut [1] (fun v wd => ∃ nm : ByteArray, v = .string nm ∧ 1 ≤ nm.size ∧ nm.size ≤ 16 ∧ Hid (wd = W1))
    case first =>
      by_cases h1 : nm0.size < 1 ∨ 16 < nm0.size
      · have e1 : decide (nm0.size < 1 ∨ 16 < nm0.size) = true := decide_eq_true h1
        rw [e1]
        clear h1 e1
        go_wp2_with fail
        go_meet
        exact ⟨⟨#[101]⟩, rfl, by decide, by decide, rfl⟩
      · have e1 : decide (nm0.size < 1 ∨ 16 < nm0.size) = false := decide_eq_false h1
        rw [e1]
        clear e1
        go_wp2_with fail
        go_meet
        exact ⟨nm0, rfl, by omega, by omega, rfl⟩
    case rest =>
      obtain ⟨nm, rfl, n1, n2, HW⟩ := hcut
      obtain rfl := HW.out
      clear HW
      have HEF : Hid (effE nm obZ = 0) := effE_mk obZ_chk n1 n2
      go_wp2_with fail
      refine (new_any _).mono ?_
      rintro e w2 ⟨rfl, hb2⟩
      have B2 : Hid (Below w.heap.size w w2) := nxt B1.out hb2
      clear hb2 B1
      have V0 : Hid (BoxV (n := 1) (w2.alloc (.cells #[.int .i64 0, .slice none 0 0] 26)) (w2.heap.size + 1) w2.heap.size 0 []) := BoxV.empty _ _ _
      have B3 : Hid (Below w.heap.size w (w2.alloc (.cells #[.int .i64 0, .slice none 0 0] 26))) := nxt B2.out (below_one _ _)
      have hP := B2.out.size
      go_wp2_with fail
      generalize w2.alloc (.cells #[.int .i64 0, .slice none 0 0] 26) = W3 at *
      generalize w2.heap.size = P at *
      clear B2
      go_loopw [6, 7, 8] (fun v6 v7 v8 wr => ∃ (m : Nat) (L : Int) (its : List (Tm 1)), m ≤ 20 ∧ m ≤ ks.length ∧ v8 = .int .i64 m ∧ v7 = .int .i64 m ∧ v6 = .int .i64 its.length ∧ Hid (Inv w wr P m L its)) (fun _ _ v8 _ => 20 - (intOf v8).toNat)
      case atStart => exact ⟨0, 0, [], by decide, Nat.zero_le _, rfl, rfl, rfl, V0.out, by simp [chkB, okT], Int.le_refl _, B3.out, hP⟩
      case round =>
        obtain ⟨m, L, its, hm, hmk, rfl, rfl, rfl, HI⟩ := hrel
        obtain ⟨ba, bc, x0, x1, z0, z1, ht⟩ := HI.out.1.read HI.out.2.1
        have HT : Hid (TIs wr 1 ba bc its) := ht
        clear ht
        have hil : its.length ≤ 256 := (chkB_ok HI.out.2.1).2.2.1
        by_cases hlt : m < ks.length
        · have hlt1 : (m : Int) < (ks.length : Int) := by omega
          by_cases hl2 : m < 20
          · have hl3 : decide ((m : Int) < 20) = true := by simp; omega
            obtain ⟨kb, ko, rfl, kc, kv1, kv2⟩ := HK.out m ks[m] (by simp [hlt])
            replace kc := keepc HI.out.2.2.2.1 _ _ kc
            generalize ks[m] = kv at *
            go_wp2_with fail
            obtain ⟨K, k1, k2, hK⟩ := placeAt kv 20 13 (by decide) (by decide) (by decide) (by decide)
            rw [hK]
            clear hK kc kv1 kv2
            replace k1 : 20 ≤ K := by omega
            replace k2 : K ≤ 32 := by omega
            obtain ⟨W, hW⟩ : ∃ W, W = wr := ⟨_, rfl⟩
            subst hW
            go_loopw [10, 11] (fun v i wr => ∃ j : Nat, j ≤ K ∧ i = .int .i64 j ∧ Hid (ShRowE W wr W.heap.size v (List.replicate j (nm, obZ))) ∧ Hid (Below W.heap.size W wr)) (fun _ i _ => K - (intOf i).toNat)
            case atStart => exact ⟨0, Nat.zero_le _, rfl, ShRowE.nil _ _ _, Below.refl _ _⟩
            case round =>
              obtain ⟨j, hj, rfl, HS, HB⟩ := hrel
              have hsz := HB.out.size
              by_cases hjl : j < K
              · have hjl1 : (j : Int) < (K : Int) := by omega
                have S1 : Hid (ShRowE W (wr.alloc (.cells #[.string nm, .int .i64 0, .int .u64 0, .string ⟨#[]⟩, .slice none 0 0, .slice none 0 0] 68)) W.heap.size u10 (List.replicate j (nm, obZ))) := HS.out.same (below_one _ _)
                go_wp2_with (at_builtin; refine wpList_pushShE (w0 := W) _ rfl _ _ rfl W.heap.size _ (List.replicate j (nm, obZ)) rfl S1.out (nm, obZ) 0 0 ⟨#[]⟩ none 0 0 none 0 0 (ob_lay W) ⟨wr.heap.size, 0, none⟩ 1 rfl (fun i y hy => newCells _ _ _ i y (by simpa using hy)) ?d0 ?d1 ?_)
                case d0 => simp; omega
                case d1 => simp; omega
                intro v' w5 q1 q2
                have S2 : Hid (ShRowE W w5 W.heap.size v' (List.replicate (j + 1) (nm, obZ))) := by rw [List.replicate_succ']; exact q1
                have B5 : Hid (Below W.heap.size W w5) := (nxt HB.out (below_one _ _)).grown q2 (by simp; omega) (fun g hg => by obtain ⟨xs, p1, _⟩ := HS.out; exact (p1.lt g hg).1)
                clear q1 q2
                go_wp2_with fail
                go_roundw
                case rel => exact ⟨j + 1, by omega, by go_num, S2.out, B5.out⟩
                case measure => simp [intOf]; omega
              · have hje : j = K := by omega
                subst hje
                obtain ⟨ea, ec, rfl, he⟩ := HS.out.eis HB.out (by simp; omega) (fun u hu => by rw [List.eq_of_mem_replicate hu]; show _ ≤ _; simp only; omega)
                have hlr : (List.replicate j (nm, obZ)).length = j := List.length_replicate
                have V4 : Hid (BoxV wr (P + 1) P L its) := HI.out.1.below HB.out
                obtain ⟨ba4, bc4, y0, y1, f0, f1, ht4⟩ := V4.out.read HI.out.2.1
                have CA : Hid (Calls Try.prog 11 #[.agg #[.int .i64 L, .slice ba4 its.length bc4], .int .i64 ((m : Int) + 1), .slice ea (List.replicate j (nm, obZ)).length ec] wr _) := add_any L ((m : Int) + 1) its ba4 bc4 (List.replicate j (nm, obZ)) ea ec wr ht4 he
                have hLm := HI.out.2.2.1
                have EV : Hid (evE L ((m : Int) + 1) (List.replicate j (nm, obZ)) = 0) := by
                  show _ = _
                  unfold evE
                  rw [if_neg (by omega), if_neg (by omega), if_neg (by rw [hlr]; omega)]
                  exact effsE_rep HEF.out j
                have hPw : P < wr.heap.size := V4.out.lt
                have B4 : Hid (Below w.heap.size w wr) := nxt HI.out.2.2.2.1 HB.out
                clear ht4 he hlr HS
                by_cases hfull : its.length + j ≤ 256
                · have EA : Hid (addR L its ((m : Int) + 1) (List.replicate j (nm, obZ)) = (0, (m : Int) + 1, its ++ nums ((m : Int) + 1) 0 (List.replicate j (nm, obZ)))) := by
                    show _ = _
                    unfold addR
                    rw [if_pos HI.out.2.1, if_pos EV.out, if_pos (by rw [List.length_replicate]; exact hfull)]
                  have HC : Hid (chkB ((m : Int) + 1) (its ++ nums ((m : Int) + 1) 0 (List.replicate j (nm, obZ))) = 0) := add_ok HI.out.2.1 EV.out (by rw [List.length_replicate]; exact hfull)
                  have HLn : Hid ((its ++ nums ((m : Int) + 1) 0 (List.replicate j (nm, obZ))).length = its.length + j) := by show _ = _; rw [List.length_append, nums_length, List.length_replicate]
                  rw [EA.out] at CA
                  clear EA EV
                  generalize its ++ nums ((m : Int) + 1) 0 (List.replicate j (nm, obZ)) = acc at *
                  rw [List.length_replicate] at CA
                  rw [List.length_replicate]
                  go_wp2_with fail
                  refine CA.out.mono ?_
                  rintro e w6 ⟨v6, H6, rfl, h6⟩
                  obtain ⟨a6, c6, rfl⟩ := h6.1.shape
                  have V6 : Hid (BoxV (w6.alloc (.cells #[.int .i64 ((m : Int) + 1), .slice a6 acc.length c6] 26)) wr.heap.size w6.heap.size ((m : Int) + 1) acc) := BoxV.newest h6
                  have V7 : Hid (BoxV (w6.alloc (.cells #[.int .i64 ((m : Int) + 1), .slice a6 acc.length c6] 26)) (P + 1) P L its) := V4.out.below (nxt h6.2.2 (below_one _ _))
                  have B7 : Hid (Below w.heap.size w (w6.alloc (.cells #[.int .i64 ((m : Int) + 1), .slice a6 acc.length c6] 26))) := nxt B4.out (nxt h6.2.2 (below_one _ _))
                  have hacc := HLn.out
                  clear h6 y0 y1 f0 f1
                  obtain ⟨ba7, bc7, y0, y1, f0, f1, -⟩ := V7.out.read HI.out.2.1
                  obtain ⟨p6, q6, g6⟩ := V7.out.cells2
                  have VM : Hid (BoxV _ wr.heap.size P ((m : Int) + 1) acc) := V6.out.move g6 hPw ((cell_of (heap_alloc_new w6 (.cells #[.int .i64 ((m : Int) + 1), .slice a6 acc.length c6] 26)) 1).1)
                  have BM : Hid _ := (B7.out.setCell (p := ⟨P, 0, none⟩) hP (.int .i64 ((m : Int) + 1))).setCell (p := ⟨P, 1, none⟩) hP (.slice a6 acc.length c6)
                  have hd1 : decide ((256 : Int) < (its.length : Int) + (j : Int)) = false := by simp; omega
                  rw [hacc] at y0 y1 f0 f1 VM BM
                  rw [hacc]
                  simp only
                  go_wp2_with (go_at_call 18; refine (num_any _ _).mono ?_; rintro e w8 ⟨rfl, hw8⟩; subst w8)
                  go_roundw
                  case rel => exact ⟨m + 1, (m : Int) + 1, acc, by omega, by omega, by go_num, by go_num, by rw [hacc]; go_num, VM.out.more (by omega), HC.out, by omega, BM.out, hP⟩
                  case measure => simp [intOf]; omega
                · have EA : Hid (addR L its ((m : Int) + 1) (List.replicate j (nm, obZ)) = (51, 0, [])) := by
                    show _ = _
                    unfold addR
                    rw [if_pos HI.out.2.1, if_pos EV.out, if_neg (by rw [List.length_replicate]; exact hfull)]
                  rw [EA.out] at CA
                  clear EA EV
                  rw [List.length_replicate] at CA
                  rw [List.length_replicate]
                  have hpos : 0 < its.length := by omega
                  have hpos1 : (0 : Int) < (its.length : Int) := by omega
                  have hd0 : ((its.length : Int) == 0) = false := beq_eq_false_iff_ne.2 (by omega)
                  have hd1 : decide ((256 : Int) < (its.length : Int) + (j : Int)) = true := by simp; omega
                  go_wp2_with fail
                  refine CA.out.mono ?_
                  rintro e w6 ⟨v6, H6, rfl, h6⟩
                  obtain ⟨a6, c6, rfl⟩ := h6.1.shape
                  have V7 : Hid (BoxV (w6.alloc (.cells #[.int .i64 0, .slice a6 ([] : List (Tm 1)).length c6] 26)) (P + 1) P L its) := V4.out.below (nxt h6.2.2 (below_one _ _))
                  have B7 : Hid (Below w.heap.size w (w6.alloc (.cells #[.int .i64 0, .slice a6 ([] : List (Tm 1)).length c6] 26))) := nxt B4.out (nxt h6.2.2 (below_one _ _))
                  have hP7 : P + 1 ≤ (w6.alloc (.cells #[.int .i64 0, .slice a6 ([] : List (Tm 1)).length c6] 26)).heap.size := V7.out.lt
                  clear h6 y0 y1 f0 f1
                  simp only [List.length_nil] at V7 B7 hP7 ⊢
                  obtain ⟨ba7, bc7, y0, y1, f0, f1, t7⟩ := V7.out.read HI.out.2.1
                  go_wp2_with (go_at_call 18; refine (num_any _ _).mono ?_; rintro e w8 ⟨rfl, hw8⟩; subst w8)
                  generalize w6.alloc (.cells #[.int .i64 0, .slice a6 0 c6] 26) = W7 at *
                  obtain ⟨ib, io, -, -, -, -, -, -, -, -, -, rfl, q0, -⟩ := t7.at 0 hpos
                  simp only [Nat.zero_mul, Nat.add_zero] at q0
                  have hin := okT_mem (chkB_ok HI.out.2.1).2.2.2 its[0] (List.getElem_mem hpos)
                  have EK : Hid (ackR L its its[0].1 = (0, true, L, its.drop 1)) := by
                    show _ = _
                    unfold ackR
                    rw [if_pos HI.out.2.1, if_pos ⟨hin.1, hin.2.1⟩, any_true hpos rfl, ← rem_at (chkB_ok HI.out.2.1).2.2.2 0 hpos]
                    rfl
                  have HC : Hid (chkB L (its.drop 1) = 0) := by
                    have := rem_ok (id := its[0].1) HI.out.2.1
                    rwa [← rem_at (chkB_ok HI.out.2.1).2.2.2 0 hpos] at this
                  have HLn : Hid ((its.drop 1).length = its.length - 1) := List.length_drop
                  have CK : Hid (∀ W', Below W7.heap.size W7 W' → Calls Try.prog 13 #[.agg #[.int .i64 L, .slice (some ⟨ib, io, none⟩) its.length bc7], .int .i64 its[0].1] W' fun e w' => ∃ y, e = .returned y ∧ ∃ v H, y = .tuple #[.agg #[.int .i64 L, v], .bool true, .int .i64 0] ∧ CopyInv (shT 1) W' w' v (its.drop 1) H) := by
                    intro W' hW'
                    refine (ack_any L its[0].1 its _ bc7 W' (t7.below hW')).mono ?_
                    rw [EK.out]
                    rintro e w' ⟨v, H, r1, r2⟩
                    exact ⟨_, r1, v, H, rfl, r2⟩
                  clear t7 hin EK CA
                  generalize its[0].1 = id0 at *
                  generalize its.drop 1 = rest at *
                  have y0d : W7.drew.cell? ⟨P, 0, none⟩ = _ := y0
                  have y1d : W7.drew.cell? ⟨P, 1, none⟩ = _ := y1
                  have q0d : W7.drew.cell? ⟨ib, io, none⟩ = _ := q0
                  have y0a : ∀ o, (W7.alloc o).drew.cell? ⟨P, 0, none⟩ = _ := fun o => keepc (below_one W7 o) _ _ y0
                  have y1a : ∀ o, (W7.alloc o).drew.cell? ⟨P, 1, none⟩ = _ := fun o => keepc (below_one W7 o) _ _ y1
                  have q0a : ∀ o, (W7.alloc o).drew.cell? ⟨ib, io, none⟩ = _ := fun o => keepc (below_one W7 o) _ _ q0
                  have hZ : (W7.alloc (.cells #[.int .i64 0, .slice none 0 0] 26)).drew.heap[W7.heap.size]? = some (.cells #[.int .i64 0, .slice none 0 0] 26 (0, 0)) := heap_alloc_new _ _
                  go_cut [14, 15, 16] (fun v14 v15 v16 wc => v15 = .bool true ∧ v16 = .int .i64 0 ∧ ∃ Bt, v14 = .pointer (some ⟨Bt, 0, none⟩) ∧ Hid (BoxV wc (P + 1) Bt L rest) ∧ Hid (BoxV wc (P + 1) P L its) ∧ Hid (Below w.heap.size w wc))
                  case first =>
                    go_region_law (first
                      | (refine step_call2 rfl 13 (by intros; go_simp) _ _ _ rfl (.agg #[.int .i64 L, .slice (some ⟨ib, io, none⟩) its.length bc7]) (.int .i64 id0) (by first | (simp [Act.eval]; done) | simp [Act.eval, Act.put]) (by first | (simp [Act.eval]; done) | simp [Act.eval, Act.put]) _ (CK.out _ (by first | exact (Below.refl _ W7).drew | exact (below_one W7 _).drew)) ?_; intro y w8 hR; obtain ⟨v8, H8, rfl, h8⟩ := hR; obtain ⟨a8, c8, rfl⟩ := h8.1.shape
                         have BW8 : Below W7.heap.size W7 w8 := by first | exact (Below.refl _ W7).drew.trans h8.2.2 | exact ((below_one W7 _).drew).trans (h8.2.2.mono (by simp))
                         (first
                           | (have hz8 : w8.heap[W7.heap.size]? = some (.cells #[.int .i64 0, .slice none 0 0] 26 (0, 0)) := (h8.2.2.block _ (lt_of_block hZ)).trans hZ
                              have g0 := (cell_of hz8 0).1
                              have g1 := (cell_of hz8 1).1
                              have j0 := (cell_of hz8 0).2
                              have j1 := (cell_of hz8 1).2
                              simp at g0 g1)
                           | skip)))
                    all_goals
                      go_wp2_with fail
                      go_meet
                      first
                        | exact ⟨rfl, rfl, w8.heap.size, rfl, (BoxV.newest h8).more (by simpa using hP7), V7.out.below (nxt BW8 (below_one _ _)), nxt B7.out (nxt BW8 (below_one _ _))⟩
                        | exact ⟨rfl, rfl, W7.heap.size, rfl, (BoxV.put h8 hz8 (by simp)).more (by simp; omega), V7.out.below ((BW8.setCell (p := ⟨W7.heap.size, 0, none⟩) (Nat.le_refl _) _).setCell (p := ⟨W7.heap.size, 1, none⟩) (Nat.le_refl _) _), nxt B7.out ((BW8.setCell (p := ⟨W7.heap.size, 0, none⟩) (Nat.le_refl _) _).setCell (p := ⟨W7.heap.size, 1, none⟩) (Nat.le_refl _) _)⟩
                  case rest =>
                    obtain ⟨rfl, rfl, Bt, rfl, VB, VP, BC⟩ := hcut
                    clear y0 y1 f0 f1 y0d y1d q0d y0a y1a q0a hZ q0 CK
                    obtain ⟨ba9, bc9, y0, y1, f0, f1, -⟩ := VP.out.read HI.out.2.1
                    obtain ⟨ba0, bc0, s0, s1, -, -, -⟩ := VB.out.read HC.out
                    obtain ⟨p9, q9, g9⟩ := VP.out.cells2
                    have VM : Hid (BoxV _ (P + 1) P L rest) := VB.out.move g9 (by omega) s1
                    have BM : Hid _ := (BC.out.setCell (p := ⟨P, 0, none⟩) hP (.int .i64 L)).setCell (p := ⟨P, 1, none⟩) hP (.slice ba0 rest.length bc0)
                    have HN : Hid (((rest.length : Nat) : Int) = (its.length : Int) - 1) := by have := HLn.out; show _ = _; omega
                    clear g9 hd0 hd1
                    go_wp2_with (go_at_call 18; refine (num_any _ _).mono ?_; rintro e w9 ⟨rfl, hw9⟩; subst w9)
                    go_roundw
                    case rel => exact ⟨m + 1, L, rest, by omega, by omega, by go_num, by go_num, by rw [HN.out], VM.out, HC.out, by omega, BM.out, hP⟩
                    case measure => simp [intOf]; omega
          · have hl3 : decide ((m : Int) < 20) = false := by simp; omega
            go_wp2_with fail
            go_ret
            exact ⟨ret_bool (by simp), HI.out.2.2.2.1⟩
        · go_wp2_with fail
          go_ret
          exact ⟨ret_bool (by simp), HI.out.2.2.2.1⟩

set_option maxRecDepth 100000 in
set_option maxHeartbeats 1600000 in
theorem lifted (os : Os) (started : os.Started) (H : Type) (enc : TypeId × Value → H) :
    ReturnsInHanded {} Try.checked os 8 .any (Rows.outboxFullSpec.pre6 enc Try.prog Try.f8 Rows.outboxFullRow.domain false) (Rows.outboxFullSpec.post enc Try.prog Try.f8 false true false false) := by
  refine returnsInHanded_of_change_sized (C := Try.checked) Try.own started (by kernel_rfl) Try.func8
    (ChangeSpec.witness6 (enc := enc) (C := Try.checked) false ⟨#[], #[.slice none 0 0, .string ⟨#[]⟩], []⟩ 8 (by kernel_rfl) (by kernel_rfl) (by kernel_rfl) (by kernel_rfl)) ?_
  intro W base args ds gs before hval0 hW _ hsz0 _
  have hsz : (DataW.weightsEach Try.prog (Try.f8.params.toList ++ Rows.outboxFullSpec.plain.varTypes Try.prog) (ds ++ gs)).all (· ≤ reachBytes) = true := hsz0
  have hval : ∀ (j : Nat) t v, Try.f8.params[j]? = some t → args[j]? = some v → Value.okWide Try.prog W .any base t v := hval0
  have hW' := hW
  obtain ⟨p, q, hA0, hV, rfl, hfz, hnd⟩ := hW
  have hA : DataW.TrodAll enc Try.prog W 0 (fun _ => true) true Try.f8.params.toList args.toList ds p := hA0
  rw [Try.params8] at hA hval hsz
  obtain ⟨v0, vs0, d0, ds0, p0, q0, hargs, rfl, rfl, h0, r0⟩ := trodAll_cons hA
  obtain ⟨v1, vs1, d1, ds1, p1, q1, rfl, rfl, rfl, h1, r1⟩ := trodAll_cons r0
  obtain ⟨rfl, rfl, rfl⟩ := trodAll_nil r1
  obtain rfl : args = #[v0, v1] := by cases args; simp_all
  obtain ⟨rfl, rfl⟩ := trodVars_none hV
  clear hA0 hval0
  simp only [List.append_nil] at hW' hsz
  have hlt : ∀ x ∈ p0 ++ p1, x.block < W.heap.size := fun x hx => hW'.lt x (by simpa using hx)
  have hall : ∀ x ∈ DataW.weightsEach Try.prog [60, 9] [d0, d1], x ≤ reachBytes := fun x hx => of_decide_eq_true (List.all_eq_true.1 hsz x hx)
  have g0 : ∀ x ∈ d0.weights Try.prog 60, x ≤ reachBytes := fun x hx => hall x (DataW.weights_mem_each (j := 0) rfl rfl x hx)
  obtain ⟨u0, l0⟩ := intsA_of_arg (hval 0 _ v0 rfl rfl) h0 g0
  have g1 : ∀ x ∈ d1.weights Try.prog 9, x ≤ reachBytes := fun x hx => hall x (DataW.weights_mem_each (j := 1) rfl rfl x hx)
  obtain ⟨u1, rfl, hd1, rfl, w1⟩ := open_string Try.underlying9 (hval 1 _ v1 rfl rfl) h1
  have l1 : u1.size ≤ 140737488351232 := by have := g1 u1.data.toList.length (by rw [hd1]; simp [DataW.weights]); rw [reach_eq] at this; have e : u1.data.toList.length = u1.size := (by cases u1; rfl); omega
  subst hd1
  refine (walk u0 v0 u1 W l0 l1).mono fun e W' ⟨he, bel⟩ => ?_
  subst he
  exact ⟨_, rfl, _, _, _, [], _, [], hW', trodAll_mk1 (shut_bool Try.underlying4 _), (trodAll_cons_mk (Below.trod Try.laidOut (by kernel_rfl) (of_decide_eq_true (by kernel_rfl)) h0 bel (fun x hx => hlt x (by simp [hx]))) (trodAll_cons_mk (shut_string Try.underlying9 w1) trodAll_mk0)), rfl, bel.frame _, fun h => by cases h⟩

theorem over : Rows.outboxFullRow.holds Try.pinned (OpenSpec.ofChange Rows.outboxFullSpec) :=
  OpenClaim.holds_of_wide 8 Try.f8 rfl rfl rfl rfl rfl rfl rfl ⟨rfl, rfl, rfl, rfl, rfl⟩ rfl rfl rfl rfl rfl (by kernel_rfl) Try.func8 (by kernel_rfl)
    (of_decide_eq_true (by kernel_rfl)) (by unfold Func.isWrapper; first | (rw [if_pos (by decide +kernel)]; kernel_rfl) | (rw [if_neg (by decide +kernel)]; exact ⟨rfl, rfl⟩))
    (fun os started H enc _ => lifted os started H enc)

/-- THE STATEMENT. -/
theorem proved : Rows.OutboxFullSaid := over
#print axioms proved
end Go.Proofs.Ytpeghhkhohnkiaa.outboxFull
