/-
  WalKeeps holds for every number, all lists of octets and every number of zeros: what was appended is there, in order; recovered of its own segments, with zeros behind them or not, a log is itself. No condition.
-/
import Derived.Test.YtmjjhapmpaadbabWlArg
import Derived.Test.YtmjjhapmpaadbabWlRcvM
namespace Go.Proofs.Ytmjjhapmpaadbab.walKeeps
open Go.ChangeShapes Go.WideShapes Go.ChangeAt Go.RowKit Go.Deep
open Se

theorem pad_step {s : List UInt8} {k : Nat} : s ++ List.replicate (k + 1) 0 = (s ++ List.replicate k 0) ++ [0] := by rw [List.replicate_succ', List.append_assoc]

set_option maxRecDepth 100000 in
set_option maxHeartbeats 6400000 in
theorem walk (n : Int) (l : List (List UInt8)) (x : Value) (z0 : Int) (w : World) (_hn : (Lit.int .i64 n).wf = true) (hl : SectorsIs w x l) (_hz : (Lit.int .i64 z0).wf = true) :
    Calls Try.prog 5 #[.int .i64 n, x, .int .i64 z0] w fun e w' => e = .returned (.bool true) ∧ Below w.heap.size w w' := by
  obtain ⟨a, c, rfl, hl, hll⟩ := hl
  have HF : Hid (Calls Try.prog 28 #[.int .i64 n, .slice a l.length c] w (FilPost w)) := filled_any n l a c w hl (by omega)
  clear hl
  obtain ⟨Z, hZ, hZ8⟩ : ∃ Z : Nat, (wrap64 (z0.tmod 9 + 9)).tmod 9 = (Z : Int) ∧ Z ≤ 8 := by
    have h1 := Int.tmod_lt_of_pos z0 (show (0 : Int) < 9 by decide)
    have h2 := Int.lt_tmod_of_pos z0 (show (0 : Int) < 9 by decide)
    have h4 : wrap64 (z0.tmod 9 + 9) = z0.tmod 9 + 9 := wrap_id (by omega) (by omega)
    have h3 : (z0.tmod 9 + 9).tmod 9 = (z0.tmod 9 + 9) % 9 := Int.tmod_eq_emod_of_nonneg (by omega)
    rw [h4, h3]
    exact ⟨((z0.tmod 9 + 9) % 9).toNat, by omega, by omega⟩
  have HZ : Hid ((wrap64 (z0.tmod 9 + 9)).tmod 9 = (Z : Int)) := hZ
  clear hZ
  go_enter Try.func5, Try.ntmps5
  go_wp2_with fail
  refine HF.out.mono ?_
  rintro e w1 ⟨f, nx, gs, ss, xa, xc, wa, wc0, rfl, LG, h30, hf, hnx, hxs, hwr, c1, c2, c3, c4, hpl, hb1⟩
  have hrec := LG.recs
  have hpad := LG.pad Z
  have hs3 : ss.length ≤ 30 := by rw [LG.segs, List.length_map]; exact h30
  have hfirst : nx - (gs.flatten.length : Int) = f := by have := LG.next; omega
  have hfl := LG.lo
  have hfw : gs.flatten.length ≤ 30 := by have := LG.next; omega
  have hx1 : 1 ≤ nx := by have := LG.next; omega
  have HSL : Hid (∀ s ∈ ss, s.length ≤ 480) := by
    intro s hs
    rw [LG.segs] at hs
    obtain ⟨g, hg, rfl⟩ := List.mem_map.1 hs
    exact LG.len g hg
  generalize gs.flatten = want at *
  clear LG HF h30 hpl
  have HXS : Hid (LayS w1 xa ss) := hxs
  have HWR : Hid (LayR w1 wa want) := hwr
  have HB1 : Hid (Below w.heap.size w w1) := hb1
  have HRE : Hid (∀ W ya yc, LayS W ya ss → Calls Try.prog 13 #[.agg #[.slice ya ss.length yc, .int .i64 nx]] W fun e w' => ∃ ra rc, e = .returned (.tuple #[.slice ra want.length rc, .int .i64 0]) ∧ LayR w' ra want ∧ Below W.heap.size W w') := by
    intro W ya yc h
    have := records_any ss nx ya yc W h (by omega) (by omega) (by omega)
    rw [hrec] at this
    refine Calls.mono this ?_
    rintro e w' ⟨v, rfl, ho, hb'⟩
    obtain ⟨ra, rc, rfl⟩ := ho.shape
    exact ⟨ra, rc, rfl, ho.lay, hb'⟩
  have HSM : Hid (∀ W a1 c1 a2 c2, LayR W a1 want → LayR W a2 want → Calls Try.prog 19 #[.slice a1 want.length c1, .slice a2 want.length c2] W fun e w' => e = .returned (.bool true) ∧ Below W.heap.size W w') := by
    intro W a1 c1 a2 c2 h1 h2
    have := same_any want want a1 a2 c1 c2 W h1 h2 (by omega)
    simpa using this
  have HRC : Hid (∀ W ya yc, LayS W ya (ss.map (padZ Z)) → Calls Try.prog 24 #[.slice ya ss.length yc, .int .i64 f] W fun e w' => ∃ va vc, e = .returned (.tuple #[.agg #[.slice va ss.length vc, .int .i64 nx], .int .i64 0]) ∧ LayS w' va ss ∧ Below W.heap.size W w') := by
    intro W ya yc h
    have := recover_any (ss.map (padZ Z)) f ya yc W h (by rw [List.length_map]; omega) (by omega) (by omega)
    rw [hpad, List.length_map] at this
    refine Calls.mono this ?_
    rintro e w' ⟨va, vc, rfl, ho, hb'⟩
    exact ⟨va, vc, rfl, ho.lay, hb'⟩
  clear hxs hwr hb1 hrec hpad
  generalize want.length = wl at *
  have hnxe : (nx == nx) = true := by simp
  have X1 : Hid ((w1.alloc (.cells #[.slice xa ss.length xc, .int .i64 nx] 26)).heap[w1.heap.size]? = some (.cells #[.slice xa ss.length xc, .int .i64 nx] 26 (0, 0))) := heap_alloc_new _ _
  have B1 : Hid (Below w1.heap.size w1 (w1.alloc (.cells #[.slice xa ss.length xc, .int .i64 nx] 26))) := below_one _ _
  go_wp2_with fail
  refine (alive_any _).mono ?_
  rintro e w2 ⟨rfl, hb2⟩
  have X2 : Hid (w2.heap[w1.heap.size]? = some (.cells #[.slice xa ss.length xc, .int .i64 nx] 26 (0, 0))) := (hb2.block _ (lt_of_block X1.out)).trans X1.out
  have B2 : Hid (Below w1.heap.size w1 w2) := nxt B1.out hb2
  clear X1 B1 hb2
  obtain ⟨x0, -⟩ := cell_of X2.out 0
  obtain ⟨x1, -⟩ := cell_of X2.out 1
  simp at x0 x1
  go_wp2_with fail
  refine (HRE.out _ xa xc (HXS.out.below B2.out)).mono ?_
  rintro e w3 ⟨ra, rc, rfl, hr3, hb3⟩
  have B3 : Hid (Below w1.heap.size w1 w3) := nxt B2.out hb3
  have X3 : Hid (w3.heap[w1.heap.size]? = some (.cells #[.slice xa ss.length xc, .int .i64 nx] 26 (0, 0))) := (hb3.block _ (lt_of_block X2.out)).trans X2.out
  have R3 : Hid (LayR w3 ra want) := hr3
  clear X2 B2 hb3 hr3 x0 x1
  go_wp2_with (first
    | (go_at_call 18; refine (num_any _ _).mono ?_; rintro e w5 ⟨rfl, hw5⟩; subst w5)
    | (go_at_call 19; refine (HSM.out _ ra rc wa wc0 R3.out (HWR.out.below B3.out)).mono ?_; rintro e w4 ⟨rfl, hb4⟩; have B4 : Hid (Below w1.heap.size w1 w4) := nxt B3.out hb4; have X4 : Hid (w4.heap[w1.heap.size]? = some (.cells #[.slice xa ss.length xc, .int .i64 nx] 26 (0, 0))) := (hb4.block _ (lt_of_block X3.out)).trans X3.out; obtain ⟨x0, -⟩ := cell_of X4.out 0; obtain ⟨x1, -⟩ := cell_of X4.out 1; simp at x0 x1; clear hb4))
  clear x0 x1 X3 B3 R3
  obtain ⟨i0, hi0, hz0, hz1, hz2⟩ := info_parts Try.infoBs
  go_loopw [13, 14] (fun v i wr => ∃ m : Nat, m ≤ ss.length ∧ i = .int .i64 m ∧ Hid (OwnS wr w4.heap.size v ((ss.take m).map (padZ Z))) ∧ Hid (Below w4.heap.size w4 wr)) (fun _ i _ => ss.length - (intOf i).toNat)
  case atStart => exact ⟨0, by omega, rfl, by show OwnS _ _ _ _; simpa using OwnS.nil _ _, Below.refl _ _⟩
  case round =>
    obtain ⟨m, hm, rfl, HO, HB⟩ := hrel
    have HX4 : Hid (wr.heap[w1.heap.size]? = some (.cells #[.slice xa ss.length xc, .int .i64 nx] 26 (0, 0))) := (HB.out.block _ (lt_of_block X4.out)).trans X4.out
    obtain ⟨x0, -⟩ := cell_of HX4.out 0
    obtain ⟨x1, -⟩ := cell_of HX4.out 1
    simp at x0 x1
    have HML : Hid (((ss.take m).map (padZ Z)).length = m) := by show _ = _; rw [List.length_map, List.length_take]; omega
    by_cases hlt : m < ss.length
    · have hlt1 : (m : Int) < (ss.length : Int) := by omega
      obtain ⟨sg, hsg⟩ : ∃ sg, ss[m]? = some sg := ⟨_, List.getElem?_eq_getElem hlt⟩
      have HX : Hid ((ss.take (m + 1)).map (padZ Z) = (ss.take m).map (padZ Z) ++ [padZ Z sg]) := by
        show _ = _
        rw [List.take_succ_eq_append_getElem hlt, List.map_append]
        rw [List.getElem?_eq_getElem hlt] at hsg
        simp only [Option.some.injEq] at hsg
        rw [hsg]
        rfl
      obtain ⟨b, off, a1, k1, rfl, q1, q2, q3⟩ := (HXS.out.below (nxt B4.out HB.out)) m sg hsg
      have HQ : Hid (Oct wr a1 k1 sg) := q2
      have hs480 := HSL.out sg (List.mem_of_getElem? hsg)
      obtain ⟨va, vc, rfl⟩ := HO.out.shape
      obtain ⟨xs, hr, hit, hap⟩ := HO.out
      rw [HML.out] at hr
      have HRW : Hid (wr.ownsRow w4.heap.size 25 1 (.slice va m vc) m xs) := hr
      have HIT : Hid (SItems wr w4.heap.size ((ss.take m).map (padZ Z)) xs) := hit
      have HAP : Hid (ApartV xs) := hap
      rw [HML.out]
      clear hsg q2 hr hit hap HO
      go_wp2_with (go_at_call 10; refine (copyB_any a1 k1 sg _ HQ.out (by omega)).mono ?_; rintro e w5 ⟨s5, rfl, hs5, hb5⟩; have HS5 : Hid (Bs w5 wr.heap.size s5 sg) := hs5; have HB5 : Hid (Below wr.heap.size wr w5) := hb5; clear hs5 hb5)
      obtain ⟨Wr, hWr⟩ : ∃ Wr, Wr = wr := ⟨_, rfl⟩
      subst hWr
      clear x0 x1 q1
      go_loopw [15, 16] (fun v k wr => ∃ j : Nat, j ≤ Z ∧ sg.length + j ≤ 480 ∧ k = .int .i64 j ∧ Hid (Bs wr Wr.heap.size v (sg ++ List.replicate j 0)) ∧ Hid (Below Wr.heap.size Wr wr)) (fun _ k _ => Z - (intOf k).toNat)
      case atStart => exact ⟨0, by omega, by omega, rfl, by show Bs _ _ _ _; simpa using HS5.out, HB5.out⟩
      case round =>
        obtain ⟨j, hj, hj480, rfl, HBS, HBQ⟩ := hrel
        obtain ⟨acc, hacc⟩ : ∃ acc, sg ++ List.replicate j 0 = acc := ⟨_, rfl⟩
        have HAC : Hid (sg ++ List.replicate j 0 = acc) := hacc
        have hal : acc.length = sg.length + j := by rw [← hacc, List.length_append, List.length_replicate]
        rw [hacc] at HBS
        obtain ⟨al, hale⟩ : ∃ al, acc.length = al := ⟨_, rfl⟩
        have HAL : Hid (acc.length = al) := hale
        rw [hale] at hal
        have HALJ : Hid (al = sg.length + j) := hal
        have hal480 : al ≤ 480 := by omega
        obtain ⟨ua, uc, rfl⟩ := HBS.out.shape
        rw [hale] at HBS ⊢
        clear hacc hale hal
        by_cases hjz : j < Z ∧ al < 480
        · have hjb : (j : Int) < (wrap64 (z0.tmod 9 + 9)).tmod 9 := by rw [HZ.out]; omega
          have halb : (al : Int) < 480 := by omega
          go_wp2_with (at_builtin; refine wpList_app _ rfl _ _ rfl Wr.heap.size _ acc [0] rfl ?e0 ⟨wr.heap.size, 0, none⟩ 1 rfl ?e1 ?e2 ?e3 ?_)
          case e0 => exact HBS.out.below (below_one _ _)
          case e1 => exact new_octets wr _ _ _ (by simp [cellsO])
          case e2 => simp; have := HAL.out; omega
          case e3 => have := HBQ.out.size; simp; omega
          intro s8 w8 h81 h82
          have H8 : Hid (Bs w8 Wr.heap.size s8 (sg ++ List.replicate (j + 1) 0)) := by
            show Bs _ _ _ _
            rw [pad_step, HAC.out]
            exact h81
          have B8 : Hid (Below Wr.heap.size Wr w8) := HBQ.out.trans ((h82.pre (below_one _ _)).below HBQ.out.size fun g hg => (HBS.out.base g hg).1)
          clear h81 h82
          go_wp2_with fail
          exact ⟨⟨j + 1, by omega, by have := HALJ.out; omega, by go_num, H8.out, B8.out⟩, by simp [intOf]; omega⟩
        · have HPD : Hid (acc = padZ Z sg) := by
            show _ = _
            rw [← HAC.out]
            unfold padZ
            rw [show min Z (480 - sg.length) = j by have := HALJ.out; omega]
          have hcs : ¬ (j : Int) < (wrap64 (z0.tmod 9 + 9)).tmod 9 ∨ ((j : Int) < (wrap64 (z0.tmod 9 + 9)).tmod 9 ∧ ¬ (al : Int) < 480) := by rw [HZ.out]; omega
          rcases hcs with hcs | ⟨hcs, hcs'⟩
          · go_wp2_with (at_builtin; refine wpList_append_apart _ rfl _ _ 22 rfl w4.heap.size 25 i0 _ 1 24 Try.underlying22 hi0 hz0 hz1 hz2 rfl (by decide) (.slice va m vc) m xs rfl ?ga0 (some ⟨wr.heap.size, 0, none⟩) 1 1 [.slice ua al uc] rfl (by simp) rfl ?ga1 ?ga2 ?ga3 ?ga4 ?ga5 ?_)
            case ga0 => exact ownsRow_same HRW.out fun g hg => (nxt HBQ.out (below_one wr _)).block g (HRW.out.lt g hg).2
            case ga2 => simp [Value.oneCell']
            case ga3 => unfold maxLen; omega
            case ga4 => omega
            case ga5 => have := HB.out.size; have := HBQ.out.size; simp; omega
            intro v' w7 hrow hgr _
            have bX := nxt HBQ.out (below_one wr (.cells #[.slice ua al uc] 25))
            have H7 : Hid (OwnS w7 w4.heap.size v' ((ss.take (m + 1)).map (padZ Z))) := by
              show OwnS _ _ _ _
              rw [HX.out, ← HPD.out]
              refine OwnS.pushed (a := ua) (c := uc) (l := acc) (ownsRow_same (by rw [HML.out]; exact HRW.out) fun g hg => bX.block g (HRW.out.lt g hg).2) (HIT.out.kpb (KpB.below bX)) HAP.out (by rw [HML.out, HAL.out]; exact hrow) hgr ?_ (by have := HAL.out; omega) ?_
              · rw [HAL.out]
                exact Bs.up (HBS.out.below (below_one _ _)) (fun g hg => by have := (HBS.out.base g hg).1; have := HB.out.size; omega)
              · intro j' x g hx hg hg2
                have e1 := (HIT.out.lt (by have := HRW.out.1; rw [HML.out]; omega) hx hg).2.1
                rw [HAL.out] at hg2
                have e2 := (HBS.out.base g hg2).1
                omega
            have HB7 : Hid (Below w4.heap.size w4 w7) := (nxt HB.out bX).grown hgr (by have := HB.out.size; have := bX.size; omega) (fun j e => (HRW.out.lt j e).1)
            clear hrow hgr bX
            go_wp2_with fail
            exact ⟨⟨m + 1, by omega, by go_num, H7.out, HB7.out⟩, by simp [intOf]; omega⟩
          · go_wp2_with (at_builtin; refine wpList_append_apart _ rfl _ _ 22 rfl w4.heap.size 25 i0 _ 1 24 Try.underlying22 hi0 hz0 hz1 hz2 rfl (by decide) (.slice va m vc) m xs rfl ?gb0 (some ⟨wr.heap.size, 0, none⟩) 1 1 [.slice ua al uc] rfl (by simp) rfl ?gb1 ?gb2 ?gb3 ?gb4 ?gb5 ?_)
            case gb0 => exact ownsRow_same HRW.out fun g hg => (nxt HBQ.out (below_one wr _)).block g (HRW.out.lt g hg).2
            case gb2 => simp [Value.oneCell']
            case gb3 => unfold maxLen; omega
            case gb4 => omega
            case gb5 => have := HB.out.size; have := HBQ.out.size; simp; omega
            intro v' w7 hrow hgr _
            have bX := nxt HBQ.out (below_one wr (.cells #[.slice ua al uc] 25))
            have H7 : Hid (OwnS w7 w4.heap.size v' ((ss.take (m + 1)).map (padZ Z))) := by
              show OwnS _ _ _ _
              rw [HX.out, ← HPD.out]
              refine OwnS.pushed (a := ua) (c := uc) (l := acc) (ownsRow_same (by rw [HML.out]; exact HRW.out) fun g hg => bX.block g (HRW.out.lt g hg).2) (HIT.out.kpb (KpB.below bX)) HAP.out (by rw [HML.out, HAL.out]; exact hrow) hgr ?_ (by have := HAL.out; omega) ?_
              · rw [HAL.out]
                exact Bs.up (HBS.out.below (below_one _ _)) (fun g hg => by have := (HBS.out.base g hg).1; have := HB.out.size; omega)
              · intro j' x g hx hg hg2
                have e1 := (HIT.out.lt (by have := HRW.out.1; rw [HML.out]; omega) hx hg).2.1
                rw [HAL.out] at hg2
                have e2 := (HBS.out.base g hg2).1
                omega
            have HB7 : Hid (Below w4.heap.size w4 w7) := (nxt HB.out bX).grown hgr (by have := HB.out.size; have := bX.size; omega) (fun j e => (HRW.out.lt j e).1)
            clear hrow hgr bX
            go_wp2_with fail
            exact ⟨⟨m + 1, by omega, by go_num, H7.out, HB7.out⟩, by simp [intOf]; omega⟩
    · have hme : m = ss.length := by omega
      subst hme
      have hO := HO.out
      rw [List.take_length] at hO
      obtain ⟨va, vc, rfl⟩ := hO.shape
      rw [List.length_map]
      have HRV : Hid (Calls Try.prog 24 #[.slice va ss.length vc, .int .i64 f] wr _) := HRC.out wr va vc hO.lay
      have HWW : Hid (LayR wr wa want) := HWR.out.below (nxt B4.out HB.out)
      clear hO HO HML
      go_wp2_with fail
      refine HRV.out.mono ?_
      rintro e w6 ⟨ya, yc, rfl, hy6, hb6⟩
      have X6 : Hid ((w6.alloc (.cells #[.slice ya ss.length yc, .int .i64 nx] 26)).heap[w1.heap.size]? = some (.cells #[.slice xa ss.length xc, .int .i64 nx] 26 (0, 0))) := ((nxt hb6 (below_one w6 _)).block _ (lt_of_block HX4.out)).trans HX4.out
      have Y6 : Hid ((w6.alloc (.cells #[.slice ya ss.length yc, .int .i64 nx] 26)).heap[w6.heap.size]? = some (.cells #[.slice ya ss.length yc, .int .i64 nx] 26 (0, 0))) := heap_alloc_new _ _
      have B6 : Hid (Below w4.heap.size w4 (w6.alloc (.cells #[.slice ya ss.length yc, .int .i64 nx] 26))) := nxt (nxt HB.out hb6) (below_one _ _)
      have L6 : Hid (LayS (w6.alloc (.cells #[.slice ya ss.length yc, .int .i64 nx] 26)) ya ss) := hy6.below (below_one _ _)
      clear hb6 hy6 x0 x1 HX4
      go_wp2_with fail
      refine (HRE.out _ ya yc L6.out).mono ?_
      rintro e w7 ⟨sa, sc, rfl, hr7, hb7⟩
      have X7 : Hid (w7.heap[w1.heap.size]? = some (.cells #[.slice xa ss.length xc, .int .i64 nx] 26 (0, 0))) := (hb7.block _ (lt_of_block X6.out)).trans X6.out
      have Y7 : Hid (w7.heap[w6.heap.size]? = some (.cells #[.slice ya ss.length yc, .int .i64 nx] 26 (0, 0))) := (hb7.block _ (lt_of_block Y6.out)).trans Y6.out
      have B7 : Hid (Below w4.heap.size w4 w7) := nxt B6.out hb7
      have R7 : Hid (LayR w7 sa want) := hr7
      have W7 : Hid (LayR w7 wa want) := HWR.out.below (nxt B4.out B7.out)
      obtain ⟨x0, -⟩ := cell_of X7.out 0
      obtain ⟨x1, -⟩ := cell_of X7.out 1
      obtain ⟨y0, -⟩ := cell_of Y7.out 0
      obtain ⟨y1, -⟩ := cell_of Y7.out 1
      simp at x0 x1 y0 y1
      clear X6 Y6 B6 L6 hb7 hr7 HRV HWW
      go_wp2_with (first
        | (go_at_call 18; refine (num_any _ _).mono ?_; rintro e w9 ⟨rfl, hw9⟩; subst w9)
        | (go_at_call 19; refine (HSM.out _ sa sc wa wc0 R7.out W7.out).mono ?_; rintro e w8 ⟨rfl, hb8⟩; have B8 : Hid (Below w.heap.size w w8) := nxt (nxt (nxt HB1.out B4.out) B7.out) hb8; clear hb8))
      go_ret
      exact ⟨rfl, B8.out⟩

set_option maxRecDepth 100000 in
set_option maxHeartbeats 1600000 in
theorem lifted (os : Os) (started : os.Started) (H : Type) (enc : TypeId × Value → H) :
    ReturnsInHanded {} Try.checked os 5 .any (Rows.walKeepsSpec.pre6 enc Try.prog Try.f5 Rows.walKeepsRow.domain false) (Rows.walKeepsSpec.post enc Try.prog Try.f5 false true false false) := by
  refine returnsInHanded_of_change_sized (C := Try.checked) Try.own started (by kernel_rfl) Try.func5
    (ChangeSpec.witness6 (enc := enc) (C := Try.checked) false ⟨#[], #[.int .i64 0, .slice none 0 0, .int .i64 0], []⟩ 8 (by kernel_rfl) (by kernel_rfl) (by kernel_rfl) (by kernel_rfl)) ?_
  intro W base args ds gs before hval0 hW _ hsz0 _
  have hsz : (DataW.weightsEach Try.prog (Try.f5.params.toList ++ Rows.walKeepsSpec.plain.varTypes Try.prog) (ds ++ gs)).all (· ≤ reachBytes) = true := hsz0
  have hval : ∀ (j : Nat) t v, Try.f5.params[j]? = some t → args[j]? = some v → Value.okWide Try.prog W .any base t v := hval0
  have hW' := hW
  obtain ⟨p, q, hA0, hV, rfl, hfz, hnd⟩ := hW
  have hA : DataW.TrodAll enc Try.prog W 0 (fun _ => true) true Try.f5.params.toList args.toList ds p := hA0
  rw [Try.params5] at hA hval hsz
  obtain ⟨v0, vs0, d0, ds0, p0, q0, hargs, rfl, rfl, h0, r0⟩ := trodAll_cons hA
  obtain ⟨v1, vs1, d1, ds1, p1, q1, rfl, rfl, rfl, h1, r1⟩ := trodAll_cons r0
  obtain ⟨v2, vs2, d2, ds2, p2, q2, rfl, rfl, rfl, h2, r2⟩ := trodAll_cons r1
  obtain ⟨rfl, rfl, rfl⟩ := trodAll_nil r2
  obtain rfl : args = #[v0, v1, v2] := by cases args; simp_all
  obtain ⟨rfl, rfl⟩ := trodVars_none hV
  clear hA0 hval0
  simp only [List.append_nil] at hW' hsz
  have hlt : ∀ x ∈ p0 ++ p1 ++ p2, x.block < W.heap.size := fun x hx => hW'.lt x (by simpa using hx)
  have hall : ∀ x ∈ DataW.weightsEach Try.prog [3, 22, 3] [d0, d1, d2], x ≤ reachBytes := fun x hx => of_decide_eq_true (List.all_eq_true.1 hsz x hx)
  obtain ⟨a0, rfl, rfl, rfl, w0⟩ := open_int Try.underlying3 (hval 0 3 v0 rfl rfl) h0
  have g1 : ∀ x ∈ d1.weights Try.prog 22, x ≤ reachBytes := fun x hx => hall x (DataW.weights_mem_each (j := 1) rfl rfl x hx)
  obtain ⟨u1, l1⟩ := bss_of_arg (hval 1 _ v1 rfl rfl) h1 g1
  obtain ⟨a2, rfl, rfl, rfl, w2⟩ := open_int Try.underlying3 (hval 2 3 v2 rfl rfl) h2
  refine (walk a0 u1 v1 a2 W w0 l1 w2).mono fun e W' ⟨he, bel⟩ => ?_
  subst he
  exact ⟨_, rfl, _, _, _, [], _, [], hW', trodAll_mk1 (shut_bool Try.underlying4 _), (trodAll_cons_mk (shut_int Try.underlying3 w0) (trodAll_cons_mk (Below.trod Try.laidOut (by kernel_rfl) (of_decide_eq_true (by kernel_rfl)) h1 bel (fun x hx => hlt x (by simp [hx]))) (trodAll_cons_mk (shut_int Try.underlying3 w2) trodAll_mk0))), rfl, bel.frame _, fun h => by cases h⟩

theorem over : Rows.walKeepsRow.holds Try.pinned (OpenSpec.ofChange Rows.walKeepsSpec) :=
  OpenClaim.holds_of_wide 5 Try.f5 rfl rfl rfl rfl rfl rfl rfl ⟨rfl, rfl, rfl, rfl, rfl⟩ rfl rfl rfl rfl rfl (by kernel_rfl) Try.func5 (by kernel_rfl)
    (of_decide_eq_true (by kernel_rfl)) (by unfold Func.isWrapper; first | (rw [if_pos (by decide +kernel)]; kernel_rfl) | (rw [if_neg (by decide +kernel)]; exact ⟨rfl, rfl⟩))
    (fun os started H enc _ => lifted os started H enc)

/-- THE STATEMENT. -/
theorem proved : Rows.WalKeepsSaid := over
#print axioms proved
end Go.Proofs.Ytmjjhapmpaadbab.walKeeps
