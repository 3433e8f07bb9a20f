/-
  WalCut holds for every number, all lists of octets and every place of the cut: of a log whose last segment is cut off anywhere a beginning is recovered: all records of the segments ahead, and of the last one those that lie whole ahead of the cut. No condition.
-/
import Derived.Test.YtmjjhapmpaadbabWlArg
import Derived.Test.YtmjjhapmpaadbabWlRcvM
namespace Go.Proofs.Ytmjjhapmpaadbab.walCut
open Go.ChangeShapes Go.WideShapes Go.ChangeAt Go.RowKit Go.Deep
open Se

theorem LayR.take {w : World} {a : Option Addr} {rs : List Rc} (h : LayR w a rs) (k : Nat) : LayR w a (rs.take k) := by
  intro i f hi
  rw [List.getElem?_take] at hi
  split at hi
  · exact h i f hi
  · cases hi
theorem cutN_step {rs : List Rc} {r : Rc} {k left : Nat} (hr : rs[k]? = some r) (hle : (frs (rs.take k)).length + (16 + r.2.length) ≤ left) (h : cutN rs left = k + cutN (rs.drop k) (left - (frs (rs.take k)).length)) :
    (frs (rs.take (k + 1))).length = (frs (rs.take k)).length + (16 + r.2.length) ∧ cutN rs left = (k + 1) + cutN (rs.drop (k + 1)) (left - (frs (rs.take (k + 1))).length) := by
  obtain ⟨h1, h2⟩ := List.getElem?_eq_some_iff.1 hr
  have e1 : rs.take (k + 1) = rs.take k ++ [r] := by rw [List.take_succ_eq_append_getElem h1, h2]
  have e2 : rs.drop k = r :: rs.drop (k + 1) := by rw [List.drop_eq_getElem_cons h1, h2]
  have e3 : (frs (rs.take (k + 1))).length = (frs (rs.take k)).length + (16 + r.2.length) := by rw [e1, frs_append, frs_one, List.length_append, rfr_length]
  refine ⟨e3, ?_⟩
  rw [h, e2, e3]
  simp only [cutN]
  rw [if_pos (by omega), Nat.sub_sub]
  omega
theorem cutN_end {rs : List Rc} {k left : Nat} (h : cutN rs left = k + cutN (rs.drop k) (left - (frs (rs.take k)).length)) (hk : k ≤ rs.length) (he : k = rs.length ∨ ∃ r, rs[k]? = some r ∧ left < (frs (rs.take k)).length + (16 + r.2.length)) : cutN rs left = k := by
  rcases he with rfl | ⟨r, hr, hl⟩
  · rw [h, List.drop_length]
    simp [cutN]
  · obtain ⟨h1, h2⟩ := List.getElem?_eq_some_iff.1 hr
    rw [h, List.drop_eq_getElem_cons h1, h2]
    simp only [cutN]
    by_cases hz : (frs (rs.take k)).length ≤ left
    · rw [if_neg (by omega)]; rfl
    · rw [if_neg (by omega)]; rfl

theorem Num.each : ∀ {rs : List Rc} {d : Int}, Num d rs → ∀ r ∈ rs, r.2.length ≤ 400
  | [], _, _, r, hr => by simp at hr
  | x :: rs, d, h, r, hr => by
    rcases List.mem_cons.1 hr with rfl | hr
    · exact h.2.1
    · exact Num.each h.2.2 r hr
/-- Slices in a row lie somewhere. -/
theorem lay_row {W : World} {B : Nat} {t : TypeId} {a : Option Addr} {m c : Nat} {ss : List (List UInt8)} {xs : List Value} (hr : W.ownsRow B t 1 (.slice a m c) ss.length xs)
    (hi : ∀ (j : Nat) (l : List UInt8), ss[j]? = some l → ∃ a' c', xs[j]? = some (Value.slice a' l.length c') ∧ Oct W a' c' l ∧ l.length ≤ 140737488351232) : LayS W a ss := by
  intro j l hj
  obtain ⟨a', c', h1, h2, h3⟩ := hi j l hj
  have hlt : j < ss.length := (List.getElem?_eq_some_iff.1 hj).1
  have hown := hr
  obtain ⟨l0, hc⟩ := hr
  rcases hc with ⟨h8, h9⟩ | ⟨g, cap, cur, h8, h9, h10⟩
  · omega
  · simp only [Value.slice.injEq] at h8
    obtain ⟨rfl, rfl, rfl⟩ := h8
    have e1 := hown.cells (g := g) rfl _ _ h1
    rw [add_plain] at e1
    exact ⟨g, 0, a', c', rfl, e1, h2, h3⟩
/-- What lies in a row, as values. -/
theorem row_vals {w : World} {b off : Nat} {ss : List (List UInt8)} (h : LayS w (some ⟨b, off, none⟩) ss) : ∃ vs : List Value, vs.length = ss.length ∧ (∀ (j : Nat) (u : Value), vs[j]? = some u → w.cell? ⟨b, off + j, none⟩ = some u) ∧ (∀ u ∈ vs, u.oneCell' = true)
    ∧ ∀ (j : Nat) (l : List UInt8), ss[j]? = some l → ∃ a' c', vs[j]? = some (Value.slice a' l.length c') ∧ Oct w a' c' l ∧ l.length ≤ 140737488351232 := by
  have each : ∀ i, i < ss.length → ∃ u : Value, w.cell? ⟨b, off + i, none⟩ = some u ∧ u.oneCell' = true ∧ ∃ a' c', u = .slice a' (ss[i]?.getD []).length c' ∧ Oct w a' c' (ss[i]?.getD []) ∧ (ss[i]?.getD []).length ≤ 140737488351232 := by
    intro i hi
    obtain ⟨b', off', a', c', e, h2, h3, h4⟩ := h i _ (List.getElem?_eq_getElem hi)
    simp only [Option.some.injEq, Addr.mk.injEq, and_true] at e
    obtain ⟨rfl, rfl⟩ := e
    exact ⟨_, h2, rfl, a', c', by rw [List.getElem?_eq_getElem hi]; rfl, by rw [List.getElem?_eq_getElem hi]; exact h3, by rw [List.getElem?_eq_getElem hi]; exact h4⟩
  obtain ⟨vs, hl, hv⟩ := list_of each
  refine ⟨vs, hl, fun j u hj => (hv j u hj).1, ?_, ?_⟩
  · intro u hu
    obtain ⟨j, hj, e⟩ := List.mem_iff_getElem.1 hu
    exact (hv j u (by rw [List.getElem?_eq_getElem hj, e])).2.1
  · intro j l hj
    have hjl := (List.getElem?_eq_some_iff.1 hj).1
    obtain ⟨h1, h2, a', c', h3, h4, h5⟩ := hv j vs[j] (List.getElem?_eq_getElem (by omega))
    rw [hj] at h3 h4 h5
    exact ⟨a', c', by rw [List.getElem?_eq_getElem (by omega), h3]; rfl, h4, h5⟩

set_option maxRecDepth 100000 in
set_option maxHeartbeats 6400000 in
theorem walk (n : Int) (l : List (List UInt8)) (x : Value) (t0 : Int) (w : World) (_hn : (Lit.int .i64 n).wf = true) (hl : SectorsIs w x l) (ht : (Lit.int .i64 t0).wf = true) :
    Calls Try.prog 6 #[.int .i64 n, x, .int .i64 t0] w fun e w' => e = .returned (.bool true) ∧ Below w.heap.size w w' := by
  obtain ⟨a, c, rfl, hl, hll⟩ := hl
  have htb := bounds_i64 ht
  have HF : Hid (Calls Try.prog 28 #[.int .i64 n, .slice a l.length c] w (FilPost w)) := filled_any n l a c w hl (by omega)
  clear hl
  go_enter Try.func6, Try.ntmps6
  go_wp2_with fail
  refine HF.out.mono ?_
  rintro e w1 ⟨f, nx, gs, ss, xa, xc, wa, wc0, rfl, LG, h30, hf, hnx, hxs, hwr, c1, c2, c3, c4, hpl, hb1⟩
  have hsl : ss.length = gs.length := by rw [LG.segs, List.length_map]
  have hfirst : nx - (gs.flatten.length : Int) = f := by have := LG.next; omega
  have hfl := LG.lo
  have hfw : gs.flatten.length ≤ 30 := by have := LG.next; omega
  have HXS : Hid (LayS w1 xa ss) := hxs
  have HWR : Hid (LayR w1 wa gs.flatten) := hwr
  have HB1 : Hid (Below w.heap.size w w1) := hb1
  clear hxs hwr hb1 HF
  have X1 : Hid ((w1.alloc (.cells #[.slice xa ss.length xc, .int .i64 nx] 26)).heap[w1.heap.size]? = some (.cells #[.slice xa ss.length xc, .int .i64 nx] 26 (0, 0))) := heap_alloc_new _ _
  have B1 : Hid (Below w1.heap.size w1 (w1.alloc (.cells #[.slice xa ss.length xc, .int .i64 nx] 26))) := below_one _ _
  rcases List.eq_nil_or_concat gs with rfl | ⟨is, g, hgs⟩
  · have hs0 : ss.length = 0 := by simpa using hsl
    have HS0 : Hid (ss.length = 0) := hs0
    rw [hs0] at X1 B1 ⊢
    simp only [List.flatten_nil, List.length_nil]
    clear hs0 hsl LG HWR HXS
    go_wp2_with fail
    refine (alive_any _).mono ?_
    rintro e w2 ⟨rfl, hb2⟩
    have X2 : Hid (w2.heap[w1.heap.size]? = some (.cells #[.slice xa 0 xc, .int .i64 nx] 26 (0, 0))) := (hb2.block _ (lt_of_block X1.out)).trans X1.out
    have B2 : Hid (Below w1.heap.size w1 w2) := nxt B1.out hb2
    obtain ⟨x0, -⟩ := cell_of X2.out 0
    simp at x0
    clear hb2
    go_wp2_with fail
    refine (alive_any _).mono ?_
    rintro e w3 ⟨rfl, hb3⟩
    have B3 : Hid (Below w.heap.size w w3) := nxt (nxt HB1.out B2.out) hb3
    clear hb3
    go_wp2_with fail
    go_ret
    exact ⟨rfl, B3.out⟩
  rw [List.concat_eq_append] at hgs
  subst hgs
  have hss : ss = is.map frs ++ [frs g] := by rw [LG.segs]; simp
  have hgl := LG.len g (by simp)
  have hg16 := frs_pos (LG.ne g (by simp))
  have hIL : ss.length = is.length + 1 := by rw [hss]; simp
  have hilen : is.length ≤ 29 := by simp at h30; omega
  have hwant : (is ++ [g]).flatten = is.flatten ++ g := by simp
  obtain ⟨bx, offx, la, lc, rfl, qL, qO, qB⟩ := HXS.out is.length (frs g) (by rw [hss]; simp)
  have HLO : Hid (Oct w1 la lc (frs g)) := qO
  have hlc : (frs g).length ≤ lc ∧ lc ≤ 9223372036854775807 := ⟨qO.2.1, qO.2.2.1⟩
  obtain ⟨hlc1, hlc2⟩ := hlc
  have HCUT : Hid (∀ nn, ∃ gs', rcv (is.map frs ++ [(frs g).take nn]) f = (gs'.map frs, f + gs'.flatten.length) ∧ Lg f gs' (gs'.map frs) (f + gs'.flatten.length) ∧ gs'.flatten = (is ++ [g]).flatten.take (cutN (is ++ [g]).flatten ((frs is.flatten).length + nn))) := fun nn => LG.cut nn
  have HEA : Hid (∀ r ∈ (is ++ [g]).flatten, r.2.length ≤ 400) := Num.each LG.num
  have HFW : Hid ((frs (is ++ [g]).flatten).length = (frs is.flatten).length + (frs g).length) := by show _ = _; rw [hwant, frs_append, List.length_append]
  have HSI : Hid (LayS w1 (some ⟨bx, offx, none⟩) (is.map frs)) := by
    intro i l' hi
    have hi2 := (List.getElem?_eq_some_iff.1 hi).1
    exact HXS.out i l' (by rw [hss, List.getElem?_append_left hi2]; exact hi)
  clear LG hss hwant qO qB hsl h30 HXS
  generalize (is ++ [g]).flatten = want at *
  obtain ⟨isl, hisl⟩ : ∃ isl, is.length = isl := ⟨_, rfl⟩
  have HISL : Hid ((is.map frs).length = isl) := by show _ = _; rw [List.length_map]; exact hisl
  rw [hisl] at hIL hilen qL
  obtain ⟨LL, hLL⟩ : ∃ LL, (frs g).length = LL := ⟨_, rfl⟩
  have HLL : Hid ((frs g).length = LL) := hLL
  rw [hLL] at hgl hg16 hlc1 qL HFW
  clear hisl hLL
  generalize (frs is.flatten).length = IS at *
  generalize is.map frs = ism at *
  generalize frs g = lst at *
  obtain ⟨wl, hwl⟩ : ∃ wl, want.length = wl := ⟨_, rfl⟩
  have HWL : Hid (want.length = wl) := hwl
  rw [hwl] at hfirst hfw c3 ⊢
  clear hwl
  obtain ⟨s1, hs1⟩ : ∃ s1, ss.length = s1 := ⟨_, rfl⟩
  rw [hs1] at hIL c1 X1 B1 ⊢
  clear hs1
  subst hIL
  obtain ⟨AT, hAT, hATL⟩ : ∃ AT : Nat, (wrap64 (t0.tmod (LL : Int) + (LL : Int))).tmod (LL : Int) = (AT : Int) ∧ AT < LL := by
    have hpos : (0 : Int) < (LL : Int) := by omega
    have h1 := Int.tmod_lt_of_pos t0 hpos
    have h2 := Int.lt_tmod_of_pos t0 hpos
    have h4 : wrap64 (t0.tmod (LL : Int) + LL) = t0.tmod (LL : Int) + LL := wrap_id (by omega) (by omega)
    have h3 : (t0.tmod (LL : Int) + LL).tmod (LL : Int) = (t0.tmod (LL : Int) + LL) % (LL : Int) := Int.tmod_eq_emod_of_nonneg (by omega)
    have h5 := Int.emod_lt_of_pos (t0.tmod (LL : Int) + LL) hpos
    have h6 := Int.emod_nonneg (t0.tmod (LL : Int) + LL) (show (LL : Int) ≠ 0 by omega)
    rw [h4, h3]
    exact ⟨((t0.tmod (LL : Int) + LL) % (LL : Int)).toNat, by omega, by omega⟩
  have HAT : Hid ((wrap64 (t0.tmod (LL : Int) + (LL : Int))).tmod (LL : Int) = (AT : Int)) := hAT
  clear hAT
  have hb0 : (((isl + 1 : Nat) : Int) == 0) = false := by simp; omega
  have hLb : ((LL : Int) == 0) = false := by simp; omega
  have hLn : ¬ (LL : Int) = 0 := by omega
  have e1 : (((isl + 1 : Nat) : Int) - 1).toNat = isl := by omega
  go_wp2_with fail
  refine (alive_any _).mono ?_
  rintro e w2 ⟨rfl, hb2⟩
  have X2 : Hid (w2.heap[w1.heap.size]? = some (.cells #[.slice (some ⟨bx, offx, none⟩) (isl + 1) xc, .int .i64 nx] 26 (0, 0))) := (hb2.block _ (lt_of_block X1.out)).trans X1.out
  have B2 : Hid (Below w1.heap.size w1 w2) := nxt B1.out hb2
  obtain ⟨x0, -⟩ := cell_of X2.out 0
  obtain ⟨x1, -⟩ := cell_of X2.out 1
  simp at x0 x1
  have qL2 := keepc B2.out _ _ qL
  have W2 : Hid (LayR w2 wa want) := HWR.out.below B2.out
  clear hb2 X1 B1 HWR qL
  go_wp2_with fail
  rw [HAT.out]
  go_loopw [12, 13] (fun v i wr => ∃ m : Nat, m ≤ wl ∧ i = .int .i64 m ∧ v = .int .i64 (((frs (want.take m)).length : Nat) : Int) ∧ Hid ((frs (want.take m)).length ≤ m * 416) ∧ Hid (wr = w2)) (fun _ i _ => wl - (intOf i).toNat)
  case atStart => exact ⟨0, by omega, rfl, by simp [frs], by show _ ≤ _; simp [frs], rfl⟩
  case round =>
    obtain ⟨m, hm, rfl, rfl, HSB, HW⟩ := hrel
    obtain rfl := HW.out
    by_cases hlt : m < wl
    · have hlt1 : (m : Int) < (wl : Int) := by omega
      obtain ⟨r, hr⟩ : ∃ r, want[m]? = some r := ⟨_, List.getElem?_eq_getElem (by rw [HWL.out]; exact hlt)⟩
      obtain ⟨gw, ow, a', c', rfl, -, p1, -⟩ := W2.out m r hr
      have hrl := HEA.out r (List.mem_of_getElem? hr)
      have HS1 : Hid ((frs (want.take (m + 1))).length = (frs (want.take m)).length + (16 + r.2.length)) := by
        show _ = _
        obtain ⟨h1, h2⟩ := List.getElem?_eq_some_iff.1 hr
        rw [List.take_succ_eq_append_getElem h1, h2, frs_append, frs_one, List.length_append, rfr_length]
      have hsb := HSB.out
      clear hr HSB
      generalize (frs (want.take m)).length = S at *
      go_wp2_with fail
      refine ⟨⟨m + 1, by omega, by go_num, ?_, ?_, trivial⟩, by simp [intOf]; omega⟩
      · rw [HS1.out]
        congr 1
        push_cast
        omega
      · show _ ≤ _
        rw [HS1.out]
        omega
    · have hme : m = wl := by omega
      subst hme
      have hwt : want.take m = want := List.take_of_length_le (by rw [HWL.out]; exact Nat.le_refl _)
      have hSB := HSB.out
      rw [hwt] at hSB ⊢
      rw [HFW.out] at hSB ⊢
      have hleft : (((IS + LL : Nat) : Int) - (LL : Int)) + (AT : Int) = ((IS + AT : Nat) : Int) := by omega
      have HLF : Hid ((((IS + LL : Nat) : Int) - (LL : Int)) + (AT : Int) = ((IS + AT : Nat) : Int)) := hleft
      clear hwt HSB hleft
      obtain ⟨i0, hi0, hz0, hz1, hz2⟩ := info_parts Try.infoBs
      obtain ⟨vs, hvl, hvc, hvo, hvi⟩ := row_vals HSI.out
      have HVL : Hid (vs.length = isl) := hvl.trans HISL.out
      have HVC : Hid (∀ (j : Nat) (u : Value), vs[j]? = some u → wr.cell? ⟨bx, offx + j, none⟩ = some u) := fun j u h => keepc B2.out _ _ (hvc j u h)
      have HVO : Hid (∀ u ∈ vs, u.oneCell' = true) := hvo
      have HVI : Hid (∀ (j : Nat) (l : List UInt8), ism[j]? = some l → ∃ a' c', vs[j]? = some (Value.slice a' l.length c') ∧ Oct wr a' c' l ∧ l.length ≤ 140737488351232) := fun j l h => by
        obtain ⟨a', c', h1, h2, h3⟩ := hvi j l h
        exact ⟨a', c', h1, h2.below B2.out, h3⟩
      have BQ : Hid (Below w1.heap.size w1 wr) := B2.out
      clear hvl hvc hvo hvi
      go_wp2_with fail
      obtain ⟨Wq, hWq⟩ : ∃ Wq, Wq = wr := ⟨_, rfl⟩
      subst hWq
      go_loopw [15, 16] (fun v15 v16 wr => ∃ k : Nat, k ≤ m ∧ v15 = .int .i64 k ∧ v16 = .int .i64 (((frs (want.take k)).length : Nat) : Int) ∧ Hid ((frs (want.take k)).length ≤ k * 416) ∧ Hid (cutN want (IS + AT) = k + cutN (want.drop k) (IS + AT - (frs (want.take k)).length)) ∧ Hid (wr = Wq)) (fun v15 _ _ => m - (intOf v15).toNat)
      case atStart => exact ⟨0, by omega, rfl, by simp [frs], by show _ ≤ _; simp [frs], by show _ = _; simp [frs], rfl⟩
      case round =>
        obtain ⟨k, hk, rfl, rfl, HSB, HCN, HW2⟩ := hrel
        have hWq2 : Wq = wr := HW2.out.symm
        subst hWq2
        by_cases hlt : k < m
        · have hlt1 : (k : Int) < (m : Int) := by omega
          obtain ⟨r, hr⟩ : ∃ r, want[k]? = some r := ⟨_, List.getElem?_eq_getElem (by rw [HWL.out]; exact hlt)⟩
          obtain ⟨gw, ow, a', c', hwa, -, p1, -⟩ := W2.out k r hr
          subst hwa
          have hrl := HEA.out r (List.mem_of_getElem? hr)
          have hsb := HSB.out
          by_cases hfit : (frs (want.take k)).length + (16 + r.2.length) ≤ IS + AT
          · obtain ⟨t1, t2⟩ := cutN_step hr hfit HCN.out
            have HT1 : Hid ((frs (want.take (k + 1))).length = (frs (want.take k)).length + (16 + r.2.length)) := t1
            have HT2 : Hid (cutN want (IS + AT) = (k + 1) + cutN (want.drop (k + 1)) (IS + AT - (frs (want.take (k + 1))).length)) := t2
            clear t1 t2 hr HCN HSB
            generalize (frs (want.take k)).length = S at *
            have hfb : (S : Int) + (r.2.length : Int) + 16 ≤ (IS : Int) + (AT : Int) := by omega
            go_wp2_with fail
            refine ⟨⟨k + 1, by omega, by go_num, ?_, ?_, HT2.out, trivial⟩, by simp [intOf]; omega⟩
            · rw [HT1.out]
              congr 1
              push_cast
              omega
            · show _ ≤ _
              rw [HT1.out]
              omega
          · have HKE : Hid (cutN want (IS + AT) = k) := cutN_end HCN.out (by rw [HWL.out]; exact hk) (Or.inr ⟨r, hr, by omega⟩)
            clear hr HCN HSB
            generalize (frs (want.take k)).length = S at *
            have hfb : ¬ (S : Int) + (r.2.length : Int) + 16 ≤ (IS : Int) + (AT : Int) := by omega
            have HB0 : Hid (Below Wq.heap.size Wq (Wq.alloc (.cells #[] 25))) := below_one _ _
            have HR0 : Hid ((Wq.alloc (.cells #[] 25)).ownsRow Wq.heap.size 25 1 (.slice (some ⟨Wq.heap.size, 0, none⟩) 0 0) 0 []) := ⟨rfl, Or.inr ⟨Wq.heap.size, 0, #[], rfl, Nat.le_refl _, heap_alloc_new _ _, Nat.le_refl _, by unfold maxLen; omega, rfl, rfl⟩⟩
            have x0a : ∀ o, (Wq.alloc o).cell? ⟨w1.heap.size, 0, none⟩ = _ := fun o => keepc (below_one Wq o) _ _ x0
            have hkw : k ≤ wc0 := by omega
            go_wp2_with (at_builtin; refine wpList_append_apart _ rfl _ _ 22 rfl Wq.heap.size 25 i0 _ 1 24 Try.underlying22 hi0 hz0 hz1 hz2 rfl (by decide) (.slice (some ⟨Wq.heap.size, 0, none⟩) 0 0) 0 [] rfl HR0.out (some ⟨bx, offx, none⟩) isl xc vs rfl (by simp) (by rw [HVL.out]; omega) ?Pf1 HVO.out ?Pf3 ?Pf4 ?Pf5 ?_)
            case Pf1 =>
              intro j u hj
              exact keepc HB0.out _ _ (HVC.out j u hj)
            case Pf3 => unfold maxLen; omega
            case Pf4 => omega
            intro v6 w6 hrow6 hgr6 _
            have B6 : Hid (Below Wq.heap.size Wq w6) := HB0.out.grown hgr6 (by simp) (fun j e => by simp [Value.ownBlock] at e; omega)
            obtain ⟨a6, c6, rfl⟩ := slice_of_own hrow6
            have HR6 : Hid (w6.ownsRow Wq.heap.size 25 1 (.slice a6 isl c6) isl vs) := hrow6
            clear hrow6 hgr6
            go_wp2_with (at_builtin; refine wpList_append_apart _ rfl _ _ 22 rfl Wq.heap.size 25 i0 _ 1 24 Try.underlying22 hi0 hz0 hz1 hz2 rfl (by decide) (.slice a6 isl c6) isl vs rfl ?Pg0 (some ⟨w6.heap.size, 0, none⟩) 1 1 [.slice la AT lc] rfl (by simp) rfl ?Pg1 ?Pg2 ?Pg3 ?Pg4 ?Pg5 ?_)
            case Pg0 => exact ownsRow_same HR6.out fun g hg => (below_one w6 _).block g (HR6.out.lt g hg).2
            case Pg1 =>
              intro ad e j u hj
              cases e
              exact newCells w6 _ _ j u (by rw [← Array.getElem?_toList]; exact hj)
            case Pg2 => simp [Value.oneCell']
            case Pg3 => unfold maxLen; omega
            case Pg4 => omega
            case Pg5 => have := B6.out.size; simp; omega
            intro v7 w7 hrow7 hgr7 _
            have B7 : Hid (Below Wq.heap.size Wq w7) := (nxt B6.out (below_one w6 (.cells #[.slice la AT lc] 25))).grown hgr7 (by have := B6.out.size; simp; omega) (fun j e => (HR6.out.lt j e).1)
            obtain ⟨a7, c7, rfl⟩ := slice_of_own hrow7
            have L7 : Hid (LayS w7 a7 (ism ++ [lst.take AT])) := by
              refine lay_row (m := isl + 1) (xs := vs ++ [.slice la AT lc]) (by rw [List.length_append, HISL.out]; exact hrow7) ?_
              intro j' l' hj'
              have hvl := HVL.out
              have hil := HISL.out
              by_cases hlt' : j' < isl
              · rw [List.getElem?_append_left (by omega)] at hj'
                obtain ⟨a9, c9, q1, q2, q3⟩ := HVI.out j' l' hj'
                exact ⟨a9, c9, by rw [List.getElem?_append_left (by omega)]; exact q1, q2.below B7.out, q3⟩
              · rw [List.getElem?_append_right (by omega)] at hj'
                have hj0 : j' - ism.length = 0 := by
                  have := (List.getElem?_eq_some_iff.1 hj').1
                  simp at this
                  omega
                rw [hj0] at hj'
                simp only [List.getElem?_cons_zero, Option.some.injEq] at hj'
                subst hj'
                have htk : (lst.take AT).length = AT := by rw [List.length_take, HLL.out]; omega
                refine ⟨la, lc, ?_, ?_, by rw [htk]; omega⟩
                · rw [List.getElem?_append_right (by omega), show j' - vs.length = 0 by omega, htk]
                  rfl
                · obtain ⟨o1, o2, o3, o4, o5, o6⟩ := HLO.out.below (nxt BQ.out B7.out)
                  refine ⟨fun i o hi => ?_, by omega, o3, by omega, o5, o6⟩
                  rw [List.getElem?_take] at hi
                  split at hi
                  · exact o1 i o hi
                  · cases hi
            clear hrow7 hgr7 HR0
            have HRV : Hid (Calls Try.prog 24 #[.slice a7 (isl + 1) c7, .int .i64 f] w7 (RcPost w7 (rcv (ism ++ [lst.take AT]) f))) := by
              have := recover_any (ism ++ [lst.take AT]) f a7 c7 w7 L7.out (by rw [List.length_append, HISL.out]; simp; omega) (by omega) (by omega)
              rw [List.length_append, HISL.out] at this
              exact this
            obtain ⟨gs', hrcv, LG', hgf⟩ := HCUT.out AT
            rw [hrcv] at HRV
            rw [HKE.out] at hgf
            have hrec := LG'.recs
            have hlo := LG'.lo
            have hhi := LG'.hi
            have hfew : (gs'.map frs).length ≤ 64 := by rw [List.length_map]; exact LG'.few
            generalize f + (gs'.flatten.length : Int) = ny at *
            rw [hgf] at hrec
            generalize gs'.map frs = ys at *
            have hny : 1 ≤ ny := by
              have := LG'.next
              omega
            clear LG' hrcv hgf
            have HRE : Hid (∀ W ya yc, LayS W ya ys → Calls Try.prog 13 #[.agg #[.slice ya ys.length yc, .int .i64 ny]] W fun e w' => ∃ ra rc, e = .returned (.tuple #[.slice ra k rc, .int .i64 0]) ∧ LayR w' ra (want.take k) ∧ Below W.heap.size W w') := by
              intro W ya yc h
              have := records_any ys ny ya yc W h (by omega) (by omega) (by omega)
              rw [hrec] at this
              refine Calls.mono this ?_
              rintro e w' ⟨v, rfl, ho, hb'⟩
              obtain ⟨ra, rc, rfl⟩ := ho.shape
              rw [List.length_take, HWL.out, Nat.min_eq_left hk] at ho ⊢
              exact ⟨ra, rc, rfl, ho.lay, hb'⟩
            have HSM : Hid (∀ W a1 c1 a2 c2, LayR W a1 (want.take k) → LayR W a2 (want.take k) → Calls Try.prog 19 #[.slice a1 k c1, .slice a2 k c2] W fun e w' => e = .returned (.bool true) ∧ Below W.heap.size W w') := by
              intro W a1 c1 a2 c2 h1 h2
              have := same_any (want.take k) (want.take k) a1 a2 c1 c2 W h1 h2 (by rw [List.length_take, HWL.out]; omega)
              rw [List.length_take, HWL.out, Nat.min_eq_left hk] at this
              simpa using this
            clear hrec
            go_wp2_with fail
            refine HRV.out.mono ?_
            rintro e w8 ⟨ya, yc, rfl, hy8, hb8⟩
            have Y8 : Hid ((w8.alloc (.cells #[.slice ya ys.length yc, .int .i64 ny] 26)).heap[w8.heap.size]? = some (.cells #[.slice ya ys.length yc, .int .i64 ny] 26 (0, 0))) := heap_alloc_new _ _
            have B8 : Hid (Below Wq.heap.size Wq (w8.alloc (.cells #[.slice ya ys.length yc, .int .i64 ny] 26))) := nxt (nxt B7.out hb8) (below_one _ _)
            have L8 : Hid (LayS (w8.alloc (.cells #[.slice ya ys.length yc, .int .i64 ny] 26)) ya ys) := hy8.lay.below (below_one _ _)
            clear hy8 hb8 HRV L7
            go_wp2_with fail
            refine (HRE.out _ ya yc L8.out).mono ?_
            rintro e w9 ⟨ra, rc, rfl, hr9, hb9⟩
            have R9 : Hid (LayR w9 ra (want.take k)) := hr9
            have B9 : Hid (Below Wq.heap.size Wq w9) := nxt B8.out hb9
            have W9 : Hid (LayR w9 _ (want.take k)) := LayR.take (W2.out.below B9.out) k
            clear hr9 hb9 B8 L8 Y8
            go_wp2_with (first
              | (go_at_call 18; refine (num_any _ _).mono ?_; rintro e w10 ⟨rfl, hw10⟩; subst w10)
              | (go_at_call 19; refine (HSM.out _ ra rc _ wc0 R9.out W9.out).mono ?_; rintro e w10 ⟨rfl, hb10⟩; have B10 : Hid (Below w.heap.size w w10) := nxt (nxt (nxt HB1.out BQ.out) B9.out) hb10; clear hb10))
            go_ret
            exact ⟨rfl, B10.out⟩
        · have hke : k = m := by omega
          have HKE : Hid (cutN want (IS + AT) = k) := cutN_end HCN.out (by rw [HWL.out]; exact hk) (Or.inl (by rw [HWL.out]; exact hke))
          have hnk : ¬ (k : Int) < (m : Int) := by omega
          have hsb := HSB.out
          clear HCN HSB hke
          generalize (frs (want.take k)).length = S at *
          have HB0 : Hid (Below Wq.heap.size Wq (Wq.alloc (.cells #[] 25))) := below_one _ _
          have HR0 : Hid ((Wq.alloc (.cells #[] 25)).ownsRow Wq.heap.size 25 1 (.slice (some ⟨Wq.heap.size, 0, none⟩) 0 0) 0 []) := ⟨rfl, Or.inr ⟨Wq.heap.size, 0, #[], rfl, Nat.le_refl _, heap_alloc_new _ _, Nat.le_refl _, by unfold maxLen; omega, rfl, rfl⟩⟩
          have x0a : ∀ o, (Wq.alloc o).cell? ⟨w1.heap.size, 0, none⟩ = _ := fun o => keepc (below_one Wq o) _ _ x0
          have hkw : k ≤ wc0 := by omega
          go_wp2_with (at_builtin; refine wpList_append_apart _ rfl _ _ 22 rfl Wq.heap.size 25 i0 _ 1 24 Try.underlying22 hi0 hz0 hz1 hz2 rfl (by decide) (.slice (some ⟨Wq.heap.size, 0, none⟩) 0 0) 0 [] rfl HR0.out (some ⟨bx, offx, none⟩) isl xc vs rfl (by simp) (by rw [HVL.out]; omega) ?Qf1 HVO.out ?Qf3 ?Qf4 ?Qf5 ?_)
          case Qf1 =>
            intro j u hj
            exact keepc HB0.out _ _ (HVC.out j u hj)
          case Qf3 => unfold maxLen; omega
          case Qf4 => omega
          intro v6 w6 hrow6 hgr6 _
          have B6 : Hid (Below Wq.heap.size Wq w6) := HB0.out.grown hgr6 (by simp) (fun j e => by simp [Value.ownBlock] at e; omega)
          obtain ⟨a6, c6, rfl⟩ := slice_of_own hrow6
          have HR6 : Hid (w6.ownsRow Wq.heap.size 25 1 (.slice a6 isl c6) isl vs) := hrow6
          clear hrow6 hgr6
          go_wp2_with (at_builtin; refine wpList_append_apart _ rfl _ _ 22 rfl Wq.heap.size 25 i0 _ 1 24 Try.underlying22 hi0 hz0 hz1 hz2 rfl (by decide) (.slice a6 isl c6) isl vs rfl ?Qg0 (some ⟨w6.heap.size, 0, none⟩) 1 1 [.slice la AT lc] rfl (by simp) rfl ?Qg1 ?Qg2 ?Qg3 ?Qg4 ?Qg5 ?_)
          case Qg0 => exact ownsRow_same HR6.out fun g hg => (below_one w6 _).block g (HR6.out.lt g hg).2
          case Qg1 =>
            intro ad e j u hj
            cases e
            exact newCells w6 _ _ j u (by rw [← Array.getElem?_toList]; exact hj)
          case Qg2 => simp [Value.oneCell']
          case Qg3 => unfold maxLen; omega
          case Qg4 => omega
          case Qg5 => have := B6.out.size; simp; omega
          intro v7 w7 hrow7 hgr7 _
          have B7 : Hid (Below Wq.heap.size Wq w7) := (nxt B6.out (below_one w6 (.cells #[.slice la AT lc] 25))).grown hgr7 (by have := B6.out.size; simp; omega) (fun j e => (HR6.out.lt j e).1)
          obtain ⟨a7, c7, rfl⟩ := slice_of_own hrow7
          have L7 : Hid (LayS w7 a7 (ism ++ [lst.take AT])) := by
            refine lay_row (m := isl + 1) (xs := vs ++ [.slice la AT lc]) (by rw [List.length_append, HISL.out]; exact hrow7) ?_
            intro j' l' hj'
            have hvl := HVL.out
            have hil := HISL.out
            by_cases hlt' : j' < isl
            · rw [List.getElem?_append_left (by omega)] at hj'
              obtain ⟨a9, c9, q1, q2, q3⟩ := HVI.out j' l' hj'
              exact ⟨a9, c9, by rw [List.getElem?_append_left (by omega)]; exact q1, q2.below B7.out, q3⟩
            · rw [List.getElem?_append_right (by omega)] at hj'
              have hj0 : j' - ism.length = 0 := by
                have := (List.getElem?_eq_some_iff.1 hj').1
                simp at this
                omega
              rw [hj0] at hj'
              simp only [List.getElem?_cons_zero, Option.some.injEq] at hj'
              subst hj'
              have htk : (lst.take AT).length = AT := by rw [List.length_take, HLL.out]; omega
              refine ⟨la, lc, ?_, ?_, by rw [htk]; omega⟩
              · rw [List.getElem?_append_right (by omega), show j' - vs.length = 0 by omega, htk]
                rfl
              · obtain ⟨o1, o2, o3, o4, o5, o6⟩ := HLO.out.below (nxt BQ.out B7.out)
                refine ⟨fun i o hi => ?_, by omega, o3, by omega, o5, o6⟩
                rw [List.getElem?_take] at hi
                split at hi
                · exact o1 i o hi
                · cases hi
          clear hrow7 hgr7 HR0
          have HRV : Hid (Calls Try.prog 24 #[.slice a7 (isl + 1) c7, .int .i64 f] w7 (RcPost w7 (rcv (ism ++ [lst.take AT]) f))) := by
            have := recover_any (ism ++ [lst.take AT]) f a7 c7 w7 L7.out (by rw [List.length_append, HISL.out]; simp; omega) (by omega) (by omega)
            rw [List.length_append, HISL.out] at this
            exact this
          obtain ⟨gs', hrcv, LG', hgf⟩ := HCUT.out AT
          rw [hrcv] at HRV
          rw [HKE.out] at hgf
          have hrec := LG'.recs
          have hlo := LG'.lo
          have hhi := LG'.hi
          have hfew : (gs'.map frs).length ≤ 64 := by rw [List.length_map]; exact LG'.few
          generalize f + (gs'.flatten.length : Int) = ny at *
          rw [hgf] at hrec
          generalize gs'.map frs = ys at *
          have hny : 1 ≤ ny := by
            have := LG'.next
            omega
          clear LG' hrcv hgf
          have HRE : Hid (∀ W ya yc, LayS W ya ys → Calls Try.prog 13 #[.agg #[.slice ya ys.length yc, .int .i64 ny]] W fun e w' => ∃ ra rc, e = .returned (.tuple #[.slice ra k rc, .int .i64 0]) ∧ LayR w' ra (want.take k) ∧ Below W.heap.size W w') := by
            intro W ya yc h
            have := records_any ys ny ya yc W h (by omega) (by omega) (by omega)
            rw [hrec] at this
            refine Calls.mono this ?_
            rintro e w' ⟨v, rfl, ho, hb'⟩
            obtain ⟨ra, rc, rfl⟩ := ho.shape
            rw [List.length_take, HWL.out, Nat.min_eq_left hk] at ho ⊢
            exact ⟨ra, rc, rfl, ho.lay, hb'⟩
          have HSM : Hid (∀ W a1 c1 a2 c2, LayR W a1 (want.take k) → LayR W a2 (want.take k) → Calls Try.prog 19 #[.slice a1 k c1, .slice a2 k c2] W fun e w' => e = .returned (.bool true) ∧ Below W.heap.size W w') := by
            intro W a1 c1 a2 c2 h1 h2
            have := same_any (want.take k) (want.take k) a1 a2 c1 c2 W h1 h2 (by rw [List.length_take, HWL.out]; omega)
            rw [List.length_take, HWL.out, Nat.min_eq_left hk] at this
            simpa using this
          clear hrec
          go_wp2_with fail
          refine HRV.out.mono ?_
          rintro e w8 ⟨ya, yc, rfl, hy8, hb8⟩
          have Y8 : Hid ((w8.alloc (.cells #[.slice ya ys.length yc, .int .i64 ny] 26)).heap[w8.heap.size]? = some (.cells #[.slice ya ys.length yc, .int .i64 ny] 26 (0, 0))) := heap_alloc_new _ _
          have B8 : Hid (Below Wq.heap.size Wq (w8.alloc (.cells #[.slice ya ys.length yc, .int .i64 ny] 26))) := nxt (nxt B7.out hb8) (below_one _ _)
          have L8 : Hid (LayS (w8.alloc (.cells #[.slice ya ys.length yc, .int .i64 ny] 26)) ya ys) := hy8.lay.below (below_one _ _)
          clear hy8 hb8 HRV L7
          go_wp2_with fail
          refine (HRE.out _ ya yc L8.out).mono ?_
          rintro e w9 ⟨ra, rc, rfl, hr9, hb9⟩
          have R9 : Hid (LayR w9 ra (want.take k)) := hr9
          have B9 : Hid (Below Wq.heap.size Wq w9) := nxt B8.out hb9
          have W9 : Hid (LayR w9 _ (want.take k)) := LayR.take (W2.out.below B9.out) k
          clear hr9 hb9 B8 L8 Y8
          go_wp2_with (first
            | (go_at_call 18; refine (num_any _ _).mono ?_; rintro e w10 ⟨rfl, hw10⟩; subst w10)
            | (go_at_call 19; refine (HSM.out _ ra rc _ wc0 R9.out W9.out).mono ?_; rintro e w10 ⟨rfl, hb10⟩; have B10 : Hid (Below w.heap.size w w10) := nxt (nxt (nxt HB1.out BQ.out) B9.out) hb10; clear hb10))
          go_ret
          exact ⟨rfl, B10.out⟩

set_option maxRecDepth 100000 in
set_option maxHeartbeats 1600000 in
theorem lifted (os : Os) (started : os.Started) (H : Type) (enc : TypeId × Value → H) :
    ReturnsInHanded {} Try.checked os 6 .any (Rows.walCutSpec.pre6 enc Try.prog Try.f6 Rows.walCutRow.domain false) (Rows.walCutSpec.post enc Try.prog Try.f6 false true false false) := by
  refine returnsInHanded_of_change_sized (C := Try.checked) Try.own started (by kernel_rfl) Try.func6
    (ChangeSpec.witness6 (enc := enc) (C := Try.checked) false ⟨#[], #[.int .i64 0, .slice none 0 0, .int .i64 0], []⟩ 8 (by kernel_rfl) (by kernel_rfl) (by kernel_rfl) (by kernel_rfl)) ?_
  intro W base args ds gs before hval0 hW _ hsz0 _
  have hsz : (DataW.weightsEach Try.prog (Try.f6.params.toList ++ Rows.walCutSpec.plain.varTypes Try.prog) (ds ++ gs)).all (· ≤ reachBytes) = true := hsz0
  have hval : ∀ (j : Nat) t v, Try.f6.params[j]? = some t → args[j]? = some v → Value.okWide Try.prog W .any base t v := hval0
  have hW' := hW
  obtain ⟨p, q, hA0, hV, rfl, hfz, hnd⟩ := hW
  have hA : DataW.TrodAll enc Try.prog W 0 (fun _ => true) true Try.f6.params.toList args.toList ds p := hA0
  rw [Try.params6] at hA hval hsz
  obtain ⟨v0, vs0, d0, ds0, p0, q0, hargs, rfl, rfl, h0, r0⟩ := trodAll_cons hA
  obtain ⟨v1, vs1, d1, ds1, p1, q1, rfl, rfl, rfl, h1, r1⟩ := trodAll_cons r0
  obtain ⟨v2, vs2, d2, ds2, p2, q2, rfl, rfl, rfl, h2, r2⟩ := trodAll_cons r1
  obtain ⟨rfl, rfl, rfl⟩ := trodAll_nil r2
  obtain rfl : args = #[v0, v1, v2] := by cases args; simp_all
  obtain ⟨rfl, rfl⟩ := trodVars_none hV
  clear hA0 hval0
  simp only [List.append_nil] at hW' hsz
  have hlt : ∀ x ∈ p0 ++ p1 ++ p2, x.block < W.heap.size := fun x hx => hW'.lt x (by simpa using hx)
  have hall : ∀ x ∈ DataW.weightsEach Try.prog [3, 22, 3] [d0, d1, d2], x ≤ reachBytes := fun x hx => of_decide_eq_true (List.all_eq_true.1 hsz x hx)
  obtain ⟨a0, rfl, rfl, rfl, w0⟩ := open_int Try.underlying3 (hval 0 3 v0 rfl rfl) h0
  have g1 : ∀ x ∈ d1.weights Try.prog 22, x ≤ reachBytes := fun x hx => hall x (DataW.weights_mem_each (j := 1) rfl rfl x hx)
  obtain ⟨u1, l1⟩ := bss_of_arg (hval 1 _ v1 rfl rfl) h1 g1
  obtain ⟨a2, rfl, rfl, rfl, w2⟩ := open_int Try.underlying3 (hval 2 3 v2 rfl rfl) h2
  refine (walk a0 u1 v1 a2 W w0 l1 w2).mono fun e W' ⟨he, bel⟩ => ?_
  subst he
  exact ⟨_, rfl, _, _, _, [], _, [], hW', trodAll_mk1 (shut_bool Try.underlying4 _), (trodAll_cons_mk (shut_int Try.underlying3 w0) (trodAll_cons_mk (Below.trod Try.laidOut (by kernel_rfl) (of_decide_eq_true (by kernel_rfl)) h1 bel (fun x hx => hlt x (by simp [hx]))) (trodAll_cons_mk (shut_int Try.underlying3 w2) trodAll_mk0))), rfl, bel.frame _, fun h => by cases h⟩

theorem over : Rows.walCutRow.holds Try.pinned (OpenSpec.ofChange Rows.walCutSpec) :=
  OpenClaim.holds_of_wide 6 Try.f6 rfl rfl rfl rfl rfl rfl rfl ⟨rfl, rfl, rfl, rfl, rfl⟩ rfl rfl rfl rfl rfl (by kernel_rfl) Try.func6 (by kernel_rfl)
    (of_decide_eq_true (by kernel_rfl)) (by unfold Func.isWrapper; first | (rw [if_pos (by decide +kernel)]; kernel_rfl) | (rw [if_neg (by decide +kernel)]; exact ⟨rfl, rfl⟩))
    (fun os started H enc _ => lifted os started H enc)

/-- THE STATEMENT. -/
theorem proved : Rows.WalCutSaid := over
#print axioms proved
end Go.Proofs.Ytmjjhapmpaadbab.walCut
