/-
  DiskOldOrNew holds for every state and whatever is kept: behind a crash each sector is what it was, or what a write that waited had for it; a state that may not be is refused, as the page refuses it. No condition.
-/
import Derived.Test.YtokebdeaahdcjabDkOld
namespace Go.Proofs.Ytokebdeaahdcjab.diskOldOrNew
open Go.ChangeShapes Go.WideShapes Go.ChangeAt Go.RowKit Go.Deep
open Dk (Wr St)

theorem crash_chk (s : St) (ks : List Int) : (Dk.crashR s ks).1 = Dk.chk s := by
  unfold Dk.crashR
  split
  · rfl
  · rename_i h
    simp only
    exact (Decidable.not_not.1 h).symm

set_option maxRecDepth 100000 in
set_option maxHeartbeats 6400000 in
theorem walk (s : St) (x : Value) (ks : List Int) (xk : Value) (w : World) (hs : StArg w x s) (hk : IntsIs w xk ks) :
    Calls Try.prog 7 #[x, xk] w fun e w' => e = .returned (.bool true) ∧ Below w.heap.size w w' := by
  have HSA : Hid (StArg w x s) := hs
  obtain ⟨a, c, a', c', rfl, hLS, hLW, hn24, hm40⟩ := hs
  obtain ⟨ka, kc, rfl, hki⟩ := hk
  have HKI : Hid (LayI w ka ks) := hki
  have HLS : Hid (LayS w a s.secs) := hLS
  have HLW : Hid (LayW w a' s.cache) := hLW
  clear hki hLS hLW
  have hlen : s.secs.length ≤ 200000000000000 := by omega
  go_enter Try.func7, Try.ntmps7
  go_wp2_with fail
  refine (alive_any _).mono ?_
  rintro e w1 ⟨rfl, hb1⟩
  have X1 : Hid (w1.heap[w.heap.size]? = some (.cells #[.slice a s.secs.length c, .slice a' s.cache.length c'] 25 (0, 0))) := (hb1.block _ (by simp)).trans (heap_alloc_new _ _)
  have B1 : Hid (Below w.heap.size w w1) := nxt (below_one _ _) hb1
  clear hb1
  obtain ⟨x0, -⟩ := cell_of X1.out 0
  obtain ⟨x1, -⟩ := cell_of X1.out 1
  simp at x0 x1
  go_wp2_with fail
  refine (of_st s _ w1 (HSA.out.below B1.out)).mono ?_
  rintro e w2 ⟨y2, rfl, hs2, hb2⟩
  have X2 : Hid (w2.heap[w.heap.size]? = some (.cells #[.slice a s.secs.length c, .slice a' s.cache.length c'] 25 (0, 0))) := (hb2.block _ (lt_of_block X1.out)).trans X1.out
  have B2 : Hid (Below w.heap.size w w2) := nxt B1.out hb2
  obtain ⟨sa, sc, ta, tc, rfl⟩ := hs2.shape
  have S2 : Hid (StIs w2 (.agg #[.slice sa s.secs.length sc, .slice ta s.cache.length tc]) s) := hs2
  clear hs2 hb2 x0 x1 X1 B1
  go_wp2_with fail
  refine (crash_st s ks _ ka kc w2 S2.out (HKI.out.below B2.out)).mono ?_
  rintro e w3 ⟨r3, rfl, hr3, hb3⟩
  rw [crash_chk]
  have X3 : Hid (w3.heap[w.heap.size]? = some (.cells #[.slice a s.secs.length c, .slice a' s.cache.length c'] 25 (0, 0))) := (hb3.block _ (lt_of_block X2.out)).trans X2.out
  have B3 : Hid (Below w.heap.size w w3) := nxt B2.out hb3
  clear hb3 X2 B2 S2
  by_cases hc : Dk.chk s = 0
  · have hok := Dk.chk_zero.1 hc
    rw [crash_ok hok ks] at hr3
    have HOLD : Hid (∀ (i : Nat) (row old : List UInt8), (Dk.layA (fun i => ks.getD i 0) 0 s.secs s.cache)[i]? = some row → s.secs[i]? = some old → isB s.cache i row old = true) := fun i row old h1 h2 => crash_old hok ks h1 h2
    have HRL : Hid ((Dk.layA (fun i => ks.getD i 0) 0 s.secs s.cache).length = s.secs.length) := Dk.layA_length _ _ _ _
    have HOK : Hid (Dk.Ok s) := hok
    have h4096 := hok.hi
    have hm4096 := hok.few
    obtain ⟨ta3, tc3, ua3, uc3, rfl⟩ := hr3.shape
    have hr3' := hr3.is
    simp only at hr3'
    rw [hc]
    generalize Dk.layA (fun i => ks.getD i 0) 0 s.secs s.cache = RS at *
    have S3 : Hid (LayS w3 ta3 RS) := by
      obtain ⟨b1, b2, b3, b4, e, q1, -⟩ := hr3'
      simp only [Value.agg.injEq] at e
      have e' := congrArg Array.toList e
      simp at e'
      rw [e'.1.1]
      exact q1
    clear hr3 hr3' hok hc
    go_wp2_with fail
    refine (num_any _ _).mono ?_
    rintro e w9 ⟨rfl, h9⟩
    subst w9
    have hrl : ((RS.length : Int) != (s.secs.length : Int)) = false := by simp [HRL.out]
    have hRS : RS.length ≤ 4096 := by have := HRL.out; omega
    have X4 : Hid ((w3.alloc (.cells #[.slice ta3 RS.length tc3, .slice ua3 0 uc3] 30)).heap[w.heap.size]? = some (.cells #[.slice a s.secs.length c, .slice a' s.cache.length c'] 25 (0, 0))) := (Below.heap_alloc _ _ _ (lt_of_block X3.out)).trans X3.out
    have U4 : Hid ((w3.alloc (.cells #[.slice ta3 RS.length tc3, .slice ua3 0 uc3] 30)).heap[w3.heap.size]? = some (.cells #[.slice ta3 RS.length tc3, .slice ua3 0 uc3] 30 (0, 0))) := heap_alloc_new _ _
    have S4 : Hid (LayS (w3.alloc (.cells #[.slice ta3 RS.length tc3, .slice ua3 0 uc3] 30)) ta3 RS) := S3.out.below (below_one _ _)
    have B4 : Hid (Below w.heap.size w (w3.alloc (.cells #[.slice ta3 RS.length tc3, .slice ua3 0 uc3] 30))) := nxt B3.out (below_one _ _)
    generalize w3.alloc (.cells #[.slice ta3 RS.length tc3, .slice ua3 0 uc3] 30) = W at *
    generalize w3.heap.size = Bu at *
    have z0 := (cell_of X4.out 0).1
    have z1 := (cell_of X4.out 1).1
    have z2 := (cell_of U4.out 0).1
    have z3 := (cell_of U4.out 1).1
    simp at z0 z1 z2 z3
    clear X3 B3 S3
    go_wp2_with fail
    obtain ⟨ss, ws⟩ := s
    simp only at *
    go_loopw [7] (fun i wr => ∃ m : Nat, m ≤ RS.length ∧ i = .int .i64 m ∧ Hid (Below W.heap.size W wr)) (fun i _ => RS.length - (intOf i).toNat)
    case atStart => exact ⟨0, by omega, rfl, Below.refl _ _⟩
    case round =>
      obtain ⟨m, hm1, rfl, HB⟩ := hrel
      have p0 := keepc HB.out _ _ z0
      have p1 := keepc HB.out _ _ z1
      have p2 := keepc HB.out _ _ z2
      by_cases hlt : m < RS.length
      · have hlt1 : (m : Int) < (RS.length : Int) := by omega
        have hlt2 : (m : Int) < (ss.length : Int) := by have := HRL.out; omega
        obtain ⟨row, hrow⟩ : ∃ row, RS[m]? = some row := ⟨_, List.getElem?_eq_getElem hlt⟩
        obtain ⟨old, hold⟩ : ∃ old, ss[m]? = some old := ⟨_, List.getElem?_eq_getElem (by omega)⟩
        have HIS : Hid (isB ws m row old = true) := HOLD.out m row old hrow hold
        have HROW : Hid (RS[m]? = some row) := hrow
        obtain ⟨rb, roff, ra, rc, rfl, r1, r2, -⟩ := (S4.out.below HB.out) m row hrow
        obtain ⟨ob, ooff, oa, oc, rfl, o1, o2, -⟩ := (HLS.out.below (nxt B4.out HB.out)) m old hold
        have HR2 : Hid (Oct wr ra rc row) := r2
        have HO2 : Hid (Oct wr oa oc old) := o2
        have HBW : Hid (Below w.heap.size w wr) := nxt B4.out HB.out
        clear hrow hold r2 o2
        go_wp2_with fail
        go_quiet ((go_at_call 19; exact Calls.quiet_of_same (sameB_any row old ra oa rc oc _ (show LayB _ _ _ from HR2.out.1) (show LayB _ _ _ from HO2.out.1))))
        go_wp2_with fail
        have HBD : Hid (Below W.heap.size W (wr.drewN nq)) := HB.out.trans (Below_drewN _ _ _)
        have HRD : Hid (LayB (wr.drewN nq) ra row) := HR2.out.1
        have HI0 : Hid ((row == old) = isB (ws.take 0) m row old) := by show _ = _; simp [isB]
        rw [HI0.out]
        clear p0 p1 p2 r1 o1 HR2 HO2 HBW HB
        generalize wr.drewN nq = W5 at *
        go_loopw [8, 9] (fun v8 v9 wq => ∃ q : Nat, q ≤ ws.length ∧ v9 = .int .i64 q ∧ v8 = .bool (isB (ws.take q) m row old) ∧ Hid (Below W5.heap.size W5 wq)) (fun _ v9 _ => ws.length - (intOf v9).toNat)
        case atStart => exact ⟨0, by omega, rfl, rfl, Below.refl _ _⟩
        case round =>
          obtain ⟨q, hq1, rfl, rfl, HBQ⟩ := hrel
          have HBX : Hid (Below W.heap.size W wr) := nxt HBD.out HBQ.out
          have p0 := keepc HBX.out _ _ z0
          have p1 := keepc HBX.out _ _ z1
          have p2 := keepc HBX.out _ _ z2
          by_cases hql : q < ws.length
          · have hql1 : (q : Int) < (ws.length : Int) := by omega
            obtain ⟨y, hy⟩ : ∃ y, ws[q]? = some y := ⟨_, List.getElem?_eq_getElem hql⟩
            obtain ⟨b, off, a1, c1, rfl, q0, q1, q2, q3, q4, q5, q6⟩ := (HLW.out.below (nxt B4.out HBX.out)) q y hy
            have hokw := HOK.out.fits y (List.mem_of_getElem? hy)
            have HT : Hid (isB (ws.take (q + 1)) m row old = (isB (ws.take q) m row old || (hasB y m && (row == pieceOf y m)))) := by
              show _ = _
              rw [← isB_snoc, List.take_succ_eq_append_getElem hql]
              rw [List.getElem?_eq_getElem hql] at hy
              simp only [Option.some.injEq] at hy
              rw [hy]
            obtain ⟨rb', roff', ra', rc', er, r1, r2, -⟩ := (S4.out.below HBX.out) m row HROW.out
            cases er
            have HR2 : Hid (LayB wr ra' row) := r2.1
            have HQ3 : Hid (Oct wr a1 c1 y.d) := q3
            generalize isB (ws.take q) m row old = ib at *
            obtain ⟨fl, sec, d⟩ := y
            obtain ⟨-, k1, k2, k3, k4⟩ := hokw
            simp only at *
            obtain ⟨A, rfl⟩ : ∃ A : Nat, sec = (A : Int) := ⟨sec.toNat, by omega⟩
            rw [Int.toNat_natCast] at k4
            have HBN : Hid (∀ o, Below W5.heap.size W5 (wr.alloc o)) := fun o => nxt HBQ.out (below_one _ _)
            clear hy r2 q3 HBX
            have p0' : ∀ o, (wr.alloc o).cell? ⟨w.heap.size, 0, none⟩ = _ := fun o => keepc (below_one wr o) _ _ p0
            have p2' : ∀ o, (wr.alloc o).cell? ⟨Bu, 0, none⟩ = _ := fun o => keepc (below_one wr o) _ _ p2
            have r1' : ∀ o, (wr.alloc o).cell? ⟨rb, roff + m, none⟩ = _ := fun o => keepc (below_one wr o) _ _ r1
            by_cases h1 : 0 ≤ (m : Int) - A
            · have h1b : decide (0 ≤ (m : Int) - A) = true := decide_eq_true h1
              by_cases h2 : (m : Int) - A < (d.length : Int) / 48
              · have h2b : decide ((m : Int) - A < (d.length : Int) / 48) = true := decide_eq_true h2
                have HH : Hid (hasB ⟨fl, A, d⟩ m = true) := by
                  show _ = _
                  unfold hasB
                  simp only [h1b, h2b, Bool.and_self]
                rw [HH.out] at HT
                obtain ⟨P, hP⟩ : ∃ P : Nat, (m : Int) - A = (P : Int) := ⟨m - A, by omega⟩
                rw [hP] at h1 h2 h1b h2b
                have hPl : 48 * P + 48 ≤ d.length := by omega
                obtain ⟨db, doff, rfl⟩ : ∃ db doff, a1 = some (⟨db, doff, none⟩ : Addr) := by
                  obtain ⟨b1, o1, e, -⟩ := HQ3.out.1 0 _ (List.getElem?_eq_getElem k2)
                  exact ⟨b1, o1, e⟩
                have hcap : d.length ≤ c1 := HQ3.out.2.1
                have hc63 : c1 ≤ 9223372036854775807 := HQ3.out.2.2.1
                have h1' : (A : Int) ≤ (m : Int) := by omega
                have HPC : Hid (pieceOf ⟨fl, A, d⟩ m = (d.drop (48 * P)).take 48 ∧ ((d.drop (48 * P)).take 48).length = 48) := by
                  show _ ∧ _
                  constructor
                  · unfold pieceOf
                    rw [show m - (A : Int).toNat = P by omega]
                  · rw [List.length_take, List.length_drop]
                    omega
                have HLP : Hid (LayB wr (some ⟨db, doff + 48 * P, none⟩) ((d.drop (48 * P)).take 48)) := by
                  intro j u hj
                  refine ⟨db, doff + 48 * P, rfl, ?_⟩
                  rw [List.getElem?_take] at hj
                  split at hj
                  · rw [List.getElem?_drop] at hj
                    obtain ⟨b1, o1, e, hcell⟩ := HQ3.out.1 _ _ hj
                    cases e
                    rw [Nat.add_assoc]
                    exact hcell
                  · cases hj
                rw [HPC.out.1] at HT
                have HPL : Hid (((d.drop (48 * P)).take 48).length = 48) := HPC.out.2
                clear HPC
                generalize (d.drop (48 * P)).take 48 = piece at *
                have HSB : Hid (∀ (W' : World), LayB W' ra' row → LayB W' (some ⟨db, doff + 48 * P, none⟩) piece → Calls Try.prog 19 #[.slice ra' row.length rc', .slice (some ⟨db, doff + 48 * P, none⟩) 48 (c1 - 48 * P)] W' fun e w' => e = .returned (.bool (row == piece)) ∧ w' = W') := by
                  intro W' g1 g2
                  have := sameB_any row piece ra' (some ⟨db, doff + 48 * P, none⟩) rc' (c1 - 48 * P) W' g1 g2
                  rw [HPL.out] at this
                  exact this
                go_wp2_with fail
                have d0 := newCells wr #[.bool fl, .int .i64 (A : Nat), .slice (some ⟨db, doff, none⟩) d.length c1] 28 2 _ rfl
                rw [add_plain] at d0
                have y2 := p2' (.cells #[.bool fl, .int .i64 (A : Nat), .slice (some ⟨db, doff, none⟩) d.length c1] 28)
                have y1 := r1' (.cells #[.bool fl, .int .i64 (A : Nat), .slice (some ⟨db, doff, none⟩) d.length c1] 28)
                have HL6 : Hid (LayB (wr.alloc (.cells #[.bool fl, .int .i64 (A : Nat), .slice (some ⟨db, doff, none⟩) d.length c1] 28)) (some ⟨db, doff + 48 * P, none⟩) piece) := HLP.out.below (below_one _ _)
                have HR6 : Hid (LayB (wr.alloc (.cells #[.bool fl, .int .i64 (A : Nat), .slice (some ⟨db, doff, none⟩) d.length c1] 28)) ra' row) := HR2.out.below (below_one _ _)
                have HB6 : Hid (Below W5.heap.size W5 (wr.alloc (.cells #[.bool fl, .int .i64 (A : Nat), .slice (some ⟨db, doff, none⟩) d.length c1] 28))) := HBN.out _
                generalize wr.alloc (.cells #[.bool fl, .int .i64 (A : Nat), .slice (some ⟨db, doff, none⟩) d.length c1] 28) = W6 at *
                clear p0 p1 p2 p0' p2' r1 r1' q0 q1 q2
                cases ib with
                | true =>
                  have HT2 : Hid (isB (ws.take (q + 1)) m row old = true) := by show _ = _; rw [HT.out]; simp
                  clear HT
                  go_quiet (fail)
                  go_wp2_with fail
                  refine ⟨⟨q + 1, by omega, by go_num, by rw [HT2.out], HB6.out.trans (Below_drewN _ _ _)⟩, by simp [intOf]; omega⟩
                | false =>
                  have HT2 : Hid (isB (ws.take (q + 1)) m row old = (row == piece)) := by show _ = _; rw [HT.out]; simp
                  clear HT
                  go_quiet ((go_at_call 19; exact Calls.quiet_of_same (HSB.out _ (show LayB _ _ _ from HR6.out) (show LayB _ _ _ from HL6.out))))
                  go_wp2_with fail
                  refine ⟨⟨q + 1, by omega, by go_num, by rw [HT2.out], HB6.out.trans (Below_drewN _ _ _)⟩, by simp [intOf]; omega⟩
              · have h2b : decide ((m : Int) - A < (d.length : Int) / 48) = false := decide_eq_false h2
                have HT2 : Hid (isB (ws.take (q + 1)) m row old = ib) := by
                  show _ = _
                  rw [HT.out]
                  unfold hasB
                  simp only [h2b, Bool.and_false, Bool.false_and, Bool.or_false]
                have h1' : (A : Int) ≤ (m : Int) := by omega
                have h2' : (d.length : Int) / 48 ≤ (m : Int) - A := by omega
                clear HT h2
                go_wp2_with fail
                exact ⟨⟨q + 1, by omega, by go_num, by rw [HT2.out], HBN.out _⟩, by simp [intOf]; omega⟩
            · have h1b : decide (0 ≤ (m : Int) - A) = false := decide_eq_false h1
              have HT2 : Hid (isB (ws.take (q + 1)) m row old = ib) := by
                show _ = _
                rw [HT.out]
                unfold hasB
                simp only [h1b, Bool.false_and, Bool.or_false]
              have h1' : (m : Int) < (A : Int) := by omega
              clear HT h1
              go_wp2_with fail
              refine ⟨?_, ?_⟩
              · (repeat apply Exists.intro)
                refine ⟨⟨q + 1, by omega, by go_num, by rw [HT2.out], HBN.out _⟩, rfl⟩
              · simp [intOf]
                omega
          · have hqe : q = ws.length := by omega
            subst hqe
            rw [List.take_length, HIS.out]
            go_wp2_with fail
            exact ⟨⟨m + 1, by omega, by go_num, nxt HBD.out HBQ.out⟩, by simp [intOf]; omega⟩
      · have hme : m = RS.length := by omega
        subst hme
        go_wp2_with fail
        go_ret
        exact ⟨rfl, nxt B4.out HB.out⟩
  · have hcb : (Dk.chk s != 0) = true := by simp [hc]
    obtain ⟨ta3, tc3, ua3, uc3, rfl⟩ := hr3.shape
    have HCK : Hid (∀ W, Below w.heap.size w W → Calls Try.prog 21 #[.agg #[.slice a s.secs.length c, .slice a' s.cache.length c']] W fun e w' => e = .returned (.int .i64 (Dk.chk s)) ∧ Below W.heap.size W w') := fun W hb => rcheck_st s _ W (HSA.out.below hb)
    have B4 : Hid (∀ o, Below w.heap.size w (w3.alloc o)) := fun o => nxt B3.out (below_one _ _)
    have y0 : ∀ o, (w3.alloc o).cell? ⟨w.heap.size, 0, none⟩ = some (.slice a s.secs.length c) := fun o => keepc (below_one _ _) _ _ (cell_of X3.out 0).1
    have y1 : ∀ o, (w3.alloc o).cell? ⟨w.heap.size, 1, none⟩ = some (.slice a' s.cache.length c') := fun o => keepc (below_one _ _) _ _ (cell_of X3.out 1).1
    generalize Dk.chk s = ck at *
    clear hc hr3
    go_wp2_with (first
        | (go_at_call 18; refine (num_any _ _).mono ?_; rintro e w10 ⟨rfl, h9⟩; subst w10)
        | (go_at_call 21; refine (HCK.out _ (B4.out _)).mono ?_; rintro e w10 ⟨rfl, hb10⟩; have B10 : Hid (Below w.heap.size w w10) := nxt (B4.out _) hb10; clear hb10))
    go_ret
    exact ⟨rfl, B10.out⟩

set_option maxRecDepth 100000 in
set_option maxHeartbeats 1600000 in
theorem lifted (os : Os) (started : os.Started) (H : Type) (enc : TypeId × Value → H) :
    ReturnsInHanded {} Try.checked os 7 .any (Rows.diskOldOrNewSpec.pre6 enc Try.prog Try.f7 Rows.diskOldOrNewRow.domain false) (Rows.diskOldOrNewSpec.post enc Try.prog Try.f7 false true false false) := by
  refine returnsInHanded_of_change_sized (C := Try.checked) Try.own started (by kernel_rfl) Try.func7
    (ChangeSpec.witness6 (enc := enc) (C := Try.checked) false ⟨#[], #[.agg #[.slice none 0 0, .slice none 0 0], .slice none 0 0], []⟩ 8 (by kernel_rfl) (by kernel_rfl) (by kernel_rfl) (by kernel_rfl)) ?_
  intro W base args ds gs before hval0 hW _ hsz0 _
  have hsz : (DataW.weightsEach Try.prog (Try.f7.params.toList ++ Rows.diskOldOrNewSpec.plain.varTypes Try.prog) (ds ++ gs)).all (· ≤ reachBytes) = true := hsz0
  have hval : ∀ (j : Nat) t v, Try.f7.params[j]? = some t → args[j]? = some v → Value.okWide Try.prog W .any base t v := hval0
  have hW' := hW
  obtain ⟨p, q, hA0, hV, rfl, hfz, hnd⟩ := hW
  have hA : DataW.TrodAll enc Try.prog W 0 (fun _ => true) true Try.f7.params.toList args.toList ds p := hA0
  rw [Try.params7] at hA hval hsz
  obtain ⟨v0, vs0, d0, ds0, p0, q0, hargs, rfl, rfl, h0, r0⟩ := trodAll_cons hA
  obtain ⟨v1, vs1, d1, ds1, p1, q1, rfl, rfl, rfl, h1, r1⟩ := trodAll_cons r0
  obtain ⟨rfl, rfl, rfl⟩ := trodAll_nil r1
  obtain rfl : args = #[v0, v1] := by cases args; simp_all
  obtain ⟨rfl, rfl⟩ := trodVars_none hV
  clear hA0 hval0
  simp only [List.append_nil] at hW' hsz
  have hlt : ∀ x ∈ p0 ++ p1, x.block < W.heap.size := fun x hx => hW'.lt x (by simpa using hx)
  have hall : ∀ x ∈ DataW.weightsEach Try.prog [25, 29] [d0, d1], x ≤ reachBytes := fun x hx => of_decide_eq_true (List.all_eq_true.1 hsz x hx)
  have g0 : ∀ x ∈ d0.weights Try.prog 25, x ≤ reachBytes := fun x hx => hall x (DataW.weights_mem_each (j := 0) rfl rfl x hx)
  obtain ⟨u0, l0⟩ := st_of_arg (hval 0 _ v0 rfl rfl) h0 g0
  have g1 : ∀ x ∈ d1.weights Try.prog 29, x ≤ reachBytes := fun x hx => hall x (DataW.weights_mem_each (j := 1) rfl rfl x hx)
  obtain ⟨u1, l1⟩ := ints_of_arg (hval 1 _ v1 rfl rfl) h1 g1
  refine (walk u0 v0 u1 v1 W l0 l1).mono fun e W' ⟨he, bel⟩ => ?_
  subst he
  exact ⟨_, rfl, _, _, _, [], _, [], hW', trodAll_mk1 (shut_bool Try.underlying4 _), (trodAll_cons_mk (Below.trod Try.laidOut (by kernel_rfl) (of_decide_eq_true (by kernel_rfl)) h0 bel (fun x hx => hlt x (by simp [hx]))) (trodAll_cons_mk (Below.trod Try.laidOut (by kernel_rfl) (of_decide_eq_true (by kernel_rfl)) h1 bel (fun x hx => hlt x (by simp [hx]))) trodAll_mk0)), rfl, bel.frame _, fun h => by cases h⟩

theorem over : Rows.diskOldOrNewRow.holds Try.pinned (OpenSpec.ofChange Rows.diskOldOrNewSpec) :=
  OpenClaim.holds_of_wide 7 Try.f7 rfl rfl rfl rfl rfl rfl rfl ⟨rfl, rfl, rfl, rfl, rfl⟩ rfl rfl rfl rfl rfl (by kernel_rfl) Try.func7 (by kernel_rfl)
    (of_decide_eq_true (by kernel_rfl)) (by unfold Func.isWrapper; first | (rw [if_pos (by decide +kernel)]; kernel_rfl) | (rw [if_neg (by decide +kernel)]; exact ⟨rfl, rfl⟩))
    (fun os started H enc _ => lifted os started H enc)

/-- THE STATEMENT. -/
theorem proved : Rows.DiskOldOrNewSaid := over
#print axioms proved
end Go.Proofs.Ytokebdeaahdcjab.diskOldOrNew
