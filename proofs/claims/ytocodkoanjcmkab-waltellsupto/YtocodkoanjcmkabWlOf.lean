/-
  What the statements call besides: Of, Alike.
-/
import Derived.Test.YtocodkoanjcmkabWlPOwn
namespace Go.Proofs.Ytocodkoanjcmkab
open Go.ChangeShapes Go.WideShapes Go.ChangeAt Go.RowKit Go.Deep
open Se

/-- What Of keeps between two rounds. -/
structure RfI (w wr : World) (x0 : Value) (acc : List (List UInt8)) (nx : Int) (va : Option Addr) (vc : Nat) : Prop where
  par : wr.heap[w.heap.size]? = some (.cells #[x0, .int .i64 nx] 24 (0, 0))
  res : wr.heap[w.heap.size + 1]? = some (.cells #[.slice none 0 0, .int .i64 0] 26 (0, 0))
  box : wr.heap[w.heap.size + 2]? = some (.cells #[.slice va acc.length vc, .int .i64 nx] 26 (0, 0))
  own : OwnS wr (w.heap.size + 3) (.slice va acc.length vc) acc
  bel : Below w.heap.size w wr
set_option maxRecDepth 100000 in
set_option maxHeartbeats 6400000 in
theorem of_any (ss : List (List UInt8)) (nx : Int) (a : Option Addr) (c : Nat) (w : World) (hS : LayS w a ss) (hn : ss.length ≤ 1000000000000) :
    Calls Try.prog 9 #[.agg #[.slice a ss.length c, .int .i64 nx]] w fun e w' => ∃ v, e = .returned (.agg #[v, .int .i64 nx]) ∧ OwnS w' w.heap.size v ss ∧ Below w.heap.size w w' := by
  have HS : Hid (LayS w a ss) := hS
  clear hS
  have I0 : Hid (RfI w (((w.alloc (.cells #[.slice a ss.length c, .int .i64 nx] 24)).alloc (.cells #[.slice none 0 0, .int .i64 0] 26)).alloc (.cells #[.slice none 0 0, .int .i64 nx] 26)) (.slice a ss.length c) [] nx none 0) := by
    have b1 := below_one ((w.alloc (.cells #[.slice a ss.length c, .int .i64 nx] 24)).alloc (.cells #[.slice none 0 0, .int .i64 0] 26)) (.cells #[.slice none 0 0, .int .i64 nx] 26)
    refine ⟨(b1.block _ (by simp; omega)).trans ((Below.heap_alloc _ _ _ (by simp)).trans (heap_alloc_new _ _)), (b1.block _ (by simp)).trans (heap_new2 _ _ _), ?_, OwnS.nil _ _, nxt (nxt (below_one _ _) (below_one _ _)) (below_one _ _)⟩
    have := heap_alloc_new ((w.alloc (.cells #[.slice a ss.length c, .int .i64 nx] 24)).alloc (.cells #[.slice none 0 0, .int .i64 0] 26)) (.cells #[.slice none 0 0, .int .i64 nx] 26)
    simpa using this
  go_enter Try.func9, Try.ntmps9
  go_wp2_with fail
  generalize ((w.alloc (.cells #[.slice a ss.length c, .int .i64 nx] 24)).alloc (.cells #[.slice none 0 0, .int .i64 0] 26)).alloc (.cells #[.slice none 0 0, .int .i64 nx] 26) = W0 at *
  go_loopw [4] (fun i wr => ∃ (m : Nat) (va : Option Addr) (vc : Nat), i = .int .i64 m ∧ m ≤ ss.length ∧ Hid (RfI w wr (.slice a ss.length c) (ss.take m) nx va vc)) (fun i _ => ss.length - (intOf i).toNat)
  case atStart => exact ⟨0, none, 0, rfl, by omega, I0.out⟩
  case round =>
    obtain ⟨m, va, vc, rfl, hm, HI⟩ := hrel
    obtain ⟨acc, hacc⟩ : ∃ acc, ss.take m = acc := ⟨_, rfl⟩
    have hal : acc.length ≤ m := by rw [← hacc, List.length_take]; omega
    have HAC : Hid (ss.take m = acc) := hacc
    rw [hacc] at HI
    clear hacc
    obtain ⟨x0, -⟩ := cell_of HI.out.par 0
    obtain ⟨x1, -⟩ := cell_of HI.out.par 1
    obtain ⟨y0, f0⟩ := cell_of HI.out.box 0
    obtain ⟨y1, f1⟩ := cell_of HI.out.box 1
    obtain ⟨r0, g0⟩ := cell_of HI.out.res 0
    obtain ⟨r1, g1⟩ := cell_of HI.out.res 1
    simp at x0 x1 y0 y1 r0 r1
    by_cases hlt : m < ss.length
    · have hltb : (m : Int) < (ss.length : Int) := by omega
      obtain ⟨l, hl⟩ : ∃ l, ss[m]? = some l := ⟨_, List.getElem?_eq_getElem hlt⟩
      have HX : Hid (ss.take (m + 1) = acc ++ [l]) := by
        show _ = _
        rw [List.take_succ_eq_append_getElem hlt, HAC.out]
        rw [List.getElem?_eq_getElem hlt] at hl
        simp only [Option.some.injEq] at hl
        rw [hl]
      obtain ⟨b, off, a1, c1, rfl, q1w, q2, q3⟩ := HS.out m l hl
      have q1 := keepc HI.out.bel _ _ q1w
      have HCL : Hid (Calls Try.prog 10 #[.slice a1 l.length c1] wr.drew fun e w' => ∃ y, e = .returned y ∧ (Bs w' wr.heap.size y l ∧ Below wr.heap.size wr.drew w')) := copyB_any a1 c1 l wr.drew ((q2.below HI.out.bel).below (Below.refl _ _).drew) q3
      have x0d : wr.drew.cell? ⟨w.heap.size, 0, none⟩ = _ := x0
      have y0d : wr.drew.cell? ⟨w.heap.size + 2, 0, none⟩ = _ := y0
      have q1d : wr.drew.cell? ⟨b, off + m, none⟩ = _ := q1
      have hw3 : w.heap.size + 2 < wr.heap.size := lt_of_block HI.out.box
      clear hl q2 q1w
      go_wp2_with fail
      go_region_law (first
        | (refine step_call1 rfl 10 (by intros; go_simp) _ _ rfl (.slice a1 l.length c1) (by first | (simp [Act.eval]; done) | simp [Act.eval, Act.put]) (fun y w' => Bs w' wr.heap.size y l ∧ Below wr.heap.size wr.drew w') HCL.out ?_; intro y w4 hR; obtain ⟨hs4, hb4⟩ := hR; obtain ⟨a4, c4, rfl⟩ := hs4.shape
           have z0 := keepc hb4 _ _ y0d
           have z0' : ∀ o, (w4.alloc o).cell? ⟨w.heap.size + 2, 0, none⟩ = some (.slice va acc.length vc) := fun o => keepc (below_one _ _) _ _ z0)
        | (refine step_pushS rfl _ _ rfl (w.heap.size + 3) (.slice va acc.length vc) acc (by first | (simp [Act.eval]; done) | simp [Act.eval, Act.put]) (HI.out.own.below (nxt ((Below.refl _ _).drew.trans hb4) (below_one _ _))) l a4 c4 wr.heap.size (Bs.up (hs4.below (below_one _ _)) (fun g hg => by have := (hs4.base g hg).1; omega)) (fun g hg => (hs4.base g hg).1) (fun xs q1 q2 j x g hx hg => (HI.out.own.lt_of q1 ((nxt ((Below.refl _ _).drew.trans hb4) (below_one _ _)).block) hx hg)) q3 ⟨w4.heap.size, 0, none⟩ (by first | (simp [Act.eval]; done) | simp [Act.eval, Act.put]) (fun j u hj => newCells w4 _ _ j u (by simpa using hj)) (by omega) (by have := hb4.size; have e : wr.drew.heap.size = wr.heap.size := rfl; simp; omega) ?_; intro v' w5 k1 k2
           have hkp : ∀ k o, k < w.heap.size + 3 → wr.heap[k]? = some o → w5.heap[k]? = some o := by
             intro k o hk ho
             have hq := ((nxt ((Below.refl _ wr).drew.trans hb4) (below_one w4 (.cells #[.slice a4 l.length c4] 25))).block _ (lt_of_block ho)).trans ho
             rw [k2.block _ (lt_of_block hq) (fun e => by have := (HI.out.own.row _ e.symm).1; omega)]
             exact hq
           have hbx := hkp _ _ (by omega) HI.out.box
           have hc5 := (cell_of hbx 0).1
           have hf5 := (cell_of hbx 0).2
           simp at hc5
           obtain ⟨av', cv', rfl⟩ := k1.shape))
      all_goals
        go_wp2_with fail
        refine ⟨⟨m + 1, av', cv', by go_num, by omega, ?_⟩, by simp [intOf]; omega⟩
        have bX := nxt ((Below.refl _ wr).drew.trans hb4) (below_one w4 (.cells #[.slice a4 l.length c4] 25))
        have hbb : Below w.heap.size w w5 := (nxt HI.out.bel bX).grown k2 (by have := bX.size; omega) (fun j e => by have := (HI.out.own.row j e).1; omega)
        rw [HX.out]
        refine ⟨?_, ?_, ?_, k1.set hbx (by decide) (by decide) _, hbb.setCell (by show w.heap.size ≤ w.heap.size + 2; omega) _⟩
        · rw [Below.heap_setCell _ _ _ _ (by show w.heap.size ≠ w.heap.size + 2; omega)]
          exact hkp _ _ (by omega) HI.out.par
        · rw [Below.heap_setCell _ _ _ _ (by show w.heap.size + 1 ≠ w.heap.size + 2; omega)]
          exact hkp _ _ (by omega) HI.out.res
        · have := set_one_cell (o := 0) hbx (.slice av' (acc ++ [l]).length cv')
          simpa using this
    · have hme : m = ss.length := by omega
      subst hme
      have HFE : Hid (acc = ss) := by show _ = _; rw [← HAC.out, List.take_length]
      have hs2 := boxed2 HI.out.res (.slice va acc.length vc) (.int .i64 nx)
      have s0 := (cell_of hs2 0).1
      have s1 := (cell_of hs2 1).1
      simp at s0 s1
      go_wp2_with fail
      refine bodyPost_ret (v := .agg #[.slice va acc.length vc, .int .i64 nx]) (by simp [results, Try.results9, go_sem, s0, s1]) rfl ?_
      have hO := (HI.out.own.box HI.out.res (.slice va acc.length vc) (.int .i64 nx)).base (B' := w.heap.size) (by omega)
      have hB := (HI.out.bel.setCell (show w.heap.size ≤ (⟨w.heap.size + 1, 0, none⟩ : Addr).block by show _ ≤ w.heap.size + 1; omega) (.slice va acc.length vc)).setCell (show w.heap.size ≤ (⟨w.heap.size + 1, 1, none⟩ : Addr).block by show _ ≤ w.heap.size + 1; omega) (.int .i64 nx)
      have e := HFE.out
      subst e
      exact ⟨_, rfl, hO, hB⟩

set_option maxRecDepth 100000 in
set_option maxHeartbeats 3200000 in
theorem alike_any (ss qs : List (List UInt8)) (nx ny : Int) (a b : Option Addr) (c d : Nat) (w : World) (hl : LayS w a ss) (hm : LayS w b qs) (hn : ss.length ≤ 200000000000000) :
    Calls Try.prog 17 #[.agg #[.slice a ss.length c, .int .i64 nx], .agg #[.slice b qs.length d, .int .i64 ny]] w fun e w' => e = .returned (.int .i64 (if nx = ny ∧ ss = qs then 0 else 1)) ∧ Below w.heap.size w w' := by
  have HL : Hid (LayS w a ss) := hl
  have HM : Hid (LayS w b qs) := hm
  clear hl hm
  have B0 : Hid (Below w.heap.size w ((w.alloc (.cells #[.slice a ss.length c, .int .i64 nx] 26)).alloc (.cells #[.slice b qs.length d, .int .i64 ny] 24))) := nxt (below_one _ _) (below_one _ _)
  have X0 : Hid (((w.alloc (.cells #[.slice a ss.length c, .int .i64 nx] 26)).alloc (.cells #[.slice b qs.length d, .int .i64 ny] 24)).heap[w.heap.size]? = some (.cells #[.slice a ss.length c, .int .i64 nx] 26 (0, 0))) := (Below.heap_alloc _ _ _ (by simp)).trans (heap_alloc_new _ _)
  have Y0 : Hid (((w.alloc (.cells #[.slice a ss.length c, .int .i64 nx] 26)).alloc (.cells #[.slice b qs.length d, .int .i64 ny] 24)).heap[w.heap.size + 1]? = some (.cells #[.slice b qs.length d, .int .i64 ny] 24 (0, 0))) := heap_new2 _ _ _
  have HR1 : Hid (nx = ny ∧ ss = qs → (if nx = ny ∧ ss = qs then 0 else 1 : Int) = 0) := fun h => if_pos h
  have HR2 : Hid ((nx = ny ∧ ss = qs → False) → (if nx = ny ∧ ss = qs then 0 else 1 : Int) = 1) := fun h => if_neg h
  generalize (if nx = ny ∧ ss = qs then 0 else 1 : Int) = R at *
  by_cases hbad : nx ≠ ny ∨ ss.length ≠ qs.length
  · have HR : Hid (R = 1) := HR2.out (by rintro ⟨h1, h2⟩; rcases hbad with h | h; exact h h1; exact h (by rw [h2]))
    have hcs : ((nx != ny) = true) ∨ ((nx != ny) = false ∧ ((ss.length : Int) != (qs.length : Int)) = true) := by
      by_cases h : nx = ny
      · refine Or.inr ⟨by simpa using h, bne_iff_ne.2 ?_⟩
        rcases hbad with g | g
        · exact absurd h g
        · omega
      · exact Or.inl (by simpa using h)
    clear hbad HR1 HR2
    rcases hcs with h | ⟨h, h'⟩
    all_goals
      go_enter Try.func17, Try.ntmps17
      go_wp2_with fail
      go_ret
      exact ⟨by rw [HR.out]; rfl, B0.out⟩
  have h1 : (nx != ny) = false := by simp; omega
  have h2 : ((ss.length : Int) != (qs.length : Int)) = false := by
    have : ss.length = qs.length := by omega
    rw [this]; simp
  have HNN : Hid (nx = ny ∧ ss.length = qs.length) := ⟨by omega, by omega⟩
  clear hbad
  go_enter Try.func17, Try.ntmps17
  go_wp2_with fail
  generalize (w.alloc (.cells #[.slice a ss.length c, .int .i64 nx] 26)).alloc (.cells #[.slice b qs.length d, .int .i64 ny] 24) = W at *
  go_loopw [5] (fun i wr => ∃ m : Nat, m ≤ ss.length ∧ i = .int .i64 m ∧ Hid (ss.take m = qs.take m) ∧ Hid (Below W.heap.size W wr)) (fun i _ => ss.length - (intOf i).toNat)
  case atStart => exact ⟨0, by omega, rfl, by show _ = _; simp, Below.refl _ _⟩
  case round =>
    obtain ⟨m, hm, rfl, HT, HB⟩ := hrel
    have HBW : Hid (Below w.heap.size w wr) := nxt B0.out HB.out
    obtain ⟨x0, -⟩ := cell_of ((HB.out.block _ (lt_of_block X0.out)).trans X0.out) 0
    obtain ⟨y0, -⟩ := cell_of ((HB.out.block _ (lt_of_block Y0.out)).trans Y0.out) 0
    simp at x0 y0
    by_cases hlt : m < ss.length
    · have hm1 : (m : Int) < ss.length := by omega
      have hm2 : (m : Int) < qs.length := by have := HNN.out.2; omega
      obtain ⟨da, hf⟩ : ∃ f, ss[m]? = some f := ⟨_, List.getElem?_eq_getElem hlt⟩
      obtain ⟨db, hg⟩ : ∃ f, qs[m]? = some f := ⟨_, List.getElem?_eq_getElem (by have := HNN.out.2; omega)⟩
      obtain ⟨g, off, a1, c1, rfl, p1, p2, -⟩ := (HL.out.below HBW.out) m _ hf
      obtain ⟨g', off', a2, c2, rfl, q1, q2, -⟩ := (HM.out.below HBW.out) m _ hg
      have P2 : Hid (LayB wr a1 da) := p2.1
      have Q2 : Hid (LayB wr a2 db) := q2.1
      have HTF : Hid (ss.take (m + 1) = ss.take m ++ [da] ∧ qs.take (m + 1) = qs.take m ++ [db]) := by
        show _ ∧ _
        have hq : m < qs.length := by have := HNN.out.2; omega
        rw [List.take_succ_eq_append_getElem hlt, List.take_succ_eq_append_getElem hq]
        rw [List.getElem?_eq_getElem hlt] at hf
        rw [List.getElem?_eq_getElem hq] at hg
        simp only [Option.some.injEq] at hf hg
        rw [hf, hg]
        exact ⟨rfl, rfl⟩
      have HNE : Hid (da ≠ db → ¬ ss = qs) := by
        intro h e
        subst e
        have := HTF.out.1.symm.trans HTF.out.2
        simp only [List.append_cancel_left_eq, List.cons.injEq, and_true] at this
        exact h this
      clear hf hg p2 q2
      by_cases hd : da = db
      · have hdb : (da == db) = true := by simp [hd]
        have HSB : Hid (∀ w', LayB w' a1 da → LayB w' a2 db → Calls Try.prog 22 #[.slice a1 da.length c1, .slice a2 db.length c2] w' fun e w'' => e = .returned (.bool true) ∧ w'' = w') := by
          intro w' h1 h2
          have := sameB_any da db a1 a2 c1 c2 w' h1 h2
          rw [hdb] at this
          exact this
        have HQ : Hid (da = db) := hd
        clear hd hdb HNE
        go_wp2_with fail
        go_quiet ((go_at_call 22; exact Calls.quiet_of_same (HSB.out _ (show LayB _ _ _ from P2.out) (show LayB _ _ _ from Q2.out))))
        have HB2 : Hid (Below W.heap.size W (wr.drewN nq)) := HB.out.trans (Below_drewN _ _ _)
        clear P2 Q2 HSB p1 q1 x0 y0
        generalize wr.drewN nq = W2 at *
        go_wp2_with fail
        refine ⟨⟨m + 1, by omega, by go_num, ?_, HB2.out⟩, by simp [intOf]; omega⟩
        show _ = _
        rw [HTF.out.1, HTF.out.2, HT.out, HQ.out]
      · have hdb : (da == db) = false := by simp [hd]
        have HSB : Hid (∀ w', LayB w' a1 da → LayB w' a2 db → Calls Try.prog 22 #[.slice a1 da.length c1, .slice a2 db.length c2] w' fun e w'' => e = .returned (.bool false) ∧ w'' = w') := by
          intro w' h1 h2
          have := sameB_any da db a1 a2 c1 c2 w' h1 h2
          rw [hdb] at this
          exact this
        have HR : Hid (R = 1) := HR2.out (by rintro ⟨-, h⟩; exact HNE.out hd h)
        clear hd hdb HNE HR1 HR2
        go_wp2_with fail
        go_quiet ((go_at_call 22; exact Calls.quiet_of_same (HSB.out _ (show LayB _ _ _ from P2.out) (show LayB _ _ _ from Q2.out))))
        have HB2 : Hid (Below w.heap.size w (wr.drewN nq)) := HBW.out.trans (Below_drewN _ _ _)
        clear P2 Q2 HSB p1 q1 x0 y0
        generalize wr.drewN nq = W2 at *
        go_wp2_with fail
        go_ret
        exact ⟨by rw [HR.out]; rfl, HB2.out⟩
    · have hme : m = ss.length := by omega
      subst hme
      have HR : Hid (R = 0) := HR1.out ⟨HNN.out.1, by
        have h1 := HT.out
        rw [List.take_of_length_le (Nat.le_refl _), List.take_of_length_le (by have := HNN.out.2; omega)] at h1
        exact h1⟩
      clear HR1 HR2
      go_wp2_with fail
      go_ret
      exact ⟨by rw [HR.out]; rfl, HBW.out⟩
end Go.Proofs.Ytocodkoanjcmkab
