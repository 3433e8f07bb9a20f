/-
  The page's framed and Own.
-/
import Derived.Test.YtocodkoanjcmkabWlPCheck
import Derived.Test.YtocodkoanjcmkabWlRcv
namespace Go.Proofs.Ytocodkoanjcmkab
open Go.ChangeShapes Go.WideShapes Go.ChangeAt Go.RowKit Go.Deep
open Se

set_option maxRecDepth 100000 in
set_option maxHeartbeats 1600000 in
theorem roct8_any (b : Int) (w : World) (h0 : 0 ≤ b) :
    Calls Try.prog 46 #[.int .u64 b, .int .i64 8] w fun e w' => ∃ s, e = .returned s ∧ Bs w' w.heap.size s (octs b) ∧ Below w.heap.size w w' := by
  have HU : Hid (0 ≤ b) := h0
  go_enter Try.func46, Try.ntmps46
  go_wp2_with fail
  go_loopw [5, 6] (fun v i wr => ∃ (m : Nat), m ≤ 8 ∧ i = .int .i64 (7 - (m : Int)) ∧ Hid (Bs wr w.heap.size v ((octs b).take m)) ∧ Hid (RowTo w wr (.slice none 0 0) v)) (fun _ i _ => (intOf i + 1).toNat)
  case atStart => exact ⟨0, by omega, rfl, Bs.nil _ _, RowTo.refl _ _⟩
  case round =>
    obtain ⟨m, hm, rfl, HR, HT⟩ := hrel
    have hsz := HT.out.grown.size
    by_cases hlt : m < 8
    · have hm1 : (0 : Int) ≤ 7 - (m : Int) := by omega
      have hm2 : (7 : Int) - (m : Int) ≤ 7 := by omega
      have e1 : ((8 : Int) * (7 - (m : Int))).toNat = 8 * (7 - m) := by omega
      go_wp2_with (at_builtin; refine wpList_app _ rfl _ _ rfl w.heap.size _ ((octs b).take m) [oct b m] rfl ?d0 ⟨wr.heap.size, 0, none⟩ 1 rfl ?d1 ?d2 ?d3 ?_)
      case d0 => exact HR.out.below (below_one _ _)
      case d1 => exact new_octets wr _ _ _ (by simp [cellsO, oct_val HU.out])
      case d2 => have := List.length_take_le m (octs b); simp only [List.length_singleton]; omega
      case d3 => simp; omega
      intro s1 w1 h1 h2
      have R1 : Hid (RowTo w w1 (.slice none 0 0) s1) := HT.out.trans (h2.pre (below_one _ _))
      have H1 : Hid (Bs w1 w.heap.size s1 ((octs b).take (m + 1))) := by
        show Bs _ _ _ _
        rw [octs_take hlt]
        exact h1
      clear h1 h2
      go_wp2_with fail
      go_roundw
      case rel => exact ⟨m + 1, by omega, by congr 1; omega, H1.out, R1.out⟩
      case measure => simp [intOf]; omega
    · have hme : m = 8 := by omega
      subst hme
      go_wp2_with fail
      go_ret
      refine ⟨_, rfl, ?_, HT.out.below (Nat.le_refl _) fun g hg => by simp [Value.ownBlock] at hg⟩
      have := HR.out
      rw [List.take_of_length_le (by rw [octs_length]; omega)] at this
      exact this

set_option maxRecDepth 100000 in
set_option maxHeartbeats 1600000 in
theorem framed_any (nx : Int) (a : Option Addr) (c : Nat) (d : List UInt8) (w : World) (ho : Oct w a c d) (hd : d.length ≤ 400) (h1 : 0 ≤ nx) (h2 : nx ≤ 9223372036854775807) :
    Calls Try.prog 34 #[.int .i64 nx, .slice a d.length c] w fun e w' => ∃ s, e = .returned s ∧ Bs w' w.heap.size s (rfr nx d) ∧ Below w.heap.size w w' := by
  have HO : Hid (Oct w a c d) := ho
  clear ho
  have hw : IntKind.u64.wrap nx = nx := by rw [IntKind.wrap_u64]; omega
  have HP : Hid (putR 2 (octs nx ++ d) = (0, rfr nx d)) := put_ok (by decide) (by rw [List.length_append, octs_length]; omega)
  have HL : Hid ((octs nx ++ d).length ≤ 408 ∧ (octs nx).length = 8) := by refine ⟨?_, octs_length nx⟩; rw [List.length_append, octs_length]; omega
  have HOC : Hid (Calls Try.prog 46 #[.int .u64 nx, .int .i64 8] w _) := roct8_any nx w h1
  go_enter Try.func34, Try.ntmps34
  go_wp2_with fail
  refine HOC.out.mono ?_
  rintro e w1 ⟨s1, rfl, hs1, hb1⟩
  have H1 : Hid (Bs w1 w.heap.size s1 (octs nx)) := hs1
  have B1 : Hid (Below w.heap.size w w1) := hb1
  clear hs1 hb1 HOC
  generalize octs nx = F at *
  obtain ⟨a1, c1, rfl⟩ := H1.out.shape
  go_wp2_with (at_builtin; refine wpList_appO _ rfl _ _ rfl w.heap.size _ F d rfl H1.out a c rfl (HO.out.below B1.out) ?d0 ?d1 ?_)
  case d0 => have := HL.out; omega
  case d1 => exact B1.out.size
  intro s5 w5 hs5 hr5
  obtain ⟨a5, c5, rfl⟩ := hs5.shape
  have O5 : Hid (Oct w5 a5 c5 (F ++ d)) := hs5.oct (by have := HL.out; omega)
  have B5 : Hid (Below w.heap.size w w5) := B1.out.trans (hr5.below B1.out.size fun g hg => (H1.out.base g hg).1)
  have HC : Hid (Calls Try.prog 45 #[.agg #[.int .i64 2, .slice a5 (F ++ d).length c5]] w5 _) := rput_any 2 a5 c5 (F ++ d) w5 O5.out
  rw [HP.out] at HC
  clear hs5 hr5
  generalize (F ++ d).length = l5 at *
  go_wp2_with (go_at_call 45; refine HC.out.mono ?_; rintro e w6 ⟨s6, rfl, hs6, hb6⟩; have H6 : Hid (Bs w6 w5.heap.size s6 (rfr nx d)) := hs6; have B6 : Hid (Below w.heap.size w w6) := nxt B5.out hb6; clear hs6 hb6)
  go_ret
  exact ⟨_, rfl, H6.out.up (fun g hg => by have := (H6.out.base g hg).1; have := B5.out.size; omega), B6.out⟩

/-- What Own keeps between two rounds. -/
structure RoI (w wr : World) (x0 : Value) (acc : List (List UInt8)) (nx : Int) (va : Option Addr) (vc : Nat) : Prop where
  par : wr.heap[w.heap.size]? = some (.cells #[x0, .int .i64 nx] 24 (0, 0))
  res : wr.heap[w.heap.size + 1]? = some (.cells #[.slice none 0 0, .int .i64 0] 24 (0, 0))
  box : wr.heap[w.heap.size + 2]? = some (.cells #[.slice va acc.length vc, .int .i64 nx] 24 (0, 0))
  own : OwnS wr (w.heap.size + 3) (.slice va acc.length vc) acc
  bel : Below w.heap.size w wr
theorem OwnS.boxP {W : World} {B : Nat} {v : Value} {ss : List (List UInt8)} (h : OwnS W B v ss) {g : Nat} {p q : Value} (hg : W.heap[g]? = some (.cells #[p, q] 24 (0, 0))) (x y : Value) : OwnS ((W.setCell ⟨g, 0, none⟩ x).setCell ⟨g, 1, none⟩ y) B v ss :=
  (h.set hg (by decide) (by decide) _).set (set_one_cell (o := 0) hg x) (by decide) (by decide) _

set_option maxRecDepth 100000 in
set_option maxHeartbeats 6400000 in
theorem rown_any (ss : List (List UInt8)) (nx : Int) (a : Option Addr) (c : Nat) (w : World) (hS : LayS w a ss) (hn : ss.length ≤ 1000000000000) :
    Calls Try.prog 33 #[.agg #[.slice a ss.length c, .int .i64 nx]] w fun e w' => ∃ v, e = .returned (.agg #[v, .int .i64 nx]) ∧ OwnS w' w.heap.size v ss ∧ Below w.heap.size w w' := by
  have HS : Hid (LayS w a ss) := hS
  clear hS
  have I0 : Hid (RoI w (((w.alloc (.cells #[.slice a ss.length c, .int .i64 nx] 24)).alloc (.cells #[.slice none 0 0, .int .i64 0] 24)).alloc (.cells #[.slice none 0 0, .int .i64 nx] 24)) (.slice a ss.length c) [] nx none 0) := by
    have b1 := below_one ((w.alloc (.cells #[.slice a ss.length c, .int .i64 nx] 24)).alloc (.cells #[.slice none 0 0, .int .i64 0] 24)) (.cells #[.slice none 0 0, .int .i64 nx] 24)
    refine ⟨(b1.block _ (by simp; omega)).trans ((Below.heap_alloc _ _ _ (by simp)).trans (heap_alloc_new _ _)), (b1.block _ (by simp)).trans (heap_new2 _ _ _), ?_, OwnS.nil _ _, nxt (nxt (below_one _ _) (below_one _ _)) (below_one _ _)⟩
    have := heap_alloc_new ((w.alloc (.cells #[.slice a ss.length c, .int .i64 nx] 24)).alloc (.cells #[.slice none 0 0, .int .i64 0] 24)) (.cells #[.slice none 0 0, .int .i64 nx] 24)
    simpa using this
  go_enter Try.func33, Try.ntmps33
  go_wp2_with fail
  generalize ((w.alloc (.cells #[.slice a ss.length c, .int .i64 nx] 24)).alloc (.cells #[.slice none 0 0, .int .i64 0] 24)).alloc (.cells #[.slice none 0 0, .int .i64 nx] 24) = W0 at *
  go_loopw [4] (fun i wr => ∃ (m : Nat) (va : Option Addr) (vc : Nat), i = .int .i64 m ∧ m ≤ ss.length ∧ Hid (RoI w wr (.slice a ss.length c) (ss.take m) nx va vc)) (fun i _ => ss.length - (intOf i).toNat)
  case atStart => exact ⟨0, none, 0, rfl, by omega, I0.out⟩
  case round =>
    obtain ⟨m, va, vc, rfl, hm, HI⟩ := hrel
    obtain ⟨acc, hacc⟩ : ∃ acc, ss.take m = acc := ⟨_, rfl⟩
    have hal : acc.length ≤ m := by rw [← hacc, List.length_take]; omega
    have HAC : Hid (ss.take m = acc) := hacc
    rw [hacc] at HI
    clear hacc
    obtain ⟨x0, -⟩ := cell_of HI.out.par 0
    obtain ⟨x1, -⟩ := cell_of HI.out.par 1
    obtain ⟨y0, f0⟩ := cell_of HI.out.box 0
    obtain ⟨y1, f1⟩ := cell_of HI.out.box 1
    obtain ⟨r0, g0⟩ := cell_of HI.out.res 0
    obtain ⟨r1, g1⟩ := cell_of HI.out.res 1
    simp at x0 x1 y0 y1 r0 r1
    by_cases hlt : m < ss.length
    · have hltb : (m : Int) < (ss.length : Int) := by omega
      obtain ⟨l, hl⟩ : ∃ l, ss[m]? = some l := ⟨_, List.getElem?_eq_getElem hlt⟩
      have HX : Hid (ss.take (m + 1) = acc ++ [l]) := by
        show _ = _
        rw [List.take_succ_eq_append_getElem hlt, HAC.out]
        rw [List.getElem?_eq_getElem hlt] at hl
        simp only [Option.some.injEq] at hl
        rw [hl]
      obtain ⟨b, off, a1, c1, rfl, q1w, q2, q3⟩ := HS.out m l hl
      have q1 := keepc HI.out.bel _ _ q1w
      have HCL : Hid (Calls Try.prog 39 #[.slice a1 l.length c1] wr.drew fun e w' => ∃ y, e = .returned y ∧ (Bs w' wr.heap.size y l ∧ Below wr.heap.size wr.drew w')) := copied_any a1 c1 l wr.drew ((q2.below HI.out.bel).below (Below.refl _ _).drew) q3
      have x0d : wr.drew.cell? ⟨w.heap.size, 0, none⟩ = _ := x0
      have y0d : wr.drew.cell? ⟨w.heap.size + 2, 0, none⟩ = _ := y0
      have q1d : wr.drew.cell? ⟨b, off + m, none⟩ = _ := q1
      have hw3 : w.heap.size + 2 < wr.heap.size := lt_of_block HI.out.box
      clear hl q2 q1w
      go_wp2_with fail
      go_region_law (first
        | (refine step_call1 rfl 39 (by intros; go_simp) _ _ rfl (.slice a1 l.length c1) (by first | (simp [Act.eval]; done) | simp [Act.eval, Act.put]) (fun y w' => Bs w' wr.heap.size y l ∧ Below wr.heap.size wr.drew w') HCL.out ?_; intro y w4 hR; obtain ⟨hs4, hb4⟩ := hR; obtain ⟨a4, c4, rfl⟩ := hs4.shape
           have z0 := keepc hb4 _ _ y0d
           have z0' : ∀ o, (w4.alloc o).cell? ⟨w.heap.size + 2, 0, none⟩ = some (.slice va acc.length vc) := fun o => keepc (below_one _ _) _ _ z0)
        | (refine step_pushS rfl _ _ rfl (w.heap.size + 3) (.slice va acc.length vc) acc (by first | (simp [Act.eval]; done) | simp [Act.eval, Act.put]) (HI.out.own.below (nxt ((Below.refl _ _).drew.trans hb4) (below_one _ _))) l a4 c4 wr.heap.size (Bs.up (hs4.below (below_one _ _)) (fun g hg => by have := (hs4.base g hg).1; omega)) (fun g hg => (hs4.base g hg).1) (fun xs q1 q2 j x g hx hg => (HI.out.own.lt_of q1 ((nxt ((Below.refl _ _).drew.trans hb4) (below_one _ _)).block) hx hg)) q3 ⟨w4.heap.size, 0, none⟩ (by first | (simp [Act.eval]; done) | simp [Act.eval, Act.put]) (fun j u hj => newCells w4 _ _ j u (by simpa using hj)) (by omega) (by have := hb4.size; have e : wr.drew.heap.size = wr.heap.size := rfl; simp; omega) ?_; intro v' w5 k1 k2
           have hkp : ∀ k o, k < w.heap.size + 3 → wr.heap[k]? = some o → w5.heap[k]? = some o := by
             intro k o hk ho
             have hq := ((nxt ((Below.refl _ wr).drew.trans hb4) (below_one w4 (.cells #[.slice a4 l.length c4] 25))).block _ (lt_of_block ho)).trans ho
             rw [k2.block _ (lt_of_block hq) (fun e => by have := (HI.out.own.row _ e.symm).1; omega)]
             exact hq
           have hbx := hkp _ _ (by omega) HI.out.box
           have hc5 := (cell_of hbx 0).1
           have hf5 := (cell_of hbx 0).2
           simp at hc5
           obtain ⟨av', cv', rfl⟩ := k1.shape))
      all_goals
        go_wp2_with fail
        refine ⟨⟨m + 1, av', cv', by go_num, by omega, ?_⟩, by simp [intOf]; omega⟩
        have bX := nxt ((Below.refl _ wr).drew.trans hb4) (below_one w4 (.cells #[.slice a4 l.length c4] 25))
        have hbb : Below w.heap.size w w5 := (nxt HI.out.bel bX).grown k2 (by have := bX.size; omega) (fun j e => by have := (HI.out.own.row j e).1; omega)
        rw [HX.out]
        refine ⟨?_, ?_, ?_, k1.set hbx (by decide) (by decide) _, hbb.setCell (by show w.heap.size ≤ w.heap.size + 2; omega) _⟩
        · rw [Below.heap_setCell _ _ _ _ (by show w.heap.size ≠ w.heap.size + 2; omega)]
          exact hkp _ _ (by omega) HI.out.par
        · rw [Below.heap_setCell _ _ _ _ (by show w.heap.size + 1 ≠ w.heap.size + 2; omega)]
          exact hkp _ _ (by omega) HI.out.res
        · have := set_one_cell (o := 0) hbx (.slice av' (acc ++ [l]).length cv')
          simpa using this
    · have hme : m = ss.length := by omega
      subst hme
      have HFE : Hid (acc = ss) := by show _ = _; rw [← HAC.out, List.take_length]
      have hs2 := boxed2 HI.out.res (.slice va acc.length vc) (.int .i64 nx)
      have s0 := (cell_of hs2 0).1
      have s1 := (cell_of hs2 1).1
      simp at s0 s1
      go_wp2_with fail
      refine bodyPost_ret (v := .agg #[.slice va acc.length vc, .int .i64 nx]) (by simp [results, Try.results33, go_sem, s0, s1]) rfl ?_
      have hO := (HI.out.own.boxP HI.out.res (.slice va acc.length vc) (.int .i64 nx)).base (B' := w.heap.size) (by omega)
      have hB := (HI.out.bel.setCell (show w.heap.size ≤ (⟨w.heap.size + 1, 0, none⟩ : Addr).block by show _ ≤ w.heap.size + 1; omega) (.slice va acc.length vc)).setCell (show w.heap.size ≤ (⟨w.heap.size + 1, 1, none⟩ : Addr).block by show _ ≤ w.heap.size + 1; omega) (.int .i64 nx)
      have e := HFE.out
      subst e
      exact ⟨_, rfl, hO, hB⟩
end Go.Proofs.Ytocodkoanjcmkab
