/-
  The program's Recover.
-/
import Derived.Test.YtocodkoanjcmkabWlBlank
namespace Go.Proofs.Ytocodkoanjcmkab
open Go.ChangeShapes Go.WideShapes Go.ChangeAt Go.RowKit Go.Deep
open Se

instance (l : List UInt8) : Decidable (allZ l) := by unfold allZ; infer_instance
/-- What Recover makes of segments, from a number on. -/
def rcv : List (List UInt8) → Int → List (List UInt8) × Int
  | [], nx => ([], nx)
  | s :: ss, nx => if (scR (s.take 480) nx).2 = 0 then ([], nx)
    else if allZ ((s.take 480).drop (scR (s.take 480) nx).2) then ((s.take 480).take (scR (s.take 480) nx).2 :: (rcv ss (wrap64 (nx + (scR (s.take 480) nx).1.length))).1, (rcv ss (wrap64 (nx + (scR (s.take 480) nx).1.length))).2)
    else ([(s.take 480).take (scR (s.take 480) nx).2], wrap64 (nx + (scR (s.take 480) nx).1.length))

/-- append of one segment whose row nobody else has, as one step. -/
theorem step_pushS {ops : Array Oper} {o : Oper} {a : Act} {w : World} {K : Act → World → Prop} {Q : Exit → Act → World → Prop} {E : Prop} (hg : o.guard = none) (sl x : Operand)
    (ho : o.op = .call { callee := .builtin .append, args := #[sl, x], argTypes := #[22, 22] })
    (B : Nat) (v : Value) (ss : List (List UInt8)) (hs : a.eval sl = v) (hown : OwnS w B v ss) (y : List UInt8) (ya : Option Addr) (yc N : Nat) (hy : Bs w B (.slice ya y.length yc) y) (hyN : ∀ g, (Value.slice ya y.length yc).ownBlock = some g → N ≤ g) (hN : ∀ xs, w.ownsRow B 25 1 v ss.length xs → SItems w B ss xs → ∀ (j : Nat) (x : Value) (g : Nat), xs[j]? = some x → x.ownBlock = some g → g < N) (hf : y.length ≤ 140737488351232) (ad : Addr) (hx : a.eval x = .slice (some ad) 1 1)
    (hnews : ∀ j u, [Value.slice ya y.length yc][j]? = some u → w.cell? (ad.add j) = some u) (hlen : (ss.length + 1) * 24 ≤ 140737488355328) (hbase : B ≤ w.heap.size)
    (h : ∀ v' w', OwnS w' B v' (ss ++ [y]) → w.grownBy w' v.ownBlock → K (a.put o.dst v') w') : if Region.wanted o (yielded ops a.tmps) = true then Oper.wp Try.prog o a w K Q else E := by
  obtain ⟨i0, hi, hz0, hz1, hz2⟩ := info_parts Try.infoBs
  obtain ⟨xs, hr, hit, hap⟩ := hown
  refine step_append hg sl x 22 ho B 25 i0 _ 1 24 Try.underlying22 hi hz0 hz1 hz2 rfl (by decide) v ss.length xs hs hr ad 1 1 _ hx rfl hnews (by simp [Value.oneCell']) (by unfold maxLen; omega) hlen hbase ?_
  intro v' w' h1 h2 h3
  refine h v' w' (OwnS.pushed hr hit hap h1 h2 hy hf ?_) h2
  intro j x g hx hg hg2
  have q1 := hN xs hr hit j x g hx hg
  have q2 := hyN g hg2
  omega

/-- The rows of what was there ahead lie ahead. -/
theorem OwnS.lt_of {W W' : World} {B : Nat} {v : Value} {ss : List (List UInt8)} {xs : List Value} (h : OwnS W B v ss) (h' : W'.ownsRow B 25 1 v ss.length xs) (hb : ∀ j, j < W.heap.size → W'.heap[j]? = W.heap[j]?) {j : Nat} {x : Value} {g : Nat} (hx : xs[j]? = some x) (hg : x.ownBlock = some g) : g < W.heap.size := by
  obtain ⟨ys, h1, h2, -⟩ := h
  have h3 : W'.ownsRow B 25 1 v ss.length ys := ownsRow_same h1 fun g hg => hb g (h1.lt g hg).2
  have e : xs = ys := by
    rcases h'.2 with ⟨q1, q2⟩ | ⟨g1, cap1, cur1, q1, q2, q3, q4, q5, q6, q7⟩
    · have e1 := h'.1
      have e2 := h3.1
      rw [List.eq_nil_of_length_eq_zero (l := xs) (by omega), List.eq_nil_of_length_eq_zero (l := ys) (by omega)]
    · rcases h3.2 with ⟨p1, p2⟩ | ⟨g2, cap2, cur2, p1, p2, p3, p4, p5, p6, p7⟩
      · rw [q1] at p1; simp at p1
      · rw [q1] at p1
        simp only [Value.slice.injEq, Option.some.injEq, Addr.mk.injEq, and_true, true_and] at p1
        obtain ⟨rfl, rfl⟩ := p1
        rw [q3] at p3
        simp only [Option.some.injEq, Obj.cells.injEq, and_true] at p3
        obtain ⟨rfl⟩ := p3
        rw [← q7, ← p7]
  subst e
  exact (h2.lt (by have := h1.1; omega) hx hg).2.1

/-- What Recover keeps between two rounds. -/
structure RcI (w wr : World) (acc : List (List UInt8)) (z : Int) (va : Option Addr) (vc : Nat) : Prop where
  res : wr.heap[w.heap.size]? = some (.cells #[.slice none 0 0, .int .i64 0] 26 (0, 0))
  box : wr.heap[w.heap.size + 1]? = some (.cells #[.slice va acc.length vc, .int .i64 z] 26 (0, 0))
  own : OwnS wr (w.heap.size + 2) (.slice va acc.length vc) acc
  bel : Below w.heap.size w wr
theorem RcI.below {w wr W : World} {acc : List (List UInt8)} {z : Int} {va : Option Addr} {vc : Nat} (h : RcI w wr acc z va vc) (hb : Below wr.heap.size wr W) : RcI w W acc z va vc :=
  ⟨(hb.block _ (lt_of_block h.res)).trans h.res, (hb.block _ (lt_of_block h.box)).trans h.box, h.own.below hb, nxt h.bel hb⟩
theorem RcI.cells {w wr : World} {acc : List (List UInt8)} {z : Int} {va : Option Addr} {vc : Nat} (h : RcI w wr acc z va vc) : wr.cell? ⟨w.heap.size + 1, 0, none⟩ = some (.slice va acc.length vc) ∧ wr.cell? ⟨w.heap.size + 1, 1, none⟩ = some (.int .i64 z) ∧ wr.frozen? ⟨w.heap.size + 1, 0, none⟩ = false ∧ wr.frozen? ⟨w.heap.size + 1, 1, none⟩ = false
    ∧ wr.cell? ⟨w.heap.size, 0, none⟩ = some (.slice none 0 0) ∧ wr.cell? ⟨w.heap.size, 1, none⟩ = some (.int .i64 0) ∧ wr.frozen? ⟨w.heap.size, 0, none⟩ = false ∧ wr.frozen? ⟨w.heap.size, 1, none⟩ = false := by
  have b0 := cell_of h.box 0
  have b1 := cell_of h.box 1
  have r0 := cell_of h.res 0
  have r1 := cell_of h.res 1
  simp at b0 b1 r0 r1
  exact ⟨b0.1, b1.1, b0.2, b1.2, r0.1, r1.1, r0.2, r1.2⟩
/-- What Recover leaves. -/
def RcPost (w : World) (R : List (List UInt8) × Int) (e : Ending) (w' : World) : Prop :=
  ∃ va vc, e = .returned (.tuple #[.agg #[.slice va R.1.length vc, .int .i64 R.2], .int .i64 0]) ∧ OwnS w' w.heap.size (.slice va R.1.length vc) R.1 ∧ Below w.heap.size w w'
theorem RcI.ret {w wr : World} {acc : List (List UInt8)} {z : Int} {va : Option Addr} {vc : Nat} (h : RcI w wr acc z va vc) :
    ((wr.setCell ⟨w.heap.size, 0, none⟩ (.slice va acc.length vc)).setCell ⟨w.heap.size, 1, none⟩ (.int .i64 z)).cell? ⟨w.heap.size, 0, none⟩ = some (.slice va acc.length vc) ∧ ((wr.setCell ⟨w.heap.size, 0, none⟩ (.slice va acc.length vc)).setCell ⟨w.heap.size, 1, none⟩ (.int .i64 z)).cell? ⟨w.heap.size, 1, none⟩ = some (.int .i64 z) := by
  have hs2 := boxed2 h.res (.slice va acc.length vc) (.int .i64 z)
  have s0 := (cell_of hs2 0).1
  have s1 := (cell_of hs2 1).1
  simp at s0 s1
  exact ⟨s0, s1⟩
theorem RcI.fin {w wr : World} {acc : List (List UInt8)} {z : Int} {va : Option Addr} {vc : Nat} (h : RcI w wr acc z va vc) :
    RcPost w (acc, z) (.returned (.tuple #[.agg #[.slice va acc.length vc, .int .i64 z], .int .i64 0])) ((wr.setCell ⟨w.heap.size, 0, none⟩ (.slice va acc.length vc)).setCell ⟨w.heap.size, 1, none⟩ (.int .i64 z)) :=
  ⟨va, vc, rfl, (h.own.box h.res _ _).base (by omega), (h.bel.setCell (by show w.heap.size ≤ w.heap.size; omega) _).setCell (by show w.heap.size ≤ w.heap.size; omega) _⟩

set_option maxRecDepth 100000 in
set_option maxHeartbeats 6400000 in
theorem recover_any (ss : List (List UInt8)) (nx : Int) (a : Option Addr) (c : Nat) (w : World) (hS : LayS w a ss) (hn : ss.length ≤ 64) (h1 : 1 ≤ nx) (h2 : nx ≤ 1099511627776) :
    Calls Try.prog 24 #[.slice a ss.length c, .int .i64 nx] w (RcPost w (rcv ss nx)) := by
  have HS : Hid (LayS w a ss) := hS
  clear hS
  have h1b : ¬ nx < 1 := by omega
  have h2b : ¬ 1099511627776 < nx := by omega
  have hnb : ¬ (64 : Int) < ss.length := by omega
  have I0 : Hid (RcI w ((w.alloc (.cells #[.slice none 0 0, .int .i64 0] 26)).alloc (.cells #[.slice none 0 0, .int .i64 nx] 26)) [] nx none 0) :=
    ⟨(Below.heap_alloc _ _ _ (by simp)).trans (heap_alloc_new _ _), heap_new2 _ _ _, OwnS.nil _ _, nxt (below_one _ _) (below_one _ _)⟩
  go_enter Try.func24, Try.ntmps24
  go_wp2_with fail
  generalize (w.alloc (.cells #[.slice none 0 0, .int .i64 0] 26)).alloc (.cells #[.slice none 0 0, .int .i64 nx] 26) = W0 at *
  go_loopw [26] (fun i wr => ∃ (m : Nat) (acc : List (List UInt8)) (z : Int) (va : Option Addr) (vc : Nat), i = .int .i64 m ∧ m ≤ ss.length ∧ -9223372036854775808 ≤ z ∧ z ≤ 9223372036854775807 ∧ Hid (acc.length ≤ m) ∧ Hid (RcI w wr acc z va vc) ∧ Hid (rcv ss nx = (acc ++ (rcv (ss.drop m) z).1, (rcv (ss.drop m) z).2))) (fun i _ => ss.length - (intOf i).toNat)
  case atStart => exact ⟨0, [], nx, none, 0, rfl, by omega, by omega, by omega, Nat.le_refl _, I0.out, by show _ = _; simp⟩
  case round =>
    obtain ⟨m, acc, z, va, vc, rfl, hm, hz1, hz2, HAL, HI, HE⟩ := hrel
    by_cases hlt : m < ss.length
    · have hltb : (m : Int) < (ss.length : Int) := by omega
      obtain ⟨l, hl⟩ : ∃ l, ss[m]? = some l := ⟨_, List.getElem?_eq_getElem hlt⟩
      have hdr : ss.drop m = l :: ss.drop (m + 1) := by
        rw [List.drop_eq_getElem_cons hlt]
        rw [List.getElem?_eq_getElem hlt] at hl
        simp only [Option.some.injEq] at hl
        rw [hl]
      obtain ⟨b, off, a1, c1, rfl, q1w, q2, q3⟩ := HS.out m l hl
      have q1 := keepc HI.out.bel _ _ q1w
      have HO : Hid (Oct w a1 c1 (l.take 480)) := by
        obtain ⟨g1, g2, g3, g4, g5, g6⟩ := q2
        refine ⟨fun i o hi => ?_, by rw [List.length_take]; omega, g3, by rw [List.length_take]; omega, g5, g6⟩
        rw [List.getElem?_take] at hi
        split at hi
        · exact g1 i o hi
        · cases hi
      have hc1 : l.length ≤ c1 ∧ c1 ≤ 9223372036854775807 := ⟨q2.2.1, q2.2.2.1⟩
      obtain ⟨hc1, hc2⟩ := hc1
      have htl : (l.take 480).length = min 480 l.length := List.length_take
      have HSC : Hid (∀ W, Below w.heap.size w W → Calls Try.prog 26 #[.slice a1 (l.take 480).length c1, .int .i64 z] W _) := fun W hb => scan_any a1 c1 (l.take 480) z W (HO.out.below hb) (by omega) hz1 hz2
      have hle := scR_le (l.take 480) z
      have HRN : Hid (rcv (ss.drop m) z = if (scR (l.take 480) z).2 = 0 then ([], z) else if allZ ((l.take 480).drop (scR (l.take 480) z).2) then ((l.take 480).take (scR (l.take 480) z).2 :: (rcv (ss.drop (m + 1)) (wrap64 (z + (scR (l.take 480) z).1.length))).1, (rcv (ss.drop (m + 1)) (wrap64 (z + (scR (l.take 480) z).1.length))).2) else ([(l.take 480).take (scR (l.take 480) z).2], wrap64 (z + (scR (l.take 480) z).1.length))) := by
        show _ = _
        rw [hdr]
        rfl
      clear hl q1w q2 hdr
      generalize scR (l.take 480) z = T at *
      obtain ⟨rs, n⟩ := T
      simp only at HRN HSC hle
      generalize l.take 480 = t at *
      obtain ⟨tl, htle⟩ : ∃ tl, t.length = tl := ⟨_, rfl⟩
      have HTL : Hid (t.length = tl) := htle
      rw [htle] at HSC htl hle
      clear htle
      have hmin : min ((l.length : Nat) : Int) 480 = ((tl : Nat) : Int) := by omega
      obtain ⟨x0, x1, f0, f1, y0, y1, g0, g1⟩ := HI.out.cells
      go_upto_region 9 with fail
      go_cut [8] (fun v8 wc => v8 = .slice a1 tl c1 ∧ Hid (wc = wr))
      case first =>
        go_wp2_with fail
        all_goals
          go_meet
          exact ⟨by congr 1; omega, rfl⟩
      case rest =>
        obtain ⟨rfl, HWE⟩ := hcut
        obtain rfl := HWE.out
        have hns : n ≤ tl := hle.1
        have hrs : rs.length ≤ 30 := by omega
        have htc : tl ≤ c1 := by omega
        have ht480 : tl ≤ 480 := by omega
        clear hmin htl hle
        have HWR : Hid (-9223372036854775808 ≤ wrap64 (z + rs.length) ∧ wrap64 (z + rs.length) ≤ 9223372036854775807) := by show _ ∧ _; unfold wrap64; omega
        by_cases hn0 : n = 0
        · have hn0b : ((n : Int) == 0) = true := by simp [hn0]
          rw [if_pos hn0] at HRN
          have HFE : Hid (rcv ss nx = (acc, z)) := by
            show _ = _
            rw [HE.out, HRN.out]
            simp
          go_wp2_with (go_at_call 26; refine (HSC.out _ HI.out.bel).mono ?_; rintro e w3 ⟨v3, rfl, hor3, hb3⟩; obtain ⟨ra, rc, rfl⟩ := hor3.shape; have I3 : Hid (RcI w w3 acc z va vc) := HI.out.below hb3; clear hor3 hb3; clear x0 x1 f0 f1 y0 y1 g0 g1; obtain ⟨x0, x1, f0, f1, y0, y1, g0, g1⟩ := I3.out.cells; obtain ⟨r0, r1⟩ := I3.out.ret)
          refine bodyPost_ret (v := .tuple #[.agg #[.slice va acc.length vc, .int .i64 z], .int .i64 0]) (by simp [results, Try.results24, go_sem, r0, r1]) rfl ?_
          rw [HFE.out]
          exact I3.out.fin
        · have hn0b : ((n : Int) == 0) = false := by simp [hn0]
          rw [if_neg hn0] at HRN
          go_upto_region 12 with (go_at_call 26; refine (HSC.out _ HI.out.bel).mono ?_; rintro e w3 ⟨v3, rfl, hor3, hb3⟩; obtain ⟨ra, rc, rfl⟩ := hor3.shape; have I3 : Hid (RcI w w3 acc z va vc) := HI.out.below hb3; clear hor3 hb3; clear x0 x1 f0 f1 y0 y1 g0 g1; obtain ⟨x0, x1, f0, f1, y0, y1, g0, g1⟩ := I3.out.cells)
          have HO3 : Hid (Oct w3 a1 c1 t) := HO.out.below I3.out.bel
          obtain ⟨tn, htn⟩ : ∃ tn, t.take n = tn := ⟨_, rfl⟩
          have HTN : Hid (tn.length = n) := by show _ = _; rw [← htn, List.length_take, HTL.out]; omega
          have HOT : Hid (Oct w3 a1 c1 tn) := by
            obtain ⟨e1, e2, e3, e4, e5, e6⟩ := HO3.out
            have := HTN.out
            have := HTL.out
            refine ⟨fun i o hi => ?_, by omega, e3, by omega, e5, e6⟩
            rw [← htn, List.getElem?_take] at hi
            split at hi
            · exact e1 i o hi
            · cases hi
          rw [htn] at HRN
          clear htn
          have HCL : Hid (Calls Try.prog 37 #[.slice a1 n c1] w3.drew fun e w' => ∃ y, e = .returned y ∧ (Bs w' w3.heap.size y tn ∧ Below w3.heap.size w3.drew w')) := by
            have := clone_any a1 c1 tn w3.drew (HOT.out.below (Below.refl _ _).drew) (by have := HTN.out; omega)
            rw [HTN.out] at this
            exact this
          have hw3 : w.heap.size + 1 < w3.heap.size := lt_of_block I3.out.box
          have x0d : w3.drew.cell? ⟨w.heap.size + 1, 0, none⟩ = _ := x0
          have hncap : (n : Int) ≤ (c1 : Int) := by omega
          have hal := HAL.out
          obtain ⟨acc2, hacc⟩ : ∃ acc2, acc ++ [tn] = acc2 := ⟨_, rfl⟩
          have HAC : Hid (acc ++ [tn] = acc2) := hacc
          clear hacc
          go_cut [] (fun wc => ∃ va' vc', Hid (RcI w wc acc2 z va' vc'))
          case first =>
            go_region_law (first
              | (refine step_call1 rfl 37 (by intros; go_simp) _ _ rfl (.slice a1 n c1) (by first | (simp [Act.eval]; done) | simp [Act.eval, Act.put]) (fun y w' => Bs w' w3.heap.size y tn ∧ Below w3.heap.size w3.drew w') HCL.out ?_; intro y w4 hR; obtain ⟨hs4, hb4⟩ := hR; obtain ⟨a4, c4, rfl⟩ := hs4.shape
                 have z0 := keepc hb4 _ _ x0d
                 have z0' : ∀ o, (w4.alloc o).cell? ⟨w.heap.size + 1, 0, none⟩ = some (.slice va acc.length vc) := fun o => keepc (below_one _ _) _ _ z0)
              | (refine step_pushS rfl _ _ rfl (w.heap.size + 2) (.slice va acc.length vc) acc (by first | (simp [Act.eval]; done) | simp [Act.eval, Act.put]) (I3.out.own.below (nxt ((Below.refl _ _).drew.trans hb4) (below_one _ _))) tn a4 c4 w3.heap.size (Bs.up (hs4.below (below_one _ _)) (fun g hg => by have := (hs4.base g hg).1; omega)) (fun g hg => (hs4.base g hg).1) (fun xs q1 q2 j x g hx hg => (I3.out.own.lt_of q1 ((nxt ((Below.refl _ _).drew.trans hb4) (below_one _ _)).block) hx hg)) (by have := HTN.out; omega) ⟨w4.heap.size, 0, none⟩ (by first | (simp [Act.eval]; done) | simp [Act.eval, Act.put]) (fun j u hj => newCells w4 _ _ j u (by simpa using hj)) (by omega) (by have := hb4.size; have e : w3.drew.heap.size = w3.heap.size := rfl; simp; omega) ?_; intro v' w5 k1 k2
                 have hbx : w5.heap[w.heap.size + 1]? = some (.cells #[.slice va acc.length vc, .int .i64 z] 26 (0, 0)) := by
                   have hq := ((nxt ((Below.refl _ w3).drew.trans hb4) (below_one w4 (.cells #[.slice a4 tn.length c4] 25))).block _ (lt_of_block I3.out.box)).trans I3.out.box
                   rw [k2.block _ (lt_of_block hq) (fun e => by have := (I3.out.own.row _ e.symm).1; omega)]
                   exact hq
                 have hrs5 : w5.heap[w.heap.size]? = some (.cells #[.slice none 0 0, .int .i64 0] 26 (0, 0)) := by
                   have hq := ((nxt ((Below.refl _ w3).drew.trans hb4) (below_one w4 (.cells #[.slice a4 tn.length c4] 25))).block _ (lt_of_block I3.out.res)).trans I3.out.res
                   rw [k2.block _ (lt_of_block hq) (fun e => by have := (I3.out.own.row _ e.symm).1; omega)]
                   exact hq
                 have hc5 := (cell_of hbx 0).1
                 have hf5 := (cell_of hbx 0).2
                 simp at hc5
                 obtain ⟨av', cv', rfl⟩ := k1.shape))
            all_goals
              go_wp2_with fail
              go_meet
              refine ⟨av', cv', ?_⟩
              have bX := nxt ((Below.refl _ w3).drew.trans hb4) (below_one w4 (.cells #[.slice a4 tn.length c4] 25))
              have hbb : Below w.heap.size w w5 := (nxt I3.out.bel bX).grown k2 (by have := bX.size; omega) (fun j e => by have := (I3.out.own.row j e).1; omega)
              rw [← HAC.out]
              refine ⟨?_, ?_, k1.set hbx (by decide) (by decide) _, hbb.setCell (by show w.heap.size ≤ w.heap.size + 1; omega) _⟩
              · rw [Below.heap_setCell _ _ _ _ (by show w.heap.size ≠ w.heap.size + 1; omega)]
                exact hrs5
              · have := set_one_cell (o := 0) hbx (.slice av' (acc ++ [tn]).length cv')
                simpa using this
          case rest =>
            obtain ⟨va', vc', I4⟩ := hcut
            obtain ⟨td, htd⟩ : ∃ td, t.drop n = td := ⟨_, rfl⟩
            have HTD : Hid (td.length = tl - n) := by show _ = _; rw [← htd, List.length_drop, HTL.out]
            have HFT : Hid (t.drop n = td) := htd
            rw [htd] at HRN
            clear htd
            obtain ⟨z2, hz2e⟩ : ∃ z2, wrap64 (z + rs.length) = z2 := ⟨_, rfl⟩
            rw [hz2e] at HRN HWR
            have I5 : Hid (RcI w (wc.setCell ⟨w.heap.size + 1, 1, none⟩ (.int .i64 z2)) acc2 z2 va' vc') := by
              refine ⟨?_, ?_, I4.out.own.set I4.out.box (by decide) (by decide) _, I4.out.bel.setCell (by show w.heap.size ≤ w.heap.size + 1; omega) _⟩
              · rw [Below.heap_setCell _ _ _ _ (by show w.heap.size ≠ w.heap.size + 1; omega)]
                exact I4.out.res
              · have := set_one_cell (o := 1) I4.out.box (.int .i64 z2)
                simpa using this
            have HBL : Hid (∀ W a' c', LayB W a' td → Calls Try.prog 38 #[.slice a' (tl - n) c'] W fun e w' => ∃ b : Bool, e = .returned (.bool b) ∧ ((allZ td ∧ b = true) ∨ (¬ allZ td ∧ b = false)) ∧ w' = W) := by
              intro W a' c' h
              have := blank_any a' c' td W h (by rw [HTD.out]; omega)
              rw [HTD.out] at this
              exact this
            have HO5 : Hid (Oct (wc.setCell ⟨w.heap.size + 1, 1, none⟩ (.int .i64 z2)) a1 c1 t) := HO.out.below I5.out.bel
            clear x0 x1 f0 f1 y0 y1 g0 g1 x0d q1
            obtain ⟨x0, x1, f0, f1, -, -, -, -⟩ := I4.out.cells
            have hsl : (c1 = n ∧ Hid (Calls Try.prog 38 #[.slice a1 0 0] (wc.setCell ⟨w.heap.size + 1, 1, none⟩ (.int .i64 z2)) fun e w' => ∃ b : Bool, e = .returned (.bool b) ∧ ((allZ td ∧ b = true) ∨ (¬ allZ td ∧ b = false)) ∧ w' = (wc.setCell ⟨w.heap.size + 1, 1, none⟩ (.int .i64 z2)))) ∨ (n < c1 ∧ ∃ b' off', a1 = some ⟨b', off', none⟩ ∧ Hid (Calls Try.prog 38 #[.slice (some ⟨b', off' + n, none⟩) (tl - n) (c1 - n)] (wc.setCell ⟨w.heap.size + 1, 1, none⟩ (.int .i64 z2)) fun e w' => ∃ b : Bool, e = .returned (.bool b) ∧ ((allZ td ∧ b = true) ∨ (¬ allZ td ∧ b = false)) ∧ w' = (wc.setCell ⟨w.heap.size + 1, 1, none⟩ (.int .i64 z2)))) := by
              by_cases hcn : n < c1
              · refine Or.inr ⟨hcn, ?_⟩
                cases a1 with
                | none => exact absurd (HO5.out.2.2.2.2.1 rfl) (by omega)
                | some ad =>
                  have hpl := HO5.out.2.2.2.2.2 ad rfl (by omega)
                  refine ⟨ad.block, ad.off, by rw [← hpl], ?_⟩
                  have hO : Oct (wc.setCell ⟨w.heap.size + 1, 1, none⟩ (.int .i64 z2)) (some ⟨ad.block, ad.off, none⟩) c1 t := by rw [← hpl]; exact HO5.out
                  have hp := Oct.part hO n t.length (by rw [HTL.out]; exact hns) (Nat.le_refl _)
                  rw [List.take_length, HFT.out] at hp
                  exact HBL.out _ _ _ hp.1
              · have htdn : td = [] := List.eq_nil_of_length_eq_zero (by rw [HTD.out]; omega)
                have hcl := HBL.out (wc.setCell ⟨w.heap.size + 1, 1, none⟩ (.int .i64 z2)) a1 0 (by rw [htdn]; intro i o h; simp at h)
                rw [show tl - n = 0 by omega] at hcl
                exact Or.inl ⟨by omega, hcl⟩
            have HALL : Hid (acc2.length = acc.length + 1) := by show _ = _; rw [← HAC.out]; simp
            by_cases hz : allZ td
            · rw [if_pos hz] at HRN
              have HNE : Hid (rcv ss nx = (acc2 ++ (rcv (ss.drop (m + 1)) z2).1, (rcv (ss.drop (m + 1)) z2).2)) := by
                show _ = _
                rw [HE.out, HRN.out, ← HAC.out]
                simp
              have HZ : Hid (allZ td) := hz
              clear hz
              rcases hsl with ⟨rfl, HC⟩ | ⟨hcn, b', off', rfl, HC⟩
              all_goals
                go_wp2_with (go_at_call 38; (try rw [hz2e]); refine HC.out.mono ?_; rintro e w6 ⟨bb, rfl, hbb, hw6⟩; subst w6; obtain rfl : bb = true := (by rcases hbb with ⟨-, h⟩ | ⟨h, -⟩; exact h; exact absurd HZ.out h); clear hbb)
                refine ⟨⟨m + 1, acc2, z2, va', vc', by go_num, by omega, HWR.out.1, HWR.out.2, ?_, I5.out, HNE.out⟩, by simp [intOf]; omega⟩
                show _ ≤ _
                rw [HALL.out]
                omega
            · rw [if_neg hz] at HRN
              have HFE : Hid (rcv ss nx = (acc2, z2)) := by
                show _ = _
                rw [HE.out, HRN.out, ← HAC.out]
              have HZ : Hid (¬ allZ td) := hz
              clear hz
              obtain ⟨p0, p1, -, -, t0, t1, u0, u1⟩ := I5.out.cells
              obtain ⟨r0, r1⟩ := I5.out.ret
              rcases hsl with ⟨rfl, HC⟩ | ⟨hcn, b', off', rfl, HC⟩
              all_goals
                go_wp2_with (go_at_call 38; (try rw [hz2e]); refine HC.out.mono ?_; rintro e w6 ⟨bb, rfl, hbb, hw6⟩; subst w6; obtain rfl : bb = false := (by rcases hbb with ⟨h, -⟩ | ⟨-, h⟩; exact absurd h HZ.out; exact h); clear hbb)
                refine bodyPost_ret (v := .tuple #[.agg #[.slice va' acc2.length vc', .int .i64 z2], .int .i64 0]) (by simp [results, Try.results24, go_sem, r0, r1]) rfl ?_
                rw [HFE.out]
                exact I5.out.fin
    · have hme : m = ss.length := by omega
      subst hme
      have HFE : Hid (rcv ss nx = (acc, z)) := by
        show _ = _
        rw [HE.out, List.drop_length]
        simp [rcv]
      obtain ⟨x0, x1, f0, f1, y0, y1, g0, g1⟩ := HI.out.cells
      obtain ⟨r0, r1⟩ := HI.out.ret
      go_wp2_with fail
      refine bodyPost_ret (v := .tuple #[.agg #[.slice va acc.length vc, .int .i64 z], .int .i64 0]) (by simp [results, Try.results24, go_sem, r0, r1]) rfl ?_
      rw [HFE.out]
      exact HI.out.fin
end Go.Proofs.Ytocodkoanjcmkab
