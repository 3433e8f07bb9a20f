/-
  The page's Append.
-/
import Derived.Test.YtocodkoanjcmkabWlPOwn
import Derived.Test.YtocodkoanjcmkabSeSpot
namespace Go.Proofs.Ytocodkoanjcmkab
open Go.ChangeShapes Go.WideShapes Go.ChangeAt Go.RowKit Go.Deep
open Se

/-- The boxes of the page's Append. -/
structure TwoP (w W : World) (x0 x1 : Value) : Prop where
  par : W.heap[w.heap.size]? = some (.cells #[x0, x1] 24 (0, 0))
  res : W.heap[w.heap.size + 1]? = some (.cells #[.slice none 0 0, .int .i64 0] 24 (0, 0))
  bel : Below w.heap.size w W
theorem TwoP.new (w : World) (x0 x1 : Value) : TwoP w ((w.alloc (.cells #[x0, x1] 24)).alloc (.cells #[.slice none 0 0, .int .i64 0] 24)) x0 x1 :=
  ⟨(Below.heap_alloc _ _ _ (by simp)).trans (heap_alloc_new _ _), heap_new2 _ _ _, nxt (below_one _ _) (below_one _ _)⟩
theorem TwoP.below {w W W' : World} {x0 x1 : Value} (h : TwoP w W x0 x1) (hb : Below W.heap.size W W') : TwoP w W' x0 x1 :=
  ⟨(hb.block _ (lt_of_block h.par)).trans h.par, (hb.block _ (lt_of_block h.res)).trans h.res, nxt h.bel hb⟩
theorem TwoP.cells {w W : World} {x0 x1 : Value} (h : TwoP w W x0 x1) : W.cell? ⟨w.heap.size, 0, none⟩ = some x0 ∧ W.cell? ⟨w.heap.size, 1, none⟩ = some x1 := by
  have h0 := (cell_of h.par 0).1
  have h1 := (cell_of h.par 1).1
  simp at h0 h1
  exact ⟨h0, h1⟩
/-- A result in the box. -/
theorem TwoP.ret {w W : World} {x0 x1 : Value} (h : TwoP w W x0 x1) (y0 y1 : Value) : ((W.setCell ⟨w.heap.size + 1, 0, none⟩ y0).setCell ⟨w.heap.size + 1, 1, none⟩ y1).cell? ⟨w.heap.size + 1, 0, none⟩ = some y0 ∧ ((W.setCell ⟨w.heap.size + 1, 0, none⟩ y0).setCell ⟨w.heap.size + 1, 1, none⟩ y1).cell? ⟨w.heap.size + 1, 1, none⟩ = some y1
    ∧ W.cell? ⟨w.heap.size + 1, 0, none⟩ = some (.slice none 0 0) ∧ W.cell? ⟨w.heap.size + 1, 1, none⟩ = some (.int .i64 0) ∧ W.frozen? ⟨w.heap.size + 1, 0, none⟩ = false ∧ W.frozen? ⟨w.heap.size + 1, 1, none⟩ = false := by
  have h1 := set_one_cell (o := 0) h.res y0
  have h2 := set_one_cell (o := 1) h1 y1
  have s0 := (cell_of h2 0).1
  have s1 := (cell_of h2 1).1
  have r0 := (cell_of h.res 0)
  have r1 := (cell_of h.res 1)
  simp at s0 s1 r0 r1
  exact ⟨s0, s1, r0.1, r1.1, r0.2, r1.2⟩
theorem TwoP.fin {w W : World} {x0 x1 : Value} (h : TwoP w W x0 x1) (y0 y1 : Value) : Below w.heap.size w ((W.setCell ⟨w.heap.size + 1, 0, none⟩ y0).setCell ⟨w.heap.size + 1, 1, none⟩ y1) :=
  (h.bel.setCell (by show w.heap.size ≤ w.heap.size + 1; omega) _).setCell (by show w.heap.size ≤ w.heap.size + 1; omega) _

theorem TwoP.low {w W W' : World} {x0 x1 : Value} (h : TwoP w W x0 x1) {B : Nat} (hB : w.heap.size + 1 < B) (hb : Below B W W') : TwoP w W' x0 x1 :=
  ⟨(hb.block _ (by omega)).trans h.par, (hb.block _ hB).trans h.res, h.bel.trans (hb.mono (by omega))⟩
/-- The box of the result is written: the segments stay. -/
theorem OwnS.retP {w W : World} {B : Nat} {v x0 x1 : Value} {ss : List (List UInt8)} (h : OwnS W B v ss) (T : TwoP w W x0 x1) (y0 y1 : Value) : OwnS ((W.setCell ⟨w.heap.size + 1, 0, none⟩ y0).setCell ⟨w.heap.size + 1, 1, none⟩ y1) B v ss :=
  (h.set T.res (by decide) (by decide) _).set (set_one_cell (o := 0) T.res y0) (by decide) (by decide) _

theorem chkW_two (ss : List (List UInt8)) (nx : Int) : chkW ss nx = 0 ∨ chkW ss nx = 9 := by
  unfold chkW
  repeat' split
  all_goals simp

set_option maxRecDepth 100000 in
set_option maxHeartbeats 6400000 in
theorem rappend_any (ss : List (List UInt8)) (nx : Int) (a : Option Addr) (c : Nat) (d : List UInt8) (ad : Option Addr) (cd : Nat) (w : World) (hS : LayS w a ss) (hn : ss.length ≤ 200000000000000) (hsm : ∀ l ∈ ss, l.length ≤ 2000000) (h1 : -9223372036854775808 ≤ nx) (h2 : nx ≤ 9223372036854775807) (hd : Oct w ad cd d) :
    Calls Try.prog 12 #[.agg #[.slice a ss.length c, .int .i64 nx], .slice ad d.length cd] w (AppPost w (appR ss nx d) (nxtR ss nx d)) := by
  have HS : Hid (LayS w a ss) := hS
  have HD : Hid (Oct w ad cd d) := hd
  have hdl := hd.2.2.2.1
  have HC : Hid (∀ W, Below w.heap.size w W → Calls Try.prog 21 #[.agg #[.slice a ss.length c, .int .i64 nx]] W fun e w' => e = .returned (.int .i64 (chkW ss nx)) ∧ Below W.heap.size W w') := fun W hb => rcheck_any ss nx a c W (HS.out.below hb) hn hsm h1 h2
  clear hS hd hsm
  have T0 : Hid (TwoP w ((w.alloc (.cells #[.slice a ss.length c, .int .i64 nx] 24)).alloc (.cells #[.slice none 0 0, .int .i64 0] 24)) (.slice a ss.length c) (.int .i64 nx)) := TwoP.new _ _ _
  have HOK := chkW_ok (ss := ss) (nx := nx)
  have H09 := chkW_two ss nx
  unfold nxtR appR
  generalize chkW ss nx = ck at *
  by_cases hck : ck ≠ 0
  · obtain rfl : ck = 9 := by omega
    rw [if_pos hck]
    simp only
    rw [if_neg hck]
    have hckb : ((9 : Int) != 0) = true := by decide
    clear HOK H09 hck
    go_enter Try.func12, Try.ntmps12
    go_wp2_with (go_at_call 21; refine (HC.out _ T0.out.bel).mono ?_; rintro e w1 ⟨rfl, hb1⟩; have T1 : Hid (TwoP w w1 (.slice a ss.length c) (.int .i64 nx)) := T0.out.below hb1; obtain ⟨r0, r1, z0, z1, f0, f1⟩ := T1.out.ret (.slice none 0 0) (.int .i64 0); clear hb1)
    refine bodyPost_ret (v := .tuple #[.agg #[.slice none 0 0, .int .i64 0], .int .i64 0, .int .i64 9]) (by simp [results, Try.results12, go_sem, z0, z1]) rfl ?_
    exact ⟨_, rfl, OwnS.nil _ _, T1.out.fin _ _⟩
  obtain rfl : ck = 0 := by omega
  clear hck H09
  obtain ⟨hn1, hn2, hn3, -, hrun⟩ := HOK rfl
  have HLN : Hid (∀ l ∈ ss, l.length ≤ 480 ∧ 0 < l.length) := runS_len hrun
  clear hrun
  clear HOK
  have e00 : ((0 : Int) != 0) = false := by decide
  rw [if_neg (by simp)]
  by_cases h400 : 400 < d.length
  · have h400' : (400 : Int) < d.length := by omega
    rw [if_pos h400]
    simp only
    rw [if_neg (by decide)]
    go_enter Try.func12, Try.ntmps12
    go_wp2_with (go_at_call 21; refine (HC.out _ T0.out.bel).mono ?_; rintro e w1 ⟨rfl, hb1⟩; have T1 : Hid (TwoP w w1 (.slice a ss.length c) (.int .i64 nx)) := T0.out.below hb1; obtain ⟨r0, r1, z0, z1, f0, f1⟩ := T1.out.ret (.slice none 0 0) (.int .i64 0); clear hb1)
    refine bodyPost_ret (v := .tuple #[.agg #[.slice none 0 0, .int .i64 0], .int .i64 0, .int .i64 5]) (by simp [results, Try.results12, go_sem, z0, z1]) rfl ?_
    exact ⟨_, rfl, OwnS.nil _ _, T1.out.fin _ _⟩
  have h400' : ¬ (400 : Int) < d.length := by omega
  rw [if_neg h400]
  by_cases hmx : nx = 1099511627776
  · rw [if_pos (Or.inl hmx)]
    simp only
    rw [if_neg (by decide)]
    have hmb : (1099511627776 : Int) ≤ nx := by omega
    clear hmx
    go_enter Try.func12, Try.ntmps12
    go_wp2_with (go_at_call 21; refine (HC.out _ T0.out.bel).mono ?_; rintro e w1 ⟨rfl, hb1⟩; have T1 : Hid (TwoP w w1 (.slice a ss.length c) (.int .i64 nx)) := T0.out.below hb1; obtain ⟨x0, x1⟩ := T1.out.cells; obtain ⟨r0, r1, z0, z1, f0, f1⟩ := T1.out.ret (.slice none 0 0) (.int .i64 0); clear hb1)
    refine bodyPost_ret (v := .tuple #[.agg #[.slice none 0 0, .int .i64 0], .int .i64 0, .int .i64 51]) (by simp [results, Try.results12, go_sem, z0, z1]) rfl ?_
    exact ⟨_, rfl, OwnS.nil _ _, T1.out.fin _ _⟩
  have hmb : ¬ (1099511627776 : Int) ≤ nx := by omega
  have HMX : Hid (¬ nx = 1099511627776) := hmx
  clear hmx
  have HFR : Hid (∀ W, Below w.heap.size w W → Calls Try.prog 34 #[.int .i64 nx, .slice ad d.length cd] W fun e w' => ∃ s, e = .returned s ∧ Bs w' W.heap.size s (rfr nx d) ∧ Below W.heap.size W w') := fun W hb => framed_any nx ad cd d W (HD.out.below hb) (by omega) (by omega) (by omega)
  have HOW : Hid (∀ W, Below w.heap.size w W → Calls Try.prog 33 #[.agg #[.slice a ss.length c, .int .i64 nx]] W fun e w' => ∃ v, e = .returned (.agg #[v, .int .i64 nx]) ∧ OwnS w' W.heap.size v ss ∧ Below W.heap.size W w') := fun W hb => rown_any ss nx a c W (HS.out.below hb) (by omega)
  have hfl := rfr_length nx d
  rw [← hfl]
  have HFL : Hid ((rfr nx d).length ≤ 416 ∧ 16 ≤ (rfr nx d).length) := by constructor <;> omega
  clear hfl
  generalize rfr nx d = F at *
  have HPC : Hid ((fitR ss F.length = true ∧ plc ss F.length = ss.length - 1) ∨ (fitR ss F.length = false ∧ plc ss F.length = ss.length)) := by
    show _ ∨ _
    unfold plc
    cases fitR ss F.length with
    | true => exact Or.inl ⟨rfl, by rw [if_pos rfl]⟩
    | false => exact Or.inr ⟨rfl, by simp⟩
  generalize plc ss F.length = P at *
  obtain ⟨i0, hi0, hz0, hz1, hz2⟩ := info_parts Try.infoBs
  by_cases hfull : P = 64
  · rw [if_pos (Or.inr hfull)]
    simp only
    rw [if_neg (by decide)]
    have hfit : fitR ss F.length = false ∧ ss.length = 64 := by
      rcases HPC.out with ⟨h, h'⟩ | ⟨h, h'⟩
      · omega
      · exact ⟨h, by omega⟩
    obtain ⟨l, hl⟩ : ∃ l, ss[ss.length - 1]? = some l := ⟨_, List.getElem?_eq_getElem (by omega)⟩
    have hlf : 480 < l.length + F.length := by
      have := hfit.1
      unfold fitR at this
      rw [List.getLast?_eq_getElem?, hl] at this
      simpa using this
    have HL : Hid (ss[ss.length - 1]? = some l) := hl
    have hl480 := (HLN.out l (List.mem_of_getElem? hl)).1
    have hF416 := HFL.out.1
    have hge : (64 : Int) ≤ (ss.length : Int) := by have := hfit.2; omega
    have hnn : ¬ (ss.length : Int) - 1 < 0 := by omega
    have hnn2 : (0 : Int) ≤ (ss.length : Int) - 1 := by omega
    have hix : ((ss.length : Int) - 1).toNat = ss.length - 1 := by omega
    have hlb : (480 : Int) < (l.length : Int) + (F.length : Int) := by omega
    clear hfit HPC hl hlf hfull
    go_enter Try.func12, Try.ntmps12
    go_wp2_with (first
        | (go_at_call 21; refine (HC.out _ T0.out.bel).mono ?_; rintro e w1 ⟨rfl, hb1⟩; have T1 : Hid (TwoP w w1 (.slice a ss.length c) (.int .i64 nx)) := T0.out.below hb1; obtain ⟨x0, x1⟩ := T1.out.cells; clear hb1)
        | (go_at_call 33; refine (HOW.out _ T1.out.bel).mono ?_; rintro e w2 ⟨v2, rfl, ho2, hb2⟩; obtain ⟨va, vc, rfl⟩ := ho2.shape; have T2 : Hid (TwoP w w2 (.slice a ss.length c) (.int .i64 nx)) := T1.out.below hb2; have HO2 : Hid (OwnS w2 w1.heap.size (.slice va ss.length vc) ss) := ho2; have hw1w2 : w1.heap.size ≤ w2.heap.size := hb2.size; have T3 : Hid (TwoP w (w2.alloc (.cells #[.slice va ss.length vc, .int .i64 nx] 24)) (.slice a ss.length c) (.int .i64 nx)) := T2.out.below (below_one _ _); clear x0 x1 hb2 ho2; obtain ⟨x0, x1⟩ := T3.out.cells))
    refine (HFR.out _ T3.out.bel).mono ?_
    rintro e w4 ⟨s4, rfl, hs4, hb4⟩
    obtain ⟨fa, fc, rfl⟩ := hs4.shape
    have T4 : Hid (TwoP w w4 (.slice a ss.length c) (.int .i64 nx)) := T3.out.below hb4
    have S4 : Hid (Bs w4 (w2.heap.size + 1) (.slice fa F.length fc) F) := hs4.up (fun g hg => by have := (hs4.base g hg).1; simp at this; omega)
    have BX : Hid (w4.heap[w2.heap.size]? = some (.cells #[.slice va ss.length vc, .int .i64 nx] 24 (0, 0))) := (hb4.block _ (by simp)).trans (heap_alloc_new _ _)
    have HO4 : Hid (OwnS w4 w1.heap.size (.slice va ss.length vc) ss) := (HO2.out.below (below_one _ _)).below hb4
    have hb24 : w2.heap.size < w4.heap.size := lt_of_block BX.out
    clear x0 x1 hs4 hb4
    obtain ⟨x0, x1⟩ := T4.out.cells
    obtain ⟨y0, f0⟩ := cell_of BX.out 0
    obtain ⟨y1, f1⟩ := cell_of BX.out 1
    simp at y0 y1
    obtain ⟨gv, hva, xs, hrow, hit, hap, sa, sc, hxp, hsb, hcell⟩ := HO4.out.at HL.out
    subst hva
    clear hrow hit hap hxp hsb
    obtain ⟨r0, r1, z0, z1, g0, g1⟩ := T4.out.ret (.slice none 0 0) (.int .i64 0)
    go_wp2_with fail
    refine bodyPost_ret (v := .tuple #[.agg #[.slice none 0 0, .int .i64 0], .int .i64 0, .int .i64 51]) (by simp [results, Try.results12, go_sem, z0, z1]) rfl ?_
    exact ⟨_, rfl, OwnS.nil _ _, T4.out.fin _ _⟩
  rw [if_neg (by rintro (h | h); exact HMX.out h; exact hfull h)]
  simp only
  rw [if_pos trivial]
  rcases HPC.out with ⟨hfit, hP⟩ | ⟨hfit, hP⟩
  · have hss : ss ≠ [] := by rintro rfl; simp [fitR] at hfit
    have hpos : 0 < ss.length := List.length_pos_iff.2 hss
    obtain ⟨l, hl⟩ : ∃ l, ss[ss.length - 1]? = some l := ⟨_, List.getElem?_eq_getElem (by omega)⟩
    have hlf : l.length + F.length ≤ 480 := by
      unfold fitR at hfit
      rw [List.getLast?_eq_getElem?, hl] at hfit
      simpa using hfit
    have HAD : Hid (addS ss F = ss.set P (l ++ F)) := by show _ = _; rw [addS_fit hl hlf, hP]
    rw [HAD.out]
    have HL : Hid (ss[P]? = some l) := by show _ = _; rw [hP]; exact hl
    have hPL : P < ss.length := by omega
    have hl480 := (HLN.out l (List.mem_of_getElem? hl)).1
    have hF416 := HFL.out.1
    have hlb : ¬ (480 : Int) < (l.length : Int) + (F.length : Int) := by omega
    have hnn : ¬ (ss.length : Int) - 1 < 0 := by omega
    have hnn2 : (0 : Int) ≤ (ss.length : Int) - 1 := by omega
    have hix : ((ss.length : Int) - 1).toNat = P := by omega
    have HPI : Hid ((ss.length : Int) - 1 = (P : Int)) := by show _ = _; omega
    clear hss hl hfit hP HPC HAD hfull
    go_enter Try.func12, Try.ntmps12
    go_wp2_with (first
        | (go_at_call 21; refine (HC.out _ T0.out.bel).mono ?_; rintro e w1 ⟨rfl, hb1⟩; have T1 : Hid (TwoP w w1 (.slice a ss.length c) (.int .i64 nx)) := T0.out.below hb1; obtain ⟨x0, x1⟩ := T1.out.cells; clear hb1)
        | (go_at_call 33; refine (HOW.out _ T1.out.bel).mono ?_; rintro e w2 ⟨v2, rfl, ho2, hb2⟩; obtain ⟨va, vc, rfl⟩ := ho2.shape; have T2 : Hid (TwoP w w2 (.slice a ss.length c) (.int .i64 nx)) := T1.out.below hb2; have HO2 : Hid (OwnS w2 w1.heap.size (.slice va ss.length vc) ss) := ho2; have hw1w2 : w1.heap.size ≤ w2.heap.size := hb2.size; have T3 : Hid (TwoP w (w2.alloc (.cells #[.slice va ss.length vc, .int .i64 nx] 24)) (.slice a ss.length c) (.int .i64 nx)) := T2.out.below (below_one _ _); clear x0 x1 hb2 ho2; obtain ⟨x0, x1⟩ := T3.out.cells))
    refine (HFR.out _ T3.out.bel).mono ?_
    rintro e w4 ⟨s4, rfl, hs4, hb4⟩
    obtain ⟨fa, fc, rfl⟩ := hs4.shape
    have T4 : Hid (TwoP w w4 (.slice a ss.length c) (.int .i64 nx)) := T3.out.below hb4
    have S4 : Hid (Bs w4 (w2.heap.size + 1) (.slice fa F.length fc) F) := hs4.up (fun g hg => by have := (hs4.base g hg).1; simp at this; omega)
    have BX : Hid (w4.heap[w2.heap.size]? = some (.cells #[.slice va ss.length vc, .int .i64 nx] 24 (0, 0))) := (hb4.block _ (by simp)).trans (heap_alloc_new _ _)
    have HO4 : Hid (OwnS w4 w1.heap.size (.slice va ss.length vc) ss) := (HO2.out.below (below_one _ _)).below hb4
    have hb24 : w2.heap.size < w4.heap.size := lt_of_block BX.out
    clear x0 x1 hs4 hb4
    obtain ⟨x0, x1⟩ := T4.out.cells
    obtain ⟨y0, f0⟩ := cell_of BX.out 0
    obtain ⟨y1, f1⟩ := cell_of BX.out 1
    simp at y0 y1
    obtain ⟨gv, hva, xs, hrow, hit, hap, sa, sc, hxp, hsb, hcell⟩ := HO4.out.at HL.out
    subst hva
    have HR4 : Hid (w4.ownsRow w1.heap.size 25 1 (.slice (some ⟨gv, 0, none⟩) ss.length vc) ss.length xs) := hrow
    have HI4 : Hid (SItems w4 w1.heap.size ss xs) := hit
    have HA4 : Hid (ApartV xs) := hap
    have HX4 : Hid (xs[P]? = some (.slice sa l.length sc)) := hxp
    have HB4 : Hid (Bs w4 w1.heap.size (.slice sa l.length sc) l) := hsb
    clear hrow hit hap hxp hsb
    go_wp2_with fail
    obtain ⟨gF, hfa, -⟩ := S4.out.spot (by have := HFL.out.2; omega)
    subst hfa
    have y0d : w4.drew.cell? ⟨w2.heap.size, 0, none⟩ = _ := y0
    have hcelld : w4.drew.cell? ⟨gv, P, none⟩ = _ := hcell
    have hw12 : w1.heap.size ≤ w4.heap.size := by have := (HO4.out.row gv rfl).1; have := (HO4.out.row gv rfl).2.1; omega
    have HXSL : Hid (xs.length = ss.length) := by have := HR4.out.1; show _ = _; omega
    go_cut [] (fun wc => Hid (OwnS wc w1.heap.size (.slice (some ⟨gv, 0, none⟩) ss.length vc) ((ss).set P (l ++ F)) ∧ wc.heap[w2.heap.size]? = some (.cells #[.slice (some ⟨gv, 0, none⟩) ss.length vc, .int .i64 nx] 24 (0, 0)) ∧ TwoP w wc (.slice a ss.length c) (.int .i64 nx)))
    case first =>
      go_region_law (refine step_app rfl _ _ rfl w1.heap.size (.slice sa (l).length sc) l F (by first | (simp [Act.eval]; done) | simp [Act.eval, Act.put]) (HB4.out.below (Below.refl _ _).drew) ⟨gF, 0, none⟩ fc (by first | (simp [Act.eval]; done) | simp [Act.eval, Act.put]) (fun j u hj => by rw [add_plain, Nat.zero_add]; exact ((S4.out.below (Below.refl _ _).drew).cell hj).1) (by omega) hw12 ?_; intro s5 w5 hs5 hr5; obtain ⟨a5, c5, rfl⟩ := hs5.shape; have hr5' : RowTo w4 w5 (.slice sa (l).length sc) _ := RowTo.pre (Below.refl _ _).drew hr5; obtain ⟨ho5, cur5, hcur5, hpc⟩ := OwnS.put HR4.out HI4.out HA4.out HL.out HX4.out hs5 hr5' (by rw [List.length_append]; omega); have hkp : ∀ (k : Nat) (cs : Array Value) (t : TypeId) (r : Nat × Nat), t ≠ 5 → w4.heap[k]? = some (.cells cs t r) → w5.heap[k]? = some (.cells cs t r) := (fun k cs t r ht hk => (hr5'.block (lt_of_block hk) (fun e => by obtain ⟨-, -, cur, h5⟩ := HI4.out.lt HXSL.out HX4.out e; rw [hk] at h5; simp only [Option.some.injEq, Obj.cells.injEq] at h5; exact ht h5.2.1)).trans hk); have hbx5 := hkp _ _ _ _ (by decide) BX.out; have y5 := (cell_of hbx5 0).1; simp at y5; obtain ⟨c5a, c5b⟩ := cell_of hcur5 P; rw [Array.getElem?_eq_getElem hpc] at c5a)
      all_goals
        go_wp2_with fail
        go_meet
        have hw1 := lt_of_block T1.out.res
        have hgv : w1.heap.size ≤ gv := (HO4.out.row gv rfl).1
        have hne : w2.heap.size ≠ gv := by
          intro e
          rw [e, hcur5] at hbx5
          simp at hbx5
        have hb5 : Below w1.heap.size w4 w5 := hr5'.below hw12 fun g hg => (HB4.out.base g hg).1
        refine ⟨by first | exact ho5 | (rw [List.length_append] at ho5; exact ho5) | (simpa using ho5), ?_, ?_⟩
        · rw [Below.heap_setCell _ _ _ _ (by show w2.heap.size ≠ gv; exact hne)]
          exact hbx5
        · exact (T4.out.low hw1 hb5).low hw1 ((Below.refl _ _).setCell (by show w1.heap.size ≤ gv; exact hgv) _)
    case rest =>
      obtain ⟨ho6, hbx6, hT6⟩ := hcut.out
      have HO6 : Hid (OwnS wc w1.heap.size (.slice (some ⟨gv, 0, none⟩) ss.length vc) ((ss).set P (l ++ F))) := ho6
      have HBX6 : Hid (wc.heap[w2.heap.size]? = some (.cells #[.slice (some ⟨gv, 0, none⟩) ss.length vc, .int .i64 nx] 24 (0, 0))) := hbx6
      have hbx7 := set_one_cell (o := 1) hbx6 (.int .i64 (nx + 1))
      have hw1 := lt_of_block T1.out.res
      have hw12' : w1.heap.size ≤ w2.heap.size := hw1w2
      have T7 : Hid (TwoP w (wc.setCell ⟨w2.heap.size, 1, none⟩ (.int .i64 (nx + 1))) (.slice a ss.length c) (.int .i64 nx)) := hT6.low hw1 ((Below.refl _ _).setCell (by show w1.heap.size ≤ w2.heap.size; exact hw12') _)
      obtain ⟨k0, k0f⟩ := cell_of hbx6 0
      obtain ⟨k1, k1f⟩ := cell_of hbx6 1
      obtain ⟨m0, -⟩ := cell_of hbx7 0
      obtain ⟨m1, -⟩ := cell_of hbx7 1
      simp at k0 k1 m0 m1
      obtain ⟨r0, r1, z0, z1, g0, g1⟩ := T7.out.ret (.slice (some ⟨gv, 0, none⟩) ss.length vc) (.int .i64 (nx + 1))
      clear ho6 hbx7 hT6 hcut x0 x1 y0 y1 f0 f1 hcell
      go_wp2_with fail
      refine bodyPost_ret (v := .tuple #[.agg #[.slice (some ⟨gv, 0, none⟩) ss.length vc, .int .i64 (nx + 1)], .int .i64 ((ss.length : Int) - 1), .int .i64 0]) (by simp [results, Try.results12, go_sem, r0, r1]) rfl ?_
      exact ⟨_, by rw [HPI.out], ((HO6.out.set hbx6 (by decide) (by decide) _).retP T7.out _ _).base (by omega), T7.out.fin _ _⟩
  · subst hP
    have HAD : Hid (addS ss F = ss ++ [F]) := by show _ = _; rw [addS_more hfit]; simp
    have HSE : Hid ((ss ++ [[]]).set ss.length F = ss ++ [F]) := by show _ = _; simp
    have hixx : (ss.length : Int) < (ss.length : Int) + 1 := by omega
    rw [HAD.out]
    have HL : Hid ((ss ++ [[]])[ss.length]? = some []) := by show _ = _; simp
    have HLS : Hid ((ss ++ [[]] : List (List UInt8)).length = ss.length + 1) := by show _ = _; simp
    have hF416 := HFL.out.1
    have hlt64 : ¬ (64 : Int) ≤ (ss.length : Int) := by omega
    have hcs : ((ss.length : Int) - 1 < 0) ∨ (¬ (ss.length : Int) - 1 < 0 ∧ ∃ l, ss[ss.length - 1]? = some l ∧ l.length ≤ 480 ∧ (480 : Int) < (l.length : Int) + (F.length : Int)) := by
      by_cases h : ss.length = 0
      · exact Or.inl (by omega)
      · refine Or.inr ⟨by omega, ss[ss.length - 1]'(by omega), List.getElem?_eq_getElem (by omega), (HLN.out _ (List.getElem_mem _)).1, ?_⟩
        unfold fitR at hfit
        rw [List.getLast?_eq_getElem?, List.getElem?_eq_getElem (by omega)] at hfit
        simp only [decide_eq_false_iff_not] at hfit
        omega
    clear hfit HPC HAD hfull
    rcases hcs with hem | ⟨hnn, l, hl, hl480, hlb⟩
    · skip
      go_enter Try.func12, Try.ntmps12
      go_wp2_with (first
          | (go_at_call 21; refine (HC.out _ T0.out.bel).mono ?_; rintro e w1 ⟨rfl, hb1⟩; have T1 : Hid (TwoP w w1 (.slice a ss.length c) (.int .i64 nx)) := T0.out.below hb1; obtain ⟨x0, x1⟩ := T1.out.cells; clear hb1)
          | (go_at_call 33; refine (HOW.out _ T1.out.bel).mono ?_; rintro e w2 ⟨v2, rfl, ho2, hb2⟩; obtain ⟨va, vc, rfl⟩ := ho2.shape; have T2 : Hid (TwoP w w2 (.slice a ss.length c) (.int .i64 nx)) := T1.out.below hb2; have HO2 : Hid (OwnS w2 w1.heap.size (.slice va ss.length vc) ss) := ho2; have hw1w2 : w1.heap.size ≤ w2.heap.size := hb2.size; have T3 : Hid (TwoP w (w2.alloc (.cells #[.slice va ss.length vc, .int .i64 nx] 24)) (.slice a ss.length c) (.int .i64 nx)) := T2.out.below (below_one _ _); clear x0 x1 hb2 ho2; obtain ⟨x0, x1⟩ := T3.out.cells))
      refine (HFR.out _ T3.out.bel).mono ?_
      rintro e w4 ⟨s4, rfl, hs4, hb4⟩
      obtain ⟨fa, fc, rfl⟩ := hs4.shape
      have T4 : Hid (TwoP w w4 (.slice a ss.length c) (.int .i64 nx)) := T3.out.below hb4
      have S4 : Hid (Bs w4 (w2.heap.size + 1) (.slice fa F.length fc) F) := hs4.up (fun g hg => by have := (hs4.base g hg).1; simp at this; omega)
      have BX : Hid (w4.heap[w2.heap.size]? = some (.cells #[.slice va ss.length vc, .int .i64 nx] 24 (0, 0))) := (hb4.block _ (by simp)).trans (heap_alloc_new _ _)
      have HO4 : Hid (OwnS w4 w1.heap.size (.slice va ss.length vc) ss) := (HO2.out.below (below_one _ _)).below hb4
      have hb24 : w2.heap.size < w4.heap.size := lt_of_block BX.out
      clear x0 x1 hs4 hb4
      obtain ⟨x0, x1⟩ := T4.out.cells
      obtain ⟨y0, f0⟩ := cell_of BX.out 0
      obtain ⟨y1, f1⟩ := cell_of BX.out 1
      simp at y0 y1
      obtain ⟨ys, hrw, hit0, hap0⟩ := HO4.out
      have HRW : Hid (w4.ownsRow w1.heap.size 25 1 (.slice va ss.length vc) ss.length ys) := hrw
      have HIT : Hid (SItems w4 w1.heap.size ss ys) := hit0
      have HAP : Hid (ApartV ys) := hap0
      have hw14 : w1.heap.size ≤ w4.heap.size := by omega
      clear hrw hit0 hap0
      go_wp2_with (at_builtin; refine wpList_append_apart _ rfl _ _ 22 rfl w1.heap.size 25 i0 _ 1 24 Try.underlying22 hi0 hz0 hz1 hz2 rfl (by decide) (.slice va ss.length vc) ss.length ys rfl (ownsRow_same HRW.out fun g hg => (below_one w4 _).block g (HRW.out.lt g hg).2) (some ⟨w4.heap.size, 0, none⟩) 1 1 [.slice none 0 0] rfl (by simp) rfl (fun ad' e k u hk => by cases e; exact newCells w4 _ _ k u (by rw [← Array.getElem?_toList]; exact hk)) (by simp [Value.oneCell']) (by unfold maxLen; omega) (by omega) (by simp; omega) ?_)
      intro v6 w6 hrow6 hgr6 _
      have bX := below_one w4 (.cells #[.slice none 0 0] 25)
      have ho6 : OwnS w6 w1.heap.size v6 (ss ++ [[]]) := OwnS.pushed (l := []) (a := none) (c := 0) (ownsRow_same HRW.out fun g hg => bX.block g (HRW.out.lt g hg).2) (HIT.out.kpb (KpB.below bX)) HAP.out hrow6 hgr6 (Bs.nil _ _) (by simp) (fun j x g _ _ e => by simp [Value.ownBlock] at e)
      have hsh := ho6.shape
      rw [HLS.out] at hsh
      obtain ⟨va6, vc6, rfl⟩ := hsh
      have hw1 := lt_of_block T1.out.res
      have hkp6 : ∀ (k : Nat) (cs : Array Value) (t : TypeId) (r : Nat × Nat), t ≠ 25 → w4.heap[k]? = some (.cells cs t r) → w6.heap[k]? = some (.cells cs t r) := (fun k cs t r ht hk => (hgr6.block k (by have := lt_of_block hk; simp; omega) (fun e => by obtain ⟨-, -, cur, h5⟩ := HO4.out.row k e.symm; rw [hk] at h5; simp only [Option.some.injEq, Obj.cells.injEq] at h5; exact ht h5.2.1)).trans ((bX.block k (lt_of_block hk)).trans hk))
      have hbx6 := hkp6 _ _ _ _ (by decide) BX.out
      have B46 : Below w1.heap.size w4 w6 := (bX.mono hw14).grown hgr6 (by simp; omega) (fun j e => (HRW.out.lt j e).1)
      have T6 : Hid (TwoP w w6 (.slice a ss.length c) (.int .i64 nx)) := T4.out.low hw1 B46
      have S6 : Bs w6 (w2.heap.size + 1) (.slice fa F.length fc) F := S4.out.kpb ⟨B46.size, fun j cs r hj => (hkp6 j cs _ r (by decide) hj).trans hj.symm⟩
      have hset := set_one_cell (o := 0) hbx6 (.slice va6 (ss.length + 1) vc6)
      have TN : Hid (TwoP w (w6.setCell ⟨w2.heap.size, 0, none⟩ (.slice va6 (ss.length + 1) vc6)) (.slice a ss.length c) (.int .i64 nx)) := T6.out.low hw1 ((Below.refl _ _).setCell (by show w1.heap.size ≤ w2.heap.size; exact hw1w2) _)
      have SN : Hid (Bs (w6.setCell ⟨w2.heap.size, 0, none⟩ (.slice va6 (ss.length + 1) vc6)) (w2.heap.size + 1) (.slice fa F.length fc) F) := S6.kpb (KpB.set hbx6 (by decide) _)
      have BN : Hid ((w6.setCell ⟨w2.heap.size, 0, none⟩ (.slice va6 (ss.length + 1) vc6)).heap[w2.heap.size]? = some (.cells #[.slice va6 (ss.length + 1) vc6, .int .i64 nx] 24 (0, 0))) := hset
      have ON : Hid (OwnS (w6.setCell ⟨w2.heap.size, 0, none⟩ (.slice va6 (ss.length + 1) vc6)) w1.heap.size (.slice va6 (ss.length + 1) vc6) (ss ++ [[]])) := ho6.set hbx6 (by decide) (by decide) _
      obtain ⟨q0, q0f⟩ := cell_of hbx6 0
      obtain ⟨q1, q1f⟩ := cell_of hbx6 1
      simp at q0 q1
      clear hrow6 hgr6 bX ho6 hkp6 hbx6 B46 T6 S6 hset HRW HIT HAP x0 x1 y0 y1 f0 f1 T4 S4 BX HO4 hw14 hb24
      go_wp2_with fail
      clear q0 q1 q0f q1f
      generalize w6.setCell ⟨w2.heap.size, 0, none⟩ (.slice va6 (ss.length + 1) vc6) = w4n at *
      have T4 := TN
      have S4 := SN
      have BX := BN
      have HO4 := ON
      clear TN SN BN ON
      obtain ⟨x0, x1⟩ := T4.out.cells
      obtain ⟨y0, f0⟩ := cell_of BX.out 0
      obtain ⟨y1, f1⟩ := cell_of BX.out 1
      simp at y0 y1
      obtain ⟨gv, hva, xs, hrow, hit, hap, sa, sc, hxp, hsb, hcell⟩ := HO4.out.at HL.out
      subst hva
      have HR4 : Hid (w4n.ownsRow w1.heap.size 25 1 (.slice (some ⟨gv, 0, none⟩) (ss ++ [[]]).length vc6) (ss ++ [[]]).length xs) := hrow
      have HI4 : Hid (SItems w4n w1.heap.size (ss ++ [[]]) xs) := hit
      have HA4 : Hid (ApartV xs) := hap
      have HX4 : Hid (xs[ss.length]? = some (.slice sa (List.length ([] : List UInt8)) sc)) := hxp
      have HB4 : Hid (Bs w4n w1.heap.size (.slice sa (List.length ([] : List UInt8)) sc) []) := hsb
      clear hrow hit hap hxp hsb
      obtain ⟨gF, hfa, -⟩ := S4.out.spot (by have := HFL.out.2; omega)
      subst hfa
      have y0d : w4n.drew.cell? ⟨w2.heap.size, 0, none⟩ = _ := y0
      have hcelld : w4n.drew.cell? ⟨gv, ss.length, none⟩ = _ := hcell
      have hw12 : w1.heap.size ≤ w4n.heap.size := by have := (HO4.out.row gv rfl).1; have := (HO4.out.row gv rfl).2.1; omega
      have HXSL : Hid (xs.length = (ss ++ [[]]).length) := by have := HR4.out.1; show _ = _; omega
      go_cut [] (fun wc => Hid (OwnS wc w1.heap.size (.slice (some ⟨gv, 0, none⟩) (ss.length + 1) vc6) (ss ++ [F]) ∧ wc.heap[w2.heap.size]? = some (.cells #[.slice (some ⟨gv, 0, none⟩) (ss.length + 1) vc6, .int .i64 nx] 24 (0, 0)) ∧ TwoP w wc (.slice a ss.length c) (.int .i64 nx)))
      case first =>
        go_region_law (refine step_app rfl _ _ rfl w1.heap.size (.slice sa 0 sc) [] F (by first | (simp [Act.eval]; done) | simp [Act.eval, Act.put]) (HB4.out.below (Below.refl _ _).drew) ⟨gF, 0, none⟩ fc (by first | (simp [Act.eval]; done) | simp [Act.eval, Act.put]) (fun j u hj => by rw [add_plain, Nat.zero_add]; exact ((S4.out.below (Below.refl _ _).drew).cell hj).1) (by have := HFL.out.1; simp; omega) hw12 ?_; intro s5 w5 hs5 hr5; rw [List.nil_append] at hs5; obtain ⟨a5, c5, rfl⟩ := hs5.shape; have hr5' : RowTo w4n w5 (.slice sa 0 sc) _ := RowTo.pre (Below.refl _ _).drew hr5; obtain ⟨ho5, cur5, hcur5, hpc⟩ := OwnS.put (f := F) HR4.out HI4.out HA4.out HL.out HX4.out hs5 hr5' (by have := HFL.out.1; simp; omega); rw [List.nil_append, HSE.out, HLS.out] at ho5; have hkp : ∀ (k : Nat) (cs : Array Value) (t : TypeId) (r : Nat × Nat), t ≠ 5 → w4n.heap[k]? = some (.cells cs t r) → w5.heap[k]? = some (.cells cs t r) := (fun k cs t r ht hk => (hr5'.block (lt_of_block hk) (fun e => by obtain ⟨-, -, cur, h5⟩ := HI4.out.lt HXSL.out HX4.out e; rw [hk] at h5; simp only [Option.some.injEq, Obj.cells.injEq] at h5; exact ht h5.2.1)).trans hk); have hbx5 := hkp _ _ _ _ (by decide) BX.out; have y5 := (cell_of hbx5 0).1; simp at y5; obtain ⟨c5a, c5b⟩ := cell_of hcur5 ss.length; rw [Array.getElem?_eq_getElem hpc] at c5a)
        all_goals
          go_wp2_with fail
          go_meet
          have hw1 := lt_of_block T1.out.res
          have hgv : w1.heap.size ≤ gv := (HO4.out.row gv rfl).1
          have hne : w2.heap.size ≠ gv := by
            intro e
            rw [e, hcur5] at hbx5
            simp at hbx5
          have hb5 : Below w1.heap.size w4n w5 := hr5'.below hw12 fun g hg => (HB4.out.base g hg).1
          refine ⟨by first | exact ho5 | simpa using ho5, ?_, ?_⟩
          · rw [Below.heap_setCell _ _ _ _ (by show w2.heap.size ≠ gv; exact hne)]
            exact hbx5
          · exact (T4.out.low hw1 hb5).low hw1 ((Below.refl _ _).setCell (by show w1.heap.size ≤ gv; exact hgv) _)
      case rest =>
        obtain ⟨ho6, hbx6, hT6⟩ := hcut.out
        have HO6 : Hid (OwnS wc w1.heap.size (.slice (some ⟨gv, 0, none⟩) (ss.length + 1) vc6) (ss ++ [F])) := ho6
        have HBX6 : Hid (wc.heap[w2.heap.size]? = some (.cells #[.slice (some ⟨gv, 0, none⟩) (ss.length + 1) vc6, .int .i64 nx] 24 (0, 0))) := hbx6
        have hbx7 := set_one_cell (o := 1) hbx6 (.int .i64 (nx + 1))
        have hw1 := lt_of_block T1.out.res
        have hw12' : w1.heap.size ≤ w2.heap.size := hw1w2
        have T7 : Hid (TwoP w (wc.setCell ⟨w2.heap.size, 1, none⟩ (.int .i64 (nx + 1))) (.slice a ss.length c) (.int .i64 nx)) := hT6.low hw1 ((Below.refl _ _).setCell (by show w1.heap.size ≤ w2.heap.size; exact hw12') _)
        obtain ⟨k0, k0f⟩ := cell_of hbx6 0
        obtain ⟨k1, k1f⟩ := cell_of hbx6 1
        obtain ⟨m0, -⟩ := cell_of hbx7 0
        obtain ⟨m1, -⟩ := cell_of hbx7 1
        simp at k0 k1 m0 m1
        obtain ⟨r0, r1, z0, z1, g0, g1⟩ := T7.out.ret (.slice (some ⟨gv, 0, none⟩) (ss.length + 1) vc6) (.int .i64 (nx + 1))
        clear ho6 hbx7 hT6 hcut x0 x1 y0 y1 f0 f1 hcell
        go_wp2_with fail
        refine bodyPost_ret (v := .tuple #[.agg #[.slice (some ⟨gv, 0, none⟩) (ss.length + 1) vc6, .int .i64 (nx + 1)], .int .i64 ((ss.length : Int)), .int .i64 0]) (by simp [results, Try.results12, go_sem, r0, r1]) rfl ?_
        exact ⟨_, rfl, ((HO6.out.set hbx6 (by decide) (by decide) _).retP T7.out _ _).base (by omega), T7.out.fin _ _⟩
    · have HL0 : Hid (ss[ss.length - 1]? = some l) := hl
      have hnn2 : (0 : Int) ≤ (ss.length : Int) - 1 := by omega
      have hix : ((ss.length : Int) - 1).toNat = ss.length - 1 := by omega
      clear hl
      go_enter Try.func12, Try.ntmps12
      go_wp2_with (first
          | (go_at_call 21; refine (HC.out _ T0.out.bel).mono ?_; rintro e w1 ⟨rfl, hb1⟩; have T1 : Hid (TwoP w w1 (.slice a ss.length c) (.int .i64 nx)) := T0.out.below hb1; obtain ⟨x0, x1⟩ := T1.out.cells; clear hb1)
          | (go_at_call 33; refine (HOW.out _ T1.out.bel).mono ?_; rintro e w2 ⟨v2, rfl, ho2, hb2⟩; obtain ⟨va, vc, rfl⟩ := ho2.shape; have T2 : Hid (TwoP w w2 (.slice a ss.length c) (.int .i64 nx)) := T1.out.below hb2; have HO2 : Hid (OwnS w2 w1.heap.size (.slice va ss.length vc) ss) := ho2; have hw1w2 : w1.heap.size ≤ w2.heap.size := hb2.size; have T3 : Hid (TwoP w (w2.alloc (.cells #[.slice va ss.length vc, .int .i64 nx] 24)) (.slice a ss.length c) (.int .i64 nx)) := T2.out.below (below_one _ _); clear x0 x1 hb2 ho2; obtain ⟨x0, x1⟩ := T3.out.cells))
      refine (HFR.out _ T3.out.bel).mono ?_
      rintro e w4 ⟨s4, rfl, hs4, hb4⟩
      obtain ⟨fa, fc, rfl⟩ := hs4.shape
      have T4 : Hid (TwoP w w4 (.slice a ss.length c) (.int .i64 nx)) := T3.out.below hb4
      have S4 : Hid (Bs w4 (w2.heap.size + 1) (.slice fa F.length fc) F) := hs4.up (fun g hg => by have := (hs4.base g hg).1; simp at this; omega)
      have BX : Hid (w4.heap[w2.heap.size]? = some (.cells #[.slice va ss.length vc, .int .i64 nx] 24 (0, 0))) := (hb4.block _ (by simp)).trans (heap_alloc_new _ _)
      have HO4 : Hid (OwnS w4 w1.heap.size (.slice va ss.length vc) ss) := (HO2.out.below (below_one _ _)).below hb4
      have hb24 : w2.heap.size < w4.heap.size := lt_of_block BX.out
      clear x0 x1 hs4 hb4
      obtain ⟨x0, x1⟩ := T4.out.cells
      obtain ⟨y0, f0⟩ := cell_of BX.out 0
      obtain ⟨y1, f1⟩ := cell_of BX.out 1
      simp at y0 y1
      obtain ⟨g0, hva0, xs0, -, -, -, sa0, sc0, -, -, hcell0⟩ := HO4.out.at HL0.out
      subst hva0
      obtain ⟨ys, hrw, hit0, hap0⟩ := HO4.out
      have HRW : Hid (w4.ownsRow w1.heap.size 25 1 (.slice (some ⟨g0, 0, none⟩) ss.length vc) ss.length ys) := hrw
      have HIT : Hid (SItems w4 w1.heap.size ss ys) := hit0
      have HAP : Hid (ApartV ys) := hap0
      have hw14 : w1.heap.size ≤ w4.heap.size := by omega
      clear hrw hit0 hap0
      go_wp2_with (at_builtin; refine wpList_append_apart _ rfl _ _ 22 rfl w1.heap.size 25 i0 _ 1 24 Try.underlying22 hi0 hz0 hz1 hz2 rfl (by decide) (.slice (some ⟨g0, 0, none⟩) ss.length vc) ss.length ys rfl (ownsRow_same HRW.out fun g hg => (below_one w4 _).block g (HRW.out.lt g hg).2) (some ⟨w4.heap.size, 0, none⟩) 1 1 [.slice none 0 0] rfl (by simp) rfl (fun ad' e k u hk => by cases e; exact newCells w4 _ _ k u (by rw [← Array.getElem?_toList]; exact hk)) (by simp [Value.oneCell']) (by unfold maxLen; omega) (by omega) (by simp; omega) ?_)
      intro v6 w6 hrow6 hgr6 _
      have bX := below_one w4 (.cells #[.slice none 0 0] 25)
      have ho6 : OwnS w6 w1.heap.size v6 (ss ++ [[]]) := OwnS.pushed (l := []) (a := none) (c := 0) (ownsRow_same HRW.out fun g hg => bX.block g (HRW.out.lt g hg).2) (HIT.out.kpb (KpB.below bX)) HAP.out hrow6 hgr6 (Bs.nil _ _) (by simp) (fun j x g _ _ e => by simp [Value.ownBlock] at e)
      have hsh := ho6.shape
      rw [HLS.out] at hsh
      obtain ⟨va6, vc6, rfl⟩ := hsh
      have hw1 := lt_of_block T1.out.res
      have hkp6 : ∀ (k : Nat) (cs : Array Value) (t : TypeId) (r : Nat × Nat), t ≠ 25 → w4.heap[k]? = some (.cells cs t r) → w6.heap[k]? = some (.cells cs t r) := (fun k cs t r ht hk => (hgr6.block k (by have := lt_of_block hk; simp; omega) (fun e => by obtain ⟨-, -, cur, h5⟩ := HO4.out.row k e.symm; rw [hk] at h5; simp only [Option.some.injEq, Obj.cells.injEq] at h5; exact ht h5.2.1)).trans ((bX.block k (lt_of_block hk)).trans hk))
      have hbx6 := hkp6 _ _ _ _ (by decide) BX.out
      have B46 : Below w1.heap.size w4 w6 := (bX.mono hw14).grown hgr6 (by simp; omega) (fun j e => (HRW.out.lt j e).1)
      have T6 : Hid (TwoP w w6 (.slice a ss.length c) (.int .i64 nx)) := T4.out.low hw1 B46
      have S6 : Bs w6 (w2.heap.size + 1) (.slice fa F.length fc) F := S4.out.kpb ⟨B46.size, fun j cs r hj => (hkp6 j cs _ r (by decide) hj).trans hj.symm⟩
      have hset := set_one_cell (o := 0) hbx6 (.slice va6 (ss.length + 1) vc6)
      have TN : Hid (TwoP w (w6.setCell ⟨w2.heap.size, 0, none⟩ (.slice va6 (ss.length + 1) vc6)) (.slice a ss.length c) (.int .i64 nx)) := T6.out.low hw1 ((Below.refl _ _).setCell (by show w1.heap.size ≤ w2.heap.size; exact hw1w2) _)
      have SN : Hid (Bs (w6.setCell ⟨w2.heap.size, 0, none⟩ (.slice va6 (ss.length + 1) vc6)) (w2.heap.size + 1) (.slice fa F.length fc) F) := S6.kpb (KpB.set hbx6 (by decide) _)
      have BN : Hid ((w6.setCell ⟨w2.heap.size, 0, none⟩ (.slice va6 (ss.length + 1) vc6)).heap[w2.heap.size]? = some (.cells #[.slice va6 (ss.length + 1) vc6, .int .i64 nx] 24 (0, 0))) := hset
      have ON : Hid (OwnS (w6.setCell ⟨w2.heap.size, 0, none⟩ (.slice va6 (ss.length + 1) vc6)) w1.heap.size (.slice va6 (ss.length + 1) vc6) (ss ++ [[]])) := ho6.set hbx6 (by decide) (by decide) _
      obtain ⟨q0, q0f⟩ := cell_of hbx6 0
      obtain ⟨q1, q1f⟩ := cell_of hbx6 1
      simp at q0 q1
      clear hcell0 hrow6 hgr6 bX ho6 hkp6 hbx6 B46 T6 S6 hset HRW HIT HAP x0 x1 y0 y1 f0 f1 T4 S4 BX HO4 hw14 hb24
      go_wp2_with fail
      clear q0 q1 q0f q1f
      generalize w6.setCell ⟨w2.heap.size, 0, none⟩ (.slice va6 (ss.length + 1) vc6) = w4n at *
      have T4 := TN
      have S4 := SN
      have BX := BN
      have HO4 := ON
      clear TN SN BN ON
      obtain ⟨x0, x1⟩ := T4.out.cells
      obtain ⟨y0, f0⟩ := cell_of BX.out 0
      obtain ⟨y1, f1⟩ := cell_of BX.out 1
      simp at y0 y1
      obtain ⟨gv, hva, xs, hrow, hit, hap, sa, sc, hxp, hsb, hcell⟩ := HO4.out.at HL.out
      subst hva
      have HR4 : Hid (w4n.ownsRow w1.heap.size 25 1 (.slice (some ⟨gv, 0, none⟩) (ss ++ [[]]).length vc6) (ss ++ [[]]).length xs) := hrow
      have HI4 : Hid (SItems w4n w1.heap.size (ss ++ [[]]) xs) := hit
      have HA4 : Hid (ApartV xs) := hap
      have HX4 : Hid (xs[ss.length]? = some (.slice sa (List.length ([] : List UInt8)) sc)) := hxp
      have HB4 : Hid (Bs w4n w1.heap.size (.slice sa (List.length ([] : List UInt8)) sc) []) := hsb
      clear hrow hit hap hxp hsb
      obtain ⟨gF, hfa, -⟩ := S4.out.spot (by have := HFL.out.2; omega)
      subst hfa
      have y0d : w4n.drew.cell? ⟨w2.heap.size, 0, none⟩ = _ := y0
      have hcelld : w4n.drew.cell? ⟨gv, ss.length, none⟩ = _ := hcell
      have hw12 : w1.heap.size ≤ w4n.heap.size := by have := (HO4.out.row gv rfl).1; have := (HO4.out.row gv rfl).2.1; omega
      have HXSL : Hid (xs.length = (ss ++ [[]]).length) := by have := HR4.out.1; show _ = _; omega
      go_cut [] (fun wc => Hid (OwnS wc w1.heap.size (.slice (some ⟨gv, 0, none⟩) (ss.length + 1) vc6) (ss ++ [F]) ∧ wc.heap[w2.heap.size]? = some (.cells #[.slice (some ⟨gv, 0, none⟩) (ss.length + 1) vc6, .int .i64 nx] 24 (0, 0)) ∧ TwoP w wc (.slice a ss.length c) (.int .i64 nx)))
      case first =>
        go_region_law (refine step_app rfl _ _ rfl w1.heap.size (.slice sa 0 sc) [] F (by first | (simp [Act.eval]; done) | simp [Act.eval, Act.put]) (HB4.out.below (Below.refl _ _).drew) ⟨gF, 0, none⟩ fc (by first | (simp [Act.eval]; done) | simp [Act.eval, Act.put]) (fun j u hj => by rw [add_plain, Nat.zero_add]; exact ((S4.out.below (Below.refl _ _).drew).cell hj).1) (by have := HFL.out.1; simp; omega) hw12 ?_; intro s5 w5 hs5 hr5; rw [List.nil_append] at hs5; obtain ⟨a5, c5, rfl⟩ := hs5.shape; have hr5' : RowTo w4n w5 (.slice sa 0 sc) _ := RowTo.pre (Below.refl _ _).drew hr5; obtain ⟨ho5, cur5, hcur5, hpc⟩ := OwnS.put (f := F) HR4.out HI4.out HA4.out HL.out HX4.out hs5 hr5' (by have := HFL.out.1; simp; omega); rw [List.nil_append, HSE.out, HLS.out] at ho5; have hkp : ∀ (k : Nat) (cs : Array Value) (t : TypeId) (r : Nat × Nat), t ≠ 5 → w4n.heap[k]? = some (.cells cs t r) → w5.heap[k]? = some (.cells cs t r) := (fun k cs t r ht hk => (hr5'.block (lt_of_block hk) (fun e => by obtain ⟨-, -, cur, h5⟩ := HI4.out.lt HXSL.out HX4.out e; rw [hk] at h5; simp only [Option.some.injEq, Obj.cells.injEq] at h5; exact ht h5.2.1)).trans hk); have hbx5 := hkp _ _ _ _ (by decide) BX.out; have y5 := (cell_of hbx5 0).1; simp at y5; obtain ⟨c5a, c5b⟩ := cell_of hcur5 ss.length; rw [Array.getElem?_eq_getElem hpc] at c5a)
        all_goals
          go_wp2_with fail
          go_meet
          have hw1 := lt_of_block T1.out.res
          have hgv : w1.heap.size ≤ gv := (HO4.out.row gv rfl).1
          have hne : w2.heap.size ≠ gv := by
            intro e
            rw [e, hcur5] at hbx5
            simp at hbx5
          have hb5 : Below w1.heap.size w4n w5 := hr5'.below hw12 fun g hg => (HB4.out.base g hg).1
          refine ⟨by first | exact ho5 | simpa using ho5, ?_, ?_⟩
          · rw [Below.heap_setCell _ _ _ _ (by show w2.heap.size ≠ gv; exact hne)]
            exact hbx5
          · exact (T4.out.low hw1 hb5).low hw1 ((Below.refl _ _).setCell (by show w1.heap.size ≤ gv; exact hgv) _)
      case rest =>
        obtain ⟨ho6, hbx6, hT6⟩ := hcut.out
        have HO6 : Hid (OwnS wc w1.heap.size (.slice (some ⟨gv, 0, none⟩) (ss.length + 1) vc6) (ss ++ [F])) := ho6
        have HBX6 : Hid (wc.heap[w2.heap.size]? = some (.cells #[.slice (some ⟨gv, 0, none⟩) (ss.length + 1) vc6, .int .i64 nx] 24 (0, 0))) := hbx6
        have hbx7 := set_one_cell (o := 1) hbx6 (.int .i64 (nx + 1))
        have hw1 := lt_of_block T1.out.res
        have hw12' : w1.heap.size ≤ w2.heap.size := hw1w2
        have T7 : Hid (TwoP w (wc.setCell ⟨w2.heap.size, 1, none⟩ (.int .i64 (nx + 1))) (.slice a ss.length c) (.int .i64 nx)) := hT6.low hw1 ((Below.refl _ _).setCell (by show w1.heap.size ≤ w2.heap.size; exact hw12') _)
        obtain ⟨k0, k0f⟩ := cell_of hbx6 0
        obtain ⟨k1, k1f⟩ := cell_of hbx6 1
        obtain ⟨m0, -⟩ := cell_of hbx7 0
        obtain ⟨m1, -⟩ := cell_of hbx7 1
        simp at k0 k1 m0 m1
        obtain ⟨r0, r1, z0, z1, g0, g1⟩ := T7.out.ret (.slice (some ⟨gv, 0, none⟩) (ss.length + 1) vc6) (.int .i64 (nx + 1))
        clear ho6 hbx7 hT6 hcut x0 x1 y0 y1 f0 f1 hcell
        go_wp2_with fail
        refine bodyPost_ret (v := .tuple #[.agg #[.slice (some ⟨gv, 0, none⟩) (ss.length + 1) vc6, .int .i64 (nx + 1)], .int .i64 ((ss.length : Int)), .int .i64 0]) (by simp [results, Try.results12, go_sem, r0, r1]) rfl ?_
        exact ⟨_, rfl, ((HO6.out.set hbx6 (by decide) (by decide) _).retP T7.out _ _).base (by omega), T7.out.fin _ _⟩
end Go.Proofs.Ytocodkoanjcmkab
