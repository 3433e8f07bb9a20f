/-
  The program's Scan.
-/
import Derived.Test.YtihncekjbmepoacSeIter
import Derived.RangeFuncBox
import Derived.Shelf.Abstract
namespace Go.Proofs.Ytihncekjbmepoac
open Go.ChangeShapes Go.WideShapes Go.ChangeAt Go.RowKit Go.Deep
open Se

attribute [local go_sem] Oper.semAt_some

theorem frames_any (a : Option Addr) (n c : Nat) (w : World) :
    Calls Try.prog 29 #[.slice a n c] w fun e w' => e = .returned (.func (.func 31) #[] #[.pointer (some ⟨w.heap.size, 0, none⟩)]) ∧ w' = w.alloc (.cells #[.slice a n c] 22) := by
  go_enter Try.func29, Try.ntmps29
  go_wp2_with fail
  go_ret
  exact ⟨rfl, rfl⟩

/-- A loop over a function is entered: the record is laid, the function is called. -/
theorem range_enter {P : Program} {g : Operand} {ps : Array Tmp} {assign body : Code} {Q : Exit → Act → World → Prop} {a : Act} {w : World} {n : Nat} (h1 : 1 ≤ n) {gf : Nat} {lb : Array Value} (hg : a.eval g = .func (.func gf) #[] lb)
    (eg : ∀ args w, (callFunc gf args).run P w = .ok (.enter gf args) w)
    (h : ∀ (fn : FuncId) (rec : Loop), rec = { state := .ready, pending := none, fn := fn, tmps := a.tmps, params := ps, assign := assign, body := body, defers := w.heap.size } →
      CallsIn Fence.wide (n - 1) P gf (#[.func (.yield (w.heap.size + 1)) #[] #[]] ++ lb) ((w.alloc (.deferred (some []))).alloc (.loop rec)) (rangePost Fence.wide n P (w.heap.size + 1) Q { a with defers := [{ target := .collected w.heap.size, args := #[] }] ++ a.defers })) :
    (Code.rangeFunc g ps assign body).wpIn Fence.wide n P Q a w := by
  refine wpIn_rangeFunc ?_
  intro fn _
  have he := run_enterLoop_outer (P := P) (w := w) fn a.tmps ps assign body
  have hc := h fn _ rfl
  generalize (w.alloc (.deferred (some []))).alloc (.loop { state := .ready, pending := none, fn := fn, tmps := a.tmps, params := ps, assign := assign, body := body, defers := w.heap.size }) = W1 at he hc
  refine ⟨w.heap.size + 1, [{ target := .collected w.heap.size, args := #[] }], W1, { target := .fn (.func gf) lb, args := #[.func (.yield (w.heap.size + 1)) #[] #[]] }, W1, gf, #[.func (.yield (w.heap.size + 1)) #[] #[]] ++ lb, W1, ?_, ?_, ?_, ?_, ?_, ?_⟩
  · exact he
  · simp only [resolve, hg]
    simp [go_sem]
  · intro _ _
    trivial
  · simp [invoke, go_sem, eg]
  · intro _
    exact h1
  · exact hc

theorem Try.infoFr : (Try.prog.info? 25).map (fun i => (i.zero, i.size, i.bytes)) = some (some (.agg #[.int .i64 0, .slice none 0 0]), 2, 32) := by kernel_rfl

set_option maxRecDepth 100000 in
set_option maxHeartbeats 3200000 in
theorem scan_any (a : Option Addr) (c : Nat) (l : List UInt8) (w : World) (ho : Oct w a c l) (hl : l.length ≤ 1000000000000) :
    Calls Try.prog 14 #[.slice a l.length c] w fun e w' => ∃ v xs, e = .returned (.tuple #[v, .int .i64 (scanR l).2]) ∧ w'.ownsRow w.heap.size 25 2 v (scanR l).1.length xs ∧ FrItems w' (scanR l).1 xs ∧ Below w.heap.size w w' := by
  have HO : Hid (Oct w a c l) := ho
  clear ho
  refine (callsIn_wide (n := 9)).1 (callsIn_of_wp_marks Try.func14 rfl trivial ?_ rfl)
  simp only [Try.ntmps14, List.size_toArray, List.length_cons, List.length_nil, Nat.reduceAdd, Nat.reduceSub, Array.replicate_succ, Array.replicate_zero, List.push_toArray, List.append_toArray, List.nil_append, List.cons_append]
  gi_wp2
  refine ⟨trivial, (callsIn_wide.2 (frames_any a l.length c _)).mono ?_⟩
  rintro e w0 ⟨rfl, hw0⟩
  have hsz : w0.heap.size = w.heap.size + 3 := by rw [hw0]; simp
  have HA : Hid (w0.heap[w.heap.size]? = some (.cells #[.slice none 0 0] 37 (0, 0))) := by
    show _ = _
    rw [hw0, Below.heap_alloc _ _ _ (by simp; omega), Below.heap_alloc _ _ _ (by simp)]
    exact heap_alloc_new _ _
  have HN : Hid (w0.heap[w.heap.size + 1]? = some (.cells #[.int .i64 0] 3 (0, 0))) := by
    show _ = _
    rw [hw0, Below.heap_alloc _ _ _ (by simp)]
    exact heap_new2 _ _ _
  have HB : Hid (w0.heap[w.heap.size + 2]? = some (.cells #[.slice a l.length c] 22 (0, 0))) := by
    show _ = _
    have := heap_alloc_new ((w.alloc (.cells #[.slice none 0 0] 37)).alloc (.cells #[.int .i64 0] 3)) (.cells #[.slice a l.length c] 22)
    rw [hw0]
    simpa using this
  have BL : Hid (Below w.heap.size w w0) := by
    show Below _ _ _
    rw [hw0]
    exact nxt (nxt (below_one _ _) (below_one _ _)) (below_one _ _)
  clear hw0
  gi_wp2
  refine range_enter (by omega) (gf := 31) (lb := #[.pointer (some ⟨w.heap.size + 1 + 1, 0, none⟩)]) rfl (enters_of Try.func31 (by kernel_rfl) rfl) ?_
  intro fn rec hrec
  refine (iter_any (9 - 1) (by omega) a c l w HO.out w.heap.size (w.heap.size + 1) w0.heap.size (w0.heap.size + 1) (w.heap.size + 1 + 1) rec ?hY _ ?hBb ?h0).mono ?behind
  case hBb =>
    rw [(nxt (below_one w0 _) (below_one _ _)).cell (by show w.heap.size + 1 + 1 < w0.heap.size; omega)]
    exact (cell_of HB.out 0).1
  case h0 =>
    have bb := nxt (below_one w0 (.deferred (some []))) (below_one _ (.loop rec))
    refine ⟨⟨.slice none 0 0, [], (bb.block _ (by omega)).trans HA.out, World.ownsRow_nil _ _ _ _, fun j f hj => by simp at hj⟩, (bb.block _ (by omega)).trans HN.out, ?_, ?_, nxt BL.out bb⟩
    · exact heap_new2 _ _ _
    · exact (Below.heap_alloc _ _ _ (by simp)).trans (heap_alloc_new _ _)
  case hY =>
    intro W fs i k a' c' d nn hI hB hnn hin h8
    have HSZ : Hid (w0.heap.size = w.heap.size + 3) := hsz
    have hst : rec.state = .ready := by rw [hrec]
    have hpd : rec.pending = none := by rw [hrec]
    have hlp := hI.lp
    have hy := run_yield (P := Try.prog) (args := #[.agg #[.int .i64 k, .slice a' d.length c'], .int .i64 (nn : Nat)]) hlp (by rw [hrec]; rfl)
    have HI : Hid (ScInv w w.heap.size (w.heap.size + 1) w0.heap.size (w0.heap.size + 1) rec W fs i) := hI
    have HBB : Hid (Bs W 0 (.slice a' d.length c') d) := hB
    generalize hP : (fun (e : Ending) (W' : World) => e = Ending.returned (.bool true) ∧ ScInv w w.heap.size (w.heap.size + 1) w0.heap.size (w0.heap.size + 1) rec W' (fs ++ [(k, d)]) (i + nn)) = Post
    have HP : Hid (∀ e W', e = Ending.returned (.bool true) → ScInv w w.heap.size (w.heap.size + 1) w0.heap.size (w0.heap.size + 1) rec W' (fs ++ [(k, d)]) (i + nn) → Post e W') := fun e W' h1 h2 => by rw [← hP]; exact ⟨h1, h2⟩
    clear hI hB hP hsz HA HN HB BL HO
    generalize w0.heap.size = D at *
    refine ⟨_, _, _, _, hy, roundIn_of_wpIn trivial ?_⟩
    clear hy
    have HST : Hid (rec.state = .ready) := hst
    have HPD : Hid (rec.pending = none) := hpd
    have HLP : Hid (W.heap[D + 1]? = some (.loop rec)) := hlp
    clear hlp hst hpd
    rw [hrec]
    dsimp only
    clear hrec
    gi_wp2
    have bA := below_one W (.cells #[.int .i64 k, .slice a' d.length c'] 25)
    have hl1 := (bA.block _ (lt_of_block HLP.out)).trans HLP.out
    refine ⟨_, run_beginRound hl1 HST.out, ?_⟩
    obtain ⟨⟨v, xs, hA1, hrow1, hit1⟩, hO1, -, hD1, hbel1⟩ := HI.out.below bA
    have hX1 : (W.alloc (.cells #[.int .i64 k, .slice a' d.length c'] 25)).heap[W.heap.size]? = some (.cells #[.int .i64 k, .slice a' d.length c'] 25 (0, 0)) := heap_alloc_new _ _
    have hB1 := HBB.out.below bA
    have hlt1 := lt_of_block hl1
    generalize W.alloc (.cells #[.int .i64 k, .slice a' d.length c'] 25) = W1 at *
    -- the record is busy
    have kp2 : KpB W1 (W1.putObj (D + 1) (.loop { rec with state := .busy })) := KpB.put _ hl1 rfl
    have hl2 : (W1.putObj (D + 1) (.loop { rec with state := .busy })).heap[D + 1]? = some (.loop { rec with state := .busy }) := World.putObj_heap_same hlt1
    have hA2 : (W1.putObj (D + 1) (.loop { rec with state := .busy })).heap[w.heap.size]? = some (.cells #[v] 37 (0, 0)) := (World.putObj_heap_other (by rintro e; rw [← e, hA1] at hl1; cases hl1)).trans hA1
    have hO2 : (W1.putObj (D + 1) (.loop { rec with state := .busy })).heap[w.heap.size + 1]? = some (.cells #[.int .i64 i] 3 (0, 0)) := (World.putObj_heap_other (by rintro e; rw [← e, hO1] at hl1; cases hl1)).trans hO1
    have hD2 : (W1.putObj (D + 1) (.loop { rec with state := .busy })).heap[D]? = some (.deferred (some [])) := (World.putObj_heap_other (by omega)).trans hD1
    have hX2 : (W1.putObj (D + 1) (.loop { rec with state := .busy })).heap[W.heap.size]? = some (.cells #[.int .i64 k, .slice a' d.length c'] 25 (0, 0)) := (World.putObj_heap_other (by rintro e; rw [← e, hX1] at hl1; cases hl1)).trans hX1
    have hrow2 := ownsRow_putObj hrow1 (.loop { rec with state := .busy }) hl1 rfl
    have hbel2 : Below w.heap.size w (W1.putObj (D + 1) (.loop { rec with state := .busy })) := hbel1.grown (grownBy_putObj' _ _ _) hbel1.size (fun j e => by cases e; have := HSZ.out; omega)
    generalize W1.putObj (D + 1) (.loop { rec with state := .busy }) = W2 at *
    obtain ⟨av, cv, rfl⟩ := slice_of_own hrow2
    have hit2 := hit1.kpb kp2
    have hB2 := hB1.kpb kp2
    clear hl1 hA1 hO1 hD1 hX1 hrow1 hbel1 hit1 hB1 kp2 hlt1 bA HI HLP HBB
    have HL2 : Hid (W2.heap[D + 1]? = some (.loop { rec with state := .busy })) := hl2
    have HA2 : Hid (W2.heap[w.heap.size]? = some (.cells #[.slice av fs.length cv] 37 (0, 0))) := hA2
    have HO2 : Hid (W2.heap[w.heap.size + 1]? = some (.cells #[.int .i64 i] 3 (0, 0))) := hO2
    have HD2 : Hid (W2.heap[D]? = some (.deferred (some []))) := hD2
    have HRW : Hid (W2.ownsRow w.heap.size 25 2 (.slice av fs.length cv) fs.length xs) := hrow2
    have HIT : Hid (FrItems W2 fs xs) := hit2
    have HBB : Hid (Bs W2 0 (.slice a' d.length c') d) := hB2
    have HBL : Hid (Below w.heap.size w W2) := hbel2
    obtain ⟨xa, -⟩ := cell_of hA2 0
    obtain ⟨x0, -⟩ := cell_of hX2 0
    obtain ⟨x1, -⟩ := cell_of hX2 1
    simp at xa x0 x1
    clear hl2 hA2 hO2 hD2 hrow2 hit2 hB2 hbel2 hX2
    obtain ⟨i0, hi0, hz0, hz1, hz2⟩ := info_parts Try.infoFr
    have hsz2 := HBL.out.size
    gi_wp2_with (gi_at_builtin; refine wpListIn_append_own _ rfl _ _ 37 rfl w.heap.size 25 i0 _ 2 32 Try.underlying37 hi0 hz0 hz1 hz2 rfl (by decide) _ fs.length xs rfl ?d0 ⟨W2.heap.size, 0, none⟩ 1 1 [.int .i64 k, .slice a' d.length c'] rfl rfl ?d1 ?d2 ?d3 ?d4 ?d5 ?_)
    case d0 => exact ownsRow_same HRW.out fun g hg => (below_one W2 _).block g (HRW.out.lt g hg).2
    case d1 =>
      intro j u hj
      exact newCells W2 _ _ j u (by rw [← Array.getElem?_toList]; exact hj)
    case d2 => simp [Value.oneCell']
    case d3 => unfold maxLen; omega
    case d4 => omega
    case d5 => simp; omega
    intro v' W4 hrow4 hgr4 _
    obtain ⟨g4, cap4, rfl⟩ := ownsRow_succ hrow4
    have bX := below_one W2 (.cells #[.int .i64 k, .slice a' d.length c'] 25)
    have hrowX : (W2.alloc (.cells #[.int .i64 k, .slice a' d.length c'] 25)).ownsRow w.heap.size 25 2 (.slice av fs.length cv) fs.length xs := ownsRow_same HRW.out fun g hg => bX.block g (HRW.out.lt g hg).2
    have notrow : ∀ {g : Nat} {o : Obj}, W2.heap[g]? = some o → (∀ cs r, o ≠ .cells cs 25 r) → (some g ≠ (Value.slice av fs.length cv).ownBlock) ∧ W4.heap[g]? = some o := by
      intro g o ho hne
      have h1 := (bX.block _ (lt_of_block ho)).trans ho
      have h2 : some g ≠ (Value.slice av fs.length cv).ownBlock := by
        intro e
        rcases hrowX.2 with ⟨h3, -⟩ | ⟨g', cap, cur, h3, h4, h5, h6⟩
        · rw [h3] at e; simp [Value.ownBlock] at e
        · rw [h3] at e
          simp only [Value.ownBlock, Option.some.injEq] at e
          subst e
          rw [h1] at h5
          simp only [Option.some.injEq] at h5
          exact hne _ _ h5
      exact ⟨h2, (hgr4.block g (lt_of_block h1) h2).trans h1⟩
    have HA4 : Hid (W4.heap[w.heap.size]? = some (.cells #[.slice av fs.length cv] 37 (0, 0))) := (notrow HA2.out (by intro cs r e; simp at e)).2
    have HO4 : Hid (W4.heap[w.heap.size + 1]? = some (.cells #[.int .i64 i] 3 (0, 0))) := (notrow HO2.out (by intro cs r e; simp at e)).2
    have HL4 : Hid (W4.heap[D + 1]? = some (.loop { rec with state := .busy })) := (notrow HL2.out (by intro cs r e; simp at e)).2
    have HD4 : Hid (W4.heap[D]? = some (.deferred (some []))) := (notrow HD2.out (by intro cs r e; simp at e)).2
    have kp4 : KpB W2 W4 := (KpB.below bX).trans (KpB.grown hgr4 (by
      intro g hg
      rcases hrowX.2 with ⟨h3, -⟩ | ⟨g', cap, cur, h3, h4, h5, h6⟩
      · rw [h3] at hg; simp [Value.ownBlock] at hg
      · rw [h3] at hg
        simp only [Value.ownBlock, Option.some.injEq] at hg
        subst hg
        exact ⟨cur, _, _, h5, by decide⟩))
    have HR4 : Hid (W4.ownsRow w.heap.size 25 2 (.slice (some ⟨g4, 0, none⟩) (fs.length + 1) cap4) (fs.length + 1) (xs ++ [.int .i64 k, .slice a' d.length c'])) := hrow4
    have hxl : xs.length = 2 * fs.length := by have := HRW.out.1; omega
    have HI4 : Hid (FrItems W4 (fs ++ [(k, d)]) (xs ++ [.int .i64 k, .slice a' d.length c'])) := (HIT.out.kpb kp4).push (f := (k, d)) hxl (HBB.out.kpb kp4)
    have HB4 : Hid (Below w.heap.size w W4) := (nxt HBL.out bX).grown hgr4 (by simp; omega) (fun j e => (HRW.out.lt j e).1)
    obtain ⟨ya, fa⟩ := cell_of HA4.out 0
    obtain ⟨yo, fo⟩ := cell_of HO4.out 0
    simp at ya yo
    clear hrow4 hgr4 notrow kp4 hxl bX hrowX HL2 HA2 HO2 HD2 HRW HIT HBB HBL xa x0 x1 hi0 hz0 hz1 hz2
    have hov : (i : Int) + nn ≤ 1000000000000 := by omega
    gi_wp2
    have hD : D = w.heap.size + 3 := HSZ.out
    have s1 := KpB.set (o := 0) HA4.out (by decide) (.slice (some ⟨g4, 0, none⟩) (fs.length + 1) cap4)
    have hO5 : (W4.setCell ⟨w.heap.size, 0, none⟩ (.slice (some ⟨g4, 0, none⟩) (fs.length + 1) cap4)).heap[w.heap.size + 1]? = some (.cells #[.int .i64 i] 3 (0, 0)) := (Below.heap_setCell _ _ _ _ (by show w.heap.size + 1 ≠ w.heap.size; omega)).trans HO4.out
    have s2 := KpB.set (o := 0) hO5 (by decide) (.int .i64 ((i : Int) + nn))
    have hoth : ∀ g, g ≠ w.heap.size → g ≠ w.heap.size + 1 → ((W4.setCell ⟨w.heap.size, 0, none⟩ (.slice (some ⟨g4, 0, none⟩) (fs.length + 1) cap4)).setCell ⟨w.heap.size + 1, 0, none⟩ (.int .i64 ((i : Int) + nn))).heap[g]? = W4.heap[g]? := fun g h1 h2 => by
      rw [Below.heap_setCell _ _ _ _ h2, Below.heap_setCell _ _ _ _ h1]
    have hA6 : ((W4.setCell ⟨w.heap.size, 0, none⟩ (.slice (some ⟨g4, 0, none⟩) (fs.length + 1) cap4)).setCell ⟨w.heap.size + 1, 0, none⟩ (.int .i64 ((i : Int) + nn))).heap[w.heap.size]? = some (.cells #[.slice (some ⟨g4, 0, none⟩) (fs.length + 1) cap4] 37 (0, 0)) :=
      (Below.heap_setCell _ _ _ _ (by show w.heap.size ≠ w.heap.size + 1; omega)).trans (Boxed.set _ HA4.out)
    have hO6 : ((W4.setCell ⟨w.heap.size, 0, none⟩ (.slice (some ⟨g4, 0, none⟩) (fs.length + 1) cap4)).setCell ⟨w.heap.size + 1, 0, none⟩ (.int .i64 ((i : Int) + nn))).heap[w.heap.size + 1]? = some (.cells #[.int .i64 ((i : Int) + nn)] 3 (0, 0)) := Boxed.set _ hO5
    have hl6 := (hoth (D + 1) (by omega) (by omega)).trans HL4.out
    have hD6 := (hoth D (by omega) (by omega)).trans HD4.out
    have hrow6 : ((W4.setCell ⟨w.heap.size, 0, none⟩ (.slice (some ⟨g4, 0, none⟩) (fs.length + 1) cap4)).setCell ⟨w.heap.size + 1, 0, none⟩ (.int .i64 ((i : Int) + nn))).ownsRow w.heap.size 25 2 (.slice (some ⟨g4, 0, none⟩) (fs.length + 1) cap4) (fs.length + 1) (xs ++ [.int .i64 k, .slice a' d.length c']) := by
      refine ownsRow_same HR4.out fun g hg => hoth g ?_ ?_
      · rintro rfl
        exact Boxed.not_row (show Boxed W4 w.heap.size 37 _ from HA4.out) (by decide) HR4.out hg.symm
      · rintro rfl
        exact Boxed.not_row (show Boxed W4 (w.heap.size + 1) 3 _ from HO4.out) (by decide) HR4.out hg.symm
    have hit6 := (HI4.out.kpb s1).kpb s2
    have hbel6 := (HB4.out.setCell (p := ⟨w.heap.size, 0, none⟩) (Nat.le_refl _) (.slice (some ⟨g4, 0, none⟩) (fs.length + 1) cap4)).setCell (p := ⟨w.heap.size + 1, 0, none⟩) (Nat.le_succ _) (.int .i64 ((i : Int) + nn))
    generalize (W4.setCell ⟨w.heap.size, 0, none⟩ (.slice (some ⟨g4, 0, none⟩) (fs.length + 1) cap4)).setCell ⟨w.heap.size + 1, 0, none⟩ (.int .i64 ((i : Int) + nn)) = W6 at *
    have hrec2 : ({ ({ rec with state := .busy } : Loop) with state := if (none : Option Code).isNone then .ready else .done, pending := none } : Loop) = rec := by
      have h1 := HST.out
      have h2 := HPD.out
      cases rec
      simp only at h1 h2
      subst h1 h2
      rfl
    have hend := run_endRound (P := Try.prog) none hl6
    rw [hrec2] at hend
    refine ⟨_, _, hend, HP.out _ _ rfl ⟨⟨.slice (some ⟨g4, 0, none⟩) (fs.length + 1) cap4, xs ++ [.int .i64 k, .slice a' d.length c'], ?_, ?_, ?_⟩, ?_, ?_, ?_, ?_⟩⟩
    · exact (World.putObj_heap_other (by omega)).trans hA6
    · rw [List.length_append, List.length_singleton]
      exact ownsRow_putObj hrow6 _ hl6 rfl
    · exact hit6.kpb (KpB.put _ hl6 rfl)
    · rw [World.putObj_heap_other (by omega), hO6]
      simp
    · exact World.putObj_heap_same (lt_of_block hl6)
    · exact (World.putObj_heap_other (by omega)).trans hD6
    · exact hbel6.grown (grownBy_putObj' _ _ _) hbel6.size (fun j e => by cases e; omega)
  case behind =>
    rintro e W2 ⟨⟨vv, rfl⟩, hI⟩
    have hst : rec.state = .ready := by rw [hrec]
    have hpd : rec.pending = none := by rw [hrec]
    have hend := run_endLoop (P := Try.prog) hI.lp (by rw [hst]; simp)
    rw [hpd] at hend
    refine ⟨none, _, hend, ?_⟩
    obtain ⟨⟨v, xs, hA1, hrow1, hit1⟩, hO1, hl1, hD1, hbel1⟩ := hI
    have kp := KpB.put (.loop { rec with state := .exhausted, pending := none }) hl1 rfl
    have HA2 : Hid ((W2.putObj (w0.heap.size + 1) (.loop { rec with state := .exhausted, pending := none })).heap[w.heap.size]? = some (.cells #[v] 37 (0, 0))) := (World.putObj_heap_other (by omega)).trans hA1
    have HO2 : Hid ((W2.putObj (w0.heap.size + 1) (.loop { rec with state := .exhausted, pending := none })).heap[w.heap.size + 1]? = some (.cells #[.int .i64 (scanR l).2] 3 (0, 0))) := (World.putObj_heap_other (by omega)).trans hO1
    have HD2 : Hid ((W2.putObj (w0.heap.size + 1) (.loop { rec with state := .exhausted, pending := none })).heap[w0.heap.size]? = some (.deferred (some []))) := (World.putObj_heap_other (by omega)).trans hD1
    have HR2 : Hid ((W2.putObj (w0.heap.size + 1) (.loop { rec with state := .exhausted, pending := none })).ownsRow w.heap.size 25 2 v (scanR l).1.length xs) := ownsRow_putObj hrow1 _ hl1 rfl
    have HI2 : Hid (FrItems (W2.putObj (w0.heap.size + 1) (.loop { rec with state := .exhausted, pending := none })) (scanR l).1 xs) := hit1.kpb kp
    have HB2 : Hid (Below w.heap.size w (W2.putObj (w0.heap.size + 1) (.loop { rec with state := .exhausted, pending := none }))) := hbel1.grown (grownBy_putObj' _ _ _) hbel1.size (fun j e => by cases e; omega)
    have HSZ : Hid (w0.heap.size = w.heap.size + 3) := hsz
    clear hA1 hO1 hl1 hD1 hbel1 hrow1 hit1 kp hend hst hpd hsz
    generalize W2.putObj (w0.heap.size + 1) (.loop { rec with state := .exhausted, pending := none }) = W3 at *
    clear hrec
    generalize w0.heap.size = D at *
    obtain ⟨xa, -⟩ := cell_of HA2.out 0
    obtain ⟨xo, -⟩ := cell_of HO2.out 0
    obtain ⟨av, cv, rfl⟩ := slice_of_own HR2.out
    simp at xa xo
    gi_wp2
    refine wpIn_wide.2 ?_
    go_quiet (fail)
    go_wp2_with fail
    gi_wp2
    have hD3 : (W3.drewN nq).heap[D]? = some (.deferred (some [])) := HD2.out
    refine ⟨by simp, .inl ⟨_, _, rfl, run_takeDeferred hD3, ?_⟩⟩
    refine ⟨.tuple #[.slice av (scanR l).1.length cv, .int .i64 (scanR l).2], by simp [results, Try.results14, go_sem], ?_⟩
    refine ⟨.slice av (scanR l).1.length cv, xs, rfl, ?_, ?_, ?_⟩
    · exact ownsRow_putObj (show (W3.drewN nq).ownsRow _ _ _ _ _ _ from HR2.out) _ hD3 rfl
    · exact HI2.out.kpb ((KpB.below (Below_drewN _ _ _)).trans (KpB.put _ hD3 rfl))
    · exact (HB2.out.trans (Below_drewN _ _ nq)).grown (grownBy_putObj' _ _ _) HB2.out.size (fun j e => by cases e; have := HSZ.out; omega)
end Go.Proofs.Ytihncekjbmepoac
