/-
  What the statements make of a state: Of.
-/
import Derived.Test.YtokebdeaahdcjabDkOf
import Derived.Test.YtokebdeaahdcjabDkDo
namespace Go.Proofs.Ytokebdeaahdcjab
open Go.ChangeShapes Go.WideShapes Go.ChangeAt Go.RowKit Go.Deep
open Dk (Wr St)

/-- Sectors in a row, each with its octets. -/
def SItems (W : World) (ss : List (List UInt8)) (xs : List Value) : Prop :=
  ∀ (j : Nat) (l : List UInt8), ss[j]? = some l → ∃ a c, xs[j]? = some (Value.slice a l.length c) ∧ Bs W 0 (.slice a l.length c) l ∧ l.length ≤ 140737488351232

/-- Sectors in a row of one's own. -/
def OwnS (W : World) (B : Nat) (v : Value) (ss : List (List UInt8)) : Prop := ∃ xs, W.ownsRow B 26 1 v ss.length xs ∧ SItems W ss xs

theorem OwnS.nil (W : World) (B : Nat) : OwnS W B (.slice none 0 0) [] := ⟨[], World.ownsRow_nil _ _ _ _, fun j x h => by simp at h⟩

theorem SItems.kpb {W W' : World} {ss : List (List UInt8)} {xs : List Value} (h : SItems W ss xs) (k : KpB W W') : SItems W' ss xs := by
  intro j x hj
  obtain ⟨a, c, h1, h2, h3⟩ := h j x hj
  exact ⟨a, c, h1, h2.kpb k, h3⟩

theorem OwnS.below {W W' : World} {B : Nat} {v : Value} {ss : List (List UInt8)} (h : OwnS W B v ss) (hb : Below W.heap.size W W') : OwnS W' B v ss := by
  obtain ⟨xs, h1, h2⟩ := h
  exact ⟨xs, ownsRow_same h1 fun g hg => hb.block g (h1.lt g hg).2, h2.kpb (KpB.below hb)⟩

theorem OwnS.shape {W : World} {B : Nat} {v : Value} {ss : List (List UInt8)} (h : OwnS W B v ss) : ∃ a c, v = .slice a ss.length c := by
  obtain ⟨xs, h1, -⟩ := h
  exact slice_of_own h1

theorem OwnS.row {W : World} {B : Nat} {v : Value} {ss : List (List UInt8)} (h : OwnS W B v ss) : ∀ g, v.ownBlock = some g → B ≤ g ∧ g < W.heap.size ∧ ∃ cur, W.heap[g]? = some (.cells cur 26 (0, 0)) := by
  intro g hg
  obtain ⟨xs, h1, -⟩ := h
  have h3 := h1.lt g hg
  refine ⟨h3.1, h3.2, ?_⟩
  rcases h1.2 with ⟨h4, -⟩ | ⟨g', cap, cur, h4, h5, h6, -⟩
  · rw [h4] at hg; simp [Value.ownBlock] at hg
  · rw [h4] at hg
    simp only [Value.ownBlock, Option.some.injEq] at hg
    subst hg
    exact ⟨cur, h6⟩

theorem OwnS.set {W : World} {B : Nat} {v : Value} {ss : List (List UInt8)} (h : OwnS W B v ss) {g o : Nat} {cs : Array Value} {t : TypeId} {r : Nat × Nat} (hg : W.heap[g]? = some (.cells cs t r)) (h1 : t ≠ 5) (h2 : t ≠ 26) (u : Value) : OwnS (W.setCell ⟨g, o, none⟩ u) B v ss := by
  have hrow := h.row
  obtain ⟨xs, q1, q2⟩ := h
  refine ⟨xs, ownsRow_same q1 fun k hk => ?_, q2.kpb (KpB.set hg h1 u)⟩
  refine Below.heap_setCell _ _ _ _ ?_
  rintro rfl
  obtain ⟨-, -, cur, h5⟩ := hrow _ hk
  rw [h5] at hg
  simp only [Option.some.injEq, Obj.cells.injEq] at hg
  exact h2 hg.2.1.symm

theorem OwnS.lay {W : World} {B : Nat} {a : Option Addr} {n c : Nat} {ss : List (List UInt8)} (h : OwnS W B (.slice a n c) ss) : LayS W a ss := by
  obtain ⟨xs, hr, hi⟩ := h
  intro j l hj
  obtain ⟨a', c', h1, h2, h3⟩ := hi j l hj
  have hlt : j < ss.length := (List.getElem?_eq_some_iff.1 hj).1
  have hown := hr
  obtain ⟨l0, hc⟩ := hr
  rcases hc with ⟨h8, h9⟩ | ⟨g, cap, cur, h8, h9, h10⟩
  · omega
  · simp only [Value.slice.injEq] at h8
    obtain ⟨rfl, rfl, rfl⟩ := h8
    have e1 := hown.cells (g := g) rfl _ _ h1
    rw [add_plain] at e1
    exact ⟨g, 0, a', c', rfl, e1, h2.oct (by omega), h3⟩

theorem SItems.push {W : World} {ss : List (List UInt8)} {xs : List Value} (h : SItems W ss xs) (hl : xs.length = ss.length) {l : List UInt8} {a : Option Addr} {c : Nat} (hb : Bs W 0 (.slice a l.length c) l) (hx : l.length ≤ 140737488351232) :
    SItems W (ss ++ [l]) (xs ++ [.slice a l.length c]) := by
  intro j y hj
  by_cases hlt : j < ss.length
  · rw [List.getElem?_append_left hlt] at hj
    obtain ⟨a', c', h1, h2⟩ := h j y hj
    exact ⟨a', c', by rw [List.getElem?_append_left (by omega)]; exact h1, h2⟩
  · rw [List.getElem?_append_right (by omega)] at hj
    have hj0 : j = ss.length := by
      have := (List.getElem?_eq_some_iff.1 hj).1
      simp at this
      omega
    subst hj0
    simp only [Nat.sub_self, List.getElem?_cons_zero, Option.some.injEq] at hj
    subst hj
    exact ⟨a, c, by rw [List.getElem?_append_right (by omega), show ss.length - xs.length = 0 by omega]; rfl, hb, hx⟩

/-- append of one sector, as one step. -/
theorem step_pushS {ops : Array Oper} {o : Oper} {a : Act} {w : World} {K : Act → World → Prop} {Q : Exit → Act → World → Prop} {E : Prop} (hg : o.guard = none) (sl x : Operand)
    (ho : o.op = .call { callee := .builtin .append, args := #[sl, x], argTypes := #[22, 22] })
    (B : Nat) (v : Value) (ss : List (List UInt8)) (hs : a.eval sl = v) (hown : OwnS w B v ss) (y : List UInt8) (ya : Option Addr) (yc : Nat) (hy : Bs w 0 (.slice ya y.length yc) y) (hf : y.length ≤ 140737488351232) (ad : Addr) (hx : a.eval x = .slice (some ad) 1 1)
    (hnews : ∀ j u, [Value.slice ya y.length yc][j]? = some u → w.cell? (ad.add j) = some u) (hlen : (ss.length + 1) * 24 ≤ 140737488355328) (hbase : B ≤ w.heap.size)
    (h : ∀ v' w', OwnS w' B v' (ss ++ [y]) → RowTo w w' v v' → K (a.put o.dst v') w') : if Region.wanted o (yielded ops a.tmps) = true then Oper.wp Try.prog o a w K Q else E := by
  obtain ⟨i0, hi, hz0, hz1, hz2⟩ := info_parts Try.infoBs
  have hrow := hown.row
  obtain ⟨xs, hr, hit⟩ := hown
  refine step_append hg sl x 22 ho B 26 i0 _ 1 24 Try.underlying22 hi hz0 hz1 hz2 rfl (by decide) v ss.length xs hs hr ad 1 1 _ hx rfl hnews (by simp [Value.oneCell']) (by unfold maxLen; omega) hlen hbase ?_
  intro v' w' h1 h2 h3
  have kp : KpB w w' := KpB.grown h2 (by
    intro g hg
    obtain ⟨-, -, cur, h5⟩ := hrow g hg
    exact ⟨cur, _, _, h5, by decide⟩)
  refine h v' w' ⟨_, by rw [List.length_append]; exact h1, (hit.kpb kp).push ?_ (hy.kpb kp) hf⟩ ⟨h2, h3⟩
  have := hr.1
  omega

/-- Writes stay where a row of sectors grows. -/
theorem OwnW.rowTo {W W' : World} {B B' : Nat} {v v' u : Value} {ss : List (List UInt8)} {ws : List Wr} (h : OwnW W B' u ws) (ho : OwnS W B v ss) (hr : RowTo W W' v v') : OwnW W' B' u ws := by
  have hne : ∀ (k : Nat) (cs' : Array Value) (t' : TypeId) (r' : Nat × Nat), t' ≠ 26 → W.heap[k]? = some (.cells cs' t' r') → W'.heap[k]? = W.heap[k]? := by
    intro k cs' t' r' ht hk
    refine hr.block (lt_of_block hk) ?_
    intro e
    obtain ⟨-, -, cur, q⟩ := ho.row k e
    rw [q] at hk
    simp only [Option.some.injEq, Obj.cells.injEq] at hk
    exact ht hk.2.1.symm
  have hrow := h.row
  obtain ⟨xs, q1, q2⟩ := h
  refine ⟨xs, ownsRow_same q1 fun g hg => ?_, q2.kpb ⟨hr.grown.size, fun j cs r hj => hne _ _ _ _ (by decide) hj⟩⟩
  obtain ⟨-, -, cur, h5⟩ := hrow g hg
  exact hne _ _ _ _ (by decide) h5

set_option maxRecDepth 100000 in
set_option maxHeartbeats 6400000 in
theorem of_any (s : St) (a a' : Option Addr) (c c' : Nat) (w : World) (hS : LayS w a s.secs) (hW : LayW w a' s.cache) (hn : s.secs.length * 24 ≤ 140737488351232) (hm : s.cache.length * 40 ≤ 140737488351232) :
    Calls Try.prog 9 #[.agg #[.slice a s.secs.length c, .slice a' s.cache.length c']] w fun e w' => ∃ b d b' d', e = .returned (.agg #[.slice b s.secs.length d, .slice b' s.cache.length d']) ∧ LayS w' b s.secs ∧ LayW w' b' s.cache ∧ Below w.heap.size w w' := by
  obtain ⟨ss, ws⟩ := s
  simp only at hS hW hn hm ⊢
  have HS : Hid (LayS w a ss) := hS
  have HW : Hid (LayW w a' ws) := hW
  clear hS hW
  have B0 : Hid (Below w.heap.size w ((w.alloc (.cells #[.slice a ss.length c, .slice a' ws.length c'] 25)).alloc (.cells #[.slice none 0 0, .slice none 0 0] 30))) := nxt (below_one _ _) (below_one _ _)
  have X0 : Hid (((w.alloc (.cells #[.slice a ss.length c, .slice a' ws.length c'] 25)).alloc (.cells #[.slice none 0 0, .slice none 0 0] 30)).heap[w.heap.size]? = some (.cells #[.slice a ss.length c, .slice a' ws.length c'] 25 (0, 0))) := (Below.heap_alloc _ _ _ (by simp)).trans (heap_alloc_new _ _)
  have Y0 : Hid (((w.alloc (.cells #[.slice a ss.length c, .slice a' ws.length c'] 25)).alloc (.cells #[.slice none 0 0, .slice none 0 0] 30)).heap[w.heap.size + 1]? = some (.cells #[.slice none 0 0, .slice none 0 0] 30 (0, 0))) := heap_new2 _ _ _
  have Z0 : Hid (((w.alloc (.cells #[.slice a ss.length c, .slice a' ws.length c'] 25)).alloc (.cells #[.slice none 0 0, .slice none 0 0] 30)).heap.size = w.heap.size + 2) := by show _ = _; simp
  go_enter Try.func9, Try.ntmps9
  go_wp2_with (go_at_call 28; refine (copyWs_any ws a' c' _ (HW.out.below B0.out) hm).mono ?_; rintro e w1 ⟨s1, rfl, ho1, hb1⟩; obtain ⟨wa, wc0, rfl⟩ := ho1.shape; have HO1 : Hid (OwnW w1 0 (.slice wa ws.length wc0) ws) := ho1.base (Nat.zero_le _); have HB1 : Hid (Below w.heap.size w w1) := nxt B0.out hb1; have X1 : Hid (w1.heap[w.heap.size]? = some (.cells #[.slice a ss.length c, .slice a' ws.length c'] 25 (0, 0))) := (hb1.block _ (lt_of_block X0.out)).trans X0.out; have Y1 : Hid (w1.heap[w.heap.size + 1]? = some (.cells #[.slice none 0 0, .slice none 0 0] 30 (0, 0))) := (hb1.block _ (lt_of_block Y0.out)).trans Y0.out; clear ho1 hb1 X0 Y0 B0 Z0)
  have HB2 : Hid (Below w.heap.size w (w1.alloc (.cells #[.slice none 0 0, .slice wa ws.length wc0] 30))) := nxt HB1.out (below_one _ _)
  have HO2 : Hid (OwnW (w1.alloc (.cells #[.slice none 0 0, .slice wa ws.length wc0] 30)) 0 (.slice wa ws.length wc0) ws) := HO1.out.below (below_one _ _)
  have X2 : Hid ((w1.alloc (.cells #[.slice none 0 0, .slice wa ws.length wc0] 30)).heap[w.heap.size]? = some (.cells #[.slice a ss.length c, .slice a' ws.length c'] 25 (0, 0))) := (Below.heap_alloc _ _ _ (lt_of_block X1.out)).trans X1.out
  have Y2 : Hid ((w1.alloc (.cells #[.slice none 0 0, .slice wa ws.length wc0] 30)).heap[w.heap.size + 1]? = some (.cells #[.slice none 0 0, .slice none 0 0] 30 (0, 0))) := (Below.heap_alloc _ _ _ (lt_of_block Y1.out)).trans Y1.out
  have T2 : Hid ((w1.alloc (.cells #[.slice none 0 0, .slice wa ws.length wc0] 30)).heap[w1.heap.size]? = some (.cells #[.slice none 0 0, .slice wa ws.length wc0] 30 (0, 0))) := heap_alloc_new _ _
  have hsz1 := HB1.out.size
  have hlt1 : w.heap.size + 1 < w1.heap.size := lt_of_block Y1.out
  generalize w1.alloc (.cells #[.slice none 0 0, .slice wa ws.length wc0] 30) = W at *
  clear HB1 HO1 X1 Y1
  generalize w1.heap.size = B at *
  have hBW : B < W.heap.size := lt_of_block T2.out
  go_loopw [4] (fun i wr => ∃ (m : Nat) (v : Value), m ≤ ss.length ∧ i = .int .i64 m ∧ Hid (wr.heap[B]? = some (.cells #[v, .slice wa ws.length wc0] 30 (0, 0))) ∧ Hid (OwnS wr W.heap.size v (ss.take m)) ∧ Hid (OwnW wr 0 (.slice wa ws.length wc0) ws) ∧ Hid (Below B W wr)) (fun i _ => ss.length - (intOf i).toNat)
  case atStart => exact ⟨0, .slice none 0 0, by omega, rfl, T2.out, by show OwnS _ _ _ _; simpa using OwnS.nil _ _, HO2.out, Below.refl _ _⟩
  case round =>
    obtain ⟨m, v, hm1, rfl, HT, HO, HOW, HB⟩ := hrel
    obtain ⟨va, vc, rfl⟩ := HO.out.shape
    have hXr := (HB.out.block _ (show w.heap.size < B by omega)).trans X2.out
    have x0 := (cell_of hXr 0).1
    simp at x0
    have hbw : Below w.heap.size w wr := HB2.out.trans (HB.out.mono (by omega))
    have HBW : Hid (Below w.heap.size w wr) := hbw
    clear hbw hXr
    by_cases hlt : m < ss.length
    · have hltb : (m : Int) < (ss.length : Int) := by omega
      obtain ⟨l, hl⟩ : ∃ l, ss[m]? = some l := ⟨_, List.getElem?_eq_getElem hlt⟩
      obtain ⟨b, off, a1, c1, rfl, q1, q2, q3⟩ := (HS.out.below HBW.out) m l hl
      have HX : Hid (ss.take (m + 1) = ss.take m ++ [l]) := by
        show _ = _
        rw [List.take_succ_eq_append_getElem hlt]
        rw [List.getElem?_eq_getElem hlt] at hl
        simp only [Option.some.injEq] at hl
        rw [hl]
      have HQ : Hid (Oct wr.drew a1 c1 l) := q2.below (Below.refl _ _).drew
      have p0 : wr.drew.cell? ⟨w.heap.size, 0, none⟩ = some (.slice (some ⟨b, off, none⟩) ss.length c) := x0
      have p1 : wr.drew.cell? ⟨b, off + m, none⟩ = some (.slice a1 l.length c1) := q1
      have p2 : wr.drew.cell? ⟨B, 0, none⟩ = some (.slice va (ss.take m).length vc) := (cell_of HT.out 0).1
      have hlen24 : ((ss.take m).length + 1) * 24 ≤ 140737488355328 := by rw [List.length_take]; omega
      have HTD : Hid (wr.drew.heap[B]? = some (.cells #[.slice va (ss.take m).length vc, .slice wa ws.length wc0] 30 (0, 0))) := HT.out
      have HOD : Hid (OwnS wr.drew W.heap.size (.slice va (ss.take m).length vc) (ss.take m)) := HO.out.below (Below.refl _ _).drew
      have HWD : Hid (OwnW wr.drew 0 (.slice wa ws.length wc0) ws) := HOW.out.below (Below.refl _ _).drew
      have HBD : Hid (Below B W wr.drew) := HB.out.drew
      have hWr := HB.out.size
      generalize ss.take m = acc at *
      clear hl q1 q2
      go_wp2_with fail
      go_region_law (first
        | (refine step_call1 rfl 10 (by intros; go_simp) _ _ rfl (.slice a1 l.length c1) (by first | (simp [Act.eval]; done) | simp [Act.eval, Act.put]) (fun y w' => Bs w' wr.heap.size y l ∧ Below wr.heap.size wr.drew w') ((copyB_any a1 c1 l _ HQ.out q3).mono fun e w' ⟨s, k1, k2, k3⟩ => ⟨s, k1, k2, k3⟩) ?_; intro y w1 hR; obtain ⟨hs1, hb1⟩ := hR; obtain ⟨a2, c2, rfl⟩ := hs1.shape
           have z2 := keepc hb1 _ _ p2
           have z2' : ∀ o, (w1.alloc o).cell? ⟨B, 0, none⟩ = some (.slice va acc.length vc) := fun o => keepc (below_one _ _) _ _ z2)
        | (refine step_pushS rfl _ _ rfl W.heap.size (.slice va acc.length vc) acc (by first | (simp [Act.eval]; done) | simp [Act.eval, Act.put]) (HOD.out.below (nxt hb1 (below_one _ _))) l a2 c2 ((hs1.up (fun g _ => Nat.zero_le _)).below (below_one _ _)) q3 ⟨w1.heap.size, 0, none⟩ (by first | (simp [Act.eval]; done) | simp [Act.eval, Act.put]) (fun j u hj => newCells w1 _ _ j u (by simpa using hj)) hlen24 (by have h2 := hb1.size; have h3 : wr.drew.heap.size = wr.heap.size := rfl; simp; omega) ?_; intro v' w5 k1 k2
           obtain ⟨av', cv', rfl⟩ := k1.shape
           have hw5 : w5.heap[B]? = some (.cells #[.slice va acc.length vc, .slice wa ws.length wc0] 30 (0, 0)) := by
             have hq := ((nxt hb1 (below_one w1 (.cells #[.slice a2 l.length c2] 26))).block _ (lt_of_block HTD.out)).trans HTD.out
             rw [k2.block (lt_of_block hq) (fun e => by have := (HOD.out.row _ e).1; omega)]
             exact hq
           have hc5 := (cell_of hw5 0).1
           have hf5 := (cell_of hw5 0).2
           simp at hc5))
      all_goals
        have hb1' : Below wr.drew.heap.size wr.drew w1 := hb1
        have bX := nxt hb1' (below_one w1 (.cells #[.slice a2 l.length c2] 26))
        have hsz5 : W.heap.size ≤ (w1.alloc (.cells #[.slice a2 l.length c2] 26)).heap.size := by
          have h2 := hb1.size
          have h3 : wr.drew.heap.size = wr.heap.size := rfl
          simp
          omega
        have H1 : Hid ((w5.setCell ⟨B, 0, none⟩ (.slice av' (acc ++ [l]).length cv')).heap[B]? = some (.cells #[.slice av' (acc ++ [l]).length cv', .slice wa ws.length wc0] 30 (0, 0))) := by
          show _ = _
          rw [set_one_cell (o := 0) hw5]
          simp
        have H2 : Hid (OwnS (w5.setCell ⟨B, 0, none⟩ (.slice av' (acc ++ [l]).length cv')) W.heap.size (.slice av' (acc ++ [l]).length cv') (acc ++ [l])) := k1.set hw5 (by decide) (by decide) _
        have H3 : Hid (OwnW (w5.setCell ⟨B, 0, none⟩ (.slice av' (acc ++ [l]).length cv')) 0 (.slice wa ws.length wc0) ws) := (OwnW.rowTo (HWD.out.below bX) (HOD.out.below bX) k2).set hw5 (by decide) (by decide) _
        have H4 : Hid (Below B W (w5.setCell ⟨B, 0, none⟩ (.slice av' (acc ++ [l]).length cv'))) := ((HBD.out.trans (bX.mono (by have h3 : wr.drew.heap.size = wr.heap.size := rfl; omega))).trans (k2.below (by omega) (fun g hg => by have := (HOD.out.row g hg).1; omega))).setCell (by show B ≤ B; omega) _
        clear p0 p1 p2 k1 k2 hs1 hb1 hb1' z2 z2' x0 bX hw5
        go_wp2_with fail
        refine ⟨⟨m + 1, .slice av' (acc ++ [l]).length cv', by omega, by go_num, ?_, ?_, ?_, ?_⟩, by simp [intOf]; omega⟩
        · first | exact H1.out | simpa [Hid] using H1.out
        · show OwnS _ _ _ _
          rw [HX.out]
          first | exact H2.out | simpa using H2.out
        · first | exact H3.out | simpa [Hid] using H3.out
        · first | exact H4.out | simpa [Hid] using H4.out
    · have hme : m = ss.length := by omega
      subst hme
      have hO := HO.out
      have hT := HT.out
      rw [List.take_length] at hO hT
      have HO2 : Hid (OwnS wr W.heap.size (.slice va ss.length vc) ss) := hO
      have HT2 : Hid (wr.heap[B]? = some (.cells #[.slice va ss.length vc, .slice wa ws.length wc0] 30 (0, 0))) := hT
      have HY : Hid (wr.heap[w.heap.size + 1]? = some (.cells #[.slice none 0 0, .slice none 0 0] 30 (0, 0))) := (HB.out.block _ hlt1).trans Y2.out
      have t0 := (cell_of hT 0).1
      have t1 := (cell_of hT 1).1
      have g0 := (cell_of HY.out 0).1
      have g1 := (cell_of HY.out 1).1
      have f0 := (cell_of HY.out 0).2
      have f1 := (cell_of HY.out 1).2
      simp at t0 t1 g0 g1
      clear hO hT HT HO
      go_wp2_with fail
      have hset1 := set_one_cell (o := 0) HY.out (.slice va ss.length vc)
      have hset2 := set_one_cell (o := 1) hset1 (.slice wa ws.length wc0)
      have r0 := (cell_of hset2 0).1
      have r1 := (cell_of hset2 1).1
      simp at r0 r1
      refine bodyPost_ret (v := .agg #[.slice va ss.length vc, .slice wa ws.length wc0]) (by simp [results, Try.results9, go_sem, r0, r1]) rfl ?_
      refine ⟨va, vc, wa, wc0, rfl, ((HO2.out.set HY.out (by decide) (by decide) _).set hset1 (by decide) (by decide) _).lay, ((HOW.out.set HY.out (by decide) (by decide) _).set hset1 (by decide) (by decide) _).lay, ?_⟩
      exact (HBW.out.setCell (by show w.heap.size ≤ w.heap.size + 1; omega) _).setCell (by show w.heap.size ≤ w.heap.size + 1; omega) _
end Go.Proofs.Ytokebdeaahdcjab
