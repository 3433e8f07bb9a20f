/-
  Copies: octets, a write, sectors.
-/
import Derived.Test.YtokebdeaahdcjabDkLay
import Derived.Test.YtokebdeaahdcjabOcStep
import Derived.Deep.OwnRows
namespace Go.Proofs.Ytokebdeaahdcjab
open Go.ChangeShapes Go.WideShapes Go.ChangeAt Go.RowKit Go.Deep
open Dk (Wr St)

theorem eql_nil (w : World) (a : Option Addr) (l c : Nat) : Sem.run Try.prog (binOp .eql 26 (.slice a l c) (.slice none 0 0)) w = .ok (.bool a.isNone) w := by
  exact Lib.run_eql_slice_nil w 26 5 a l c 0 0 Try.underlying26

set_option maxRecDepth 100000 in
theorem clone_any (a : Option Addr) (c : Nat) (l : List UInt8) (w : World) (ho : Oct w a c l) (hl : l.length ≤ 140737488351232) :
    Calls Try.prog 46 #[.slice a l.length c] w fun e w' => ∃ s, e = .returned s ∧ Bs w' w.heap.size s l ∧ Below w.heap.size w w' := by
  have HO : Hid (Oct w a c l) := ho
  cases a with
  | none =>
    have hc := ho.2.2.2.2.1 rfl
    have hl0 : l = [] := List.eq_nil_of_length_eq_zero (by have := ho.2.1; omega)
    subst hl0 hc
    clear ho
    have hnil := fun w l c => eql_nil w none l c
    simp only [Option.isNone_none] at hnil
    go_enter Try.func46, Try.ntmps46
    go_wp2_with fail
    go_ret
    exact ⟨_, rfl, Bs.nil _ _, Below.refl _ _⟩
  | some ad =>
    clear ho
    have B0 : Hid (Bs (w.alloc (.cells #[] 5)) w.heap.size (.slice (some ⟨w.heap.size, 0, none⟩) 0 0) []) := Bs.made w [] #[] rfl _ (Nat.le_refl _) (by simp)
    have HO2 : Hid (Oct (w.alloc (.cells #[] 5)) (some ad) c l) := HO.out.below (below_one _ _)
    have hnil := fun w l c => eql_nil w (some ad) l c
    simp only [Option.isNone_some] at hnil
    go_enter Try.func46, Try.ntmps46
    go_wp2_with (at_builtin; refine wpList_appO _ rfl _ _ rfl w.heap.size _ [] l rfl B0.out (some ad) c rfl HO2.out ?d0 ?d1 ?_)
    case d0 => simp; omega
    case d1 => simp
    intro s w1 h1 h2
    have H1 : Hid (Bs w1 w.heap.size s l) := by show Bs _ _ _ _; simpa using h1
    have B1 : Hid (Below w.heap.size w w1) := (RowTo.pre (below_one w _) h2).below (Nat.le_refl _) (fun g hg => by simp [Value.ownBlock] at hg; omega)
    clear h1 h2
    go_wp2_with fail
    go_ret
    exact ⟨s, rfl, H1.out, B1.out⟩

theorem three_cells {w w1 : World} {g : Nat} {x y z : Value} {t : TypeId} (h : w1.heap[g]? = w.drew.heap[g]?) (hx : w.heap[g]? = some (.cells #[x, y, z] t (0, 0))) :
    w1.cell? ⟨g, 0, none⟩ = some x ∧ w1.cell? ⟨g, 1, none⟩ = some y ∧ w1.cell? ⟨g, 2, none⟩ = some z ∧ w1.frozen? ⟨g, 0, none⟩ = false ∧ w1.frozen? ⟨g, 1, none⟩ = false ∧ w1.frozen? ⟨g, 2, none⟩ = false := by
  have h2 : w1.heap[g]? = some (.cells #[x, y, z] t (0, 0)) := h.trans hx
  simp [World.cell?, World.frozen?, h2]

set_option maxRecDepth 100000 in
set_option maxHeartbeats 3200000 in
theorem copyW_any (fl : Bool) (sec : Int) (a : Option Addr) (c : Nat) (d : List UInt8) (w : World) (ho : Oct w a c d) (hl : d.length ≤ 140737488351232) :
    Calls Try.prog 45 #[.agg #[.bool fl, .int .i64 sec, .slice a d.length c]] w fun e w' => ∃ s, e = .returned (.agg #[.bool false, .int .i64 sec, s]) ∧ Bs w' w.heap.size s d ∧ Below w.heap.size w w' := by
  have HO : Hid (Oct w a c d) := ho
  clear ho
  go_enter Try.func45, Try.ntmps45
  go_wp2_with fail
  have B0 : Hid (Below w.heap.size w ((w.alloc (.cells #[.bool fl, .int .i64 sec, .slice a d.length c] 28)).alloc (.cells #[.bool false, .int .i64 0, .slice none 0 0] 28))) := nxt (below_one _ _) (below_one _ _)
  have X0 : Hid (((w.alloc (.cells #[.bool fl, .int .i64 sec, .slice a d.length c] 28)).alloc (.cells #[.bool false, .int .i64 0, .slice none 0 0] 28)).heap[w.heap.size]? = some (.cells #[.bool fl, .int .i64 sec, .slice a d.length c] 28 (0, 0))) := (Below.heap_alloc _ _ _ (by simp)).trans (heap_alloc_new _ _)
  have Y0 : Hid (((w.alloc (.cells #[.bool fl, .int .i64 sec, .slice a d.length c] 28)).alloc (.cells #[.bool false, .int .i64 0, .slice none 0 0] 28)).heap[w.heap.size + 1]? = some (.cells #[.bool false, .int .i64 0, .slice none 0 0] 28 (0, 0))) := heap_new2 _ _ _
  generalize (w.alloc (.cells #[.bool fl, .int .i64 sec, .slice a d.length c] 28)).alloc (.cells #[.bool false, .int .i64 0, .slice none 0 0] 28) = W at *
  obtain ⟨x1, -⟩ := cell_of X0.out 1
  obtain ⟨x2, -⟩ := cell_of X0.out 2
  simp at x1 x2
  have x1' : W.drew.cell? ⟨w.heap.size, 1, none⟩ = some (.int .i64 sec) := x1
  have x2' : W.drew.cell? ⟨w.heap.size, 2, none⟩ = some (.slice a d.length c) := x2
  go_region_with ((go_at_call 46; refine (clone_any a c d _ (HO.out.below B0.out.drew) hl).mono ?_; rintro e w1 ⟨s1, rfl, hs1, hb1⟩; have y1 := keepc hb1 _ _ x1'; obtain ⟨t0, t1, t2, q0, q1, q2⟩ := three_cells (hb1.block _ (lt_of_block Y0.out)) Y0.out; obtain ⟨a1, c1, rfl⟩ := hs1.shape))
  all_goals
    have hw : w.heap.size + 1 < W.heap.size := lt_of_block Y0.out
    have B1 : Hid (Below w.heap.size w w1) := B0.out.drew.trans (hb1.mono (by have := B0.out.size; show w.heap.size ≤ W.heap.size; omega))
    have S1 : Hid (Bs w1 W.heap.size (.slice a1 d.length c1) d) := hs1
    clear hs1 hb1
    go_wp2_with fail
    refine bodyPost_ret (v := .agg #[.bool false, .int .i64 sec, .slice a1 d.length c1]) (by simp [results, Try.results45, go_sem, t0, t1, t2]) rfl ?_
    refine ⟨_, rfl, ?_, ((B1.out.setCell (by show w.heap.size ≤ w.heap.size + 1; omega) _).setCell (by show w.heap.size ≤ w.heap.size + 1; omega) _).setCell (by show w.heap.size ≤ w.heap.size + 1; omega) _⟩
    have h := S1.out
    refine Bs.up (B := W.heap.size) (ownsRow_same h ?_) ?_
    · intro g hg
      have := (h.base g hg).1
      rw [Below.heap_setCell _ _ _ _ (by show g ≠ w.heap.size + 1; omega), Below.heap_setCell _ _ _ _ (by show g ≠ w.heap.size + 1; omega), Below.heap_setCell _ _ _ _ (by show g ≠ w.heap.size + 1; omega)]
    · intro g hg
      have := (h.base g hg).1
      omega

theorem Try.infoBs : (Try.prog.info? 26).map (fun i => (i.zero, i.size, i.bytes)) = some (some (.slice none 0 0), 1, 24) := by kernel_rfl

/-- A row of octets of one's own is a window. -/
theorem win_of {W : World} {B : Nat} {s : Value} {l : List UInt8} (h : Bs W B s l) (hl : l.length = 48) : ∃ g, B ≤ g ∧ g < W.heap.size ∧ Win W (some (g, 0)) s l := by
  have hlt := h.lt
  obtain ⟨h1, h2⟩ := h
  rcases h2 with ⟨h3, h4⟩ | ⟨g, cap, cur, h3, h4, h5, h6, h7, h8, h9⟩
  · omega
  · refine ⟨g, h4, (hlt g (by rw [h3]; rfl)).2, cap, cur, by rw [h3, hl], by omega, by unfold maxLen at h7; omega, hl, h5, by omega, ?_⟩
    intro j u hj
    have hj2 := (List.getElem?_eq_some_iff.1 hj).1
    have e : (cur.toList.take (l.length * 1))[j]? = (cellsO l)[j]? := by rw [h9]
    rw [List.getElem?_take_of_lt (by omega), Array.getElem?_toList] at e
    rw [Nat.zero_add, e]
    simp [cellsO, hj]

/-- A row of rows, the first of which are set. -/
structure Rws (B : Nat) (W : World) (T n : Nat) (gs : List Nat) (ss : List (List UInt8)) : Prop where
  tab : ∃ tab : Array Value, W.heap[T]? = some (.cells tab 26 (0, 0)) ∧ tab.size = n ∧ ∀ (i g : Nat) (l : List UInt8), gs[i]? = some g → ss[i]? = some l → ∃ x, tab[i]? = some x ∧ Win W (some (g, 0)) x l
  nodup : gs.Nodup
  up : ∀ g ∈ gs, B ≤ g ∧ g < W.heap.size

theorem Rws.step {B : Nat} {W W' : World} {T n : Nat} {gs : List Nat} {ss : List (List UInt8)} (h : Rws B W T n gs ss) (hm : gs.length < n) {l : List UInt8} (hl : ss[gs.length]? = some l) (hb : Below W.heap.size W W') {s : Value} {g : Nat} (hg1 : W.heap.size ≤ g) (hg2 : g < W'.heap.size) (hB : B ≤ W.heap.size)
    (hw : Win W' (some (g, 0)) s l) : Rws B (W'.setCell ⟨T, gs.length, none⟩ s) T n (gs ++ [g]) ss := by
  obtain ⟨tab, t1, t2, t3⟩ := h.tab
  have hT := lt_of_block t1
  have t1' := (hb.block _ hT).trans t1
  have hoth : ∀ j, j ≠ T → (W'.setCell ⟨T, gs.length, none⟩ s).heap[j]? = W'.heap[j]? := fun j hj => Below.heap_setCell _ _ _ _ hj
  have hkp : ∀ {wn x k}, Win W' wn x k → Win (W'.setCell ⟨T, gs.length, none⟩ s) wn x k := by
    intro wn x k hw
    cases wn with
    | none => exact hw
    | some p =>
      obtain ⟨c, cur, e1, e2, e3, e4, e5, e6⟩ := hw
      exact ⟨c, cur, e1, e2, e3, e4, by rw [hoth p.1 (by rintro e; rw [e, t1'] at e5; simp at e5)]; exact e5, e6⟩
  refine ⟨⟨tab.setIfInBounds gs.length s, set_one_cell t1' s, by simp [t2], ?_⟩, ?_, ?_⟩
  · intro i g' l' hi hl'
    by_cases e : i < gs.length
    · rw [List.getElem?_append_left e] at hi
      obtain ⟨x, hx, hwx⟩ := t3 i g' l' hi hl'
      exact ⟨x, by rw [Array.getElem?_setIfInBounds_ne (by omega)]; exact hx, hkp (hwx.keep (KpC.below hb))⟩
    · rw [List.getElem?_append_right (by omega)] at hi
      have hi0 : i = gs.length := by
        have := (List.getElem?_eq_some_iff.1 hi).1
        simp at this
        omega
      subst hi0
      simp only [Nat.sub_self, List.getElem?_cons_zero, Option.some.injEq] at hi
      subst hi
      rw [hl] at hl'
      cases hl'
      exact ⟨s, by rw [Array.getElem?_setIfInBounds_self_of_lt (by omega)], hkp hw⟩
  · refine List.nodup_append.2 ⟨h.nodup, by simp, ?_⟩
    intro x hx y hy e
    have h1 := (h.up x hx).2
    simp at hy
    omega
  · intro g' hg'
    have hs : (W'.setCell ⟨T, gs.length, none⟩ s).heap.size = W'.heap.size := by simp [World.setCell]
    rw [hs]
    rcases List.mem_append.1 hg' with h1 | h1
    · have h2 := h.up g' h1
      have := hb.size
      exact ⟨h2.1, by omega⟩
    · simp at h1
      subst h1
      exact ⟨by omega, hg2⟩

theorem Rws.wn {B : Nat} {W : World} {T n : Nat} {gs : List Nat} {ss : List (List UInt8)} (h : Rws B W T n gs ss) (h1 : gs.length = ss.length) (h2 : ss.length = n) : ∃ wins, Wn W T wins ss ∧ Apart wins ∧ WinsUp B wins ∧ (∀ (i : Nat) wn, wins[i]? = some wn → wn ≠ none) := by
  obtain ⟨tab, t1, t2, t3⟩ := h.tab
  refine ⟨gs.map fun g => some (g, 0), ⟨by simpa using h1, tab, t1, by omega, ?_⟩, ?_, ?_, ?_⟩
  · intro i wn l hi hl
    rw [List.getElem?_map, Option.map_eq_some_iff] at hi
    obtain ⟨g, hg, rfl⟩ := hi
    exact t3 i g l hg hl
  · intro i j g o o' hij hi hj
    rw [List.getElem?_map, Option.map_eq_some_iff] at hi hj
    obtain ⟨g1, hg1, e1⟩ := hi
    obtain ⟨g2, hg2, e2⟩ := hj
    simp only [Option.some.injEq, Prod.mk.injEq] at e1 e2
    obtain ⟨rfl, rfl⟩ := e1
    obtain ⟨rfl, rfl⟩ := e2
    exfalso
    obtain ⟨l1, q1⟩ := List.getElem?_eq_some_iff.1 hg1
    obtain ⟨l2, q2⟩ := List.getElem?_eq_some_iff.1 hg2
    have hnd := List.pairwise_iff_getElem.1 h.nodup
    rcases Nat.lt_or_gt_of_ne hij with e | e
    · exact hnd i j l1 l2 e (q1.trans q2.symm)
    · exact hnd j i l2 l1 e (q2.trans q1.symm)
  · intro i g o hi
    rw [List.getElem?_map, Option.map_eq_some_iff] at hi
    obtain ⟨g1, hg1, e1⟩ := hi
    simp only [Option.some.injEq, Prod.mk.injEq] at e1
    obtain ⟨rfl, rfl⟩ := e1
    exact (h.up g1 (List.mem_of_getElem? hg1)).1
  · intro i wn hi
    rw [List.getElem?_map, Option.map_eq_some_iff] at hi
    obtain ⟨g1, hg1, rfl⟩ := hi
    simp

set_option maxRecDepth 100000 in
set_option maxHeartbeats 3200000 in
theorem copyS_any (a : Option Addr) (c : Nat) (ss : List (List UInt8)) (w : World) (hS : LayS w a ss) (hr : ∀ l ∈ ss, l.length = 48) (hn : ss.length ≤ 4096) :
    Calls Try.prog 36 #[.slice a ss.length c] w fun e w' => ∃ T wins, e = .returned (.slice (some ⟨T, 0, none⟩) ss.length ss.length) ∧ Wn w' T wins ss ∧ Apart wins ∧ WinsUp w.heap.size wins ∧ (∀ (i : Nat) wn, wins[i]? = some wn → wn ≠ none) ∧ Below w.heap.size w w' := by
  have HS : Hid (LayS w a ss) := hS
  have HR : Hid (∀ l ∈ ss, l.length = 48) := hr
  clear hS hr
  have hmk : ∀ w, Sem.run Try.prog (Instr.makeSlice 22 (.int .i64 (ss.length : Nat)) (.int .i64 (ss.length : Nat))) w = .ok (.slice (some ⟨w.heap.size, 0, none⟩) ss.length ss.length) (w.alloc (.cells (madeCells #[.slice none 0 0] ss.length) 26)) :=
    fun w => run_make_row' 22 26 (.slice none 0 0) 24 Try.underlying22 Try.infoBs rfl .i64 .i64 ss.length (by omega) (by omega) w
  have HT : Hid (Rws w.heap.size (w.alloc (.cells (madeCells #[.slice none 0 0] ss.length) 26)) w.heap.size ss.length [] ss) :=
    ⟨⟨_, heap_alloc_new _ _, size_madeCells _ _, fun i g l h => by simp at h⟩, List.nodup_nil, fun g h => by cases h⟩
  have B0 : Hid (Below w.heap.size w (w.alloc (.cells (madeCells #[.slice none 0 0] ss.length) 26))) := below_one _ _
  go_enter Try.func36, Try.ntmps36
  go_wp2_with fail
  generalize w.alloc (.cells (madeCells #[.slice none 0 0] ss.length) 26) = W at *
  go_loopw [11] (fun i wr => ∃ (m : Nat) (gs : List Nat), m ≤ ss.length ∧ i = .int .i64 m ∧ Hid (gs.length = m) ∧ Hid (Rws w.heap.size wr w.heap.size ss.length gs ss) ∧ Hid (Below w.heap.size w wr)) (fun i _ => ss.length - (intOf i).toNat)
  case atStart => exact ⟨0, [], by omega, rfl, rfl, HT.out, B0.out⟩
  case round =>
    obtain ⟨m, gs, hm, rfl, HG, HT, HB⟩ := hrel
    by_cases hlt : m < ss.length
    · have hlt1 : (m : Int) < (ss.length : Int) := by omega
      obtain ⟨l, hl⟩ : ∃ l, ss[m]? = some l := ⟨_, List.getElem?_eq_getElem hlt⟩
      obtain ⟨b, off, a1, c1, rfl, q1, q2, q3⟩ := (HS.out.below HB.out) m l hl
      have HL : Hid (ss[m]? = some l) := hl
      have H48 : Hid (l.length = 48) := HR.out l (List.mem_of_getElem? hl)
      have HQ : Hid (Oct wr a1 c1 l) := q2
      clear hl q2
      obtain ⟨tab, t1, t2, -⟩ := HT.out.tab
      have HTT : Hid (wr.heap[w.heap.size]? = some (.cells tab 26 (0, 0)) ∧ tab.size = ss.length) := ⟨t1, t2⟩
      clear t1 t2
      go_wp2_with (go_at_call 46; refine (clone_any a1 c1 l _ HQ.out q3).mono ?_; rintro e w1 ⟨s1, rfl, hs1, hb1⟩; obtain ⟨a2, c2, rfl⟩ := hs1.shape; have HB1 : Hid (Below wr.heap.size wr w1) := hb1; have HS1 : Hid (Bs w1 wr.heap.size (.slice a2 l.length c2) l) := hs1; obtain ⟨y1, f1⟩ := cell_of ((hb1.block _ (lt_of_block HTT.out.1)).trans HTT.out.1) m; rw [Array.getElem?_eq_getElem (by have := HTT.out.2; omega)] at y1; clear hb1 hs1)
      obtain ⟨g, g1, g2, gw⟩ := win_of HS1.out H48.out
      have hlen := HG.out
      have hst := HT.out.step (by omega) (by rw [hlen]; exact HL.out) HB1.out g1 g2 HB.out.size gw
      rw [hlen] at hst
      refine ⟨⟨m + 1, gs ++ [g], by omega, by go_num, by show _ = _; simp [hlen], hst, ?_⟩, by simp [intOf]; omega⟩
      exact (nxt HB.out HB1.out).setCell (by show w.heap.size ≤ w.heap.size; omega) _
    · have hme : m = ss.length := by omega
      subst hme
      go_wp2_with fail
      go_ret
      obtain ⟨wins, h1, h2, h3, h4⟩ := HT.out.wn HG.out rfl
      exact ⟨w.heap.size, wins, rfl, h1, h2, h3, h4, HB.out⟩
end Go.Proofs.Ytokebdeaahdcjab
