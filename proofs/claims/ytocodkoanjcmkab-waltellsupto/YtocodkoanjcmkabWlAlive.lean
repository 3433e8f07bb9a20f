/-
  The page's example.
-/
import Derived.Test.YtocodkoanjcmkabWlSame
namespace Go.Proofs.Ytocodkoanjcmkab
open Go.ChangeShapes Go.WideShapes Go.ChangeAt Go.RowKit Go.Deep
open Se

def D3 : List UInt8 := List.replicate 300 0
def F1 : List UInt8 := rfr 1 D3
def F2 : List UInt8 := rfr 2 D3
theorem D3_len : D3.length = 300 := List.length_replicate
theorem F1_len : F1.length = 316 := by rw [F1, rfr_length, D3_len]
theorem F2_len : F2.length = 316 := by rw [F2, rfr_length, D3_len]
theorem ex_one : appR [] 1 D3 = (0, 0, [F1]) ∧ nxtR [] 1 D3 = 2 := by
  have h := (Lg.new (f := 1) (by decide) (by decide)).app (d := D3) (by rw [D3_len]; decide) (by decide) (by simp)
  exact ⟨h.1, h.2.1⟩
theorem ex_two : appR [F1] 2 D3 = (0, 1, [F1, F2]) ∧ nxtR [F1] 2 D3 = 3 ∧ recR [F1, F2] 3 = (0, [(1, D3), (2, D3)]) := by
  obtain ⟨-, -, gs, h1, h2, h3⟩ := (Lg.new (f := 1) (by decide) (by decide)).app (d := D3) (by rw [D3_len]; decide) (by decide) (by simp)
  have h1' : Lg 1 gs [F1] 2 := h1
  simp only [List.length_nil, Nat.zero_add] at h3
  obtain ⟨k1, k2, gs', k3, k4, k5⟩ := h1'.app (d := D3) (by rw [D3_len]; decide) (by decide) (by omega)
  have hf : fitR [F1] (16 + D3.length) = false := by
    simp [fitR, F1_len, D3_len]
  have hp : plc [F1] (16 + D3.length) = 1 := by unfold plc; rw [hf]; rfl
  have ha : addS [F1] (rfr 2 D3) = [F1, F2] := by
    rw [addS_more (by rw [rfr_length]; exact hf)]
    rfl
  rw [hp, ha] at k1
  rw [ha] at k3
  refine ⟨k1, k2, ?_⟩
  have := k3.recs
  rw [k4, h2] at this
  exact this

/-- A box of two cells that are written. -/
theorem boxed2 {w : World} {g : Nat} {t : TypeId} {p q : Value} (h : w.heap[g]? = some (.cells #[p, q] t (0, 0))) (x y : Value) : ((w.setCell ⟨g, 0, none⟩ x).setCell ⟨g, 1, none⟩ y).heap[g]? = some (.cells #[x, y] t (0, 0)) := by
  have := set_one_cell (o := 1) (set_one_cell (o := 0) h x) y
  simpa using this
theorem OwnS.box {W : World} {B : Nat} {v : Value} {ss : List (List UInt8)} (h : OwnS W B v ss) {g : Nat} {p q : Value} (hg : W.heap[g]? = some (.cells #[p, q] 26 (0, 0))) (x y : Value) : OwnS ((W.setCell ⟨g, 0, none⟩ x).setCell ⟨g, 1, none⟩ y) B v ss :=
  (h.set hg (by decide) (by decide) _).set (set_one_cell (o := 0) hg x) (by decide) (by decide) _

set_option maxRecDepth 100000 in
set_option maxHeartbeats 6400000 in
theorem alive_any (w : World) : Calls Try.prog 23 #[] w fun e w' => e = .returned (.bool true) ∧ Below w.heap.size w w' := by
  have hmk : ∀ w, Sem.run Try.prog (Instr.makeSlice 25 (.int .i64 300) (.int .i64 300)) w = .ok (.slice (some ⟨w.heap.size, 0, none⟩) 300 300) (w.alloc (.cells (madeCells #[.int .u8 0] 300) 5)) :=
    fun w => run_make_row' (P := Try.prog) 25 5 (.int .u8 0) 1 Try.underlying25 Try.infoU8 rfl .i64 .i64 300 (by omega) (by omega) w
  have hmc : (madeCells #[Value.int .u8 0] 300).toList = cellsO D3 := by rw [toList_madeCells_one]; simp [cellsO, D3]
  have HMD : Hid (∀ W : World, Oct (W.alloc (.cells (madeCells #[.int .u8 0] 300) 5)) (some ⟨W.heap.size, 0, none⟩) 300 D3) := by
    intro W
    have := (Bs.made W D3 _ hmc W.heap.size (Nat.le_refl _) (by rw [D3_len]; decide)).oct (by rw [D3_len]; decide)
    rw [D3_len] at this
    exact this
  clear hmc
  have HA1 : Hid (Calls Try.prog 11 #[.agg #[.slice none 0 0, .int .i64 1], .slice (some ⟨w.heap.size, 0, none⟩) 300 300] (w.alloc (.cells (madeCells #[.int .u8 0] 300) 5)) (AppPost (w.alloc (.cells (madeCells #[.int .u8 0] 300) 5)) (0, 0, [F1]) 2)) := by
    have := append_any [] 1 none 0 D3 (some ⟨w.heap.size, 0, none⟩) 300 _ (LayS.nil _ _) (by simp) (by decide) (by decide) (HMD.out w)
    rw [ex_one.1, ex_one.2, D3_len] at this
    exact this
  have HA2 : Hid (∀ W va vc b, LayS W va [F1] → Oct W (some ⟨b, 0, none⟩) 300 D3 → Calls Try.prog 11 #[.agg #[.slice va 1 vc, .int .i64 2], .slice (some ⟨b, 0, none⟩) 300 300] W (fun e w' => ∃ y, e = .returned y ∧ ∃ ua uc, y = .tuple #[.agg #[.slice ua 2 uc, .int .i64 3], .int .i64 1, .int .i64 0] ∧ OwnS w' W.heap.size (.slice ua 2 uc) [F1, F2] ∧ Below W.heap.size W w')) := by
    intro W va vc b h1 h2
    have := append_any [F1] 2 va vc D3 (some ⟨b, 0, none⟩) 300 W h1 (by simp) (by decide) (by decide) h2
    rw [ex_two.1, ex_two.2.1, D3_len] at this
    refine Calls.mono this ?_
    rintro e w' ⟨v, rfl, ho, hb⟩
    obtain ⟨ua, uc, rfl⟩ := ho.shape
    exact ⟨_, rfl, ua, uc, rfl, ho, hb⟩
  have HR : Hid (∀ W ua uc, LayS W ua [F1, F2] → Calls Try.prog 13 #[.agg #[.slice ua 2 uc, .int .i64 3]] W (fun e w' => ∃ ra rc, e = .returned (.tuple #[.slice ra 2 rc, .int .i64 0]) ∧ LayR w' ra [(1, D3), (2, D3)] ∧ Below W.heap.size W w')) := by
    intro W ua uc h1
    have := records_any [F1, F2] 3 ua uc W h1 (by simp) (by decide) (by decide)
    rw [ex_two.2.2] at this
    refine Calls.mono this ?_
    rintro e w' ⟨v, rfl, ho, hb⟩
    obtain ⟨ra, rc, rfl⟩ := ho.shape
    exact ⟨ra, rc, rfl, ho.lay, hb⟩
  go_enter Try.func23, Try.ntmps23
  go_wp2_with (go_at_call 11; refine HA1.out.mono ?_; rintro e w1 ⟨v1, rfl, ho1, hb1⟩; obtain ⟨va, vc, rfl⟩ := ho1.shape; have HL1 : Hid (LayS w1 va [F1]) := ho1.lay; have HB1 : Hid (Below w.heap.size w w1) := nxt (below_one _ _) hb1; clear ho1 hb1)
  have X0 : Hid ((w1.alloc (.cells #[.slice va 1 vc, .int .i64 2] 26)).heap[w1.heap.size]? = some (.cells #[.slice va 1 vc, .int .i64 2] 26 (0, 0))) := heap_alloc_new _ _
  have B0 : Hid (Below w.heap.size w (w1.alloc (.cells #[.slice va 1 vc, .int .i64 2] 26))) := nxt HB1.out (below_one _ _)
  have L0 : Hid (LayS (w1.alloc (.cells #[.slice va 1 vc, .int .i64 2] 26)) va [F1]) := HL1.out.below (below_one _ _)
  have hw1 := HB1.out.size
  clear HB1 HL1 HA1
  generalize w1.alloc (.cells #[.slice va 1 vc, .int .i64 2] 26) = W at *
  generalize w1.heap.size = Bx at *
  obtain ⟨x0, -⟩ := cell_of X0.out 0
  obtain ⟨x1, -⟩ := cell_of X0.out 1
  simp at x0 x1
  have x0d : W.drew.cell? ⟨Bx, 0, none⟩ = _ := x0
  have x1d : W.drew.cell? ⟨Bx, 1, none⟩ = _ := x1
  have x0a : ∀ o, (W.alloc o).drew.cell? ⟨Bx, 0, none⟩ = _ := fun o => keepc (below_one W o) _ _ x0
  have x1a : ∀ o, (W.alloc o).drew.cell? ⟨Bx, 1, none⟩ = _ := fun o => keepc (below_one W o) _ _ x1
  have HO1 : Hid (Oct (W.alloc (.cells (madeCells #[.int .u8 0] 300) 5)).drew (some ⟨W.heap.size, 0, none⟩) 300 D3) := (HMD.out W).below (Below.refl _ _).drew
  have L1 : Hid (LayS (W.alloc (.cells (madeCells #[.int .u8 0] 300) 5)).drew va [F1]) := (L0.out.below (below_one _ _)).below (Below.refl _ _).drew
  have BD : Below W.heap.size W (W.alloc (.cells (madeCells #[.int .u8 0] 300) 5)).drew := (below_one W _).drew
  have hBx := lt_of_block X0.out
  go_cut [4, 5] (fun v4 v5 wc => v4 = .int .i64 1 ∧ v5 = .int .i64 0 ∧ ∃ ua uc, Hid (wc.heap[Bx]? = some (.cells #[.slice ua 2 uc, .int .i64 3] 26 (0, 0))) ∧ Hid (LayS wc ua [F1, F2]) ∧ Hid (Below w.heap.size w wc))
  case first =>
    go_region_law (first
      | (refine step_call2 rfl 11 (by intros; go_simp) _ _ _ rfl (.agg #[.slice va 1 vc, .int .i64 2]) (.slice (some ⟨W.heap.size, 0, none⟩) 300 300) (by first | (simp [Act.eval]; done) | simp [Act.eval, Act.put]) (by first | (simp [Act.eval]; done) | simp [Act.eval, Act.put]) _ (HA2.out _ va vc W.heap.size L1.out HO1.out) ?_; intro y w4 hR; obtain ⟨ua, uc, rfl, h5, h6⟩ := hR
         have b4 := ((h6.block _ (by simp; omega)).trans (BD.block _ hBx)).trans X0.out
         have g0 := (cell_of b4 0).1
         have g1 := (cell_of b4 1).1
         have f0 := (cell_of b4 0).2
         have f1 := (cell_of b4 1).2
         simp at g0 g1))
    all_goals
      go_wp2_with fail
      go_meet
      exact ⟨rfl, rfl, ua, uc, boxed2 b4 _ _, (h5.box b4 _ _).lay, ((nxt (nxt B0.out BD) h6).setCell hw1 _).setCell hw1 _⟩
  case rest =>
    obtain ⟨rfl, rfl, ua, uc, X1, L2, B1⟩ := hcut
    clear x0 x1 x0d x1d x0a x1a HO1 L1 BD X0 L0
    obtain ⟨x0, -⟩ := cell_of X1.out 0
    obtain ⟨x1, -⟩ := cell_of X1.out 1
    simp at x0 x1
    go_wp2_with (first
      | (go_at_call 13; refine (HR.out _ ua uc L2.out).mono ?_; rintro e w5 ⟨ra, rc, rfl, hl5, hb5⟩; have B5 : Hid (Below w.heap.size w w5) := nxt B1.out hb5; obtain ⟨g, off, a', c', rfl, q1, -⟩ := hl5 1 _ rfl; simp only at q1; clear hl5 hb5)
      | (go_at_call 18; refine (num_any _ _).mono ?_; rintro e w6 ⟨rfl, hw6⟩; subst w6))
    go_ret
    exact ⟨rfl, B5.out⟩
end Go.Proofs.Ytocodkoanjcmkab
