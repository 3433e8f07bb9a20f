/-
  bitsOfTwo of two numbers.
-/
import Derived.Test.YtndclldicdfmeaaGreatEvSmall
import Derived.Deep.RegionHeld3
namespace Go.Proofs.YtndclldicdfmeaaGreat
open Go.ChangeShapes Go.WideShapes Go.ChangeAt Go.RowKit Go.Deep

theorem one_new (w : World) : (w.alloc (.cells #[.int .i64 2] 3)).cell? ⟨w.heap.size, 0, none⟩ = some (.int .i64 2) := by simp

theorem field_bits (k b : Int) (t : ByteArray) (ka : Option Addr) (kl kc : Nat) (ia : Option Addr) (il ic : Nat) (w : World) : Sem.run Tryz.prog (Instr.field 29 (mk k b t ka kl kc ia il ic) 1) w = .ok (.int .u64 b) w := by
  simp [Instr.field, run_underlying Tryz.underlying29, asAgg, part, go_sem]

set_option maxRecDepth 100000 in
set_option maxHeartbeats 3200000 in
theorem two_ok (g c : Nat) (x0 : Int) (s0 : ByteArray) (a0 : Option Addr) (l0 c0 : Nat) (d0 : Option Addr) (m0 e0 : Nat) (x1 : Int) (s1 : ByteArray) (a1 : Option Addr) (l1 c1 : Nat) (d1 : Option Addr) (m1 e1 : Nat) (w : World) (h0 : w.cell? ⟨g, 0, none⟩ = some (.int .i64 2)) (h1 : w.cell? ⟨g, 1, none⟩ = some (.int .u64 x0)) (h2 : w.cell? ⟨g, 2, none⟩ = some (.string s0)) (h3 : w.cell? ⟨g, 3, none⟩ = some (.slice a0 l0 c0)) (h4 : w.cell? ⟨g, 4, none⟩ = some (.slice d0 m0 e0)) (h5 : w.cell? ⟨g, 5, none⟩ = some (.int .i64 2)) (h6 : w.cell? ⟨g, 6, none⟩ = some (.int .u64 x1)) (h7 : w.cell? ⟨g, 7, none⟩ = some (.string s1)) (h8 : w.cell? ⟨g, 8, none⟩ = some (.slice a1 l1 c1)) (h9 : w.cell? ⟨g, 9, none⟩ = some (.slice d1 m1 e1)) :
    Calls Tryz.prog 77 #[.slice (some ⟨g, 0, none⟩) 2 c] w fun e w' => e = .returned (.tuple #[.int .u64 x0, .int .u64 x1]) ∧ Below w.heap.size w w' := by
  have hg : g < w.heap.size := lt_of_cell h0
  have HW : ∀ (b : Int) (t : ByteArray) (ka : Option Addr) (kl kc : Nat) (ia : Option Addr) (il ic q : Nat) (wq : World), wq.cell? ⟨q, 0, none⟩ = some (.int .i64 2) →
      Calls Tryz.prog 69 #[mk 2 b t ka kl kc ia il ic, .slice (some ⟨q, 0, none⟩) 1 1] wq fun e w' => e = .returned (mk 2 b t ka kl kc ia il ic) ∧ Below wq.heap.size wq w' :=
    fun b t ka kl kc ia il ic q wq hq => want_ok [2] 2 b t ka kl kc ia il ic _ 1 wq (LayZ.one hq (by decide) (by decide)) (by decide) (by decide)
  have y0 := h0
  have y1 := h1
  have y2 := h2
  have y3 := h3
  have y4 := h4
  have y5 := h5
  have y6 := h6
  have y7 := h7
  have y8 := h8
  have y9 := h9
  have hfb := field_bits
  go_enter Tryz.func77, Tryz.ntmps77
  go_wp2_with fail
  go_region_held3 (fun w' => w'.cell? ⟨g, 0, none⟩ = some (.int .i64 2) ∧ w'.cell? ⟨g, 1, none⟩ = some (.int .u64 x0) ∧ w'.cell? ⟨g, 2, none⟩ = some (.string s0) ∧ w'.cell? ⟨g, 3, none⟩ = some (.slice a0 l0 c0) ∧ w'.cell? ⟨g, 4, none⟩ = some (.slice d0 m0 e0) ∧ w'.cell? ⟨g, 5, none⟩ = some (.int .i64 2) ∧ w'.cell? ⟨g, 6, none⟩ = some (.int .u64 x1) ∧ w'.cell? ⟨g, 7, none⟩ = some (.string s1) ∧ w'.cell? ⟨g, 8, none⟩ = some (.slice a1 l1 c1) ∧ w'.cell? ⟨g, 9, none⟩ = some (.slice d1 m1 e1)) (go_keep) ((go_at_call 69; refine (HW _ _ _ _ _ _ _ _ _ _ (by first | assumption | (simp; done) | (refine keepc hb1 _ _ ?_; simp; done) | (refine keepc hb1 _ _ ?_; exact one_new _))).mono ?_; rintro e w1 ⟨rfl, hb1⟩; have B1 : Below w.heap.size w w1 := (by first | exact nxt B1 hb1 | exact nxt (nxt B1 (below_one _ _)) hb1 | exact nxt (below_one _ _).drew hb1 | exact nxt (nxt (below_one _ _).drew (below_one _ _)) hb1 | exact nxt (nxt (below_one _ _) (below_one _ _)).drew hb1); have u0 := keepc B1 _ _ h0; have u1 := keepc B1 _ _ h1; have u2 := keepc B1 _ _ h2; have u3 := keepc B1 _ _ h3; have u4 := keepc B1 _ _ h4; have u5 := keepc B1 _ _ h5; have u6 := keepc B1 _ _ h6; have u7 := keepc B1 _ _ h7; have u8 := keepc B1 _ _ h8; have u9 := keepc B1 _ _ h9))
  all_goals (go_wp2_with fail; go_ret2; exact ⟨rfl, B1⟩)

end Go.Proofs.YtndclldicdfmeaaGreat
