/-
  The page's example: one and two make three, and two of five parts' fuel are left.
-/
import Derived.Test.YtndclldicdfmeaaGreatEvEv
namespace Go.Proofs.YtndclldicdfmeaaGreat
open Go.ChangeShapes Go.WideShapes Go.ChangeAt Go.RowKit Go.Deep

def exV : Xp.X 2 := (11, 0, ⟨#[]⟩, [(3, 4607182418800017408, ⟨#[]⟩, []), (3, 4611686018427387904, ⟨#[]⟩, [])])

theorem exV_pre : (Xp.msrX (Xp.pre Xp.stM 2 exV 1 (0, 0))).2.2 = 0 := by first | rfl | kernel_rfl | decide +kernel

theorem three_ex : Fl.fop .add 4607182418800017408 4611686018427387904 = 4613937818241073152 := by decide +kernel

theorem exV_lay (w : World) (g : Nat) (T : TypeId) (h : w.heap[g]? = some (.cells #[.int .i64 3, .int .u64 4607182418800017408, .string ⟨#[]⟩, .slice none 0 0, .int .i64 3, .int .u64 4611686018427387904, .string ⟨#[]⟩, .slice none 0 0] T (0, 0))) : Xp.LayX w 2 (Xp.mkX 11 0 ⟨#[]⟩ (some ⟨g, 0, none⟩) 2 2) exV := by
  have c : ∀ j v, (#[.int .i64 3, .int .u64 4607182418800017408, .string ⟨#[]⟩, .slice none 0 0, .int .i64 3, .int .u64 4611686018427387904, .string ⟨#[]⟩, .slice none 0 0] : Array Value)[j]? = some v → w.cell? ⟨g, j, none⟩ = some v := cells_in h
  refine ⟨some ⟨g, 0, none⟩, 2, rfl, ⟨by omega, by omega, by decide, by decide, by decide, by decide⟩, by simp, ?_⟩
  intro i u hi
  match i, hi with
  | 0, hi =>
    obtain rfl := Option.some.inj hi
    exact ⟨g, 0, _, _, _, _, rfl, c 0 _ rfl, c 1 _ rfl, c 2 _ rfl, c 3 _ rfl, none, 0, rfl, ⟨by omega, by omega, by decide, by decide, by decide, by decide⟩, by simp, fun i u h => by simp at h⟩
  | 1, hi =>
    obtain rfl := Option.some.inj hi
    exact ⟨g, 0, _, _, _, _, rfl, c 4 _ rfl, c 5 _ rfl, c 6 _ rfl, c 7 _ rfl, none, 0, rfl, ⟨by omega, by omega, by decide, by decide, by decide, by decide⟩, by simp, fun i u h => by simp at h⟩
  | i + 2, hi => exact absurd (show (none : Option (Xp.X 1)) = some u from hi) (by simp)

/-- The example in memory of its own: where its parts lie. -/
theorem exV_own {w : World} {y : Value} {F : Nat → Prop} {T : TypeId} (h : Xp.OwnX T w 2 y exV F) : ∃ g c a0 c0 a1 c1, y = Xp.mkX 11 0 ⟨#[]⟩ (some ⟨g, 0, none⟩) 2 c ∧
    w.cell? ⟨g, 0, none⟩ = some (.int .i64 3) ∧ w.cell? ⟨g, 1, none⟩ = some (.int .u64 4607182418800017408) ∧ w.cell? ⟨g, 2, none⟩ = some (.string ⟨#[]⟩) ∧ w.cell? ⟨g, 3, none⟩ = some (.slice a0 0 c0) ∧
    w.cell? ⟨g, 4, none⟩ = some (.int .i64 3) ∧ w.cell? ⟨g, 5, none⟩ = some (.int .u64 4611686018427387904) ∧ w.cell? ⟨g, 6, none⟩ = some (.string ⟨#[]⟩) ∧ w.cell? ⟨g, 7, none⟩ = some (.slice a1 0 c1) := by
  obtain ⟨ia, ic, xs, G, rfl, -, h1, -, h2, -⟩ := h
  obtain ⟨p0, p1, p2, p3, x0, x1, x2, x3, o0⟩ := h2 0 _ (show (0 : Nat) < 2 by decide) rfl
  obtain ⟨r0, r1, r2, r3, y0, y1, y2, y3, o1⟩ := h2 1 _ (show (1 : Nat) < 2 by decide) rfl
  obtain ⟨a0, c0, _, _, s0, _⟩ := o0
  obtain ⟨a1, c1, _, _, s1, _⟩ := o1
  simp only [Xp.mkX, Value.agg.injEq, Array.mk.injEq, List.cons.injEq] at s0 s1
  obtain ⟨rfl, rfl, rfl, rfl, -⟩ := s0
  obtain ⟨rfl, rfl, rfl, rfl, -⟩ := s1
  obtain ⟨g, hg, z0⟩ := cells_of_own h1 0 _ (by simpa using x0)
  subst hg
  have K : ∀ j u, xs[j]? = some u → w.cell? ⟨g, j, none⟩ = some u := fun j u hj => by
    obtain ⟨g', e, z⟩ := cells_of_own h1 j u hj
    cases e
    simpa using z
  exact ⟨g, ic, a0, c0, a1, c1, rfl, K 0 _ x0, K 1 _ x1, K 2 _ x2, K 3 _ x3, K 4 _ y0, K 5 _ y1, K 6 _ y2, K 7 _ y3⟩

set_option maxRecDepth 100000 in
set_option maxHeartbeats 1600000 in
/-- Of and Eval, one behind the other. -/
theorem of_ex (g : Nat) (T : TypeId) (w : World) (h : w.heap[g]? = some (.cells #[.int .i64 3, .int .u64 4607182418800017408, .string ⟨#[]⟩, .slice none 0 0, .int .i64 3, .int .u64 4611686018427387904, .string ⟨#[]⟩, .slice none 0 0] T (0, 0))) :
    Calls Tryz.prog 9 #[.agg #[.int .i64 11, .int .u64 0, .string ⟨#[]⟩, .slice (some ⟨g, 0, none⟩) 2 2]] w fun e w1 => ∃ q c, e = .returned (.agg #[.int .i64 11, .int .u64 0, .string ⟨#[]⟩, .slice (some ⟨q, 0, none⟩) 2 c]) ∧ Below w.heap.size w w1 ∧
      ∀ w2, Below w1.heap.size w1 w2 → Calls Tryz.prog 11 #[.agg #[.int .i64 11, .int .u64 0, .string ⟨#[]⟩, .slice (some ⟨q, 0, none⟩) 2 c], .agg #[.int .i64 0, .int .u64 0, .string ⟨#[]⟩, .slice none 0 0, .slice none 0 0, .int .i64 0, .int .u64 0, .string ⟨#[]⟩, .slice none 0 0, .slice none 0 0, .int .i64 0, .int .u64 0, .string ⟨#[]⟩, .slice none 0 0, .slice none 0 0], .int .i64 5] w2 fun e w' => e = .returned (.tuple #[mk 2 4613937818241073152 ⟨#[]⟩ none 0 0 none 0 0, .int .i64 2, .int .i64 0]) ∧ Below w2.heap.size w2 w' := by
  refine (Xp.ofX_any 2 exV _ w (exV_lay w g T h)).mono ?_
  rintro e w1 ⟨y, F, rfl, ho, -, hb⟩
  have hl := Xp.OwnX.lay 2 ho
  obtain ⟨q, c, a0, c0, a1, c1, rfl, q0, q1, q2, q3, q4, q5, q6, q7⟩ := exV_own ho
  refine ⟨q, c, rfl, hb, fun w2 hb2 => ?_⟩
  have := eval_add 2 exV 0 ⟨#[]⟩ q c 4607182418800017408 4611686018427387904 ⟨#[]⟩ ⟨#[]⟩ a0 a1 0 c0 0 c1 w2 (Xp.LayX.below 2 hl hb2) exV_pre (by omega) (by omega) (keepc hb2 _ _ q0) (keepc hb2 _ _ q1) (keepc hb2 _ _ q2) (keepc hb2 _ _ q3) (keepc hb2 _ _ q4) (keepc hb2 _ _ q5) (keepc hb2 _ _ q6) (keepc hb2 _ _ q7)
  rw [three_ex] at this
  exact this

set_option maxRecDepth 100000 in
set_option maxHeartbeats 1600000 in
theorem alive_any (w : World) : Calls Tryz.prog 17 #[] w fun e w' => e = .returned (.bool true) ∧ Below w.heap.size w w' := by
  go_enter Tryz.func17, Tryz.ntmps17
  go_wp2_with (first
    | (go_at_call 9; refine (of_ex _ _ _ (heap_alloc_new _ _)).mono ?_; rintro e w1 ⟨q, c, rfl, hb1, hE⟩)
    | (go_at_call 11; refine (hE _ (Below.refl _ _)).mono ?_; rintro e w2 ⟨rfl, hb2⟩)
    | (go_at_call 14; refine (num_any _ _).mono ?_; rintro e w3 ⟨rfl, rfl⟩))
  go_ret
  exact ⟨rfl, nxt (nxt (below_one _ _) (nxt hb1 hb2)) (below_one _ _)⟩
end Go.Proofs.YtndclldicdfmeaaGreat
