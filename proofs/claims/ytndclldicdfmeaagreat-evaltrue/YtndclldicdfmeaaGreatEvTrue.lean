/-
  True: the program's and the page's.
-/
import Derived.Test.YtndclldicdfmeaaGreatEvAlive
import Derived.Test.YtndclldicdfmeaaGreatVaRefWalk
namespace Go.Proofs.YtndclldicdfmeaaGreat
open Go.ChangeShapes Go.WideShapes Go.ChangeAt Go.RowKit Go.Deep

/-- Whether a value of the kind k with the bits b, of which a check says er, is true. -/
def trB (k b er : Int) : Bool × Int := if k = 1 then (if er = 0 then (b == 1, 0) else (false, 81)) else (false, 81)

set_option maxRecDepth 100000 in
set_option maxHeartbeats 1600000 in
theorem true_any (n : Nat) (v : V n) (k b : Int) (t : ByteArray) (ka : Option Addr) (kl kc : Nat) (ia : Option Addr) (il ic : Nat) (w : World) (h : Lay w n (mk k b t ka kl kc ia il ic) v) (er : Int) (he : (msr (wk n v 1 (0, 0))).2.2 = er) :
    Calls Tryz.prog 18 #[mk k b t ka kl kc ia il ic] w fun e w' => e = .returned (.tuple #[.bool (trB k b er).1, .int .i64 (trB k b er).2]) ∧ Below w.heap.size w w' := by
  have HC : Hid (∀ w', Below w.heap.size w w' → Calls Tryz.prog 21 #[mk k b t ka kl kc ia il ic] w' fun e w2 => e = .returned (.int .i64 er) ∧ Below w'.heap.size w' w2) := fun w' hb => by
    have := check_any n v _ w' (Lay.below n h hb)
    rw [he] at this
    exact this
  clear h he
  by_cases h1 : k = 1
  · subst h1
    by_cases h2 : er = 0
    · subst h2
      have e1 : trB 1 b 0 = (b == 1, 0) := by simp [trB]
      rw [e1]
      go_enter Tryz.func18, Tryz.ntmps18
      go_wp2_with (first
        | (go_at_call 21; refine (HC.out _ (below_one _ _)).mono ?_; rintro e w1 ⟨rfl, hb1⟩; obtain ⟨x0, x1, x2, x3, x4, -⟩ := box_cells ((hb1.block _ (by simp)).trans (heap_alloc_new w (.cells #[.int .i64 1, .int .u64 b, .string t, .slice ka kl kc, .slice ia il ic] 29))))
        | (go_at_call 29; refine (isTrue_any _ _ _ _ _ _ _ _ _ _).mono ?_; rintro e w2 ⟨rfl, hb2⟩))
      go_ret2
      exact ⟨rfl, nxt (nxt (below_one _ _) hb1) hb2⟩
    · have e1 : trB 1 b er = (false, 81) := by simp [trB, h2]
      have g1 : (er == 0) = false := by simpa using h2
      have g2 : (er != 0) = true := by simpa using h2
      rw [e1]
      clear h2 e1
      go_enter Tryz.func18, Tryz.ntmps18
      go_wp2_with (go_at_call 21; refine (HC.out _ (below_one _ _)).mono ?_; rintro e w1 ⟨rfl, hb1⟩)
      go_ret2
      exact ⟨rfl, nxt (below_one _ _) hb1⟩
  · have e1 : trB k b er = (false, 81) := by simp [trB, h1]
    have g1 : (k == 1) = false := by simpa using h1
    have g2 : (k != 1) = true := by simpa using h1
    rw [e1]
    clear h1 e1
    go_enter Tryz.func18, Tryz.ntmps18
    go_wp2_with fail
    go_ret2
    exact ⟨rfl, below_one _ _⟩

set_option maxRecDepth 100000 in
set_option maxHeartbeats 1600000 in
theorem rtrue_any (n : Nat) (v : V n) (k b : Int) (t : ByteArray) (ka : Option Addr) (kl kc : Nat) (ia : Option Addr) (il ic : Nat) (w : World) (h : Lay w n (mk k b t ka kl kc ia il ic) v) (er : Int) (he : (msr (wk n v 1 (0, 0))).2.2 = er) :
    Calls Tryz.prog 20 #[mk k b t ka kl kc ia il ic] w fun e w' => e = .returned (.tuple #[.bool (trB k b er).1, .int .i64 (trB k b er).2]) ∧ Below w.heap.size w w' := by
  have HC : Hid (∀ w', Below w.heap.size w w' → Calls Tryz.prog 23 #[mk k b t ka kl kc ia il ic] w' fun e w2 => e = .returned (.int .i64 er) ∧ Below w'.heap.size w' w2) := fun w' hb => by
    have := rcheck_any n v _ w' (Lay.below n h hb)
    rw [he] at this
    exact this
  clear h he
  by_cases h1 : k = 1
  · subst h1
    by_cases h2 : er = 0
    · subst h2
      have e1 : trB 1 b 0 = (b == 1, 0) := by simp [trB]
      rw [e1]
      go_enter Tryz.func20, Tryz.ntmps20
      go_wp2_with (go_at_call 23; refine (HC.out _ (below_one _ _)).mono ?_; rintro e w1 ⟨rfl, hb1⟩; obtain ⟨x0, x1, x2, x3, x4, -⟩ := box_cells ((hb1.block _ (by simp)).trans (heap_alloc_new w (.cells #[.int .i64 1, .int .u64 b, .string t, .slice ka kl kc, .slice ia il ic] 29))))
      go_ret2
      exact ⟨rfl, nxt (below_one _ _) hb1⟩
    · have e1 : trB 1 b er = (false, 81) := by simp [trB, h2]
      have g1 : (er == 0) = false := by simpa using h2
      have g2 : (er != 0) = true := by simpa using h2
      rw [e1]
      clear h2 e1
      go_enter Tryz.func20, Tryz.ntmps20
      go_wp2_with (go_at_call 23; refine (HC.out _ (below_one _ _)).mono ?_; rintro e w1 ⟨rfl, hb1⟩)
      go_ret2
      exact ⟨rfl, nxt (below_one _ _) hb1⟩
  · have e1 : trB k b er = (false, 81) := by simp [trB, h1]
    have g1 : (k == 1) = false := by simpa using h1
    have g2 : (k != 1) = true := by simpa using h1
    rw [e1]
    clear h1 e1
    go_enter Tryz.func20, Tryz.ntmps20
    go_wp2_with fail
    go_ret2
    exact ⟨rfl, below_one _ _⟩

theorem lay_kb (n : Nat) {w w' : World} {v : V n} {k b k' b' : Int} {t t' : ByteArray} {ka ka' ia ia' : Option Addr} {kl kc il ic kl' kc' il' ic' : Nat} (h : Lay w n (mk k b t ka kl kc ia il ic) v) (h' : Lay w' n (mk k' b' t' ka' kl' kc' ia' il' ic') v) : k' = k ∧ b' = b := by
  cases n with
  | zero => exact v.elim
  | succ n =>
    obtain ⟨k1, b1, t1, ks, its⟩ := v
    obtain ⟨_, _, _, _, e, _⟩ := h
    obtain ⟨_, _, _, _, e', _⟩ := h'
    simp only [mk, Value.agg.injEq, Array.mk.injEq, List.cons.injEq, Value.int.injEq] at e e'
    exact ⟨by rw [e'.1.2, e.1.2], by rw [e'.2.1.2, e.2.1.2]⟩
end Go.Proofs.YtndclldicdfmeaaGreat
