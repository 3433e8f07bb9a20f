/-
  The program's count of parts: one part taken, or a panic with the error.
-/
import Derived.Test.YtndclldicdfmeaaGreatExRange
import Derived.Test.YtndclldicdfmeaaGreatExMay
namespace Go.Proofs.YtndclldicdfmeaaGreat.Xp
open Go.ChangeShapes Go.WideShapes Go.ChangeAt Go.RowKit
open Fl

/-- The block of a tally. -/
def TallyX (w : World) (p : Nat) (s : Nat × Int) : Prop := w.heap[p]? = some (.cells #[.int .i64 (s.1 : Int), .int .i64 s.2] 84 (0, 0))

theorem TallyX.cells {w : World} {p : Nat} {s : Nat × Int} (h : TallyX w p s) : w.cell? ⟨p, 0, none⟩ = some (.int .i64 (s.1 : Int)) ∧ w.cell? ⟨p, 1, none⟩ = some (.int .i64 s.2) ∧ w.frozen? ⟨p, 0, none⟩ = false ∧ w.frozen? ⟨p, 1, none⟩ = false := by
  unfold TallyX at h
  simp [World.cell?, World.frozen?, h]

theorem TallyX.below {w w' : World} {p : Nat} {s : Nat × Int} (h : TallyX w p s) (k : Below w.heap.size w w') : TallyX w' p s := by
  unfold TallyX at *
  rw [k.block p (lt_of_block h)]
  exact h

theorem tallyX_step {w : World} {p c : Nat} {d : Int} (h : TallyX w p (c, d)) (mx : Int) :
    TallyX ((w.setCell ⟨p, 0, none⟩ (.int .i64 ((c : Int) + 1))).setCell ⟨p, 1, none⟩ (.int .i64 mx)) p (c + 1, mx) ∧ w.grownBy ((w.setCell ⟨p, 0, none⟩ (.int .i64 ((c : Int) + 1))).setCell ⟨p, 1, none⟩ (.int .i64 mx)) (some p) := by
  constructor
  · unfold TallyX at *
    simp [World.setCell, Array.getElem?_modify, h]
  · refine ⟨rfl, rfl, rfl, by simp [World.setCell], fun k hk hne => ?_⟩
    have hne' : k ≠ p := fun e => hne (by rw [e])
    rw [Below.heap_setCell _ _ _ _ hne', Below.heap_setCell _ _ _ _ hne']

theorem grown_belowX {w w1 w2 : World} {r : Option Nat} (h : w.grownBy w1 r) (k : Below w1.heap.size w1 w2) : w.grownBy w2 r :=
  ⟨k.os.trans h.os, k.tape.trans h.tape, k.output.trans h.output, Nat.le_trans h.size k.size, fun j hj hne => (k.block j (Nat.lt_of_lt_of_le hj h.size)).trans (h.block j hj hne)⟩

theorem grown_transX {a b c : World} {r : Option Nat} (h : a.grownBy b r) (k : b.grownBy c r) : a.grownBy c r :=
  ⟨k.os.trans h.os, k.tape.trans h.tape, k.output.trans h.output, Nat.le_trans h.size k.size, fun j hj hne => (k.block j (Nat.lt_of_lt_of_le hj h.size) hne).trans (h.block j hj hne)⟩

theorem below_grownX {w w1 w2 : World} {p : Nat} (h : Below w.heap.size w w1) (k : w1.grownBy w2 (some p)) : w.grownBy w2 (some p) :=
  ⟨k.os.trans h.os, k.tape.trans h.tape, k.output.trans h.output, Nat.le_trans h.size k.size, fun j hj hne => (k.block j (Nat.lt_of_lt_of_le hj h.size) hne).trans (h.block j hj)⟩

/-- What a part's count leaves: the tally alone is written. -/
def TakePost (r : Except Int (Nat × Int)) (p : Nat) (w : World) (e : Ending) (w' : World) : Prop :=
  w.grownBy w' (some p) ∧ ((∃ s', r = .ok s' ∧ e = .returned (.tuple #[]) ∧ TallyX w' p s') ∨ (∃ er s', r = .error er ∧ e = panX er ∧ TallyX w' p s'))

theorem tallyX_fin {w w1 : World} {p c : Nat} {d mx : Int} (h : TallyX w p (c, d)) (o : Obj) (hw1 : w1 = ((w.alloc o).setCell ⟨p, 0, none⟩ (.int .i64 ((c : Int) + 1))).setCell ⟨p, 1, none⟩ (.int .i64 mx)) : TallyX w1 p (c + 1, mx) ∧ w.grownBy w1 (some p) := by
  subst hw1
  have h1 : TallyX (w.alloc o) p (c, d) := h.below (below_one _ _)
  exact ⟨(tallyX_step h1 mx).1, below_grownX (below_one _ _) (tallyX_step h1 mx).2⟩

set_option maxRecDepth 100000 in
set_option maxHeartbeats 3200000 in
theorem takeX_any (k b : Int) (t : ByteArray) (ia : Option Addr) (il ic : Nat) (hfit : FitX k b t il ic) (d : Int) (c : Nat) (dp : Int) (p : Nat) (w : World) (ht : TallyX w p (c, dp)) (hm : MetX (c, dp)) :
    Calls Tryz.prog 68 #[.pointer (some ⟨p, 0, none⟩), mkX k b t ia il ic, .int .i64 d] w (TakePost (stM d (k, b, t, il) (c, dp)) p w) := by
  have h1 : TallyX (w.alloc (.cells #[.int .i64 k, .int .u64 b, .string t, .slice ia il ic] 34)) p (c, dp) := ht.below (below_one _ _)
  obtain ⟨a0, a1, f0, f1⟩ := h1.cells
  obtain ⟨z0, z1, z2, z3, -⟩ := box4 (heap_alloc_new w (.cells #[.int .i64 k, .int .u64 b, .string t, .slice ia il ic] 34))
  have hpn : w.heap.size ≠ p := by have := lt_of_block ht; omega
  obtain ⟨m1, m2, m3⟩ := hm
  simp only at a0 a1 m1 m2 m3
  have HT : Hid (TallyX w p (c, dp)) := ht
  have HP := part_may k b t ia il ic hfit
  have HB : Hid ((w.alloc (.cells #[.int .i64 k, .int .u64 b, .string t, .slice ia il ic] 34)).heap[w.heap.size]? = some (.cells #[.int .i64 k, .int .u64 b, .string t, .slice ia il ic] 34 (0, 0))) := heap_alloc_new _ _
  clear ht h1 hfit
  by_cases hdd : dp < d
  · have e1 : max d dp = d := by omega
    by_cases h8 : 8 < d
    · have HW : Hid (stM d (k, b, t, il) (c, dp) = .error 10) := by show _ = _; unfold stM; rw [if_pos h8]
      go_enter Tryz.func68, Tryz.ntmps68
      go_wp2_with fail
      have := tallyX_fin (mx := d) HT.out (.cells #[.int .i64 k, .int .u64 b, .string t, .slice ia il ic] 34) rfl
      exact ⟨rfl, this.2, Or.inr ⟨10, _, HW.out, rfl, this.1⟩⟩
    by_cases h5 : 64 ≤ c
    · have h5' : (64 : Int) < (c : Int) + 1 := by omega
      have HW : Hid (stM d (k, b, t, il) (c, dp) = .error 3) := by show _ = _; unfold stM; rw [if_neg h8, if_pos h5]
      go_enter Tryz.func68, Tryz.ntmps68
      go_wp2_with fail
      have := tallyX_fin (mx := d) HT.out (.cells #[.int .i64 k, .int .u64 b, .string t, .slice ia il ic] 34) rfl
      exact ⟨rfl, this.2, Or.inr ⟨3, _, HW.out, rfl, this.1⟩⟩
    have d5 : decide ((64 : Int) < (c : Int) + 1) = false := by simp; omega
    have HW : Hid (stM d (k, b, t, il) (c, dp) = if mayX k b t il = true then .ok (c + 1, d) else .error 9) := by show _ = _; unfold stM; rw [if_neg h8, if_neg h5, e1]
    cases hmay : mayX k b t il with
    | false =>
      rw [hmay] at HW HP
      go_enter Tryz.func68, Tryz.ntmps68
      go_wp2_with (go_at_call 104; refine (HP _).mono ?_; rintro e w1 ⟨rfl, hb1⟩)
      have := tallyX_fin (mx := d) HT.out (.cells #[.int .i64 k, .int .u64 b, .string t, .slice ia il ic] 34) rfl
      exact ⟨rfl, grown_belowX this.2 hb1, Or.inr ⟨9, _, HW.out, rfl, this.1.below hb1⟩⟩
    | true =>
      rw [hmay] at HW HP
      go_enter Tryz.func68, Tryz.ntmps68
      go_wp2_with (go_at_call 104; refine (HP _).mono ?_; rintro e w1 ⟨rfl, hb1⟩)
      go_end0
      have := tallyX_fin (mx := d) HT.out (.cells #[.int .i64 k, .int .u64 b, .string t, .slice ia il ic] 34) rfl
      exact ⟨grown_belowX this.2 hb1, Or.inl ⟨_, HW.out, rfl, this.1.below hb1⟩⟩
  · have e1 : max d dp = dp := by omega
    have h8 : ¬ 8 < d := by omega
    by_cases h5 : 64 ≤ c
    · have h5' : (64 : Int) < (c : Int) + 1 := by omega
      have HW : Hid (stM d (k, b, t, il) (c, dp) = .error 3) := by show _ = _; unfold stM; rw [if_neg h8, if_pos h5]
      go_enter Tryz.func68, Tryz.ntmps68
      go_wp2_with fail
      have := tallyX_fin (mx := dp) HT.out (.cells #[.int .i64 k, .int .u64 b, .string t, .slice ia il ic] 34) rfl
      exact ⟨rfl, this.2, Or.inr ⟨3, _, HW.out, rfl, this.1⟩⟩
    have d5 : decide ((64 : Int) < (c : Int) + 1) = false := by simp; omega
    have HW : Hid (stM d (k, b, t, il) (c, dp) = if mayX k b t il = true then .ok (c + 1, dp) else .error 9) := by show _ = _; unfold stM; rw [if_neg h8, if_neg h5, e1]
    cases hmay : mayX k b t il with
    | false =>
      rw [hmay] at HW HP
      go_enter Tryz.func68, Tryz.ntmps68
      go_wp2_with (go_at_call 104; refine (HP _).mono ?_; rintro e w1 ⟨rfl, hb1⟩)
      have := tallyX_fin (mx := dp) HT.out (.cells #[.int .i64 k, .int .u64 b, .string t, .slice ia il ic] 34) rfl
      exact ⟨rfl, grown_belowX this.2 hb1, Or.inr ⟨9, _, HW.out, rfl, this.1.below hb1⟩⟩
    | true =>
      rw [hmay] at HW HP
      go_enter Tryz.func68, Tryz.ntmps68
      go_wp2_with (go_at_call 104; refine (HP _).mono ?_; rintro e w1 ⟨rfl, hb1⟩)
      go_end0
      have := tallyX_fin (mx := dp) HT.out (.cells #[.int .i64 k, .int .u64 b, .string t, .slice ia il ic] 34) rfl
      exact ⟨grown_belowX this.2 hb1, Or.inl ⟨_, HW.out, rfl, this.1.below hb1⟩⟩

end Go.Proofs.YtndclldicdfmeaaGreat.Xp
