/-
  measure, Check and Size: what the walk's panic, or its end, makes of them.
-/
import Derived.Test.YtndclldicdfmeaaGreatVaWalk
import Derived.Defers
import Derived.Recover
import Derived.Laws.Pointers
namespace Go.Proofs.YtndclldicdfmeaaGreat
open Go.ChangeShapes Go.WideShapes Go.ChangeAt Go.RowKit
open Fl

/-- Parts, depth, error. -/
def msr : Except Int (Nat × Int) → Int × Int × Int
  | .ok (c, d) => (c, d, 0)
  | .error e => (0, 0, e)

/-- The tally and the error's variable are written, nothing else. -/
def After (w w' : World) (p q : Nat) (s : Nat × Int) (er : Int) : Prop :=
  Tally w' p s ∧ w'.heap[q]? = some (.cells #[.int .i64 er] 38 (0, 0)) ∧ (∀ k, k ≠ p → k ≠ q → w'.heap[k]? = w.heap[k]?) ∧ w'.heap.size = w.heap.size ∧ w'.os = w.os ∧ w'.tape = w.tape ∧ w'.output = w.output

theorem assert_errno (v : Value) (w : World) : Sem.run Tryz.prog (Instr.typeAssert (Value.iface 38 v) 20 38 false) w = .ok v w := by
  simp [Instr.typeAssert, run_underlying Tryz.underlying38]

theorem after_set {w : World} {p q : Nat} {a b c : Int} (hc : w.heap[p]? = some (.cells #[.int .i64 a, .int .i64 b] 67 (0, 0))) (hq : w.heap[q]? = some (.cells #[.int .i64 c] 38 (0, 0))) (hpq : p ≠ q) (er : Int) :
    After w (((w.setCell ⟨p, 0, none⟩ (.int .i64 0)).setCell ⟨p, 1, none⟩ (.int .i64 0)).setCell ⟨q, 0, none⟩ (.int .i64 er)).drew p q (0, 0) er := by
  refine ⟨?_, ?_, ?_, by simp [World.setCell, World.drew], rfl, rfl, rfl⟩
  · show (((w.setCell ⟨p, 0, none⟩ (.int .i64 0)).setCell ⟨p, 1, none⟩ (.int .i64 0)).setCell ⟨q, 0, none⟩ (.int .i64 er)).heap[p]? = _
    rw [Below.heap_setCell _ _ _ _ hpq]
    simp [World.setCell, Array.getElem?_modify, hc]
  · show (((w.setCell ⟨p, 0, none⟩ (.int .i64 0)).setCell ⟨p, 1, none⟩ (.int .i64 0)).setCell ⟨q, 0, none⟩ (.int .i64 er)).heap[q]? = _
    have e : ((w.setCell ⟨p, 0, none⟩ (.int .i64 0)).setCell ⟨p, 1, none⟩ (.int .i64 0)).heap[q]? = some (.cells #[.int .i64 c] 38 (0, 0)) := by
      rw [Below.heap_setCell _ _ _ _ (Ne.symm hpq), Below.heap_setCell _ _ _ _ (Ne.symm hpq)]; exact hq
    exact one_setCell e
  · intro k h1 h2
    show (((w.setCell ⟨p, 0, none⟩ (.int .i64 0)).setCell ⟨p, 1, none⟩ (.int .i64 0)).setCell ⟨q, 0, none⟩ (.int .i64 er)).heap[k]? = _
    rw [Below.heap_setCell _ _ _ _ h2, Below.heap_setCell _ _ _ _ h1, Below.heap_setCell _ _ _ _ h1]

set_option maxRecDepth 100000 in
theorem catch_panicking (p q : Nat) (a b c : Int) (er : Int) (older : List PanicEntry) (w : World) (hc : w.heap[p]? = some (.cells #[.int .i64 a, .int .i64 b] 67 (0, 0))) (hq : w.heap[q]? = some (.cells #[.int .i64 c] 38 (0, 0))) (hpq : p ≠ q) :
    CallsD Tryz.prog 38 #[.pointer (some ⟨p, 0, none⟩), .pointer (some ⟨q, 0, none⟩)] (.panicking ({ v := .iface 38 (.int .i64 er), recovered := false } :: older)) w fun e u' w' =>
      e = .returned (.tuple #[]) ∧ u' = .panicking ({ v := .iface 38 (.int .i64 er), recovered := true } :: older) ∧ After w w' p q (0, 0) er := by
  refine callsD_of_wpS Tryz.func38 rfl fun c₀ cs hu => ?_
  apply wpS_seq
  apply wpS_region
  simp [wpOpsS, go_sem, recoverD, hu, Tryz.ntmps38, Exit.thenS]
  have p0 : w.cell? ⟨p, 0, none⟩ = some (.int .i64 a) := by simp [World.cell?, hc]
  have p1 : w.cell? ⟨p, 1, none⟩ = some (.int .i64 b) := by simp [World.cell?, hc]
  have q0 : w.cell? ⟨q, 0, none⟩ = some (.int .i64 c) := by simp [World.cell?, hq]
  have f0 : w.frozen? ⟨p, 0, none⟩ = false := by simp [World.frozen?, hc]
  have f1 : w.frozen? ⟨p, 1, none⟩ = false := by simp [World.frozen?, hc]
  have g0 : w.frozen? ⟨q, 0, none⟩ = false := by simp [World.frozen?, hq]
  refine wpS_of_wp ?_
  simp [Array.replicate]
  have hta := assert_errno
  go_wp2_with fail
  go_region
  exact ⟨rfl, _, rfl, .tuple #[], by simp [results, Tryz.results38], rfl, rfl, after_set hc hq hpq er⟩

set_option maxRecDepth 100000 in
theorem catch_idle (p q : Nat) (w : World) :
    CallsD Tryz.prog 38 #[.pointer (some ⟨p, 0, none⟩), .pointer (some ⟨q, 0, none⟩)] .returning w fun e u' w' => e = .returned (.tuple #[]) ∧ u' = .returning ∧ w' = w := by
  refine callsD_of_wpS Tryz.func38 rfl fun c₀ cs hu => ?_
  apply wpS_seq
  apply wpS_region
  simp [wpOpsS, go_sem, recoverD, hu, Tryz.ntmps38, Exit.thenS]
  refine wpS_of_wp ?_
  simp [Array.replicate]
  go_wp2_with fail
  refine ⟨rfl, _, ?_, .tuple #[], by simp [results, Tryz.results38], rfl, rfl, rfl⟩
  cases c₀
  simp_all

theorem below_three (w : World) (o o' o'' : Obj) : Below w.heap.size w (((w.alloc o).alloc o').alloc o'') := (((Below.refl _ _).alloc (Nat.le_refl _) o).alloc (by simp) o').alloc (by simp; omega) o''

theorem tally_three (w : World) (o o'' : Obj) : Tally (((w.alloc o).alloc (.cells #[.int .i64 0, .int .i64 0] 67)).alloc o'') (w.heap.size + 1) (0, 0) := by
  show _ = _
  rw [Below.heap_alloc _ _ _ (by simp)]
  exact heap_new2 _ _ _

theorem met_zero : Met (0, 0) := ⟨by decide, by decide, by decide⟩

theorem errno_three {w w2 : World} {o o' : Obj} (hg : (((w.alloc o).alloc o').alloc (.cells #[.int .i64 0] 38)).grownBy w2 (some (w.heap.size + 1))) : w2.heap[w.heap.size + 1 + 1]? = some (.cells #[.int .i64 0] 38 (0, 0)) := by
  rw [hg.block _ (by simp) (by simp)]
  have e : ((w.alloc o).alloc o').heap.size = w.heap.size + 1 + 1 := by simp
  rw [← e]
  exact heap_alloc_new _ _

theorem after_cells {w w' : World} {p q : Nat} {s : Nat × Int} {er : Int} (h : After w w' p q s er) : w'.cell? ⟨p, 0, none⟩ = some (.int .i64 (s.1 : Int)) ∧ w'.cell? ⟨p, 1, none⟩ = some (.int .i64 s.2) ∧ w'.cell? ⟨q, 0, none⟩ = some (.int .i64 er) :=
  ⟨h.1.cells.1, h.1.cells.2.1, cell_of_one h.2.1⟩

theorem after_below {w w1 w2 w3 : World} {s : Nat × Int} {er : Int} (h : Below w.heap.size w w1) (hg : w1.grownBy w2 (some (w.heap.size + 1))) (ha : After w2 w3 (w.heap.size + 1) (w.heap.size + 1 + 1) s er) : Below w.heap.size w w3 := by
  obtain ⟨_, _, h3, h4, h5, h6, h7⟩ := ha
  have := h.size
  have := hg.size
  refine ⟨h5.trans (hg.os.trans h.os), h6.trans (hg.tape.trans h.tape), h7.trans (hg.output.trans h.output), by omega, fun k hk => ?_⟩
  rw [h3 k (by omega) (by omega), hg.block k (by omega) (by simp; omega), h.block k hk]

theorem grown_to_below {w w1 w2 : World} (h : Below w.heap.size w w1) (hg : w1.grownBy w2 (some (w.heap.size + 1))) : Below w.heap.size w w2 := by
  have := h.size
  exact ⟨hg.os.trans h.os, hg.tape.trans h.tape, hg.output.trans h.output, Nat.le_trans h.size hg.size, fun k hk => by rw [hg.block k (by omega) (by simp; omega), h.block k hk]⟩

set_option maxRecDepth 100000 in
set_option maxHeartbeats 1600000 in
theorem measure_any (n : Nat) (v : V n) (x : Value) (w : World) (h : Lay w n x v) :
    Calls Tryz.prog 30 #[x] w fun e w' => e = .returned (.tuple #[.agg #[.int .i64 (msr (wk n v 1 (0, 0))).1, .int .i64 (msr (wk n v 1 (0, 0))).2.1], .int .i64 (msr (wk n v 1 (0, 0))).2.2]) ∧ Below w.heap.size w w' := by
  have hmf : ∀ (fn : Fn) (first cap : Array Value) (w : World), (Instr.makeFunc fn first cap).run Tryz.prog w = .ok (.func fn first cap) w := fun _ _ _ _ => rfl
  obtain ⟨k, b, t, ka, kl, kc, ia, il, ic, rfl⟩ := Lay.shape n h
  have HL : Hid (Lay w n (mk k b t ka kl kc ia il ic) v) := h
  clear h
  cases hw : wk n v 1 (0, 0) with
  | error er =>
    have HX : Hid (wk n v 1 (0, 0) = .error er) := hw
    clear hw
    go_enter_defers Tryz.func30, Tryz.ntmps30
    go_wp2_with (go_at_call 39; refine (walk_any n _ _ _ _ _ _ (Lay.below n HL.out (below_three _ _ _ _)) (tally_three _ _ _) met_zero (by omega) (by omega)).mono ?_; rw [HX.out]; intro e w2 hp2; obtain ⟨rfl, hg2, s2, ht2⟩ := WalkPost.err hp2)
    refine leaves_cons (f := 38) (args := #[.pointer (some ⟨w.heap.size + 1, 0, none⟩), .pointer (some ⟨w.heap.size + 1 + 1, 0, none⟩)]) (by simp) (by simp [go_sem]) ?_
    have hq2 := errno_three hg2
    refine (catch_panicking _ _ _ _ _ er [] _ ht2 hq2 (by omega)).mono ?_
    rintro e u' w3 ⟨rfl, rfl, ha⟩
    obtain ⟨y1, y2, y3⟩ := after_cells ha
    simp [Leaves, settle, results, Tryz.results30, go_sem, y1, y2, y3]
    exact ⟨⟨⟨rfl, rfl⟩, rfl⟩, after_below (below_three _ _ _ _) hg2 ha⟩
  | ok s =>
    have HX : Hid (wk n v 1 (0, 0) = .ok s) := hw
    clear hw
    obtain ⟨c, d⟩ := s
    go_enter_defers Tryz.func30, Tryz.ntmps30
    go_wp2_with (go_at_call 39; refine (walk_any n _ _ _ _ _ _ (Lay.below n HL.out (below_three _ _ _ _)) (tally_three _ _ _) met_zero (by omega) (by omega)).mono ?_; rw [HX.out]; intro e w2 hp2; obtain ⟨rfl, hg2, ht2⟩ := WalkPost.ok hp2; have hq2 := errno_three hg2; have c0 := ht2.cells.1; have c1 := ht2.cells.2.1; have f0 := ht2.cells.2.2.1; have f1 := ht2.cells.2.2.2; have e0 := cell_of_one hq2; have e1 := free_of_one hq2)
    refine leaves_cons (f := 38) (args := #[.pointer (some ⟨w.heap.size + 1, 0, none⟩), .pointer (some ⟨w.heap.size + 1 + 1, 0, none⟩)]) (by simp) (by simp [go_sem]) ?_
    refine (catch_idle _ _ _).mono ?_
    rintro e u' w3 ⟨rfl, rfl, rfl⟩
    simp [Leaves, settle, results, Tryz.results30, go_sem, c0, c1, e0]
    exact ⟨⟨⟨rfl, rfl⟩, rfl⟩, (((grown_to_below (below_three _ _ _ _) hg2).setCell (by simp) _).setCell (by simp) _).setCell (by simp; omega) _⟩

set_option maxRecDepth 100000 in
theorem check_any (n : Nat) (v : V n) (x : Value) (w : World) (h : Lay w n x v) :
    Calls Tryz.prog 21 #[x] w fun e w' => e = .returned (.int .i64 (msr (wk n v 1 (0, 0))).2.2) ∧ Below w.heap.size w w' := by
  obtain ⟨k, b, t, ka, kl, kc, ia, il, ic, rfl⟩ := Lay.shape n h
  have HL : Hid (Lay w n (mk k b t ka kl kc ia il ic) v) := h
  clear h
  generalize hr : msr (wk n v 1 (0, 0)) = r
  obtain ⟨c, d, er⟩ := r
  have HR : Hid (msr (wk n v 1 (0, 0)) = (c, d, er)) := hr
  clear hr
  go_enter Tryz.func21, Tryz.ntmps21
  go_wp2_with (go_at_call 30; refine (measure_any n _ _ _ (Lay.below n HL.out ((Below.refl _ _).alloc (Nat.le_refl _) _))).mono ?_; rw [HR.out]; rintro e w1 ⟨rfl, hb1⟩)
  go_ret
  exact ⟨rfl, (nxt ((Below.refl _ _).alloc (Nat.le_refl _) _) hb1).alloc (by have := hb1.size; simp at this; omega) _⟩

end Go.Proofs.YtndclldicdfmeaaGreat
