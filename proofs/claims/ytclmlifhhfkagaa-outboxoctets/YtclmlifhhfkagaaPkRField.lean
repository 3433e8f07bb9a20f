/-
  The page's reader: behind an error; fields of a record.
-/
import Derived.Test.YtclmlifhhfkagaaPkRPart
namespace Go.Proofs.Ytclmlifhhfkagaa
open Go.ChangeShapes Go.WideShapes Go.ChangeAt Go.RowKit
open Fl

/-- The page's value, behind an error. -/
theorem RErr.more {w : World} {p K : Nat} {er : Int} (h : RErr w p K er) : ∃ q : Nat, q ≤ K ∧ w.cell? ⟨p, 2, none⟩ = some (.int .i64 (q : Int)) ∧ w.cell? ⟨p, 3, none⟩ = some (.int .i64 er) ∧ w.frozen? ⟨p, 2, none⟩ = false ∧ (er == 0) = false ∧ (er != 0) = true ∧ RErr (w.setCell ⟨p, 2, none⟩ (.int .i64 ((q : Int) + 1))) p (K + 1) er := by
  obtain ⟨h1, q, h2, sl, i, h3⟩ := h
  obtain ⟨x0, x1, x2, x3, f0, f1, f2, f3⟩ := rd4_cells h3
  exact ⟨q, h2, x2, x3, f2, by simpa using h1, by simpa using h1, h1, q + 1, by omega, sl, i, set4_two h3 _⟩

set_option maxRecDepth 100000 in
set_option maxHeartbeats 1600000 in
theorem rvalue_err (p K : Nat) (er d : Int) (w : World) (h : RErr w p K er) (hK : K ≤ 281474976710700) :
    Calls Try.prog 40 #[.pointer (some ⟨p, 0, none⟩), .int .i64 d] w fun e w' => w.grownBy w' (some p) ∧ RErr w' p (K + 1) er ∧ ∃ y, e = .returned y ∧ Some5 y := by
  have hp : p < w.heap.size := by obtain ⟨_, q, _, sl, i, h3⟩ := h; exact lt_of_block h3
  have HE1 : Hid (RErr (w.alloc (.cells #[.int .i64 0, .int .u64 0, .string ⟨#[]⟩, .slice none 0 0, .slice none 0 0] 50)) p K er) := h.same (Below.heap_alloc _ _ _ hp)
  have XR1 : Hid ((w.alloc (.cells #[.int .i64 0, .int .u64 0, .string ⟨#[]⟩, .slice none 0 0, .slice none 0 0] 50)).heap[w.heap.size]? = some (.cells #[.int .i64 0, .int .u64 0, .string ⟨#[]⟩, .slice none 0 0, .slice none 0 0] 50 (0, 0))) := heap_alloc_new _ _
  have B1 : Hid (Below w.heap.size w (w.alloc (.cells #[.int .i64 0, .int .u64 0, .string ⟨#[]⟩, .slice none 0 0, .slice none 0 0] 50))) := below_one _ _
  clear h
  go_enter Try.func40, Try.ntmps40
  go_upto_region 1 with fail
  generalize w.alloc (.cells #[.int .i64 0, .int .u64 0, .string ⟨#[]⟩, .slice none 0 0, .slice none 0 0] 50) = W1 at *
  go_wp2_with fail
  refine (rfail_err p K _ er _ W1 HE1.out).mono ?_
  rintro e w2 ⟨rfl, hw2⟩
  subst w2
  go_wp2_with fail
  refine (roctet_err p K er W1 HE1.out).mono ?_
  rintro e w2 ⟨rfl, hw2⟩
  subst w2
  go_wp2_with fail
  refine (rfail_err p K _ er _ W1 HE1.out).mono ?_
  rintro e w2 ⟨rfl, hw2⟩
  subst w2
  obtain ⟨q, hq, x2, x3, f2, hne, hne', hE2⟩ := HE1.out.more
  have HE2 : Hid (RErr _ p (K + 1) er) := hE2
  have hq' : q ≤ 281474976710700 := by omega
  clear hq hne
  clear hE2
  go_upto_region 6 with fail
  have hpW : p < W1.heap.size := lt_of_cell x2
  have hsz : (W1.setCell ⟨p, 2, none⟩ (.int .i64 ((q : Int) + 1))).heap.size = W1.heap.size := by simp [World.setCell]
  have bA := below_one (W1.setCell ⟨p, 2, none⟩ (.int .i64 ((q : Int) + 1))) (.cells #[.int .i64 0, .int .u64 0, .string ⟨#[]⟩, .slice none 0 0, .slice none 0 0] 50)
  have HE3 : Hid (RErr ((W1.setCell ⟨p, 2, none⟩ (.int .i64 ((q : Int) + 1))).alloc (.cells #[.int .i64 0, .int .u64 0, .string ⟨#[]⟩, .slice none 0 0, .slice none 0 0] 50)) p (K + 1) er) := HE2.out.same (bA.block p (by rw [hsz]; exact hpW))
  have XR3 : Hid (((W1.setCell ⟨p, 2, none⟩ (.int .i64 ((q : Int) + 1))).alloc (.cells #[.int .i64 0, .int .u64 0, .string ⟨#[]⟩, .slice none 0 0, .slice none 0 0] 50)).heap[w.heap.size]? = some (.cells #[.int .i64 0, .int .u64 0, .string ⟨#[]⟩, .slice none 0 0, .slice none 0 0] 50 (0, 0))) := (bA.block _ (by rw [hsz]; exact lt_of_block XR1.out)).trans ((Below.heap_setCell _ _ _ _ (by simp only; omega)).trans XR1.out)
  have YV3 : Hid (((W1.setCell ⟨p, 2, none⟩ (.int .i64 ((q : Int) + 1))).alloc (.cells #[.int .i64 0, .int .u64 0, .string ⟨#[]⟩, .slice none 0 0, .slice none 0 0] 50)).heap[W1.heap.size]? = some (.cells #[.int .i64 0, .int .u64 0, .string ⟨#[]⟩, .slice none 0 0, .slice none 0 0] 50 (0, 0))) := by
    have := heap_alloc_new (W1.setCell ⟨p, 2, none⟩ (.int .i64 ((q : Int) + 1))) (.cells #[.int .i64 0, .int .u64 0, .string ⟨#[]⟩, .slice none 0 0, .slice none 0 0] 50)
    rw [hsz] at this
    exact this
  have G3 : Hid (w.grownBy ((W1.setCell ⟨p, 2, none⟩ (.int .i64 ((q : Int) + 1))).alloc (.cells #[.int .i64 0, .int .u64 0, .string ⟨#[]⟩, .slice none 0 0, .slice none 0 0] 50)) (some p)) := grown_below (grown_trans (grown_of_below B1.out) (grown_set _)) bA
  clear bA hsz x2 x3 f2 HE2
  generalize ((W1.setCell ⟨p, 2, none⟩ (.int .i64 ((q : Int) + 1))).alloc (.cells #[.int .i64 0, .int .u64 0, .string ⟨#[]⟩, .slice none 0 0, .slice none 0 0] 50)) = W3 at *
  obtain ⟨z0, z1, z2, z3, z4, g0, g1, g2, g3, g4⟩ := box_cells XR3.out
  obtain ⟨v0, v1, v2, v3, v4, -⟩ := box_cells YV3.out
  obtain ⟨_, _, _, x3, _, _, _, _⟩ := HE3.out.more
  go_wp2_with fail
  refine bodyPost_ret (v := mk 0 0 ⟨#[]⟩ none 0 0 none 0 0) (by simp [results, Try.results40, go_sem, z0, z1, z2, z3, z4]) rfl ?_
  obtain ⟨e1, e2, e3, e4, e5⟩ := five_fin W3 w.heap.size (.int .i64 0) (.int .u64 0) (.string ⟨#[]⟩) (.slice none 0 0) (.slice none 0 0)
  generalize (((((W3.setCell ⟨w.heap.size, 0, none⟩ (.int .i64 0)).setCell ⟨w.heap.size, 1, none⟩ (.int .u64 0)).setCell ⟨w.heap.size, 2, none⟩ (.string ⟨#[]⟩)).setCell ⟨w.heap.size, 3, none⟩ (.slice none 0 0)).setCell ⟨w.heap.size, 4, none⟩ (.slice none 0 0)) = W5 at *
  exact ⟨⟨e3.trans G3.out.os, e4.trans G3.out.tape, e5.trans G3.out.output, by have := G3.out.size; omega, fun k hk hn => (e1 k (by omega)).trans (G3.out.block k hk hn)⟩, HE3.out.same (e1 p (by omega)), _, rfl, _, _, _, _, _, _, _, _, _, rfl⟩
end Go.Proofs.Ytclmlifhhfkagaa
