/-
  eval's machine: a scope and its fuel in a block; burn; what a number's part is.
-/
import Derived.Test.YtndclldicdfmeaaGreatEvTwo
import Derived.Test.YtndclldicdfmeaaGreatExBase
namespace Go.Proofs.YtndclldicdfmeaaGreat
open Go.ChangeShapes Go.WideShapes Go.ChangeAt Go.RowKit Go.Deep

/-- The machine: fifteen cells of its scope, and its fuel. -/
def Mc (w : World) (M : Nat) (s : List Value) (f : Int) : Prop := w.heap[M]? = some (.cells (s ++ [Value.int .i64 f]).toArray 62 (0, 0)) ∧ s.length = 15

theorem Mc.cell {w : World} {M : Nat} {s : List Value} {f : Int} (h : Mc w M s f) : w.cell? ⟨M, 15, none⟩ = some (.int .i64 f) ∧ w.frozen? ⟨M, 15, none⟩ = false := by
  obtain ⟨h, hs⟩ := h
  constructor
  · simp [World.cell?, h, hs]
  · simp [World.frozen?, h]

theorem Mc.lt {w : World} {M : Nat} {s : List Value} {f : Int} (h : Mc w M s f) : M < w.heap.size := lt_of_block h.1

theorem Mc.below {w w' : World} {M : Nat} {s : List Value} {f : Int} (h : Mc w M s f) (hb : Below w.heap.size w w') : Mc w' M s f := ⟨(hb.block _ h.lt).trans h.1, h.2⟩

theorem Mc.set {w : World} {M : Nat} {s : List Value} {f : Int} (h : Mc w M s f) (f' : Int) : Mc (w.setCell ⟨M, 15, none⟩ (.int .i64 f')) M s f' := by
  obtain ⟨h, hs⟩ := h
  refine ⟨?_, hs⟩
  simp only [World.setCell, Array.getElem?_modify, h]
  simp
  rw [List.set_append]
  simp [hs]

theorem grown_set {w : World} {M o : Nat} (v : Value) : w.grownBy (w.setCell ⟨M, o, none⟩ v) (some M) :=
  ⟨by simp [World.setCell], by simp [World.setCell], by simp [World.setCell], by simp [World.setCell], fun k _ hn => Below.heap_setCell _ _ _ _ fun e => hn (by rw [e])⟩

theorem grown_of_below {w w' : World} {r : Option Nat} (h : Below w.heap.size w w') : w.grownBy w' r := ⟨h.os, h.tape, h.output, h.size, fun k hk _ => h.block k hk⟩

theorem grown_setE {w W : World} {r : Option Nat} {E o : Nat} (h : w.grownBy W r) (hE : w.heap.size ≤ E) (v : Value) : w.grownBy (W.setCell ⟨E, o, none⟩ v) r :=
  ⟨h.os, h.tape, h.output, by simpa [World.setCell] using h.size, fun k hk hne => (Below.heap_setCell _ _ _ _ (by show k ≠ E; omega)).trans (h.block k hk hne)⟩

theorem Mc.other {w : World} {M : Nat} {s : List Value} {f : Int} (h : Mc w M s f) {g o : Nat} (hg : M ≠ g) (v : Value) : Mc (w.setCell ⟨g, o, none⟩ v) M s f := ⟨(Below.heap_setCell _ _ _ _ hg).trans h.1, h.2⟩

set_option maxRecDepth 100000 in
theorem burn_ok (M : Nat) (s : List Value) (f : Int) (w : World) (hm : Mc w M s f) (h1 : 0 < f) (h2 : f ≤ 4096) :
    Calls Tryz.prog 43 #[.pointer (some ⟨M, 0, none⟩)] w fun e w' => e = .returned (.tuple #[]) ∧ Mc w' M s (f - 1) ∧ w.grownBy w' (some M) := by
  obtain ⟨c0, f0⟩ := hm.cell
  have HM : Hid (Mc w M s f) := hm
  have g1 : (f == 0) = false := by simp; omega
  have g2 : IntKind.i64.wrap (f - 1) = f - 1 := by simp [IntKind.wrap, IntKind.bits, IntKind.signed]; omega
  clear hm
  go_enter Tryz.func43, Tryz.ntmps43
  go_wp2_with fail
  go_end0
  exact ⟨rfl, HM.out.set _, grown_set _⟩

set_option maxRecDepth 100000 in
theorem burn_no (M : Nat) (s : List Value) (w : World) (hm : Mc w M s 0) :
    Calls Tryz.prog 43 #[.pointer (some ⟨M, 0, none⟩)] w fun e w' => e = thrown 83 ∧ w' = w := by
  obtain ⟨c0, f0⟩ := hm.cell
  clear hm
  go_enter Tryz.func43, Tryz.ntmps43
  go_wp2_with fail
  exact ⟨rfl, rfl, rfl⟩

set_option maxRecDepth 100000 in
set_option maxHeartbeats 1600000 in
theorem reckon_num (M : Nat) (s : List Value) (f : Int) (b : Int) (t : ByteArray) (ia : Option Addr) (il ic : Nat) (w : World) (hm : Mc w M s f) (h1 : 0 < f) (h2 : f ≤ 4096) :
    Calls Tryz.prog 35 #[.pointer (some ⟨M, 0, none⟩), .agg #[.int .i64 3, .int .u64 b, .string t, .slice ia il ic]] w fun e w' =>
      e = .returned (mk 2 b ⟨#[]⟩ none 0 0 none 0 0) ∧ Mc w' M s (f - 1) ∧ w.grownBy w' (some M) := by
  have HB2 : Hid (Below w.heap.size w ((w.alloc (.cells #[.int .i64 3, .int .u64 b, .string t, .slice ia il ic] 34)).alloc (.cells #[.int .i64 0, .int .u64 0, .string ⟨#[]⟩, .slice none 0 0, .slice none 0 0] 29))) := nxt (below_one _ _) (below_one _ _)
  have HP2 : Hid (((w.alloc (.cells #[.int .i64 3, .int .u64 b, .string t, .slice ia il ic] 34)).alloc (.cells #[.int .i64 0, .int .u64 0, .string ⟨#[]⟩, .slice none 0 0, .slice none 0 0] 29)).heap[w.heap.size]? = some (.cells #[.int .i64 3, .int .u64 b, .string t, .slice ia il ic] 34 (0, 0))) := (Below.heap_alloc _ _ _ (by simp)).trans (heap_alloc_new _ _)
  have HR2 : Hid (((w.alloc (.cells #[.int .i64 3, .int .u64 b, .string t, .slice ia il ic] 34)).alloc (.cells #[.int .i64 0, .int .u64 0, .string ⟨#[]⟩, .slice none 0 0, .slice none 0 0] 29)).heap[w.heap.size + 1]? = some (.cells #[.int .i64 0, .int .u64 0, .string ⟨#[]⟩, .slice none 0 0, .slice none 0 0] 29 (0, 0))) := heap_new2 _ _ _
  have HS2 : Hid (((w.alloc (.cells #[.int .i64 3, .int .u64 b, .string t, .slice ia il ic] 34)).alloc (.cells #[.int .i64 0, .int .u64 0, .string ⟨#[]⟩, .slice none 0 0, .slice none 0 0] 29)).heap.size = w.heap.size + 2) := by show _ = _; simp
  have HL : Hid (M < w.heap.size) := hm.lt
  have HC : Hid (Calls Tryz.prog 43 #[.pointer (some ⟨M, 0, none⟩)] ((w.alloc (.cells #[.int .i64 3, .int .u64 b, .string t, .slice ia il ic] 34)).alloc (.cells #[.int .i64 0, .int .u64 0, .string ⟨#[]⟩, .slice none 0 0, .slice none 0 0] 29)) _) := burn_ok M s f _ (hm.below HB2.out) h1 h2
  clear hm h1 h2
  go_enter Tryz.func35, Tryz.ntmps35
  go_wp2_with (first
    | (go_at_call 43; refine HC.out.mono ?_; rintro e w1 ⟨rfl, hm1, hg1⟩; have P1 := (hg1.block w.heap.size (by rw [HS2.out]; omega) (fun e => by have := HL.out; cases e; omega)).trans HP2.out; have R1 := (hg1.block (w.heap.size + 1) (by rw [HS2.out]; omega) (fun e => by have := HL.out; cases e; omega)).trans HR2.out; obtain ⟨x0, x1, x2, x3⟩ := Xp.box4 P1)
    | (go_at_call 45; refine (numberOf_any _ _).mono ?_; rintro e w2 ⟨rfl, hb2⟩; have R2 := (hb2.block _ (lt_of_block R1)).trans R1; obtain ⟨z0, z1, z2, z3, z4, f0, f1, f2, f3, f4⟩ := box_cells R2))
  refine bodyPost_ret (v := mk 2 b ⟨#[]⟩ none 0 0 none 0 0) (by simp [results, Tryz.results35, go_sem, z0, z1, z2, z3, z4]) rfl ⟨rfl, ?_, ?_⟩
  · have hne : M ≠ w.heap.size + 1 := by have := HL.out; omega
    exact (((((hm1.below hb2).other hne _).other hne _).other hne _).other hne _).other hne _
  · have G : w.grownBy w2 (some M) := grown_below (grown_trans (grown_of_below HB2.out) hg1) hb2
    exact grown_setE (grown_setE (grown_setE (grown_setE (grown_setE G (by omega) _) (by omega) _) (by omega) _) (by omega) _) (by omega) _
end Go.Proofs.YtndclldicdfmeaaGreat
