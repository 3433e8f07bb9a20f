/-
  The program's Take and Decode.
-/
import Derived.Test.YtclmlifhhfkagaaPkTake
namespace Go.Proofs.Ytclmlifhhfkagaa
open Go.ChangeShapes Go.WideShapes Go.ChangeAt Go.RowKit
open Fl

theorem Oct.below {w w' : World} {a : Option Addr} {c : Nat} {bs : List UInt8} (h : Oct w a c bs) (hb : Below w.heap.size w w') : Oct w' a c bs := ⟨h.1.below hb, h.2⟩

/-- A result's variable written, with what is one's own elsewhere. -/
theorem fin_own {w W W5 : World} {n : Nat} {y : Value} {u : V n} {F : Nat → Prop} (hb : Below w.heap.size w W) (e1 : ∀ k, k ≠ w.heap.size → W5.heap[k]? = W.heap[k]?) (e2 : W5.heap.size = W.heap.size) (e3 : W5.os = W.os) (e4 : W5.tape = W.tape) (e5 : W5.output = W.output)
    (ho : Own W n y u F) (hF : ∀ b, F b → w.heap.size < b ∧ b < W.heap.size) : Own W5 n y u F ∧ (∀ b, F b → w.heap.size ≤ b ∧ b < W5.heap.size) ∧ Below w.heap.size w W5 :=
  ⟨ho.same n fun b hb' => e1 b (by have := (hF b hb').1; omega), fun b hb' => by have := hF b hb'; omega, ⟨e3.trans hb.os, e4.trans hb.tape, e5.trans hb.output, by have := hb.size; omega, fun k hk => (e1 k (by omega)).trans (hb.block k hk)⟩⟩

set_option maxRecDepth 100000 in
theorem take_any (a : Option Addr) (c : Nat) (bs : List UInt8) (w : World) (ho : Oct w a c bs) :
    Calls Try.prog 65 #[.slice a bs.length c] w fun e w' => ∃ y F, e = .returned (.tuple #[y, .int .i64 ((takeR bs).2.2 : Int), .int .i64 (takeR bs).1]) ∧ Own w' (takeR bs).2.1.1 y (takeR bs).2.1.2 F ∧ (∀ b, F b → w.heap.size ≤ b ∧ b < w'.heap.size) ∧ Below w.heap.size w w' := by
  have HC : Hid (∀ w', Below w.heap.size w w' → Calls Try.prog 71 #[.slice a bs.length c] w' _) := fun w' hb => read_any a c bs w' (ho.below hb)
  clear ho
  generalize takeR bs = R at *
  obtain ⟨er, ⟨m, u⟩, nn⟩ := R
  go_enter Try.func65, Try.ntmps65
  go_wp2_with fail
  refine (HC.out _ (below_one _ _)).mono ?_
  rintro e w2 ⟨y, F, rfl, h1, h2, h3⟩
  obtain ⟨k, b, t, ka, kl, kc, ia, il, ic, rfl⟩ := Lay.shape _ (Own.lay _ h1)
  have HX : Hid (w2.heap[w.heap.size]? = _) := (h3.block _ (by simp)).trans (heap_alloc_new _ _)
  have HB : Hid (Below w.heap.size w w2) := nxt (below_one _ _) h3
  have HF : Hid (∀ b, F b → w.heap.size < b ∧ b < w2.heap.size) := fun b hb => by have := h2 b hb; simp at this; omega
  have HW : Hid (Own w2 m (mk k b t ka kl kc ia il ic) u F) := h1
  obtain ⟨z0, z1, z2, z3, z4, f0, f1, f2, f3, f4⟩ := box_cells HX.out
  clear h1 h2 h3
  go_wp2_with fail
  refine bodyPost_ret (v := .tuple #[mk k b t ka kl kc ia il ic, .int .i64 nn, .int .i64 er]) (by simp [results, Try.results65, go_sem, z0, z1, z2, z3, z4]) rfl ?_
  obtain ⟨e1, e2, e3, e4, e5⟩ := five_fin w2 w.heap.size (.int .i64 k) (.int .u64 b) (.string t) (.slice ka kl kc) (.slice ia il ic)
  generalize (((((w2.setCell ⟨w.heap.size, 0, none⟩ (.int .i64 k)).setCell ⟨w.heap.size, 1, none⟩ (.int .u64 b)).setCell ⟨w.heap.size, 2, none⟩ (.string t)).setCell ⟨w.heap.size, 3, none⟩ (.slice ka kl kc)).setCell ⟨w.heap.size, 4, none⟩ (.slice ia il ic)) = W5 at *
  exact ⟨_, F, rfl, fin_own HB.out e1 e2 e3 e4 e5 HW.out HF.out⟩

/-- Decode's answer. -/
def decR (bs : List UInt8) : Int × PT := if (takeR bs).1 = 0 then if (takeR bs).2.2 < bs.length then (23, zeroPT) else (0, (takeR bs).2.1) else ((takeR bs).1, zeroPT)

end Go.Proofs.Ytclmlifhhfkagaa
