/-
  The program's Take and Decode.
-/
import Derived.Test.YtihncekjbmepoabPkTake
namespace Go.Proofs.Ytihncekjbmepoab
open Go.ChangeShapes Go.WideShapes Go.ChangeAt Go.RowKit
open Fl

theorem Oct.below {w w' : World} {a : Option Addr} {c : Nat} {bs : List UInt8} (h : Oct w a c bs) (hb : Below w.heap.size w w') : Oct w' a c bs := ⟨h.1.below hb, h.2⟩

/-- A result's variable written, with what is one's own elsewhere. -/
theorem fin_own {w W W5 : World} {n : Nat} {y : Value} {u : V n} {F : Nat → Prop} (hb : Below w.heap.size w W) (e1 : ∀ k, k ≠ w.heap.size → W5.heap[k]? = W.heap[k]?) (e2 : W5.heap.size = W.heap.size) (e3 : W5.os = W.os) (e4 : W5.tape = W.tape) (e5 : W5.output = W.output)
    (ho : Own W n y u F) (hF : ∀ b, F b → w.heap.size < b ∧ b < W.heap.size) : Own W5 n y u F ∧ (∀ b, F b → w.heap.size ≤ b ∧ b < W5.heap.size) ∧ Below w.heap.size w W5 :=
  ⟨ho.same n fun b hb' => e1 b (by have := (hF b hb').1; omega), fun b hb' => by have := hF b hb'; omega, ⟨e3.trans hb.os, e4.trans hb.tape, e5.trans hb.output, by have := hb.size; omega, fun k hk => (e1 k (by omega)).trans (hb.block k hk)⟩⟩

set_option maxRecDepth 100000 in
theorem take_any (a : Option Addr) (c : Nat) (bs : List UInt8) (w : World) (ho : Oct w a c bs) :
    Calls Try.prog 15 #[.slice a bs.length c] w fun e w' => ∃ y F, e = .returned (.tuple #[y, .int .i64 ((takeR bs).2.2 : Int), .int .i64 (takeR bs).1]) ∧ Own w' (takeR bs).2.1.1 y (takeR bs).2.1.2 F ∧ (∀ b, F b → w.heap.size ≤ b ∧ b < w'.heap.size) ∧ Below w.heap.size w w' := by
  have HC : Hid (∀ w', Below w.heap.size w w' → Calls Try.prog 27 #[.slice a bs.length c] w' _) := fun w' hb => read_any a c bs w' (ho.below hb)
  clear ho
  generalize takeR bs = R at *
  obtain ⟨er, ⟨m, u⟩, nn⟩ := R
  go_enter Try.func15, Try.ntmps15
  go_wp2_with fail
  refine (HC.out _ (below_one _ _)).mono ?_
  rintro e w2 ⟨y, F, rfl, h1, h2, h3⟩
  obtain ⟨k, b, t, ka, kl, kc, ia, il, ic, rfl⟩ := Lay.shape _ (Own.lay _ h1)
  have HX : Hid (w2.heap[w.heap.size]? = _) := (h3.block _ (by simp)).trans (heap_alloc_new _ _)
  have HB : Hid (Below w.heap.size w w2) := nxt (below_one _ _) h3
  have HF : Hid (∀ b, F b → w.heap.size < b ∧ b < w2.heap.size) := fun b hb => by have := h2 b hb; simp at this; omega
  have HW : Hid (Own w2 m (mk k b t ka kl kc ia il ic) u F) := h1
  obtain ⟨z0, z1, z2, z3, z4, f0, f1, f2, f3, f4⟩ := box_cells HX.out
  clear h1 h2 h3
  go_wp2_with fail
  refine bodyPost_ret (v := .tuple #[mk k b t ka kl kc ia il ic, .int .i64 nn, .int .i64 er]) (by simp [results, Try.results15, go_sem, z0, z1, z2, z3, z4]) rfl ?_
  obtain ⟨e1, e2, e3, e4, e5⟩ := five_fin w2 w.heap.size (.int .i64 k) (.int .u64 b) (.string t) (.slice ka kl kc) (.slice ia il ic)
  generalize (((((w2.setCell ⟨w.heap.size, 0, none⟩ (.int .i64 k)).setCell ⟨w.heap.size, 1, none⟩ (.int .u64 b)).setCell ⟨w.heap.size, 2, none⟩ (.string t)).setCell ⟨w.heap.size, 3, none⟩ (.slice ka kl kc)).setCell ⟨w.heap.size, 4, none⟩ (.slice ia il ic)) = W5 at *
  exact ⟨_, F, rfl, fin_own HB.out e1 e2 e3 e4 e5 HW.out HF.out⟩

/-- Decode's answer. -/
def decR (bs : List UInt8) : Int × PT := if (takeR bs).1 = 0 then if (takeR bs).2.2 < bs.length then (23, zeroPT) else (0, (takeR bs).2.1) else ((takeR bs).1, zeroPT)

set_option maxRecDepth 100000 in
set_option maxHeartbeats 1600000 in
theorem decode_any (a : Option Addr) (c : Nat) (bs : List UInt8) (w : World) (ho : Oct w a c bs) :
    Calls Try.prog 13 #[.slice a bs.length c] w fun e w' => ∃ y F, e = .returned (.tuple #[y, .int .i64 (decR bs).1]) ∧ Own w' (decR bs).2.1 y (decR bs).2.2 F ∧ (∀ b, F b → w.heap.size ≤ b ∧ b < w'.heap.size) ∧ Below w.heap.size w w' := by
  have HC : Hid (∀ w', Below w.heap.size w w' → Calls Try.prog 15 #[.slice a bs.length c] w' _) := fun w' hb => take_any a c bs w' (ho.below hb)
  clear ho
  unfold decR
  generalize takeR bs = R at *
  obtain ⟨er, ⟨m, u⟩, nn⟩ := R
  by_cases h0 : er = 0
  · subst h0
    by_cases hl : nn < bs.length
    · have hl' : (nn : Int) < (bs.length : Int) := by omega
      have HL : Hid (nn < bs.length) := hl
      clear hl
      simp only [if_true]
      rw [if_pos HL.out]
      go_enter Try.func13, Try.ntmps13
      go_wp2_with fail
      refine (HC.out _ (below_one _ _)).mono ?_
      rintro e w2 ⟨y, F, rfl, h1, h2, h3⟩
      obtain ⟨k, b, t, ka, kl, kc, ia, il, ic, rfl⟩ := Lay.shape _ (Own.lay _ h1)
      have bA := below_one w2 (.cells #[.int .i64 k, .int .u64 b, .string t, .slice ka kl kc, .slice ia il ic] 26)
      have HX : Hid ((w2.alloc (.cells #[.int .i64 k, .int .u64 b, .string t, .slice ka kl kc, .slice ia il ic] 26)).heap[w.heap.size]? = _) := (bA.block _ (by have := h3.size; simp at this; omega)).trans ((h3.block _ (by simp)).trans (heap_alloc_new _ _))
      have HB : Hid (Below w.heap.size w (w2.alloc (.cells #[.int .i64 k, .int .u64 b, .string t, .slice ka kl kc, .slice ia il ic] 26))) := nxt (nxt (below_one _ _) h3) bA
      have HF : Hid (∀ b', F b' → w.heap.size < b' ∧ b' < (w2.alloc (.cells #[.int .i64 k, .int .u64 b, .string t, .slice ka kl kc, .slice ia il ic] 26)).heap.size) := fun b hb => by have := h2 b hb; simp at this ⊢; omega
      have HW : Hid (Own (w2.alloc (.cells #[.int .i64 k, .int .u64 b, .string t, .slice ka kl kc, .slice ia il ic] 26)) m (mk k b t ka kl kc ia il ic) u F) := h1.same _ fun b' hb' => bA.block b' (h2 b' hb').2
      have HY : Hid ((w2.alloc (.cells #[.int .i64 k, .int .u64 b, .string t, .slice ka kl kc, .slice ia il ic] 26)).heap[w2.heap.size]? = some (.cells #[.int .i64 k, .int .u64 b, .string t, .slice ka kl kc, .slice ia il ic] 26 (0, 0))) := heap_alloc_new _ _
      have hsz : w.heap.size < w2.heap.size := by have := h3.size; simp at this; omega
      clear h1 h2 h3 bA
      go_upto_region 2 with fail
      generalize w2.alloc (.cells #[.int .i64 k, .int .u64 b, .string t, .slice ka kl kc, .slice ia il ic] 26) = W3 at *
      obtain ⟨z0, z1, z2, z3, z4, f0, f1, f2, f3, f4⟩ := box_cells HX.out
      go_wp2_with fail
      refine bodyPost_ret (v := .tuple #[mk 0 0 ⟨#[]⟩ none 0 0 none 0 0, .int .i64 23]) (by simp [results, Try.results13, go_sem, z0, z1, z2, z3, z4]) rfl ?_
      obtain ⟨e1, e2, e3, e4, e5⟩ := five_fin W3 w.heap.size (.int .i64 0) (.int .u64 0) (.string ⟨#[]⟩) (.slice none 0 0) (.slice none 0 0)
      generalize (((((W3.setCell ⟨w.heap.size, 0, none⟩ (.int .i64 0)).setCell ⟨w.heap.size, 1, none⟩ (.int .u64 0)).setCell ⟨w.heap.size, 2, none⟩ (.string ⟨#[]⟩)).setCell ⟨w.heap.size, 3, none⟩ (.slice none 0 0)).setCell ⟨w.heap.size, 4, none⟩ (.slice none 0 0)) = W5 at *
      exact ⟨_, rfl, fun _ => False, fin_own HB.out e1 e2 e3 e4 e5 (own_zeroPT _) (fun b hb => hb.elim)⟩
    · have hl' : ¬ (nn : Int) < (bs.length : Int) := by omega
      have HL : Hid (¬ nn < bs.length) := hl
      clear hl
      simp only [if_true]
      rw [if_neg HL.out]
      go_enter Try.func13, Try.ntmps13
      go_wp2_with fail
      refine (HC.out _ (below_one _ _)).mono ?_
      rintro e w2 ⟨y, F, rfl, h1, h2, h3⟩
      obtain ⟨k, b, t, ka, kl, kc, ia, il, ic, rfl⟩ := Lay.shape _ (Own.lay _ h1)
      have bA := below_one w2 (.cells #[.int .i64 k, .int .u64 b, .string t, .slice ka kl kc, .slice ia il ic] 26)
      have HX : Hid ((w2.alloc (.cells #[.int .i64 k, .int .u64 b, .string t, .slice ka kl kc, .slice ia il ic] 26)).heap[w.heap.size]? = _) := (bA.block _ (by have := h3.size; simp at this; omega)).trans ((h3.block _ (by simp)).trans (heap_alloc_new _ _))
      have HB : Hid (Below w.heap.size w (w2.alloc (.cells #[.int .i64 k, .int .u64 b, .string t, .slice ka kl kc, .slice ia il ic] 26))) := nxt (nxt (below_one _ _) h3) bA
      have HF : Hid (∀ b', F b' → w.heap.size < b' ∧ b' < (w2.alloc (.cells #[.int .i64 k, .int .u64 b, .string t, .slice ka kl kc, .slice ia il ic] 26)).heap.size) := fun b hb => by have := h2 b hb; simp at this ⊢; omega
      have HW : Hid (Own (w2.alloc (.cells #[.int .i64 k, .int .u64 b, .string t, .slice ka kl kc, .slice ia il ic] 26)) m (mk k b t ka kl kc ia il ic) u F) := h1.same _ fun b' hb' => bA.block b' (h2 b' hb').2
      have HY : Hid ((w2.alloc (.cells #[.int .i64 k, .int .u64 b, .string t, .slice ka kl kc, .slice ia il ic] 26)).heap[w2.heap.size]? = some (.cells #[.int .i64 k, .int .u64 b, .string t, .slice ka kl kc, .slice ia il ic] 26 (0, 0))) := heap_alloc_new _ _
      have hsz : w.heap.size < w2.heap.size := by have := h3.size; simp at this; omega
      clear h1 h2 h3 bA
      go_upto_region 2 with fail
      generalize w2.alloc (.cells #[.int .i64 k, .int .u64 b, .string t, .slice ka kl kc, .slice ia il ic] 26) = W3 at *
      obtain ⟨z0, z1, z2, z3, z4, f0, f1, f2, f3, f4⟩ := box_cells HX.out
      obtain ⟨y0, y1, y2, y3, y4, -⟩ := box_cells HY.out
      go_wp2_with fail
      refine bodyPost_ret (v := .tuple #[mk k b t ka kl kc ia il ic, .int .i64 0]) (by simp [results, Try.results13, go_sem, z0, z1, z2, z3, z4]) rfl ?_
      obtain ⟨e1, e2, e3, e4, e5⟩ := five_fin W3 w.heap.size (.int .i64 k) (.int .u64 b) (.string t) (.slice ka kl kc) (.slice ia il ic)
      generalize (((((W3.setCell ⟨w.heap.size, 0, none⟩ (.int .i64 k)).setCell ⟨w.heap.size, 1, none⟩ (.int .u64 b)).setCell ⟨w.heap.size, 2, none⟩ (.string t)).setCell ⟨w.heap.size, 3, none⟩ (.slice ka kl kc)).setCell ⟨w.heap.size, 4, none⟩ (.slice ia il ic)) = W5 at *
      exact ⟨_, rfl, F, fin_own HB.out e1 e2 e3 e4 e5 HW.out HF.out⟩
  · have h0' : (er == 0) = false := by simpa using h0
    have HE : Hid (¬ er = 0) := h0
    clear h0
    simp only
    rw [if_neg HE.out]
    go_enter Try.func13, Try.ntmps13
    go_wp2_with fail
    refine (HC.out _ (below_one _ _)).mono ?_
    rintro e w2 ⟨y, F, rfl, h1, h2, h3⟩
    obtain ⟨k, b, t, ka, kl, kc, ia, il, ic, rfl⟩ := Lay.shape _ (Own.lay _ h1)
    have bA := below_one w2 (.cells #[.int .i64 k, .int .u64 b, .string t, .slice ka kl kc, .slice ia il ic] 26)
    have HX : Hid ((w2.alloc (.cells #[.int .i64 k, .int .u64 b, .string t, .slice ka kl kc, .slice ia il ic] 26)).heap[w.heap.size]? = _) := (bA.block _ (by have := h3.size; simp at this; omega)).trans ((h3.block _ (by simp)).trans (heap_alloc_new _ _))
    have HB : Hid (Below w.heap.size w (w2.alloc (.cells #[.int .i64 k, .int .u64 b, .string t, .slice ka kl kc, .slice ia il ic] 26))) := nxt (nxt (below_one _ _) h3) bA
    have HF : Hid (∀ b', F b' → w.heap.size < b' ∧ b' < (w2.alloc (.cells #[.int .i64 k, .int .u64 b, .string t, .slice ka kl kc, .slice ia il ic] 26)).heap.size) := fun b hb => by have := h2 b hb; simp at this ⊢; omega
    have HW : Hid (Own (w2.alloc (.cells #[.int .i64 k, .int .u64 b, .string t, .slice ka kl kc, .slice ia il ic] 26)) m (mk k b t ka kl kc ia il ic) u F) := h1.same _ fun b' hb' => bA.block b' (h2 b' hb').2
    have HY : Hid ((w2.alloc (.cells #[.int .i64 k, .int .u64 b, .string t, .slice ka kl kc, .slice ia il ic] 26)).heap[w2.heap.size]? = some (.cells #[.int .i64 k, .int .u64 b, .string t, .slice ka kl kc, .slice ia il ic] 26 (0, 0))) := heap_alloc_new _ _
    have hsz : w.heap.size < w2.heap.size := by have := h3.size; simp at this; omega
    clear h1 h2 h3 bA
    go_upto_region 2 with fail
    generalize w2.alloc (.cells #[.int .i64 k, .int .u64 b, .string t, .slice ka kl kc, .slice ia il ic] 26) = W3 at *
    obtain ⟨z0, z1, z2, z3, z4, f0, f1, f2, f3, f4⟩ := box_cells HX.out
    go_wp2_with fail
    refine bodyPost_ret (v := .tuple #[mk 0 0 ⟨#[]⟩ none 0 0 none 0 0, .int .i64 er]) (by simp [results, Try.results13, go_sem, z0, z1, z2, z3, z4]) rfl ?_
    obtain ⟨e1, e2, e3, e4, e5⟩ := five_fin W3 w.heap.size (.int .i64 0) (.int .u64 0) (.string ⟨#[]⟩) (.slice none 0 0) (.slice none 0 0)
    generalize (((((W3.setCell ⟨w.heap.size, 0, none⟩ (.int .i64 0)).setCell ⟨w.heap.size, 1, none⟩ (.int .u64 0)).setCell ⟨w.heap.size, 2, none⟩ (.string ⟨#[]⟩)).setCell ⟨w.heap.size, 3, none⟩ (.slice none 0 0)).setCell ⟨w.heap.size, 4, none⟩ (.slice none 0 0)) = W5 at *
    exact ⟨_, fun _ => False, rfl, fin_own HB.out e1 e2 e3 e4 e5 (own_zeroPT _) (fun b hb => hb.elim)⟩
end Go.Proofs.Ytihncekjbmepoab
