/-
  The program's Decode of a box.
-/
import Derived.Test.YtfdbhojghkdlkaaObBox
import Derived.Test.YtfdbhojghkdlkaaJ15
import Derived.Test.YtfdbhojghkdlkaaJ17
namespace Go.Proofs.Ytfdbhojghkdlkaa
open Go.ChangeShapes Go.WideShapes Go.ChangeAt Go.RowKit
open Fl

theorem rdIt_tm {u : Tm 8} {l r : List UInt8} (h : rdIt nmK l = .ok (u, r)) : TmOk u := by
  by_cases hs : l.length < 9 ∨ l.length < 9 + lenI l
  · rw [rdIt_short hs] at h; cases h
  by_cases ht : (takeR (l.drop (9 + lenI l))).1 = 0
  · obtain ⟨v, m, h1, h2, h3⟩ := rdIt_ok (f := nmK) hs ht
    rw [h3] at h
    simp only [Except.ok.injEq, Prod.mk.injEq] at h
    obtain ⟨rfl, rfl⟩ := h
    refine ⟨?_, ?_⟩
    · show -9223372036854775808 ≤ nmK _ ∧ nmK _ ≤ 9223372036854775807
      unfold nmK wrap64
      omega
    · show ((l.drop 9).take (lenI l)).length ≤ _
      have hlt : 8 < l.length := by omega
      have f4 : lenI l = l[8].toNat := by unfold lenI; simp [hlt]
      have := l[8].toNat_lt
      rw [List.length_take]
      omega
  · rw [rdIt_err hs ht] at h; cases h
theorem iter_tm : ∀ (m : Nat) (a b : List (Tm 8)) (l r : List UInt8), iterE (stIt nmK) m (a, l) = .ok (b, r) → (∀ u ∈ a, TmOk u) → (∀ u ∈ b, TmOk u) ∧ b.length = a.length + m
  | 0, a, b, l, r, h, ha => by
    simp only [iterE, Except.ok.injEq, Prod.mk.injEq] at h
    obtain ⟨rfl, rfl⟩ := h
    exact ⟨ha, rfl⟩
  | m + 1, a, b, l, r, h, ha => by
    cases h1 : rdIt nmK l with
    | error e => simp [iterE, stIt_err h1] at h
    | ok q =>
      obtain ⟨t, r1⟩ := q
      simp only [iterE, stIt_ok h1] at h
      obtain ⟨h2, h3⟩ := iter_tm m _ _ _ _ h (fun u hu => by
        rcases List.mem_append.1 hu with hu | hu
        · exact ha u hu
        · rw [List.mem_singleton.1 hu]; exact rdIt_tm h1)
      exact ⟨h2, by rw [h3]; simp; omega⟩

/-- What Decode leaves behind its reader, in its result's variable. -/
theorem dec_out {w W1 W : World} {p R : Nat} {v : Value} {its : List (Tm 8)} {H : Nat → Prop} (hg : W1.grownBy W (some p)) (hW : Below w.heap.size w W1) (hp : w.heap.size ≤ p) (hR : w.heap.size ≤ R) (hR1 : R < W1.heap.size) (ho : OwnR (shT 8) W v its H) (hH : ∀ b, H b → W1.heap.size ≤ b ∧ b < W.heap.size) (v0 v1 : Value) :
    CopyInv (shT 8) w ((W.setCell ⟨R, 0, none⟩ v0).setCell ⟨R, 1, none⟩ v1) v its H := by
  have hb : Below w.heap.size w W := ⟨hg.os.trans hW.os, hg.tape.trans hW.tape, hg.output.trans hW.output, by have := hg.size; have := hW.size; omega, fun k hk => (hg.block k (by have := hW.size; omega) (fun e => by cases e; omega)).trans (hW.block k hk)⟩
  have hs := hW.size
  refine ⟨ho.same fun b hb' => set2_other _ _ (by have := (hH b hb').1; omega), fun b hb' => ⟨by have := (hH b hb').1; omega, by have := (hH b hb').2; simpa [World.setCell] using this⟩, ?_⟩
  exact (hb.setCell (p := ⟨R, 0, none⟩) hR v0).setCell (p := ⟨R, 1, none⟩) hR v1

set_option maxRecDepth 100000 in
set_option maxHeartbeats 3200000 in
theorem bdecode_any (a : Option Addr) (c : Nat) (x : List UInt8) (w : World) (ho : Oct w a c x) :
    Calls Try.prog 8 #[.slice a x.length c] w (BoxPost w (decB nmK x)) := by
  have B0 : Hid (Below w.heap.size w ((w.alloc (.cells #[.int .i64 0, .slice none 0 0] 26)).alloc (.cells #[.slice a x.length c, .int .i64 0] 60))) := below_two _ _ _
  have X0 : Hid (((w.alloc (.cells #[.int .i64 0, .slice none 0 0] 26)).alloc (.cells #[.slice a x.length c, .int .i64 0] 60)).heap[w.heap.size]? = some (.cells #[.int .i64 0, .slice none 0 0] 26 (0, 0))) := (Below.heap_alloc _ _ _ (by simp)).trans (heap_alloc_new _ _)
  have R0 : Hid (RdO ((w.alloc (.cells #[.int .i64 0, .slice none 0 0] 26)).alloc (.cells #[.slice a x.length c, .int .i64 0] 60)) (w.heap.size + 1) a c x 0) := by
    refine ⟨heap_new2 _ _ _, ho.below B0.out, fun hl ad e => ?_⟩
    obtain ⟨b, off, e', hc⟩ := ho.1 0 x[0] (by simp [hl])
    rw [e] at e'
    simp only [Option.some.injEq] at e'
    subst e'
    have := lt_of_cell hc
    simp only at this ⊢
    omega
  clear ho
  go_enter Try.func8, Try.ntmps8
  go_wp2_with fail
  refine (obox_any _ a c x _ R0.out).mono ?_
  have hsz : ((w.alloc (.cells #[.int .i64 0, .slice none 0 0] 26)).alloc (.cells #[.slice a x.length c, .int .i64 0] 60)).heap.size = w.heap.size + 2 := by simp
  generalize (w.alloc (.cells #[.int .i64 0, .slice none 0 0] 26)).alloc (.cells #[.slice a x.length c, .int .i64 0] 60) = W1 at *
  rintro e w2 ⟨hg, L, v, its, H, er, rfl, hO, hH, r, ra, rc, hr, hbad, hgood⟩
  obtain ⟨va, vc, rfl⟩ := hO.shape
  have HG : Hid (W1.grownBy w2 (some (w.heap.size + 1))) := hg
  have HO : Hid (OwnR (shT 8) w2 (.slice va its.length vc) its H) := hO
  have HH : Hid (∀ b, H b → W1.heap.size ≤ b ∧ b < w2.heap.size) := hH
  have HR : Hid (RdO w2 (w.heap.size + 1) ra rc r er) := hr
  have HBAD : Hid (er ≠ 0 → (decB nmK x).1 = er) := hbad
  have HGOOD : Hid (er = 0 → ¬ x.length < 10 ∧ ¬ 256 < cntB x ∧ L = nmK (x.take 8) ∧ iterE (stIt nmK) (cntB x) ([], x.drop 10) = .ok (its, r)) := hgood
  have X2 : Hid (w2.heap[w.heap.size]? = some (.cells #[.int .i64 0, .slice none 0 0] 26 (0, 0))) := (hg.block _ (by omega) (fun e => by have := Option.some.inj e; omega)).trans X0.out
  have B2 : Hid (Below w.heap.size w w2) := by
    have hW := B0.out
    exact ⟨hg.os.trans hW.os, hg.tape.trans hW.tape, hg.output.trans hW.output, by have := hg.size; have := hW.size; omega, fun k hk => (hg.block k (by have := hW.size; omega) (fun e => by cases e; omega)).trans (hW.block k hk)⟩
  clear hg hO hH hr hbad hgood
  obtain ⟨x0, x1, f0, f1⟩ := rdo_cells HR.out.1
  obtain ⟨y0, yf0⟩ := cell_of X2.out 0
  obtain ⟨y1, yf1⟩ := cell_of X2.out 1
  simp only [List.getElem?_toArray, List.getElem?_cons_zero, List.getElem?_cons_succ] at y0 y1
  have ER : Hid (∀ (w' : World) (e : Int), Below w.heap.size w w' → (decB nmK x).1 = e → e ≠ 0 → BoxPost w (decB nmK x) (.returned (.tuple #[.agg #[.int .i64 0, .slice none 0 0], .int .i64 e])) w') := fun w' e hb h1 h2 => by
    have h3 := decB_err (f := nmK) (x := x) (by rw [h1]; exact h2)
    have h4 : decB nmK x = (e, 0, []) := Prod.ext h1 h3
    rw [h4]
    exact ⟨_, _, rfl, CopyInv.none _ hb⟩
  by_cases he : er = 0
  · subst he
    obtain ⟨k1, k2, k3, k4⟩ := HGOOD.out rfl
    have hlen : its.length = cntB x := by have := (iter_tm _ _ _ _ _ k4 (fun u hu => by simp at hu)).2; simpa using this
    have HTM : Hid (∀ u ∈ its, TmOk u) := (iter_tm _ _ _ _ _ k4 (fun u hu => by simp at hu)).1
    have HE : Hid (decB nmK x = if 0 < r.length then (23, 0, []) else if chkB L its = 0 then (0, L, its) else (9, 0, [])) := by
      show _ = _
      unfold decB
      rw [if_neg k1, if_neg k2, k4, ← k3]
    have hl256 : its.length ≤ 256 := by omega
    clear k1 k2 k3 k4 hlen
    by_cases hrl : 0 < r.length
    · have hrl' : (0 : Int) < (r.length : Int) := by omega
      have HE1 : Hid ((decB nmK x).1 = 23) := by show _ = _; rw [HE.out, if_pos hrl]
      have B3 : Hid (∀ ob, Below w.heap.size w (w2.alloc ob)) := fun ob => nxt B2.out (below_one _ _)
      obtain ⟨z0, z1, g0, g1⟩ := rdo_cells ((Below.heap_alloc w2 (.cells #[.int .i64 L, .slice va its.length vc] 26) _ (lt_of_block HR.out.1)).trans HR.out.1)
      obtain ⟨y2, yf2⟩ := cell_of ((Below.heap_alloc w2 (.cells #[.int .i64 L, .slice va its.length vc] 26) _ (lt_of_block X2.out)).trans X2.out) 0
      obtain ⟨y3, yf3⟩ := cell_of ((Below.heap_alloc w2 (.cells #[.int .i64 L, .slice va its.length vc] 26) _ (lt_of_block X2.out)).trans X2.out) 1
      simp only [List.getElem?_toArray, List.getElem?_cons_zero, List.getElem?_cons_succ] at y2 y3
      go_wp2_with fail
      refine bodyPost_ret (v := .tuple #[.agg #[.int .i64 0, .slice none 0 0], .int .i64 23]) (by simp [results, Try.results8, go_sem, y2, y3]) rfl ?_
      exact ER.out _ 23 (((B3.out _).setCell (p := ⟨w.heap.size, 0, none⟩) (Nat.le_refl _) _).setCell (p := ⟨w.heap.size, 1, none⟩) (Nat.le_refl _) _) HE1.out (by decide)
    · have hrl' : ¬ (0 : Int) < (r.length : Int) := by omega
      have HT : Hid (TIs w2 8 va vc its) := by
        obtain ⟨ia, ic, e, h⟩ := OwnR.tis HO.out (by omega) HTM.out
        simp only [Value.slice.injEq, true_and] at e
        obtain ⟨rfl, rfl⟩ := e
        exact h
      rw [if_neg hrl] at HE
      have B3 : Hid (Below w2.heap.size w2 (w2.alloc (.cells #[.int .i64 L, .slice va its.length vc] 26))) := below_one _ _
      have Z3 : Hid ((w2.alloc (.cells #[.int .i64 L, .slice va its.length vc] 26)).heap[w2.heap.size]? = some (.cells #[.int .i64 L, .slice va its.length vc] 26 (0, 0))) := heap_alloc_new _ _
      obtain ⟨z0, z1, g0, g1⟩ := rdo_cells ((Below.heap_alloc w2 (.cells #[.int .i64 L, .slice va its.length vc] 26) _ (lt_of_block HR.out.1)).trans HR.out.1)
      have CC : Hid (Calls Try.prog 15 #[.agg #[.int .i64 L, .slice va its.length vc]] (w2.alloc (.cells #[.int .i64 L, .slice va its.length vc] 26)) _) := bcheck_any L its va vc _ (HT.out.below B3.out)
      go_wp2_with fail
      refine CC.out.mono ?_
      generalize w2.alloc (.cells #[.int .i64 L, .slice va its.length vc] 26) = w3 at *
      rintro e w4 ⟨rfl, hb4⟩
      have Z4 : Hid (w4.heap[w2.heap.size]? = some (.cells #[.int .i64 L, .slice va its.length vc] 26 (0, 0))) := (hb4.block _ (lt_of_block Z3.out)).trans Z3.out
      have B4 : Hid (Below w2.heap.size w2 w4) := nxt B3.out hb4
      have X4 : Hid (w4.heap[w.heap.size]? = some (.cells #[.int .i64 0, .slice none 0 0] 26 (0, 0))) := (B4.out.block _ (lt_of_block X2.out)).trans X2.out
      have hlt2 : w.heap.size < w2.heap.size := lt_of_block X2.out
      have hne1 : ¬ w.heap.size = w2.heap.size := by omega
      have hne2 : ¬ w2.heap.size = w.heap.size := by omega
      clear x0 x1 f0 f1 y0 y1 yf0 yf1 z0 z1 g0 g1 hb4 CC
      obtain ⟨y0, yf0⟩ := cell_of X4.out 0
      obtain ⟨y1, yf1⟩ := cell_of X4.out 1
      obtain ⟨z0, -⟩ := cell_of Z4.out 0
      obtain ⟨z1, -⟩ := cell_of Z4.out 1
      simp only [List.getElem?_toArray, List.getElem?_cons_zero, List.getElem?_cons_succ] at y0 y1 z0 z1
      by_cases hc : chkB L its = 0
      · rw [if_pos hc] at HE
        rw [hc]
        clear hc
        go_wp2_with fail
        refine bodyPost_ret (v := .tuple #[.agg #[.int .i64 L, .slice va its.length vc], .int .i64 0]) (by simp [results, Try.results8, go_sem, y0, y1]) rfl ?_
        rw [HE.out]
        refine ⟨_, H, rfl, ?_⟩
        have hgB : W1.grownBy w4 (some (w.heap.size + 1)) := grown_trans HG.out (grown_of_below B4.out)
        exact dec_out hgB B0.out (by omega) (Nat.le_refl _) (by omega) (HO.out.same fun b hb => B4.out.block b (HH.out b hb).2) (fun b hb => ⟨(HH.out b hb).1, by have := (HH.out b hb).2; have := B4.out.size; omega⟩) _ _
      · rw [if_neg hc] at HE
        have h9 : chkB L its = 9 := (chkB_cases L its).resolve_left hc
        rw [h9]
        clear hc h9
        go_wp2_with fail
        refine bodyPost_ret (v := .tuple #[.agg #[.int .i64 0, .slice none 0 0], .int .i64 9]) (by simp [results, Try.results8, go_sem, y0, y1]) rfl ?_
        exact ER.out _ 9 (((nxt B2.out B4.out).setCell (p := ⟨w.heap.size, 0, none⟩) (Nat.le_refl _) _).setCell (p := ⟨w.heap.size, 1, none⟩) (Nat.le_refl _) _) (by rw [HE.out]) (by decide)
  · have HE1 : Hid ((decB nmK x).1 = er) := HBAD.out he
    have HE0 : Hid (er ≠ 0) := he
    have hd1 : (er == 0) = false := by simpa using he
    have hd2 : (er != 0) = true := by simpa using he
    have B3 : Hid (Below w.heap.size w (w2.alloc (.cells #[.int .i64 L, .slice va its.length vc] 26))) := nxt B2.out (below_one _ _)
    obtain ⟨z0, z1, g0, g1⟩ := rdo_cells ((Below.heap_alloc w2 (.cells #[.int .i64 L, .slice va its.length vc] 26) _ (lt_of_block HR.out.1)).trans HR.out.1)
    obtain ⟨y2, yf2⟩ := cell_of ((Below.heap_alloc w2 (.cells #[.int .i64 L, .slice va its.length vc] 26) _ (lt_of_block X2.out)).trans X2.out) 0
    obtain ⟨y3, yf3⟩ := cell_of ((Below.heap_alloc w2 (.cells #[.int .i64 L, .slice va its.length vc] 26) _ (lt_of_block X2.out)).trans X2.out) 1
    simp only [List.getElem?_toArray, List.getElem?_cons_zero, List.getElem?_cons_succ] at y2 y3
    clear he
    go_wp2_with fail
    generalize w2.alloc (.cells #[.int .i64 L, .slice va its.length vc] 26) = w3 at *
    have z1d : w3.drew.cell? ⟨w.heap.size + 1, 1, none⟩ = _ := z1
    have y2d : w3.drew.cell? ⟨w.heap.size, 0, none⟩ = _ := y2
    have y3d : w3.drew.cell? ⟨w.heap.size, 1, none⟩ = _ := y3
    have yf2d : w3.drew.frozen? ⟨w.heap.size, 0, none⟩ = _ := yf2
    have yf3d : w3.drew.frozen? ⟨w.heap.size, 1, none⟩ = _ := yf3
    go_region_law fail
    all_goals
    go_wp2_with fail
    refine bodyPost_ret (v := .tuple #[.agg #[.int .i64 0, .slice none 0 0], .int .i64 er]) (by simp [results, Try.results8, go_sem, y2, y3]) rfl ?_
    exact ER.out _ er (((B3.out).drew.setCell (p := ⟨w.heap.size, 0, none⟩) (Nat.le_refl _) _).setCell (p := ⟨w.heap.size, 1, none⟩) (Nat.le_refl _) _) HE1.out HE0.out
end Go.Proofs.Ytfdbhojghkdlkaa

/-
  The page's Own, Next, Ack, Add.
-/
namespace Go.Proofs.Ytfdbhojghkdlkaa
open Go.ChangeShapes Go.WideShapes Go.ChangeAt Go.RowKit

theorem PgInv.start {n : Nat} (W0 : World) (T : Nat) (L : Int) (h : W0.heap[T]? = some (.cells #[.int .i64 L, .slice none 0 0] 24 (0, 0))) : PgInv (n := n) W0 W0 T L (.slice none 0 0) [] (fun _ => False) :=
  ⟨OwnR.nil _ _, fun _ hb => hb.elim, Kept.refl _ _, h⟩

/-- The box's row, read out into the result's box. -/
theorem PgInv.out2 {n : Nat} {w W0 wr : World} {T R : Nat} {L : Int} {v : Value} {its : List (Tm n)} {H : Nat → Prop} (h : PgInv W0 wr T L v its H) (hb : Below w.heap.size w W0) (hT : w.heap.size ≤ T) (hR : w.heap.size ≤ R) (hR0 : R < W0.heap.size) (v0 v1 : Value) :
    CopyInv (shT n) w ((wr.setCell ⟨R, 0, none⟩ v0).setCell ⟨R, 1, none⟩ v1) v its H := by
  obtain ⟨a1, a2, a3, a4⟩ := h
  have hs := hb.size
  refine ⟨a1.same fun b hb => set2_other _ _ (by have := (a2 b hb).1; omega), fun b hb => ⟨by have := (a2 b hb).1; omega, by have := (a2 b hb).2; simpa [World.setCell] using this⟩, ?_⟩
  exact ((kept_below hb hT a3).setCell (p := ⟨R, 0, none⟩) hR v0).setCell (p := ⟨R, 1, none⟩) hR v1

theorem three24 (w : World) (x0 x1 y0 y1 z0 z1 : Value) (t : TypeId) : let W := ((w.alloc (.cells #[x0, x1] t)).alloc (.cells #[y0, y1] t)).alloc (.cells #[z0, z1] t)
    W.heap[w.heap.size]? = some (.cells #[x0, x1] t (0, 0)) ∧ W.heap[w.heap.size + 1]? = some (.cells #[y0, y1] t (0, 0)) ∧ W.heap[w.heap.size + 1 + 1]? = some (.cells #[z0, z1] t (0, 0)) ∧ Below w.heap.size w W := by
  refine ⟨?_, ?_, ?_, below_three _ _ _ _⟩
  · rw [Below.heap_alloc _ _ _ (by simp; omega), Below.heap_alloc _ _ _ (by simp)]
    exact heap_alloc_new _ _
  · rw [Below.heap_alloc _ _ _ (by simp)]
    exact heap_new2 _ _ _
  · have h := heap_alloc_new ((w.alloc (.cells #[x0, x1] t)).alloc (.cells #[y0, y1] t)) (.cells #[z0, z1] t)
    rw [show ((w.alloc (.cells #[x0, x1] t)).alloc (.cells #[y0, y1] t)).heap.size = w.heap.size + 1 + 1 by simp] at h
    exact h

/-- What the page's Own tells. -/
def ROwnPost {n : Nat} (w : World) (L : Int) (its : List (Tm n)) (e : Ending) (w' : World) : Prop := ∃ v H, e = .returned (.agg #[.int .i64 L, v]) ∧ CopyInv (shT n) w w' v its H

end Go.Proofs.Ytfdbhojghkdlkaa

/-
  The page's Next and Ack.
-/
namespace Go.Proofs.Ytfdbhojghkdlkaa
open Go.ChangeShapes Go.WideShapes Go.ChangeAt Go.RowKit

/-- A row of one's own that stands in the box T; both from the world W0's end on. -/
def PgI {n : Nat} (W0 wr : World) (T : Nat) (L : Int) (v : Value) (its : List (Tm n)) (H : Nat → Prop) : Prop := OwnR (shT n) wr v its H ∧ (∀ b, H b → W0.heap.size ≤ b ∧ b ≠ T ∧ b < wr.heap.size) ∧ Below W0.heap.size W0 wr ∧ W0.heap.size ≤ T ∧ wr.heap[T]? = some (.cells #[.int .i64 L, v] 24 (0, 0))

theorem PgI.side {n : Nat} {W0 wr w1 : World} {T : Nat} {L : Int} {v y : Value} {its : List (Tm n)} {H F : Nat → Prop} {u : V n} (h : PgI W0 wr T L v its H) (hbel : Below wr.heap.size wr w1) (ho : Own w1 n y u F) (hF : ∀ b, F b → wr.heap.size ≤ b ∧ b < w1.heap.size) (ob : Obj) :
    OwnR (shT n) (w1.alloc ob) v its H ∧ Own (w1.alloc ob) n y u F ∧ (∀ b, F b → ¬ H b) ∧ (∀ b, H b → b < (w1.alloc ob).heap.size) ∧ (∀ b, F b → b < (w1.alloc ob).heap.size) := by
  obtain ⟨a1, a2, a3, a4, a5⟩ := h
  have z1 := hbel.size
  refine ⟨a1.same fun b hb => ?_, ho.same n fun b hb => Below.heap_alloc _ _ _ (hF b hb).2, fun b hb hH => ?_, fun b hb => ?_, fun b hb => ?_⟩
  · have := (a2 b hb).2.2
    rw [Below.heap_alloc _ _ _ (by omega), hbel.block b this]
  · have := (a2 b hH).2.2; have := (hF b hb).1; omega
  · have := (a2 b hb).2.2; simp; omega
  · have := (hF b hb).2; simp; omega

theorem PgI.next {n : Nat} {W0 wr w1 w5 : World} {T : Nat} {L : Int} {v v' : Value} {its its' : List (Tm n)} {H F : Nat → Prop} {ob : Obj} (h : PgI W0 wr T L v its H) (hbel : Below wr.heap.size wr w1) (hF : ∀ b, F b → wr.heap.size ≤ b ∧ b < w1.heap.size)
    (q1 : OwnR (shT n) w5 v' its' (fun b => H b ∨ F b ∨ v'.ownBlock = some b)) (q2 : (w1.alloc ob).grownBy w5 v.ownBlock) (q3 : v'.ownBlock = v.ownBlock ∨ ∀ g, v'.ownBlock = some g → (w1.alloc ob).heap.size ≤ g) (q4 : ∀ g, v'.ownBlock = some g → g < w5.heap.size) :
    PgI W0 (w5.setCell ⟨T, 1, none⟩ v') T L v' its' (fun b => H b ∨ F b ∨ v'.ownBlock = some b) ∧ w5.heap[T]? = some (.cells #[.int .i64 L, v] 24 (0, 0)) ∧ Below W0.heap.size W0 w5 := by
  obtain ⟨a1, a2, a3, a4, a5⟩ := h
  have hv : ∀ g, v.ownBlock = some g → H g := by
    obtain ⟨xs, G, r1, r2, r3, _⟩ := a1
    exact r3
  have z1 := hbel.size
  have z2 := a3.size
  have z3 : w1.heap.size + 1 ≤ w5.heap.size := by have := q2.size; simpa using this
  have hTw : T < wr.heap.size := lt_of_block a5
  have hT5 : w5.heap[T]? = some (.cells #[.int .i64 L, v] 24 (0, 0)) := by
    rw [q2.block T (by simp; omega) (fun e => (a2 T (hv T e.symm)).2.1 rfl), Below.heap_alloc _ _ _ (by omega), hbel.block T hTw]
    exact a5
  have hb : ∀ b, (H b ∨ F b ∨ v'.ownBlock = some b) → W0.heap.size ≤ b ∧ b ≠ T ∧ b < w5.heap.size := by
    intro b hb
    rcases hb with hb | hb | hb
    · have := a2 b hb; exact ⟨this.1, this.2.1, by omega⟩
    · have := hF b hb; exact ⟨by omega, by omega, by omega⟩
    · rcases q3 with e | e
      · have := a2 b (hv b (by rw [← e]; exact hb)); exact ⟨this.1, this.2.1, q4 b hb⟩
      · have := e b hb; simp at this; exact ⟨by omega, by omega, q4 b hb⟩
  have hbl : Below W0.heap.size W0 w5 := (nxt a3 (nxt hbel (below_one w1 ob))).grown q2 (by simp; omega) (fun g hg => (a2 g (hv g hg)).1)
  refine ⟨⟨q1.same fun b hb' => ?_, fun b hb' => ⟨(hb b hb').1, (hb b hb').2.1, by have := (hb b hb').2.2; simpa [World.setCell] using this⟩, hbl.setCell (p := ⟨T, 1, none⟩) a4 _, a4, ?_⟩, hT5, hbl⟩
  · have h' : ¬ T = b := fun e => (hb b hb').2.1 e.symm
    simp [World.setCell, Array.getElem?_modify, h']
  · have := set_one_cell (o := 1) hT5 v'
    simpa using this

theorem PgI.out2 {n : Nat} {w W0 wr : World} {T R : Nat} {L : Int} {v : Value} {its : List (Tm n)} {H : Nat → Prop} (h : PgI W0 wr T L v its H) (hb : Below w.heap.size w W0) (hR : w.heap.size ≤ R) (hR0 : R < W0.heap.size) (v0 v1 : Value) :
    CopyInv (shT n) w ((wr.setCell ⟨R, 0, none⟩ v0).setCell ⟨R, 1, none⟩ v1) v its H := by
  obtain ⟨a1, a2, a3, a4, a5⟩ := h
  have hs := hb.size
  refine ⟨a1.same fun b hb => set2_other _ _ (by have := (a2 b hb).1; omega), fun b hb => ⟨by have := (a2 b hb).1; omega, by have := (a2 b hb).2.2; simpa [World.setCell] using this⟩, ?_⟩
  exact ((nxt hb a3).setCell (p := ⟨R, 0, none⟩) hR v0).setCell (p := ⟨R, 1, none⟩) hR v1

theorem PgI.start {n : Nat} (W0 : World) (L : Int) {v : Value} {its : List (Tm n)} {H : Nat → Prop} (h : OwnR (shT n) W0 v its H) (B : World) (hB : Below B.heap.size B W0) (hH : ∀ b, H b → B.heap.size ≤ b ∧ b < W0.heap.size) : PgI B (W0.alloc (.cells #[.int .i64 L, v] 24)) W0.heap.size L v its H :=
  ⟨h.same fun b hb => Below.heap_alloc _ _ _ (hH b hb).2, fun b hb => ⟨(hH b hb).1, by have := (hH b hb).2; omega, by have := (hH b hb).2; simp; omega⟩, nxt hB (below_one _ _), hB.size, heap_alloc_new _ _⟩

/-- The first of a row of one's own. -/
theorem OwnR.take {α : Type} {n : Nat} {S : Sh α n} {w : World} {a : Option Addr} {c : Nat} {its : List α} {H : Nat → Prop} (h : OwnR S w (.slice a its.length c) its H) (hs : S.s = S.p + 5) (hp : ∀ u, (S.pre u).length = S.p) (k : Nat) (hk : k ≤ its.length) : OwnR S w (.slice a k c) (its.take k) H := by
  obtain ⟨xs, G, h1, h2, h3, h4, h5⟩ := h
  have hl : (its.take k).length = k := by rw [List.length_take]; omega
  have hob : (Value.slice a k c).ownBlock = (Value.slice a its.length c).ownBlock := by
    rcases h1.2 with ⟨e, _⟩ | ⟨g, cap, cur, e, _⟩
    · simp only [Value.slice.injEq] at e
      obtain ⟨rfl, e2, rfl⟩ := e
      rfl
    · simp only [Value.slice.injEq] at e
      obtain ⟨rfl, e2, rfl⟩ := e
      rfl
  refine ⟨xs.take (k * S.s), G, ?_, ?_, fun b hb => h3 b (by rw [← hob]; exact hb), fun i b hi hb => ?_, fun i j b hi hj => h5 i j b (by omega) (by omega)⟩
  · rw [hl]
    have hx := h1.1
    have hle : k * S.s ≤ its.length * S.s := Nat.mul_le_mul_right _ hk
    refine ⟨by rw [List.length_take]; omega, ?_⟩
    rcases h1.2 with ⟨e, e0⟩ | ⟨g, cap, cur, e, g1, g2, g3, g4, g5, g6⟩
    · simp only [Value.slice.injEq] at e
      obtain ⟨rfl, e2, rfl⟩ := e
      exact Or.inl ⟨by rw [show k = 0 by omega], by omega⟩
    · simp only [Value.slice.injEq] at e
      obtain ⟨rfl, e2, rfl⟩ := e
      refine Or.inr ⟨g, c, cur, rfl, g1, g2, by omega, g4, g5, ?_⟩
      rw [← g6, List.take_take, Nat.min_eq_left hle]
  · rw [hl]
    intro i u hi hu
    rw [List.getElem?_take, if_pos hi] at hu
    obtain ⟨q, c0, c1, c2, c3, c4, e0, e1, e2, e3, e4, ho⟩ := h2 i u (by omega) hu
    have up : ∀ j z, j < k * S.s → xs[j]? = some z → (xs.take (k * S.s))[j]? = some z := fun j z hj hz => by rw [List.getElem?_take, if_pos hj]; exact hz
    have hle : i * S.s + S.s ≤ k * S.s := by
      have := Nat.mul_le_mul_right S.s (show i + 1 ≤ k from hi)
      rw [Nat.add_mul] at this
      omega
    refine ⟨fun j z hz => up _ _ ?_ (q j z hz), c0, c1, c2, c3, c4, up _ _ (by omega) e0, up _ _ (by omega) e1, up _ _ (by omega) e2, up _ _ (by omega) e3, up _ _ (by omega) e4, ho⟩
    have := (List.getElem?_eq_some_iff.1 hz).1
    rw [hp] at this
    omega
  · rw [hl] at hi
    have := h4 i b (by omega) hb
    exact ⟨this.1, by rw [hob]; exact this.2⟩

end Go.Proofs.Ytfdbhojghkdlkaa
