/-
  The program's Decode of a box.
-/
import Derived.Test.YtclmlifhhfkagaaObBox
import Derived.Test.YtclmlifhhfkagaaObAlive
namespace Go.Proofs.Ytclmlifhhfkagaa
open Go.ChangeShapes Go.WideShapes Go.ChangeAt Go.RowKit
open Fl

theorem rdIt_tm {u : Tm 8} {l r : List UInt8} (h : rdIt nmK l = .ok (u, r)) : TmOk u := by
  by_cases hs : l.length < 9 ∨ l.length < 9 + lenI l
  · rw [rdIt_short hs] at h; cases h
  by_cases ht : (takeR (l.drop (9 + lenI l))).1 = 0
  · obtain ⟨v, m, h1, h2, h3⟩ := rdIt_ok (f := nmK) hs ht
    rw [h3] at h
    simp only [Except.ok.injEq, Prod.mk.injEq] at h
    obtain ⟨rfl, rfl⟩ := h
    refine ⟨?_, ?_⟩
    · show -9223372036854775808 ≤ nmK _ ∧ nmK _ ≤ 9223372036854775807
      unfold nmK wrap64
      omega
    · show ((l.drop 9).take (lenI l)).length ≤ _
      have hlt : 8 < l.length := by omega
      have f4 : lenI l = l[8].toNat := by unfold lenI; simp [hlt]
      have := l[8].toNat_lt
      rw [List.length_take]
      omega
  · rw [rdIt_err hs ht] at h; cases h
theorem iter_tm : ∀ (m : Nat) (a b : List (Tm 8)) (l r : List UInt8), iterE (stIt nmK) m (a, l) = .ok (b, r) → (∀ u ∈ a, TmOk u) → (∀ u ∈ b, TmOk u) ∧ b.length = a.length + m
  | 0, a, b, l, r, h, ha => by
    simp only [iterE, Except.ok.injEq, Prod.mk.injEq] at h
    obtain ⟨rfl, rfl⟩ := h
    exact ⟨ha, rfl⟩
  | m + 1, a, b, l, r, h, ha => by
    cases h1 : rdIt nmK l with
    | error e => simp [iterE, stIt_err h1] at h
    | ok q =>
      obtain ⟨t, r1⟩ := q
      simp only [iterE, stIt_ok h1] at h
      obtain ⟨h2, h3⟩ := iter_tm m _ _ _ _ h (fun u hu => by
        rcases List.mem_append.1 hu with hu | hu
        · exact ha u hu
        · rw [List.mem_singleton.1 hu]; exact rdIt_tm h1)
      exact ⟨h2, by rw [h3]; simp; omega⟩

/-- What Decode leaves behind its reader, in its result's variable. -/
theorem dec_out {w W1 W : World} {p R : Nat} {v : Value} {its : List (Tm 8)} {H : Nat → Prop} (hg : W1.grownBy W (some p)) (hW : Below w.heap.size w W1) (hp : w.heap.size ≤ p) (hR : w.heap.size ≤ R) (hR1 : R < W1.heap.size) (ho : OwnR (shT 8) W v its H) (hH : ∀ b, H b → W1.heap.size ≤ b ∧ b < W.heap.size) (v0 v1 : Value) :
    CopyInv (shT 8) w ((W.setCell ⟨R, 0, none⟩ v0).setCell ⟨R, 1, none⟩ v1) v its H := by
  have hb : Below w.heap.size w W := ⟨hg.os.trans hW.os, hg.tape.trans hW.tape, hg.output.trans hW.output, by have := hg.size; have := hW.size; omega, fun k hk => (hg.block k (by have := hW.size; omega) (fun e => by cases e; omega)).trans (hW.block k hk)⟩
  have hs := hW.size
  refine ⟨ho.same fun b hb' => set2_other _ _ (by have := (hH b hb').1; omega), fun b hb' => ⟨by have := (hH b hb').1; omega, by have := (hH b hb').2; simpa [World.setCell] using this⟩, ?_⟩
  exact (hb.setCell (p := ⟨R, 0, none⟩) hR v0).setCell (p := ⟨R, 1, none⟩) hR v1

set_option maxRecDepth 100000 in
set_option maxHeartbeats 3200000 in
theorem bdecode_any (a : Option Addr) (c : Nat) (x : List UInt8) (w : World) (ho : Oct w a c x) :
    Calls Try.prog 8 #[.slice a x.length c] w (BoxPost w (decB nmK x)) := by
  have B0 : Hid (Below w.heap.size w ((w.alloc (.cells #[.int .i64 0, .slice none 0 0] 26)).alloc (.cells #[.slice a x.length c, .int .i64 0] 60))) := below_two _ _ _
  have X0 : Hid (((w.alloc (.cells #[.int .i64 0, .slice none 0 0] 26)).alloc (.cells #[.slice a x.length c, .int .i64 0] 60)).heap[w.heap.size]? = some (.cells #[.int .i64 0, .slice none 0 0] 26 (0, 0))) := (Below.heap_alloc _ _ _ (by simp)).trans (heap_alloc_new _ _)
  have R0 : Hid (RdO ((w.alloc (.cells #[.int .i64 0, .slice none 0 0] 26)).alloc (.cells #[.slice a x.length c, .int .i64 0] 60)) (w.heap.size + 1) a c x 0) := by
    refine ⟨heap_new2 _ _ _, ho.below B0.out, fun hl ad e => ?_⟩
    obtain ⟨b, off, e', hc⟩ := ho.1 0 x[0] (by simp [hl])
    rw [e] at e'
    simp only [Option.some.injEq] at e'
    subst e'
    have := lt_of_cell hc
    simp only at this ⊢
    omega
  clear ho
  go_enter Try.func8, Try.ntmps8
  go_wp2_with fail
  refine (obox_any _ a c x _ R0.out).mono ?_
  have hsz : ((w.alloc (.cells #[.int .i64 0, .slice none 0 0] 26)).alloc (.cells #[.slice a x.length c, .int .i64 0] 60)).heap.size = w.heap.size + 2 := by simp
  generalize (w.alloc (.cells #[.int .i64 0, .slice none 0 0] 26)).alloc (.cells #[.slice a x.length c, .int .i64 0] 60) = W1 at *
  rintro e w2 ⟨hg, L, v, its, H, er, rfl, hO, hH, r, ra, rc, hr, hbad, hgood⟩
  obtain ⟨va, vc, rfl⟩ := hO.shape
  have HG : Hid (W1.grownBy w2 (some (w.heap.size + 1))) := hg
  have HO : Hid (OwnR (shT 8) w2 (.slice va its.length vc) its H) := hO
  have HH : Hid (∀ b, H b → W1.heap.size ≤ b ∧ b < w2.heap.size) := hH
  have HR : Hid (RdO w2 (w.heap.size + 1) ra rc r er) := hr
  have HBAD : Hid (er ≠ 0 → (decB nmK x).1 = er) := hbad
  have HGOOD : Hid (er = 0 → ¬ x.length < 10 ∧ ¬ 256 < cntB x ∧ L = nmK (x.take 8) ∧ iterE (stIt nmK) (cntB x) ([], x.drop 10) = .ok (its, r)) := hgood
  have X2 : Hid (w2.heap[w.heap.size]? = some (.cells #[.int .i64 0, .slice none 0 0] 26 (0, 0))) := (hg.block _ (by omega) (fun e => by have := Option.some.inj e; omega)).trans X0.out
  have B2 : Hid (Below w.heap.size w w2) := by
    have hW := B0.out
    exact ⟨hg.os.trans hW.os, hg.tape.trans hW.tape, hg.output.trans hW.output, by have := hg.size; have := hW.size; omega, fun k hk => (hg.block k (by have := hW.size; omega) (fun e => by cases e; omega)).trans (hW.block k hk)⟩
  clear hg hO hH hr hbad hgood
  obtain ⟨x0, x1, f0, f1⟩ := rdo_cells HR.out.1
  obtain ⟨y0, yf0⟩ := cell_of X2.out 0
  obtain ⟨y1, yf1⟩ := cell_of X2.out 1
  simp only [List.getElem?_toArray, List.getElem?_cons_zero, List.getElem?_cons_succ] at y0 y1
  have ER : Hid (∀ (w' : World) (e : Int), Below w.heap.size w w' → (decB nmK x).1 = e → e ≠ 0 → BoxPost w (decB nmK x) (.returned (.tuple #[.agg #[.int .i64 0, .slice none 0 0], .int .i64 e])) w') := fun w' e hb h1 h2 => by
    have h3 := decB_err (f := nmK) (x := x) (by rw [h1]; exact h2)
    have h4 : decB nmK x = (e, 0, []) := Prod.ext h1 h3
    rw [h4]
    exact ⟨_, _, rfl, CopyInv.none _ hb⟩
  by_cases he : er = 0
  · subst he
    obtain ⟨k1, k2, k3, k4⟩ := HGOOD.out rfl
    have hlen : its.length = cntB x := by have := (iter_tm _ _ _ _ _ k4 (fun u hu => by simp at hu)).2; simpa using this
    have HTM : Hid (∀ u ∈ its, TmOk u) := (iter_tm _ _ _ _ _ k4 (fun u hu => by simp at hu)).1
    have HE : Hid (decB nmK x = if 0 < r.length then (23, 0, []) else if chkB L its = 0 then (0, L, its) else (9, 0, [])) := by
      show _ = _
      unfold decB
      rw [if_neg k1, if_neg k2, k4, ← k3]
    have hl256 : its.length ≤ 256 := by omega
    clear k1 k2 k3 k4 hlen
    by_cases hrl : 0 < r.length
    · have hrl' : (0 : Int) < (r.length : Int) := by omega
      have HE1 : Hid ((decB nmK x).1 = 23) := by show _ = _; rw [HE.out, if_pos hrl]
      have B3 : Hid (∀ ob, Below w.heap.size w (w2.alloc ob)) := fun ob => nxt B2.out (below_one _ _)
      obtain ⟨z0, z1, g0, g1⟩ := rdo_cells ((Below.heap_alloc w2 (.cells #[.int .i64 L, .slice va its.length vc] 26) _ (lt_of_block HR.out.1)).trans HR.out.1)
      obtain ⟨y2, yf2⟩ := cell_of ((Below.heap_alloc w2 (.cells #[.int .i64 L, .slice va its.length vc] 26) _ (lt_of_block X2.out)).trans X2.out) 0
      obtain ⟨y3, yf3⟩ := cell_of ((Below.heap_alloc w2 (.cells #[.int .i64 L, .slice va its.length vc] 26) _ (lt_of_block X2.out)).trans X2.out) 1
      simp only [List.getElem?_toArray, List.getElem?_cons_zero, List.getElem?_cons_succ] at y2 y3
      go_wp2_with fail
      refine bodyPost_ret (v := .tuple #[.agg #[.int .i64 0, .slice none 0 0], .int .i64 23]) (by simp [results, Try.results8, go_sem, y2, y3]) rfl ?_
      exact ER.out _ 23 (((B3.out _).setCell (p := ⟨w.heap.size, 0, none⟩) (Nat.le_refl _) _).setCell (p := ⟨w.heap.size, 1, none⟩) (Nat.le_refl _) _) HE1.out (by decide)
    · have hrl' : ¬ (0 : Int) < (r.length : Int) := by omega
      have HT : Hid (TIs w2 8 va vc its) := by
        obtain ⟨ia, ic, e, h⟩ := OwnR.tis HO.out (by omega) HTM.out
        simp only [Value.slice.injEq, true_and] at e
        obtain ⟨rfl, rfl⟩ := e
        exact h
      rw [if_neg hrl] at HE
      have B3 : Hid (Below w2.heap.size w2 (w2.alloc (.cells #[.int .i64 L, .slice va its.length vc] 26))) := below_one _ _
      have Z3 : Hid ((w2.alloc (.cells #[.int .i64 L, .slice va its.length vc] 26)).heap[w2.heap.size]? = some (.cells #[.int .i64 L, .slice va its.length vc] 26 (0, 0))) := heap_alloc_new _ _
      obtain ⟨z0, z1, g0, g1⟩ := rdo_cells ((Below.heap_alloc w2 (.cells #[.int .i64 L, .slice va its.length vc] 26) _ (lt_of_block HR.out.1)).trans HR.out.1)
      have CC : Hid (Calls Try.prog 15 #[.agg #[.int .i64 L, .slice va its.length vc]] (w2.alloc (.cells #[.int .i64 L, .slice va its.length vc] 26)) _) := bcheck_any L its va vc _ (HT.out.below B3.out)
      go_wp2_with fail
      refine CC.out.mono ?_
      generalize w2.alloc (.cells #[.int .i64 L, .slice va its.length vc] 26) = w3 at *
      rintro e w4 ⟨rfl, hb4⟩
      have Z4 : Hid (w4.heap[w2.heap.size]? = some (.cells #[.int .i64 L, .slice va its.length vc] 26 (0, 0))) := (hb4.block _ (lt_of_block Z3.out)).trans Z3.out
      have B4 : Hid (Below w2.heap.size w2 w4) := nxt B3.out hb4
      have X4 : Hid (w4.heap[w.heap.size]? = some (.cells #[.int .i64 0, .slice none 0 0] 26 (0, 0))) := (B4.out.block _ (lt_of_block X2.out)).trans X2.out
      have hlt2 : w.heap.size < w2.heap.size := lt_of_block X2.out
      have hne1 : ¬ w.heap.size = w2.heap.size := by omega
      have hne2 : ¬ w2.heap.size = w.heap.size := by omega
      clear x0 x1 f0 f1 y0 y1 yf0 yf1 z0 z1 g0 g1 hb4 CC
      obtain ⟨y0, yf0⟩ := cell_of X4.out 0
      obtain ⟨y1, yf1⟩ := cell_of X4.out 1
      obtain ⟨z0, -⟩ := cell_of Z4.out 0
      obtain ⟨z1, -⟩ := cell_of Z4.out 1
      simp only [List.getElem?_toArray, List.getElem?_cons_zero, List.getElem?_cons_succ] at y0 y1 z0 z1
      by_cases hc : chkB L its = 0
      · rw [if_pos hc] at HE
        rw [hc]
        clear hc
        go_wp2_with fail
        refine bodyPost_ret (v := .tuple #[.agg #[.int .i64 L, .slice va its.length vc], .int .i64 0]) (by simp [results, Try.results8, go_sem, y0, y1]) rfl ?_
        rw [HE.out]
        refine ⟨_, H, rfl, ?_⟩
        have hgB : W1.grownBy w4 (some (w.heap.size + 1)) := grown_trans HG.out (grown_of_below B4.out)
        exact dec_out hgB B0.out (by omega) (Nat.le_refl _) (by omega) (HO.out.same fun b hb => B4.out.block b (HH.out b hb).2) (fun b hb => ⟨(HH.out b hb).1, by have := (HH.out b hb).2; have := B4.out.size; omega⟩) _ _
      · rw [if_neg hc] at HE
        have h9 : chkB L its = 9 := (chkB_cases L its).resolve_left hc
        rw [h9]
        clear hc h9
        go_wp2_with fail
        refine bodyPost_ret (v := .tuple #[.agg #[.int .i64 0, .slice none 0 0], .int .i64 9]) (by simp [results, Try.results8, go_sem, y0, y1]) rfl ?_
        exact ER.out _ 9 (((nxt B2.out B4.out).setCell (p := ⟨w.heap.size, 0, none⟩) (Nat.le_refl _) _).setCell (p := ⟨w.heap.size, 1, none⟩) (Nat.le_refl _) _) (by rw [HE.out]) (by decide)
  · have HE1 : Hid ((decB nmK x).1 = er) := HBAD.out he
    have HE0 : Hid (er ≠ 0) := he
    have hd1 : (er == 0) = false := by simpa using he
    have hd2 : (er != 0) = true := by simpa using he
    have B3 : Hid (Below w.heap.size w (w2.alloc (.cells #[.int .i64 L, .slice va its.length vc] 26))) := nxt B2.out (below_one _ _)
    obtain ⟨z0, z1, g0, g1⟩ := rdo_cells ((Below.heap_alloc w2 (.cells #[.int .i64 L, .slice va its.length vc] 26) _ (lt_of_block HR.out.1)).trans HR.out.1)
    obtain ⟨y2, yf2⟩ := cell_of ((Below.heap_alloc w2 (.cells #[.int .i64 L, .slice va its.length vc] 26) _ (lt_of_block X2.out)).trans X2.out) 0
    obtain ⟨y3, yf3⟩ := cell_of ((Below.heap_alloc w2 (.cells #[.int .i64 L, .slice va its.length vc] 26) _ (lt_of_block X2.out)).trans X2.out) 1
    simp only [List.getElem?_toArray, List.getElem?_cons_zero, List.getElem?_cons_succ] at y2 y3
    clear he
    go_wp2_with fail
    generalize w2.alloc (.cells #[.int .i64 L, .slice va its.length vc] 26) = w3 at *
    have z1d : w3.drew.cell? ⟨w.heap.size + 1, 1, none⟩ = _ := z1
    have y2d : w3.drew.cell? ⟨w.heap.size, 0, none⟩ = _ := y2
    have y3d : w3.drew.cell? ⟨w.heap.size, 1, none⟩ = _ := y3
    have yf2d : w3.drew.frozen? ⟨w.heap.size, 0, none⟩ = _ := yf2
    have yf3d : w3.drew.frozen? ⟨w.heap.size, 1, none⟩ = _ := yf3
    go_region_law fail
    all_goals
    go_wp2_with fail
    refine bodyPost_ret (v := .tuple #[.agg #[.int .i64 0, .slice none 0 0], .int .i64 er]) (by simp [results, Try.results8, go_sem, y2, y3]) rfl ?_
    exact ER.out _ er (((B3.out).drew.setCell (p := ⟨w.heap.size, 0, none⟩) (Nat.le_refl _) _).setCell (p := ⟨w.heap.size, 1, none⟩) (Nat.le_refl _) _) HE1.out HE0.out
end Go.Proofs.Ytclmlifhhfkagaa
