/-
  The page's Own, Next, Ack, Add.
-/
import Derived.Test.YtpeghhkhohnkiaaObOwn
namespace Go.Proofs.Ytpeghhkhohnkiaa
open Go.ChangeShapes Go.WideShapes Go.ChangeAt Go.RowKit

theorem PgInv.start {n : Nat} (W0 : World) (T : Nat) (L : Int) (h : W0.heap[T]? = some (.cells #[.int .i64 L, .slice none 0 0] 24 (0, 0))) : PgInv (n := n) W0 W0 T L (.slice none 0 0) [] (fun _ => False) :=
  ⟨OwnR.nil _ _, fun _ hb => hb.elim, Kept.refl _ _, h⟩

/-- The box's row, read out into the result's box. -/
theorem PgInv.out2 {n : Nat} {w W0 wr : World} {T R : Nat} {L : Int} {v : Value} {its : List (Tm n)} {H : Nat → Prop} (h : PgInv W0 wr T L v its H) (hb : Below w.heap.size w W0) (hT : w.heap.size ≤ T) (hR : w.heap.size ≤ R) (hR0 : R < W0.heap.size) (v0 v1 : Value) :
    CopyInv (shT n) w ((wr.setCell ⟨R, 0, none⟩ v0).setCell ⟨R, 1, none⟩ v1) v its H := by
  obtain ⟨a1, a2, a3, a4⟩ := h
  have hs := hb.size
  refine ⟨a1.same fun b hb => set2_other _ _ (by have := (a2 b hb).1; omega), fun b hb => ⟨by have := (a2 b hb).1; omega, by have := (a2 b hb).2; simpa [World.setCell] using this⟩, ?_⟩
  exact ((kept_below hb hT a3).setCell (p := ⟨R, 0, none⟩) hR v0).setCell (p := ⟨R, 1, none⟩) hR v1

theorem three24 (w : World) (x0 x1 y0 y1 z0 z1 : Value) (t : TypeId) : let W := ((w.alloc (.cells #[x0, x1] t)).alloc (.cells #[y0, y1] t)).alloc (.cells #[z0, z1] t)
    W.heap[w.heap.size]? = some (.cells #[x0, x1] t (0, 0)) ∧ W.heap[w.heap.size + 1]? = some (.cells #[y0, y1] t (0, 0)) ∧ W.heap[w.heap.size + 1 + 1]? = some (.cells #[z0, z1] t (0, 0)) ∧ Below w.heap.size w W := by
  refine ⟨?_, ?_, ?_, below_three _ _ _ _⟩
  · rw [Below.heap_alloc _ _ _ (by simp; omega), Below.heap_alloc _ _ _ (by simp)]
    exact heap_alloc_new _ _
  · rw [Below.heap_alloc _ _ _ (by simp)]
    exact heap_new2 _ _ _
  · have h := heap_alloc_new ((w.alloc (.cells #[x0, x1] t)).alloc (.cells #[y0, y1] t)) (.cells #[z0, z1] t)
    rw [show ((w.alloc (.cells #[x0, x1] t)).alloc (.cells #[y0, y1] t)).heap.size = w.heap.size + 1 + 1 by simp] at h
    exact h

/-- What the page's Own tells. -/
def ROwnPost {n : Nat} (w : World) (L : Int) (its : List (Tm n)) (e : Ending) (w' : World) : Prop := ∃ v H, e = .returned (.agg #[.int .i64 L, v]) ∧ CopyInv (shT n) w w' v its H

set_option maxRecDepth 100000 in
set_option maxHeartbeats 6400000 in
theorem rOwn_any {n : Nat} (L : Int) (its : List (Tm n)) (ia : Option Addr) (ic : Nat) (w : World) (hT : TIs w n ia ic its) : Calls Try.prog 39 #[.agg #[.int .i64 L, .slice ia its.length ic]] w (ROwnPost w L its) := by
  have HT : Hid (TIs w n ia ic its) := hT
  have hlen := hT.2.2.1
  clear hT
  obtain ⟨X0, Y0, Z0, B0⟩ := three24 w (.int .i64 L) (.slice ia its.length ic) (.int .i64 0) (.slice none 0 0) (.int .i64 L) (.slice none 0 0) 24
  have HX0 : Hid _ := X0
  have HY0 : Hid _ := Y0
  have HZ0 : Hid _ := Z0
  have HB0 : Hid _ := B0
  clear X0 Y0 Z0 B0
  go_enter Try.func39, Try.ntmps39
  go_wp2_with fail
  generalize ((w.alloc (.cells #[.int .i64 L, .slice ia its.length ic] 24)).alloc (.cells #[.int .i64 0, .slice none 0 0] 24)).alloc (.cells #[.int .i64 L, .slice none 0 0] 24) = W0 at *
  have HT0 : Hid (w.heap.size + 1 + 1 < W0.heap.size) := lt_of_block HZ0.out
  go_loopw [4] (fun i wr => ∃ (m : Nat) (v : Value) (H : Nat → Prop), m ≤ its.length ∧ i = .int .i64 m ∧ Hid (PgInv W0 wr (w.heap.size + 1 + 1) L v (its.take m) H)) (fun i _ => its.length - (intOf i).toNat)
  case atStart => exact ⟨0, _, fun _ => False, Nat.zero_le _, rfl, PgInv.start _ _ _ HZ0.out⟩
  case round =>
    obtain ⟨m, v, H, hm, rfl, HI⟩ := hrel
    obtain ⟨acc, hacc⟩ : ∃ acc, its.take m = acc := ⟨_, rfl⟩
    rw [hacc] at HI
    have HACC : Hid (its.take m = acc) := hacc
    clear hacc
    obtain ⟨va, vc, rfl⟩ := HI.out.1.shape
    have HBW : Hid (Below w.heap.size w wr) := kept_below HB0.out (by omega) HI.out.2.2.1
    have xk := (HI.out.2.2.1.block w.heap.size (by have := HT0.out; omega) (by omega)).trans HX0.out
    have yk := (HI.out.2.2.1.block (w.heap.size + 1) (by have := HT0.out; omega) (by omega)).trans HY0.out
    obtain ⟨x1, -⟩ := cell_of xk 1
    obtain ⟨t0, -⟩ := cell_of HI.out.2.2.2 0
    obtain ⟨t1, tf⟩ := cell_of HI.out.2.2.2 1
    obtain ⟨y0, yf0⟩ := cell_of yk 0
    obtain ⟨y1, yf1⟩ := cell_of yk 1
    simp only [List.getElem?_toArray, List.getElem?_cons_zero, List.getElem?_cons_succ] at x1 t0 t1 y0 y1
    clear xk yk
    by_cases hlt : m < its.length
    · obtain ⟨b, o, k, bb, t, ka, kl, kc, ja, jl, jc, rfl, q0, q1, q2, q3, q4, q5, q6, hl, -⟩ := (HT.out.below HBW.out).at m hlt
      have hm1 : (m : Int) < (its.length : Int) := by omega
      have HL : Hid (Lay wr n (mk k bb t ka kl kc ja jl jc) its[m].2.2) := hl
      have HTK : Hid (its.take (m + 1) = acc ++ [its[m]]) := by show _ = _; rw [List.take_succ_eq_append_getElem hlt, HACC.out]
      clear hl
      obtain ⟨⟨id, nm, u⟩, hu⟩ : ∃ u : Tm n, its[m] = u := ⟨_, rfl⟩
      rw [hu] at q0 q1 HL HTK
      simp only at q0 q1 HL
      clear hu
      have HLEN : Hid ((acc.length + 1) * 104 ≤ 140737488355328) := by show _ ≤ _; rw [← HACC.out, List.length_take]; omega
      have x1d : wr.drew.cell? ⟨w.heap.size, 1, none⟩ = _ := x1
      have t1d : wr.drew.cell? ⟨w.heap.size + 1 + 1, 1, none⟩ = _ := t1
      have q0d : wr.drew.cell? _ = _ := q0
      have q1d : wr.drew.cell? _ = _ := q1
      have q2d : wr.drew.cell? _ = _ := q2
      have q3d : wr.drew.cell? _ = _ := q3
      have q4d : wr.drew.cell? _ = _ := q4
      have q5d : wr.drew.cell? _ = _ := q5
      have q6d : wr.drew.cell? _ = _ := q6
      clear y0 y1 yf0 yf1 t0
      go_wp2_with fail
      go_region_law (first
        | (refine step_call1 rfl 42 (by intros; go_simp) _ _ rfl (.agg #[.int .i64 id, .string nm, .int .i64 k, .int .u64 bb, .string t, .slice ka kl kc, .slice ja jl jc]) (by first | (simp [Act.eval]; done) | simp [Act.eval, Act.put]) (fun y w' => OwnPost wr.drew id nm u y w') (pown_any id nm u k bb t ka kl kc ja jl jc _ (Lay.below n HL.out (Below.refl _ wr).drew)) ?_; intro y w1 hR; obtain ⟨k', b', t', ka', kl', kc', ja', jl', jc', F, rfl, ho, hF, hbel0⟩ := hR
           have hbel : Below wr.heap.size wr w1 := nxt (Below.refl _ wr).drew hbel0
           have t1w := keepc hbel _ _ t1
           have t1a : ∀ o, (w1.alloc o).cell? ⟨w.heap.size + 1 + 1, 1, none⟩ = _ := fun o => keepc (below_one w1 o) _ _ t1w
           have SD := PgInv.side HI.out hbel ho hF (.cells #[.int .i64 id, .string nm, .int .i64 k', .int .u64 b', .string t', .slice ka' kl' kc', .slice ja' jl' jc'] 70))
        | (refine step_pushT rfl _ _ rfl (.slice va (acc).length vc) (acc) H (by first | (simp [Act.eval]; done) | simp [Act.eval, Act.put]) SD.1 (id, nm, u) F (.int .i64 k') (.int .u64 b') (.string t') (.slice ka' kl' kc') (.slice ja' jl' jc') SD.2.1 SD.2.2.1 SD.2.2.2.1 SD.2.2.2.2 ⟨w1.heap.size, 0, none⟩ 1 (by first | (simp [Act.eval]; done) | simp [Act.eval, Act.put]) (fun j y hj => newCells w1 _ _ j y (by simpa using hj)) HLEN.out ?_; intro v' w5 q1 q2 q3 q4
           have NX := PgInv.next HI.out HT0.out hbel hF q1 q2 q3 q4
           obtain ⟨c5, f5⟩ := cell_of NX.2 1
           simp only [List.getElem?_toArray, List.getElem?_cons_zero, List.getElem?_cons_succ] at c5
           obtain ⟨av', cv', rfl⟩ := q1.shape))
      all_goals
        have hle : (acc ++ [(id, nm, u)]).length = acc.length + 1 := by simp
        have NX1 := NX.1
        rw [hle] at NX1
        have NX' : Hid _ := NX1
        clear NX1 NX hle
        go_wp2_with fail
        exact ⟨⟨m + 1, _, _, by omega, by go_num, by rw [HTK.out]; exact NX'.out⟩, by simp [intOf]; omega⟩
    · have hme : m = its.length := by omega
      subst hme
      have hacc := HACC.out
      rw [List.take_length] at hacc
      subst hacc
      clear HACC
      go_wp2_with fail
      refine bodyPost_ret (v := .agg #[.int .i64 L, .slice va its.length vc]) (by simp [results, Try.results39, go_sem, y0, y1]) rfl ?_
      exact ⟨_, H, rfl, PgInv.out2 HI.out HB0.out (by omega) (by omega) (by have := HT0.out; omega) _ _⟩
end Go.Proofs.Ytpeghhkhohnkiaa
