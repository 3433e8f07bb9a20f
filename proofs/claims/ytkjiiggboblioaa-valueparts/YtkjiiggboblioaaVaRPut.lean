/-
  The page's put: an item that is there; what is refused.
-/
import Derived.Test.YtkjiiggboblioaaJ5
import Derived.Test.YtkjiiggboblioaaVaSet
namespace Go.Proofs.Ytkjiiggboblioaa
open Go.ChangeShapes Go.WideShapes Go.ChangeAt Go.RowKit
open Fl

/-- What put answers. -/
def PutPost {n : Nat} (w : World) (F Fx : Nat → Prop) (r : Int × V (n + 1)) (e : Ending) (w' : World) : Prop :=
  ∃ y, e = .returned (.tuple #[y, .int .i64 r.1]) ∧ Kept F w w' ∧ (r.1 = 0 → ∃ F', Own w' (n + 1) y r.2 F' ∧ ∀ b, F' b → (F b ∨ Fx b ∨ w.heap.size ≤ b) ∧ b < w'.heap.size) ∧ (r.1 ≠ 0 → y = mk 0 0 ⟨#[]⟩ none 0 0 none 0 0)

/-- Four boxes, and what was there. -/
structure Four (w w' : World) (a b c d : Obj) : Prop where
  one : w'.heap[w.heap.size]? = some a
  two : w'.heap[w.heap.size + 1]? = some b
  three : w'.heap[w.heap.size + 1 + 1]? = some c
  four : w'.heap[w.heap.size + 1 + 1 + 1]? = some d
theorem Four.below {w w' w'' : World} {a b c d : Obj} {B : Nat} (h : Four w w' a b c d) (hb : Below B w' w'') (hB : w.heap.size + 3 < B) : Four w w'' a b c d :=
  ⟨(hb.block _ (by omega)).trans h.1, (hb.block _ (by omega)).trans h.2, (hb.block _ (by omega)).trans h.3, (hb.block _ (by omega)).trans h.4⟩
theorem four_new (w : World) (a b c d : Obj) : Four w ((((w.alloc a).alloc b).alloc c).alloc d) a b c d ∧ Below w.heap.size w ((((w.alloc a).alloc b).alloc c).alloc d) ∧ ((((w.alloc a).alloc b).alloc c).alloc d).heap.size = w.heap.size + 4 := by
  have e : ∀ (u : World) (o : Obj), (u.alloc o).heap.size = u.heap.size + 1 := fun u o => by simp
  refine ⟨⟨?_, ?_, ?_, ?_⟩, ?_, by simp only [e]⟩
  · rw [Below.heap_alloc _ _ _ (by simp only [e]; omega), Below.heap_alloc _ _ _ (by simp only [e]; omega), Below.heap_alloc _ _ _ (by simp only [e]; omega)]
    exact heap_alloc_new _ _
  · rw [Below.heap_alloc _ _ _ (by simp only [e]; omega), Below.heap_alloc _ _ _ (by simp only [e]; omega), ← e w a]
    exact heap_alloc_new _ _
  · rw [Below.heap_alloc _ _ _ (by simp only [e]; omega), ← e w a, ← e (w.alloc a) b]
    exact heap_alloc_new _ _
  · rw [← e w a, ← e (w.alloc a) b, ← e ((w.alloc a).alloc b) c]
    exact heap_alloc_new _ _
  · exact ((((Below.refl _ _).alloc (Nat.le_refl _) a).alloc (by simp) b).alloc (by simp; omega) c).alloc (by simp; omega) d

theorem Kept.grown {F : Nat → Prop} {w w' w2 : World} (h : Kept F w w') (hb : Below w'.heap.size w' w2) : Kept F w w2 := h.trans (Kept.of_below hb)

/-- A block that was not there yet may be written. -/
theorem Kept.fresh {F : Nat → Prop} {a b : World} (h : Kept F a b) {g o : Nat} (v : Value) (hg : a.heap.size ≤ g) : Kept F a (b.setCell ⟨g, o, none⟩ v) :=
  ⟨h.os, h.tape, h.output, by simpa [World.setCell] using h.size, fun j hj hn => (Below.heap_setCell _ _ _ _ (by show j ≠ g; omega)).trans (h.block j hj hn)⟩

/-- What put answers, stored in its result's box. -/
theorem put_done {n : Nat} {w W : World} {F Fx : Nat → Prop} {r : V (n + 1)} {c0 c1 c2 c3 c4 : Value} {F' : Nat → Prop} (hk : Kept F w W) (ho : Own W (n + 1) (.agg #[c0, c1, c2, c3, c4]) r F') (hF' : ∀ b, F' b → (F b ∨ Fx b ∨ w.heap.size + 4 ≤ b) ∧ b < W.heap.size) (hF : ∀ b, F b ∨ Fx b → b < w.heap.size) :
    PutPost (n := n) w F Fx (0, r) (.returned (.tuple #[.agg #[c0, c1, c2, c3, c4], .int .i64 0])) (put5 W (w.heap.size + 1 + 1 + 1) 0 c0 c1 c2 c3 c4) := by
  have ne : ∀ b, F' b → b ≠ w.heap.size + 1 + 1 + 1 := fun b hb e => by
    rcases (hF' b hb).1 with q | q | q
    · have := hF b (Or.inl q); omega
    · have := hF b (Or.inr q); omega
    · omega
  refine ⟨_, rfl, ?_, fun _ => ⟨F', Own.same _ ho fun b hb => put5_other _ _ _ _ _ _ _ _ b (ne b hb), fun b hb => ⟨?_, by rw [put5_size]; exact (hF' b hb).2⟩⟩, fun h => absurd rfl h⟩
  · exact ((((hk.fresh _ (by omega)).fresh _ (by omega)).fresh _ (by omega)).fresh _ (by omega)).fresh _ (by omega)
  · rcases (hF' b hb).1 with q | q | q
    · exact Or.inl q
    · exact Or.inr (Or.inl q)
    · exact Or.inr (Or.inr (by omega))

/-- The same, an error. -/
theorem put_fail {n : Nat} {w W : World} {F Fx : Nat → Prop} {r : V (n + 1)} {e : Int} (he : e ≠ 0) (hk : Kept F w W) :
    PutPost (n := n) w F Fx (e, r) (.returned (.tuple #[mk 0 0 ⟨#[]⟩ none 0 0 none 0 0, .int .i64 e])) (put5 W (w.heap.size + 1 + 1 + 1) 0 (.int .i64 0) (.int .u64 0) (.string ⟨#[]⟩) (.slice none 0 0) (.slice none 0 0)) :=
  ⟨_, rfl, ((((hk.fresh _ (by omega)).fresh _ (by omega)).fresh _ (by omega)).fresh _ (by omega)).fresh _ (by omega), fun h => absurd h he, fun _ => rfl⟩

set_option maxRecDepth 100000 in
set_option maxHeartbeats 6400000 in
theorem rput_here {n : Nat} (k b : Int) (t : ByteArray) (ks : List ByteArray) (its : List (V n)) (s : St) (x : V n) (xv yv : Value) (F Fx : Nat → Prop) (w : World) (ho : Own w (n + 1) xv (k, b, t, ks, its) F) (hx : Own w n yv x Fx) (hF : ∀ b, F b → b < w.heap.size) (hFx : ∀ b, Fx b → b < w.heap.size ∧ ¬ F b)
    (hup : k = 5 → Up ks) (hsx : -9223372036854775808 ≤ s.2.2 ∧ s.2.2 ≤ 9223372036854775807) (h0 : (plc k ks its.length s).1 = 0) (hi : (plc k ks its.length s).2 < its.length) :
    Calls Try.prog 30 #[xv, .agg #[.bool s.1, .string s.2.1, .int .i64 s.2.2], yv] w (PutPost (n := n) w F Fx (0, (k, b, t, ks, its.set (plc k ks its.length s).2 x))) := by
  obtain ⟨ka, kc, gi, ic, y, G, u, rfl, hu, hat, hown, hGF, hFgi, hGgi, hput⟩ := own_item ho hi
  obtain ⟨k5, b5, t5, ka5, kl5, kc5, ia5, il5, ic5, rfl⟩ := Lay.shape n (Own.lay n hx)
  have hlay := Own.lay (n + 1) ho
  obtain ⟨ka', kc', ia', ic', hxe, hfit, nk, ni, hS, hI⟩ := hlay
  simp only [mk, Value.agg.injEq, Array.mk.injEq, List.cons.injEq, Value.slice.injEq, and_true, true_and] at hxe
  obtain ⟨⟨rfl, rfl⟩, ⟨rfl, rfl⟩⟩ := hxe
  have HPL : Hid (∀ W, Below w.heap.size w W → Calls Try.prog 16 #[mk k b t ka ks.length kc (some ⟨gi, 0, none⟩) its.length ic, .agg #[.bool s.1, .string s.2.1, .int .i64 s.2.2]] W fun e w' => e = .returned (.tuple #[.int .i64 (rplc (plc k ks its.length s)), .int .i64 (plc k ks its.length s).1]) ∧ Below W.heap.size W w') := fun W hb => place_any k b t ka kc (some ⟨gi, 0, none⟩) its.length ic ks s W hup (LayS.below hS hb) hfit.2.2.2.2.2.1 hsx hfit.2.2.2.2.2.2.2.2
  have hrp : rplc (plc k ks its.length s) = ((plc k ks its.length s).2 : Int) := by unfold rplc; rw [if_pos h0]
  rw [hrp, h0] at HPL
  generalize (plc k ks its.length s).2 = i at *
  have HAT : Hid (At w gi (i * 5) y) := hat
  have HOX : Hid (Own w n (mk k5 b5 t5 ka5 kl5 kc5 ia5 il5 ic5) x Fx) := hx
  have HPUT : Hid _ := hput
  have HIN : Hid ((∀ b, F b → b < w.heap.size) ∧ (∀ b, Fx b → b < w.heap.size ∧ ¬ F b) ∧ F gi) := ⟨hF, hFx, hFgi⟩
  obtain ⟨q, key, ix⟩ := s
  have hgw : gi < w.heap.size := hF _ hFgi
  clear hat hx hput hF hFx hfit nk ni hS hI hu hown hGF hGgi hrp h0 hup hsx hFgi ho
  go_enter Try.func30, Try.ntmps30
  go_wp2_with fail
  obtain ⟨FN, BN, SN⟩ := four_new w (.cells #[.int .i64 k, .int .u64 b, .string t, .slice ka ks.length kc, .slice (some ⟨gi, 0, none⟩) its.length ic] 26) (.cells #[.bool q, .string key, .int .i64 ix] 42) (.cells #[.int .i64 k5, .int .u64 b5, .string t5, .slice ka5 kl5 kc5, .slice ia5 il5 ic5] 26) (.cells #[.int .i64 0, .int .u64 0, .string ⟨#[]⟩, .slice none 0 0, .slice none 0 0] 26)
  refine (HPL.out _ BN).mono ?_
  rintro e w1 ⟨rfl, hb1⟩
  have hs1 := hb1.size
  rw [SN] at hs1
  have F1 := FN.below hb1 (by rw [SN]; omega)
  have B1 := nxt BN hb1
  clear FN BN SN hb1 HPL
  obtain ⟨cur, c0, c1, c2, c3, c4, hc, hy, z0, z1, z2, z3, z4⟩ := HAT.out
  rw [← B1.block _ hgw] at hc
  have H5 : i * 5 + 4 < cur.size := by
    by_cases h : i * 5 + 4 < cur.size
    · exact h
    · simp [h] at z4
  have FB : Hid (Four _ _ _ _ _ _) := F1
  have B1H : Hid (Below w.heap.size w w1) := B1
  have HC : Hid (w1.heap[gi]? = some (.cells cur 26 (0, 0)) ∧ i * 5 + 4 < cur.size) := ⟨hc, H5⟩
  obtain ⟨x0, x1, x2, x3, x4, y0, y1, y2, y3, y4⟩ := box_cells F1.one
  obtain ⟨u0, u1, u2, u3, u4, v0, v1, v2, v3, v4⟩ := box_cells F1.three
  obtain ⟨a0, z0⟩ := done_cell ⟨cur, hc, H5⟩ 0 (by omega)
  rw [Nat.add_zero] at z0
  obtain ⟨a1, z1⟩ := done_cell ⟨cur, hc, H5⟩ 1 (by omega)
  obtain ⟨a2, z2⟩ := done_cell ⟨cur, hc, H5⟩ 2 (by omega)
  obtain ⟨a3, z3⟩ := done_cell ⟨cur, hc, H5⟩ 3 (by omega)
  obtain ⟨a4, z4⟩ := done_cell ⟨cur, hc, H5⟩ 4 (by omega)
  have f0 := done_free ⟨cur, hc, H5⟩ 0
  rw [Nat.add_zero] at f0
  have f1 := done_free ⟨cur, hc, H5⟩ 1
  have f2 := done_free ⟨cur, hc, H5⟩ 2
  have f3 := done_free ⟨cur, hc, H5⟩ 3
  have f4 := done_free ⟨cur, hc, H5⟩ 4
  have hi' : (i : Int) < (its.length : Int) := by omega
  clear F1 B1 hc H5 HAT
  go_upto_region 4 with fail
  have K6 : Hid (Kept F w (put5 w1 gi (i * 5) (.int .i64 k5) (.int .u64 b5) (.string t5) (.slice ka5 kl5 kc5) (.slice ia5 il5 ic5))) := (((((Kept.of_below B1H.out).setCell _ HIN.out.2.2).setCell _ HIN.out.2.2).setCell _ HIN.out.2.2).setCell _ HIN.out.2.2).setCell _ HIN.out.2.2
  have O6 : Hid (Own (put5 w1 gi (i * 5) (.int .i64 k5) (.int .u64 b5) (.string t5) (.slice ka5 kl5 kc5) (.slice ia5 il5 ic5)) (n + 1) (mk k b t ka ks.length kc (some ⟨gi, 0, none⟩) its.length ic) (k, b, t, ks, its.set i x) (fun b => F b ∨ Fx b)) := by
    have hch := put5_ch (F := fun _ => False) (w := w1) (g := gi) (o := i * 5) (.int .i64 k5) (.int .u64 b5) (.string t5) (.slice ka5 kl5 kc5) (.slice ia5 il5 ic5)
    refine HPUT.out _ _ x Fx (fun j hj _ hn => (put5_other _ _ _ _ _ _ _ _ j hn).trans (B1H.out.block j (HIN.out.1 j hj))) (fun cu hcu => hch.here cu ((B1H.out.block _ hgw).trans hcu)) (put5_at HC.out.1 HC.out.2 _ _ _ _ _) (Own.same n HOX.out fun j hj => ?_) (fun j hj => Or.inr (HIN.out.2.1 j hj).2)
    exact (put5_other _ _ _ _ _ _ _ _ j (fun e => (HIN.out.2.1 j hj).2 (by rw [e]; exact HIN.out.2.2))).trans (B1H.out.block j (HIN.out.2.1 j hj).1)
  have F6 : Hid (Four w (put5 w1 gi (i * 5) (.int .i64 k5) (.int .u64 b5) (.string t5) (.slice ka5 kl5 kc5) (.slice ia5 il5 ic5)) _ _ _ _) := ⟨(put5_other _ _ _ _ _ _ _ _ _ (by omega)).trans FB.out.one, (put5_other _ _ _ _ _ _ _ _ _ (by omega)).trans FB.out.two, (put5_other _ _ _ _ _ _ _ _ _ (by omega)).trans FB.out.three, (put5_other _ _ _ _ _ _ _ _ _ (by omega)).trans FB.out.four⟩
  have S6 := put5_size w1 gi (i * 5) (.int .i64 k5) (.int .u64 b5) (.string t5) (.slice ka5 kl5 kc5) (.slice ia5 il5 ic5)
  unfold put5 at K6 O6 F6 S6
  clear x0 x1 x2 x3 x4 y0 y1 y2 y3 y4 u0 u1 u2 u3 u4 v0 v1 v2 v3 v4 z0 z1 z2 z3 z4 f0 f1 f2 f3 f4 HC HPUT FB
  generalize ((((w1.setCell ⟨gi, i * 5, none⟩ (.int .i64 k5)).setCell ⟨gi, i * 5 + 1, none⟩ (.int .u64 b5)).setCell ⟨gi, i * 5 + 2, none⟩ (.string t5)).setCell ⟨gi, i * 5 + 3, none⟩ (.slice ka5 kl5 kc5)).setCell ⟨gi, i * 5 + 4, none⟩ (.slice ia5 il5 ic5) = W6 at *
  obtain ⟨x0, x1, x2, x3, x4, -⟩ := box_cells F6.out.one
  obtain ⟨u0, u1, u2, u3, u4, v0, v1, v2, v3, v4⟩ := box_cells F6.out.four
  go_wp2_with fail
  refine bodyPost_ret (v := .tuple #[mk k b t ka ks.length kc (some ⟨gi, 0, none⟩) its.length ic, .int .i64 0]) (by simp [results, Try.results30, go_sem, u0, u1, u2, u3, u4]) rfl ?_
  refine put_done K6.out O6.out (fun j hj => ?_) (fun j hj => ?_)
  · rcases hj with hj | hj
    · exact ⟨Or.inl hj, by have := HIN.out.1 j hj; omega⟩
    · exact ⟨Or.inr (Or.inl hj), by have := (HIN.out.2.1 j hj).1; omega⟩
  · rcases hj with hj | hj
    · exact HIN.out.1 j hj
    · exact (HIN.out.2.1 j hj).1
end Go.Proofs.Ytkjiiggboblioaa
