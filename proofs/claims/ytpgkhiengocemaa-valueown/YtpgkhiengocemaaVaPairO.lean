/-
  Two copies laid in two boxes, as in VaPair, and told besides: what they are made of lies below the world's end.
-/
import Derived.Test.YtpgkhiengocemaaVaPair
namespace Go.Proofs.Ytpgkhiengocemaa
open Go.ChangeShapes Go.WideShapes Go.ChangeAt Go.RowKit
open Fl

set_option maxRecDepth 100000 in
theorem pair_regionO {id : Nat} {n : Nat} {u v : V n} {x y : Value} {A B d0 d1 d2 d3 p q s0 s1 : Nat} {pos : String} {w : World} {Q : Exit → Act → World → Prop} (fr : Value → Value → Value → Value → Value → Value → Act)
    (i0 : ∀ v0 v1 v2 v3 v5 v6 z, (fr v0 v1 v2 v3 v5 v6).put (some d0) z = fr z v1 v2 v3 v5 v6) (i1 : ∀ v0 v1 v2 v3 v5 v6 z, (fr v0 v1 v2 v3 v5 v6).put (some d1) z = fr v0 z v2 v3 v5 v6)
    (i2 : ∀ v0 v1 v2 v3 v5 v6 z, (fr v0 v1 v2 v3 v5 v6).put (some d2) z = fr v0 v1 z v3 v5 v6) (i3 : ∀ v0 v1 v2 v3 v5 v6 z, (fr v0 v1 v2 v3 v5 v6).put (some d3) z = fr v0 v1 v2 z v5 v6)
    (i5 : ∀ v0 v1 v2 v3 v5 v6 z, (fr v0 v1 v2 v3 v5 v6).put (some p) z = fr v0 v1 v2 v3 z v6) (i6 : ∀ v0 v1 v2 v3 v5 v6 z, (fr v0 v1 v2 v3 v5 v6).put (some q) z = fr v0 v1 v2 v3 v5 z)
    (es0 : ∀ v0 v1 v2 v3 v5 v6, (fr v0 v1 v2 v3 v5 v6).eval (.tmp s0) = .pointer (some ⟨A, 0, none⟩)) (es1 : ∀ v0 v1 v2 v3 v5 v6, (fr v0 v1 v2 v3 v5 v6).eval (.tmp s1) = .pointer (some ⟨B, 0, none⟩))
    (ed0 : ∀ v0 v1 v2 v3 v5 v6, (fr v0 v1 v2 v3 v5 v6).eval (.tmp d0) = v0) (ed1 : ∀ v0 v1 v2 v3 v5 v6, (fr v0 v1 v2 v3 v5 v6).eval (.tmp d1) = v1)
    (ed2 : ∀ v0 v1 v2 v3 v5 v6, (fr v0 v1 v2 v3 v5 v6).eval (.tmp d2) = v2) (ed3 : ∀ v0 v1 v2 v3 v5 v6, (fr v0 v1 v2 v3 v5 v6).eval (.tmp d3) = v3)
    (ep : ∀ v0 v1 v2 v3 v5 v6, (fr v0 v1 v2 v3 v5 v6).eval (.tmp p) = v5) (eq : ∀ v0 v1 v2 v3 v5 v6, (fr v0 v1 v2 v3 v5 v6).eval (.tmp q) = v6)
    (hx : Lay w n x u) (hy : Lay w n y v) (hA : w.heap[A]? = some (box x)) (hB : w.heap[B]? = some (box y))
    (h : ∀ (y3 y4 : Value) (g5 g6 : Nat) (F3 F4 : Nat → Prop) (wx : World), Own wx n y3 u F3 → Own wx n y4 v F4 → wx.heap[g5]? = some (box y3) → wx.heap[g6]? = some (box y4) →
      (∀ b, F3 b → w.heap.size ≤ b ∧ b ≠ g5 ∧ b ≠ g6 ∧ ¬ F4 b ∧ b < wx.heap.size) → (∀ b, F4 b → w.heap.size ≤ b ∧ b ≠ g5 ∧ b ≠ g6 ∧ b < wx.heap.size) → w.heap.size ≤ g5 → w.heap.size ≤ g6 → g5 ≠ g6 → Below w.heap.size w wx →
      Q .normal (fr x y3 y y4 (.pointer (some ⟨g5, 0, none⟩)) (.pointer (some ⟨g6, 0, none⟩))) wx) :
    (Code.region id (op8 d0 d1 d2 d3 p q s0 s1 pos) true).wp Try.prog Q (fr undef undef undef undef undef undef) w := by
  refine wp_region_any (by kernel_rfl) ?_
  refine wpAny_inv (ops := op8 d0 d1 d2 d3 p q s0 s1 pos) (J := PJ u v x y fr w) (fun l a wr hJ => hJ.1) (fun l a wr i hJ hi => pair_step fr i0 i1 i2 i3 i5 i6 es0 es1 ed0 ed1 ed2 ed3 ep eq hx hy hA hB l a wr i hJ hi) ?_ _ _ _ _ ?_ ?_
  · rintro l a wr ⟨hz, v0, v1, v2, v3, v5, v6, F3, F4, g5, g6, rfl, hb, h0, h2, h1, h3, hF3, hF4, hdis, h4, h5, h45, h61, h73⟩ hr
    obtain ⟨l0, l1, l2, l3, l4, l5, l6, l7⟩ := all_listed hz hr
    obtain ⟨r1, r2, r3, r4, r5⟩ := h4 l4
    obtain ⟨q1, q2, q3, q4, q5⟩ := h5 l5
    rw [if_pos l6] at r5
    rw [if_pos l7] at q5
    have e0 := h0 l0
    have e2 := h2 l2
    subst e0 e2 r1 q1
    exact h _ _ _ _ F3 F4 wr (h1 l1) (h3 l3) r5 q5 (fun b hF => ⟨(hF3 b hF).1, fun e => r3 (by rw [← e]; exact hF), fun e => q3 (by rw [← e]; exact hF), hdis b hF, (hF3 b hF).2⟩)
      (fun b hF => ⟨(hF4 b hF).1, fun e => r4 (by rw [← e]; exact hF), fun e => q4 (by rw [← e]; exact hF), (hF4 b hF).2⟩) r2 q2 (h45 l4 l5) hb
  · refine ⟨rfl, undef, undef, undef, undef, undef, undef, fun _ => False, fun _ => False, 0, 0, rfl, (Below.refl _ _).drew, ?_⟩
    have none8 : ∀ j, (Array.replicate (op8 d0 d1 d2 d3 p q s0 s1 pos).size false).getD j false = false := by
      intro j
      rw [Array.getD_eq_getD_getElem?]
      by_cases hj : j < (Array.replicate (op8 d0 d1 d2 d3 p q s0 s1 pos).size false).size
      · rw [Array.getElem?_eq_getElem hj]; simp
      · rw [Array.getElem?_eq_none (by omega)]; rfl
    simp only [none8]
    simp
  · exact Nat.le_refl 8
end Go.Proofs.Ytpgkhiengocemaa
