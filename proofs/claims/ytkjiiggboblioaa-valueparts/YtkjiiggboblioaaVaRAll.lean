/-
  The page's put: keys and items that are built anew, one behind the other.
-/
import Derived.Test.YtkjiiggboblioaaVaRPutI
namespace Go.Proofs.Ytkjiiggboblioaa
open Go.ChangeShapes Go.WideShapes Go.ChangeAt Go.RowKit
open Fl

/-- Keys so far and items so far, in rows of their own behind the four boxes; the items' own blocks are P's. -/
structure All (w W : World) (a b c d : Obj) {n : Nat} (kv : Value) (kacc : List ByteArray) (iv : Value) (iacc : List (V n)) (P : Nat → Prop) : Prop where
  below : Below w.heap.size w W
  four : Four w W a b c d
  size : w.heap.size + 4 ≤ W.heap.size
  keys : OwnK W kv kacc
  kb : ∀ g, kv.ownBlock = some g → w.heap.size + 4 ≤ g
  ib : ∀ g, iv.ownBlock = some g → w.heap.size + 4 ≤ g
  items : ∃ H, OwnL W n iv iacc H ∧ (∀ g, kv.ownBlock = some g → ¬ H g) ∧ ∀ g, H g → (P g ∨ w.heap.size + 4 ≤ g) ∧ g < W.heap.size

theorem Below.of_grown {M : Nat} {a b : World} {r : Option Nat} (h : a.grownBy b r) (hM : M ≤ a.heap.size) (hr : ∀ g, r = some g → M ≤ g) : Below M a b :=
  ⟨h.os, h.tape, h.output, h.size, fun j hj => h.block j (by omega) fun e => by have := hr j e.symm; omega⟩

variable {w W : World} {a b c d : Obj} {n : Nat} {kv : Value} {kacc : List ByteArray} {iv : Value} {iacc : List (V n)} {P : Nat → Prop}

theorem All.start (h1 : Below w.heap.size w W) (h2 : Four w W a b c d) (h3 : w.heap.size + 4 ≤ W.heap.size) : All (n := n) w W a b c d (.slice none 0 0) [] (.slice none 0 0) [] (fun _ => False) :=
  ⟨h1, h2, h3, OwnK.nil _, fun g h => by simp [Value.ownBlock] at h, fun g h => by simp [Value.ownBlock] at h, _, OwnL.nil _ _, fun _ _ h => h, fun _ h => h.elim⟩

theorem All.grow {W' : World} (h : All w W a b c d kv kacc iv iacc P) (hb : Below W.heap.size W W') : All w W' a b c d kv kacc iv iacc P := by
  obtain ⟨H, h1, h2, h3⟩ := h.items
  have hs := h.size
  refine ⟨nxt h.below hb, h.four.below hb (by omega), Nat.le_trans h.size hb.size, h.keys.same fun g hg => hb.block g (h.keys.lt g hg).2, h.kb, h.ib, H, h1.same fun g hg => hb.block g (h3 g hg).2, h2, fun g hg => ⟨(h3 g hg).1, Nat.lt_of_lt_of_le (h3 g hg).2 hb.size⟩⟩

theorem All.alloc (h : All w W a b c d kv kacc iv iacc P) (o : Obj) : All w (W.alloc o) a b c d kv kacc iv iacc P := h.grow (below_one _ _)

theorem All.klt (h : All w W a b c d kv kacc iv iacc P) : ∀ g, kv.ownBlock = some g → g < W.heap.size := fun g hg => (h.keys.lt g hg).2
theorem All.ilt (h : All w W a b c d kv kacc iv iacc P) : ∀ g, iv.ownBlock = some g → g < W.heap.size := fun g hg => by
  obtain ⟨H, h1, -⟩ := h.items
  exact (h1.lt g hg).2

theorem All.addK {W' : World} {kv' : Value} {key : ByteArray} (h : All w W a b c d kv kacc iv iacc P) (q1 : OwnK W' kv' (kacc ++ [key])) (q2 : W.grownBy W' kv.ownBlock) (q3 : kv'.ownBlock = kv.ownBlock ∨ ∀ g, kv'.ownBlock = some g → W.heap.size ≤ g) : All w W' a b c d kv' (kacc ++ [key]) iv iacc P := by
  obtain ⟨H, h1, h2, h3⟩ := h.items
  have hs := h.size
  have hb : Below (w.heap.size + 4) W W' := Below.of_grown q2 hs h.kb
  refine ⟨h.below.trans (hb.mono (by omega)), h.four.below hb (by omega), Nat.le_trans h.size hb.size, q1, ?_, h.ib, H, h1.same fun g hg => q2.block g (h3 g hg).2 (fun e => h2 g e.symm hg), ?_, fun g hg => ⟨(h3 g hg).1, Nat.lt_of_lt_of_le (h3 g hg).2 hb.size⟩⟩
  · intro g hg
    rcases q3 with e | e
    · exact h.kb g (by rw [← e]; exact hg)
    · have := e g hg; omega
  · intro g hg hH
    rcases q3 with e | e
    · exact h2 g (by rw [← e]; exact hg) hH
    · have := e g hg
      have := (h3 g hH).2
      omega

theorem All.push {W' : World} {iv' : Value} {u : V n} {Fu : Nat → Prop} {H : Nat → Prop} (h : All w W a b c d kv kacc iv iacc P) (hH : (∀ g, kv.ownBlock = some g → ¬ H g) ∧ ∀ g, H g → (P g ∨ w.heap.size + 4 ≤ g) ∧ g < W.heap.size) (hiH : ∀ g, iv.ownBlock = some g → H g) (hFu : ∀ g, Fu g → g < w.heap.size)
    (q1 : OwnL W' n iv' (iacc ++ [u]) (fun b => H b ∨ Fu b ∨ iv'.ownBlock = some b)) (q2 : W.grownBy W' iv.ownBlock) (q3 : iv'.ownBlock = iv.ownBlock ∨ ∀ g, iv'.ownBlock = some g → W.heap.size ≤ g) : All w W' a b c d kv kacc iv' (iacc ++ [u]) (fun g => P g ∨ Fu g) := by
  obtain ⟨h2, h3⟩ := hH
  have hs := h.size
  have hb : Below (w.heap.size + 4) W W' := Below.of_grown q2 hs h.ib
  have hbs := hb.size
  have hi' : ∀ g, iv'.ownBlock = some g → w.heap.size + 4 ≤ g := fun g hg => by
    rcases q3 with e | e
    · exact h.ib g (by rw [← e]; exact hg)
    · have := e g hg; omega
  refine ⟨h.below.trans (hb.mono (by omega)), h.four.below hb (by omega), Nat.le_trans h.size hbs, h.keys.same fun g hg => q2.block g (h.klt g hg) (fun e => h2 g hg (hiH g e.symm)), h.kb, hi', _, q1, ?_, ?_⟩
  · rintro g hg (hH | hf | hv)
    · exact h2 g hg hH
    · have := hFu g hf
      have := h.kb g hg
      omega
    · rcases q3 with e | e
      · exact h2 g hg (hiH g (by rw [← e]; exact hv))
      · have := e g hv
        have := h.klt g hg
        omega
  · rintro g (hH | hf | hv)
    · exact ⟨(h3 g hH).1.imp Or.inl id, Nat.lt_of_lt_of_le (h3 g hH).2 hbs⟩
    · exact ⟨Or.inl (Or.inr hf), by have := hFu g hf; omega⟩
    · exact ⟨Or.inr (hi' g hv), (OwnL.lt q1 g hv).2⟩
end Go.Proofs.Ytkjiiggboblioaa
