/-
  copyOf of the program and Own of the page: a value in memory of its own.
-/
import Derived.Test.YtihncekjbmepoabVaTwo
import Derived.Test.YtihncekjbmepoabVaSmall
namespace Go.Proofs.Ytihncekjbmepoab
open Go.ChangeShapes Go.WideShapes Go.ChangeAt Go.RowKit

theorem copy_done2 {W3 wr w' : World} {n A : Nat} {k b : Int} {t : ByteArray} {ks : List ByteArray} {its : List (V n)} {kc ic kc' ic' : Nat} {ka' ia' : Option Addr} {xs : List Value} {G : Nat → Nat → Prop}
    (hfit : Fit k b t ks.length kc its.length ic) (hA : A ≤ W3.heap.size) (hK : W3.ownsRow A 9 1 (.slice ka' ks.length kc') ks.length (ks.map Value.string))
    (hI : wr.ownsRow W3.heap.size 26 5 (.slice ia' its.length ic') its.length xs) (hbl : Below W3.heap.size W3 wr)
    (HX : Items (Own wr n) its its.length xs G) (HG : ∀ i b, i < its.length → G i b → W3.heap.size ≤ b ∧ b < wr.heap.size ∧ (Value.slice ia' its.length ic').ownBlock ≠ some b)
    (HD : ∀ i j b, i < its.length → j < its.length → G i b → G j b → i = j) (hs : ∀ s ∈ ks, s.size ≤ 140737488351232) (h2 : ∀ j, A ≤ j → w'.heap[j]? = wr.heap[j]?) :
    Own w' (n + 1) (mk k b t ka' ks.length kc' ia' its.length ic') (k, b, t, ks, its) (fun g => A ≤ g ∧ g < wr.heap.size) := by
  obtain ⟨h_k, h_b, h_t, hkl, hkc, hkr, hil, hic, hir⟩ := hfit
  have hsz := hbl.size
  have cK := cap_of_own hK
  have cI := cap_of_own hI
  refine ⟨ka', kc', ia', ic', xs, G, rfl, ⟨h_k, h_b, h_t, cK.1, cK.2, hkr, cI.1, cI.2, hir⟩, hs, ?_, ?_, ?_, ?_, ?_, ?_, HD⟩
  · refine ownsRow_same (w := W3) (ownsRow_base0 hK) fun g hg => ?_
    have := hK.lt g hg
    rw [h2 g (by omega), hbl.block g (by omega)]
  · refine ownsRow_same (w := wr) (ownsRow_base0 hI) fun g hg => ?_
    have := hI.lt g hg
    exact h2 g (by omega)
  · intro g hg
    have := hK.lt g hg
    exact ⟨by omega, by omega⟩
  · intro g hg
    have := hI.lt g hg
    exact ⟨by omega, by omega⟩
  · intro i u hi hu
    obtain ⟨c0, c1, c2, c3, c4, e0, e1, e2, e3, e4, ho⟩ := HX i u hi hu
    refine ⟨c0, c1, c2, c3, c4, e0, e1, e2, e3, e4, ho.same n fun g hg => ?_⟩
    have := HG i g hi hg
    exact h2 g (by omega)
  · intro i g hi hg
    have := HG i g hi hg
    exact ⟨⟨by omega, by omega⟩, fun e => by have := hK.lt g e; omega, this.2.2⟩

theorem set_three {w : World} {g : Nat} {c0 c1 c2 c3 c4 : Value} {t : TypeId} (h : w.heap[g]? = some (.cells #[c0, c1, c2, c3, c4] t (0, 0))) (v : Value) :
    (w.setCell ⟨g, 3, none⟩ v).heap[g]? = some (.cells #[c0, c1, c2, v, c4] t (0, 0)) ∧ (∀ k, k ≠ g → (w.setCell ⟨g, 3, none⟩ v).heap[k]? = w.heap[k]?) ∧ (w.setCell ⟨g, 3, none⟩ v).heap.size = w.heap.size ∧
    (w.setCell ⟨g, 3, none⟩ v).os = w.os ∧ (w.setCell ⟨g, 3, none⟩ v).tape = w.tape ∧ (w.setCell ⟨g, 3, none⟩ v).output = w.output := by
  refine ⟨?_, ?_, ?_, by simp [World.setCell], by simp [World.setCell], by simp [World.setCell]⟩
  · simp [World.setCell, Array.getElem?_modify, h]
  · intro k hk
    have hk' : ¬ g = k := fun e => hk e.symm
    simp [World.setCell, Array.getElem?_modify, hk']
  · simp [World.setCell]

end Go.Proofs.Ytihncekjbmepoab
