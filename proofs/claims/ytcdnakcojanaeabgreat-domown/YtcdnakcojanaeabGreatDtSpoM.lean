/-
  A display of one's own that is spoilt: what is left of it.
-/
import Derived.Test.YtcdnakcojanaeabGreatDtAplM
import Derived.Test.YtcdnakcojanaeabGreatDoArgJ
import Derived.Deep.RegionHeld3
namespace Go.Proofs.YtcdnakcojanaeabGreat
open Go.ChangeShapes Go.WideShapes Go.ChangeAt Go.RowKit Go.Deep
open Do

theorem cell_set_ne {W : World} {b o o' : Nat} {v : Value} (h : o ≠ o') : (W.setCell ⟨b, o, none⟩ v).cell? ⟨b, o', none⟩ = W.cell? ⟨b, o', none⟩ := by
  simp only [World.setCell, World.cell?, Array.getElem?_modify]
  cases hb : W.heap[b]? with
  | none => simp
  | some ob =>
    cases ob with
    | cells cs t f => simp [h]
    | _ => simp

theorem frozen_set {W : World} {b o : Nat} {v : Value} (ad : Addr) : (W.setCell ⟨b, o, none⟩ v).frozen? ad = W.frozen? ad := by
  simp only [World.setCell, World.frozen?, Array.getElem?_modify]
  by_cases e : b = ad.block
  · subst e
    cases hb : W.heap[ad.block]? with
    | none => simp
    | some ob =>
      cases ob with
      | cells cs t f => simp
      | _ => simp
  · simp [e]

/-- What spoiling leaves: the rows stand where they stood. -/
structure Sp (w wr : World) (a : Option Addr) (c n : Nat) (ab kb : Nat → Value) : Prop where
  five : ∀ b i, a = some ⟨b, 0, none⟩ → i < n → wr.cell? ⟨b, i * 7 + 5, none⟩ = some (ab i)
  six : ∀ b i, a = some ⟨b, 0, none⟩ → i < n → wr.cell? ⟨b, i * 7 + 6, none⟩ = some (kb i)
  more : ∀ ad v, w.cell? ad = some v → ∃ v', wr.cell? ad = some v'
  frz : ∀ ad, wr.frozen? ad = w.frozen? ad
  kept : Kept (footN (.slice a n c) n ab kb) w wr

theorem Sp.set {w wr : World} {a : Option Addr} {c n : Nat} {ab kb : Nat → Value} (h : Sp w wr a c n ab kb) {g o : Nat} (v : Value) (hg : footN (.slice a n c) n ab kb g) (ho : a = some ⟨g, 0, none⟩ → ∃ i, o = i * 7) : Sp w (wr.setCell ⟨g, o, none⟩ v) a c n ab kb := by
  have ne : ∀ (b i r : Nat), a = some ⟨b, 0, none⟩ → 0 < r → r < 7 → (wr.setCell ⟨g, o, none⟩ v).cell? ⟨b, i * 7 + r, none⟩ = wr.cell? ⟨b, i * 7 + r, none⟩ := by
    intro b i r hb h0 h7
    by_cases e : g = b
    · subst e
      obtain ⟨k, hk⟩ := ho hb
      exact cell_set_ne (by omega)
    · exact World.cell?_setCell_far _ _ _ _ e
  refine ⟨fun b i hb hi => (ne b i 5 hb (by omega) (by omega)).trans (h.five b i hb hi), fun b i hb hi => (ne b i 6 hb (by omega) (by omega)).trans (h.six b i hb hi), fun ad u hu => ?_, fun ad => (frozen_set ad).trans (h.frz ad), h.kept.setCell v hg⟩
  obtain ⟨v', hv'⟩ := h.more ad u hu
  exact cell?_setCell_some hv'

theorem Sp.start {w : World} {B : Nat} {a : Option Addr} {c : Nat} {ns : List Nd} {ab kb : Nat → Value} (h : OwnN w B (.slice a ns.length c) ns ab kb) : Sp w w a c ns.length ab kb := by
  refine ⟨?_, ?_, fun ad v hv => ⟨v, hv⟩, fun _ => rfl, Kept.refl _ _⟩
  all_goals
    intro b i hb hi
    obtain ⟨g, hg, -, -, -, -, -, q5, q6⟩ := rowN_cells h.row (List.getElem?_eq_getElem hi)
    rw [hb] at hg
    cases hg
    assumption

/-- What the size and the numbers of a display keep to. -/
def FitA (s : Ds) : Prop := s.nodes.length ≤ 1024 ∧ (-9223372036854775808 ≤ s.root ∧ s.root ≤ 9223372036854775807) ∧ (-9223372036854775808 ≤ s.next ∧ s.next ≤ 9223372036854775807)

theorem okD_fitA {s : Ds} (h : OkD s) : FitA s := by
  have hn := h.nx
  refine ⟨h.len, ?_, by omega⟩
  rcases h.root with h0 | ⟨m, h1, -⟩
  · rw [h0]; omega
  · have h2 := (nd_some h1).2
    have h3 := h.below m (nd_some h1).1
    have h4 := (h.good.at h1).pos
    omega

theorem applyD_fit (s : Ds) (p : Pt) : FitA (applyD s p).2 := by
  have hz : FitA noD := ⟨by simp [noD], by simp [noD], by simp [noD]⟩
  unfold applyD
  split
  · rename_i h
    split
    · exact okD_fitA (take_ok (okD_iff.1 h) p).1
    · exact hz
  · exact hz
end Go.Proofs.YtcdnakcojanaeabGreat
