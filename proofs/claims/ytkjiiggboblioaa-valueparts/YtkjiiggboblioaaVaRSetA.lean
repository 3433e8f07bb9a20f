/-
  The page's set, whole: by any path.
-/
import Derived.Test.YtkjiiggboblioaaVaRSetM
namespace Go.Proofs.Ytkjiiggboblioaa
open Go.ChangeShapes Go.WideShapes Go.ChangeAt Go.RowKit
open Fl

theorem LayP.tail {w : World} {g o : Nat} {s : St} {ps : List St} (h : LayP w (some ⟨g, o, none⟩) (s :: ps)) : LayP w (some ⟨g, o + 3, none⟩) ps := by
  intro i r hi
  obtain ⟨b, o', he, h0, h1, h2, h3⟩ := h (i + 1) r (by simpa using hi)
  simp only [Option.some.injEq, Addr.mk.injEq, and_true] at he
  obtain ⟨rfl, rfl⟩ := he
  have e : o + (i + 1) * 3 = o + 3 + i * 3 := by omega
  rw [e] at h0 h1 h2
  exact ⟨_, _, rfl, h0, h1, h2, h3⟩

theorem rset_all {n : Nat} (x : V n) (yv : Value) (Fx : Nat → Prop) (w0 : World) : ∀ (ps : List St) (v : V (n + ps.length)) (xv : Value) (F : Nat → Prop) (pa : Option Addr) (pc : Nat) (w : World), Below w0.heap.size w0 w → okV (n + ps.length) v → Own w (n + ps.length) xv v F → Own w n yv x Fx →
    (∀ b, F b → w0.heap.size ≤ b ∧ b < w.heap.size) → (∀ b, Fx b → b < w.heap.size ∧ ¬ F b) → LayP w0 pa ps → ps.length ≤ pc ∧ pc ≤ 9223372036854775807 →
    Calls Try.prog 20 #[xv, .slice pa ps.length pc, yv] w (SetPost w F Fx (setV x ps v))
  | [], v, xv, F, pa, pc, w, _, _, ho, hx, _, hFx, _, _ => rset_nil v x xv yv F Fx pa pc w ho hx fun b h => (hFx b h).1
  | [s], v, xv, F, pa, pc, w, hw, hok, ho, hx, hF, hFx, hp, _ => by
    obtain ⟨k, b, t, ks, its⟩ := v
    exact rset_one k b t ks its s x xv yv F Fx pa pc w0 w hw hok.1 ho hx hF hFx hp
  | s :: s' :: p, v, xv, F, pa, pc, w, hw, hok, ho, hx, hF, hFx, hp, hpc => by
    obtain ⟨k, b, t, ks, its⟩ := v
    by_cases h0 : (plc k ks its.length s).1 = 0
    · have hlt := plc_lt hok.1 h0
      have hu : its[(plc k ks its.length s).2]? = some its[(plc k ks its.length s).2] := List.getElem?_eq_getElem hlt
      have e : setV x (s :: s' :: p) ((k, b, t, ks, its) : V (n + (s' :: p).length + 1)) = ((setV x (s' :: p) its[(plc k ks its.length s).2]).1, ((k, b, t, ks, its.set (plc k ks its.length s).2 (setV x (s' :: p) its[(plc k ks its.length s).2]).2) : V (n + (s' :: p).length + 1))) := by
        simp only [setV]
        rw [if_pos h0, hu]
        rfl
      rw [e]
      refine rset_more k b t ks its s x xv yv F Fx pa (s :: s' :: p).length pc w0 w hw hok.1 ho hx hF hFx (s' :: p) hp (by simp) hpc h0 _ rfl _ hu (setV x (s' :: p) its[(plc k ks its.length s).2]) ?_
      intro W uv G hb hown hx' hG hFx' gp op he
      subst he
      exact rset_all x yv Fx w0 (s' :: p) _ uv G _ (pc - 1) W hb (hok.2 _ (List.mem_of_getElem? hu)) hown hx' hG hFx' hp.tail (by simp only [List.length_cons] at hpc ⊢; omega)
    · refine rset_err k b t ks its s x xv yv F Fx pa (s :: s' :: p).length pc w hok.1 ho hx (s' :: p) (hp.below hw) rfl (by simp) _ ?_ h0
      simp only [setV]
      rw [if_neg h0]
end Go.Proofs.Ytkjiiggboblioaa
