/-
  One item of a value in memory of its own is another: what the value then is.
-/
import Derived.Test.YtocodkoanjcmkaaVaPlug
namespace Go.Proofs.Ytocodkoanjcmkaa
open Go.ChangeShapes Go.WideShapes Go.ChangeAt Go.RowKit

theorem own_item {wr : World} {n : Nat} {F : Nat → Prop} {x : Value} {k b : Int} {t : ByteArray} {ks : List ByteArray} {its : List (V n)} {i : Nat} (ho : Own wr (n + 1) x (k, b, t, ks, its) F) (hi : i < its.length) :
    ∃ ka kc gi ic y G u, x = mk k b t ka ks.length kc (some ⟨gi, 0, none⟩) its.length ic ∧ its[i]? = some u ∧ At wr gi (i * 5) y ∧ Own wr n y u G ∧ (∀ b, G b → F b) ∧ F gi ∧ ¬ G gi ∧
      ∀ (w' : World) (y' : Value) (u' : V n) (E : Nat → Prop), (∀ j, F j → ¬ G j → j ≠ gi → w'.heap[j]? = wr.heap[j]?) →
        (∀ cur, wr.heap[gi]? = some (.cells cur 26 (0, 0)) → ∃ cur' : Array Value, w'.heap[gi]? = some (.cells cur' 26 (0, 0)) ∧ cur'.size = cur.size ∧ ∀ j, j < i * 5 ∨ i * 5 + 5 ≤ j → cur'[j]? = cur[j]?) →
        At w' gi (i * 5) y' → Own w' n y' u' E → (∀ b, E b → G b ∨ ¬ F b) → Own w' (n + 1) x (k, b, t, ks, its.set i u') (fun b => F b ∨ E b) := by
  obtain ⟨ka, kc, ia, ic, xs, G, rfl, hfit, hs, hK, hI, fK, fI, hit, hG, hd⟩ := ho
  have hI0 := hI
  obtain ⟨hlx, hcase⟩ := hI
  rcases hcase with ⟨h1, h2⟩ | ⟨gi, cap, cur, h1, _, hcur, hnc, hcm, hcs, hxs⟩
  · omega
  · simp only [Value.slice.injEq] at h1
    obtain ⟨rfl, _, rfl⟩ := h1
    obtain ⟨c0, c1, c2, c3, c4, e0, e1, e2, e3, e4, hO⟩ := hit i its[i] hi (by simp)
    obtain ⟨a0, a1, a2, a3, a4⟩ := five_at hxs hi e0 e1 e2 e3 e4
    have hgiF : F gi := fI gi rfl
    have hgG : ∀ j, j < its.length → ¬ G j gi := fun j hj e => (hG j gi hj e).2.2 rfl
    refine ⟨ka, kc, gi, ic, .agg #[c0, c1, c2, c3, c4], G i, its[i], rfl, by simp, ⟨cur, c0, c1, c2, c3, c4, hcur, rfl, a0, a1, a2, a3, a4⟩, hO, fun b' hb' => (hG i b' hi hb').1, hgiF, hgG i hi, ?_⟩
    intro w' y u E hbl hhere hat hown hE
    obtain ⟨cur', r1, r2, r3⟩ := hhere cur hcur
    obtain ⟨cur2, b0, b1, b2, b3, b4, s1, rfl, t0, t1, t2, t3, t4⟩ := hat
    rw [r1] at s1
    have e2 : cur' = cur2 := by simpa using s1
    subst e2
    have hEk : ∀ b', (Value.slice ka ks.length kc).ownBlock = some b' → ¬ E b' := fun b' hb' e => by
      rcases hE b' e with e' | e'
      · exact (hG i b' hi e').2.1 hb'
      · exact e' (fK b' hb')
    have hgE : ¬ E gi := fun e => by
      rcases hE gi e with e' | e'
      · exact hgG i hi e'
      · exact e' hgiF
    have tk : ∀ j c, j < its.length * 5 → cur'[j]? = some c → (cur'.toList.take (its.length * 5))[j]? = some c := fun j c hj h => by
      rw [List.getElem?_take, if_pos hj]
      simpa using h
    have hlc : cur'.toList.length = ic * 5 := by rw [Array.length_toList, r2, hcs]
    refine ⟨ka, kc, some ⟨gi, 0, none⟩, ic, cur'.toList.take (its.length * 5), fun j b' => if j = i then E b' else G j b', by simp, by simpa using hfit, hs, ?_, ?_, fun b' hb' => Or.inl (fK b' hb'), fun b' hb' => Or.inl (fI b' (by simpa [Value.ownBlock] using hb')), ?_, ?_, ?_⟩
    · exact ownsRow_same hK fun b' hb' => hbl b' (fK b' hb') (fun e => (hG i b' hi e).2.1 hb') (fun e => ne_blocks hK hI0 b' hb' (by rw [e]; rfl))
    · rw [List.length_set]
      exact ⟨by rw [List.length_take, hlc]; omega, Or.inr ⟨gi, ic, cur', rfl, Nat.zero_le _, r1, hnc, hcm, by rw [r2]; exact hcs, rfl⟩⟩
    · intro j u' hj hu'
      rw [List.length_set] at hj
      by_cases hji : j = i
      · subst hji
        rw [List.getElem?_set_self (by omega)] at hu'
        cases hu'
        refine ⟨b0, b1, b2, b3, b4, tk _ _ (by omega) t0, tk _ _ (by omega) t1, tk _ _ (by omega) t2, tk _ _ (by omega) t3, tk _ _ (by omega) t4, ?_⟩
        simp only [if_true]
        exact hown
      · rw [List.getElem?_set_ne (fun e => hji e.symm)] at hu'
        obtain ⟨f0, f1, f2, f3, f4, z0, z1, z2, z3, z4, hOj⟩ := hit j u' hj hu'
        obtain ⟨y0, y1, y2, y3, y4⟩ := five_at hxs hj z0 z1 z2 z3 z4
        refine ⟨f0, f1, f2, f3, f4, tk _ _ (by omega) ((r3 _ (by omega)).trans y0), tk _ _ (by omega) ((r3 _ (by omega)).trans y1), tk _ _ (by omega) ((r3 _ (by omega)).trans y2), tk _ _ (by omega) ((r3 _ (by omega)).trans y3), tk _ _ (by omega) ((r3 _ (by omega)).trans y4), ?_⟩
        simp only [hji, if_false]
        exact hOj.same n fun b' hb' => hbl b' (hG j b' hj hb').1 (fun e => hji (hd j i b' hj hi hb' e)) (fun e => (hG j b' hj hb').2.2 (by rw [e]; rfl))
    · intro j b' hj hGj
      rw [List.length_set] at hj ⊢
      by_cases hji : j = i
      · simp only [hji, if_true] at hGj
        refine ⟨Or.inr hGj, fun e => hEk b' e hGj, fun e => ?_⟩
        simp only [Value.ownBlock, Option.some.injEq] at e
        exact hgE (by rw [e]; exact hGj)
      · simp only [hji, if_false] at hGj
        have := hG j b' hj hGj
        exact ⟨Or.inl this.1, this.2⟩
    · intro j1 j2 b' h1 h2 g1 g2
      rw [List.length_set] at h1 h2
      have mix : ∀ j, j < its.length → E b' → G j b' → i = j := fun j hj e1 e2 => by
        rcases hE b' e1 with e' | e'
        · exact hd i j b' hi hj e' e2
        · exact absurd (hG j b' hj e2).1 e'
      by_cases hj1 : j1 = i <;> by_cases hj2 : j2 = i
      · omega
      · simp only [hj1, if_true] at g1
        simp only [hj2, if_false] at g2
        have := mix j2 h2 g1 g2
        omega
      · simp only [hj1, if_false] at g1
        simp only [hj2, if_true] at g2
        have := mix j1 h1 g2 g1
        omega
      · simp only [hj1, if_false] at g1
        simp only [hj2, if_false] at g2
        exact hd j1 j2 b' h1 h2 g1 g2
end Go.Proofs.Ytocodkoanjcmkaa
