/-
  A part within a value in memory of its own: what is put there, the whole then holds.
-/
import Derived.Test.YtkjiiggboblioaaJ4
namespace Go.Proofs.Ytkjiiggboblioaa
open Go.ChangeShapes Go.WideShapes Go.ChangeAt Go.RowKit

/-- Five cells of a block make a value. -/
def At (w : World) (g o : Nat) (x : Value) : Prop :=
  ∃ (cur : Array Value) (c0 c1 c2 c3 c4 : Value), w.heap[g]? = some (.cells cur 26 (0, 0)) ∧ x = .agg #[c0, c1, c2, c3, c4] ∧ cur[o]? = some c0 ∧ cur[o + 1]? = some c1 ∧ cur[o + 2]? = some c2 ∧ cur[o + 3]? = some c3 ∧ cur[o + 4]? = some c4

/-- Only F's blocks and the five cells at (g, o) have changed. -/
structure Ch (F : Nat → Prop) (g o : Nat) (w w' : World) : Prop where
  os : w'.os = w.os
  tape : w'.tape = w.tape
  output : w'.output = w.output
  size : w.heap.size ≤ w'.heap.size
  block : ∀ j, j < w.heap.size → ¬ F j → j ≠ g → w'.heap[j]? = w.heap[j]?
  here : ∀ cur, w.heap[g]? = some (.cells cur 26 (0, 0)) → ∃ cur' : Array Value, w'.heap[g]? = some (.cells cur' 26 (0, 0)) ∧ cur'.size = cur.size ∧ ∀ j, j < o ∨ o + 5 ≤ j → cur'[j]? = cur[j]?

/-- What is put at (g, o) the whole at (gw, 0) then holds, in blocks from A on. -/
def Plug (wr : World) (g o n : Nat) (F : Nat → Prop) (N gw A : Nat) (hole : V n → V N) : Prop :=
  ∀ (w' : World) (y : Value) (u : V n) (E : Nat → Prop), Ch F g o wr w' → At w' g o y → Own w' n y u E → (∀ b, E b → (F b ∨ wr.heap.size ≤ b) ∧ b < w'.heap.size) → ¬ E g →
    ∃ y0 E0, At w' gw 0 y0 ∧ Own w' N y0 (hole u) E0 ∧ (∀ b, E0 b → A ≤ b ∧ b < w'.heap.size) ∧ ¬ E0 gw

theorem Plug.start {wr : World} {gw N A : Nat} {F : Nat → Prop} (hF : ∀ b, F b → A ≤ b) (hA : A ≤ wr.heap.size) : Plug wr gw 0 N F N gw A (fun u => u) := fun _ y _ E _ ha ho hE hg =>
  ⟨y, E, ha, ho, fun b hb => ⟨(hE b hb).1.elim (hF b) (Nat.le_trans hA), (hE b hb).2⟩, hg⟩

theorem Ch.of_below {F : Nat → Prop} {g o : Nat} {w w' : World} (h : Below w.heap.size w w') : Ch F g o w w' :=
  ⟨h.os, h.tape, h.output, h.size, fun j hj _ _ => h.block j hj, fun cur hc => ⟨cur, (h.block g (lt_of_block hc)).trans hc, rfl, fun _ _ => rfl⟩⟩

theorem Ch.trans {F F' : Nat → Prop} {g o : Nat} {a b c : World} (h : Ch F g o a b) (k : Ch F' g o b c) (hF : ∀ j, F' j → F j ∨ a.heap.size ≤ j) : Ch F g o a c := by
  refine ⟨k.os.trans h.os, k.tape.trans h.tape, k.output.trans h.output, Nat.le_trans h.size k.size, fun j hj hn hg => ?_, fun cur hc => ?_⟩
  · rw [k.block j (Nat.lt_of_lt_of_le hj h.size) (fun e => (hF j e).elim hn (fun e' => by omega)) hg]
    exact h.block j hj hn hg
  · obtain ⟨c1, q1, q2, q3⟩ := h.here cur hc
    obtain ⟨c2, r1, r2, r3⟩ := k.here c1 q1
    exact ⟨c2, r1, r2.trans q2, fun j hj => (r3 j hj).trans (q3 j hj)⟩

/-- The part itself has changed on the way. -/
theorem Plug.change {wr w2 : World} {g o n : Nat} {F F2 : Nat → Prop} {N gw A : Nat} {hole : V n → V N} (h : Plug wr g o n F N gw A hole) (hc : Ch F g o wr w2) (hF : ∀ j, F2 j → F j ∨ wr.heap.size ≤ j) : Plug w2 g o n F2 N gw A hole := by
  intro w' y u E k ha ho hE hg
  exact h w' y u E (hc.trans k hF) ha ho (fun b hb => ⟨(hE b hb).1.elim (hF b) (fun e => Or.inr (Nat.le_trans hc.size e)), (hE b hb).2⟩) hg

theorem Plug.below {wr w2 : World} {g o n : Nat} {F : Nat → Prop} {N gw A : Nat} {hole : V n → V N} (h : Plug wr g o n F N gw A hole) (hb : Below wr.heap.size wr w2) : Plug w2 g o n F N gw A hole :=
  h.change (Ch.of_below hb) fun _ e => Or.inl e

theorem five_at {cur : Array Value} {xs : List Value} {l i : Nat} {c0 c1 c2 c3 c4 : Value} (hx : cur.toList.take (l * 5) = xs) (hi : i < l) (e0 : xs[i * 5]? = some c0) (e1 : xs[i * 5 + 1]? = some c1) (e2 : xs[i * 5 + 2]? = some c2) (e3 : xs[i * 5 + 3]? = some c3) (e4 : xs[i * 5 + 4]? = some c4) :
    cur[i * 5]? = some c0 ∧ cur[i * 5 + 1]? = some c1 ∧ cur[i * 5 + 2]? = some c2 ∧ cur[i * 5 + 3]? = some c3 ∧ cur[i * 5 + 4]? = some c4 := by
  subst hx
  have key : ∀ j c, j < l * 5 → (cur.toList.take (l * 5))[j]? = some c → cur[j]? = some c := fun j c hj h => by
    rw [List.getElem?_take, if_pos hj] at h
    simpa using h
  exact ⟨key _ _ (by omega) e0, key _ _ (by omega) e1, key _ _ (by omega) e2, key _ _ (by omega) e3, key _ _ (by omega) e4⟩

/-- One step down: the i-th item of the node at (g, o). -/
theorem Plug.down {wr : World} {g o n : Nat} {F : Nat → Prop} {N gw A : Nat} {hole : V (n + 1) → V N} {x : Value} {k b : Int} {t : ByteArray} {ks : List ByteArray} {its : List (V n)} {i : Nat} (h : Plug wr g o (n + 1) F N gw A hole) (ha : At wr g o x)
    (ho : Own wr (n + 1) x (k, b, t, ks, its) F) (hF : ∀ b, F b → b < wr.heap.size) (hg : ¬ F g) (hi : i < its.length) :
    ∃ ka kc gi ic y G u, x = mk k b t ka ks.length kc (some ⟨gi, 0, none⟩) its.length ic ∧ its[i]? = some u ∧
      At wr gi (i * 5) y ∧ Own wr n y u G ∧ (∀ b, G b → F b) ∧ F gi ∧ ¬ G gi ∧ Plug wr gi (i * 5) n G N gw A (fun u => hole (k, b, t, ks, its.set i u)) := by
  obtain ⟨ka, kc, ia, ic, xs, G, rfl, hfit, hs, hK, hI, fK, fI, hit, hG, hd⟩ := ho
  have hI0 := hI
  obtain ⟨hlx, hcase⟩ := hI
  rcases hcase with ⟨h1, h2⟩ | ⟨gi, cap, cur, h1, _, hcur, hnc, hcm, hcs, hxs⟩
  · omega
  · simp only [Value.slice.injEq] at h1
    obtain ⟨rfl, _, rfl⟩ := h1
    obtain ⟨c0, c1, c2, c3, c4, e0, e1, e2, e3, e4, hO⟩ := hit i its[i] hi (by simp)
    obtain ⟨a0, a1, a2, a3, a4⟩ := five_at hxs hi e0 e1 e2 e3 e4
    have hgiF : F gi := fI gi rfl
    have hne : g ≠ gi := fun e => hg (by rw [e]; exact hgiF)
    have hgG : ∀ j, j < its.length → ¬ G j gi := fun j hj e => (hG j gi hj e).2.2 rfl
    refine ⟨ka, kc, gi, ic, .agg #[c0, c1, c2, c3, c4], G i, its[i], rfl, by simp, ⟨cur, c0, c1, c2, c3, c4, hcur, rfl, a0, a1, a2, a3, a4⟩, hO, fun b' hb' => (hG i b' hi hb').1, hgiF, hgG i hi, ?_⟩
    intro w' y u E hch hat hown hE hgE
    obtain ⟨curg, d0, d1, d2, d3, d4, q0, q1, p0, p1, p2, p3, p4⟩ := ha
    have hbl := hch.block
    have hsz := hch.size
    have hg' : w'.heap[g]? = wr.heap[g]? := hbl g (lt_of_block q0) (fun e => hg (hG i g hi e).1) hne
    have hch2 : Ch F g o wr w' := ⟨hch.os, hch.tape, hch.output, hch.size, fun j hj hn _ => hbl j hj (fun e => hn (hG i j hi e).1) (fun e => hn (by rw [e]; exact hgiF)), fun c hc => ⟨c, hg'.trans hc, rfl, fun _ _ => rfl⟩⟩
    obtain ⟨cur', r1, r2, r3⟩ := hch.here cur hcur
    obtain ⟨cur2, b0, b1, b2, b3, b4, s1, rfl, t0, t1, t2, t3, t4⟩ := hat
    rw [r1] at s1
    have e2 : cur' = cur2 := by simpa using s1
    subst e2
    have hEk : ∀ b', (Value.slice ka ks.length kc).ownBlock = some b' → ¬ E b' := fun b' hb' e => by
      rcases (hE b' e).1 with e' | e'
      · exact (hG i b' hi e').2.1 hb'
      · have := (hK.lt b' hb').2; omega
    have tk : ∀ j c, j < its.length * 5 → cur'[j]? = some c → (cur'.toList.take (its.length * 5))[j]? = some c := fun j c hj h => by
      rw [List.getElem?_take, if_pos hj]
      simpa using h
    have hlc : cur'.toList.length = ic * 5 := by rw [Array.length_toList, r2, hcs]
    have hO' : Own w' (n + 1) (mk k b t ka ks.length kc (some ⟨gi, 0, none⟩) its.length ic) (k, b, t, ks, its.set i u) (fun b' => F b' ∨ E b') := by
      refine ⟨ka, kc, some ⟨gi, 0, none⟩, ic, cur'.toList.take (its.length * 5), fun j b' => if j = i then E b' else G j b', by simp, by simpa using hfit, hs, ?_, ?_, fun b' hb' => Or.inl (fK b' hb'), fun b' hb' => Or.inl (fI b' (by simpa [Value.ownBlock] using hb')), ?_, ?_, ?_⟩
      · exact ownsRow_same hK fun b' hb' => hbl b' (hK.lt b' hb').2 (fun e => (hG i b' hi e).2.1 hb') (fun e => ne_blocks hK hI0 b' hb' (by rw [e]; rfl))
      · rw [List.length_set]
        exact ⟨by rw [List.length_take, hlc]; omega, Or.inr ⟨gi, ic, cur', rfl, Nat.zero_le _, r1, hnc, hcm, by rw [r2]; exact hcs, rfl⟩⟩
      · intro j u' hj hu'
        rw [List.length_set] at hj
        by_cases hji : j = i
        · subst hji
          rw [List.getElem?_set_self (by omega)] at hu'
          cases hu'
          refine ⟨b0, b1, b2, b3, b4, tk _ _ (by omega) t0, tk _ _ (by omega) t1, tk _ _ (by omega) t2, tk _ _ (by omega) t3, tk _ _ (by omega) t4, ?_⟩
          simp only [if_true]
          exact hown
        · rw [List.getElem?_set_ne (fun e => hji e.symm)] at hu'
          obtain ⟨f0, f1, f2, f3, f4, z0, z1, z2, z3, z4, hOj⟩ := hit j u' hj hu'
          obtain ⟨y0, y1, y2, y3, y4⟩ := five_at hxs hj z0 z1 z2 z3 z4
          refine ⟨f0, f1, f2, f3, f4, tk _ _ (by omega) ((r3 _ (by omega)).trans y0), tk _ _ (by omega) ((r3 _ (by omega)).trans y1), tk _ _ (by omega) ((r3 _ (by omega)).trans y2), tk _ _ (by omega) ((r3 _ (by omega)).trans y3), tk _ _ (by omega) ((r3 _ (by omega)).trans y4), ?_⟩
          simp only [hji, if_false]
          exact hOj.same n fun b' hb' => hbl b' (hF b' (hG j b' hj hb').1) (fun e => hji (hd j i b' hj hi hb' e)) (fun e => (hG j b' hj hb').2.2 (by rw [e]; rfl))
      · intro j b' hj hGj
        rw [List.length_set] at hj ⊢
        by_cases hji : j = i
        · simp only [hji, if_true] at hGj
          refine ⟨Or.inr hGj, fun e => hEk b' e hGj, fun e => ?_⟩
          simp only [Value.ownBlock, Option.some.injEq] at e
          exact hgE (by rw [e]; exact hGj)
        · simp only [hji, if_false] at hGj
          have := hG j b' hj hGj
          exact ⟨Or.inl this.1, this.2⟩
      · intro j1 j2 b' h1 h2 g1 g2
        rw [List.length_set] at h1 h2
        have mix : ∀ j, j < its.length → E b' → G j b' → i = j := fun j hj e1 e2 => by
          rcases (hE b' e1).1 with e' | e'
          · exact hd i j b' hi hj e' e2
          · have := hF b' (hG j b' hj e2).1; omega
        by_cases hj1 : j1 = i <;> by_cases hj2 : j2 = i
        · omega
        · simp only [hj1, if_true] at g1
          simp only [hj2, if_false] at g2
          have := mix j2 h2 g1 g2; omega
        · simp only [hj1, if_false] at g1
          simp only [hj2, if_true] at g2
          have := mix j1 h1 g2 g1; omega
        · simp only [hj1, if_false] at g1
          simp only [hj2, if_false] at g2
          exact hd j1 j2 b' h1 h2 g1 g2
    refine h w' _ _ _ hch2 ⟨curg, d0, d1, d2, d3, d4, hg'.trans q0, q1, p0, p1, p2, p3, p4⟩ hO' (fun b' hb' => ?_) (fun e => ?_)
    · rcases hb' with e | e
      · exact ⟨Or.inl e, Nat.lt_of_lt_of_le (hF b' e) hsz⟩
      · refine ⟨?_, (hE b' e).2⟩
        rcases (hE b' e).1 with e' | e'
        · exact Or.inl (hG i b' hi e').1
        · exact Or.inr e'
    · rcases e with e | e
      · exact hg e
      · rcases (hE g e).1 with e' | e'
        · exact hg (hG i g hi e').1
        · have := lt_of_block q0; omega
end Go.Proofs.Ytkjiiggboblioaa
