/-
  What is read is built again of what was read; octets that are cut off; how many parts: plain mathematics.
-/
import Derived.Test.YtfdbhojghkdlkaaJ3
namespace Go.Proofs.Ytfdbhojghkdlkaa
open Go.ChangeShapes Go.WideShapes Go.ChangeAt Go.RowKit
open Fl

theorem octs_numO {a : List UInt8} (h : a.length = 8) : octs (numO a) = a ∧ U (numO a) := by
  match a, h with
  | [a0, a1, a2, a3, a4, a5, a6, a7], _ =>
    have h0 := a0.toNat_lt
    have h1 := a1.toNat_lt
    have h2 := a2.toNat_lt
    have h3 := a3.toNat_lt
    have h4 := a4.toNat_lt
    have h5 := a5.toNat_lt
    have h6 := a6.toNat_lt
    have h7 := a7.toNat_lt
    have e : ∃ N : Nat, numO [a0, a1, a2, a3, a4, a5, a6, a7] = N ∧ N = (((((((a0.toNat * 256 + a1.toNat) * 256 + a2.toNat) * 256 + a3.toNat) * 256 + a4.toNat) * 256 + a5.toNat) * 256 + a6.toNat) * 256 + a7.toNat) := by
      refine ⟨_, ?_, rfl⟩
      simp only [numO, List.foldl_cons, List.foldl_nil]
      omega
    obtain ⟨N, e1, e2⟩ := e
    rw [e1]
    refine ⟨?_, by unfold U; omega⟩
    simp only [octs, List.range, List.range.loop, List.map_cons, List.map_nil, oct, Int.toNat_natCast]
    simp only [show 8 * (7 - 0) = 56 by rfl, show 8 * (7 - 1) = 48 by rfl, show 8 * (7 - 2) = 40 by rfl, show 8 * (7 - 3) = 32 by rfl, show 8 * (7 - 4) = 24 by rfl, show 8 * (7 - 5) = 16 by rfl, show 8 * (7 - 6) = 8 by rfl, show 8 * (7 - 7) = 0 by rfl]
    simp only [List.cons.injEq, and_true]
    refine ⟨?_, ?_, ?_, ?_, ?_, ?_, ?_, ?_⟩ <;> (apply UInt8.toNat_inj.1; rw [UInt8.toNat_ofNat']; omega)

theorem nxtN_ok {m : Nat} {l a r : List UInt8} (h : nxtN m l = .ok (a, r)) : l = a ++ r ∧ a.length = m := by
  unfold nxtN at h
  split at h
  · cases h
  · simp only [Except.ok.injEq, Prod.mk.injEq] at h
    obtain ⟨rfl, rfl⟩ := h
    exact ⟨(List.take_append_drop _ _).symm, by rw [List.length_take]; omega⟩

theorem rdBits_ok {l r : List UInt8} {b : Int} (h : rdBits l = .ok (b, r)) : l = octs b ++ r ∧ U b ∧ can b = b := by
  unfold rdBits at h
  cases h1 : nxtN 8 l with
  | error e => rw [h1] at h; cases h
  | ok p =>
    obtain ⟨a, r'⟩ := p
    rw [h1] at h
    obtain ⟨rfl, h2⟩ := nxtN_ok h1
    obtain ⟨h3, h4⟩ := octs_numO h2
    simp only at h
    split at h
    · rename_i hc
      simp only [Except.ok.injEq, Prod.mk.injEq] at h
      obtain ⟨rfl, rfl⟩ := h
      exact ⟨by rw [h3], h4, hc⟩
    · cases h

theorem rdText_ok {lo hi : Nat} {l r : List UInt8} {t : ByteArray} (h : rdText lo hi l = .ok (t, r)) : l = txt t ++ r ∧ lo ≤ t.size ∧ t.size ≤ hi := by
  cases l with
  | nil => cases h
  | cons o l =>
    simp only [rdText] at h
    split at h
    · cases h
    · rename_i hlo
      cases h1 : nxtN o.toNat l with
      | error e => rw [h1] at h; cases h
      | ok p =>
        obtain ⟨a, r'⟩ := p
        rw [h1] at h
        obtain ⟨rfl, h2⟩ := nxtN_ok h1
        simp only [Except.ok.injEq, Prod.mk.injEq] at h
        obtain ⟨rfl, rfl⟩ := h
        have hs : (ByteArray.mk a.toArray).size = a.length := rfl
        refine ⟨?_, by rw [hs]; omega, by rw [hs]; omega⟩
        simp only [txt, hs, h2, UInt8.ofNat_toNat, ByteArray.toList_mk, List.cons_append]

theorem rdCount_ok {l r : List UInt8} {m : Nat} (h : rdCount l = .ok (m, r)) : l = UInt8.ofNat m :: r ∧ m ≤ 32 := by
  cases l with
  | nil => cases h
  | cons o l =>
    simp only [rdCount] at h
    split at h
    · cases h
    · simp only [Except.ok.injEq, Prod.mk.injEq] at h
      obtain ⟨rfl, rfl⟩ := h
      exact ⟨by rw [UInt8.ofNat_toNat], by omega⟩

theorem items_ok {n : Nat} (hrd : ∀ l p (u : V n) r p', rd n (l, p) = .ok (u, (r, p')) → l = enc n u ++ r ∧ okV n u ∧ bitsV n u ∧ p' = p + prts n u) :
    ∀ (m : Nat) (acc its' : List (V n)) (l r : List UInt8) (p p' : Nat), iterE (stepI (rd n)) m (acc, (l, p)) = .ok (its', (r, p')) →
      ∃ its, its' = acc ++ its ∧ its.length = m ∧ l = (its.map (enc n)).flatten ++ r ∧ (∀ u ∈ its, okV n u) ∧ (∀ u ∈ its, bitsV n u) ∧ p' = p + (its.map (prts n)).sum
  | 0, acc, its', l, r, p, p', h => by
    simp only [iterE, Except.ok.injEq, Prod.mk.injEq] at h
    obtain ⟨rfl, rfl, rfl⟩ := h
    exact ⟨[], by simp⟩
  | m + 1, acc, its', l, r, p, p', h => by
    simp only [iterE, stepI] at h
    cases h1 : rd n (l, p) with
    | error e => rw [h1] at h; cases h
    | ok q =>
      obtain ⟨u, r1, p1⟩ := q
      rw [h1] at h
      obtain ⟨rfl, ho, hb, rfl⟩ := hrd _ _ _ _ _ h1
      obtain ⟨its, rfl, rfl, rfl, h2, h3, rfl⟩ := items_ok hrd m _ _ _ _ _ _ h
      refine ⟨u :: its, by simp, by simp, by simp, ?_, ?_, by simp [Nat.add_assoc]⟩
      · intro v hv; rcases List.mem_cons.1 hv with rfl | hv; exact ho; exact h2 v hv
      · intro v hv; rcases List.mem_cons.1 hv with rfl | hv; exact hb; exact h3 v hv

theorem fields_ok {n : Nat} (hrd : ∀ l p (u : V n) r p', rd n (l, p) = .ok (u, (r, p')) → l = enc n u ++ r ∧ okV n u ∧ bitsV n u ∧ p' = p + prts n u) :
    ∀ (m : Nat) (ka ks' : List ByteArray) (acc its' : List (V n)) (l r : List UInt8) (p p' : Nat), keysB ka = true → iterE (stepF (rd n)) m (ka, acc, (l, p)) = .ok (ks', its', (r, p')) →
      ∃ ks its, ks' = ka ++ ks ∧ its' = acc ++ its ∧ its.length = m ∧ ks.length = m ∧ keysB ks' = true ∧ l = (List.zipWith (fun s e => txt s ++ e) ks (its.map (enc n))).flatten ++ r ∧ (∀ u ∈ its, okV n u) ∧ (∀ u ∈ its, bitsV n u) ∧ p' = p + (its.map (prts n)).sum
  | 0, ka, ks', acc, its', l, r, p, p', hk, h => by
    simp only [iterE, Except.ok.injEq, Prod.mk.injEq] at h
    obtain ⟨rfl, rfl, rfl, rfl⟩ := h
    exact ⟨[], [], by simp [hk]⟩
  | m + 1, ka, ks', acc, its', l, r, p, p', hk, h => by
    simp only [iterE, stepF] at h
    cases h0 : rdText 1 16 l with
    | error e => rw [h0] at h; cases h
    | ok q =>
      obtain ⟨key, r0⟩ := q
      rw [h0] at h
      obtain ⟨rfl, h5, h6⟩ := rdText_ok h0
      simp only at h
      cases hn : okNext ka.getLast? key with
      | false => rw [hn] at h; simp at h
      | true =>
        rw [hn] at h
        simp only [Bool.true_eq_false, if_false] at h
        cases h1 : rd n (r0, p) with
        | error e => rw [h1] at h; cases h
        | ok q =>
          obtain ⟨u, r1, p1⟩ := q
          rw [h1] at h
          obtain ⟨rfl, ho, hb, rfl⟩ := hrd _ _ _ _ _ h1
          have hkk : keyB key = true := by simp [keyB]; omega
          obtain ⟨ks, its, rfl, rfl, rfl, h7, h8, rfl, h2, h3, rfl⟩ := fields_ok hrd m _ _ _ _ _ _ _ _ (keys_snoc hk hkk hn) h
          refine ⟨key :: ks, u :: its, by simp, by simp, by simp, by simp [h7], h8, by simp, ?_, ?_, by simp [Nat.add_assoc]⟩
          · intro v hv; rcases List.mem_cons.1 hv with rfl | hv; exact ho; exact h2 v hv
          · intro v hv; rcases List.mem_cons.1 hv with rfl | hv; exact hb; exact h3 v hv

theorem U_small {b : Int} (h0 : 0 ≤ b) (h1 : b ≤ 255) : U b := by unfold U; omega

/-- What is read is a value's octets. -/
theorem enc_rd : ∀ (n : Nat) (l : List UInt8) (p : Nat) (u : V n) (r : List UInt8) (p' : Nat), rd n (l, p) = .ok (u, (r, p')) → l = enc n u ++ r ∧ okV n u ∧ bitsV n u ∧ p' = p + prts n u
  | 0, l, p, u, _, _, _ => u.elim
  | n + 1, l, p, u, r, p', h => by
    cases l with
    | nil => cases h
    | cons o l =>
      simp only [rd] at h
      split at h
      · rename_i e
        simp only [Except.ok.injEq] at h
        obtain ⟨rfl, rfl, rfl⟩ := h
        have : o = 0 := UInt8.toNat_inj.1 e
        subst this
        exact ⟨by simp [enc], ⟨may_iff.2 .nothing, by simp⟩, ⟨U_small (by omega) (by omega), by simp⟩, by simp [prts]⟩
      · split at h
        · rename_i e
          simp only [Except.ok.injEq] at h
          obtain ⟨rfl, rfl, rfl⟩ := h
          have : o = 1 ∨ o = 2 := e.imp (fun e => UInt8.toNat_inj.1 e) (fun e => UInt8.toNat_inj.1 e)
          rcases this with rfl | rfl
          · exact ⟨by simp [enc], ⟨may_iff.2 (.truth _ (by decide)), by simp⟩, ⟨U_small (by decide) (by decide), by simp⟩, by simp [prts]⟩
          · exact ⟨by simp [enc], ⟨may_iff.2 (.truth _ (by decide)), by simp⟩, ⟨U_small (by decide) (by decide), by simp⟩, by simp [prts]⟩
        · split at h
          · rename_i e
            have : o = 3 := UInt8.toNat_inj.1 e
            subst this
            cases h1 : rdBits l with
            | error e => rw [h1] at h; cases h
            | ok q =>
              obtain ⟨b, r'⟩ := q
              rw [h1] at h
              simp only [Except.ok.injEq] at h
              obtain ⟨rfl, rfl, rfl⟩ := h
              obtain ⟨rfl, hU, hc⟩ := rdBits_ok h1
              exact ⟨by simp [enc], ⟨may_iff.2 (.number _ hc), by simp⟩, ⟨hU, by simp⟩, by simp [prts]⟩
          · split at h
            · rename_i e
              have : o = 4 := UInt8.toNat_inj.1 e
              subst this
              cases h1 : rdText 0 128 l with
              | error e => rw [h1] at h; cases h
              | ok q =>
                obtain ⟨t, r'⟩ := q
                rw [h1] at h
                simp only [Except.ok.injEq] at h
                obtain ⟨rfl, rfl, rfl⟩ := h
                obtain ⟨rfl, -, hs⟩ := rdText_ok h1
                exact ⟨by simp [enc], ⟨may_iff.2 (.text _ hs), by simp⟩, ⟨U_small (by omega) (by omega), by simp⟩, by simp [prts]⟩
            · split at h
              · rename_i e
                have : o = 5 := UInt8.toNat_inj.1 e
                subst this
                cases h1 : rdCount l with
                | error e => rw [h1] at h; cases h
                | ok q =>
                  obtain ⟨m, r'⟩ := q
                  rw [h1] at h
                  simp only at h
                  obtain ⟨rfl, hm⟩ := rdCount_ok h1
                  cases h2 : iterE (stepI (rd n)) m ([], (r', p + 1)) with
                  | error e => rw [h2] at h; cases h
                  | ok q =>
                    obtain ⟨its', r2, p2⟩ := q
                    rw [h2] at h
                    simp only [Except.ok.injEq] at h
                    obtain ⟨rfl, rfl, rfl⟩ := h
                    obtain ⟨its, hits, rfl, rfl, h3, h4, rfl⟩ := items_ok (fun l p u r p' => enc_rd n l p u r p') _ _ _ _ _ _ _ h2
                    rw [List.nil_append] at hits
                    subst hits
                    exact ⟨by simp [enc, pcs], ⟨may_iff.2 (.list _ hm), h3⟩, ⟨U_small (by omega) (by omega), h4⟩, by simp [prts, Nat.add_assoc]⟩
              · split at h
                · rename_i e
                  have : o = 6 := UInt8.toNat_inj.1 e
                  subst this
                  cases h1 : rdCount l with
                  | error e => rw [h1] at h; cases h
                  | ok q =>
                    obtain ⟨m, r'⟩ := q
                    rw [h1] at h
                    simp only at h
                    obtain ⟨rfl, hm⟩ := rdCount_ok h1
                    cases h2 : iterE (stepF (rd n)) m ([], [], (r', p + 1)) with
                    | error e => rw [h2] at h; cases h
                    | ok q =>
                      obtain ⟨ks', its', r2, p2⟩ := q
                      rw [h2] at h
                      simp only [Except.ok.injEq] at h
                      obtain ⟨rfl, rfl, rfl⟩ := h
                      obtain ⟨ks, its, hks, hits, rfl, h5, h6, rfl, h3, h4, rfl⟩ := fields_ok (fun l p u r p' => enc_rd n l p u r p') _ _ _ _ _ _ _ _ _ rfl h2
                      rw [List.nil_append] at hits hks
                      subst hits hks
                      refine ⟨by simp [enc, pcs], ⟨?_, h3⟩, ⟨U_small (by omega) (by omega), h4⟩, by simp [prts, Nat.add_assoc]⟩
                      rw [← h5]
                      exact may_iff.2 (.record _ (by omega) h6)
                · cases h

theorem foldE_cnt {n : Nat} {f : V n → Nat × Int → Except Int (Nat × Int)} (hf : ∀ u s s', f u s = .ok s' → s'.1 = s.1 + prts n u) : ∀ (its : List (V n)) (s s' : Nat × Int), foldE f its s = .ok s' → s'.1 = s.1 + (its.map (prts n)).sum
  | [], s, s', h => by simp only [foldE, Except.ok.injEq] at h; subst h; simp
  | u :: its, s, s', h => by
    simp only [foldE] at h
    cases h1 : f u s with
    | error e => rw [h1] at h; cases h
    | ok s1 =>
      rw [h1] at h
      have := hf u s s1 h1
      have := foldE_cnt hf its s1 s' h
      simp only [List.map_cons, List.sum_cons]
      omega

/-- The walk counts the parts. -/
theorem wk_cnt : ∀ (n : Nat) (u : V n) (l : Int) (s s' : Nat × Int), wk n u l s = .ok s' → s'.1 = s.1 + prts n u
  | 0, u, _, _, _, _ => u.elim
  | n + 1, u, l, s, s', h => by
    obtain ⟨k, b, t, ks, its⟩ := u
    obtain ⟨c, d⟩ := s
    simp only [wk] at h
    split at h
    · cases h
    · split at h
      · cases h
      · split at h
        · have := foldE_cnt (fun u s s' => wk_cnt n u (l + 1) s s') its _ _ h
          simp only [prts]
          simp only at this
          omega
        · cases h

theorem foldE_ok {n : Nat} {f : V n → Nat × Int → Except Int (Nat × Int)} (hf : ∀ u, okV n u → ∀ c d, c + prts n u ≤ 512 → ∃ d', f u (c, d) = .ok (c + prts n u, d')) : ∀ (its : List (V n)) (c : Nat) (d : Int), (∀ u ∈ its, okV n u) → c + (its.map (prts n)).sum ≤ 512 → ∃ d', foldE f its (c, d) = .ok (c + (its.map (prts n)).sum, d')
  | [], c, d, _, _ => ⟨d, by simp [foldE]⟩
  | u :: its, c, d, ho, h => by
    simp only [List.map_cons, List.sum_cons] at h
    obtain ⟨d1, h1⟩ := hf u (ho u (by simp)) c d (by omega)
    obtain ⟨d2, h2⟩ := foldE_ok hf its (c + prts n u) d1 (fun v hv => ho v (by simp [hv])) (by omega)
    refine ⟨d2, ?_⟩
    simp only [foldE, h1, h2, List.map_cons, List.sum_cons, Nat.add_assoc]

/-- A tree of parts that may be, few enough, may be. -/
theorem wk_ok : ∀ (n : Nat) (u : V n) (l : Int), (n : Int) + l = 9 → okV n u → ∀ c d, c + prts n u ≤ 512 → ∃ d', wk n u l (c, d) = .ok (c + prts n u, d')
  | 0, u, _, _, _, _, _, _ => u.elim
  | n + 1, u, l, hl, ho, c, d, h => by
    obtain ⟨k, b, t, ks, its⟩ := u
    obtain ⟨hm, hos⟩ := ho
    simp only [prts] at h
    obtain ⟨d', h1⟩ := foldE_ok (fun u ho c d h => wk_ok n u (l + 1) (by omega) ho c d h) its (c + 1) (max d l) hos (by omega)
    refine ⟨d', ?_⟩
    simp only [wk, prts]
    rw [if_neg (by omega), if_neg (by omega), if_pos hm, h1]
    simp [Nat.add_assoc]

theorem chk_of_ok {u : V 8} (ho : okV 8 u) (h : prts 8 u ≤ 512) : chk u = 0 := by
  obtain ⟨d', h1⟩ := wk_ok 8 u 1 (by decide) ho 0 0 (by omega)
  unfold chk
  rw [h1]
  rfl

theorem wk_of_chk {n : Nat} {v : V n} (h : chk v = 0) : ∃ s, wk n v 1 (0, 0) = .ok s := by
  unfold chk at h
  cases hw : wk n v 1 (0, 0) with
  | error e =>
    rw [hw] at h
    simp only [msr] at h
    rcases wk_err n _ _ _ _ hw with e1 | e1 | e1 <;> omega
  | ok s => exact ⟨s, rfl⟩

theorem cnt_of_chk {n : Nat} {v : V n} (h : chk v = 0) : prts n v ≤ 512 := by
  obtain ⟨s, hs⟩ := wk_of_chk h
  have h1 := wk_cnt n v 1 _ _ hs
  have h2 := wk_met n v 1 _ _ (by decide) ⟨by decide, by decide, by decide⟩ hs
  have := h2.1
  simp only at h1
  omega

theorem Lay.bits (n : Nat) : ∀ {w : World} {x : Value} {v : V n}, Lay w n x v → bitsV n v := by
  induction n with
  | zero => intro w x v; exact v.elim
  | succ n ih =>
    rintro w x ⟨k, b, t, ks, its⟩ ⟨ka, kc, ia, ic, hx, hfit, nk, ni, hS, hI⟩
    refine ⟨hfit.2.1, ?_⟩
    intro u hu
    obtain ⟨i, hi⟩ := List.getElem?_of_mem hu
    obtain ⟨b, o, c0, c1, c2, c3, c4, e, q0, q1, q2, q3, q4, hl⟩ := hI i u hi
    exact ih hl

theorem low_items {n m : Nat} {f : V n → Nat × Int → Except Int (Nat × Int)} {g : V m → Nat × Int → Except Int (Nat × Int)}
    (hf : ∀ u s s', f u s = .ok s' → ∃ u' : V m, (∀ w x, Lay w n x u → Lay w m x u') ∧ g u' s = .ok s') :
    ∀ (its : List (V n)) (s s' : Nat × Int), foldE f its s = .ok s' → ∃ its' : List (V m), its'.length = its.length ∧ (∀ (i : Nat) (u' : V m), its'[i]? = some u' → ∃ u : V n, its[i]? = some u ∧ ∀ w x, Lay w n x u → Lay w m x u') ∧ foldE g its' s = .ok s'
  | [], s, s', h => ⟨[], rfl, fun i u' h => by simp at h, h⟩
  | u :: its, s, s', h => by
    simp only [foldE] at h
    cases h1 : f u s with
    | error e => rw [h1] at h; cases h
    | ok s1 =>
      rw [h1] at h
      obtain ⟨u', q1, q2⟩ := hf u s s1 h1
      obtain ⟨its', r1, r2, r3⟩ := low_items hf its s1 s' h
      refine ⟨u' :: its', by simp [r1], ?_, by simp only [foldE, q2]; exact r3⟩
      intro i v hv
      cases i with
      | zero => simp at hv; subst hv; exact ⟨u, rfl, q1⟩
      | succ i => simp at hv; obtain ⟨v', h2, h3⟩ := r2 i v hv; exact ⟨v', by simpa using h2, h3⟩

/-- A tree that may be is at most eight deep. -/
theorem low : ∀ (n : Nat) (v : V n) (l : Int) (s s' : Nat × Int), wk n v l s = .ok s' → ∀ m : Nat, (m : Int) + l = 9 → ∃ u : V m, (∀ w x, Lay w n x v → Lay w m x u) ∧ wk m u l s = .ok s'
  | 0, v, _, _, _, _, _, _ => v.elim
  | n + 1, v, l, s, s', h, m, hm => by
    obtain ⟨k, b, t, ks, its⟩ := v
    obtain ⟨c, d⟩ := s
    simp only [wk] at h
    split at h
    · cases h
    · rename_i hl
      split at h
      · cases h
      · rename_i hc
        split at h
        · rename_i hmay
          obtain ⟨m, rfl⟩ : ∃ m', m = m' + 1 := ⟨m - 1, by omega⟩
          obtain ⟨its', r1, r2, r3⟩ := low_items (fun u s s' h => low n u (l + 1) s s' h m (by omega)) its _ _ h
          refine ⟨(k, b, t, ks, its'), ?_, ?_⟩
          · rintro w x ⟨ka, kc, ia, ic, hx, hfit, nk, ni, hS, hI⟩
            refine ⟨ka, kc, ia, ic, by rw [r1]; exact hx, by rw [r1]; exact hfit, nk, by rw [r1]; exact ni, hS, ?_⟩
            intro i u' hu'
            obtain ⟨u, hu, hlay⟩ := r2 i u' hu'
            obtain ⟨b, o, c0, c1, c2, c3, c4, e, q0, q1, q2, q3, q4, hl⟩ := hI i u hu
            exact ⟨b, o, c0, c1, c2, c3, c4, e, q0, q1, q2, q3, q4, hlay _ _ hl⟩
          · simp only [wk]
            rw [if_neg hl, if_neg hc, r1, if_pos hmay]
            exact r3
        · cases h

/-- A value that may be reads as a tree eight deep. -/
theorem Lay.eight {n : Nat} {v : V n} (h : chk v = 0) : ∃ u : V 8, (∀ w x, Lay w n x v → Lay w 8 x u) ∧ chk u = 0 := by
  obtain ⟨s, hs⟩ := wk_of_chk h
  obtain ⟨u, h1, h2⟩ := low n v 1 _ _ hs 8 (by decide)
  refine ⟨u, h1, ?_⟩
  unfold chk
  rw [h2]
  rfl
end Go.Proofs.Ytfdbhojghkdlkaa
