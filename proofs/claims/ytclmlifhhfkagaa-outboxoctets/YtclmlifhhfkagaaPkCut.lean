/-
  Octets of a value that are cut off are refused: plain mathematics.
-/
import Derived.Test.YtclmlifhhfkagaaPkRead
namespace Go.Proofs.Ytclmlifhhfkagaa
open Go.ChangeShapes Go.WideShapes Go.ChangeAt Go.RowKit
open Fl

theorem bits_cut {b : Int} {l x : List UInt8} (h : octs b = l ++ x) (hx : x ≠ []) : rdBits l = .error 8 := by
  have h1 := congrArg List.length h
  rw [octs_length, List.length_append] at h1
  have h2 := List.length_pos_iff.2 hx
  unfold rdBits nxtN
  rw [if_pos (by omega)]

theorem txt_cut {t : ByteArray} {lo hi : Nat} (h1 : lo ≤ t.size) (h2 : t.size ≤ hi) (h3 : t.size < 256) {l x : List UInt8} (h : txt t = l ++ x) (hx : x ≠ []) : rdText lo hi l = .error 8 := by
  cases l with
  | nil => rfl
  | cons o l =>
    simp only [txt, List.cons_append, List.cons.injEq] at h
    obtain ⟨rfl, h⟩ := h
    have h4 := congrArg List.length h
    have hl : t.toList.length = t.size := by rw [ByteArray.toList_eq]; rfl
    rw [hl, List.length_append] at h4
    have h5 := List.length_pos_iff.2 hx
    have hs : (UInt8.ofNat t.size).toNat = t.size := by simp; omega
    simp only [rdText, hs]
    rw [if_neg (by omega)]
    unfold nxtN
    rw [if_pos (by omega)]

/-- Cut within the first, or behind it. -/
theorem cut_cases {a c l x : List UInt8} (h : a ++ c = l ++ x) (_hx : x ≠ []) : (∃ y, a = l ++ y ∧ y ≠ []) ∨ ∃ l', l = a ++ l' ∧ c = l' ++ x := by
  rcases List.append_eq_append_iff.1 h with ⟨l', h1, h2⟩ | ⟨y, h1, h2⟩
  · exact Or.inr ⟨l', h1, h2⟩
  · by_cases hy : y = []
    · subst hy
      exact Or.inr ⟨[], by simpa using h1.symm, by simpa using h2.symm⟩
    · exact Or.inl ⟨y, h1, hy⟩

theorem items_cut {n : Nat} (hcut : ∀ u : V n, okV n u → bitsV n u → ∀ l x, enc n u = l ++ x → x ≠ [] → ∀ p, rd n (l, p) = .error 8) :
    ∀ (its acc : List (V n)) (l x : List UInt8) (p : Nat), (∀ u ∈ its, okV n u) → (∀ u ∈ its, bitsV n u) → (its.map (enc n)).flatten = l ++ x → x ≠ [] → iterE (stepI (rd n)) its.length (acc, (l, p)) = .error 8
  | [], acc, l, x, p, _, _, h, hx => by simp at h; exact absurd h.2 hx
  | u :: its, acc, l, x, p, ho, hb, h, hx => by
    simp only [List.map_cons, List.flatten_cons] at h
    rcases cut_cases h hx with ⟨y, h1, h2⟩ | ⟨l', rfl, h2⟩
    · simp only [List.length_cons, iterE, stepI, hcut u (ho u (by simp)) (hb u (by simp)) l y h1 h2]
    · simp only [List.length_cons, iterE, stepI, rd_enc n u (ho u (by simp)) (hb u (by simp))]
      exact items_cut hcut its _ l' x _ (fun v hv => ho v (by simp [hv])) (fun v hv => hb v (by simp [hv])) h2 hx

theorem fields_cut {n : Nat} (hcut : ∀ u : V n, okV n u → bitsV n u → ∀ l x, enc n u = l ++ x → x ≠ [] → ∀ p, rd n (l, p) = .error 8) :
    ∀ (ks : List ByteArray) (its : List (V n)) (ka : List ByteArray) (acc : List (V n)) (l x : List UInt8) (p : Nat), ks.length = its.length → rise ka.getLast? ks → (∀ u ∈ its, okV n u) → (∀ u ∈ its, bitsV n u) →
      (List.zipWith (fun s e => txt s ++ e) ks (its.map (enc n))).flatten = l ++ x → x ≠ [] → iterE (stepF (rd n)) its.length (ka, acc, (l, p)) = .error 8
  | [], [], ka, acc, l, x, p, _, _, _, _, h, hx => by simp at h; exact absurd h.2 hx
  | [], _ :: _, _, _, _, _, _, h, _, _, _, _, _ => by simp at h
  | _ :: _, [], _, _, _, _, _, h, _, _, _, _, _ => by simp at h
  | k :: ks, u :: its, ka, acc, l, x, p, hl, hr, ho, hb, h, hx => by
    obtain ⟨r1, r2, r3⟩ := hr
    simp only [List.map_cons, List.zipWith_cons_cons, List.flatten_cons, List.append_assoc] at h
    rcases cut_cases h hx with ⟨y, h1, h2⟩ | ⟨l1, rfl, h2⟩
    · simp only [List.length_cons, iterE, stepF, txt_cut (key_le r1).1 (key_le r1).2 (by have := (key_le r1).2; omega) h1 h2]
    · have h3 := txt_back k 1 16 (key_le r1).1 (key_le r1).2 (by have := (key_le r1).2; omega) l1
      rcases cut_cases h2 hx with ⟨y, h4, h5⟩ | ⟨l2, rfl, h4⟩
      · simp only [List.length_cons, iterE, stepF, h3, r2, Bool.true_eq_false, if_false, hcut u (ho u (by simp)) (hb u (by simp)) l1 y h4 h5]
      · simp only [List.length_cons, iterE, stepF, h3, r2, Bool.true_eq_false, if_false, rd_enc n u (ho u (by simp)) (hb u (by simp))]
        exact fields_cut hcut ks its _ _ l2 x _ (by simpa using hl) (by simpa using r3) (fun v hv => ho v (by simp [hv])) (fun v hv => hb v (by simp [hv])) h4 hx

/-- Octets that are cut off. -/
theorem rd_cut : ∀ (n : Nat) (u : V n), okV n u → bitsV n u → ∀ l x, enc n u = l ++ x → x ≠ [] → ∀ p, rd n (l, p) = .error 8
  | 0, u, _, _, _, _, _, _, _ => u.elim
  | n + 1, u, ho, hb, [], x, _, _, p => rfl
  | n + 1, u, ho, hb, o :: l, x, h, hx, p => by
    obtain ⟨k, b, t, ks, its⟩ := u
    obtain ⟨hm, hos⟩ := ho
    obtain ⟨hU, hbs⟩ := hb
    have hm' := may_iff.1 hm
    have hit : ∀ {l : List (V n)}, l.length = 0 → l = [] := fun h => List.eq_nil_of_length_eq_zero h
    generalize hil : its.length = il at hm'
    cases hm' with
    | nothing => simp [enc] at h; exact absurd h.2.2 hx
    | truth b _ => simp [enc] at h; exact absurd h.2.2 hx
    | number b _ =>
      simp only [enc, show ¬ (2 : Int) = 0 by decide, show ¬ (2 : Int) = 1 by decide, if_false, if_true, List.cons_append, List.cons.injEq] at h
      obtain ⟨rfl, h⟩ := h
      simp only [rd, show (3 : UInt8).toNat = 3 by rfl, show ¬ (3 : Nat) = 0 by decide, show ¬ ((3 : Nat) = 1 ∨ (3 : Nat) = 2) by decide, if_false, if_true, bits_cut h hx]
    | text t hs =>
      simp only [enc, show ¬ (3 : Int) = 0 by decide, show ¬ (3 : Int) = 1 by decide, show ¬ (3 : Int) = 2 by decide, if_false, if_true, List.cons_append, List.cons.injEq] at h
      obtain ⟨rfl, h⟩ := h
      simp only [rd, show (4 : UInt8).toNat = 4 by rfl, show ¬ (4 : Nat) = 0 by decide, show ¬ ((4 : Nat) = 1 ∨ (4 : Nat) = 2) by decide, show ¬ (4 : Nat) = 3 by decide, if_false, if_true, txt_cut (Nat.zero_le _) hs (by omega) h hx]
    | list _ hs =>
      subst hil
      simp only [enc, pcs, show ¬ (4 : Int) = 0 by decide, show ¬ (4 : Int) = 1 by decide, show ¬ (4 : Int) = 2 by decide, show ¬ (4 : Int) = 3 by decide, show ¬ (4 : Int) = 5 by decide, if_false, if_true, List.cons_append, List.cons.injEq] at h
      obtain ⟨rfl, h⟩ := h
      cases l with
      | nil => rfl
      | cons o l =>
        simp only [List.cons_append, List.cons.injEq] at h
        obtain ⟨rfl, h⟩ := h
        simp only [rd, show (5 : UInt8).toNat = 5 by rfl, show ¬ (5 : Nat) = 0 by decide, show ¬ ((5 : Nat) = 1 ∨ (5 : Nat) = 2) by decide, show ¬ (5 : Nat) = 3 by decide, show ¬ (5 : Nat) = 4 by decide, if_false, if_true, count_back its.length hs, items_cut (fun u => rd_cut n u) its [] l x (p + 1) hos hbs h hx]
    | record _ hs hk =>
      simp only [enc, pcs, show ¬ (5 : Int) = 0 by decide, show ¬ (5 : Int) = 1 by decide, show ¬ (5 : Int) = 2 by decide, show ¬ (5 : Int) = 3 by decide, show ¬ (5 : Int) = 4 by decide, if_false, if_true, List.cons_append, List.cons.injEq] at h
      obtain ⟨rfl, h⟩ := h
      cases l with
      | nil => rfl
      | cons o l =>
        simp only [List.cons_append, List.cons.injEq] at h
        obtain ⟨rfl, h⟩ := h
        simp only [rd, show (6 : UInt8).toNat = 6 by rfl, show ¬ (6 : Nat) = 0 by decide, show ¬ ((6 : Nat) = 1 ∨ (6 : Nat) = 2) by decide, show ¬ (6 : Nat) = 3 by decide, show ¬ (6 : Nat) = 4 by decide, show ¬ (6 : Nat) = 5 by decide, if_false, if_true, count_back its.length (by omega), fields_cut (fun u => rd_cut n u) ks its [] [] l x (p + 1) hil.symm (rise_of_keys hk) hos hbs h hx]
end Go.Proofs.Ytclmlifhhfkagaa
