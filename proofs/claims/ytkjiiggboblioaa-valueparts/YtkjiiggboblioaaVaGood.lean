/-
  The comparisons are an order, and 0 just for one value; plain mathematics.
-/
import Derived.Test.YtkjiiggboblioaaVaOrder
import Derived.Test.YtkjiiggboblioaaVaRefWalk
namespace Go.Proofs.Ytkjiiggboblioaa
open Go.ChangeShapes Go.WideShapes Go.ChangeAt Go.RowKit
open Fl

/-- A comparison that is an order. -/
def Good {α : Type} (f : α → α → Int) : Prop :=
  (∀ a b, f b a = - f a b) ∧ (∀ a b c, f a b = 0 → f a c = f b c) ∧ (∀ a b c, 0 < f a b → 0 < f b c → 0 < f a c)

theorem Good.right {α : Type} {f : α → α → Int} (h : Good f) {a b : α} (c : α) (hb : f b c = 0) : f a b = f a c := by
  have h1 := h.2.1 b c a hb
  have h2 := h.1 b a
  have h3 := h.1 c a
  omega

theorem Good.lex {α : Type} {f g : α → α → Int} (hf : Good f) (hg : Good g) : Good (fun a b => if f a b = 0 then g a b else f a b) := by
  refine ⟨fun a b => ?_, fun a b c h => ?_, fun a b c h1 h2 => ?_⟩
  · have h1 := hf.1 a b
    have h2 := hg.1 a b
    simp only
    by_cases h : f a b = 0
    · rw [if_pos h, if_pos (by omega)]; exact h2
    · rw [if_neg h, if_neg (by omega)]; exact h1
  · simp only at h ⊢
    by_cases h0 : f a b = 0
    · rw [if_pos h0] at h
      rw [hf.2.1 a b c h0, hg.2.1 a b c h]
    · rw [if_neg h0] at h; exact absurd h h0
  · simp only at h1 h2 ⊢
    by_cases a0 : f a b = 0
    · rw [if_pos a0] at h1
      have e := hf.2.1 a b c a0
      by_cases b0 : f b c = 0
      · rw [if_pos b0] at h2
        rw [if_pos (by omega)]
        exact hg.2.2 a b c h1 h2
      · rw [if_neg b0] at h2
        rw [if_neg (by omega)]
        omega
    · rw [if_neg a0] at h1
      by_cases b0 : f b c = 0
      · have e := hf.right (a := a) c b0
        rw [if_neg (by omega)]
        omega
      · rw [if_neg b0] at h2
        have := hf.2.2 a b c h1 h2
        rw [if_neg (by omega)]
        exact this

theorem Good.map {α β : Type} {f : β → β → Int} (hf : Good f) (p : α → β) : Good (fun a b => f (p a) (p b)) :=
  ⟨fun a b => hf.1 (p a) (p b), fun a b c => hf.2.1 (p a) (p b) (p c), fun a b c => hf.2.2 (p a) (p b) (p c)⟩

theorem icmp_good : Good icmp := by
  refine ⟨fun a b => ?_, fun a b c h => ?_, fun a b c h1 h2 => ?_⟩
  · unfold icmp; split <;> split <;> (try split) <;> omega
  · have : a = b := by unfold icmp at h; split at h <;> (try split at h) <;> omega
    rw [this]
  · have e1 : b < a := by unfold icmp at h1; split at h1 <;> (try split at h1) <;> omega
    have e2 : c < b := by unfold icmp at h2; split at h2 <;> (try split at h2) <;> omega
    unfold icmp
    rw [if_neg (by omega), if_pos (by omega)]
    decide

theorem icmp_zero {a b : Int} (h : icmp a b = 0) : a = b := by unfold icmp at h; split at h <;> (try split at h) <;> omega

theorem less_trans : ∀ x y z : List UInt8, Op.bytesLess x y = true → Op.bytesLess y z = true → Op.bytesLess x z = true
  | _, _, [], _, h => by simp [Op.bytesLess] at h
  | [], _, c :: z, _, _ => rfl
  | _ :: _, [], _ :: _, h, _ => by simp [Op.bytesLess] at h
  | a :: x, b :: y, c :: z, h1, h2 => by
    simp only [Op.bytesLess, Bool.or_eq_true, Bool.and_eq_true, decide_eq_true_eq, beq_iff_eq] at h1 h2 ⊢
    rcases h1 with h1 | ⟨rfl, h1⟩
    · rcases h2 with h2 | ⟨rfl, h2⟩
      · exact Or.inl (UInt8.lt_trans h1 h2)
      · exact Or.inl h1
    · rcases h2 with h2 | ⟨rfl, h2⟩
      · exact Or.inl h2
      · exact Or.inr ⟨rfl, less_trans x y z h1 h2⟩

theorem less_eq {x y : List UInt8} (h1 : Op.bytesLess x y = false) (h2 : Op.bytesLess y x = false) : x = y := by
  have := less_turn x y
  rw [h1, h2] at this
  simp at this
  exact this.symm

theorem scmp_zero {s t : ByteArray} (h : scmp s t = 0) : s = t := by
  unfold scmp at h
  split at h
  · omega
  · split at h
    · omega
    · rename_i h1 h2
      exact bytes_ext (less_eq (by simpa using h1) (by simpa using h2))

theorem less_asymm {x y : List UInt8} (h : Op.bytesLess x y = true) : Op.bytesLess y x = false := by
  cases e : Op.bytesLess y x with
  | false => rfl
  | true => have := less_trans x y x h e; rw [less_self] at this; cases this

theorem scmp_good : Good scmp := by
  refine ⟨fun a b => ?_, fun a b c h => ?_, fun a b c h1 h2 => ?_⟩
  · unfold scmp
    cases h1 : Op.bytesLess a.toList b.toList with
    | true => rw [less_asymm h1]; simp
    | false => cases h2 : Op.bytesLess b.toList a.toList <;> simp
  · rw [scmp_zero h]
  · have e1 : Op.bytesLess b.toList a.toList = true := by
      unfold scmp at h1; split at h1
      · omega
      · split at h1
        · assumption
        · omega
    have e2 : Op.bytesLess c.toList b.toList = true := by
      unfold scmp at h2; split at h2
      · omega
      · split at h2
        · assumption
        · omega
    have e3 := less_trans _ _ _ e2 e1
    unfold scmp
    rw [less_asymm e3, e3]
    decide

theorem lcmp_good {α : Type} {f : α → α → Int} (hf : Good f) : Good (lcmp f) := by
  refine ⟨fun a => ?_, fun a => ?_, fun a => ?_⟩
  · induction a with
    | nil => intro b; cases b <;> rfl
    | cons x a ih =>
      intro b
      cases b with
      | nil => rfl
      | cons y b =>
        have h1 := hf.1 x y
        simp only [lcmp]
        by_cases h : f x y = 0
        · rw [if_pos h, if_pos (by omega)]; exact ih b
        · rw [if_neg h, if_neg (by omega)]; exact h1
  · induction a with
    | nil => intro b c h; cases b <;> simp_all [lcmp]
    | cons x a ih =>
      intro b c h
      cases b with
      | nil => simp [lcmp] at h
      | cons y b =>
        simp only [lcmp] at h
        by_cases h0 : f x y = 0
        · rw [if_pos h0] at h
          cases c with
          | nil => rfl
          | cons z c =>
            simp only [lcmp]
            rw [hf.2.1 x y z h0, ih b c h]
        · rw [if_neg h0] at h; exact absurd h h0
  · induction a with
    | nil => intro b c h; cases b <;> simp [lcmp] at h
    | cons x a ih =>
      intro b c h1 h2
      cases b with
      | nil => cases c <;> simp [lcmp] at h2
      | cons y b =>
        cases c with
        | nil => simp [lcmp]
        | cons z c =>
          simp only [lcmp] at h1 h2 ⊢
          by_cases a0 : f x y = 0
          · rw [if_pos a0] at h1
            have e := hf.2.1 x y z a0
            by_cases b0 : f y z = 0
            · rw [if_pos b0] at h2
              rw [if_pos (by omega)]
              exact ih b c h1 h2
            · rw [if_neg b0] at h2
              rw [if_neg (by omega)]
              omega
          · rw [if_neg a0] at h1
            by_cases b0 : f y z = 0
            · have e := hf.right (a := x) z b0
              rw [if_neg (by omega)]
              omega
            · rw [if_neg b0] at h2
              have := hf.2.2 x y z h1 h2
              rw [if_neg (by omega)]
              exact this

theorem vcmp_good (n : Nat) : Good (vcmp n) := by
  induction n with
  | zero => exact ⟨fun a => a.elim, fun a => a.elim, fun a => a.elim⟩
  | succ n ih =>
    have h1 : Good (fun a b : V (n + 1) => icmp a.1 b.1) := icmp_good.map (α := V (n + 1)) fun a => a.1
    have h2 : Good (fun a b : V (n + 1) => icmp (rnk a.1 a.2.1) (rnk b.1 b.2.1)) := icmp_good.map (α := V (n + 1)) fun a => rnk a.1 a.2.1
    have h3 : Good (fun a b : V (n + 1) => scmp a.2.2.1 b.2.2.1) := scmp_good.map (α := V (n + 1)) fun a => a.2.2.1
    have h4 : Good (fun a b : V (n + 1) => lcmp scmp a.2.2.2.1 b.2.2.2.1) := (lcmp_good scmp_good).map (α := V (n + 1)) fun a => a.2.2.2.1
    have h5 : Good (fun a b : V (n + 1) => lcmp (vcmp n) a.2.2.2.2 b.2.2.2.2) := (lcmp_good ih).map (α := V (n + 1)) fun a => a.2.2.2.2
    have h := h1.lex (h2.lex (h3.lex (h4.lex h5)))
    have e : (vcmp (n + 1)) = fun a b : V (n + 1) => if icmp a.1 b.1 = 0 then (if icmp (rnk a.1 a.2.1) (rnk b.1 b.2.1) = 0 then (if scmp a.2.2.1 b.2.2.1 = 0 then (if lcmp scmp a.2.2.2.1 b.2.2.2.1 = 0 then lcmp (vcmp n) a.2.2.2.2 b.2.2.2.2 else lcmp scmp a.2.2.2.1 b.2.2.2.1) else scmp a.2.2.1 b.2.2.1) else icmp (rnk a.1 a.2.1) (rnk b.1 b.2.1)) else icmp a.1 b.1 := by
      funext ⟨k, b, t, ks, its⟩ ⟨k', b', t', ks', its'⟩
      rfl
    rw [e]
    exact h

/-- Each part may be. -/
def okV : (n : Nat) → V n → Prop
  | 0, _ => False
  | n + 1, (k, b, t, ks, its) => mayB k b t ks its.length = true ∧ ∀ u ∈ its, okV n u

theorem foldE_mem {α S : Type} {f : α → S → Except Int S} : ∀ (l : List α) (s s' : S), foldE f l s = .ok s' → ∀ a ∈ l, ∃ s1 s2, f a s1 = .ok s2
  | [], _, _, _, _, h => by cases h
  | x :: l, s, s', h, a, ha => by
    simp only [foldE] at h
    cases hfx : f x s with
    | error e => rw [hfx] at h; cases h
    | ok s1 =>
      rw [hfx] at h
      rcases List.mem_cons.1 ha with rfl | ha
      · exact ⟨s, s1, hfx⟩
      · exact foldE_mem l s1 s' h a ha

theorem ok_of_wk (n : Nat) : ∀ (v : V n) (l : Int) (s s' : Nat × Int), wk n v l s = .ok s' → okV n v := by
  induction n with
  | zero => intro v; exact v.elim
  | succ n ih =>
    rintro ⟨k, b, t, ks, its⟩ l ⟨c, d⟩ s' h
    simp only [wk] at h
    split at h
    · cases h
    · split at h
      · cases h
      · split at h
        · rename_i hm
          refine ⟨hm, fun u hu => ?_⟩
          obtain ⟨s1, s2, h1⟩ := foldE_mem its _ s' h u hu
          exact ih u (l + 1) s1 s2 h1
        · cases h

theorem ok_of_chk {n : Nat} {v : V n} (h : chk v = 0) : okV n v := by
  unfold chk at h
  cases hw : wk n v 1 (0, 0) with
  | error e =>
    rw [hw] at h
    simp only [msr] at h
    rcases wk_err n _ _ _ _ hw with e1 | e1 | e1 <;> omega
  | ok s => exact ok_of_wk n v 1 _ s hw

theorem chk_pos {n : Nat} (v : V n) : 0 ≤ chk v := by
  unfold chk
  cases hw : wk n v 1 (0, 0) with
  | error e =>
    simp only [msr]
    rcases wk_err n _ _ _ _ hw with e1 | e1 | e1 <;> omega
  | ok s => obtain ⟨c, d⟩ := s; simp [msr]
end Go.Proofs.Ytkjiiggboblioaa
