/-
  The reading of an expression, as plain mathematics.
-/
import Derived.Test.YtnliokikcpnllaaExRdB
namespace Go.Proofs.Ytnliokikcpnllaa
open Go.ChangeShapes Go.WideShapes Go.ChangeAt Go.RowKit
open Fl

/-- A part's bits, or its text. -/
def headR (k : Int) (s : SX) : Except Int (Int × ByteArray × SX) :=
  if k = 3 then (match bitsR s with | .error e => .error e | .ok (b, s') => .ok (b, ⟨#[]⟩, s'))
  else if k = 4 ∨ k = 8 ∨ k = 25 then (match textR (texB k).1 (texB k).2 s with | .error e => .error e | .ok (t, s') => .ok (0, t, s'))
  else .ok (0, ⟨#[]⟩, s)

/-- So many parts, one behind the other. -/
def iterX {α : Type} (f : SX → Except Int (α × SX)) : Nat → SX → Except Int (List α × SX)
  | 0, s => .ok ([], s)
  | m + 1, s => match iterX f m s with
    | .error e => .error e
    | .ok (l, s1) => match f s1 with
      | .error e => .error e
      | .ok (a, s2) => .ok (l ++ [a], s2)

/-- An expression out of octets: n levels are left. -/
def rdX : (n : Nat) → SX → Except Int (X n × SX)
  | 0, _ => .error 10
  | n + 1, s => match opR (s.1, s.2 + 1) with
    | .error e => .error e
    | .ok (k, s1) => match headR k s1 with
      | .error e => .error e
      | .ok (b, t, s2) => match countR k s2 with
        | .error e => .error e
        | .ok (m, s3) => match iterX (rdX n) m.toNat s3 with
          | .error e => .error e
          | .ok (its, s4) => .ok ((k, b, t, its), s4)

theorem iterX_len {α : Type} {f : SX → Except Int (α × SX)} : ∀ (m : Nat) (s s' : SX) (l : List α), iterX f m s = .ok (l, s') → l.length = m
  | 0, s, s', l, h => by simp only [iterX] at h; cases h; rfl
  | m + 1, s, s', l, h => by
    simp only [iterX] at h
    cases h1 : iterX f m s with
    | error e => rw [h1] at h; cases h
    | ok ls =>
      obtain ⟨l1, s1⟩ := ls
      rw [h1] at h
      simp only at h
      cases h2 : f s1 with
      | error e => rw [h2] at h; cases h
      | ok ua =>
        obtain ⟨a, s2⟩ := ua
        rw [h2] at h
        cases h
        simp [iterX_len m s s1 l1 h1]

theorem iterX_stop {α : Type} {f : SX → Except Int (α × SX)} {m : Nat} {s : SX} {e : Int} (h : iterX f m s = .error e) : ∀ k, iterX f (m + k) s = .error e
  | 0 => h
  | k + 1 => by
    show (match iterX f (m + k) s with | .error e => Except.error e | .ok (l, s1) => match f s1 with | .error e => .error e | .ok (a, s2) => .ok (l ++ [a], s2)) = _
    rw [iterX_stop h k]

theorem iterX_next {α : Type} {f : SX → Except Int (α × SX)} {m : Nat} {s s1 : SX} {l : List α} (h : iterX f m s = .ok (l, s1)) : iterX f (m + 1) s = match f s1 with | .error e => .error e | .ok (a, s2) => .ok (l ++ [a], s2) := by
  simp only [iterX, h]

/-- What is left never grows by more than what was begun; parts never grow fewer. -/
def Less (s s' : SX) : Prop := s'.1.length + s'.2 ≤ s.1.length + s.2 ∧ s.2 ≤ s'.2
theorem Less.refl (s : SX) : Less s s := ⟨Nat.le_refl _, Nat.le_refl _⟩
theorem Less.trans {a b c : SX} (h : Less a b) (k : Less b c) : Less a c := ⟨Nat.le_trans k.1 h.1, Nat.le_trans h.2 k.2⟩

theorem octetX_less {s s' : SX} {k : Int} (h : octetX s = .ok (k, s')) : s'.1.length + 1 = s.1.length ∧ s'.2 = s.2 := by
  obtain ⟨l, q⟩ := s
  cases l with
  | nil => cases h
  | cons o r => simp only [octetX] at h; cases h; exact ⟨rfl, rfl⟩

theorem opR_ok {s s' : SX} {k : Int} (h : opR s = .ok (k, s')) : (0 ≤ k ∧ k ≤ 29) ∧ s'.1.length + 1 = s.1.length ∧ s'.2 = s.2 := by
  unfold opR at h
  cases h1 : octetX s with
  | error e => rw [h1] at h; cases h
  | ok ks =>
    obtain ⟨k1, s1⟩ := ks
    rw [h1] at h
    simp only at h
    by_cases h2 : withinB k1 0 29 = true
    · rw [if_pos h2] at h
      cases h
      exact ⟨within_iff.1 h2, octetX_less h1⟩
    · rw [if_neg h2] at h
      cases h

theorem headR_ok {s s' : SX} {k b : Int} {t : ByteArray} (h : headR k s = .ok (b, t, s')) : U b ∧ t.size ≤ 255 ∧ Less s s' ∧ s'.2 = s.2 := by
  unfold headR at h
  by_cases h3 : k = 3
  · rw [if_pos h3] at h
    unfold bitsR at h
    by_cases h8 : s.1.length < 8
    · rw [if_pos h8] at h; cases h
    · rw [if_neg h8] at h
      by_cases hc : can (numO (s.1.take 8)) = numO (s.1.take 8)
      · rw [if_pos hc] at h
        cases h
        exact ⟨(octs_numO (by rw [List.length_take]; omega)).2, by decide, ⟨by simp, Nat.le_refl _⟩, rfl⟩
      · rw [if_neg hc] at h; cases h
  · rw [if_neg h3] at h
    by_cases h4 : k = 4 ∨ k = 8 ∨ k = 25
    · rw [if_pos h4] at h
      unfold textR at h
      cases h1 : octetX s with
      | error e => rw [h1] at h; cases h
      | ok ks =>
        obtain ⟨n, s1⟩ := ks
        rw [h1] at h
        simp only at h
        have hb := octetX_bd h1
        have hl := octetX_less h1
        by_cases h5 : withinB n (texB k).1 (texB k).2 = true
        · rw [if_pos h5] at h
          by_cases h6 : s1.1.length < n.toNat
          · rw [if_pos h6] at h; cases h
          · rw [if_neg h6] at h
            cases h
            refine ⟨⟨by decide, by decide⟩, ?_, ⟨?_, ?_⟩, ?_⟩
            · show (s1.1.take n.toNat).toArray.size ≤ 255
              rw [List.size_toArray, List.length_take]
              omega
            · simp only [List.length_drop]; omega
            · simp only; omega
            · simp only; omega
        · rw [if_neg h5] at h; cases h
    · rw [if_neg h4] at h
      cases h
      exact ⟨⟨by decide, by decide⟩, by decide, Less.refl _, rfl⟩

theorem countR_ok {s s' : SX} {k m : Int} (h : countR k s = .ok (m, s')) : (0 ≤ m ∧ m ≤ 8) ∧ Less s s' ∧ s'.2 = s.2 := by
  unfold countR at h
  have ha : 0 ≤ (argB k).1 := by
    unfold argB
    split
    · decide
    · split
      · decide
      · split
        · decide
        · split <;> decide
  have hb := argB_le k
  by_cases h0 : (argB k).1 = (argB k).2
  · rw [if_pos h0] at h
    cases h
    exact ⟨⟨ha, by omega⟩, Less.refl _, rfl⟩
  · rw [if_neg h0] at h
    cases h1 : octetX s with
    | error e => rw [h1] at h; cases h
    | ok ks =>
      obtain ⟨n, s1⟩ := ks
      rw [h1] at h
      simp only at h
      have hbd := octetX_bd h1
      have hl := octetX_less h1
      by_cases h2 : (argB k).2 < n
      · rw [if_pos h2] at h; cases h
      · rw [if_neg h2] at h
        cases h
        exact ⟨⟨hbd.1, by omega⟩, ⟨by omega, by omega⟩, hl.2⟩

theorem iterX_less {α : Type} {f : SX → Except Int (α × SX)} (hf : ∀ s a s', f s = .ok (a, s') → Less s s') : ∀ (m : Nat) (s s' : SX) (l : List α), iterX f m s = .ok (l, s') → Less s s'
  | 0, s, s', l, h => by simp only [iterX] at h; cases h; exact Less.refl _
  | m + 1, s, s', l, h => by
    simp only [iterX] at h
    cases h1 : iterX f m s with
    | error e => rw [h1] at h; cases h
    | ok ls =>
      obtain ⟨l1, s1⟩ := ls
      rw [h1] at h
      simp only at h
      cases h2 : f s1 with
      | error e => rw [h2] at h; cases h
      | ok ua =>
        obtain ⟨a, s2⟩ := ua
        rw [h2] at h
        cases h
        exact (iterX_less hf m s s1 l1 h1).trans (hf _ _ _ h2)

theorem rdX_inv {n : Nat} {s s' : SX} {v : X (n + 1)} (h : rdX (n + 1) s = .ok (v, s')) : ∃ k b t m its s1 s2 s3, opR (s.1, s.2 + 1) = .ok (k, s1) ∧ headR k s1 = .ok (b, t, s2) ∧ countR k s2 = .ok (m, s3) ∧ iterX (rdX n) m.toNat s3 = .ok (its, s') ∧ v = (k, b, t, its) := by
  simp only [rdX] at h
  cases h1 : opR (s.1, s.2 + 1) with
  | error e => rw [h1] at h; cases h
  | ok ks =>
    obtain ⟨k, s1⟩ := ks
    rw [h1] at h
    simp only at h
    cases h2 : headR k s1 with
    | error e => rw [h2] at h; cases h
    | ok bts =>
      obtain ⟨b, t, s2⟩ := bts
      rw [h2] at h
      simp only at h
      cases h3 : countR k s2 with
      | error e => rw [h3] at h; cases h
      | ok ms =>
        obtain ⟨m, s3⟩ := ms
        rw [h3] at h
        simp only at h
        cases h4 : iterX (rdX n) m.toNat s3 with
        | error e => rw [h4] at h; cases h
        | ok is =>
          obtain ⟨its, s4⟩ := is
          rw [h4] at h
          cases h
          exact ⟨k, b, t, m, its, s1, s2, s3, rfl, h2, h3, h4, rfl⟩

theorem rdX_less (n : Nat) : ∀ (s s' : SX) (v : X n), rdX n s = .ok (v, s') → Less s s' := by
  induction n with
  | zero => intro s s' v; exact v.elim
  | succ n ih =>
    intro s s' v h
    obtain ⟨k, b, t, m, its, s1, s2, s3, h1, h2, h3, h4, -⟩ := rdX_inv h
    have q1 := (opR_ok h1).2
    have q2 := (headR_ok h2).2.2.1
    have q3 := (countR_ok h3).2.1
    have q4 := iterX_less (fun s a s' h => ih s s' a h) _ _ _ _ h4
    have q5 := (q2.trans q3).trans q4
    obtain ⟨a1, a2⟩ := q5
    simp only at q1
    exact ⟨by omega, by omega⟩
end Go.Proofs.Ytnliokikcpnllaa
