/-
  An expression's octets, as plain mathematics.
-/
import Derived.Test.YtnliokikcpnllaaExPart
namespace Go.Proofs.Ytnliokikcpnllaa
open Go.ChangeShapes Go.WideShapes Go.ChangeAt Go.RowKit
open Fl

/-- An expression's octets. -/
def encX : (n : Nat) → X n → List UInt8
  | 0, _ => []
  | n + 1, (k, b, t, its) => octP (k, b, t, its.length) ++ (its.map (encX n)).flatten

/-- One part's octets more. -/
def stE (d : Int) (p : Nd4) (l : List UInt8) : Except Int (List UInt8) :=
  if d ≤ 8 ∧ mayX p.1 p.2.1 p.2.2.1 p.2.2.2 = true ∧ l.length ≤ 100000 then .ok (l ++ octP p) else .error 0

theorem stE_deep (d : Int) (p : Nd4) (s s' : List UInt8) (h : stE d p s = .ok s') : d ≤ 1000 := by
  unfold stE at h
  split at h
  · rename_i h1; omega
  · cases h

theorem stE_ok {d : Int} {p : Nd4} {s s' : List UInt8} (h : stE d p s = .ok s') : mayX p.1 p.2.1 p.2.2.1 p.2.2.2 = true ∧ s.length ≤ 100000 ∧ s' = s ++ octP p := by
  unfold stE at h
  split at h
  · rename_i h1; cases h; exact ⟨h1.2.1, h1.2.2, rfl⟩
  · cases h

theorem stM_ok {d : Int} {p : Nd4} {s s' : Nat × Int} (h : stM d p s = .ok s') : d ≤ 8 ∧ s.1 < 64 ∧ mayX p.1 p.2.1 p.2.2.1 p.2.2.2 = true ∧ s' = (s.1 + 1, max d s.2) := by
  unfold stM at h
  by_cases h1 : 8 < d
  · rw [if_pos h1] at h; cases h
  rw [if_neg h1] at h
  by_cases h2 : 64 ≤ s.1
  · rw [if_pos h2] at h; cases h
  rw [if_neg h2] at h
  by_cases h3 : mayX p.1 p.2.1 p.2.2.1 p.2.2.2 = true
  · rw [if_pos h3] at h; cases h; exact ⟨by omega, by omega, h3, rfl⟩
  · rw [if_neg h3] at h; cases h

theorem pre_inv {S : Type} {st : Int → Nd4 → S → Except Int S} {n : Nat} {k b d : Int} {t : ByteArray} {its : List (X n)} {s s' : S} (h : pre st (n + 1) (k, b, t, its) d s = .ok s') : ∃ s1, st d (k, b, t, its.length) s = .ok s1 ∧ foldX (fun u s => pre st n u (d + 1) s) its s1 = .ok s' := by
  cases h1 : st d (k, b, t, its.length) s with
  | error e => rw [pre_err h1] at h; cases h
  | ok s1 => rw [pre_ok h1] at h; exact ⟨s1, rfl, h⟩

theorem enc_pre (n : Nat) : ∀ (v : X n) (d : Int) (s s' : Nat × Int) (l : List UInt8), pre stM n v d s = .ok s' → l.length ≤ 200 * s.1 → pre stE n v d l = .ok (l ++ encX n v) ∧ (l ++ encX n v).length ≤ 200 * s'.1 := by
  induction n with
  | zero => intro v; exact v.elim
  | succ n ih =>
    rintro ⟨k, b, t, its⟩ d s s' l h hl
    obtain ⟨s1, h1, h2⟩ := pre_inv h
    obtain ⟨hd, hc, hmay, rfl⟩ := stM_ok h1
    have hE : stE d (k, b, t, its.length) l = .ok (l ++ octP (k, b, t, its.length)) := by
      unfold stE
      rw [if_pos ⟨hd, hmay, by omega⟩]
    rw [pre_ok hE]
    have hlen : (l ++ octP (k, b, t, its.length)).length ≤ 200 * (s.1 + 1) := by
      have : (octP (k, b, t, its.length)).length ≤ 200 := octP_len hmay
      rw [List.length_append]
      omega
    have key : ∀ (r : List (X n)) (s1 s' : Nat × Int) (l : List UInt8), foldX (fun u s => pre stM n u (d + 1) s) r s1 = .ok s' → l.length ≤ 200 * s1.1 →
        foldX (fun u s => pre stE n u (d + 1) s) r l = .ok (l ++ (r.map (encX n)).flatten) ∧ (l ++ (r.map (encX n)).flatten).length ≤ 200 * s'.1 := by
      intro r
      induction r with
      | nil =>
        intro s1 s' l h hl
        simp only [foldX] at h ⊢
        cases h
        simpa using hl
      | cons a r ihr =>
        intro s1 s' l h hl
        simp only [foldX] at h ⊢
        cases h3 : pre stM n a (d + 1) s1 with
        | error e => rw [h3] at h; cases h
        | ok s2 =>
          rw [h3] at h
          obtain ⟨q1, q2⟩ := ih a (d + 1) s1 s2 l h3 hl
          rw [q1]
          obtain ⟨q3, q4⟩ := ihr s2 s' _ h q2
          refine ⟨?_, ?_⟩
          · simp only [q3, List.map_cons, List.flatten_cons, List.append_assoc]
          · simpa using q4
    obtain ⟨q1, q2⟩ := key its _ s' _ h2 hlen
    refine ⟨?_, ?_⟩
    · rw [q1]
      simp only [encX, List.append_assoc]
    · simpa [encX] using q2
end Go.Proofs.Ytnliokikcpnllaa
