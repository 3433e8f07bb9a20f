/-
  The page's Check as mathematics: it is the program's.
-/
import Derived.Test.YtocodkoanjcmkabWlCheck
import Derived.Test.YtocodkoanjcmkabWlApp
namespace Go.Proofs.Ytocodkoanjcmkab
open Go.ChangeShapes Go.WideShapes Go.ChangeAt Go.RowKit Go.Deep
open Se

theorem wrap_id' {n : Int} (h0 : -9223372036854775808 ≤ n) (h1 : n ≤ 9223372036854775807) : wrap64 n = n := by unfold wrap64; omega
/-- The page's first. -/
def fstR (l : List UInt8) : Int := if (getR l).1 ≠ 0 then 0 else if (getR l).2.2.1.length < 8 then 0 else if 1099511627776 < numO ((getR l).2.2.1.take 8) then 0 else numO ((getR l).2.2.1.take 8)
def dueP : List (List UInt8) → Int → Int
  | [], nx => nx
  | s :: _, _ => fstR s
def runP : List (List UInt8) → Int → Option Int
  | [], d => some d
  | s :: ss, d => if d < 1 ∨ (scR s d).1.length = 0 ∨ (scR s d).2 ≠ s.length ∨ 480 < (scR s d).2 then none else runP ss (wrap64 (d + (scR s d).1.length))
def chkP (ss : List (List UInt8)) (nx : Int) : Int :=
  if nx < 1 ∨ 1099511627776 < nx ∨ 64 < ss.length then 9 else if runP ss (dueP ss nx) = some nx then 0 else 9

theorem sc_some {l : List UInt8} {nx : Int} (h : (scR l nx).2 ≠ 0) : (scR l nx).1.length ≠ 0 ∧ (tkR l).2.2.2 = true ∧ (tkR l).1 = nx := by
  by_cases hk : (tkR l).2.2.2 = true ∧ (tkR l).1 = nx
  · rw [scR_yes hk]
    exact ⟨by simp, hk⟩
  · rw [scR_no hk] at h
    simp at h
theorem sc_len {l : List UInt8} {nx : Int} (h : (scR l nx).1.length ≠ 0) : (tkR l).2.2.2 = true ∧ (tkR l).1 = nx ∧ 0 < (scR l nx).2 := by
  have h2 := scR_le l nx
  obtain ⟨a, b⟩ := (sc_some (l := l) (nx := nx) (by omega)).2
  exact ⟨a, b, by omega⟩
theorem sc_neg {l : List UInt8} {nx : Int} (h : nx < 0) : scR l nx = ([], 0) := scR_no (by
  rintro ⟨h1, h2⟩
  have := tkR_facts h1
  omega)
/-- Behind a number that has gone round there is nothing more. -/
theorem run_up {ss : List (List UInt8)} {d e : Int} {k : Nat} (hd : 1 ≤ d) (hd2 : d ≤ 9223372036854775807) (hk : k ≤ 30) (h : runS ss (wrap64 (d + k)) = some e) (he : 1 ≤ e) : 1 ≤ wrap64 (d + k) ∧ wrap64 (d + k) = d + k := by
  by_cases hle : d + k ≤ 9223372036854775807
  · rw [wrap_id' (by omega) hle]
    omega
  · exfalso
    have hneg : wrap64 (d + k) < 0 := by unfold wrap64; omega
    cases ss with
    | nil =>
      simp only [runS, Option.some.injEq] at h
      omega
    | cons s ss =>
      simp only [runS] at h
      split at h
      · simp at h
      · rename_i h1
        rw [sc_neg hneg] at h
        simp only at h
        rw [if_pos (by omega)] at h
        simp at h
theorem runP_of : ∀ {ss : List (List UInt8)} {d e : Int}, 1 ≤ d → d ≤ 9223372036854775807 → 1 ≤ e → runS ss d = some e → runP ss d = some e ∧ d ≤ e
  | [], d, e, _, _, _, h => by
    simp only [runS, Option.some.injEq] at h
    exact ⟨by simp only [runP, h], by omega⟩
  | s :: ss, d, e, hd, hd2, he, h => by
    simp only [runS] at h
    split at h
    · simp at h
    · rename_i h1
      split at h
      · simp at h
      · rename_i h2
        have h3 := scR_le s d
        have h4 := sc_some (l := s) (nx := d) (by omega)
        have hk : (scR s d).1.length ≤ 30 := by omega
        obtain ⟨u1, u2⟩ := run_up hd hd2 hk h he
        rw [u2] at h u1
        obtain ⟨i1, i2⟩ := runP_of (ss := ss) u1 (by rw [← u2]; unfold wrap64; omega) he h
        simp only [runP]
        rw [if_neg (by omega), u2]
        exact ⟨i1, by omega⟩
theorem runS_of : ∀ {ss : List (List UInt8)} {d e : Int}, runP ss d = some e → runS ss d = some e
  | [], d, e, h => h
  | s :: ss, d, e, h => by
    simp only [runP] at h
    split at h
    · simp at h
    · rename_i h1
      have h2 := sc_len (l := s) (nx := d) (by omega)
      simp only [runS]
      rw [if_neg (by omega), if_neg (by omega)]
      exact runS_of h
theorem chk_eq (ss : List (List UInt8)) (nx : Int) : chkP ss nx = chkW ss nx := by
  unfold chkP chkW
  by_cases hA : nx < 1 ∨ 1099511627776 < nx ∨ 64 < ss.length
  · rw [if_pos hA, if_pos hA]
  · rw [if_neg hA, if_neg hA]
    cases ss with
    | nil =>
      simp only [dueP, oldR, runP, runS]
      rw [if_neg (show ¬ nx < 1 by omega)]
    | cons s ss =>
      have e1 : dueP (s :: ss) nx = fstR s := rfl
      have e2 : oldR (s :: ss) nx = (tkR s).1 := rfl
      rw [e1, e2]
      by_cases hold : (tkR s).1 < 1
      · rw [if_pos hold, if_neg]
        intro h
        simp only [runP] at h
        split at h
        · simp at h
        · rename_i h1
          have h2 := sc_len (l := s) (nx := fstR s) (by omega)
          omega
      · rw [if_neg hold]
        have hok : (tkR s).2.2.2 = true := by
          cases hb : (tkR s).2.2.2 with
          | true => rfl
          | false =>
            exfalso
            have e : (tkR s).1 = 0 := by
              unfold tkR at hb ⊢
              repeat' split at hb
              all_goals simp_all
            omega
        obtain ⟨a1, a2, a3, a4, a5, a6⟩ := tkR_ok hok
        have hfa := tkR_facts hok
        by_cases hr : runS (s :: ss) (tkR s).1 = some nx
        · rw [if_pos hr]
          obtain ⟨p1, p2⟩ := runP_of (by omega) (by omega) (by omega) hr
          have hf : fstR s = (tkR s).1 := by
            have e : (tkR s).1 = numO ((getR s).2.2.1.take 8) := by rw [a6]
            unfold fstR
            rw [if_neg (by omega), if_neg (by omega), if_neg (by omega), e]
          rw [hf, if_pos p1]
        · rw [if_neg hr, if_neg]
          intro h
          have h2 := runS_of h
          have h3 : fstR s = (tkR s).1 := by
            simp only [runP] at h
            split at h
            · simp at h
            · rename_i h1
              exact (sc_len (l := s) (nx := fstR s) (by omega)).2.1.symm
          rw [h3] at h2
          exact hr h2
end Go.Proofs.Ytocodkoanjcmkab
