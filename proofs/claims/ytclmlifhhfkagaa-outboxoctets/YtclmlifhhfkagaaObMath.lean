/-
  Boxes as mathematics: may a box be, what an event's effects and an acknowledgement make of it.
-/
import Derived.Test.YtclmlifhhfkagaaObBase
namespace Go.Proofs.Ytclmlifhhfkagaa
open Go.ChangeShapes Go.WideShapes Go.ChangeAt Go.RowKit

/-- May an effect be? -/
def effE {n : Nat} (nm : ByteArray) (u : V n) : Int := if nm.size = 0 ∨ 16 < nm.size then 31 else chk u

/-- May items be, from the number lo on? -/
def okT {n : Nat} (L : Int) : Int → List (Tm n) → Bool
  | _, [] => true
  | lo, u :: r => decide (lo ≤ u.1) && decide (u.1 < 32 * (L + 1)) && decide (effE u.2.1 u.2.2 = 0) && okT L (u.1 + 1) r

/-- Check. -/
def chkB {n : Nat} (L : Int) (its : List (Tm n)) : Int := if 0 ≤ L ∧ L ≤ 1099511627776 ∧ its.length ≤ 256 ∧ okT L 32 its = true then 0 else 9

/-- The first fault of effects. -/
def effsE {n : Nat} : List (Ef n) → Int
  | [] => 0
  | u :: r => if effE u.1 u.2 = 0 then effsE r else effE u.1 u.2

/-- The first fault of an event. -/
def evE {n : Nat} (L s : Int) (l : List (Ef n)) : Int := if s ≤ L then 32 else if 1099511627776 < s then 4 else if 32 < l.length then 3 else effsE l

/-- An event's effects under their numbers. -/
def nums {n : Nat} (s : Int) : Nat → List (Ef n) → List (Tm n)
  | _, [] => []
  | k, u :: r => (32 * s + k, u.1, u.2) :: nums s (k + 1) r

/-- Add. -/
def addR {n : Nat} (L : Int) (its : List (Tm n)) (s : Int) (l : List (Ef n)) : Int × Int × List (Tm n) :=
  if chkB L its = 0 then if evE L s l = 0 then if its.length + l.length ≤ 256 then (0, s, its ++ nums s 0 l) else (51, 0, []) else (evE L s l, 0, []) else (9, 0, [])

/-- All but the item id. -/
def rem {n : Nat} (id : Int) (its : List (Tm n)) : List (Tm n) := its.filter fun u => !decide (u.1 = id)

/-- Ack. -/
def ackR {n : Nat} (L : Int) (its : List (Tm n)) (id : Int) : Int × Bool × Int × List (Tm n) :=
  if chkB L its = 0 then if 32 ≤ id ∧ id < 32 * (L + 1) then (0, its.any (fun u => decide (u.1 = id)), L, rem id its) else (4, false, 0, []) else (9, false, 0, [])

/-- Next. -/
def nextR {n : Nat} (L : Int) (its : List (Tm n)) (k : Int) : Int × List (Tm n) :=
  if chkB L its = 0 then if 0 ≤ k then (0, its.take k.toNat) else (4, []) else (9, [])

theorem chkB_cases {n : Nat} (L : Int) (its : List (Tm n)) : chkB L its = 0 ∨ chkB L its = 9 := by
  unfold chkB
  split
  · exact Or.inl rfl
  · exact Or.inr rfl

theorem chkB_ok {n : Nat} {L : Int} {its : List (Tm n)} (h : chkB L its = 0) : 0 ≤ L ∧ L ≤ 1099511627776 ∧ its.length ≤ 256 ∧ okT L 32 its = true := by
  unfold chkB at h
  by_cases hc : 0 ≤ L ∧ L ≤ 1099511627776 ∧ its.length ≤ 256 ∧ okT L 32 its = true
  · exact hc
  · rw [if_neg hc] at h; simp at h

theorem okT_cons {n : Nat} {L lo : Int} {u : Tm n} {r : List (Tm n)} : okT L lo (u :: r) = true ↔ lo ≤ u.1 ∧ u.1 < 32 * (L + 1) ∧ effE u.2.1 u.2.2 = 0 ∧ okT L (u.1 + 1) r = true := by
  simp [okT, and_assoc]

theorem okT_mem {n : Nat} {L : Int} : ∀ {its : List (Tm n)} {lo : Int}, okT L lo its = true → ∀ u ∈ its, lo ≤ u.1 ∧ u.1 < 32 * (L + 1) ∧ effE u.2.1 u.2.2 = 0
  | [], _, _, u, hu => by simp at hu
  | x :: r, lo, h, u, hu => by
    obtain ⟨h1, h2, h3, h4⟩ := okT_cons.1 h
    rcases List.mem_cons.1 hu with rfl | hu
    · exact ⟨h1, h2, h3⟩
    · have := okT_mem h4 u hu
      exact ⟨by omega, this.2⟩

theorem effE_chk {n : Nat} {nm : ByteArray} {u : V n} (h : effE nm u = 0) : chk u = 0 ∧ 1 ≤ nm.size ∧ nm.size ≤ 16 := by
  unfold effE at h
  by_cases hc : nm.size = 0 ∨ 16 < nm.size
  · rw [if_pos hc] at h; simp at h
  · rw [if_neg hc] at h; exact ⟨h, by omega, by omega⟩

theorem effE_mk {n : Nat} {nm : ByteArray} {u : V n} (h : chk u = 0) (h1 : 1 ≤ nm.size) (h2 : nm.size ≤ 16) : effE nm u = 0 := by
  unfold effE
  rw [if_neg (by omega)]
  exact h

theorem nums_length {n : Nat} (s : Int) : ∀ (k : Nat) (l : List (Ef n)), (nums s k l).length = l.length
  | _, [] => rfl
  | k, u :: r => by simp [nums, nums_length s (k + 1) r]

theorem nums_at {n : Nat} (s : Int) : ∀ (k : Nat) (l : List (Ef n)) (i : Nat), (nums s k l)[i]? = (l[i]?).map fun u => (32 * s + (k + i : Nat), u.1, u.2)
  | _, [], i => by simp [nums]
  | k, u :: r, 0 => by simp [nums]
  | k, u :: r, i + 1 => by
    simp only [nums, List.getElem?_cons_succ]
    rw [nums_at s (k + 1) r i, show k + 1 + i = k + (i + 1) from by omega]

theorem nums_snoc {n : Nat} (s : Int) (l : List (Ef n)) (m : Nat) (h : m < l.length) : nums s 0 (l.take (m + 1)) = nums s 0 (l.take m) ++ [(32 * s + m, l[m].1, l[m].2)] := by
  apply List.ext_getElem?
  intro i
  have e1 : (nums s 0 (l.take m)).length = m := by rw [nums_length]; simp; omega
  by_cases hi : i < m
  · rw [List.getElem?_append_left (by omega), nums_at, nums_at, List.getElem?_take, List.getElem?_take, if_pos hi, if_pos (by omega)]
  · rw [List.getElem?_append_right (by omega), nums_at, List.getElem?_take, e1]
    by_cases hm : i = m
    · subst hm; simp [h]
    · rw [if_neg (by omega)]
      obtain ⟨j, hj⟩ : ∃ j, i - m = j + 1 := ⟨i - m - 1, by omega⟩
      rw [hj]; simp

theorem effsE_ok {n : Nat} : ∀ {l : List (Ef n)}, effsE l = 0 → ∀ u ∈ l, effE u.1 u.2 = 0
  | [], _, u, hu => by simp at hu
  | x :: r, h, u, hu => by
    unfold effsE at h
    by_cases hx : effE x.1 x.2 = 0
    · rw [if_pos hx] at h
      rcases List.mem_cons.1 hu with rfl | hu
      · exact hx
      · exact effsE_ok h u hu
    · rw [if_neg hx] at h; exact absurd h hx

theorem evE_ok {n : Nat} {L s : Int} {l : List (Ef n)} (h : evE L s l = 0) : L < s ∧ s ≤ 1099511627776 ∧ l.length ≤ 32 ∧ effsE l = 0 := by
  unfold evE at h
  by_cases h1 : s ≤ L
  · rw [if_pos h1] at h; simp at h
  · rw [if_neg h1] at h
    by_cases h2 : 1099511627776 < s
    · rw [if_pos h2] at h; simp at h
    · rw [if_neg h2] at h
      by_cases h3 : 32 < l.length
      · rw [if_pos h3] at h; simp at h
      · rw [if_neg h3] at h; exact ⟨by omega, by omega, by omega, h⟩

/-- Rising items, with one of them left out, are all but that one. -/
theorem rem_at {n : Nat} {L : Int} : ∀ {its : List (Tm n)} {lo : Int}, okT L lo its = true → ∀ (m : Nat) (h : m < its.length), its.take m ++ its.drop (m + 1) = rem its[m].1 its
  | [], _, _, m, h => by simp at h
  | x :: r, lo, ho, 0, _ => by
    obtain ⟨h1, h2, h3, h4⟩ := okT_cons.1 ho
    simp only [List.take_zero, List.nil_append, List.drop_succ_cons, List.drop_zero, List.getElem_cons_zero, rem, List.filter_cons, decide_true, Bool.not_true, Bool.false_eq_true, if_false]
    symm
    apply List.filter_eq_self.2
    intro u hu
    have := (okT_mem h4 u hu).1
    simp; omega
  | x :: r, lo, ho, m + 1, h => by
    obtain ⟨h1, h2, h3, h4⟩ := okT_cons.1 ho
    have hm : m < r.length := by simpa using h
    have ih := rem_at h4 m hm
    have hx : x.1 < r[m].1 := by have := (okT_mem h4 r[m] (List.getElem_mem hm)).1; omega
    simp only [List.take_succ_cons, List.drop_succ_cons, List.cons_append, List.getElem_cons_succ, rem, List.filter_cons]
    rw [if_pos (by simp; omega)]
    simp only [rem] at ih
    rw [← ih]

theorem rem_none {n : Nat} {id : Int} {its : List (Tm n)} (h : ∀ u ∈ its, ¬ u.1 = id) : rem id its = its := by
  apply List.filter_eq_self.2
  intro u hu
  simpa using h u hu

theorem okT_drop {n : Nat} {L lo : Int} {its : List (Tm n)} {m : Nat} (h : m < its.length) (lo' : Int) (e : okT L lo its = okT L lo' (its.drop m)) : okT L lo its = (decide (lo' ≤ its[m].1) && decide (its[m].1 < 32 * (L + 1)) && decide (effE its[m].2.1 its[m].2.2 = 0) && okT L (its[m].1 + 1) (its.drop (m + 1))) := by
  rw [e, List.drop_eq_getElem_cons h, okT]
end Go.Proofs.Ytclmlifhhfkagaa
