/-
  Trees as mathematics: may a tree be, how many nodes has it, how deep is it.
-/
import Derived.Test.YtcdnakcojanaeabGreatTrBase
namespace Go.Proofs.YtcdnakcojanaeabGreat
open Go.ChangeShapes Go.WideShapes Go.ChangeAt Go.RowKit

/-- A letter a to z? -/
def ltr (o : UInt8) : Bool := decide (97 ≤ o.toNat ∧ o.toNat ≤ 122)
/-- A name: 1 to 16 letters? -/
def nameB (s : ByteArray) : Bool := decide (1 ≤ s.size) && decide (s.size ≤ 16) && s.data.toList.all ltr
/-- May the attribute at i be? -/
def okA (l : List Atr) (i : Nat) : Bool := match l[i]? with
  | none => true
  | some a => nameB a.1 && decide (a.2.size ≤ 128) && (decide (i = 0) || (match l[i - 1]? with
    | none => true
    | some p => Op.bytesLess p.1.toList a.1.toList))
/-- May attributes be? -/
def attrsB (l : List Atr) : Bool := decide (l.length ≤ 16) && (List.range l.length).all (okA l)
/-- May a node be by itself? -/
def nodeB (g k t : ByteArray) (ats : List Atr) (il : Nat) : Bool :=
  if g.size = 0 then decide (t.size ≤ 128) && decide (k.size = 0) && decide (ats.length = 0) && decide (il = 0)
  else nameB g && decide (k.size ≤ 16) && decide (t.size = 0) && attrsB ats && decide (il ≤ 16)
/-- Has the kid at i a key that one ahead of it has? -/
def twAt (ks : List ByteArray) (i : Nat) : Bool := match ks[i]? with
  | none => false
  | some k => decide (¬ k.size = 0) && (ks.take i).any (fun x => x.toList == k.toList)
def twB (ks : List ByteArray) : Bool := (List.range ks.length).any (twAt ks)

def keyT : {n : Nat} → T n → ByteArray
  | 0, v => v.elim
  | _ + 1, v => v.2.1
def tagT : {n : Nat} → T n → ByteArray
  | 0, v => v.elim
  | _ + 1, v => v.1
def keysT {n : Nat} (its : List (T n)) : List ByteArray := its.map keyT

/-- Kids one after another: how many nodes, how deep. -/
def wkK {α : Type} (f : α → Nat → Int × Nat × Nat) : List α → Nat → Nat → Int × Nat × Nat
  | [], c, d => (0, c, d)
  | k :: r, c, d => if (f k c).1 = 0 then wkK f r (f k c).2.1 (max d (f k c).2.2) else f k c

/-- The walk: the first error, how many nodes, how deep. -/
def wk : {n : Nat} → T n → Nat → Nat → Int × Nat × Nat
  | 0, v, _, _ => v.elim
  | _ + 1, v, L, c => if 8 < L then (10, c, L) else if 256 ≤ c then (3, c, L) else if nodeB v.1 v.2.1 v.2.2.1 v.2.2.2.1 v.2.2.2.2.length = false then (9, c, L) else if twB (keysT v.2.2.2.2) = true then (6, c, L) else
      wkK (fun u c' => wk u (L + 1) c') v.2.2.2.2 (c + 1) L

theorem wk_node {n : Nat} (g k t : ByteArray) (ats : List Atr) (its : List (T n)) (L c : Nat) : wk (n := n + 1) (g, k, t, ats, its) L c = if 8 < L then (10, c, L) else if 256 ≤ c then (3, c, L) else if nodeB g k t ats its.length = false then (9, c, L) else if twB (keysT its) = true then (6, c, L) else
      wkK (fun u c' => wk u (L + 1) c') its (c + 1) L := rfl

/-- Check's error; how many nodes; how deep. -/
def sizeT : {n : Nat} → T n → Int × Nat × Nat
  | 0, v => v.elim
  | _ + 1, v => if v.1.size = 0 then (9, 0, 0) else if (wk v 1 0).1 = 0 then wk v 1 0 else ((wk v 1 0).1, 0, 0)

theorem wkK_ok {α : Type} {f : α → Nat → Int × Nat × Nat} (hf : ∀ u c, c ≤ 256 → (f u c).2.1 ≤ 256 ∧ c ≤ (f u c).2.1 ∧ (f u c).2.2 ≤ 9) : ∀ (l : List α) (c d : Nat), c ≤ 256 → d ≤ 9 → (wkK f l c d).2.1 ≤ 256 ∧ c ≤ (wkK f l c d).2.1 ∧ (wkK f l c d).2.2 ≤ 9 ∧ ((wkK f l c d).1 = 0 → d ≤ (wkK f l c d).2.2)
  | [], c, d, hc, hd => ⟨hc, Nat.le_refl _, hd, fun _ => Nat.le_refl _⟩
  | k :: r, c, d, hc, hd => by
    have h := hf k c hc
    unfold wkK
    by_cases h0 : (f k c).1 = 0
    · rw [if_pos h0]
      have := wkK_ok hf r (f k c).2.1 (max d (f k c).2.2) h.1 (by omega)
      exact ⟨this.1, by omega, this.2.2.1, fun e => by have := this.2.2.2 e; omega⟩
    · rw [if_neg h0]
      exact ⟨h.1, h.2.1, h.2.2, fun e => absurd e h0⟩

theorem wk_ok : ∀ (n : Nat) (v : T n) (L c : Nat), L ≤ 9 → c ≤ 256 → (wk v L c).2.1 ≤ 256 ∧ c ≤ (wk v L c).2.1 ∧ (wk v L c).2.2 ≤ 9 ∧ ((wk v L c).1 = 0 → L ≤ (wk v L c).2.2 ∧ L ≤ 8 ∧ c < (wk v L c).2.1)
  | 0, v, _, _, _, _ => v.elim
  | n + 1, v, L, c, hL, hc => by
    obtain ⟨g, k, t, ats, its⟩ := v
    rw [wk_node]
    by_cases h1 : 8 < L
    · rw [if_pos h1]; exact ⟨hc, Nat.le_refl _, hL, fun e => by simp at e⟩
    · rw [if_neg h1]
      by_cases h2 : 256 ≤ c
      · rw [if_pos h2]; exact ⟨hc, Nat.le_refl _, hL, fun e => by simp at e⟩
      · rw [if_neg h2]
        by_cases h3 : nodeB g k t ats its.length = false
        · rw [if_pos h3]; exact ⟨hc, Nat.le_refl _, hL, fun e => by simp at e⟩
        · rw [if_neg h3]
          by_cases h4 : twB (keysT its) = true
          · rw [if_pos h4]; exact ⟨hc, Nat.le_refl _, hL, fun e => by simp at e⟩
          · rw [if_neg h4]
            have := wkK_ok (f := fun u c' => wk u (L + 1) c') (fun u c' hc' => by have := wk_ok n u (L + 1) c' (by omega) hc'; exact ⟨this.1, this.2.1, this.2.2.1⟩) its (c + 1) L (by omega) hL
            exact ⟨this.1, by omega, this.2.2.1, fun e => ⟨this.2.2.2 e, by omega, by omega⟩⟩

/-- The first m kids, then the others. -/
theorem wkK_take {α : Type} {f : α → Nat → Int × Nat × Nat} : ∀ (l : List α) (m c d : Nat) (_ : m < l.length), (wkK f (l.take m) c d).1 = 0 →
    wkK f (l.take (m + 1)) c d = if (f l[m] (wkK f (l.take m) c d).2.1).1 = 0 then (0, (f l[m] (wkK f (l.take m) c d).2.1).2.1, max (wkK f (l.take m) c d).2.2 (f l[m] (wkK f (l.take m) c d).2.1).2.2) else f l[m] (wkK f (l.take m) c d).2.1
  | [], m, c, d, h, _ => by simp at h
  | k :: r, 0, c, d, h, _ => by simp [wkK]
  | k :: r, m + 1, c, d, h, h0 => by
    simp only [List.take_succ_cons, wkK] at h0 ⊢
    by_cases hk : (f k c).1 = 0
    · rw [if_pos hk] at h0
      simp only [if_pos hk, List.getElem_cons_succ]
      exact wkK_take r m _ _ (by simpa using h) h0
    · rw [if_neg hk] at h0
      exact absurd h0 hk

/-- An error among the first ones is that of all. -/
theorem wkK_err {α : Type} {f : α → Nat → Int × Nat × Nat} : ∀ (l : List α) (m c d : Nat), ¬ (wkK f (l.take m) c d).1 = 0 → wkK f l c d = wkK f (l.take m) c d
  | [], m, c, d, _ => by simp
  | k :: r, 0, c, d, h => by simp [wkK] at h
  | k :: r, m + 1, c, d, h => by
    simp only [List.take_succ_cons, wkK] at h ⊢
    by_cases hk : (f k c).1 = 0
    · rw [if_pos hk] at h
      simp only [if_pos hk]
      exact wkK_err r m _ _ h
    · simp only [if_neg hk]

theorem all_range {p : Nat → Bool} {n : Nat} : (List.range n).all p = true ↔ ∀ i, i < n → p i = true := by simp [List.all_eq_true]
theorem all_range_false {p : Nat → Bool} {n i : Nat} (hi : i < n) (h : p i = false) : (List.range n).all p = false := by
  rw [List.all_eq_false]; exact ⟨i, List.mem_range.2 hi, by simp [h]⟩
theorem any_range {p : Nat → Bool} {n : Nat} : (List.range n).any p = false ↔ ∀ i, i < n → p i = false := by simp [List.any_eq_false]
theorem any_range_true {p : Nat → Bool} {n i : Nat} (hi : i < n) (h : p i = true) : (List.range n).any p = true := by
  rw [List.any_eq_true]; exact ⟨i, List.mem_range.2 hi, h⟩
end Go.Proofs.YtcdnakcojanaeabGreat
