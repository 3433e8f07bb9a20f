/-
  What follows, as mathematics, for the laws of lis.
-/
import Derived.Test.YteceljjmandnmaaLiAlive
namespace Go.Proofs.Yteceljjmandnmaa
open Go.ChangeShapes Go.WideShapes Go.ChangeAt Go.RowKit Go.Deep
open Li

namespace Li
theorem fr_drop : ∀ (ks : List Int) (i : Nat), (fr ks).drop i = fr (ks.drop i)
  | [], i => by simp [fr]
  | x :: l, 0 => rfl
  | x :: l, i + 1 => by simpa [fr] using fr_drop l i

theorem fr_at {ks : List Int} {i : Nat} (h : i < (fr ks).length) (h' : i < ks.length) : (fr ks)[i] = srch (heads (ks.drop (i + 1))) ks[i] + 1 := by
  have h1 := fr_drop ks i
  rw [List.drop_eq_getElem_cons h, List.drop_eq_getElem_cons h'] at h1
  simp only [fr, List.cons.injEq] at h1
  exact h1.1

theorem pk_drop {ks : List Int} {i due : Nat} (h : i < (fr ks).length) (h' : i < ks.length) : pk (ks.drop i) due = if (fr ks)[i] = due then ks[i] :: pk (ks.drop (i + 1)) (due - 1) else pk (ks.drop (i + 1)) due := by
  rw [fr_at h h', List.drop_eq_getElem_cons h']
  rfl

/-- A list that rises has no place that moves. -/
theorem mov_rises {l : List Int} (h : Rises l) : mov l = [] ∧ len l = l.length := by
  have h1 := rise_le l l (List.Sublist.refl _) h
  have h2 := mov_length l
  have h3 := heads_le_len l
  exact ⟨List.eq_nil_of_length_eq_zero (by omega), by omega⟩

theorem pk_rises (l : List Int) : Rises (pk l (len l)) ∧ (pk l (len l)).length = len l := ⟨(pk_all l (len l) (Nat.le_refl _)).2.1, (pk_all l (len l) (Nat.le_refl _)).1⟩
/-- One number more. -/
theorem len_more (l : List Int) (x : Int) : len l ≤ len (l ++ [x]) ∧ len (l ++ [x]) ≤ len l + 1 ∧ ((∀ y ∈ l, y < x) → len (l ++ [x]) = len l + 1) := by
  have h1 := pk_rises l
  have hs := pk_sub l (len l)
  have up : len (l ++ [x]) ≤ len l + 1 := by
    have h2 := pk_rises (l ++ [x])
    obtain ⟨t1, t2, he, ht1, ht2⟩ := List.sublist_append_iff.1 (pk_sub (l ++ [x]) (len (l ++ [x])))
    have hr := h2.1
    rw [he] at hr
    have h3 := rise_le l t1 ht1 (List.pairwise_append.1 hr).1
    have h4 := ht2.length_le
    have h5 := h2.2
    rw [he] at h5
    simp only [List.length_append, List.length_cons, List.length_nil] at h4 h5
    omega
  refine ⟨?_, up, fun ht => ?_⟩
  · have := rise_le (l ++ [x]) _ (hs.trans (List.sublist_append_left l [x])) h1.1
    omega
  · have h3 : Rises (pk l (len l) ++ [x]) := List.pairwise_append.2 ⟨h1.1, List.pairwise_singleton _ _, fun a ha b hb => by
      have e : b = x := by simpa using hb
      rw [e]
      exact ht a (hs.subset ha)⟩
    have := rise_le (l ++ [x]) _ (hs.append (List.Sublist.refl [x])) h3
    simp only [List.length_append, List.length_cons, List.length_nil] at this
    omega

/-- Are all numbers less than x? -/
def tp (l : List Int) (x : Int) : Bool := l.all fun y => decide (y < x)

theorem tp_step {l : List Int} {i : Nat} (h : i < l.length) (x : Int) : tp (l.take (i + 1)) x = (tp (l.take i) x && decide (l[i] < x)) := by
  rw [List.take_succ_eq_append_getElem h]
  unfold tp
  rw [List.all_append]
  simp only [List.all_cons, List.all_nil, Bool.and_true]

theorem tp_more (l : List Int) (x : Int) : len (l ++ [x]) = len l + 1 ∨ (len (l ++ [x]) = len l ∧ tp l x = false) := by
  obtain ⟨h1, h2, h3⟩ := len_more l x
  by_cases ht : tp l x = true
  · left
    refine h3 fun y hy => ?_
    have := List.all_eq_true.1 ht y hy
    simpa using this
  · have ht' : tp l x = false := by simpa using ht
    rcases Nat.lt_or_ge (len l) (len (l ++ [x])) with h | h
    · left; omega
    · right; exact ⟨by omega, ht'⟩
end Li

/-- Length of a list whose length is told otherwise. -/
theorem length_n (ks : List Int) (n : Nat) (h : ks.length = n) (hn : n ≤ 256) (la : Option Addr) (c : Nat) (w : World) (hl : Nm w la c ks) :
    Calls Try.prog 12 #[.slice la n c] w fun e w' => e = .returned (.tuple #[.int .i64 (len ks : Int), .int .i64 0]) ∧ Below w.heap.size w w' := by
  have := length_any ks la c w hl
  subst h
  rw [show lenR ks = (len ks : Int) from if_pos hn, show errR ks = 0 from if_pos hn] at this
  exact this

theorem moves_n (ks : List Int) (n : Nat) (h : ks.length = n) (hn : n ≤ 256) (la : Option Addr) (c : Nat) (w : World) (hl : Nm w la c ks) :
    Calls Try.prog 14 #[.slice la n c] w fun e w' => ∃ v, e = .returned (.tuple #[v, .int .i64 0]) ∧ OwnI w' w.heap.size v (ints (mov ks)) ∧ Below w.heap.size w w' := by
  have := moves_any ks la c w hl
  subst h
  rw [show movR ks = ints (mov ks) from if_pos hn, show errR ks = 0 from if_pos hn] at this
  exact this

theorem sp_fst {fs : List Nat} {i due : Nat} (h : i < fs.length) (he : fs[i] = due) : (sp (fs.drop i) due i).1 = i :: (sp (fs.drop (i + 1)) (due - 1) (i + 1)).1 ∧ (sp (fs.drop i) due i).2 = (sp (fs.drop (i + 1)) (due - 1) (i + 1)).2 := by
  rw [sp_drop h, if_pos he]
  exact ⟨rfl, rfl⟩
theorem sp_snd {fs : List Nat} {i due : Nat} (h : i < fs.length) (he : ¬ fs[i] = due) : (sp (fs.drop i) due i).1 = (sp (fs.drop (i + 1)) due (i + 1)).1 ∧ (sp (fs.drop i) due i).2 = i :: (sp (fs.drop (i + 1)) due (i + 1)).2 := by
  rw [sp_drop h, if_neg he]
  exact ⟨rfl, rfl⟩

theorem drop_cons {α : Type} {l r : List α} {k : Nat} {x : α} (h : l.drop k = x :: r) : k < l.length ∧ l[k]? = some x ∧ l.drop (k + 1) = r := by
  have hk : k < l.length := by
    rcases Nat.lt_or_ge k l.length with h' | h'
    · exact h'
    · rw [List.drop_eq_nil_of_le h'] at h; cases h
  rw [List.drop_eq_getElem_cons hk] at h
  simp only [List.cons.injEq] at h
  exact ⟨hk, by rw [List.getElem?_eq_getElem hk, h.1], h.2⟩
end Go.Proofs.Yteceljjmandnmaa
