/-
  The page's reckoning of lengths, as mathematics.
-/
import Derived.Test.YteceljjmandnmaaLiLaw
namespace Go.Proofs.Yteceljjmandnmaa
open Go.ChangeShapes Go.WideShapes Go.ChangeAt Go.RowKit Go.Deep
open Li

namespace Li
/-- What the page has behind the first k numbers of l. -/
def bm (x : Int) (l : List Int) : Nat → Nat
  | 0 => 1
  | k + 1 => if x < l.getD k 0 then max (bm x l k) ((fr l).getD k 0 + 1) else bm x l k

theorem bm_mono (x : Int) (l : List Int) (k : Nat) : ∀ m, bm x l k ≤ bm x l (k + m)
  | 0 => Nat.le_refl _
  | m + 1 => by
    have h := bm_mono x l k m
    rw [← Nat.add_assoc]
    simp only [bm]
    split <;> omega

theorem fr_srch {l : List Int} {x : Int} {j : Nat} (h : j < l.length) (hx : x < l[j]) : (fr l)[j]'(by rw [fr_length]; exact h) ≤ srch (heads l) x := by
  obtain ⟨h1, h2, y, hy, hxy⟩ := fr_heads l j ((fr l)[j]'(by rw [fr_length]; exact h)) l[j] (List.getElem?_eq_getElem _) (List.getElem?_eq_getElem h)
  generalize (fr l)[j]'(by rw [fr_length]; exact h) = f at *
  rcases Nat.lt_or_ge (srch (heads l) x) f with hlt | hge
  · exfalso
    have h3 := srch_ge (heads l) x ((heads l)[srch (heads l) x]'(by omega)) (List.getElem?_eq_getElem (by omega))
    rcases Nat.lt_or_eq_of_le (show srch (heads l) x ≤ f - 1 by omega) with q | q
    · have := heads_falls l _ _ _ _ q (List.getElem?_eq_getElem (by omega)) hy
      omega
    · rw [← q] at hy
      have := srch_ge (heads l) x y hy
      omega
  · exact hge

theorem bm_le (x : Int) (l : List Int) : ∀ k, k ≤ l.length → bm x l k ≤ srch (heads l) x + 1
  | 0, _ => by simp [bm]
  | k + 1, h => by
    have ih := bm_le x l k (by omega)
    simp only [bm]
    have hk : k < l.length := by omega
    have e1 : l.getD k 0 = l[k] := by simp [List.getD, hk]
    have hf : k < (fr l).length := by rw [fr_length]; exact hk
    have e2 : (fr l).getD k 0 = (fr l)[k] := by simp [List.getD, hf]
    rw [e1, e2]
    split
    · rename_i hx
      have := fr_srch hk hx
      omega
    · exact ih

theorem bm_all (x : Int) (l : List Int) : bm x l l.length = srch (heads l) x + 1 := by
  have h1 := bm_le x l l.length (Nat.le_refl _)
  rcases Nat.eq_zero_or_pos (srch (heads l) x) with h0 | h0
  · have := bm_mono x l 0 l.length
    rw [Nat.zero_add] at this
    simp only [bm] at this
    omega
  · have hle := srch_le (heads l) x
    have hy := srch_lt (heads l) x (srch (heads l) x - 1) ((heads l)[srch (heads l) x - 1]'(by omega)) (by omega) (List.getElem?_eq_getElem (by omega))
    obtain ⟨j, hj1, hj2⟩ := heads_fr l (srch (heads l) x - 1) _ (List.getElem?_eq_getElem (show srch (heads l) x - 1 < (heads l).length by omega))
    have hjl := (List.getElem?_eq_some_iff.1 hj2).1
    have h2 : bm x l (j + 1) = max (bm x l j) (srch (heads l) x + 1) := by
      simp only [bm]
      have e1 : l.getD j 0 = (heads l)[srch (heads l) x - 1] := by simp [List.getD, hj2]
      have e2 : (fr l).getD j 0 = srch (heads l) x := by simp [List.getD, hj1]; omega
      rw [e1, e2, if_pos hy]
    have h3 := bm_mono x l (j + 1) (l.length - (j + 1))
    have e : j + 1 + (l.length - (j + 1)) = l.length := by omega
    rw [e, h2] at h3
    omega

/-- The greatest of all. -/
def mxl : List Nat → Nat
  | [] => 0
  | f :: fs => max f (mxl fs)

theorem mxl_snoc : ∀ (l : List Nat) (f : Nat), mxl (l ++ [f]) = max (mxl l) f
  | [], f => by simp [mxl]
  | g :: l, f => by simp only [List.cons_append, mxl, mxl_snoc l f]; omega
theorem mxl_le {l : List Nat} {m : Nat} (h : ∀ f ∈ l, f ≤ m) : mxl l ≤ m := by
  induction l with
  | nil => exact Nat.zero_le _
  | cons f l ih =>
    have h1 := h f List.mem_cons_self
    have h2 := ih fun g hg => h g (List.mem_cons_of_mem _ hg)
    simp only [mxl]
    omega
theorem le_mxl {l : List Nat} {f : Nat} (h : f ∈ l) : f ≤ mxl l := by
  induction l with
  | nil => cases h
  | cons g l ih =>
    simp only [mxl]
    rcases List.mem_cons.1 h with rfl | h
    · omega
    · have := ih h
      omega

theorem mxl_fr (ks : List Int) : mxl (fr ks) = len ks := by
  have h1 : mxl (fr ks) ≤ len ks := mxl_le fun f hf => by
    obtain ⟨j, hj, rfl⟩ := List.getElem_of_mem hf
    have hk : j < ks.length := by rwa [fr_length] at hj
    exact (fr_heads ks j _ _ (List.getElem?_eq_getElem hj) (List.getElem?_eq_getElem hk)).2.1
  rcases Nat.eq_zero_or_pos (len ks) with h0 | h0
  · omega
  · have hl : len ks - 1 < (heads ks).length := by unfold len at *; omega
    obtain ⟨j, hj, -⟩ := heads_fr ks (len ks - 1) _ (List.getElem?_eq_getElem hl)
    have := le_mxl (List.mem_of_getElem? hj)
    omega

theorem sp_zero : ∀ (ks : List Int) (p : Nat), (sp (fr ks) 0 p).1 = []
  | [], _ => rfl
  | x :: l, p => by simp [fr, sp, sp_zero l]

/-- What the page's choice keeps to: places lg are taken, due are to come from place i on. -/
structure Pick (ks : List Int) (i due : Nat) (lg : List Nat) : Prop where
  all : lon ks = lg ++ (sp ((fr ks).drop i) due i).1
  room : due ≤ (heads (ks.drop i)).length
  next : ∀ (q : Nat) (y z : Int), lg.getLast? = some q → ks[q]? = some y → (heads (ks.drop i))[due - 1]? = some z → 0 < due → y < z
  inl : ∀ q ∈ lg, q < i

theorem Pick.start (ks : List Int) : Pick ks 0 (len ks) [] := ⟨by simp [lon], by simp [len], fun q y z h => by simp at h, fun q h => by cases h⟩

theorem Pick.take {ks : List Int} {i due : Nat} {lg : List Nat} (h : Pick ks i due lg) (hi : i < ks.length) (hif : i < (fr ks).length) (he : (fr ks)[i] = due) : Pick ks (i + 1) (due - 1) (lg ++ [i]) := by
  have hs := fr_at hif hi
  have hle := srch_le (heads (ks.drop (i + 1))) ks[i]
  refine ⟨by rw [h.all, (sp_fst' hif he).1]; simp, by omega, fun q y z hq hy hz hd => ?_, fun q hq => ?_⟩
  · have e : q = i := by simpa using hq.symm
    subst e
    rw [List.getElem?_eq_getElem hi] at hy
    cases hy
    exact srch_lt _ _ (due - 1 - 1) z (by omega) hz
  · rcases List.mem_append.1 hq with h1 | h1
    · have := h.inl q h1; omega
    · have : q = i := by simpa using h1
      omega
where
  sp_fst' {fs : List Nat} {i due : Nat} (h : i < fs.length) (he : fs[i] = due) : (sp (fs.drop i) due i).1 = i :: (sp (fs.drop (i + 1)) (due - 1) (i + 1)).1 ∧ True := by
    rw [List.drop_eq_getElem_cons h]
    simp [sp, he]

theorem Pick.skip {ks : List Int} {i due : Nat} {lg : List Nat} (h : Pick ks i due lg) (hi : i < ks.length) (hif : i < (fr ks).length) (he : ¬ (fr ks)[i] = due) : Pick ks (i + 1) due lg := by
  have hs := fr_at hif hi
  have e : heads (ks.drop i) = Li.step (heads (ks.drop (i + 1))) ks[i] := by rw [List.drop_eq_getElem_cons hi]; rfl
  have hr := h.room
  rw [e, step_length] at hr
  have hsp : (sp ((fr ks).drop i) due i).1 = (sp ((fr ks).drop (i + 1)) due (i + 1)).1 := by
    rw [List.drop_eq_getElem_cons hif]
    simp [sp, he]
  have hroom : due ≤ (heads (ks.drop (i + 1))).length := by
    split at hr
    · omega
    · exact hr
  refine ⟨by rw [h.all, hsp], hroom, fun q y z hq hy hz hd => ?_, fun q hq => by have := h.inl q hq; omega⟩
  refine h.next q y z hq hy ?_ hd
  rw [e, step_other _ _ _ (by omega)]
  exact hz

/-- The number at a place that is due is greater than the last one. -/
theorem Pick.rises {ks : List Int} {i due : Nat} {lg : List Nat} (h : Pick ks i due lg) (hi : i < ks.length) (hif : i < (fr ks).length) (he : (fr ks)[i] = due) {q : Nat} (hq : lg.getLast? = some q) {y : Int} (hy : ks[q]? = some y) : y < ks[i] := by
  have hs := fr_at hif hi
  have e : heads (ks.drop i) = Li.step (heads (ks.drop (i + 1))) ks[i] := by rw [List.drop_eq_getElem_cons hi]; rfl
  refine h.next q y ks[i] hq hy ?_ (by omega)
  have e2 : due - 1 = srch (heads (ks.drop (i + 1))) ks[i] := by omega
  rw [e, e2, step_at]

theorem Pick.done {ks : List Int} {i due : Nat} {lg : List Nat} (h : Pick ks i due lg) (hd : due = 0 ∨ ks.length ≤ i) : lg = lon ks := by
  have h1 := h.all
  rcases hd with rfl | hd
  · rw [fr_drop, sp_zero] at h1
    simpa using h1.symm
  · rw [List.drop_eq_nil_of_le (by rw [fr_length]; exact hd)] at h1
    simpa [sp] using h1.symm
end Li
end Go.Proofs.Yteceljjmandnmaa
