/-
  Trees that are not one have unlike prints, but for texts side by side, empty ones, and attributes named key.
-/
import Derived.Test.YtoheppocolbjkaaTrLoose
import Derived.Test.YtoheppocolbjkaaTrSame
namespace Go.Proofs.Ytoheppocolbjkaa
open Go.ChangeShapes Go.WideShapes Go.ChangeAt Go.RowKit

theorem escO_case (o : UInt8) : o = 38 ∨ o = 60 ∨ o = 62 ∨ o = 34 ∨ (o ≠ 38 ∧ o ≠ 60 ∧ o ≠ 62 ∧ o ≠ 34 ∧ escO o = [o]) := by
  by_cases h0 : o = 38
  · exact Or.inl h0
  · by_cases h1 : o = 60
    · exact Or.inr (Or.inl h1)
    · by_cases h2 : o = 62
      · exact Or.inr (Or.inr (Or.inl h2))
      · by_cases h3 : o = 34
        · exact Or.inr (Or.inr (Or.inr (Or.inl h3)))
        · exact Or.inr (Or.inr (Or.inr (Or.inr ⟨h0, h1, h2, h3, by unfold escO; rw [if_neg h0, if_neg h1, if_neg h2, if_neg h3]⟩)))
theorem esc38 : escO 38 = [38, 97, 109, 112, 59] := rfl
theorem esc60 : escO 60 = [38, 108, 116, 59] := rfl
theorem esc62 : escO 62 = [38, 103, 116, 59] := rfl
theorem esc34 : escO 34 = [38, 113, 117, 111, 116, 59] := rfl

/-- No <, > and quotes. -/
def Calm (c : UInt8) : Prop := c ≠ 60 ∧ c ≠ 62 ∧ c ≠ 34
theorem escO_calm (o : UInt8) : ∀ c ∈ escO o, Calm c := by
  intro c hc
  rcases escO_case o with rfl | rfl | rfl | rfl | ⟨h0, h1, h2, h3, h4⟩
  · rw [esc38] at hc; simp only [List.mem_cons, List.not_mem_nil, or_false] at hc; rcases hc with rfl | rfl | rfl | rfl | rfl <;> exact ⟨by decide, by decide, by decide⟩
  · rw [esc60] at hc; simp only [List.mem_cons, List.not_mem_nil, or_false] at hc; rcases hc with rfl | rfl | rfl | rfl <;> exact ⟨by decide, by decide, by decide⟩
  · rw [esc62] at hc; simp only [List.mem_cons, List.not_mem_nil, or_false] at hc; rcases hc with rfl | rfl | rfl | rfl <;> exact ⟨by decide, by decide, by decide⟩
  · rw [esc34] at hc; simp only [List.mem_cons, List.not_mem_nil, or_false] at hc; rcases hc with rfl | rfl | rfl | rfl | rfl | rfl <;> exact ⟨by decide, by decide, by decide⟩
  · rw [h4] at hc; simp only [List.mem_singleton] at hc; subst hc; exact ⟨h1, h2, h3⟩
theorem esc_calm : ∀ (l : List UInt8), ∀ c ∈ esc l, Calm c
  | [], c, hc => by simp [esc] at hc
  | o :: r, c, hc => by
    simp only [esc, List.mem_append] at hc
    rcases hc with hc | hc
    · exact escO_calm o c hc
    · exact esc_calm r c hc

theorem escO_inj {o p : UInt8} {x y : List UInt8} (h : escO o ++ x = escO p ++ y) : o = p ∧ x = y := by
  rcases escO_case o with rfl | rfl | rfl | rfl | ⟨o0, o1, o2, o3, o4⟩ <;> rcases escO_case p with rfl | rfl | rfl | rfl | ⟨p0, p1, p2, p3, p4⟩
  all_goals
    try simp only [esc38, esc60, esc62, esc34] at h
    first
      | (rw [o4, p4] at h; simp only [List.cons_append, List.nil_append, List.cons.injEq] at h; exact ⟨h.1, h.2⟩)
      | (rw [o4] at h; simp only [List.cons_append, List.nil_append, List.cons.injEq] at h; exact absurd h.1 o0)
      | (rw [p4] at h; simp only [List.cons_append, List.nil_append, List.cons.injEq] at h; exact absurd h.1.symm p0)
      | (simp only [List.cons_append, List.nil_append, List.cons.injEq, true_and] at h; exact ⟨rfl, h⟩)
      | (exfalso; simp only [List.cons_append, List.nil_append, List.cons.injEq, true_and] at h; exact absurd h.1 (by decide))
theorem esc_nil {l : List UInt8} (h : esc l = []) : l = [] := by
  cases l with
  | nil => rfl
  | cons o r =>
    exfalso
    simp only [esc, List.append_eq_nil_iff] at h
    have := h.1
    rcases escO_case o with rfl | rfl | rfl | rfl | ⟨_, _, _, _, h4⟩
    · simp [esc38] at this
    · simp [esc60] at this
    · simp [esc62] at this
    · simp [esc34] at this
    · simp [h4] at this
theorem esc_inj : ∀ {l m : List UInt8}, esc l = esc m → l = m
  | [], m, h => (esc_nil h.symm).symm
  | o :: r, [], h => esc_nil h
  | o :: r, p :: s, h => by
    simp only [esc] at h
    obtain ⟨rfl, h2⟩ := escO_inj h
    rw [esc_inj h2]

theorem split_at {p : UInt8 → Prop} : ∀ {a b : List UInt8} {c d : UInt8} {x y : List UInt8}, (∀ z ∈ a, p z) → (∀ z ∈ b, p z) → ¬ p c → ¬ p d → a ++ c :: x = b ++ d :: y → a = b ∧ c = d ∧ x = y
  | [], [], c, d, x, y, _, _, _, _, h => by simpa using h
  | [], z :: b, c, d, x, y, _, hb, hc, _, h => by
    simp only [List.nil_append, List.cons_append, List.cons.injEq] at h
    exact absurd (by rw [h.1]; exact hb z (by simp)) hc
  | z :: a, [], c, d, x, y, ha, _, _, hd, h => by
    simp only [List.nil_append, List.cons_append, List.cons.injEq] at h
    exact absurd (by rw [← h.1]; exact ha z (by simp)) hd
  | z :: a, z' :: b, c, d, x, y, ha, hb, hc, hd, h => by
    simp only [List.cons_append, List.cons.injEq] at h
    obtain ⟨rfl, h2⟩ := h
    obtain ⟨rfl, r⟩ := split_at (fun q hq => ha q (by simp [hq])) (fun q hq => hb q (by simp [hq])) hc hd h2
    exact ⟨rfl, r⟩

def Ltrs (s : ByteArray) : Prop := ∀ z ∈ s.toList, ltr z = true
theorem name_ltrs {s : ByteArray} (h : nameB s = true) : Ltrs s := by
  simp only [nameB, Bool.and_eq_true] at h
  intro z hz
  rw [ByteArray.toList_eq] at hz
  exact List.all_eq_true.1 h.2 z hz
theorem attrs_ltrs {l : List Atr} (h : attrsB l = true) : ∀ a ∈ l, Ltrs a.1 := by
  simp only [attrsB, Bool.and_eq_true] at h
  intro a ha
  obtain ⟨i, hi⟩ := List.getElem?_of_mem ha
  have hl := (List.getElem?_eq_some_iff.1 hi).1
  have := all_range.1 h.2 i hl
  simp only [okA, hi, Bool.and_eq_true] at this
  exact name_ltrs this.1.1

theorem prtAs_cons (a : Atr) (r : List Atr) (z : List UInt8) : prtAs (a :: r) ++ z = 32 :: (a.1.toList ++ 61 :: (34 :: (esc a.2.toList ++ 34 :: (prtAs r ++ z)))) := by
  simp [prtAs, prtA]

theorem prtAs_inj : ∀ {L M : List Atr} {x y : List UInt8}, (∀ a ∈ L, Ltrs a.1) → (∀ a ∈ M, Ltrs a.1) → prtAs L ++ 62 :: x = prtAs M ++ 62 :: y → L = M ∧ x = y
  | [], [], x, y, _, _, h => by simpa [prtAs] using h
  | [], b :: s, x, y, _, _, h => by
    rw [prtAs_cons] at h
    simp [prtAs] at h
  | a :: r, [], x, y, _, _, h => by
    rw [prtAs_cons] at h
    simp [prtAs] at h
  | a :: r, b :: s, x, y, ha, hb, h => by
    rw [prtAs_cons, prtAs_cons] at h
    simp only [List.cons.injEq, true_and] at h
    obtain ⟨e1, -, h⟩ := split_at (p := fun z => ltr z = true) (ha a (by simp)) (hb b (by simp)) (by decide) (by decide) h
    simp only [List.cons.injEq, true_and] at h
    obtain ⟨e2, -, h⟩ := split_at (p := fun z => z ≠ 34) (fun z hz => (esc_calm _ z hz).2.2) (fun z hz => (esc_calm _ z hz).2.2) (by simp) (by simp) h
    obtain ⟨h3, h4⟩ := prtAs_inj (fun q hq => ha q (by simp [hq])) (fun q hq => hb q (by simp [hq])) h
    have : a = b := Prod.ext (bytes_ext e1) (bytes_ext (esc_inj e2))
    rw [this, h3]
    exact ⟨rfl, h4⟩

/-- The key as an attribute. -/
def kat (k : ByteArray) : List Atr := if k.size = 0 then [] else [(keyS, k)]
theorem kat_prt (k : ByteArray) (ats : List Atr) : prtK k ++ prtAs ats = prtAs (kat k ++ ats) := by
  unfold prtK kat
  split
  · rfl
  · simp [prtAs]
theorem key_ltrs : Ltrs keyS := by
  intro z hz
  have : keyS.toList = [107, 101, 121] := by unfold keyS; rw [ByteArray.toList_eq]
  rw [this] at hz
  simp only [List.mem_cons, List.not_mem_nil, or_false] at hz
  rcases hz with rfl | rfl | rfl <;> decide
theorem size_zero {s t : ByteArray} (h : s.size = 0) (h' : t.size = 0) : s = t := by
  apply bytes_ext
  have e1 : s.toList = [] := List.eq_nil_of_length_eq_zero (by rw [toList_len]; exact h)
  have e2 : t.toList = [] := List.eq_nil_of_length_eq_zero (by rw [toList_len]; exact h')
  rw [e1, e2]
theorem kat_inj {k k' : ByteArray} {ats ats' : List Atr} (h1 : ∀ a ∈ ats, a.1 ≠ keyS) (h2 : ∀ a ∈ ats', a.1 ≠ keyS) (h : kat k ++ ats = kat k' ++ ats') : k = k' ∧ ats = ats' := by
  unfold kat at h
  by_cases e : k.size = 0
  · rw [if_pos e] at h
    by_cases e' : k'.size = 0
    · rw [if_pos e'] at h; exact ⟨size_zero e e', h⟩
    · rw [if_neg e'] at h
      exact absurd rfl (h1 (keyS, k') (by rw [show ats = _ from h]; simp))
  · rw [if_neg e] at h
    by_cases e' : k'.size = 0
    · rw [if_pos e'] at h
      exact absurd rfl (h2 (keyS, k) (by rw [show ats' = _ from h.symm]; simp))
    · rw [if_neg e'] at h
      simp only [List.cons_append, List.nil_append, List.cons.injEq, Prod.mk.injEq, true_and] at h
      exact h

/-- Trees of which the law speaks. -/
def Gd {n : Nat} (u : T n) : Prop := okN u ∧ looseT u = false ∧ namedT u = false

/-- No empty text, no text behind a text. -/
def NA {n : Nat} : Bool → List (T n) → Prop
  | _, [] => True
  | p, u :: r => ((tagT u).size = 0 → p = false ∧ ¬ (textT u).size = 0) ∧ NA (decide ((tagT u).size = 0)) r

theorem NA_of {n : Nat} : ∀ (l pre : List (T n)), (∀ (i : Nat) (u : T n), (pre ++ l)[i]? = some u → lsB (pre ++ l) i u = false) → NA (match pre.getLast? with
    | none => false
    | some p => decide ((tagT p).size = 0)) l
  | [], _, _ => trivial
  | u :: r, pre, h => by
    have hu := h pre.length u (by simp)
    refine ⟨fun e => ?_, ?_⟩
    · unfold lsB at hu
      rw [decide_eq_true e, Bool.true_and, Bool.or_eq_false_iff] at hu
      refine ⟨?_, by simpa using hu.1⟩
      cases hp : pre.getLast? with
      | none => rfl
      | some p =>
        simp only
        have h0 : 0 < pre.length := by cases pre with | nil => simp at hp | cons a b => simp
        have hg : (pre ++ u :: r)[pre.length - 1]? = some p := by
          rw [List.getElem?_append_left (by omega), ← List.getLast?_eq_getElem?]; exact hp
        rw [hg, decide_eq_true h0, Bool.true_and] at hu
        exact hu.2
    · have := NA_of r (pre ++ [u]) (fun i v hv => by
        rw [List.append_assoc] at hv ⊢
        exact h i v hv)
      simpa using this

theorem loose_kids {n : Nat} {g k t : ByteArray} {ats : List Atr} {its : List (T n)} (h : looseT (n := n + 1) (g, k, t, ats, its) = false) : NA false its ∧ ∀ u ∈ its, looseT u = false := by
  rw [looseT_node] at h
  have h1 := any_range.1 h
  have h2 : ∀ (i : Nat) (u : T n), its[i]? = some u → lsB its i u = false ∧ looseT u = false := fun i u hu => by
    have hl := (List.getElem?_eq_some_iff.1 hu).1
    have := h1 i hl
    unfold lsAt at this
    rw [hu] at this
    simpa using this
  refine ⟨?_, fun u hu => ?_⟩
  · have := NA_of its [] (fun i u hu => (h2 i u (by simpa using hu)).1)
    simpa using this
  · obtain ⟨i, hi⟩ := List.getElem?_of_mem hu
    exact (h2 i u hi).2
theorem named_kids {n : Nat} {g k t : ByteArray} {ats : List Atr} {its : List (T n)} (h : namedT (n := n + 1) (g, k, t, ats, its) = false) : (∀ a ∈ ats, a.1 ≠ keyS) ∧ ∀ u ∈ its, namedT u = false := by
  rw [namedT_node, Bool.or_eq_false_iff] at h
  refine ⟨fun a ha e => ?_, fun u hu => ?_⟩
  · have := List.any_eq_false.1 h.1 a ha
    rw [e] at this
    simp at this
  · have := List.any_eq_false.1 h.2 u hu
    simpa using this

/-- A text that may be, and is not empty. -/
theorem prt_text {n : Nat} {u : T n} (h : Gd u) (hg : (tagT u).size = 0) : prt u = esc (textT u).toList := by
  cases n with
  | zero => exact u.elim
  | succ n =>
    obtain ⟨g, k, t, ats, its⟩ := u
    replace hg : g.size = 0 := hg
    rw [prt_node, if_pos hg]
    rfl
theorem text_head {s : ByteArray} (h : ¬ s.size = 0) : ∃ c z, esc s.toList = c :: z ∧ c ≠ 60 := by
  cases e : esc s.toList with
  | nil =>
    have := esc_nil e
    have h2 := toList_len s
    rw [this] at h2
    exact absurd h2.symm h
  | cons c z => exact ⟨c, z, rfl, (esc_calm s.toList c (by rw [e]; simp)).1⟩
/-- An element begins with < and a letter. -/
theorem elem_head {n : Nat} {u : T n} (h : Gd u) (hg : ¬ (tagT u).size = 0) (x : List UInt8) : ∃ c z, prt u ++ x = 60 :: c :: z ∧ ltr c = true := by
  cases n with
  | zero => exact u.elim
  | succ n =>
    obtain ⟨g, k, t, ats, its⟩ := u
    replace hg : ¬ g.size = 0 := hg
    rw [prt_node, if_neg hg]
    rcases node_ok (okN_node.1 h.1).1 with ⟨e, -⟩ | ⟨-, e, -⟩
    · exact absurd e hg
    · have hl := name_ltrs e
      cases hc : g.toList with
      | nil =>
        have h2 := toList_len g
        rw [hc] at h2
        exact absurd h2.symm hg
      | cons c z => exact ⟨c, _, by simp only [List.cons_append, List.nil_append]; rfl, hl c (by rw [hc]; simp)⟩
theorem text_eq {n : Nat} {u v : T n} (hu : Gd u) (hv : Gd v) (h1 : (tagT u).size = 0) (h2 : (tagT v).size = 0) (h : (textT u) = textT v) : u = v := by
  cases n with
  | zero => exact u.elim
  | succ n =>
    obtain ⟨g, k, t, ats, its⟩ := u
    obtain ⟨g', k', t', ats', its'⟩ := v
    replace h1 : g.size = 0 := h1
    replace h2 : g'.size = 0 := h2
    replace h : t = t' := h
    rcases node_ok (okN_node.1 hu.1).1 with ⟨-, -, a1, a2, a3⟩ | ⟨e, -⟩
    · rcases node_ok (okN_node.1 hv.1).1 with ⟨-, -, b1, b2, b3⟩ | ⟨e, -⟩
      · rw [size_zero h1 h2, size_zero a1 b1, h, List.eq_nil_of_length_eq_zero a2, List.eq_nil_of_length_eq_zero b2, List.eq_nil_of_length_eq_zero a3, List.eq_nil_of_length_eq_zero b3]
      · exact absurd h2 e
    · exact absurd h1 e

theorem kids_head {n : Nat} {r : List (T n)} (hg : ∀ u ∈ r, Gd u) (hn : NA true r) (x : List UInt8) : ∃ z, cat prt r ++ 60 :: x = 60 :: z := by
  cases r with
  | nil => exact ⟨x, rfl⟩
  | cons u s =>
    by_cases e : (tagT u).size = 0
    · have := (hn.1 e).1
      simp at this
    · obtain ⟨c, z, h, -⟩ := elem_head (hg u (by simp)) e (cat prt s ++ 60 :: x)
      exact ⟨c :: z, by simp only [cat, List.append_assoc]; exact h⟩

theorem kids_inj {n : Nat} (hE : ∀ (u v : T n) (x y : List UInt8), Gd u → Gd v → ¬ (tagT u).size = 0 → ¬ (tagT v).size = 0 → prt u ++ x = prt v ++ y → u = v ∧ x = y) :
    ∀ (l m : List (T n)) (p p' : Bool) (x y : List UInt8), (∀ u ∈ l, Gd u) → (∀ u ∈ m, Gd u) → NA p l → NA p' m → cat prt l ++ 60 :: (47 :: x) = cat prt m ++ 60 :: (47 :: y) → l = m ∧ x = y
  | [], [], _, _, x, y, _, _, _, _, h => by simpa [cat] using h
  | [], v :: s, _, _, x, y, _, hm, _, hn, h => by
    exfalso
    simp only [cat, List.nil_append, List.append_assoc] at h
    by_cases e : (tagT v).size = 0
    · obtain ⟨c, z, h1, h2⟩ := text_head (hn.1 e).2
      rw [prt_text (hm v (by simp)) e, h1] at h
      simp only [List.cons_append, List.cons.injEq] at h
      exact h2 h.1.symm
    · obtain ⟨c, z, h1, h2⟩ := elem_head (hm v (by simp)) e (cat prt s ++ 60 :: (47 :: y))
      rw [h1] at h
      simp only [List.cons.injEq, true_and] at h
      rw [← h.1] at h2
      exact absurd h2 (by decide)
  | u :: r, [], _, _, x, y, hl, _, hn, _, h => by
    exfalso
    simp only [cat, List.nil_append, List.append_assoc] at h
    by_cases e : (tagT u).size = 0
    · obtain ⟨c, z, h1, h2⟩ := text_head (hn.1 e).2
      rw [prt_text (hl u (by simp)) e, h1] at h
      simp only [List.cons_append, List.cons.injEq] at h
      exact h2 h.1
    · obtain ⟨c, z, h1, h2⟩ := elem_head (hl u (by simp)) e (cat prt r ++ 60 :: (47 :: x))
      rw [h1] at h
      simp only [List.cons.injEq, true_and] at h
      rw [h.1] at h2
      exact absurd h2 (by decide)
  | u :: r, v :: s, _, _, x, y, hl, hm, hn, hn', h => by
    simp only [cat, List.append_assoc] at h
    have gl : ∀ q ∈ r, Gd q := fun q hq => hl q (by simp [hq])
    have gm : ∀ q ∈ s, Gd q := fun q hq => hm q (by simp [hq])
    by_cases e : (tagT u).size = 0
    · by_cases e' : (tagT v).size = 0
      · have n1 := hn.2
        have n2 := hn'.2
        rw [decide_eq_true e] at n1
        rw [decide_eq_true e'] at n2
        obtain ⟨z1, k1⟩ := kids_head gl n1 (47 :: x)
        obtain ⟨z2, k2⟩ := kids_head gm n2 (47 :: y)
        rw [prt_text (hl u (by simp)) e, prt_text (hm v (by simp)) e', k1, k2] at h
        obtain ⟨h1, -, h2⟩ := split_at (p := fun z => z ≠ 60) (fun z hz => (esc_calm _ z hz).1) (fun z hz => (esc_calm _ z hz).1) (by simp) (by simp) h
        have huv := text_eq (hl u (by simp)) (hm v (by simp)) e e' (bytes_ext (esc_inj h1))
        obtain ⟨rfl, r2⟩ := kids_inj hE r s _ _ x y gl gm n1 n2 (by rw [k1, k2, h2])
        rw [huv]
        exact ⟨rfl, r2⟩
      · exfalso
        obtain ⟨c, z, h1, h2⟩ := text_head (hn.1 e).2
        obtain ⟨c', z', h3, -⟩ := elem_head (hm v (by simp)) e' (cat prt s ++ 60 :: (47 :: y))
        rw [prt_text (hl u (by simp)) e, h1, h3] at h
        simp only [List.cons_append, List.cons.injEq] at h
        exact h2 h.1
    · by_cases e' : (tagT v).size = 0
      · exfalso
        obtain ⟨c, z, h1, h2⟩ := text_head (hn'.1 e').2
        obtain ⟨c', z', h3, -⟩ := elem_head (hl u (by simp)) e (cat prt r ++ 60 :: (47 :: x))
        rw [prt_text (hm v (by simp)) e', h1, h3] at h
        simp only [List.cons_append, List.cons.injEq] at h
        exact h2 h.1.symm
      · obtain ⟨rfl, h2⟩ := hE u v _ _ (hl u (by simp)) (hm v (by simp)) e e' h
        obtain ⟨rfl, r2⟩ := kids_inj hE r s _ _ x y gl gm hn.2 hn'.2 h2
        exact ⟨rfl, r2⟩

theorem prt_inj : ∀ (n : Nat) (u v : T n) (x y : List UInt8), Gd u → Gd v → ¬ (tagT u).size = 0 → ¬ (tagT v).size = 0 → prt u ++ x = prt v ++ y → u = v ∧ x = y
  | 0, u, _, _, _, _, _, _, _, _ => u.elim
  | n + 1, u, v, x, y, hu, hv, e, e', h => by
    obtain ⟨g, k, t, ats, its⟩ := u
    obtain ⟨g', k', t', ats', its'⟩ := v
    replace e : ¬ g.size = 0 := e
    replace e' : ¬ g'.size = 0 := e'
    rw [prt_node, prt_node, if_neg e, if_neg e'] at h
    obtain ⟨o1, o2⟩ := okN_node.1 hu.1
    obtain ⟨o1', o2'⟩ := okN_node.1 hv.1
    obtain ⟨l1, l2⟩ := loose_kids hu.2.1
    obtain ⟨l1', l2'⟩ := loose_kids hv.2.1
    obtain ⟨m1, m2⟩ := named_kids hu.2.2
    obtain ⟨m1', m2'⟩ := named_kids hv.2.2
    rcases node_ok o1 with ⟨q, -⟩ | ⟨-, q1, -, -, q2, q3, -⟩
    · exact absurd q e
    rcases node_ok o1' with ⟨q, -⟩ | ⟨-, q1', -, -, q2', q3', -⟩
    · exact absurd q e'
    have nf : ∀ (g k : ByteArray) (ats : List Atr) (its : List (T n)) (z : List UInt8), [60] ++ (g.toList ++ (prtK k ++ (prtAs ats ++ ([62] ++ (cat prt its ++ ([60, 47] ++ (g.toList ++ [62]))))))) ++ z = 60 :: (g.toList ++ (prtAs (kat k ++ ats) ++ 62 :: (cat prt its ++ 60 :: (47 :: (g.toList ++ 62 :: z))))) := fun g k ats its z => by
      rw [← kat_prt]; simp
    rw [nf, nf] at h
    simp only [List.cons.injEq, true_and] at h
    have hd : ∀ (L : List Atr) (z : List UInt8), ∃ c w, prtAs L ++ 62 :: z = c :: w ∧ ¬ ltr c = true := fun L z => by
      cases L with
      | nil => exact ⟨62, z, rfl, by decide⟩
      | cons a r => rw [prtAs_cons]; exact ⟨32, _, rfl, by decide⟩
    obtain ⟨c1, w1, h1, h2⟩ := hd (kat k ++ ats) (cat prt its ++ 60 :: (47 :: (g.toList ++ 62 :: x)))
    obtain ⟨c2, w2, h3, h4⟩ := hd (kat k' ++ ats') (cat prt its' ++ 60 :: (47 :: (g'.toList ++ 62 :: y)))
    have h' := h
    rw [h1, h3] at h'
    obtain ⟨eg, ec, ew⟩ := split_at (p := fun z => ltr z = true) (name_ltrs q1) (name_ltrs q1') h2 h4 h'
    have eg' : g = g' := bytes_ext eg
    subst eg'
    have h5 := List.append_cancel_left h
    have lt : ∀ (k : ByteArray) (ats : List Atr), (∀ a ∈ ats, Ltrs a.1) → ∀ a ∈ kat k ++ ats, Ltrs a.1 := fun k ats ha a hm => by
      rcases List.mem_append.1 hm with hm | hm
      · unfold kat at hm
        split at hm
        · simp at hm
        · simp only [List.mem_singleton] at hm; subst hm; exact key_ltrs
      · exact ha a hm
    obtain ⟨eL, h6⟩ := prtAs_inj (lt k ats (attrs_ltrs q3)) (lt k' ats' (attrs_ltrs q3')) h5
    obtain ⟨rfl, rfl⟩ := kat_inj m1 m1' eL
    obtain ⟨rfl, h7⟩ := kids_inj (prt_inj n) its its' _ _ _ _ (fun q hq => ⟨o2 q hq, l2 q hq, m2 q hq⟩) (fun q hq => ⟨o2' q hq, l2' q hq, m2' q hq⟩) l1 l1' h6
    have h8 := List.append_cancel_left h7
    simp only [List.cons.injEq, true_and] at h8
    rw [size_zero q2 q2']
    exact ⟨rfl, h8⟩
end Go.Proofs.Ytoheppocolbjkaa
