/-
  Longest rising parts, as mathematics.
-/
import Derived.Test.YteceljjmandnmaaRows
namespace Go.Proofs.Yteceljjmandnmaa.Li

/-- Where a number's place is among numbers that fall: how many, from the first on, are greater. -/
def srch : List Int → Int → Nat
  | [], _ => 0
  | y :: h, x => if x < y then srch h x + 1 else 0

theorem srch_le (h : List Int) (x : Int) : srch h x ≤ h.length := by
  induction h with
  | nil => exact Nat.le_refl _
  | cons y h ih => simp only [srch, List.length_cons]; split <;> omega

/-- One number more: the heads. -/
def step (h : List Int) (x : Int) : List Int := if srch h x = h.length then h ++ [x] else h.set (srch h x) x

/-- The heads: at k the number at the first place from which on k + 1 numbers rise. -/
def heads : List Int → List Int
  | [] => []
  | x :: l => step (heads l) x

/-- How many numbers rise from each place on. -/
def fr : List Int → List Nat
  | [] => []
  | x :: l => (srch (heads l) x + 1) :: fr l

theorem fr_length (l : List Int) : (fr l).length = l.length := by
  induction l with
  | nil => rfl
  | cons x l ih => simp [fr, ih]

/-- Falling. -/
def Falls (h : List Int) : Prop := ∀ (i j : Nat) (a b : Int), i < j → h[i]? = some a → h[j]? = some b → b < a

theorem srch_lt : ∀ (h : List Int) (x : Int) (k : Nat) (y : Int), k < srch h x → h[k]? = some y → x < y
  | [], _, _, _, h, _ => by simp [srch] at h
  | z :: h, x, k, y, hk, hy => by
    simp only [srch] at hk
    split at hk
    · rename_i hz
      cases k with
      | zero => simp at hy; omega
      | succ k => exact srch_lt h x k y (by omega) (by simpa using hy)
    · omega

theorem srch_ge : ∀ (h : List Int) (x y : Int), h[srch h x]? = some y → y ≤ x
  | [], _, _, h => by simp at h
  | z :: h, x, y, hy => by
    simp only [srch] at hy
    split at hy
    · exact srch_ge h x y (by simpa using hy)
    · rename_i hz
      simp at hy
      omega

theorem srch_eq : ∀ (h : List Int) (x : Int) (i : Nat), i ≤ h.length → (∀ m s, m < i → h[m]? = some s → x < s) → (∀ s, h[i]? = some s → s ≤ x) → srch h x = i
  | [], _, i, h, _, _ => by simp at h; simp [srch, h]
  | s :: l, x, 0, _, _, h2 => by
    have := h2 s (by simp)
    have : ¬ x < s := by omega
    simp [srch, this]
  | s :: l, x, i + 1, h, h1, h2 => by
    have e := h1 0 s (by omega) (by simp)
    have := srch_eq l x i (by simpa using h) (fun m s' hm hs => h1 (m + 1) s' (by omega) (by simpa using hs)) (fun s' hs => h2 s' (by simpa using hs))
    simp [srch, e, this]

theorem step_length (h : List Int) (x : Int) : (step h x).length = if srch h x = h.length then h.length + 1 else h.length := by
  unfold step
  split <;> simp

theorem step_len (h : List Int) (x : Int) : h.length ≤ (step h x).length ∧ srch h x < (step h x).length ∧ (step h x).length ≤ h.length + 1 := by
  rw [step_length]
  have := srch_le h x
  split <;> omega

theorem step_at (h : List Int) (x : Int) : (step h x)[srch h x]? = some x := by
  unfold step
  have := srch_le h x
  split
  · rename_i e
    rw [e]
    simp
  · rw [List.getElem?_set_self (by omega)]

theorem step_other (h : List Int) (x : Int) (k : Nat) (hk : k ≠ srch h x) : (step h x)[k]? = h[k]? := by
  unfold step
  split
  · rename_i e
    by_cases hlt : k < h.length
    · rw [List.getElem?_append_left hlt]
    · rw [List.getElem?_eq_none (by simp; omega), List.getElem?_eq_none (by omega)]
  · rw [List.getElem?_set_ne (fun e => hk e.symm)]

theorem step_falls (h : List Int) (x : Int) (hf : Falls h) : Falls (step h x) := by
  intro i j a b hij ha hb
  by_cases ei : i = srch h x
  · subst ei
    rw [step_at] at ha
    cases ha
    rw [step_other _ _ _ (by omega)] at hb
    have hj : j < h.length := by
      rcases Nat.lt_or_ge j h.length with h' | h'
      · exact h'
      · rw [List.getElem?_eq_none h'] at hb; cases hb
    have h1 := srch_ge h x h[srch h x] (List.getElem?_eq_getElem (by omega))
    have h2 := hf _ j _ b hij (List.getElem?_eq_getElem (by omega)) hb
    omega
  · rw [step_other _ _ _ ei] at ha
    by_cases ej : j = srch h x
    · subst ej
      rw [step_at] at hb
      cases hb
      exact srch_lt h x i a hij ha
    · rw [step_other _ _ _ ej] at hb
      exact hf i j a b hij ha hb

theorem heads_falls (l : List Int) : Falls (heads l) := by
  induction l with
  | nil => intro i j a b _ ha; simp [heads] at ha
  | cons x l ih => exact step_falls _ _ ih

theorem heads_le (l : List Int) : (heads l).length ≤ l.length := by
  induction l with
  | nil => exact Nat.le_refl _
  | cons x l ih =>
    have := (step_len (heads l) x).2.2
    simp only [heads, List.length_cons]
    omega

/-- A number of which k + 1 rise is no greater than the head at k, and each head is such a number. -/
theorem fr_heads (l : List Int) : ∀ (i f : Nat) (x : Int), (fr l)[i]? = some f → l[i]? = some x → 1 ≤ f ∧ f ≤ (heads l).length ∧ ∃ y, (heads l)[f - 1]? = some y ∧ x ≤ y := by
  induction l with
  | nil => intro i f x h; simp [fr] at h
  | cons z l ih =>
    intro i f x hf hx
    have hs := step_len (heads l) z
    cases i with
    | zero =>
      simp [fr] at hf hx
      subst hf hx
      refine ⟨by omega, by simp only [heads]; omega, z, ?_, by omega⟩
      simp only [heads]
      exact step_at _ _
    | succ i =>
      simp [fr] at hf hx
      obtain ⟨h1, h2, y, hy, hxy⟩ := ih i f x hf hx
      refine ⟨h1, by simp only [heads]; omega, ?_⟩
      simp only [heads]
      by_cases e : f - 1 = srch (heads l) z
      · refine ⟨z, by rw [e]; exact step_at _ _, ?_⟩
        have := srch_ge (heads l) z y (by rw [← e]; exact hy)
        omega
      · exact ⟨y, (step_other _ _ _ e).trans hy, hxy⟩

theorem heads_fr (l : List Int) : ∀ (k : Nat) (y : Int), (heads l)[k]? = some y → ∃ i : Nat, (fr l)[i]? = some (k + 1) ∧ l[i]? = some y := by
  induction l with
  | nil => intro k y h; simp [heads] at h
  | cons z l ih =>
    intro k y h
    simp only [heads] at h
    by_cases e : k = srch (heads l) z
    · subst e
      rw [step_at] at h
      cases h
      exact ⟨0, by simp [fr], by simp⟩
    · rw [step_other _ _ _ e] at h
      obtain ⟨i, h1, h2⟩ := ih k y h
      exact ⟨i + 1, by simpa [fr] using h1, by simpa using h2⟩

/-- How long the longest is. -/
def len (l : List Int) : Nat := (heads l).length

theorem heads_le_len (l : List Int) : len l ≤ l.length := heads_le l

/-- Rising. -/
abbrev Rises (l : List Int) : Prop := l.Pairwise (· < ·)

/-- No rising part is longer: its first number is no greater than the head that belongs to its length. -/
theorem rise_head (l : List Int) : ∀ (y : Int) (s : List Int), (y :: s).Sublist l → Rises (y :: s) → ∃ z, (heads l)[s.length]? = some z ∧ y ≤ z := by
  induction l with
  | nil => intro y s h; cases h
  | cons x l ih =>
    intro y s h hr
    simp only [heads]
    cases h with
    | cons _ h =>
      obtain ⟨z, hz, hyz⟩ := ih y s h hr
      by_cases e : s.length = srch (heads l) x
      · refine ⟨x, by rw [e]; exact step_at _ _, ?_⟩
        have := srch_ge (heads l) x z (by rw [← e]; exact hz)
        omega
      · exact ⟨z, (step_other _ _ _ e).trans hz, hyz⟩
    | cons_cons _ h =>
      obtain ⟨y, hy⟩ : ∃ y, y = x := ⟨_, rfl⟩
      subst hy
      cases s with
      | nil =>
        simp only [List.length_nil]
        by_cases e : 0 = srch (heads l) y
        · exact ⟨y, by rw [e]; exact step_at _ _, Int.le_refl _⟩
        · have hlt := srch_le (heads l) y
          refine ⟨(heads l)[0]'(by omega), by rw [step_other _ _ _ e]; exact List.getElem?_eq_getElem (by omega), ?_⟩
          have := srch_lt (heads l) y 0 ((heads l)[0]'(by omega)) (by omega) (List.getElem?_eq_getElem (by omega))
          omega
      | cons z s =>
        have hr' := List.pairwise_cons.1 hr
        have hyz : y < z := hr'.1 z (by simp)
        obtain ⟨u, hu, hzu⟩ := ih z s h hr'.2
        have hk : s.length < srch (heads l) y := by
          rcases Nat.lt_or_ge s.length (srch (heads l) y) with h' | h'
          · exact h'
          · exfalso
            have hlt : s.length < (heads l).length := by
              rcases Nat.lt_or_ge s.length (heads l).length with q | q
              · exact q
              · rw [List.getElem?_eq_none q] at hu; cases hu
            have h1 := srch_ge (heads l) y ((heads l)[srch (heads l) y]'(by omega)) (List.getElem?_eq_getElem (by omega))
            rcases Nat.lt_or_eq_of_le h' with q | q
            · have := heads_falls l _ _ _ _ q (List.getElem?_eq_getElem (by omega)) hu
              omega
            · have h2 : (heads l)[srch (heads l) y]? = some u := by rw [q]; exact hu
              have h3 := srch_ge (heads l) y u h2
              omega
        simp only [List.length_cons]
        by_cases e : s.length + 1 = srch (heads l) y
        · exact ⟨y, by rw [e]; exact step_at _ _, Int.le_refl _⟩
        · have hlt := srch_le (heads l) y
          refine ⟨(heads l)[s.length + 1]'(by omega), by rw [step_other _ _ _ e]; exact List.getElem?_eq_getElem (by omega), ?_⟩
          have := srch_lt (heads l) y (s.length + 1) ((heads l)[s.length + 1]'(by omega)) (by omega) (List.getElem?_eq_getElem (by omega))
          omega

theorem rise_le (l s : List Int) (h : s.Sublist l) (hr : Rises s) : s.length ≤ len l := by
  cases s with
  | nil => exact Nat.zero_le _
  | cons y s =>
    obtain ⟨z, hz, _⟩ := rise_head l y s h hr
    unfold len
    simp only [List.length_cons]
    rcases Nat.lt_or_ge s.length (heads l).length with q | q
    · exact q
    · rw [List.getElem?_eq_none q] at hz; cases hz

/-- What is taken, place by place: the places of the longest part and the others. -/
def sp : List Nat → Nat → Nat → List Nat × List Nat
  | [], _, _ => ([], [])
  | f :: fs, due, p => if f = due then (p :: (sp fs (due - 1) (p + 1)).1, (sp fs (due - 1) (p + 1)).2) else ((sp fs due (p + 1)).1, p :: (sp fs due (p + 1)).2)

/-- The places of the longest part; the others. -/
def lon (l : List Int) : List Nat := (sp (fr l) (len l) 0).1
def mov (l : List Int) : List Nat := (sp (fr l) (len l) 0).2

theorem sp_length : ∀ (fs : List Nat) (due p : Nat), (sp fs due p).1.length + (sp fs due p).2.length = fs.length
  | [], _, _ => rfl
  | f :: fs, due, p => by
    simp only [sp]
    have h1 := sp_length fs (due - 1) (p + 1)
    have h2 := sp_length fs due (p + 1)
    split <;> simp only [List.length_cons] <;> omega

/-- All places lie from p on. -/
theorem sp_range : ∀ (fs : List Nat) (due p : Nat), (∀ q ∈ (sp fs due p).1, p ≤ q ∧ q < p + fs.length) ∧ ∀ q ∈ (sp fs due p).2, p ≤ q ∧ q < p + fs.length
  | [], _, _ => by simp [sp]
  | f :: fs, due, p => by
    simp only [sp, List.length_cons]
    have h1 := sp_range fs (due - 1) (p + 1)
    have h2 := sp_range fs due (p + 1)
    split
    · refine ⟨fun q hq => ?_, fun q hq => ?_⟩
      · rcases List.mem_cons.1 hq with rfl | hq
        · omega
        · have := h1.1 q hq; omega
      · have := h1.2 q hq; omega
    · refine ⟨fun q hq => ?_, fun q hq => ?_⟩
      · have := h2.1 q hq; omega
      · rcases List.mem_cons.1 hq with rfl | hq
        · omega
        · have := h2.2 q hq; omega

/-- The numbers that are taken. -/
def pk : List Int → Nat → List Int
  | [], _ => []
  | x :: l, due => if srch (heads l) x + 1 = due then x :: pk l (due - 1) else pk l due

theorem pk_sub : ∀ (l : List Int) (due : Nat), (pk l due).Sublist l
  | [], _ => by simp [pk]
  | x :: l, due => by
    simp only [pk]
    split
    · exact (pk_sub l _).cons_cons _
    · exact (pk_sub l _).cons _

theorem pk_zero : ∀ l : List Int, pk l 0 = []
  | [] => rfl
  | x :: l => by simp [pk, pk_zero l]

/-- They are due many, rise, and the first is the head. -/
theorem pk_all : ∀ (l : List Int) (due : Nat), due ≤ (heads l).length → (pk l due).length = due ∧ Rises (pk l due) ∧ (0 < due → (pk l due)[0]? = (heads l)[due - 1]?)
  | [], due, h => by simp [heads] at h; subst h; simp [pk]
  | x :: l, due, h => by
    have hs := step_len (heads l) x
    have hle := srch_le (heads l) x
    simp only [heads] at h ⊢
    simp only [pk]
    split
    · rename_i e
      obtain ⟨h1, h2, h3⟩ := pk_all l (due - 1) (by omega)
      refine ⟨by simp [h1]; omega, ?_, fun _ => ?_⟩
      · refine List.pairwise_cons.2 ⟨fun y hy => ?_, h2⟩
        cases hp : pk l (due - 1) with
        | nil => rw [hp] at hy; cases hy
        | cons z s =>
          rw [hp] at hy h1 h2 h3
          simp only [List.length_cons] at h1
          have h4 := h3 (by omega)
          simp only [List.getElem?_cons_zero] at h4
          have h5 := srch_lt (heads l) x (due - 1 - 1) z (by omega) h4.symm
          rcases List.mem_cons.1 hy with rfl | hy
          · exact h5
          · have := (List.pairwise_cons.1 h2).1 y hy
            omega
      · have e2 : due - 1 = srch (heads l) x := by omega
        rw [e2, step_at]
        simp
    · rename_i e
      have hd : due ≤ (heads l).length := by
        rw [step_length] at h
        split at h
        · omega
        · exact h
      obtain ⟨h1, h2, h3⟩ := pk_all l due hd
      refine ⟨h1, h2, fun hp => ?_⟩
      rw [h3 hp, step_other _ _ _ (by omega)]

/-- The numbers at the places that are taken. -/
theorem pk_sp : ∀ (l : List Int) (due p : Nat) (L : List Int), (∀ i x, l[i]? = some x → L[p + i]? = some x) → (pk l due).map some = (sp (fr l) due p).1.map fun q => L[q]?
  | [], _, _, _, _ => by simp [pk, fr, sp]
  | x :: l, due, p, L, h => by
    have h0 := h 0 x (by simp)
    have hn : ∀ i y, l[i]? = some y → L[p + 1 + i]? = some y := fun i y hy => by
      have := h (i + 1) y (by simpa using hy)
      rw [← this]
      congr 1
      omega
    simp only [pk, fr, sp]
    split
    · simp only [List.map_cons]
      rw [pk_sp l (due - 1) (p + 1) L hn]
      simpa using h0.symm
    · rw [pk_sp l due (p + 1) L hn]

theorem pk_lon (l : List Int) : (pk l (len l)).map some = (lon l).map fun q => l[q]? := pk_sp l (len l) 0 l (fun i x h => by simpa using h)

theorem lon_length (l : List Int) : (lon l).length = len l := by
  have h := congrArg List.length (pk_lon l)
  simp only [List.length_map] at h
  rw [← h]
  exact (pk_all l (len l) (Nat.le_refl _)).1

theorem mov_length (l : List Int) : (mov l).length = l.length - len l := by
  have h := sp_length (fr l) (len l) 0
  have h2 := lon_length l
  have h3 := heads_le_len l
  rw [fr_length] at h
  unfold lon at h2
  unfold mov
  omega

/-- The places rise. -/
theorem sp_rise : ∀ (fs : List Nat) (due p : Nat), (sp fs due p).1.Pairwise (· < ·)
  | [], _, _ => by simp [sp]
  | f :: fs, due, p => by
    simp only [sp]
    split
    · refine List.pairwise_cons.2 ⟨fun q hq => ?_, sp_rise fs _ _⟩
      have := (sp_range fs (due - 1) (p + 1)).1 q hq
      omega
    · exact sp_rise fs _ _

end Go.Proofs.Yteceljjmandnmaa.Li
