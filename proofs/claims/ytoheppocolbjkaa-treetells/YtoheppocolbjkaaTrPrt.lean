/-
  A tree's print, as mathematics; the printer's attr.
-/
import Derived.Test.YtoheppocolbjkaaTrSafe
namespace Go.Proofs.Ytoheppocolbjkaa
open Go.ChangeShapes Go.WideShapes Go.ChangeAt Go.RowKit

/-- A blank, a name, ="..". -/
def prtA (a : Atr) : List UInt8 := [32] ++ (a.1.toList ++ ([61, 34] ++ (esc a.2.toList ++ [34])))
def prtAs : List Atr → List UInt8
  | [] => []
  | a :: r => prtA a ++ prtAs r
theorem prtAs_append (a b : List Atr) : prtAs (a ++ b) = prtAs a ++ prtAs b := by
  induction a with
  | nil => rfl
  | cons x r ih => simp [prtAs, ih]
def keyS : ByteArray := ⟨#[107, 101, 121]⟩
def prtK (k : ByteArray) : List UInt8 := if k.size = 0 then [] else prtA (keyS, k)
def cat {α : Type} (f : α → List UInt8) : List α → List UInt8
  | [] => []
  | a :: r => f a ++ cat f r
theorem cat_append {α : Type} (f : α → List UInt8) (a b : List α) : cat f (a ++ b) = cat f a ++ cat f b := by
  induction a with
  | nil => rfl
  | cons x r ih => simp [cat, ih]
/-- The print. -/
def prt : {n : Nat} → T n → List UInt8
  | 0, v => v.elim
  | _ + 1, v => if v.1.size = 0 then esc v.2.2.1.toList else [60] ++ (v.1.toList ++ (prtK v.2.1 ++ (prtAs v.2.2.2.1 ++ ([62] ++ (cat prt v.2.2.2.2 ++ ([60, 47] ++ (v.1.toList ++ [62])))))))
theorem prt_node {n : Nat} (g k t : ByteArray) (ats : List Atr) (its : List (T n)) : prt (n := n + 1) (g, k, t, ats, its) = if g.size = 0 then esc t.toList else [60] ++ (g.toList ++ (prtK k ++ (prtAs ats ++ ([62] ++ (cat prt its ++ ([60, 47] ++ (g.toList ++ [62]))))))) := rfl

/-- Each node may be by itself. -/
def okN : {n : Nat} → T n → Prop
  | 0, v => v.elim
  | _ + 1, v => nodeB v.1 v.2.1 v.2.2.1 v.2.2.2.1 v.2.2.2.2.length = true ∧ ∀ u ∈ v.2.2.2.2, okN u
theorem okN_node {n : Nat} {g k t : ByteArray} {ats : List Atr} {its : List (T n)} : okN (n := n + 1) (g, k, t, ats, its) ↔ nodeB g k t ats its.length = true ∧ ∀ u ∈ its, okN u := Iff.rfl

theorem wkK_each {α : Type} {f : α → Nat → Int × Nat × Nat} {p : α → Prop} {sz : α → Nat} (hf : ∀ u c, c ≤ 256 → (f u c).1 = 0 → p u ∧ sz u + 13000 * c ≤ 13000 * (f u c).2.1 ∧ (f u c).2.1 ≤ 256) : ∀ (l : List α) (c d : Nat), c ≤ 256 → (wkK f l c d).1 = 0 → (∀ u ∈ l, p u) ∧ (l.map sz).sum + 13000 * c ≤ 13000 * (wkK f l c d).2.1
  | [], c, d, _, _ => ⟨fun u hu => by simp at hu, by simp [wkK]⟩
  | k :: r, c, d, hc, h => by
    unfold wkK at h ⊢
    by_cases h0 : (f k c).1 = 0
    · rw [if_pos h0] at h ⊢
      have h1 := hf k c hc h0
      have h2 := wkK_each hf r _ _ h1.2.2 h
      refine ⟨fun u hu => ?_, ?_⟩
      · rcases List.mem_cons.1 hu with rfl | hu
        · exact h1.1
        · exact h2.1 u hu
      · simp only [List.map_cons, List.sum_cons]; omega
    · rw [if_neg h0] at h; exact absurd h h0

theorem toList_len (t : ByteArray) : t.toList.length = t.size := toList_length t
theorem prtA_len (a : Atr) : (prtA a).length ≤ 4 + a.1.size + 6 * a.2.size := by
  have := esc_len a.2.toList
  simp only [prtA, List.length_append, List.length_cons, List.length_nil, toList_len] at this ⊢
  omega
theorem prtAs_len : ∀ (l : List Atr), (∀ a ∈ l, a.1.size ≤ 16 ∧ a.2.size ≤ 128) → (prtAs l).length ≤ 788 * l.length
  | [], _ => by simp [prtAs]
  | a :: r, h => by
    have h1 := prtA_len a
    have h2 := prtAs_len r fun x hx => h x (by simp [hx])
    have h3 := h a (by simp)
    simp only [prtAs, List.length_append, List.length_cons]
    omega
theorem name_le {s : ByteArray} (h : nameB s = true) : 1 ≤ s.size ∧ s.size ≤ 16 := by
  simp only [nameB, Bool.and_eq_true, decide_eq_true_eq] at h
  exact h.1
/-- What attributes that may be keep to. -/
theorem attrs_ok {l : List Atr} (h : attrsB l = true) : l.length ≤ 16 ∧ ∀ a ∈ l, a.1.size ≤ 16 ∧ a.2.size ≤ 128 := by
  simp only [attrsB, Bool.and_eq_true, decide_eq_true_eq] at h
  refine ⟨h.1, fun a ha => ?_⟩
  obtain ⟨i, hi⟩ := List.getElem?_of_mem ha
  have hl := (List.getElem?_eq_some_iff.1 hi).1
  have := all_range.1 h.2 i hl
  simp only [okA, hi, Bool.and_eq_true, decide_eq_true_eq] at this
  exact ⟨(name_le this.1.1).2, this.1.2⟩
/-- What a node that may be keeps to. -/
theorem node_ok {g k t : ByteArray} {ats : List Atr} {il : Nat} (h : nodeB g k t ats il = true) : (g.size = 0 ∧ t.size ≤ 128 ∧ k.size = 0 ∧ ats.length = 0 ∧ il = 0) ∨ (¬ g.size = 0 ∧ nameB g = true ∧ g.size ≤ 16 ∧ k.size ≤ 16 ∧ t.size = 0 ∧ attrsB ats = true ∧ ats.length ≤ 16 ∧ (∀ a ∈ ats, a.1.size ≤ 16 ∧ a.2.size ≤ 128) ∧ il ≤ 16) := by
  unfold nodeB at h
  by_cases h0 : g.size = 0
  · rw [if_pos h0] at h
    simp only [Bool.and_eq_true, decide_eq_true_eq] at h
    exact Or.inl ⟨h0, h.1.1.1, h.1.1.2, h.1.2, h.2⟩
  · rw [if_neg h0] at h
    simp only [Bool.and_eq_true, decide_eq_true_eq] at h
    have := attrs_ok h.1.2
    exact Or.inr ⟨h0, h.1.1.1.1, (name_le h.1.1.1.1).2, h.1.1.1.2, h.1.1.2, h.1.2, this.1, this.2, h.2⟩

theorem cat_len {α : Type} (f : α → List UInt8) : ∀ l : List α, (cat f l).length = (l.map fun u => (f u).length).sum
  | [] => rfl
  | a :: r => by simp [cat, cat_len f r]

/-- A walk without an error: each node may be; the print is no longer than 13000 octets a node. -/
theorem wk_each : ∀ (n : Nat) (v : T n) (L c : Nat), L ≤ 9 → c ≤ 256 → (wk v L c).1 = 0 → okN v ∧ (prt v).length + 13000 * c ≤ 13000 * (wk v L c).2.1
  | 0, v, _, _, _, _, _ => v.elim
  | n + 1, v, L, c, hL, hc, h => by
    obtain ⟨g, k, t, ats, its⟩ := v
    rw [wk_node] at h ⊢
    by_cases h1 : 8 < L
    · rw [if_pos h1] at h; simp at h
    · rw [if_neg h1] at h ⊢
      by_cases h2 : 256 ≤ c
      · rw [if_pos h2] at h; simp at h
      · rw [if_neg h2] at h ⊢
        by_cases h3 : nodeB g k t ats its.length = false
        · rw [if_pos h3] at h; simp at h
        · rw [if_neg h3] at h ⊢
          by_cases h4 : twB (keysT its) = true
          · rw [if_pos h4] at h; simp at h
          · rw [if_neg h4] at h ⊢
            have h3' : nodeB g k t ats its.length = true := by simpa using h3
            have := wkK_each (f := fun u c' => wk u (L + 1) c') (p := okN) (sz := fun u => (prt u).length) (fun u c' hc' h' => by
              have a := wk_each n u (L + 1) c' (by omega) hc' h'
              have b := wk_ok n u (L + 1) c' (by omega) hc'
              exact ⟨a.1, a.2, b.1⟩) its (c + 1) L (by omega) h
            refine ⟨okN_node.2 ⟨h3', this.1⟩, ?_⟩
            have hcat := cat_len prt its
            rw [prt_node]
            rcases node_ok h3' with ⟨e0, e1, -⟩ | ⟨e0, -, e1, e2, -, -, e3, e4, -⟩
            · rw [if_pos e0]
              have := esc_len t.toList
              rw [toList_len] at this
              omega
            · rw [if_neg e0]
              have a1 := prtAs_len ats e4
              have a2 : (prtK k).length ≤ 110 := by
                unfold prtK
                split
                · simp
                · have := prtA_len (keyS, k)
                  have hk : keyS.size = 3 := rfl
                  simp only [hk] at this
                  omega
              simp only [List.length_append, List.length_cons, List.length_nil, toList_len]
              rw [hcat]
              omega

/-- The end of a call of the printer's that has no answer. -/
def PrPost (w : World) (B P q : Nat) (l : List UInt8) (e : Ending) (w' : World) : Prop := e = .returned (.tuple #[]) ∧ Pr w' B P q l ∧ Kp w w' ∧ Below B w w'

theorem Kp.alloc {w w' : World} (o : Obj) (h : Kp (w.alloc o) w') : Kp w w' := (Kp.of_below (below_one w o)).trans h

set_option maxRecDepth 100000 in
set_option maxHeartbeats 1600000 in
theorem attr_any (B P q : Nat) (l : List UInt8) (nm val : ByteArray) (w : World) (h : Pr w B P q l) (hB : B ≤ w.heap.size) (hv : val.size ≤ 1000000) (hl : l.length + (prtA (nm, val)).length ≤ 1000000000) :
    Calls Try.prog 42 #[.pointer (some ⟨P, 0, none⟩), .string nm, .string val] w (PrPost w B P q (l ++ prtA (nm, val))) := by
  have HP : Hid (Pr w B P q l) := h
  obtain ⟨p, v, -, hpv⟩ := h
  have CS : Hid (Calls Try.prog 41 #[.slice (some ⟨q, 0, none⟩) 4 4, .string val] w _) := safe_any val q w hpv.2.1 hv
  obtain ⟨-, -, x2, -⟩ := three_cells hpv.2.2.1
  simp only [safeF] at x2
  have HC : Hid (catB [⟨#[32]⟩, nm, ⟨#[61, 34]⟩, escB val, ⟨#[34]⟩] = prtA (nm, val)) := by
    show _ = _
    simp only [catB, escB_toList, List.append_nil, prtA]
    simp only [ByteArray.toList_eq]
  have HL : Hid (l.length + (catB [⟨#[32]⟩, nm, ⟨#[61, 34]⟩, escB val, ⟨#[34]⟩]).length ≤ 1000000000) := by show _ ≤ _; rw [HC.out]; exact hl
  clear hpv hl
  go_enter Try.func42, Try.ntmps42
  go_wp2_with fail
  refine CS.out.mono ?_
  rintro e w1 ⟨rfl, hb1⟩
  have CP : Hid (Calls Try.prog 32 #[.pointer (some ⟨P, 0, none⟩), .slice (some ⟨w1.heap.size, 0, none⟩) 5 5] (w1.alloc (.cells #[.string ⟨#[32]⟩, .string nm, .string ⟨#[61, 34]⟩, .string (escB val), .string ⟨#[34]⟩] 9)) _) :=
    put_any B P q w1.heap.size l [⟨#[32]⟩, nm, ⟨#[61, 34]⟩, escB val, ⟨#[34]⟩] _ (HP.out.below (nxt hb1 (below_one _ _))) (by have := hb1.size; simp; omega) HL.out (by simp) (heap_alloc_new _ _)
  have K1 : Hid (Below w.heap.size w (w1.alloc (.cells #[.string ⟨#[32]⟩, .string nm, .string ⟨#[61, 34]⟩, .string (escB val), .string ⟨#[34]⟩] 9))) := nxt hb1 (below_one _ _)
  clear hb1
  generalize escB val = ev at *
  go_wp2_with (refine CP.out.mono ?_; rintro e w2 ⟨rfl, h1, h2, h3⟩)
  go_end0
  exact ⟨rfl, by rw [← HC.out]; exact h1, (Kp.of_below K1.out).trans h2, (K1.out.mono hB).trans h3⟩
end Go.Proofs.Ytoheppocolbjkaa
