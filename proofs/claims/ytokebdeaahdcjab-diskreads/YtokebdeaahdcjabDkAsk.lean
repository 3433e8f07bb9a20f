/-
  Sectors that are asked for: windows into one row.
-/
import Derived.Test.YtokebdeaahdcjabDkOwn
namespace Go.Proofs.Ytokebdeaahdcjab
open Go.ChangeShapes Go.WideShapes Go.ChangeAt Go.RowKit Go.Deep
open Dk (Wr St)

/-- The windows of rows lo to lo + i into one block. -/
def winsR (lo i g N : Nat) : List (Option (Nat × Nat)) := (List.range N).map fun r => if lo ≤ r ∧ r < lo + i then some (g, 48 * (r - lo)) else none

theorem winsR_length (lo i g N : Nat) : (winsR lo i g N).length = N := by simp [winsR]

theorem winsR_get {lo i g N r : Nat} {wn : Option (Nat × Nat)} (h : (winsR lo i g N)[r]? = some wn) : r < N ∧ wn = if lo ≤ r ∧ r < lo + i then some (g, 48 * (r - lo)) else none := by
  have hr : r < N := by
    have := (List.getElem?_eq_some_iff.1 h).1
    rw [winsR_length] at this
    exact this
  unfold winsR at h
  rw [List.getElem?_map, List.getElem?_range hr] at h
  simp only [Option.map_some, Option.some.injEq] at h
  exact ⟨hr, h.symm⟩

theorem winsR_apart (lo i g N : Nat) : Apart (winsR lo i g N) := by
  intro r q g' o o' hrq h1 h2
  obtain ⟨-, e1⟩ := winsR_get h1
  obtain ⟨-, e2⟩ := winsR_get h2
  split at e1
  · split at e2
    · simp only [Option.some.injEq, Prod.mk.injEq] at e1 e2
      omega
    · cases e2
  · cases e1

theorem winsR_up {lo i g N M : Nat} (h : M ≤ g) : WinsUp M (winsR lo i g N) := by
  intro r g' o h1
  obtain ⟨-, e1⟩ := winsR_get h1
  split at e1
  · simp only [Option.some.injEq, Prod.mk.injEq] at e1
    omega
  · cases e1

theorem mask_row {lo i : Nat} {ss : List (List UInt8)} {r : Nat} {l : List UInt8} (h : (Dk.mask lo i ss)[r]? = some l) : (lo ≤ r ∧ r < lo + i ∧ ss[r]? = some l) ∨ (¬ (lo ≤ r ∧ r < lo + i) ∧ l = []) := by
  rw [Dk.mask_get] at h
  split at h
  · rename_i h1
    exact Or.inl ⟨h1.1, h1.2, h⟩
  · rename_i h1
    rw [Option.map_eq_some_iff] at h
    obtain ⟨_, -, rfl⟩ := h
    exact Or.inr ⟨h1, rfl⟩

theorem Wn.ask {W : World} {T g lo n i c : Nat} {ss : List (List UInt8)} {cur : Array Value} (h : Wn W T (winsR lo i g ss.length) (Dk.mask lo i ss)) (hg : W.heap[g]? = some (.cells cur 5 (0, 0))) (hs : cur.size = 48 * n) (hi : i < n)
    {l : List UInt8} (hl : ss[lo + i]? = some l) (h48 : l.length = 48) (hc : 48 ≤ c) (hc2 : c ≤ 9223372036854775807) :
    Wn ((W.setRow g (cur.toList.take (48 * i) ++ (cellsO l ++ cur.toList.drop (48 * i + (cellsO l).length))).toArray).setCell ⟨T, lo + i, none⟩ (.slice (some ⟨g, 48 * i, none⟩) 48 c)) T (winsR lo (i + 1) g ss.length) (Dk.mask lo (i + 1) ss) := by
  have hX : (cellsO l).length = 48 := by rw [cellsO_length]; exact h48
  obtain ⟨tab, t1, t2, t3⟩ := h.tab
  rw [Dk.mask_length] at t2
  have hTg : T ≠ g := by
    rintro rfl
    rw [hg] at t1
    simp at t1
  have hrow := setRow_heap W g cur (cur.toList.take (48 * i) ++ (cellsO l ++ cur.toList.drop (48 * i + (cellsO l).length))).toArray 5 (0, 0) hg
  have hT1 : (W.setRow g (cur.toList.take (48 * i) ++ (cellsO l ++ cur.toList.drop (48 * i + (cellsO l).length))).toArray).heap[T]? = some (.cells tab 26 (0, 0)) := (setRow_other W g T _ hTg).trans t1
  have hgs := fun (v : Value) => (Below.heap_setCell (W.setRow g (cur.toList.take (48 * i) ++ (cellsO l ++ cur.toList.drop (48 * i + (cellsO l).length))).toArray) ⟨T, lo + i, none⟩ v g (fun e => hTg e.symm)).trans hrow
  refine ⟨by rw [winsR_length, Dk.mask_length], tab.setIfInBounds (lo + i) (.slice (some ⟨g, 48 * i, none⟩) 48 c), set_one_cell hT1 _, by rw [Dk.mask_length]; simpa using t2, ?_⟩
  intro r wn l' hw hl'
  obtain ⟨hr, hwn⟩ := winsR_get hw
  by_cases he : r = lo + i
  · subst he
    rw [if_pos (by omega)] at hwn
    subst hwn
    rcases mask_row hl' with ⟨-, -, h1⟩ | ⟨h1, -⟩
    · rw [hl] at h1
      cases h1
      refine ⟨_, by rw [Array.getElem?_setIfInBounds_self_of_lt (by omega)], c, _, by rw [show lo + i - lo = i by omega], hc, hc2, h48, hgs _, by rw [over_size _ _ _ (by omega)]; omega, ?_⟩
      intro j u hj
      have hj48 : j < 48 := by have := (List.getElem?_eq_some_iff.1 hj).1; omega
      rw [over_get _ _ _ (by omega), if_pos (by omega), show 48 * (lo + i - lo) + j - 48 * i = j by rw [show lo + i - lo = i by omega]; omega]
      simp [cellsO, hj]
    · omega
  · have hwin : ∃ x, tab[r]? = some x ∧ Win W wn x l' := by
      refine t3 r wn l' ?_ ?_
      · unfold winsR
        rw [List.getElem?_map, List.getElem?_range hr]
        simp only [Option.map_some, Option.some.injEq]
        rw [hwn]
        by_cases h1 : lo ≤ r ∧ r < lo + i
        · rw [if_pos h1, if_pos (by omega)]
        · rw [if_neg h1, if_neg (by omega)]
      · rw [Dk.mask_get] at hl' ⊢
        by_cases h1 : lo ≤ r ∧ r < lo + i
        · rw [if_pos h1]
          rw [if_pos (by omega)] at hl'
          exact hl'
        · rw [if_neg h1]
          rw [if_neg (by omega)] at hl'
          exact hl'
    obtain ⟨x, hx, hwx⟩ := hwin
    refine ⟨x, by rw [Array.getElem?_setIfInBounds_ne (by omega)]; exact hx, ?_⟩
    by_cases h1 : lo ≤ r ∧ r < lo + (i + 1)
    · rw [if_pos h1] at hwn
      subst hwn
      obtain ⟨c', cur', e1, e2, e3, e4, e5, e6, e7⟩ := hwx
      rw [hg] at e5
      simp only [Option.some.injEq, Obj.cells.injEq, and_true] at e5
      subst e5
      refine ⟨c', _, e1, e2, e3, e4, hgs _, by rw [over_size _ _ _ (by omega)]; exact e6, ?_⟩
      intro j u hj
      have hj48 : j < 48 := by have := (List.getElem?_eq_some_iff.1 hj).1; omega
      rw [over_get _ _ _ (by omega), if_neg (by omega)]
      exact e7 j u hj
    · rw [if_neg h1] at hwn
      subst hwn
      exact hwx

/-- Rows of 48, one behind the other. -/
theorem flat_get : ∀ (L : List (List UInt8)), (∀ l ∈ L, l.length = 48) → ∀ p, L.flatten[p]? = (L[p / 48]?).bind fun l => l[p % 48]?
  | [], _, p => by simp
  | l :: L, h, p => by
    have h48 := h l List.mem_cons_self
    rw [List.flatten_cons]
    by_cases hp : p < 48
    · rw [List.getElem?_append_left (by omega), show p / 48 = 0 by omega, show p % 48 = p by omega]
      rfl
    · rw [List.getElem?_append_right (by omega), h48, flat_get L (fun x hx => h x (List.mem_cons_of_mem _ hx)), show p / 48 = (p - 48) / 48 + 1 by omega, show p % 48 = (p - 48) % 48 by omega]
      rfl

theorem flat_length : ∀ (L : List (List UInt8)), (∀ l ∈ L, l.length = 48) → L.flatten.length = 48 * L.length
  | [], _ => by simp
  | l :: L, h => by
    have h48 := h l List.mem_cons_self
    have := flat_length L (fun x hx => h x (List.mem_cons_of_mem _ hx))
    rw [List.flatten_cons, List.length_append, List.length_cons]
    omega

/-- What was asked for, as one row of octets. -/
theorem Wn.asked {W : World} {T g lo n c : Nat} {ss : List (List UInt8)} (h : Wn W T (winsR lo n g ss.length) (Dk.mask lo n ss)) (hr : ∀ l ∈ ss, l.length = 48) (hlo : lo + n ≤ ss.length) (hc : 48 * n ≤ c) (hc2 : c ≤ 200000000000000) :
    ((ss.drop lo).take n).flatten.length = 48 * n ∧ Oct W (some ⟨g, 0, none⟩) c ((ss.drop lo).take n).flatten := by
  have hL : ∀ l ∈ (ss.drop lo).take n, l.length = 48 := fun l hl => hr l (List.mem_of_mem_drop (List.mem_of_mem_take hl))
  have hlen : ((ss.drop lo).take n).flatten.length = 48 * n := by
    rw [flat_length _ hL, List.length_take, List.length_drop]
    congr 1
    omega
  refine ⟨hlen, ?_, by omega, by omega, by omega, (fun e => by cases e), fun ad e _ => by cases e; rfl⟩
  intro p u hp
  refine ⟨g, 0, rfl, ?_⟩
  have hpl : p < 48 * n := by have := (List.getElem?_eq_some_iff.1 hp).1; omega
  rw [flat_get _ hL] at hp
  rw [List.getElem?_take_of_lt (by omega), List.getElem?_drop] at hp
  have hrow : lo + p / 48 < ss.length := by omega
  rw [List.getElem?_eq_getElem hrow] at hp
  simp only [Option.bind_some] at hp
  obtain ⟨tab, t1, t2, t3⟩ := h.tab
  have hm : (Dk.mask lo n ss)[lo + p / 48]? = some ss[lo + p / 48] := by
    rw [Dk.mask_get, if_pos (by omega), List.getElem?_eq_getElem hrow]
  have hw : (winsR lo n g ss.length)[lo + p / 48]? = some (some (g, 48 * (p / 48))) := by
    unfold winsR
    rw [List.getElem?_map, List.getElem?_range hrow]
    simp only [Option.map_some, Option.some.injEq]
    rw [if_pos (by omega), show lo + p / 48 - lo = p / 48 by omega]
  obtain ⟨x, -, c', cur, e1, e2, e3, e4, e5, e6, e7⟩ := t3 _ _ _ hw hm
  have := e7 (p % 48) u hp
  rw [(cell_of e5 _).1, show 0 + p = 48 * (p / 48) + p % 48 by omega]
  exact this

theorem Wn.none {W : World} {T N : Nat} (h : W.heap[T]? = some (.cells (madeCells #[.slice Option.none 0 0] N) 26 (0, 0))) {lo g : Nat} {ss : List (List UInt8)} (hN : ss.length = N) : Wn W T (winsR lo 0 g ss.length) (Dk.mask lo 0 ss) := by
  refine ⟨by rw [winsR_length, Dk.mask_length], _, h, by rw [Dk.mask_length, size_madeCells]; omega, ?_⟩
  intro r wn l hw hl
  obtain ⟨hr, hwn⟩ := winsR_get hw
  rw [if_neg (by omega)] at hwn
  subst hwn
  rcases mask_row hl with ⟨h1, h2, -⟩ | ⟨-, rfl⟩
  · omega
  · refine ⟨.slice Option.none 0 0, ?_, rfl, rfl⟩
    rw [← Array.getElem?_toList, toList_madeCells_one, List.getElem?_replicate, if_pos (by omega)]
end Go.Proofs.Ytokebdeaahdcjab
