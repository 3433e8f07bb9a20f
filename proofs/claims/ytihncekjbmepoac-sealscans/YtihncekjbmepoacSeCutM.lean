/-
  Frames put one behind the other, and cut off, as mathematics.
-/
import Derived.Test.YtihncekjbmepoacSeScanM
namespace Go.Proofs.Ytihncekjbmepoac
open Go.ChangeShapes Go.WideShapes Go.ChangeAt Go.RowKit Go.Deep
open Se

abbrev Fr := Int × List UInt8
/-- A frame that may be. -/
def okF (f : Fr) : Prop := (1 ≤ f.1 ∧ f.1 ≤ 255) ∧ f.2.length ≤ 65536
def allF (gs : List Fr) : List UInt8 := (gs.map fun f => frame f.1 f.2).flatten
theorem allF_cons (g : Fr) (gs : List Fr) : allF (g :: gs) = frame g.1 g.2 ++ allF gs := by simp [allF]
theorem allF_snoc (gs : List Fr) (g : Fr) : allF (gs ++ [g]) = allF gs ++ frame g.1 g.2 := by simp [allF]

/-- A frame that is cut off is refused. -/
theorem get_cut {g : Fr} (hg : okF g) {n : Nat} (hn : n < (frame g.1 g.2).length) : (getR ((frame g.1 g.2).take n)).1 ≠ 0 := by
  have hfl := frame_length g.1 g.2
  have hl : ((frame g.1 g.2).take n).length = n := by rw [List.length_take]; omega
  unfold getR
  by_cases h8 : n < 8
  · rw [if_pos (by omega)]; simp
  · rw [if_neg (by omega)]
    have e : ∀ i, i < 8 → ((frame g.1 g.2).take n).getD i 0 = (frame g.1 g.2).getD i 0 := fun i hi => by
      rw [List.getD_eq_getElem?_getD, List.getD_eq_getElem?_getD, List.getElem?_take_of_lt (by omega)]
    have hk : (((frame g.1 g.2).take n).getD 0 0).toNat = g.1.toNat := by
      rw [e 0 (by omega)]
      exact kind_hdr g.1 g.2 _ hg.1
    have hn' : lenO ((frame g.1 g.2).take n) = g.2.length := by
      have : lenO ((frame g.1 g.2).take n) = lenO (frame g.1 g.2) := by
        simp only [lenO]
        rw [e 1 (by omega), e 2 (by omega), e 3 (by omega)]
      rw [this]
      exact lenO_hdr g.1 g.2 _ hg.2
    have h1 := hg.1
    have h2 := hg.2
    rw [if_neg (by omega), hn', if_neg (by omega), if_pos (by omega)]
    simp

/-- How many frames lie whole ahead of a cut, and how many octets they are. -/
def cutK : List Fr → Nat → Nat × Nat
  | [], _ => (0, 0)
  | g :: gs, n => if (frame g.1 g.2).length ≤ n then ((cutK gs (n - (frame g.1 g.2).length)).1 + 1, (frame g.1 g.2).length + (cutK gs (n - (frame g.1 g.2).length)).2) else (0, 0)

theorem scan_cut : ∀ (gs : List Fr) (n : Nat), (∀ g ∈ gs, okF g) → scanR ((allF gs).take n) = (gs.take (cutK gs n).1, (cutK gs n).2)
  | [], n, _ => by
    have : (getR []).1 ≠ 0 := by decide
    simp only [allF, List.map_nil, List.flatten_nil, List.take_nil, cutK]
    rw [scanR_no this]
  | g :: gs, n, h => by
    have hg := h g (by simp)
    have hgs : ∀ f ∈ gs, okF f := fun f hf => h f (by simp [hf])
    simp only [cutK]
    rw [allF_cons]
    by_cases hle : (frame g.1 g.2).length ≤ n
    · rw [if_pos hle]
      have e : (frame g.1 g.2 ++ allF gs).take n = frame g.1 g.2 ++ (allF gs).take (n - (frame g.1 g.2).length) := by
        rw [List.take_append, List.take_of_length_le hle]
      rw [e]
      have hp := get_put hg.1 hg.2 ((allF gs).take (n - (frame g.1 g.2).length))
      rw [scanR_yes (by rw [hp]), hp]
      simp only [List.drop_left]
      rw [scan_cut gs _ hgs]
      simp
    · rw [if_neg hle]
      have e : (frame g.1 g.2 ++ allF gs).take n = (frame g.1 g.2).take n := List.take_append_of_le_length (by omega)
      rw [e, scanR_no (get_cut hg (by omega))]
      simp
theorem cutK_all : ∀ (gs : List Fr), cutK gs (allF gs).length = (gs.length, (allF gs).length)
  | [] => by simp [cutK, allF]
  | g :: gs => by
    simp only [cutK]
    rw [allF_cons, List.length_append, if_pos (by omega), Nat.add_sub_cancel_left, cutK_all gs]
    simp
theorem scan_all (gs : List Fr) (h : ∀ g ∈ gs, okF g) : scanR (allF gs) = (gs, (allF gs).length) := by
  have := scan_cut gs (allF gs).length h
  rw [List.take_of_length_le (Nat.le_refl _), cutK_all] at this
  rw [this]
  simp
theorem cutK_snoc : ∀ (gs : List Fr) (g : Fr) (n : Nat), cutK (gs ++ [g]) n = if (allF (gs ++ [g])).length ≤ n then (gs.length + 1, (allF (gs ++ [g])).length) else cutK gs n
  | [], g, n => by
    simp only [List.nil_append, cutK, allF, List.map_cons, List.map_nil, List.flatten_cons, List.flatten_nil, List.append_nil, List.length_nil]
    rfl
  | f :: gs, g, n => by
    have ih := cutK_snoc gs g (n - (frame f.1 f.2).length)
    have e : (allF (f :: (gs ++ [g]))).length = (frame f.1 f.2).length + (allF (gs ++ [g])).length := by rw [allF_cons, List.length_append]
    have hp : 0 < (allF (gs ++ [g])).length := by rw [allF_snoc, List.length_append, frame_length]; omega
    simp only [List.cons_append, cutK]
    simp only [ih, e]
    by_cases h1 : (frame f.1 f.2).length ≤ n
    · rw [if_pos h1]
      by_cases h2 : (allF (gs ++ [g])).length ≤ n - (frame f.1 f.2).length
      · rw [if_pos h2, if_pos (by omega)]
        simp
      · rw [if_neg h2, if_neg (by omega), if_pos h1]
    · rw [if_neg h1, if_neg (by omega), if_neg h1]
theorem cutK_le : ∀ (gs : List Fr) (n : Nat), (cutK gs n).1 ≤ gs.length
  | [], n => by simp [cutK]
  | g :: gs, n => by
    simp only [cutK]
    split
    · have := cutK_le gs (n - (frame g.1 g.2).length)
      simp
      omega
    · simp
/-- Where the frames end. -/
def endsF (gs : List Fr) : List Nat := (List.range gs.length).map fun j => (allF (gs.take (j + 1))).length
theorem endsF_snoc (gs : List Fr) (g : Fr) : endsF (gs ++ [g]) = endsF gs ++ [(allF (gs ++ [g])).length] := by
  unfold endsF
  rw [List.length_append, List.length_singleton, List.range_succ, List.map_append]
  congr 1
  · apply List.map_congr_left
    intro j hj
    rw [List.mem_range] at hj
    rw [List.take_append_of_le_length (by omega)]
  · simp [List.take_of_length_le]
theorem endsF_length (gs : List Fr) : (endsF gs).length = gs.length := by simp [endsF]
theorem allF_len : ∀ (gs : List Fr), (∀ g ∈ gs, okF g) → (allF gs).length ≤ gs.length * 65544
  | [], _ => by simp [allF]
  | g :: gs, h => by
    have h1 := allF_len gs (fun f hf => h f (by simp [hf]))
    have h2 := (h g (by simp)).2
    rw [allF_cons, List.length_append, frame_length, List.length_cons]
    omega
end Go.Proofs.Ytihncekjbmepoac
