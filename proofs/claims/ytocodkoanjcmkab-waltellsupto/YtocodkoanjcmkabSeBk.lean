/-
  Get of Put, as mathematics (as SeBack, with no word of layer 4's statements); a frame that is cut off.
-/
import Derived.Test.YtocodkoanjcmkabSeGet
namespace Go.Proofs.Ytocodkoanjcmkab
open Go.ChangeShapes Go.WideShapes Go.ChangeAt Go.RowKit Go.Deep
open Se

theorem hdr_length (k : Int) (d : List UInt8) : (hdr k d).length = 4 + d.length := by simp [hdr]; omega
theorem frame_length (k : Int) (d : List UInt8) : (frame k d).length = 4 + d.length + 4 := by simp [frame, hdr_length, le4_length]

theorem lenO_hdr (k : Int) (d m : List UInt8) (hd : d.length ≤ 65536) : lenO (hdr k d ++ m) = d.length := by
  simp only [lenO, hdr, List.cons_append, List.nil_append, List.getD_cons_succ, List.getD_cons_zero, UInt8.toNat_ofNat']
  omega
theorem kind_hdr (k : Int) (d m : List UInt8) (hk : 1 ≤ k ∧ k ≤ 255) : ((hdr k d ++ m).getD 0 0).toNat = k.toNat := by
  simp only [hdr, List.cons_append, List.getD_cons_zero, UInt8.toNat_ofNat']
  omega

theorem get_put {k : Int} {d : List UInt8} (hk : 1 ≤ k ∧ k ≤ 255) (hd : d.length ≤ 65536) (more : List UInt8) : getR (frame k d ++ more) = (0, k, d, (frame k d).length) := by
  have e : frame k d ++ more = hdr k d ++ (le4 (sum (hdr k d)) ++ more) := by simp [frame]
  have hl : (frame k d ++ more).length = 4 + d.length + 4 + more.length := by rw [List.length_append, frame_length]
  have hn : lenO (frame k d ++ more) = d.length := by rw [e]; exact lenO_hdr k d _ hd
  have ho : ((frame k d ++ more).getD 0 0).toNat = k.toNat := by rw [e]; exact kind_hdr k d _ hk
  have ht : (frame k d ++ more).take (4 + d.length) = hdr k d := by rw [e, ← hdr_length k d]; exact List.take_left
  have hdp : (frame k d ++ more).drop (4 + d.length) = le4 (sum (hdr k d)) ++ more := by rw [e, ← hdr_length k d]; exact List.drop_left
  have h4 : (le4 (sum (hdr k d)) ++ more).take 4 = le4 (sum (hdr k d)) := by
    have := List.take_left (l₁ := le4 (sum (hdr k d))) (l₂ := more)
    rwa [le4_length] at this
  unfold getR
  rw [if_neg (by omega), if_neg (by omega), hn, if_neg (by omega), if_neg (by omega), ht, hdp, h4, if_pos rfl, ho, frame_length]
  have h5 : (hdr k d).drop 4 = d := by simp [hdr]
  rw [h5]
  simp only [Prod.mk.injEq, true_and, and_true]
  omega
theorem put_ok {k : Int} {d : List UInt8} (hk : 1 ≤ k ∧ k ≤ 255) (hd : d.length ≤ 65536) : putR k d = (0, frame k d) := by
  unfold putR
  rw [if_neg (by omega), if_neg (by omega)]
theorem put_bad {k : Int} {d : List UInt8} (h : ¬ ((1 ≤ k ∧ k ≤ 255) ∧ d.length ≤ 65536)) : (putR k d).1 ≠ 0 ∧ (putR k d).2 = [] := by
  unfold putR
  by_cases h1 : k < 1 ∨ 255 < k
  · rw [if_pos h1]; simp
  · rw [if_neg h1, if_pos (by omega)]; simp

/-- Get's octets, where it takes a frame. -/
theorem getR_ok {l : List UInt8} (h : (getR l).1 = 0) : 8 ≤ (getR l).2.2.2 ∧ (getR l).2.2.2 ≤ l.length ∧ (getR l).2.2.1.length ≤ 65536 := by
  unfold getR at h ⊢
  split at h
  · simp at h
  · rename_i h8
    rw [if_neg h8]
    split at h
    · simp at h
    · rename_i hk
      rw [if_neg hk]
      split at h
      · simp at h
      · rename_i h5
        rw [if_neg h5]
        split at h
        · simp at h
        · rename_i hs
          rw [if_neg hs]
          split at h
          · rename_i he
            rw [if_pos he]
            simp
            omega
          · simp at h

abbrev Fr := Int × List UInt8
/-- A frame that may be. -/
def okF (f : Fr) : Prop := (1 ≤ f.1 ∧ f.1 ≤ 255) ∧ f.2.length ≤ 65536

/-- A frame that is cut off is refused. -/
theorem get_cut {g : Fr} (hg : okF g) {n : Nat} (hn : n < (frame g.1 g.2).length) : (getR ((frame g.1 g.2).take n)).1 ≠ 0 := by
  have hfl := frame_length g.1 g.2
  have hl : ((frame g.1 g.2).take n).length = n := by rw [List.length_take]; omega
  unfold getR
  by_cases h8 : n < 8
  · rw [if_pos (by omega)]; simp
  · rw [if_neg (by omega)]
    have e : ∀ i, i < 8 → ((frame g.1 g.2).take n).getD i 0 = (frame g.1 g.2).getD i 0 := fun i hi => by
      rw [List.getD_eq_getElem?_getD, List.getD_eq_getElem?_getD, List.getElem?_take_of_lt (by omega)]
    have hk : (((frame g.1 g.2).take n).getD 0 0).toNat = g.1.toNat := by
      rw [e 0 (by omega)]
      exact kind_hdr g.1 g.2 _ hg.1
    have hn' : lenO ((frame g.1 g.2).take n) = g.2.length := by
      have : lenO ((frame g.1 g.2).take n) = lenO (frame g.1 g.2) := by
        simp only [lenO]
        rw [e 1 (by omega), e 2 (by omega), e 3 (by omega)]
      rw [this]
      exact lenO_hdr g.1 g.2 _ hg.2
    have h1 := hg.1
    have h2 := hg.2
    rw [if_neg (by omega), hn', if_neg (by omega), if_pos (by omega)]
    simp

/-- Rows of octets stay. -/
def KpB (W W' : World) : Prop := W.heap.size ≤ W'.heap.size ∧ ∀ (j : Nat) (cs : Array Value) (r : Nat × Nat), W.heap[j]? = some (Obj.cells cs 5 r) → W'.heap[j]? = W.heap[j]?
theorem KpB.refl (W : World) : KpB W W := ⟨Nat.le_refl _, fun _ _ _ _ => rfl⟩
theorem KpB.trans {A B C : World} (h : KpB A B) (k : KpB B C) : KpB A C := ⟨Nat.le_trans h.1 k.1, fun j cs r hj => (k.2 j cs r ((h.2 j cs r hj).trans hj)).trans (h.2 j cs r hj)⟩
theorem KpB.below {A B : World} (h : Below A.heap.size A B) : KpB A B := ⟨h.size, fun j _ _ hj => h.block j (lt_of_block hj)⟩
theorem KpB.set {A : World} {g o : Nat} {cs : Array Value} {t : TypeId} {r : Nat × Nat} (h : A.heap[g]? = some (.cells cs t r)) (ht : t ≠ 5) (v : Value) : KpB A (A.setCell ⟨g, o, none⟩ v) :=
  ⟨by simp [World.setCell], fun j cs' r' hj => Below.heap_setCell _ _ _ _ (by rintro rfl; rw [h] at hj; simp only [Option.some.injEq, Obj.cells.injEq] at hj; exact ht hj.2.1)⟩
theorem KpB.grown {A B : World} {row : Option Nat} (hg : A.grownBy B row) (hr : ∀ g, row = some g → ∃ cs t r, A.heap[g]? = some (.cells cs t r) ∧ t ≠ 5) : KpB A B :=
  ⟨hg.size, fun j cs r hj => hg.block j (lt_of_block hj) (by
    intro e
    obtain ⟨cs', t, r', h1, h2⟩ := hr j e.symm
    rw [h1] at hj
    simp only [Option.some.injEq, Obj.cells.injEq] at hj
    exact h2 hj.2.1)⟩

theorem Bs.kpb {W W' : World} {B : Nat} {s : Value} {l : List UInt8} (h : Bs W B s l) (k : KpB W W') : Bs W' B s l := by
  refine ownsRow_same h fun g hg => ?_
  obtain ⟨h1, h2⟩ := h
  rcases h2 with ⟨h3, -⟩ | ⟨g', cap, cur, h3, h4, h5, h6⟩
  · rw [h3] at hg; simp [Value.ownBlock] at hg
  · rw [h3] at hg
    simp only [Value.ownBlock, Option.some.injEq] at hg
    subst hg
    exact k.2 _ _ _ h5

end Go.Proofs.Ytocodkoanjcmkab
