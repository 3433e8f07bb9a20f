/-
  Scan as mathematics; frames in a row of one's own; what a round of the loop over frames keeps.
-/
import Derived.Test.YtihncekjbmepoacSeBack
import Derived.RangeFuncNested
import Derived.RangeFuncLeaves
namespace Go.Proofs.Ytihncekjbmepoac
open Go.ChangeShapes Go.WideShapes Go.ChangeAt Go.RowKit Go.Deep
open Se

/-- Get's octets, where it takes a frame. -/
theorem getR_ok {l : List UInt8} (h : (getR l).1 = 0) : 8 ≤ (getR l).2.2.2 ∧ (getR l).2.2.2 ≤ l.length ∧ (getR l).2.2.1.length ≤ 65536 := by
  unfold getR at h ⊢
  split at h
  · simp at h
  · rename_i h8
    rw [if_neg h8]
    split at h
    · simp at h
    · rename_i hk
      rw [if_neg hk]
      split at h
      · simp at h
      · rename_i h5
        rw [if_neg h5]
        split at h
        · simp at h
        · rename_i hs
          rw [if_neg hs]
          split at h
          · rename_i he
            rw [if_pos he]
            simp
            omega
          · simp at h

/-- The frames with which octets begin, and how many octets they are. -/
def scanN : Nat → List UInt8 → List (Int × List UInt8) × Nat
  | 0, _ => ([], 0)
  | m + 1, l => if (getR l).1 = 0 then (((getR l).2.1, (getR l).2.2.1) :: (scanN m (l.drop (getR l).2.2.2)).1, (getR l).2.2.2 + (scanN m (l.drop (getR l).2.2.2)).2) else ([], 0)
def scanR (l : List UInt8) : List (Int × List UInt8) × Nat := scanN (l.length + 1) l

theorem scanN_more : ∀ (m k : Nat) (l : List UInt8), l.length < m → l.length < k → scanN m l = scanN k l
  | 0, _, _, h, _ => by omega
  | _, 0, _, _, h => by omega
  | m + 1, k + 1, l, h1, h2 => by
    simp only [scanN]
    by_cases h : (getR l).1 = 0
    · have h3 := getR_ok h
      have hd : (l.drop (getR l).2.2.2).length = l.length - (getR l).2.2.2 := List.length_drop
      rw [if_pos h, if_pos h, scanN_more m k _ (by omega) (by omega)]
    · rw [if_neg h, if_neg h]
theorem scanR_no {l : List UInt8} (h : (getR l).1 ≠ 0) : scanR l = ([], 0) := by
  unfold scanR
  simp only [scanN]
  rw [if_neg h]
theorem scanR_yes {l : List UInt8} (h : (getR l).1 = 0) : scanR l = (((getR l).2.1, (getR l).2.2.1) :: (scanR (l.drop (getR l).2.2.2)).1, (getR l).2.2.2 + (scanR (l.drop (getR l).2.2.2)).2) := by
  have h3 := getR_ok h
  have hd : (l.drop (getR l).2.2.2).length = l.length - (getR l).2.2.2 := List.length_drop
  have e : scanR l = scanN (l.length + 1) l := rfl
  rw [e]
  simp only [scanN]
  rw [if_pos h, scanN_more l.length ((l.drop (getR l).2.2.2).length + 1) _ (by omega) (by omega)]
  rfl

/-- Rows of octets stay. -/
def KpB (W W' : World) : Prop := W.heap.size ≤ W'.heap.size ∧ ∀ (j : Nat) (cs : Array Value) (r : Nat × Nat), W.heap[j]? = some (Obj.cells cs 5 r) → W'.heap[j]? = W.heap[j]?
theorem KpB.refl (W : World) : KpB W W := ⟨Nat.le_refl _, fun _ _ _ _ => rfl⟩
theorem KpB.trans {A B C : World} (h : KpB A B) (k : KpB B C) : KpB A C := ⟨Nat.le_trans h.1 k.1, fun j cs r hj => (k.2 j cs r ((h.2 j cs r hj).trans hj)).trans (h.2 j cs r hj)⟩
theorem KpB.below {A B : World} (h : Below A.heap.size A B) : KpB A B := ⟨h.size, fun j _ _ hj => h.block j (lt_of_block hj)⟩
theorem KpB.set {A : World} {g o : Nat} {cs : Array Value} {t : TypeId} {r : Nat × Nat} (h : A.heap[g]? = some (.cells cs t r)) (ht : t ≠ 5) (v : Value) : KpB A (A.setCell ⟨g, o, none⟩ v) :=
  ⟨by simp [World.setCell], fun j cs' r' hj => Below.heap_setCell _ _ _ _ (by rintro rfl; rw [h] at hj; simp only [Option.some.injEq, Obj.cells.injEq] at hj; exact ht hj.2.1)⟩
theorem KpB.put {A : World} {g : Nat} {o : Obj} (o' : Obj) (h : A.heap[g]? = some o) (ho : o.isCells = false) : KpB A (A.putObj g o') :=
  ⟨by simp [World.putObj], fun j cs r hj => World.putObj_heap_other (by rintro rfl; rw [h] at hj; simp only [Option.some.injEq] at hj; subst hj; simp [Obj.isCells] at ho)⟩
theorem KpB.grown {A B : World} {row : Option Nat} (hg : A.grownBy B row) (hr : ∀ g, row = some g → ∃ cs t r, A.heap[g]? = some (.cells cs t r) ∧ t ≠ 5) : KpB A B :=
  ⟨hg.size, fun j cs r hj => hg.block j (lt_of_block hj) (by
    intro e
    obtain ⟨cs', t, r', h1, h2⟩ := hr j e.symm
    rw [h1] at hj
    simp only [Option.some.injEq, Obj.cells.injEq] at hj
    exact h2 hj.2.1)⟩

theorem Bs.kpb {W W' : World} {B : Nat} {s : Value} {l : List UInt8} (h : Bs W B s l) (k : KpB W W') : Bs W' B s l := by
  refine ownsRow_same h fun g hg => ?_
  obtain ⟨h1, h2⟩ := h
  rcases h2 with ⟨h3, -⟩ | ⟨g', cap, cur, h3, h4, h5, h6⟩
  · rw [h3] at hg; simp [Value.ownBlock] at hg
  · rw [h3] at hg
    simp only [Value.ownBlock, Option.some.injEq] at hg
    subst hg
    exact k.2 _ _ _ h5

/-- Frames in a row, each with its octets. -/
def FrItems (W : World) (fs : List (Int × List UInt8)) (xs : List Value) : Prop :=
  ∀ j f, fs[j]? = some f → ∃ a c, xs[2 * j]? = some (.int .i64 f.1) ∧ xs[2 * j + 1]? = some (.slice a f.2.length c) ∧ Bs W 0 (.slice a f.2.length c) f.2
theorem FrItems.kpb {W W' : World} {fs : List (Int × List UInt8)} {xs : List Value} (h : FrItems W fs xs) (k : KpB W W') : FrItems W' fs xs := by
  intro j f hj
  obtain ⟨a, c, h1, h2, h3⟩ := h j f hj
  exact ⟨a, c, h1, h2, h3.kpb k⟩
theorem FrItems.push {W : World} {fs : List (Int × List UInt8)} {xs : List Value} (h : FrItems W fs xs) (hl : xs.length = 2 * fs.length) {f : Int × List UInt8} {a : Option Addr} {c : Nat} (hb : Bs W 0 (.slice a f.2.length c) f.2) :
    FrItems W (fs ++ [f]) (xs ++ [.int .i64 f.1, .slice a f.2.length c]) := by
  intro j g hj
  by_cases hlt : j < fs.length
  · rw [List.getElem?_append_left hlt] at hj
    obtain ⟨a', c', h1, h2, h3⟩ := h j g hj
    exact ⟨a', c', by rw [List.getElem?_append_left (by omega)]; exact h1, by rw [List.getElem?_append_left (by omega)]; exact h2, h3⟩
  · rw [List.getElem?_append_right (by omega)] at hj
    have hj0 : j = fs.length := by
      have := (List.getElem?_eq_some_iff.1 hj).1
      simp at this
      omega
    subst hj0
    simp only [Nat.sub_self, List.getElem?_cons_zero, Option.some.injEq] at hj
    subst hj
    refine ⟨a, c, ?_, ?_, hb⟩
    · rw [List.getElem?_append_right (by omega), show 2 * fs.length - xs.length = 0 by omega]; rfl
    · rw [List.getElem?_append_right (by omega), show 2 * fs.length + 1 - xs.length = 1 by omega]; rfl

/-- What holds between two rounds. -/
structure ScInv (w : World) (A O D L : Nat) (rec : Loop) (W : World) (fs : List (Int × List UInt8)) (i : Nat) : Prop where
  all : ∃ v xs, W.heap[A]? = some (.cells #[v] 37 (0, 0)) ∧ W.ownsRow (w.heap.size) 25 2 v fs.length xs ∧ FrItems W fs xs
  oct : W.heap[O]? = some (.cells #[.int .i64 i] 3 (0, 0))
  lp : W.heap[L]? = some (.loop rec)
  df : W.heap[D]? = some (.deferred (some []))
  bel : Below w.heap.size w W

theorem ScInv.below {w W W' : World} {A O D L i : Nat} {rec : Loop} {fs : List (Int × List UInt8)} (h : ScInv w A O D L rec W fs i) (hb : Below W.heap.size W W') : ScInv w A O D L rec W' fs i := by
  obtain ⟨⟨v, xs, h1, h2, h3⟩, h4, h5, h6, h7⟩ := h
  refine ⟨⟨v, xs, (hb.block _ (lt_of_block h1)).trans h1, ownsRow_same h2 fun g hg => hb.block g (h2.lt g hg).2, h3.kpb (KpB.below hb)⟩, (hb.block _ (lt_of_block h4)).trans h4, (hb.block _ (lt_of_block h5)).trans h5, (hb.block _ (lt_of_block h6)).trans h6, nxt h7 hb⟩
end Go.Proofs.Ytihncekjbmepoac
