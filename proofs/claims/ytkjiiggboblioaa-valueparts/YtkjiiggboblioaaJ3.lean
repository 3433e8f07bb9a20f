/-
  SpoilValue writes over what a value holds in memory of its own, and nothing else.
-/
import Derived.Test.YtkjiiggboblioaaVaOwn
import Derived.Test.YtkjiiggboblioaaVaInsertS
import Derived.Test.YtkjiiggboblioaaVaPlace
import Derived.Test.YtkjiiggboblioaaVaRoom
namespace Go.Proofs.Ytkjiiggboblioaa
open Go.ChangeShapes Go.WideShapes Go.ChangeAt Go.RowKit

/-- All but F's blocks is as it was. -/
structure Kept (F : Nat → Prop) (w w' : World) : Prop where
  os : w'.os = w.os
  tape : w'.tape = w.tape
  output : w'.output = w.output
  size : w.heap.size ≤ w'.heap.size
  block : ∀ b, b < w.heap.size → ¬ F b → w'.heap[b]? = w.heap[b]?

theorem Kept.refl (F : Nat → Prop) (w : World) : Kept F w w := ⟨rfl, rfl, rfl, Nat.le_refl _, fun _ _ _ => rfl⟩
theorem Kept.trans {F : Nat → Prop} {a b c : World} (h : Kept F a b) (k : Kept F b c) : Kept F a c :=
  ⟨k.os.trans h.os, k.tape.trans h.tape, k.output.trans h.output, Nat.le_trans h.size k.size, fun j hj hn => (k.block j (Nat.lt_of_lt_of_le hj h.size) hn).trans (h.block j hj hn)⟩
theorem Kept.mono {F F' : Nat → Prop} {a b : World} (h : Kept F a b) (hF : ∀ j, F j → F' j) : Kept F' a b := ⟨h.os, h.tape, h.output, h.size, fun j hj hn => h.block j hj fun q => hn (hF j q)⟩
theorem Kept.of_below {F : Nat → Prop} {a b : World} (h : Below a.heap.size a b) : Kept F a b := ⟨h.os, h.tape, h.output, h.size, fun j hj _ => h.block j hj⟩
theorem Kept.setCell {F : Nat → Prop} {a b : World} (h : Kept F a b) {g o : Nat} (v : Value) (hg : F g) : Kept F a (b.setCell ⟨g, o, none⟩ v) :=
  ⟨h.os, h.tape, h.output, by simpa [World.setCell] using h.size, fun j hj hn => by
    have : ¬ g = j := fun e => hn (by rw [← e]; exact hg)
    simpa [World.setCell, Array.getElem?_modify, this] using h.block j hj hn⟩

theorem set_one_cell {w : World} {g o : Nat} {cur : Array Value} {t : TypeId} (h : w.heap[g]? = some (.cells cur t (0, 0))) (v : Value) : (w.setCell ⟨g, o, none⟩ v).heap[g]? = some (.cells (cur.setIfInBounds o v) t (0, 0)) := by
  simp [World.setCell, Array.getElem?_modify, h]

theorem sets5 {w : World} {g o : Nat} {cur : Array Value} {t : TypeId} (h : w.heap[g]? = some (.cells cur t (0, 0))) (v0 v1 v2 v3 v4 : Value) :
    ∃ cur' : Array Value, (((((w.setCell ⟨g, o, none⟩ v0).setCell ⟨g, o + 1, none⟩ v1).setCell ⟨g, o + 2, none⟩ v2).setCell ⟨g, o + 3, none⟩ v3).setCell ⟨g, o + 4, none⟩ v4).heap[g]? = some (.cells cur' t (0, 0)) ∧ cur'.size = cur.size ∧ ∀ j, o + 5 ≤ j → cur'[j]? = cur[j]? := by
  refine ⟨_, set_one_cell (set_one_cell (set_one_cell (set_one_cell (set_one_cell h v0) v1) v2) v3) v4, by simp, ?_⟩
  intro j hj
  have e0 : ¬ o = j := by omega
  have e1 : ¬ o + 1 = j := by omega
  have e2 : ¬ o + 2 = j := by omega
  have e3 : ¬ o + 3 = j := by omega
  have e4 : ¬ o + 4 = j := by omega
  simp [e0, e1, e2, e3, e4]

theorem cell_of {w : World} {g : Nat} {cur : Array Value} {t : TypeId} (h : w.heap[g]? = some (.cells cur t (0, 0))) (j : Nat) : w.cell? ⟨g, j, none⟩ = cur[j]? ∧ w.frozen? ⟨g, j, none⟩ = false := by
  simp [World.cell?, World.frozen?, h]

end Go.Proofs.Ytkjiiggboblioaa

/-
  makeRoom: a new item where a step names one that is not there yet.
-/
namespace Go.Proofs.Ytkjiiggboblioaa
open Go.ChangeShapes Go.WideShapes Go.ChangeAt Go.RowKit
open Fl

/-- The cells of nothing. -/
def zcells : List Value := [.int .i64 0, .int .u64 0, .string ⟨#[]⟩, .slice none 0 0, .slice none 0 0]

/-- What makeRoom leaves: the part's items (and keys) are new rows, all else is as it was. -/
structure Roomy (w w' : World) (g : Nat) (old1 old2 : Option Nat) : Prop where
  os : w'.os = w.os
  tape : w'.tape = w.tape
  output : w'.output = w.output
  size : w.heap.size ≤ w'.heap.size
  block : ∀ j, j < w.heap.size → j ≠ g → old1 ≠ some j → old2 ≠ some j → w'.heap[j]? = w.heap[j]?

set_option maxRecDepth 100000 in
set_option maxHeartbeats 3200000 in
theorem room_idx (g o il ic : Nat) (ia : Option Addr) (cur : Array Value) (xs : List Value) (key : ByteArray) (w : World) (hg : w.heap[g]? = some (.cells cur 26 (0, 0))) (h4 : cur[o + 4]? = some (.slice ia il ic))
    (hI : w.ownsRow 0 26 5 (.slice ia il ic) il xs) (h1 : ∀ v ∈ xs, v.oneCell' = true) (hgI : (Value.slice ia il ic).ownBlock ≠ some g) (hil : il < 32) :
    Calls Try.prog 19 #[.pointer (some ⟨g, o, none⟩), .agg #[.bool false, .string key, .int .i64 il]] w fun e w' => e = .returned (.tuple #[.int .i64 il, .int .i64 0]) ∧
      ∃ vi, w'.heap[g]? = some (.cells (cur.setIfInBounds (o + 4) vi) 26 (0, 0)) ∧ w'.ownsRow 0 26 5 vi (il + 1) (xs.take (il * 5) ++ zcells ++ xs.drop (il * 5)) ∧ Roomy w w' g (Value.slice ia il ic).ownBlock none ∧
        (vi.ownBlock = (Value.slice ia il ic).ownBlock ∨ ∀ b, vi.ownBlock = some b → w.heap.size ≤ b) := by
  have p4 := (cell_of hg (o + 4)).1.trans h4
  have f4 := (cell_of hg (o + 4)).2
  have hp : g < w.heap.size := lt_of_block hg
  have HG : Hid (w.heap[g]? = some (.cells cur 26 (0, 0))) := hg
  have HI : Hid (w.ownsRow 0 26 5 (.slice ia il ic) il xs) := hI
  have HgI : Hid ((Value.slice ia il ic).ownBlock ≠ some g) := hgI
  have H1 : Hid (∀ v ∈ xs, v.oneCell' = true) := h1
  have hne : ¬ g = w.heap.size := by omega
  have P4 : ∀ ob, (w.alloc ob).cell? ⟨g, o + 4, none⟩ = some (.slice ia il ic) := fun ob => keepc (below_one _ _) _ _ p4
  have H4 : Hid (cur[o + 4]? = some (.slice ia il ic)) := h4
  clear hI hgI h1 hg h4
  go_enter Try.func19, Try.ntmps19
  go_wp2_with fail
  go_quiet (fail)
  have BW : Hid (Below w.heap.size w ((w.alloc (.cells #[.bool false, .string key, .int .i64 il] 42)).drewN nq)) := below_draw _ _ _
  have SW : Hid (((w.alloc (.cells #[.bool false, .string key, .int .i64 il] 42)).drewN nq).heap[w.heap.size]? = some (.cells #[.bool false, .string key, .int .i64 il] 42 (0, 0))) := heap_alloc_new _ _
  generalize (w.alloc (.cells #[.bool false, .string key, .int .i64 il] 42)).drewN nq = W1 at *
  clear p4 f4 P4
  have p4 := (cell_of ((BW.out.block _ hp).trans HG.out) (o + 4)).1.trans H4.out
  have f4 := (cell_of ((BW.out.block _ hp).trans HG.out) (o + 4)).2
  have s0 : W1.cell? ⟨w.heap.size, 0, none⟩ = some (.bool false) := by rw [(cell_of SW.out 0).1]; rfl
  have s2 : W1.cell? ⟨w.heap.size, 2, none⟩ = some (.int .i64 il) := by rw [(cell_of SW.out 2).1]; rfl
  have HCI : Hid (Calls Try.prog 29 #[.slice ia il ic, .int .i64 il, .slice (some ⟨W1.heap.size, 0, none⟩) 1 1] (W1.alloc (.cells #[.int .i64 0, .int .u64 0, .string ⟨#[]⟩, .slice none 0 0, .slice none 0 0] 26)) fun e w' =>
      ∃ v', e = .returned v' ∧ w'.ownsRow 0 26 5 v' (il + 1) (xs.take (il * 5) ++ zcells ++ xs.drop (il * 5)) ∧ (W1.alloc (.cells #[.int .i64 0, .int .u64 0, .string ⟨#[]⟩, .slice none 0 0, .slice none 0 0] 26)).grownBy w' (Value.slice ia il ic).ownBlock ∧ (v'.ownBlock = (Value.slice ia il ic).ownBlock ∨ ∀ g, v'.ownBlock = some g → (W1.alloc (.cells #[.int .i64 0, .int .u64 0, .string ⟨#[]⟩, .slice none 0 0, .slice none 0 0] 26)).heap.size ≤ g)) := by
    have hb2 := nxt BW.out (below_one W1 (.cells #[.int .i64 0, .int .u64 0, .string ⟨#[]⟩, .slice none 0 0, .slice none 0 0] 26))
    refine insV_any (.slice ia il ic) 0 il il W1.heap.size xs zcells _ (Nat.le_refl _) (Nat.zero_le _) (by omega) (ownsRow_same HI.out fun b hb => hb2.block b (HI.out.lt b hb).2) (fun e => ?_) (heap_alloc_new _ _) rfl H1.out (by simp [zcells, Value.oneCell'])
    have := (HI.out.lt _ e).2
    have := BW.out.size
    omega
  go_wp2_with (go_at_call 29; refine HCI.out.mono ?_; rintro e w5 ⟨v5, rfl, ho5, hg5, hv5⟩; have hG5 := (hg5.block g (by have := BW.out.size; simp; omega) (fun e => HgI.out e.symm)).trans ((Below.heap_alloc _ _ _ (Nat.lt_of_lt_of_le hp BW.out.size)).trans ((BW.out.block _ hp).trans HG.out)); have q5 := (cell_of hG5 (o + 4)).1.trans H4.out; have r5 := (cell_of hG5 (o + 4)).2; obtain ⟨a5, l5, rfl⟩ := slice_of_own ho5)
  go_ret2
  have hgs := hg5.size
  have hbs := BW.out.size
  simp at hgs
  have hoth : ∀ j, j ≠ g → (w5.setCell ⟨g, o + 4, none⟩ (.slice a5 (il + 1) l5)).heap[j]? = w5.heap[j]? := fun j hj => by
    have : ¬ g = j := fun e => hj e.symm
    simp [World.setCell, Array.getElem?_modify, this]
  refine ⟨rfl, _, set_one_cell hG5 _, ownsRow_same ho5 fun b hb => hoth b (fun e => ?_), ⟨?_, ?_, ?_, ?_, ?_⟩, ?_⟩
  · rcases hv5 with e' | e'
    · exact HgI.out (by rw [← e', hb, e])
    · have := e' b hb; simp at this; omega
  · exact hg5.os.trans BW.out.os
  · exact hg5.tape.trans BW.out.tape
  · exact hg5.output.trans BW.out.output
  · simp [World.setCell]; omega
  · intro j hj hjg hj1 _
    rw [hoth j hjg, hg5.block j (by simp; omega) (fun e => hj1 e.symm), Below.heap_alloc _ _ _ (by omega)]
    exact BW.out.block j hj
  · rcases hv5 with e' | e'
    · exact Or.inl e'
    · exact Or.inr fun b hb => by have := e' b hb; simp at this; omega
end Go.Proofs.Ytkjiiggboblioaa
