/-
  The page's reader: the variable of a record that is being read, its keys and its items.
-/
import Derived.Test.YtclmlifhhfkagaaPkRField
namespace Go.Proofs.Ytclmlifhhfkagaa
open Go.ChangeShapes Go.WideShapes Go.ChangeAt Go.RowKit
open Fl

/-- The variable, the result's variable, the rows of keys and of items. -/
structure Mem (w wr : World) (p : Nat) (kv v : Value) (ks : List ByteArray) (L : Nat) (xs : List Value) : Prop where
  box : wr.heap[w.heap.size]? = some (.cells #[.int .i64 5, .int .u64 0, .string ⟨#[]⟩, kv, v] 50 (0, 0))
  res : wr.heap[w.heap.size + 1]? = some (.cells #[.int .i64 0, .int .u64 0, .string ⟨#[]⟩, .slice none 0 0, .slice none 0 0] 50 (0, 0))
  grown : w.grownBy wr (some p)
  lt : p < w.heap.size
  keys : OwnK wr kv ks
  keyr : ∀ b, kv.ownBlock = some b → w.heap.size + 2 ≤ b ∧ b < wr.heap.size
  row : wr.ownsRow 0 50 5 v L xs
  rowr : ∀ b, v.ownBlock = some b → w.heap.size + 2 ≤ b ∧ b < wr.heap.size

theorem Mem.apart {w wr : World} {p : Nat} {kv v : Value} {ks : List ByteArray} {L : Nat} {xs : List Value} (h : Mem w wr p kv v ks L xs) (b : Nat) (hb : kv.ownBlock = some b) : v.ownBlock ≠ some b := by
  intro e
  obtain ⟨_, h2⟩ := h.keys
  obtain ⟨_, h4⟩ := h.row
  rcases h2 with ⟨rfl, _⟩ | ⟨g, cap, cur, rfl, _, hh, _⟩
  · simp [Value.ownBlock] at hb
  · rcases h4 with ⟨rfl, _⟩ | ⟨g', cap', cur', rfl, _, hh', _⟩
    · simp [Value.ownBlock] at e
    · simp only [Value.ownBlock, Option.some.injEq] at hb e
      subst hb e
      rw [hh] at hh'
      simp only [Option.some.injEq, Obj.cells.injEq] at hh'
      exact absurd hh'.2.1 (by decide)

theorem Mem.next {w wr w' : World} {p : Nat} {kv v : Value} {ks : List ByteArray} {L : Nat} {xs : List Value} (h : Mem w wr p kv v ks L xs) (hg : wr.grownBy w' (some p)) : Mem w w' p kv v ks L xs := by
  have hp := h.lt
  have ne : ∀ k, w.heap.size ≤ k → some k ≠ some p := fun k hk e => by simp only [Option.some.injEq] at e; omega
  have s := hg.size
  exact ⟨(hg.block _ (lt_of_block h.box) (ne _ (Nat.le_refl _))).trans h.box, (hg.block _ (lt_of_block h.res) (ne _ (by omega))).trans h.res, grown_trans h.grown hg, hp,
    h.keys.same fun b hb => hg.block b (h.keyr b hb).2 (ne _ (by have := (h.keyr b hb).1; omega)), fun b hb => by have := h.keyr b hb; omega,
    ownsRow_same h.row fun b hb => hg.block b (h.rowr b hb).2 (ne _ (by have := (h.rowr b hb).1; omega)), fun b hb => by have := h.rowr b hb; omega⟩

/-- A key more. -/
theorem Mem.key {w wX w4 : World} {p : Nat} {kv v kv' : Value} {ks ks' : List ByteArray} {L : Nat} {xs : List Value} {o : Obj} (h : Mem w wX p kv v ks L xs) (k1 : OwnK w4 kv' ks') (k2 : (wX.alloc o).grownBy w4 kv.ownBlock) (k3 : kv'.ownBlock = kv.ownBlock ∨ ∀ g, kv'.ownBlock = some g → (wX.alloc o).heap.size ≤ g) :
    Mem w (w4.setCell ⟨w.heap.size, 3, none⟩ kv') p kv' v ks' L xs ∧ (∀ k, k < wX.heap.size → k ≠ w.heap.size → kv.ownBlock ≠ some k → (w4.setCell ⟨w.heap.size, 3, none⟩ kv').heap[k]? = wX.heap[k]?) ∧ wX.heap.size ≤ (w4.setCell ⟨w.heap.size, 3, none⟩ kv').heap.size ∧
    w4.heap[w.heap.size]? = some (.cells #[.int .i64 5, .int .u64 0, .string ⟨#[]⟩, kv, v] 50 (0, 0)) := by
  have hp := h.lt
  have s4 : wX.heap.size + 1 ≤ w4.heap.size := by have := k2.size; simpa using this
  have sw : (w4.setCell ⟨w.heap.size, 3, none⟩ kv').heap.size = w4.heap.size := by simp [World.setCell]
  have kp4 : ∀ k, k < wX.heap.size → kv.ownBlock ≠ some k → w4.heap[k]? = wX.heap[k]? := fun k hk hn => by
    rw [k2.block k (by simp; omega) (fun e => hn e.symm), Below.heap_alloc _ _ _ hk]
  have kp : ∀ k, k < wX.heap.size → k ≠ w.heap.size → kv.ownBlock ≠ some k → (w4.setCell ⟨w.heap.size, 3, none⟩ kv').heap[k]? = wX.heap[k]? := fun k hk hn hK => by
    rw [Below.heap_setCell _ _ _ _ hn, kp4 k hk hK]
  have nk : ∀ k, k < w.heap.size + 2 → kv.ownBlock ≠ some k := fun k hk e => by have := (h.keyr k e).1; omega
  have hb4 := (kp4 _ (lt_of_block h.box) (nk _ (by omega))).trans h.box
  have kr : ∀ b, kv'.ownBlock = some b → w.heap.size + 2 ≤ b ∧ b < w4.heap.size := fun b hb => by
    have h1 := (World.ownsRow.lt k1 b hb).2
    rcases k3 with e | e
    · have := h.keyr b (by rw [← e]; exact hb); omega
    · have := e b hb
      have := lt_of_block h.res
      simp at *
      omega
  refine ⟨⟨?_, (kp _ (lt_of_block h.res) (by omega) (nk _ (by omega))).trans h.res, ?_, hp, ?_, fun b hb => by rw [sw]; exact kr b hb, ?_, fun b hb => by have := h.rowr b hb; rw [sw]; omega⟩, kp, by omega, hb4⟩
  · rw [set_one_cell (o := 3) hb4]
    simp
  · refine ⟨?_, ?_, ?_, by have := h.grown.size; omega, fun k hk hn => ?_⟩
    · have e : (w4.setCell ⟨w.heap.size, 3, none⟩ kv').os = w4.os := by simp [World.setCell]
      exact e.trans (k2.os.trans h.grown.os)
    · have e : (w4.setCell ⟨w.heap.size, 3, none⟩ kv').tape = w4.tape := by simp [World.setCell]
      exact e.trans (k2.tape.trans h.grown.tape)
    · have e : (w4.setCell ⟨w.heap.size, 3, none⟩ kv').output = w4.output := by simp [World.setCell]
      exact e.trans (k2.output.trans h.grown.output)
    · rw [kp k (by have := h.grown.size; omega) (by omega) (nk k (by omega)), h.grown.block k hk hn]
  · exact k1.same fun b hb => Below.heap_setCell _ _ _ _ (by have := (kr b hb).1; simp only; omega)
  · exact ownsRow_same h.row fun b hb => kp b (h.rowr b hb).2 (by have := (h.rowr b hb).1; omega) fun e => h.apart b e hb

/-- An item more. -/
theorem Mem.item {w wX w4 : World} {p : Nat} {kv v v' : Value} {ks : List ByteArray} {L L' : Nat} {xs xs' : List Value} {o : Obj} (h : Mem w wX p kv v ks L xs) (k1 : w4.ownsRow 0 50 5 v' L' xs') (k2 : (wX.alloc o).grownBy w4 v.ownBlock) (k3 : v'.ownBlock = v.ownBlock ∨ ∀ g, v'.ownBlock = some g → (wX.alloc o).heap.size ≤ g) :
    Mem w (w4.setCell ⟨w.heap.size, 4, none⟩ v') p kv v' ks L' xs' ∧ (∀ k, k < wX.heap.size → k ≠ w.heap.size → v.ownBlock ≠ some k → (w4.setCell ⟨w.heap.size, 4, none⟩ v').heap[k]? = wX.heap[k]?) ∧ wX.heap.size ≤ (w4.setCell ⟨w.heap.size, 4, none⟩ v').heap.size ∧
    w4.heap[w.heap.size]? = some (.cells #[.int .i64 5, .int .u64 0, .string ⟨#[]⟩, kv, v] 50 (0, 0)) := by
  have hp := h.lt
  have s4 : wX.heap.size + 1 ≤ w4.heap.size := by have := k2.size; simpa using this
  have sw : (w4.setCell ⟨w.heap.size, 4, none⟩ v').heap.size = w4.heap.size := by simp [World.setCell]
  have kp4 : ∀ k, k < wX.heap.size → v.ownBlock ≠ some k → w4.heap[k]? = wX.heap[k]? := fun k hk hn => by
    rw [k2.block k (by simp; omega) (fun e => hn e.symm), Below.heap_alloc _ _ _ hk]
  have kp : ∀ k, k < wX.heap.size → k ≠ w.heap.size → v.ownBlock ≠ some k → (w4.setCell ⟨w.heap.size, 4, none⟩ v').heap[k]? = wX.heap[k]? := fun k hk hn hK => by
    rw [Below.heap_setCell _ _ _ _ hn, kp4 k hk hK]
  have nk : ∀ k, k < w.heap.size + 2 → v.ownBlock ≠ some k := fun k hk e => by have := (h.rowr k e).1; omega
  have hb4 := (kp4 _ (lt_of_block h.box) (nk _ (by omega))).trans h.box
  have kr : ∀ b, v'.ownBlock = some b → w.heap.size + 2 ≤ b ∧ b < w4.heap.size := fun b hb => by
    have h1 := (World.ownsRow.lt k1 b hb).2
    rcases k3 with e | e
    · have := h.rowr b (by rw [← e]; exact hb); omega
    · have := e b hb
      have := lt_of_block h.res
      simp at *
      omega
  refine ⟨⟨?_, (kp _ (lt_of_block h.res) (by omega) (nk _ (by omega))).trans h.res, ?_, hp, ?_, fun b hb => by have := h.keyr b hb; rw [sw]; omega, ?_, fun b hb => by rw [sw]; exact kr b hb⟩, kp, by omega, hb4⟩
  · rw [set_one_cell (o := 4) hb4]
    simp
  · refine ⟨?_, ?_, ?_, by have := h.grown.size; omega, fun k hk hn => ?_⟩
    · have e : (w4.setCell ⟨w.heap.size, 4, none⟩ v').os = w4.os := by simp [World.setCell]
      exact e.trans (k2.os.trans h.grown.os)
    · have e : (w4.setCell ⟨w.heap.size, 4, none⟩ v').tape = w4.tape := by simp [World.setCell]
      exact e.trans (k2.tape.trans h.grown.tape)
    · have e : (w4.setCell ⟨w.heap.size, 4, none⟩ v').output = w4.output := by simp [World.setCell]
      exact e.trans (k2.output.trans h.grown.output)
    · rw [kp k (by have := h.grown.size; omega) (by omega) (nk k (by omega)), h.grown.block k hk hn]
  · exact h.keys.same fun b hb => kp b (h.keyr b hb).2 (by have := (h.keyr b hb).1; omega) (h.apart b hb)
  · exact ownsRow_same k1 fun b hb => Below.heap_setCell _ _ _ _ (by have := (kr b hb).1; simp only; omega)
end Go.Proofs.Ytclmlifhhfkagaa
