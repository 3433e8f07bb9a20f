/-
  The page's reader: behind an error; fields of a record.
-/
import Derived.Test.YtfdbhojghkdlkaaPkRPart
namespace Go.Proofs.Ytfdbhojghkdlkaa
open Go.ChangeShapes Go.WideShapes Go.ChangeAt Go.RowKit
open Fl

/-- The page's value, behind an error. -/
theorem RErr.more {w : World} {p K : Nat} {er : Int} (h : RErr w p K er) : ∃ q : Nat, q ≤ K ∧ w.cell? ⟨p, 2, none⟩ = some (.int .i64 (q : Int)) ∧ w.cell? ⟨p, 3, none⟩ = some (.int .i64 er) ∧ w.frozen? ⟨p, 2, none⟩ = false ∧ (er == 0) = false ∧ (er != 0) = true ∧ RErr (w.setCell ⟨p, 2, none⟩ (.int .i64 ((q : Int) + 1))) p (K + 1) er := by
  obtain ⟨h1, q, h2, sl, i, h3⟩ := h
  obtain ⟨x0, x1, x2, x3, f0, f1, f2, f3⟩ := rd4_cells h3
  exact ⟨q, h2, x2, x3, f2, by simpa using h1, by simpa using h1, h1, q + 1, by omega, sl, i, set4_two h3 _⟩

set_option maxRecDepth 100000 in
set_option maxHeartbeats 1600000 in
theorem rvalue_err (p K : Nat) (er d : Int) (w : World) (h : RErr w p K er) (hK : K ≤ 281474976710700) :
    Calls Try.prog 40 #[.pointer (some ⟨p, 0, none⟩), .int .i64 d] w fun e w' => w.grownBy w' (some p) ∧ RErr w' p (K + 1) er ∧ ∃ y, e = .returned y ∧ Some5 y := by
  have hp : p < w.heap.size := by obtain ⟨_, q, _, sl, i, h3⟩ := h; exact lt_of_block h3
  have HE1 : Hid (RErr (w.alloc (.cells #[.int .i64 0, .int .u64 0, .string ⟨#[]⟩, .slice none 0 0, .slice none 0 0] 50)) p K er) := h.same (Below.heap_alloc _ _ _ hp)
  have XR1 : Hid ((w.alloc (.cells #[.int .i64 0, .int .u64 0, .string ⟨#[]⟩, .slice none 0 0, .slice none 0 0] 50)).heap[w.heap.size]? = some (.cells #[.int .i64 0, .int .u64 0, .string ⟨#[]⟩, .slice none 0 0, .slice none 0 0] 50 (0, 0))) := heap_alloc_new _ _
  have B1 : Hid (Below w.heap.size w (w.alloc (.cells #[.int .i64 0, .int .u64 0, .string ⟨#[]⟩, .slice none 0 0, .slice none 0 0] 50))) := below_one _ _
  clear h
  go_enter Try.func40, Try.ntmps40
  go_upto_region 1 with fail
  generalize w.alloc (.cells #[.int .i64 0, .int .u64 0, .string ⟨#[]⟩, .slice none 0 0, .slice none 0 0] 50) = W1 at *
  go_wp2_with fail
  refine (rfail_err p K _ er _ W1 HE1.out).mono ?_
  rintro e w2 ⟨rfl, hw2⟩
  subst w2
  go_wp2_with fail
  refine (roctet_err p K er W1 HE1.out).mono ?_
  rintro e w2 ⟨rfl, hw2⟩
  subst w2
  go_wp2_with fail
  refine (rfail_err p K _ er _ W1 HE1.out).mono ?_
  rintro e w2 ⟨rfl, hw2⟩
  subst w2
  obtain ⟨q, hq, x2, x3, f2, hne, hne', hE2⟩ := HE1.out.more
  have HE2 : Hid (RErr _ p (K + 1) er) := hE2
  have hq' : q ≤ 281474976710700 := by omega
  clear hq hne
  clear hE2
  go_upto_region 6 with fail
  have hpW : p < W1.heap.size := lt_of_cell x2
  have hsz : (W1.setCell ⟨p, 2, none⟩ (.int .i64 ((q : Int) + 1))).heap.size = W1.heap.size := by simp [World.setCell]
  have bA := below_one (W1.setCell ⟨p, 2, none⟩ (.int .i64 ((q : Int) + 1))) (.cells #[.int .i64 0, .int .u64 0, .string ⟨#[]⟩, .slice none 0 0, .slice none 0 0] 50)
  have HE3 : Hid (RErr ((W1.setCell ⟨p, 2, none⟩ (.int .i64 ((q : Int) + 1))).alloc (.cells #[.int .i64 0, .int .u64 0, .string ⟨#[]⟩, .slice none 0 0, .slice none 0 0] 50)) p (K + 1) er) := HE2.out.same (bA.block p (by rw [hsz]; exact hpW))
  have XR3 : Hid (((W1.setCell ⟨p, 2, none⟩ (.int .i64 ((q : Int) + 1))).alloc (.cells #[.int .i64 0, .int .u64 0, .string ⟨#[]⟩, .slice none 0 0, .slice none 0 0] 50)).heap[w.heap.size]? = some (.cells #[.int .i64 0, .int .u64 0, .string ⟨#[]⟩, .slice none 0 0, .slice none 0 0] 50 (0, 0))) := (bA.block _ (by rw [hsz]; exact lt_of_block XR1.out)).trans ((Below.heap_setCell _ _ _ _ (by simp only; omega)).trans XR1.out)
  have YV3 : Hid (((W1.setCell ⟨p, 2, none⟩ (.int .i64 ((q : Int) + 1))).alloc (.cells #[.int .i64 0, .int .u64 0, .string ⟨#[]⟩, .slice none 0 0, .slice none 0 0] 50)).heap[W1.heap.size]? = some (.cells #[.int .i64 0, .int .u64 0, .string ⟨#[]⟩, .slice none 0 0, .slice none 0 0] 50 (0, 0))) := by
    have := heap_alloc_new (W1.setCell ⟨p, 2, none⟩ (.int .i64 ((q : Int) + 1))) (.cells #[.int .i64 0, .int .u64 0, .string ⟨#[]⟩, .slice none 0 0, .slice none 0 0] 50)
    rw [hsz] at this
    exact this
  have G3 : Hid (w.grownBy ((W1.setCell ⟨p, 2, none⟩ (.int .i64 ((q : Int) + 1))).alloc (.cells #[.int .i64 0, .int .u64 0, .string ⟨#[]⟩, .slice none 0 0, .slice none 0 0] 50)) (some p)) := grown_below (grown_trans (grown_of_below B1.out) (grown_set _)) bA
  clear bA hsz x2 x3 f2 HE2
  generalize ((W1.setCell ⟨p, 2, none⟩ (.int .i64 ((q : Int) + 1))).alloc (.cells #[.int .i64 0, .int .u64 0, .string ⟨#[]⟩, .slice none 0 0, .slice none 0 0] 50)) = W3 at *
  obtain ⟨z0, z1, z2, z3, z4, g0, g1, g2, g3, g4⟩ := box_cells XR3.out
  obtain ⟨v0, v1, v2, v3, v4, -⟩ := box_cells YV3.out
  obtain ⟨_, _, _, x3, _, _, _, _⟩ := HE3.out.more
  go_wp2_with fail
  refine bodyPost_ret (v := mk 0 0 ⟨#[]⟩ none 0 0 none 0 0) (by simp [results, Try.results40, go_sem, z0, z1, z2, z3, z4]) rfl ?_
  obtain ⟨e1, e2, e3, e4, e5⟩ := five_fin W3 w.heap.size (.int .i64 0) (.int .u64 0) (.string ⟨#[]⟩) (.slice none 0 0) (.slice none 0 0)
  generalize (((((W3.setCell ⟨w.heap.size, 0, none⟩ (.int .i64 0)).setCell ⟨w.heap.size, 1, none⟩ (.int .u64 0)).setCell ⟨w.heap.size, 2, none⟩ (.string ⟨#[]⟩)).setCell ⟨w.heap.size, 3, none⟩ (.slice none 0 0)).setCell ⟨w.heap.size, 4, none⟩ (.slice none 0 0)) = W5 at *
  exact ⟨⟨e3.trans G3.out.os, e4.trans G3.out.tape, e5.trans G3.out.output, by have := G3.out.size; omega, fun k hk hn => (e1 k (by omega)).trans (G3.out.block k hk hn)⟩, HE3.out.same (e1 p (by omega)), _, rfl, _, _, _, _, _, _, _, _, _, rfl⟩
end Go.Proofs.Ytfdbhojghkdlkaa

/-
  The page's reader: the variable of a record that is being read, its keys and its items.
-/
namespace Go.Proofs.Ytfdbhojghkdlkaa
open Go.ChangeShapes Go.WideShapes Go.ChangeAt Go.RowKit
open Fl

/-- The variable, the result's variable, the rows of keys and of items. -/
structure Mem (w wr : World) (p : Nat) (kv v : Value) (ks : List ByteArray) (L : Nat) (xs : List Value) : Prop where
  box : wr.heap[w.heap.size]? = some (.cells #[.int .i64 5, .int .u64 0, .string ⟨#[]⟩, kv, v] 50 (0, 0))
  res : wr.heap[w.heap.size + 1]? = some (.cells #[.int .i64 0, .int .u64 0, .string ⟨#[]⟩, .slice none 0 0, .slice none 0 0] 50 (0, 0))
  grown : w.grownBy wr (some p)
  lt : p < w.heap.size
  keys : OwnK wr kv ks
  keyr : ∀ b, kv.ownBlock = some b → w.heap.size + 2 ≤ b ∧ b < wr.heap.size
  row : wr.ownsRow 0 50 5 v L xs
  rowr : ∀ b, v.ownBlock = some b → w.heap.size + 2 ≤ b ∧ b < wr.heap.size

theorem Mem.apart {w wr : World} {p : Nat} {kv v : Value} {ks : List ByteArray} {L : Nat} {xs : List Value} (h : Mem w wr p kv v ks L xs) (b : Nat) (hb : kv.ownBlock = some b) : v.ownBlock ≠ some b := by
  intro e
  obtain ⟨_, h2⟩ := h.keys
  obtain ⟨_, h4⟩ := h.row
  rcases h2 with ⟨rfl, _⟩ | ⟨g, cap, cur, rfl, _, hh, _⟩
  · simp [Value.ownBlock] at hb
  · rcases h4 with ⟨rfl, _⟩ | ⟨g', cap', cur', rfl, _, hh', _⟩
    · simp [Value.ownBlock] at e
    · simp only [Value.ownBlock, Option.some.injEq] at hb e
      subst hb e
      rw [hh] at hh'
      simp only [Option.some.injEq, Obj.cells.injEq] at hh'
      exact absurd hh'.2.1 (by decide)

theorem Mem.next {w wr w' : World} {p : Nat} {kv v : Value} {ks : List ByteArray} {L : Nat} {xs : List Value} (h : Mem w wr p kv v ks L xs) (hg : wr.grownBy w' (some p)) : Mem w w' p kv v ks L xs := by
  have hp := h.lt
  have ne : ∀ k, w.heap.size ≤ k → some k ≠ some p := fun k hk e => by simp only [Option.some.injEq] at e; omega
  have s := hg.size
  exact ⟨(hg.block _ (lt_of_block h.box) (ne _ (Nat.le_refl _))).trans h.box, (hg.block _ (lt_of_block h.res) (ne _ (by omega))).trans h.res, grown_trans h.grown hg, hp,
    h.keys.same fun b hb => hg.block b (h.keyr b hb).2 (ne _ (by have := (h.keyr b hb).1; omega)), fun b hb => by have := h.keyr b hb; omega,
    ownsRow_same h.row fun b hb => hg.block b (h.rowr b hb).2 (ne _ (by have := (h.rowr b hb).1; omega)), fun b hb => by have := h.rowr b hb; omega⟩

/-- A key more. -/
theorem Mem.key {w wX w4 : World} {p : Nat} {kv v kv' : Value} {ks ks' : List ByteArray} {L : Nat} {xs : List Value} {o : Obj} (h : Mem w wX p kv v ks L xs) (k1 : OwnK w4 kv' ks') (k2 : (wX.alloc o).grownBy w4 kv.ownBlock) (k3 : kv'.ownBlock = kv.ownBlock ∨ ∀ g, kv'.ownBlock = some g → (wX.alloc o).heap.size ≤ g) :
    Mem w (w4.setCell ⟨w.heap.size, 3, none⟩ kv') p kv' v ks' L xs ∧ (∀ k, k < wX.heap.size → k ≠ w.heap.size → kv.ownBlock ≠ some k → (w4.setCell ⟨w.heap.size, 3, none⟩ kv').heap[k]? = wX.heap[k]?) ∧ wX.heap.size ≤ (w4.setCell ⟨w.heap.size, 3, none⟩ kv').heap.size ∧
    w4.heap[w.heap.size]? = some (.cells #[.int .i64 5, .int .u64 0, .string ⟨#[]⟩, kv, v] 50 (0, 0)) := by
  have hp := h.lt
  have s4 : wX.heap.size + 1 ≤ w4.heap.size := by have := k2.size; simpa using this
  have sw : (w4.setCell ⟨w.heap.size, 3, none⟩ kv').heap.size = w4.heap.size := by simp [World.setCell]
  have kp4 : ∀ k, k < wX.heap.size → kv.ownBlock ≠ some k → w4.heap[k]? = wX.heap[k]? := fun k hk hn => by
    rw [k2.block k (by simp; omega) (fun e => hn e.symm), Below.heap_alloc _ _ _ hk]
  have kp : ∀ k, k < wX.heap.size → k ≠ w.heap.size → kv.ownBlock ≠ some k → (w4.setCell ⟨w.heap.size, 3, none⟩ kv').heap[k]? = wX.heap[k]? := fun k hk hn hK => by
    rw [Below.heap_setCell _ _ _ _ hn, kp4 k hk hK]
  have nk : ∀ k, k < w.heap.size + 2 → kv.ownBlock ≠ some k := fun k hk e => by have := (h.keyr k e).1; omega
  have hb4 := (kp4 _ (lt_of_block h.box) (nk _ (by omega))).trans h.box
  have kr : ∀ b, kv'.ownBlock = some b → w.heap.size + 2 ≤ b ∧ b < w4.heap.size := fun b hb => by
    have h1 := (World.ownsRow.lt k1 b hb).2
    rcases k3 with e | e
    · have := h.keyr b (by rw [← e]; exact hb); omega
    · have := e b hb
      have := lt_of_block h.res
      simp at *
      omega
  refine ⟨⟨?_, (kp _ (lt_of_block h.res) (by omega) (nk _ (by omega))).trans h.res, ?_, hp, ?_, fun b hb => by rw [sw]; exact kr b hb, ?_, fun b hb => by have := h.rowr b hb; rw [sw]; omega⟩, kp, by omega, hb4⟩
  · rw [set_one_cell (o := 3) hb4]
    simp
  · refine ⟨?_, ?_, ?_, by have := h.grown.size; omega, fun k hk hn => ?_⟩
    · have e : (w4.setCell ⟨w.heap.size, 3, none⟩ kv').os = w4.os := by simp [World.setCell]
      exact e.trans (k2.os.trans h.grown.os)
    · have e : (w4.setCell ⟨w.heap.size, 3, none⟩ kv').tape = w4.tape := by simp [World.setCell]
      exact e.trans (k2.tape.trans h.grown.tape)
    · have e : (w4.setCell ⟨w.heap.size, 3, none⟩ kv').output = w4.output := by simp [World.setCell]
      exact e.trans (k2.output.trans h.grown.output)
    · rw [kp k (by have := h.grown.size; omega) (by omega) (nk k (by omega)), h.grown.block k hk hn]
  · exact k1.same fun b hb => Below.heap_setCell _ _ _ _ (by have := (kr b hb).1; simp only; omega)
  · exact ownsRow_same h.row fun b hb => kp b (h.rowr b hb).2 (by have := (h.rowr b hb).1; omega) fun e => h.apart b e hb

/-- An item more. -/
theorem Mem.item {w wX w4 : World} {p : Nat} {kv v v' : Value} {ks : List ByteArray} {L L' : Nat} {xs xs' : List Value} {o : Obj} (h : Mem w wX p kv v ks L xs) (k1 : w4.ownsRow 0 50 5 v' L' xs') (k2 : (wX.alloc o).grownBy w4 v.ownBlock) (k3 : v'.ownBlock = v.ownBlock ∨ ∀ g, v'.ownBlock = some g → (wX.alloc o).heap.size ≤ g) :
    Mem w (w4.setCell ⟨w.heap.size, 4, none⟩ v') p kv v' ks L' xs' ∧ (∀ k, k < wX.heap.size → k ≠ w.heap.size → v.ownBlock ≠ some k → (w4.setCell ⟨w.heap.size, 4, none⟩ v').heap[k]? = wX.heap[k]?) ∧ wX.heap.size ≤ (w4.setCell ⟨w.heap.size, 4, none⟩ v').heap.size ∧
    w4.heap[w.heap.size]? = some (.cells #[.int .i64 5, .int .u64 0, .string ⟨#[]⟩, kv, v] 50 (0, 0)) := by
  have hp := h.lt
  have s4 : wX.heap.size + 1 ≤ w4.heap.size := by have := k2.size; simpa using this
  have sw : (w4.setCell ⟨w.heap.size, 4, none⟩ v').heap.size = w4.heap.size := by simp [World.setCell]
  have kp4 : ∀ k, k < wX.heap.size → v.ownBlock ≠ some k → w4.heap[k]? = wX.heap[k]? := fun k hk hn => by
    rw [k2.block k (by simp; omega) (fun e => hn e.symm), Below.heap_alloc _ _ _ hk]
  have kp : ∀ k, k < wX.heap.size → k ≠ w.heap.size → v.ownBlock ≠ some k → (w4.setCell ⟨w.heap.size, 4, none⟩ v').heap[k]? = wX.heap[k]? := fun k hk hn hK => by
    rw [Below.heap_setCell _ _ _ _ hn, kp4 k hk hK]
  have nk : ∀ k, k < w.heap.size + 2 → v.ownBlock ≠ some k := fun k hk e => by have := (h.rowr k e).1; omega
  have hb4 := (kp4 _ (lt_of_block h.box) (nk _ (by omega))).trans h.box
  have kr : ∀ b, v'.ownBlock = some b → w.heap.size + 2 ≤ b ∧ b < w4.heap.size := fun b hb => by
    have h1 := (World.ownsRow.lt k1 b hb).2
    rcases k3 with e | e
    · have := h.rowr b (by rw [← e]; exact hb); omega
    · have := e b hb
      have := lt_of_block h.res
      simp at *
      omega
  refine ⟨⟨?_, (kp _ (lt_of_block h.res) (by omega) (nk _ (by omega))).trans h.res, ?_, hp, ?_, fun b hb => by have := h.keyr b hb; rw [sw]; omega, ?_, fun b hb => by rw [sw]; exact kr b hb⟩, kp, by omega, hb4⟩
  · rw [set_one_cell (o := 4) hb4]
    simp
  · refine ⟨?_, ?_, ?_, by have := h.grown.size; omega, fun k hk hn => ?_⟩
    · have e : (w4.setCell ⟨w.heap.size, 4, none⟩ v').os = w4.os := by simp [World.setCell]
      exact e.trans (k2.os.trans h.grown.os)
    · have e : (w4.setCell ⟨w.heap.size, 4, none⟩ v').tape = w4.tape := by simp [World.setCell]
      exact e.trans (k2.tape.trans h.grown.tape)
    · have e : (w4.setCell ⟨w.heap.size, 4, none⟩ v').output = w4.output := by simp [World.setCell]
      exact e.trans (k2.output.trans h.grown.output)
    · rw [kp k (by have := h.grown.size; omega) (by omega) (nk k (by omega)), h.grown.block k hk hn]
  · exact h.keys.same fun b hb => kp b (h.keyr b hb).2 (by have := (h.keyr b hb).1; omega) (h.apart b hb)
  · exact ownsRow_same k1 fun b hb => Below.heap_setCell _ _ _ _ (by have := (kr b hb).1; simp only; omega)
end Go.Proofs.Ytfdbhojghkdlkaa

/-
  The page's reader: fields of a record, what the loop keeps.
-/
namespace Go.Proofs.Ytfdbhojghkdlkaa
open Go.ChangeShapes Go.WideShapes Go.ChangeAt Go.RowKit
open Fl

theorem rdText_bad {o : UInt8} {r : List UInt8} (h : o.toNat < 1 ∨ 16 < o.toNat) : rdText 1 16 (o :: r) = .error 5 := by
  simp only [rdText]; rw [if_pos h]
theorem rdText_short {o : UInt8} {r : List UInt8} (h : ¬ (o.toNat < 1 ∨ 16 < o.toNat)) (h1 : r.length < o.toNat) : rdText 1 16 (o :: r) = .error 8 := by
  simp only [rdText, nxtN]; rw [if_neg h, if_pos h1]
theorem rdText_good {o : UInt8} {r : List UInt8} (h : ¬ (o.toNat < 1 ∨ 16 < o.toNat)) (h1 : o.toNat ≤ r.length) : rdText 1 16 (o :: r) = .ok (⟨(r.take o.toNat).toArray⟩, r.drop o.toNat) := by
  simp only [rdText, nxtN]; rw [if_neg h, if_neg (by omega)]

/-- What the loop over a record's fields keeps. -/
def FInv (n M : Nat) (start : Except Int (List ByteArray × List (V n) × RS)) (p : Nat) (a : Option Addr) (c : Nat) (bs : List UInt8) (w wr : World) (m : Nat) (last : ByteArray) (kv v : Value) : Prop :=
  (∃ ks acc s xs H, m ≤ M ∧ acc.length = m ∧ ks.length = m ∧ (∀ k ∈ ks, k.size ≤ 16) ∧ (∀ k, ks.getLast? = some k → k = last) ∧ start = iterE (stepF (rd n)) (M - m) (ks, acc, s) ∧ RAt wr p a c bs s ∧ s.2 + s.1.length ≤ 281474976710656 ∧ Mem w wr p kv v ks m xs ∧
    OwnL wr n v acc H ∧ (∀ b, H b → w.heap.size + 2 ≤ b ∧ b < wr.heap.size) ∧ ∀ b, kv.ownBlock = some b → ¬ H b) ∨
  (∃ er ks xs L, start = .error er ∧ RErr wr p 281474976710660 er ∧ Mem w wr p kv v ks L xs)

/-- Behind the key. -/
def KInv (n M : Nat) (start : Except Int (List ByteArray × List (V n) × RS)) (p : Nat) (a : Option Addr) (c : Nat) (bs : List UInt8) (w wc : World) (m : Nat) (last : ByteArray) (kv v : Value) : Prop :=
  (∃ ks acc s xs H, m < M ∧ acc.length = m ∧ ks.length = m + 1 ∧ (∀ k ∈ ks, k.size ≤ 16) ∧ ks.getLast? = some last ∧ (∀ er, rd n s = .error er → start = .error er) ∧ (∀ u s', rd n s = .ok (u, s') → start = iterE (stepF (rd n)) (M - (m + 1)) (ks, acc ++ [u], s')) ∧
    RAt wc p a c bs s ∧ s.2 + s.1.length ≤ 281474976710656 ∧ Mem w wc p kv v ks m xs ∧ OwnL wc n v acc H ∧ (∀ b, H b → w.heap.size + 2 ≤ b ∧ b < wc.heap.size) ∧ ∀ b, kv.ownBlock = some b → ¬ H b) ∨
  (∃ er ks xs, start = .error er ∧ RErr wc p 281474976710658 er ∧ Mem w wc p kv v ks m xs)

theorem KInv.ok {n M : Nat} {start : Except Int (List ByteArray × List (V n) × RS)} {p : Nat} {a : Option Addr} {c : Nat} {bs : List UInt8} {w wX w4 : World} {m : Nat} {key : ByteArray} {kv v kv' : Value} {ks : List ByteArray} {acc : List (V n)} {s : RS} {xs : List Value} {H : Nat → Prop} {o : Obj}
    (hM : m < M) (h1 : acc.length = m) (h2 : ks.length = m) (h3 : ∀ k ∈ ks, k.size ≤ 16) (h4 : key.size ≤ 16) (h5 : ∀ er, rd n s = .error er → start = .error er) (h6 : ∀ u s', rd n s = .ok (u, s') → start = iterE (stepF (rd n)) (M - (m + 1)) (ks ++ [key], acc ++ [u], s'))
    (h7 : RAt wX p a c bs s) (h8 : s.2 + s.1.length ≤ 281474976710656) (h9 : Mem w wX p kv v ks m xs) (hL : OwnL wX n v acc H) (hH : ∀ b, H b → w.heap.size + 2 ≤ b ∧ b < wX.heap.size) (hk : ∀ b, kv.ownBlock = some b → ¬ H b)
    (k1 : OwnK w4 kv' (ks ++ [key])) (k2 : (wX.alloc o).grownBy w4 kv.ownBlock) (k3 : kv'.ownBlock = kv.ownBlock ∨ ∀ g, kv'.ownBlock = some g → (wX.alloc o).heap.size ≤ g) :
    KInv n M start p a c bs w (w4.setCell ⟨w.heap.size, 3, none⟩ kv') m key kv' v := by
  obtain ⟨q1, q2, q3, q4⟩ := h9.key k1 k2 k3
  have hp := h9.lt
  have hw := h9.grown.size
  refine Or.inl ⟨ks ++ [key], acc, s, xs, H, hM, h1, by simp [h2], fun k hk => ?_, by simp, h5, h6, h7.same (q2 p (by omega) (by omega) fun e => by have := (h9.keyr p e).1; omega), h8, q1, hL.same fun b hb => q2 b (hH b hb).2 (by have := (hH b hb).1; omega) fun e => hk b e hb, fun b hb => by have := hH b hb; omega, fun b hb hHb => ?_⟩
  · rcases List.mem_append.1 hk with hk | hk
    · exact h3 k hk
    · simp at hk; subst hk; exact h4
  · rcases k3 with e | e
    · exact hk b (by rw [← e]; exact hb) hHb
    · have := e b hb
      have := (hH b hHb).2
      simp at *
      omega

theorem KInv.err {n M : Nat} {start : Except Int (List ByteArray × List (V n) × RS)} {p : Nat} {a : Option Addr} {c : Nat} {bs : List UInt8} {w wX w4 : World} {m : Nat} {key : ByteArray} {kv v kv' : Value} {ks ks' : List ByteArray} {xs : List Value} {o : Obj} {er : Int}
    (h5 : start = .error er) (h7 : RErr wX p 281474976710658 er) (h9 : Mem w wX p kv v ks m xs)
    (k1 : OwnK w4 kv' ks') (k2 : (wX.alloc o).grownBy w4 kv.ownBlock) (k3 : kv'.ownBlock = kv.ownBlock ∨ ∀ g, kv'.ownBlock = some g → (wX.alloc o).heap.size ≤ g) :
    KInv n M start p a c bs w (w4.setCell ⟨w.heap.size, 3, none⟩ kv') m key kv' v := by
  obtain ⟨q1, q2, q3, q4⟩ := h9.key k1 k2 k3
  have hp := h9.lt
  have hw := h9.grown.size
  exact Or.inr ⟨er, ks', xs, h5, h7.same (q2 p (by omega) (by omega) fun e => by have := (h9.keyr p e).1; omega), q1⟩

/-- The call of value behind the key. -/
theorem KInv.calls {n M : Nat} {start : Except Int (List ByteArray × List (V n) × RS)} {p : Nat} {a : Option Addr} {c : Nat} {bs : List UInt8} {w wc : World} {m : Nat} {last : ByteArray} {kv v : Value} {d : Int} {s0 : RS} (h : KInv n M start p a c bs w wc m last kv v) (hv : ValAt n) (hr : RAt w p a c bs s0) (ho : Oct w a c bs) (hd1 : 1 ≤ d) (hd : d + 1 + n = 9) :
    (∃ er ks xs, start = .error er ∧ Mem w wc p kv v ks m xs ∧ Calls Try.prog 40 #[.pointer (some ⟨p, 0, none⟩), .int .i64 (d + 1)] wc.drew fun e w3 => ∃ y, e = .returned y ∧ (wc.grownBy w3 (some p) ∧ RErr w3 p 281474976710660 er ∧ Some5 y)) ∨
    (∃ ks acc u s' xs H, m < M ∧ acc.length = m ∧ ks.length = m + 1 ∧ (∀ k ∈ ks, k.size ≤ 16) ∧ ks.getLast? = some last ∧ start = iterE (stepF (rd n)) (M - (m + 1)) (ks, acc ++ [u], s') ∧ s'.2 + s'.1.length ≤ 281474976710656 ∧ Mem w wc p kv v ks m xs ∧ OwnL wc n v acc H ∧ (∀ b, H b → w.heap.size + 2 ≤ b ∧ b < wc.heap.size) ∧ (∀ b, kv.ownBlock = some b → ¬ H b) ∧
      Calls Try.prog 40 #[.pointer (some ⟨p, 0, none⟩), .int .i64 (d + 1)] wc.drew fun e w3 => ∃ y, e = .returned y ∧ (wc.grownBy w3 (some p) ∧ RAt w3 p a c bs s' ∧ ∃ F, Own w3 n y u F ∧ ∀ b, F b → wc.heap.size ≤ b ∧ b < w3.heap.size)) := by
  rcases h with ⟨ks, acc, s, xs, H, hM, h1, h2, h3, h4, h5, h6, h7, h8, h9, hL, hH, hk⟩ | ⟨er, ks, xs, h1, h2, h3⟩
  · have HCP := hv s p a c bs (d + 1) wc.drew (h7.same rfl) (by
      have := ho.grown4 hr h9.grown
      exact this.below (Below_drewN _ _ 1)) h8 (by omega) hd
    cases hrd : rd n s with
    | error er =>
      rw [hrd] at HCP
      refine Or.inl ⟨er, ks, xs, h5 er hrd, h9, HCP.mono fun e w3 hp => ?_⟩
      obtain ⟨hg, ⟨er', q1, q2, y, q3, q4⟩ | ⟨u', s'', q1, _⟩⟩ := hp
      · cases q1
        exact ⟨y, q3, ⟨hg.os, hg.tape, hg.output, hg.size, hg.block⟩, q2, q4⟩
      · cases q1
    | ok us =>
      obtain ⟨u, s'⟩ := us
      rw [hrd] at HCP
      refine Or.inr ⟨ks, acc, u, s', xs, H, hM, h1, h2, h3, h4, h6 u s' hrd, Nat.le_trans (rd_sum hrd).2 h8, h9, hL, hH, hk, HCP.mono fun e w3 hp => ?_⟩
      obtain ⟨hg, ⟨er, q1, _⟩ | ⟨u', s'', q1, q2, y, F, q3, q4, q5⟩⟩ := hp
      · cases q1
      · cases q1
        exact ⟨y, q3, ⟨hg.os, hg.tape, hg.output, hg.size, hg.block⟩, q2, F, q4, q5⟩
  · refine Or.inl ⟨er, ks, xs, h1, h3, (rvalue_err p 281474976710658 er (d + 1) wc.drew (h2.same rfl) (by decide)).mono fun e w3 hp => ?_⟩
    obtain ⟨hg, q2, y, q3, q4⟩ := hp
    exact ⟨y, q3, ⟨hg.os, hg.tape, hg.output, hg.size, hg.block⟩, q2.mono (by decide), q4⟩

theorem FInv.err {n M : Nat} {start : Except Int (List ByteArray × List (V n) × RS)} {p : Nat} {a : Option Addr} {c : Nat} {bs : List UInt8} {w wc w3 w5 : World} {m L' : Nat} {last : ByteArray} {kv v v' : Value} {ks : List ByteArray} {xs xs' : List Value} {o : Obj} {er : Int}
    (h5 : start = .error er) (hg : wc.grownBy w3 (some p)) (h7 : RErr w3 p 281474976710660 er) (h9 : Mem w wc p kv v ks m xs)
    (k1 : w5.ownsRow 0 50 5 v' L' xs') (k2 : (w3.alloc o).grownBy w5 v.ownBlock) (k3 : v'.ownBlock = v.ownBlock ∨ ∀ g, v'.ownBlock = some g → (w3.alloc o).heap.size ≤ g) :
    FInv n M start p a c bs w (w5.setCell ⟨w.heap.size, 4, none⟩ v') (m + 1) last kv v' := by
  have h10 := h9.next hg
  obtain ⟨q1, q2, q3, q4⟩ := h10.item k1 k2 k3
  have hp := h9.lt
  have hw := h10.grown.size
  exact Or.inr ⟨er, ks, _, _, h5, h7.same (q2 p (by omega) (by omega) fun e => by have := (h10.rowr p e).1; omega), q1⟩

theorem FInv.ok {n M : Nat} {start : Except Int (List ByteArray × List (V n) × RS)} {p : Nat} {a : Option Addr} {c : Nat} {bs : List UInt8} {w wc w3 w5 : World} {m : Nat} {last : ByteArray} {kv v v' : Value} {ks : List ByteArray} {acc : List (V n)} {u : V n} {s' : RS} {xs : List Value} {H F : Nat → Prop} {o : Obj}
    (hM : m < M) (h1 : acc.length = m) (h2 : ks.length = m + 1) (h3 : ∀ k ∈ ks, k.size ≤ 16) (h4 : ks.getLast? = some last) (h5 : start = iterE (stepF (rd n)) (M - (m + 1)) (ks, acc ++ [u], s')) (h8 : s'.2 + s'.1.length ≤ 281474976710656) (h9 : Mem w wc p kv v ks m xs) (hL : OwnL wc n v acc H) (hH : ∀ b, H b → w.heap.size + 2 ≤ b ∧ b < wc.heap.size) (hk : ∀ b, kv.ownBlock = some b → ¬ H b)
    (hg : wc.grownBy w3 (some p)) (h7 : RAt w3 p a c bs s') (hF : ∀ b, F b → wc.heap.size ≤ b ∧ b < w3.heap.size)
    (k1 : OwnL w5 n v' (acc ++ [u]) (fun b => H b ∨ F b ∨ v'.ownBlock = some b)) (k2 : (w3.alloc o).grownBy w5 v.ownBlock) (k3 : v'.ownBlock = v.ownBlock ∨ ∀ g, v'.ownBlock = some g → (w3.alloc o).heap.size ≤ g) :
    FInv n M start p a c bs w (w5.setCell ⟨w.heap.size, 4, none⟩ v') (m + 1) last kv v' := by
  have h10 := h9.next hg
  have k1' := k1
  obtain ⟨xs', G, r1, r2⟩ := k1'
  have hl : (acc ++ [u]).length = m + 1 := by simp [h1]
  rw [hl] at r1
  obtain ⟨q1, q2, q3, q4⟩ := h10.item r1 k2 k3
  have hp := h9.lt
  have hw := h10.grown.size
  have hwc := hg.size
  have sw : (w5.setCell ⟨w.heap.size, 4, none⟩ v').heap.size = w5.heap.size := by simp [World.setCell]
  have rng : ∀ b, (H b ∨ F b ∨ v'.ownBlock = some b) → w.heap.size + 2 ≤ b ∧ b < w5.heap.size := fun b hb => by
    have hwc2 : w.heap.size + 2 ≤ wc.heap.size := lt_of_block h9.res
    rcases hb with hb | hb | hb
    · have := hH b hb; omega
    · have := hF b hb; omega
    · have := q1.rowr b hb; omega
  refine Or.inl ⟨ks, acc ++ [u], s', xs', _, by omega, hl, h2, h3, fun k hk => by rw [h4] at hk; exact (Option.some.inj hk).symm, h5, h7.same (q2 p (by omega) (by omega) fun e => by have := (h10.rowr p e).1; omega), h8, q1, k1.same fun b hb => Below.heap_setCell _ _ _ _ (by have := (rng b hb).1; simp only; omega), fun b hb => by rw [sw]; exact rng b hb, fun b hb hHb => ?_⟩
  have hb2 := (h9.keyr b hb).2
  rcases hHb with e | e | e
  · exact hk b hb e
  · have := (hF b e).1; omega
  · rcases k3 with e' | e'
    · exact hk b hb ((hL.lt b (by rw [← e']; exact e)).1)
    · have := e' b e
      simp at this
      omega
end Go.Proofs.Ytfdbhojghkdlkaa
