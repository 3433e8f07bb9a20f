/-
  The program's read, Take and Decode.
-/
import Derived.Test.YtfdbhojghkdlkaaPkOne
namespace Go.Proofs.Ytfdbhojghkdlkaa
open Go.ChangeShapes Go.WideShapes Go.ChangeAt Go.RowKit
open Fl

/-- A tree of whatever depth. -/
abbrev PT := (m : Nat) × V m
def zeroPT : PT := ⟨1, ((0, 0, ⟨#[]⟩, [], []) : V 1)⟩

/-- Take's answer: the error, the tree, how many octets. -/
def takeR (bs : List UInt8) : Int × PT × Nat := match rd 8 (bs, 0) with
  | .error e => (e, zeroPT, 0)
  | .ok (v, (r, p)) => if 512 < p then (3, zeroPT, 0) else (0, ⟨8, v⟩, bs.length - r.length)

/-- The three results' variables are written, nothing else. -/
def After3 (w w' : World) (g : Nat) (er : Int) : Prop :=
  w'.heap[g]? = some (.cells #[.int .i64 0, .int .u64 0, .string ⟨#[]⟩, .slice none 0 0, .slice none 0 0] 50 (0, 0)) ∧ w'.heap[g + 1]? = some (.cells #[.int .i64 0] 3 (0, 0)) ∧ w'.heap[g + 2]? = some (.cells #[.int .i64 er] 29 (0, 0)) ∧
  (∀ k, k ≠ g → k ≠ g + 1 → k ≠ g + 2 → w'.heap[k]? = w.heap[k]?) ∧ w'.heap.size = w.heap.size ∧ w'.os = w.os ∧ w'.tape = w.tape ∧ w'.output = w.output

theorem five_box {W : World} {g : Nat} {z0 z1 z2 z3 z4 : Value} {t : TypeId} (h : W.heap[g]? = some (.cells #[z0, z1, z2, z3, z4] t (0, 0))) (v0 v1 v2 v3 v4 : Value) :
    (((((W.setCell ⟨g, 0, none⟩ v0).setCell ⟨g, 1, none⟩ v1).setCell ⟨g, 2, none⟩ v2).setCell ⟨g, 3, none⟩ v3).setCell ⟨g, 4, none⟩ v4).heap[g]? = some (.cells #[v0, v1, v2, v3, v4] t (0, 0)) := by
  simp [World.setCell, Array.getElem?_modify, h]

theorem after3_set {w : World} {g : Nat} {c0 c1 c2 c3 c4 n0 e0 : Value} (er : Int) (hv : w.heap[g]? = some (.cells #[c0, c1, c2, c3, c4] 50 (0, 0))) (hn : w.heap[g + 1]? = some (.cells #[n0] 3 (0, 0))) (he : w.heap[g + 2]? = some (.cells #[e0] 29 (0, 0))) :
    After3 w (((((((w.setCell ⟨g, 0, none⟩ (.int .i64 0)).setCell ⟨g, 1, none⟩ (.int .u64 0)).setCell ⟨g, 2, none⟩ (.string ⟨#[]⟩)).setCell ⟨g, 3, none⟩ (.slice none 0 0)).setCell ⟨g, 4, none⟩ (.slice none 0 0)).setCell ⟨g + 1, 0, none⟩ (.int .i64 0)).setCell ⟨g + 2, 0, none⟩ (.int .i64 er)).drew g er := by
  obtain ⟨k1, k2, k3, k4, k5⟩ := five_fin w g (.int .i64 0) (.int .u64 0) (.string ⟨#[]⟩) (.slice none 0 0) (.slice none 0 0)
  have kb := five_box hv (.int .i64 0) (.int .u64 0) (.string ⟨#[]⟩) (.slice none 0 0) (.slice none 0 0)
  generalize ((((w.setCell ⟨g, 0, none⟩ (.int .i64 0)).setCell ⟨g, 1, none⟩ (.int .u64 0)).setCell ⟨g, 2, none⟩ (.string ⟨#[]⟩)).setCell ⟨g, 3, none⟩ (.slice none 0 0)).setCell ⟨g, 4, none⟩ (.slice none 0 0) = W at *
  have hn' := (k1 (g + 1) (by omega)).trans hn
  have he' := (k1 (g + 2) (by omega)).trans he
  refine ⟨?_, ?_, ?_, ?_, by simpa [World.setCell, World.drew] using k2, by simpa [World.setCell, World.drew] using k3, by simpa [World.setCell, World.drew] using k4, by simpa [World.setCell, World.drew] using k5⟩
  · show ((W.setCell ⟨g + 1, 0, none⟩ (.int .i64 0)).setCell ⟨g + 2, 0, none⟩ (.int .i64 er)).heap[g]? = _
    rw [Below.heap_setCell _ _ _ _ (by simp only; omega), Below.heap_setCell _ _ _ _ (by simp only; omega)]
    exact kb
  · show ((W.setCell ⟨g + 1, 0, none⟩ (.int .i64 0)).setCell ⟨g + 2, 0, none⟩ (.int .i64 er)).heap[g + 1]? = _
    rw [Below.heap_setCell _ _ _ _ (by simp only; omega)]
    exact one_setCell hn'
  · show ((W.setCell ⟨g + 1, 0, none⟩ (.int .i64 0)).setCell ⟨g + 2, 0, none⟩ (.int .i64 er)).heap[g + 2]? = _
    exact one_setCell ((Below.heap_setCell _ _ _ _ (by simp only; omega)).trans he')
  · intro k h1 h2 h3
    show ((W.setCell ⟨g + 1, 0, none⟩ (.int .i64 0)).setCell ⟨g + 2, 0, none⟩ (.int .i64 er)).heap[k]? = _
    rw [Below.heap_setCell _ _ _ _ (by simp only; omega), Below.heap_setCell _ _ _ _ (by simp only; omega)]
    exact k1 k h1

/-- The three results' variables are written with an answer, nothing else. -/
theorem answer_set {w : World} {g : Nat} {c0 c1 c2 c3 c4 n0 e0 : Value} (v0 v1 v2 v3 v4 x y : Value) (hv : w.heap[g]? = some (.cells #[c0, c1, c2, c3, c4] 50 (0, 0))) (hn : w.heap[g + 1]? = some (.cells #[n0] 3 (0, 0))) (he : w.heap[g + 2]? = some (.cells #[e0] 29 (0, 0))) :
    ∀ W, W = ((((((((((((w.setCell ⟨g, 0, none⟩ v0).setCell ⟨g, 1, none⟩ v1).setCell ⟨g, 2, none⟩ v2).setCell ⟨g, 3, none⟩ v3).setCell ⟨g, 4, none⟩ v4).setCell ⟨g, 0, none⟩ v0).setCell ⟨g, 1, none⟩ v1).setCell ⟨g, 2, none⟩ v2).setCell ⟨g, 3, none⟩ v3).setCell ⟨g, 4, none⟩ v4).setCell ⟨g + 1, 0, none⟩ x).setCell ⟨g + 1 + 1, 0, none⟩ y).drew → W.heap[g]? = some (.cells #[v0, v1, v2, v3, v4] 50 (0, 0)) ∧ W.heap[g + 1]? = some (.cells #[x] 3 (0, 0)) ∧ W.heap[g + 2]? = some (.cells #[y] 29 (0, 0)) ∧
      (∀ k, k ≠ g → k ≠ g + 1 → k ≠ g + 2 → W.heap[k]? = w.heap[k]?) ∧ W.heap.size = w.heap.size ∧ W.os = w.os ∧ W.tape = w.tape ∧ W.output = w.output := by
  intro W hW
  obtain ⟨k1, k2, k3, k4, k5⟩ := five_fin w g v0 v1 v2 v3 v4
  have kb := five_box hv v0 v1 v2 v3 v4
  generalize (((((w.setCell ⟨g, 0, none⟩ v0).setCell ⟨g, 1, none⟩ v1).setCell ⟨g, 2, none⟩ v2).setCell ⟨g, 3, none⟩ v3).setCell ⟨g, 4, none⟩ v4) = W1 at *
  obtain ⟨j1, j2, j3, j4, j5⟩ := five_fin W1 g v0 v1 v2 v3 v4
  have jb := five_box kb v0 v1 v2 v3 v4
  generalize (((((W1.setCell ⟨g, 0, none⟩ v0).setCell ⟨g, 1, none⟩ v1).setCell ⟨g, 2, none⟩ v2).setCell ⟨g, 3, none⟩ v3).setCell ⟨g, 4, none⟩ v4) = W2 at *
  have hn' := (j1 (g + 1) (by omega)).trans ((k1 (g + 1) (by omega)).trans hn)
  have he' := (j1 (g + 2) (by omega)).trans ((k1 (g + 2) (by omega)).trans he)
  subst hW
  refine ⟨?_, ?_, ?_, ?_, by simpa [World.setCell, World.drew] using j2.trans k2, by simpa [World.setCell, World.drew] using j3.trans k3, by simpa [World.setCell, World.drew] using j4.trans k4, by simpa [World.setCell, World.drew] using j5.trans k5⟩
  · show ((W2.setCell ⟨g + 1, 0, none⟩ x).setCell ⟨g + 2, 0, none⟩ y).heap[g]? = _
    rw [Below.heap_setCell _ _ _ _ (by simp only; omega), Below.heap_setCell _ _ _ _ (by simp only; omega)]
    exact jb
  · show ((W2.setCell ⟨g + 1, 0, none⟩ x).setCell ⟨g + 2, 0, none⟩ y).heap[g + 1]? = _
    rw [Below.heap_setCell _ _ _ _ (by simp only; omega)]
    exact one_setCell hn'
  · show ((W2.setCell ⟨g + 1, 0, none⟩ x).setCell ⟨g + 2, 0, none⟩ y).heap[g + 2]? = _
    exact one_setCell ((Below.heap_setCell _ _ _ _ (by simp only; omega)).trans he')
  · intro k h1 h2 h3
    show ((W2.setCell ⟨g + 1, 0, none⟩ x).setCell ⟨g + 2, 0, none⟩ y).heap[k]? = _
    rw [Below.heap_setCell _ _ _ _ (by simp only; omega), Below.heap_setCell _ _ _ _ (by simp only; omega), j1 k h1]
    exact k1 k h1

set_option maxRecDepth 100000 in
theorem catch_rd (g : Nat) (c0 c1 c2 c3 c4 n0 e0 : Value) (er : Int) (older : List PanicEntry) (w : World) (hv : w.heap[g]? = some (.cells #[c0, c1, c2, c3, c4] 50 (0, 0))) (hn : w.heap[g + 1]? = some (.cells #[n0] 3 (0, 0))) (he : w.heap[g + 2]? = some (.cells #[e0] 29 (0, 0))) :
    CallsD Try.prog 78 #[.pointer (some ⟨g, 0, none⟩), .pointer (some ⟨g + 1, 0, none⟩), .pointer (some ⟨g + 2, 0, none⟩)] (.panicking ({ v := .iface 29 (.int .i64 er), recovered := false } :: older)) w fun e u' w' =>
      e = .returned (.tuple #[]) ∧ u' = .panicking ({ v := .iface 29 (.int .i64 er), recovered := true } :: older) ∧ After3 w w' g er := by
  refine callsD_of_wpS Try.func78 rfl fun c₀ cs hu => ?_
  apply wpS_seq
  apply wpS_region
  simp [wpOpsS, go_sem, recoverD, hu, Try.ntmps78, Exit.thenS]
  obtain ⟨p0, p1, p2, p3, p4, f0, f1, f2, f3, f4⟩ := box_cells hv
  have q0 := cell_of_one hn
  have q1 := free_of_one hn
  have r0 := cell_of_one he
  have r1 := free_of_one he
  refine wpS_of_wp ?_
  simp [Array.replicate]
  have hta := assert_errno
  go_wp2_with fail
  go_region
  exact ⟨rfl, _, rfl, .tuple #[], by simp [results, Try.results78], rfl, rfl, after3_set er hv hn he⟩

set_option maxRecDepth 100000 in
theorem catch_still (g : Nat) (w : World) :
    CallsD Try.prog 78 #[.pointer (some ⟨g, 0, none⟩), .pointer (some ⟨g + 1, 0, none⟩), .pointer (some ⟨g + 2, 0, none⟩)] .returning w fun e u' w' => e = .returned (.tuple #[]) ∧ u' = .returning ∧ w' = w := by
  refine callsD_of_wpS Try.func78 rfl fun c₀ cs hu => ?_
  apply wpS_seq
  apply wpS_region
  simp [wpOpsS, go_sem, recoverD, hu, Try.ntmps78, Exit.thenS]
  refine wpS_of_wp ?_
  simp [Array.replicate]
  go_wp2_with fail
  refine ⟨rfl, _, ?_, .tuple #[], by simp [results, Try.results78], rfl, rfl, rfl⟩
  cases c₀
  simp_all

/-- The three results' variables, fresh, and the reader. -/
def Start (w w' : World) (a : Option Addr) (c : Nat) (bs : List UInt8) : Prop :=
  w'.heap[w.heap.size]? = some (.cells #[.int .i64 0, .int .u64 0, .string ⟨#[]⟩, .slice none 0 0, .slice none 0 0] 50 (0, 0)) ∧ w'.heap[w.heap.size + 1]? = some (.cells #[.int .i64 0] 3 (0, 0)) ∧ w'.heap[w.heap.size + 2]? = some (.cells #[.int .i64 0] 29 (0, 0)) ∧
  RdAt w' (w.heap.size + 3) a c bs (bs, 0) ∧ Below w.heap.size w w'

theorem start_new (w : World) (a : Option Addr) (c : Nat) (bs : List UInt8) : Start w ((((w.alloc (.cells #[.int .i64 0, .int .u64 0, .string ⟨#[]⟩, .slice none 0 0, .slice none 0 0] 50)).alloc (.cells #[.int .i64 0] 3)).alloc (.cells #[.int .i64 0] 29)).alloc (.cells #[.slice a bs.length c, .int .i64 0, .int .i64 0] 128)) a c bs := by
  refine ⟨?_, ?_, ?_, ⟨0, Nat.zero_le _, by simp, ?_⟩, ?_⟩
  · rw [Below.heap_alloc _ _ _ (by simp <;> omega), Below.heap_alloc _ _ _ (by simp <;> omega), Below.heap_alloc _ _ _ (by simp)]
    exact heap_alloc_new _ _
  · rw [Below.heap_alloc _ _ _ (by simp <;> omega), Below.heap_alloc _ _ _ (by simp)]
    exact heap_new2 _ _ _
  · rw [Below.heap_alloc _ _ _ (by simp)]
    have := heap_alloc_new ((w.alloc (.cells #[.int .i64 0, .int .u64 0, .string ⟨#[]⟩, .slice none 0 0, .slice none 0 0] 50)).alloc (.cells #[.int .i64 0] 3)) (.cells #[.int .i64 0] 29)
    simpa using this
  · have := heap_alloc_new (((w.alloc (.cells #[.int .i64 0, .int .u64 0, .string ⟨#[]⟩, .slice none 0 0, .slice none 0 0] 50)).alloc (.cells #[.int .i64 0] 3)).alloc (.cells #[.int .i64 0] 29)) (.cells #[.slice a bs.length c, .int .i64 0, .int .i64 0] 128)
    simpa using this
  · exact nxt (nxt (below_two _ _ _) (below_one _ _)) (below_one _ _)

theorem own_zeroPT (w : World) : Own w zeroPT.1 (mk 0 0 ⟨#[]⟩ none 0 0 none 0 0) zeroPT.2 (fun _ => False) := leaf_own w 0 0 0 _ (by decide) (U_small (by decide) (by decide)) (by decide)

theorem After3.below {w w1 w2 w3 : World} {er : Int} (h : Below w.heap.size w w1) (hs : w.heap.size + 4 ≤ w1.heap.size) (hg : w1.grownBy w2 (some (w.heap.size + 3))) (ha : After3 w2 w3 w.heap.size er) : Below w.heap.size w w3 := by
  obtain ⟨_, _, _, h3, h4, h5, h6, h7⟩ := ha
  have := hg.size
  refine ⟨h5.trans (hg.os.trans h.os), h6.trans (hg.tape.trans h.tape), h7.trans (hg.output.trans h.output), by omega, fun k hk => ?_⟩
  rw [h3 k (by omega) (by omega) (by omega), hg.block k (by omega) (by simp; omega), h.block k hk]

set_option maxRecDepth 100000 in
set_option maxHeartbeats 1600000 in
theorem read_any (a : Option Addr) (c : Nat) (bs : List UInt8) (w : World) (ho : Oct w a c bs) :
    Calls Try.prog 71 #[.slice a bs.length c] w fun e w' => ∃ y F, e = .returned (.tuple #[y, .int .i64 ((takeR bs).2.2 : Int), .int .i64 (takeR bs).1]) ∧ Own w' (takeR bs).2.1.1 y (takeR bs).2.1.2 F ∧ (∀ b, F b → w.heap.size ≤ b ∧ b < w'.heap.size) ∧ Below w.heap.size w w' := by
  have hmf : ∀ (fn : Fn) (first cap : Array Value) (w : World), (Instr.makeFunc fn first cap).run Try.prog w = .ok (.func fn first cap) w := fun _ _ _ _ => rfl
  have HO : Hid (Oct w a c bs) := ho
  clear ho
  cases hrd : rd 8 (bs, 0) with
  | error er =>
    have HT : Hid (takeR bs = (er, zeroPT, 0)) := by show _ = _; unfold takeR; rw [hrd]
    have HX : Hid (rd 8 (bs, 0) = .error er) := hrd
    clear hrd
    go_enter_defers Try.func71, Try.ntmps71
    go_wp2_with fail
    have S1 : Hid (Start w _ a c bs) := start_new w a c bs
    generalize (((w.alloc (.cells #[.int .i64 0, .int .u64 0, .string ⟨#[]⟩, .slice none 0 0, .slice none 0 0] 50)).alloc (.cells #[.int .i64 0] 3)).alloc (.cells #[.int .i64 0] 29)).alloc (.cells #[.slice a bs.length c, .int .i64 0, .int .i64 0] 128) = W1 at *
    have HO1 : Hid (Oct W1 a c bs) := ⟨HO.out.1.below S1.out.2.2.2.2, HO.out.2⟩
    have HP : Hid (Calls Try.prog 79 #[.pointer (some ⟨w.heap.size + 3, 0, none⟩), .int .i64 1] W1 (PartPost 8 (rd 8 (bs, 0)) (w.heap.size + 3) a c bs W1)) := part_all 8 (bs, 0) (w.heap.size + 3) a c bs 1 W1 S1.out.2.2.2.1 HO1.out (by have := HO.out.2.2.2.1; simp only; omega) (by decide) (by decide)
    have HS1 : Hid (w.heap.size + 4 ≤ W1.heap.size) := by obtain ⟨i, _, _, h⟩ := S1.out.2.2.2.1; have := lt_of_block h; show _ ≤ _; omega
    rw [HX.out] at HP
    refine HP.out.mono ?_
    intro e w2 hp2
    obtain ⟨rfl, hg2⟩ := PartPost.err hp2
    have hs1 := HS1.out
    go_wp2_with fail
    refine leaves_cons (f := 78) (args := #[.pointer (some ⟨w.heap.size, 0, none⟩), .pointer (some ⟨w.heap.size + 1, 0, none⟩), .pointer (some ⟨w.heap.size + 2, 0, none⟩)]) (by simp) (by simp [go_sem]) ?_
    have hv := (hg2.block w.heap.size (by omega) (by simp)).trans S1.out.1
    have hn := (hg2.block (w.heap.size + 1) (by omega) (by simp)).trans S1.out.2.1
    have he := (hg2.block (w.heap.size + 2) (by omega) (by simp)).trans S1.out.2.2.1
    refine (catch_rd w.heap.size _ _ _ _ _ _ _ er [] w2 hv hn he).mono ?_
    rintro e u' w3 ⟨rfl, rfl, ha⟩
    obtain ⟨z0, z1, z2, z3, z4, -⟩ := box_cells ha.1
    have y1 := cell_of_one ha.2.1
    have y2 := cell_of_one ha.2.2.1
    have hbl := After3.below S1.out.2.2.2.2 hs1 hg2 ha
    simp [Leaves, settle, results, Try.results71, go_sem, z0, z1, z2, z3, z4, y1, y2]
    rw [HT.out]
    exact ⟨_, ⟨rfl, rfl, rfl⟩, fun _ => False, own_zeroPT _, fun b hb => hb.elim, hbl⟩
  | ok us =>
    obtain ⟨u, r, np⟩ := us
    have HX : Hid (rd 8 (bs, 0) = .ok (u, (r, np))) := hrd
    by_cases h512 : 512 < np
    · have HT : Hid (takeR bs = (3, zeroPT, 0)) := by show _ = _; unfold takeR; rw [hrd]; simp only; rw [if_pos h512]
      have h512' : (512 : Int) < (np : Int) := by omega
      clear hrd h512
      go_enter_defers Try.func71, Try.ntmps71
      go_wp2_with fail
      have S1 : Hid (Start w _ a c bs) := start_new w a c bs
      generalize (((w.alloc (.cells #[.int .i64 0, .int .u64 0, .string ⟨#[]⟩, .slice none 0 0, .slice none 0 0] 50)).alloc (.cells #[.int .i64 0] 3)).alloc (.cells #[.int .i64 0] 29)).alloc (.cells #[.slice a bs.length c, .int .i64 0, .int .i64 0] 128) = W1 at *
      have HO1 : Hid (Oct W1 a c bs) := ⟨HO.out.1.below S1.out.2.2.2.2, HO.out.2⟩
      have HP : Hid (Calls Try.prog 79 #[.pointer (some ⟨w.heap.size + 3, 0, none⟩), .int .i64 1] W1 (PartPost 8 (rd 8 (bs, 0)) (w.heap.size + 3) a c bs W1)) := part_all 8 (bs, 0) (w.heap.size + 3) a c bs 1 W1 S1.out.2.2.2.1 HO1.out (by have := HO.out.2.2.2.1; simp only; omega) (by decide) (by decide)
      have HS1 : Hid (w.heap.size + 4 ≤ W1.heap.size) := by obtain ⟨i, _, _, h⟩ := S1.out.2.2.2.1; have := lt_of_block h; show _ ≤ _; omega
      rw [HX.out] at HP
      refine HP.out.mono ?_
      intro e w2 hp2
      obtain ⟨hg2, hr2, y, rfl, ⟨k, b, t, ka, kl, kc, ia, il, ic, rfl⟩, -⟩ := PartPost.ok hp2
      have hs1 := HS1.out
      have HG2 : Hid (W1.grownBy w2 (some (w.heap.size + 3))) := hg2
      obtain ⟨i, hi, hri, hblk⟩ := hr2
      obtain ⟨z0, z1, z2, z3, z4, f0, f1, f2, f3, f4⟩ := box_cells ((hg2.block w.heap.size (by omega) (by simp)).trans S1.out.1)
      have VB : Hid (_ = _) := ((hg2.block w.heap.size (by omega) (by simp)).trans S1.out.1)
      obtain ⟨x0, x1, x2, -⟩ := rd_cells hblk
      clear hblk hi hri hg2 hp2
      go_wp2_with fail
      obtain ⟨k1, k2, k3, k4, k5⟩ := five_fin w2 w.heap.size (.int .i64 k) (.int .u64 b) (.string t) (.slice ka kl kc) (.slice ia il ic)
      have kb := five_box VB.out (.int .i64 k) (.int .u64 b) (.string t) (.slice ka kl kc) (.slice ia il ic)
      generalize ((((w2.setCell ⟨w.heap.size, 0, none⟩ (.int .i64 k)).setCell ⟨w.heap.size, 1, none⟩ (.int .u64 b)).setCell ⟨w.heap.size, 2, none⟩ (.string t)).setCell ⟨w.heap.size, 3, none⟩ (.slice ka kl kc)).setCell ⟨w.heap.size, 4, none⟩ (.slice ia il ic) = W3 at *
      refine leaves_cons (f := 78) (args := #[.pointer (some ⟨w.heap.size, 0, none⟩), .pointer (some ⟨w.heap.size + 1, 0, none⟩), .pointer (some ⟨w.heap.size + 2, 0, none⟩)]) (by simp) (by simp [go_sem]) ?_
      have hn := (k1 (w.heap.size + 1) (by omega)).trans ((HG2.out.block (w.heap.size + 1) (by omega) (by simp)).trans S1.out.2.1)
      have he := (k1 (w.heap.size + 2) (by omega)).trans ((HG2.out.block (w.heap.size + 2) (by omega) (by simp)).trans S1.out.2.2.1)
      refine (catch_rd w.heap.size _ _ _ _ _ _ _ 3 [] W3 kb hn he).mono ?_
      rintro e u' w3 ⟨rfl, rfl, ha⟩
      clear z0 z1 z2 z3 z4 f0 f1 f2 f3 f4
      obtain ⟨z0, z1, z2, z3, z4, -⟩ := box_cells ha.1
      have y1 := cell_of_one ha.2.1
      have y2 := cell_of_one ha.2.2.1
      have hbl : Below w.heap.size w w3 := by
        obtain ⟨_, _, _, h3, h4, h5, h6, h7⟩ := ha
        have h := S1.out.2.2.2.2
        have hg := HG2.out
        have := hg.size
        refine ⟨h5.trans (k3.trans (hg.os.trans h.os)), h6.trans (k4.trans (hg.tape.trans h.tape)), h7.trans (k5.trans (hg.output.trans h.output)), by omega, fun j hj => ?_⟩
        rw [h3 j (by omega) (by omega) (by omega), k1 j (by omega), hg.block j (by omega) (by simp; omega), h.block j hj]
      simp [Leaves, settle, results, Try.results71, go_sem, z0, z1, z2, z3, z4, y1, y2]
      rw [HT.out]
      exact ⟨_, ⟨rfl, rfl, rfl⟩, fun _ => False, own_zeroPT _, fun b hb => hb.elim, hbl⟩
    · have HT : Hid (takeR bs = (0, ⟨8, u⟩, bs.length - r.length)) := by show _ = _; unfold takeR; rw [hrd]; simp only; rw [if_neg h512]
      have h512' : ¬ (512 : Int) < (np : Int) := by omega
      have HNP : Hid (np ≤ 512) := by show _ ≤ _; omega
      clear hrd h512
      go_enter_defers Try.func71, Try.ntmps71
      go_wp2_with fail
      have S1 : Hid (Start w _ a c bs) := start_new w a c bs
      generalize (((w.alloc (.cells #[.int .i64 0, .int .u64 0, .string ⟨#[]⟩, .slice none 0 0, .slice none 0 0] 50)).alloc (.cells #[.int .i64 0] 3)).alloc (.cells #[.int .i64 0] 29)).alloc (.cells #[.slice a bs.length c, .int .i64 0, .int .i64 0] 128) = W1 at *
      have HO1 : Hid (Oct W1 a c bs) := ⟨HO.out.1.below S1.out.2.2.2.2, HO.out.2⟩
      have HP : Hid (Calls Try.prog 79 #[.pointer (some ⟨w.heap.size + 3, 0, none⟩), .int .i64 1] W1 (PartPost 8 (rd 8 (bs, 0)) (w.heap.size + 3) a c bs W1)) := part_all 8 (bs, 0) (w.heap.size + 3) a c bs 1 W1 S1.out.2.2.2.1 HO1.out (by have := HO.out.2.2.2.1; simp only; omega) (by decide) (by decide)
      have HS1 : Hid (w.heap.size + 4 ≤ W1.heap.size) := by obtain ⟨i, _, _, h⟩ := S1.out.2.2.2.1; have := lt_of_block h; show _ ≤ _; omega
      rw [HX.out] at HP
      refine HP.out.mono ?_
      intro e w2 hp2
      obtain ⟨hg2, hr2, y, rfl, ⟨k, b, t, ka, kl, kc, ia, il, ic, rfl⟩, hown⟩ := PartPost.ok hp2
      obtain ⟨F, hF1, hF2⟩ := hown HNP.out
      have hs1 := HS1.out
      have HG2 : Hid (W1.grownBy w2 (some (w.heap.size + 3))) := hg2
      have HF1 : Hid (Own w2 8 (mk k b t ka kl kc ia il ic) u F) := hF1
      have HF2 : Hid (∀ b, F b → W1.heap.size ≤ b ∧ b < w2.heap.size) := hF2
      obtain ⟨i, hi, hri, hblk⟩ := hr2
      have HI : Hid (bs.length - r.length = i) := by show _ = _; simp only at hri; rw [hri, List.length_drop]; omega
      obtain ⟨z0, z1, z2, z3, z4, f0, f1, f2, f3, f4⟩ := box_cells ((hg2.block w.heap.size (by omega) (by simp)).trans S1.out.1)
      have VB : Hid (_ = _) := ((hg2.block w.heap.size (by omega) (by simp)).trans S1.out.1)
      have hn := (hg2.block (w.heap.size + 1) (by omega) (by simp)).trans S1.out.2.1
      have he := (hg2.block (w.heap.size + 2) (by omega) (by simp)).trans S1.out.2.2.1
      have VN : Hid (_ = _) := hn
      have VE : Hid (_ = _) := he
      have n0 := cell_of_one hn
      have n1 := free_of_one hn
      have e0 := cell_of_one he
      have e1 := free_of_one he
      obtain ⟨x0, x1, x2, -⟩ := rd_cells hblk
      clear hblk hi hri hg2 hp2 hF1 hF2 hown hn he
      go_wp2_with fail
      go_region
      have AN := answer_set (.int .i64 k) (.int .u64 b) (.string t) (.slice ka kl kc) (.slice ia il ic) (.int .i64 i) (.int .i64 0) VB.out VN.out VE.out _ rfl
      generalize ((((((((((((w2.setCell ⟨w.heap.size, 0, none⟩ (.int .i64 k)).setCell ⟨w.heap.size, 1, none⟩ (.int .u64 b)).setCell ⟨w.heap.size, 2, none⟩ (.string t)).setCell ⟨w.heap.size, 3, none⟩ (.slice ka kl kc)).setCell ⟨w.heap.size, 4, none⟩ (.slice ia il ic)).setCell ⟨w.heap.size, 0, none⟩ (.int .i64 k)).setCell ⟨w.heap.size, 1, none⟩ (.int .u64 b)).setCell ⟨w.heap.size, 2, none⟩ (.string t)).setCell ⟨w.heap.size, 3, none⟩ (.slice ka kl kc)).setCell ⟨w.heap.size, 4, none⟩ (.slice ia il ic)).setCell ⟨w.heap.size + 1, 0, none⟩ (.int .i64 i)).setCell ⟨w.heap.size + 1 + 1, 0, none⟩ (.int .i64 0)).drew = W4 at *
      obtain ⟨av, an, ae, ak, asz, ao, at', au⟩ := AN
      have HBL : Hid (Below w.heap.size w W4) := by
        have h := S1.out.2.2.2.2
        have hg := HG2.out
        have := hg.size
        refine ⟨ao.trans (hg.os.trans h.os), at'.trans (hg.tape.trans h.tape), au.trans (hg.output.trans h.output), by omega, fun j hj => ?_⟩
        rw [ak j (by omega) (by omega) (by omega), hg.block j (by omega) (by simp; omega), h.block j hj]
      have HOW : Hid (Own W4 8 (mk k b t ka kl kc ia il ic) u F) := HF1.out.same 8 fun j hj => by
        have := (HF2.out j hj).1
        exact ak j (by omega) (by omega) (by omega)
      have HFB : Hid (∀ b, F b → w.heap.size ≤ b ∧ b < W4.heap.size) := fun j hj => by have := HF2.out j hj; omega
      go_wp2_with fail
      refine leaves_cons (f := 78) (args := #[.pointer (some ⟨w.heap.size, 0, none⟩), .pointer (some ⟨w.heap.size + 1, 0, none⟩), .pointer (some ⟨w.heap.size + 2, 0, none⟩)]) (by simp) (by simp [go_sem]) ?_
      refine (catch_still w.heap.size W4).mono ?_
      rintro e u' w5 ⟨rfl, rfl, rfl⟩
      clear z0 z1 z2 z3 z4 f0 f1 f2 f3 f4
      obtain ⟨z0, z1, z2, z3, z4, -⟩ := box_cells av
      have y1 := cell_of_one an
      have y2 := cell_of_one ae
      simp [Leaves, settle, results, Try.results71, go_sem, z0, z1, z2, z3, z4, y1, y2]
      rw [HT.out]
      simp only
      rw [HI.out]
      exact ⟨_, ⟨rfl, rfl, trivial⟩, F, HOW.out, HFB.out, HBL.out⟩
end Go.Proofs.Ytfdbhojghkdlkaa
