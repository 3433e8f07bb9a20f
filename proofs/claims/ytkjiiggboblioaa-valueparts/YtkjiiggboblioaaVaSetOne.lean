/-
  The page's example: Set of a new key in a record without keys.
-/
import Derived.Test.YtkjiiggboblioaaVaRoom
namespace Go.Proofs.Ytkjiiggboblioaa
open Go.ChangeShapes Go.WideShapes Go.ChangeAt Go.RowKit
open Fl

abbrev none5 : V 1 := (5, 0, ⟨#[]⟩, [], [])
abbrev none4 : V 1 := (4, 0, ⟨#[]⟩, [], [])
abbrev one5 : V 2 := (5, 0, ⟨#[]⟩, [keyb], [none4])

theorem chk5 : chk none5 = 0 := by decide +kernel
theorem chk4 : chk none4 = 0 := by decide +kernel
theorem chk51 : chk one5 = 0 := by decide +kernel

theorem lay_none (w : World) (k : Int) (h : -9223372036854775808 ≤ k ∧ k ≤ 9223372036854775807) : Lay w 1 (mk k 0 ⟨#[]⟩ none 0 0 none 0 0) ((k, 0, ⟨#[]⟩, [], []) : V 1) :=
  ⟨none, 0, none, 0, rfl, ⟨h, by decide, by decide, by decide, by decide, by decide, by decide, by decide, by decide⟩, fun _ => ⟨rfl, rfl⟩, fun _ => ⟨rfl, rfl⟩, fun i s hi => by simp at hi, fun i s hi => by simp at hi⟩

set_option maxRecDepth 100000 in
theorem findKey_none (s : ByteArray) (w : World) : Calls Try.prog 23 #[mk 5 0 ⟨#[]⟩ none 0 0 none 0 0, .string s] w fun e w' => e = .returned (.tuple #[.int .i64 0, .int .i64 71]) ∧ Below w.heap.size w w' := by
  go_enter Try.func23, Try.ntmps23
  go_wp2_with (go_at_call 27; refine (bs_empty _ _ _ _).mono ?_; rintro e w' ⟨rfl, rfl⟩)
  go_ret2
  exact ⟨rfl, below_one _ _⟩

set_option maxRecDepth 100000 in
theorem find_none (s : ByteArray) (w : World) : Calls Try.prog 13 #[mk 5 0 ⟨#[]⟩ none 0 0 none 0 0, .agg #[.bool true, .string s, .int .i64 0]] w fun e w' => e = .returned (.tuple #[.int .i64 0, .int .i64 71]) ∧ Below w.heap.size w w' := by
  go_enter Try.func13, Try.ntmps13
  go_wp2_with (go_at_call 23; refine (findKey_none _ _).mono ?_; rintro e w1 ⟨rfl, hb1⟩)
  go_ret2
  exact ⟨rfl, nxt (below_two _ _ _) hb1⟩

theorem box_first {w w1 : World} {o' o'' : Obj} (a0 a1 a2 a3 a4 : Value) (t : TypeId) (hb : Below (((w.alloc (.cells #[a0, a1, a2, a3, a4] t)).alloc o').alloc o'').heap.size (((w.alloc (.cells #[a0, a1, a2, a3, a4] t)).alloc o').alloc o'') w1) :
    w1.cell? ⟨w.heap.size, 0, none⟩ = some a0 ∧ w1.cell? ⟨w.heap.size, 1, none⟩ = some a1 ∧ w1.cell? ⟨w.heap.size, 2, none⟩ = some a2 ∧ w1.cell? ⟨w.heap.size, 3, none⟩ = some a3 ∧ w1.cell? ⟨w.heap.size, 4, none⟩ = some a4 := by
  have h : w1.heap[w.heap.size]? = some (.cells #[a0, a1, a2, a3, a4] t (0, 0)) := by
    rw [hb.block _ (by simp; omega), Below.heap_alloc _ _ _ (by simp; omega), Below.heap_alloc _ _ _ (by simp)]
    exact heap_alloc_new _ _
  have := box_cells h
  exact ⟨this.1, this.2.1, this.2.2.1, this.2.2.2.1, this.2.2.2.2.1⟩

theorem set_start {w w1 w2 : World} {o o' o'' : Obj} (hb1 : Below (((w.alloc o).alloc o').alloc o'').heap.size (((w.alloc o).alloc o').alloc o'') w1) (hb2 : Below w1.heap.size w1 w2) (q : Obj) :
    Below w.heap.size w (w2.alloc q) ∧ (w2.alloc q).heap[w.heap.size + 1]? = some o' ∧ (w2.alloc q).heap[w.heap.size + 1 + 1]? = some o'' ∧ (w2.alloc q).heap[w2.heap.size]? = some q ∧ w.heap.size + 2 < w2.heap.size := by
  have h1 := hb1.size
  have h2 := hb2.size
  simp at h1
  refine ⟨nxt (nxt (nxt (below_three _ _ _ _) hb1) hb2) (below_one _ _), ?_, ?_, heap_alloc_new _ _, by omega⟩
  · rw [Below.heap_alloc _ _ _ (by omega), hb2.block _ (by omega), hb1.block _ (by simp), Below.heap_alloc _ _ _ (by simp)]
    exact heap_new2 _ _ _
  · rw [Below.heap_alloc _ _ _ (by omega), hb2.block _ (by omega), hb1.block _ (by simp)]
    have e : ((w.alloc o).alloc o').heap.size = w.heap.size + 1 + 1 := by simp
    rw [← e]
    exact heap_alloc_new _ _

theorem step_new (w : World) (a0 a1 a2 : Value) (t : TypeId) : (w.alloc (.cells #[a0, a1, a2] t)).cell? ⟨w.heap.size, 0, none⟩ = some a0 ∧ (w.alloc (.cells #[a0, a1, a2] t)).cell? ⟨w.heap.size, 1, none⟩ = some a1 ∧
    (w.alloc (.cells #[a0, a1, a2] t)).cell? ⟨w.heap.size, 2, none⟩ = some a2 ∧ Below w.heap.size w (w.alloc (.cells #[a0, a1, a2] t)) ∧ w.heap.size = w.heap.size := by
  refine ⟨?_, ?_, ?_, below_one _ _, rfl⟩
  all_goals
    simp only [World.cell?, heap_alloc_new]
    rfl

theorem head_of_own {w : World} {base : Nat} {e : TypeId} {size : Nat} {v : Value} {n : Nat} {xs : List Value} (h : w.ownsRow base e size v n xs) (hn : n ≠ 0) : ∃ g c, v = .slice (some ⟨g, 0, none⟩) n c := by
  obtain ⟨_, h2⟩ := h
  rcases h2 with ⟨_, h0⟩ | ⟨g, cap, cur, hv, _⟩
  · exact absurd h0 hn
  · exact ⟨g, cap, hv⟩

/-- The record with its one key, its item's cells whatever. -/
def Final (w : World) (P gk gi ck ci : Nat) : Prop :=
  w.heap[P]? = some (.cells #[.int .i64 5, .int .u64 0, .string ⟨#[]⟩, .slice (some ⟨gk, 0, none⟩) 1 ck, .slice (some ⟨gi, 0, none⟩) 1 ci] 26 (0, 0)) ∧ (∃ base, w.ownsRow base 9 1 (.slice (some ⟨gk, 0, none⟩) 1 ck) 1 [.string keyb]) ∧
    ∃ cur : Array Value, w.heap[gi]? = some (.cells cur 26 (0, 0)) ∧ 5 ≤ cur.size ∧ 1 ≤ ci ∧ ci ≤ 9223372036854775807

theorem Final.below {w w' : World} {P gk gi ck ci : Nat} (h : Final w P gk gi ck ci) (hb : Below w.heap.size w w') : Final w' P gk gi ck ci := by
  obtain ⟨h1, ⟨base, h2⟩, cur, h3, h4⟩ := h
  exact ⟨by rw [hb.block _ (lt_of_block h1)]; exact h1, ⟨base, ownsRow_same h2 fun g hg => hb.block g (h2.lt g hg).2⟩, cur, by rw [hb.block _ (lt_of_block h3)]; exact h3, h4⟩

theorem Final.cells {w : World} {P gk gi ck ci : Nat} (h : Final w P gk gi ck ci) : ∃ c0 c1 c2 c3 c4, 
    w.cell? ⟨gi, 0, none⟩ = some c0 ∧ w.cell? ⟨gi, 1, none⟩ = some c1 ∧ w.cell? ⟨gi, 2, none⟩ = some c2 ∧ w.cell? ⟨gi, 3, none⟩ = some c3 ∧ w.cell? ⟨gi, 4, none⟩ = some c4 ∧
    w.frozen? ⟨gi, 0, none⟩ = false ∧ w.frozen? ⟨gi, 1, none⟩ = false ∧ w.frozen? ⟨gi, 2, none⟩ = false ∧ w.frozen? ⟨gi, 3, none⟩ = false ∧ w.frozen? ⟨gi, 4, none⟩ = false ∧
    w.cell? ⟨P, 0, none⟩ = some (.int .i64 5) ∧ w.cell? ⟨P, 1, none⟩ = some (.int .u64 0) ∧ w.cell? ⟨P, 2, none⟩ = some (.string ⟨#[]⟩) ∧ w.cell? ⟨P, 3, none⟩ = some (.slice (some ⟨gk, 0, none⟩) 1 ck) ∧ w.cell? ⟨P, 4, none⟩ = some (.slice (some ⟨gi, 0, none⟩) 1 ci) := by
  obtain ⟨h1, _, cur, h3, h4, _⟩ := h
  have b := box_cells h1
  have e : ∀ i, i < 5 → w.cell? ⟨gi, i, none⟩ = some (cur.getD i undef) := fun i hi => by
    simp only [World.cell?, h3]
    simp [Array.getD, show i < cur.size by omega]
  have f : ∀ i, w.frozen? ⟨gi, i, none⟩ = false := fun i => by simp [World.frozen?, h3]
  exact ⟨_, _, _, _, _, e 0 (by omega), e 1 (by omega), e 2 (by omega), e 3 (by omega), e 4 (by omega), f 0, f 1, f 2, f 3, f 4, b.1, b.2.1, b.2.2.1, b.2.2.2.1, b.2.2.2.2.1⟩

theorem row_of_own {w : World} {base g c : Nat} {xs : List Value} (h : w.ownsRow base 26 5 (.slice (some ⟨g, 0, none⟩) 1 c) 1 xs) : ∃ cur : Array Value, w.heap[g]? = some (.cells cur 26 (0, 0)) ∧ 5 ≤ cur.size ∧ 1 ≤ c ∧ c ≤ 9223372036854775807 := by
  obtain ⟨_, h2⟩ := h
  rcases h2 with ⟨hv, _⟩ | ⟨g', cap, cur, hv, _, hh, h1, h3, h4, _⟩
  · simp at hv
  · simp only [Value.slice.injEq, Option.some.injEq, Addr.mk.injEq, and_true, true_and] at hv
    obtain ⟨rfl, rfl⟩ := hv
    unfold maxLen at h3
    exact ⟨cur, hh, by omega, h1, h3⟩

theorem set_mid {w W3 w5 w6 : World} {P : Nat} (h3 : Below w.heap.size w W3) (h5 : Below W3.heap.size W3 w5) (hg : w5.grownBy w6 (some P)) (hlt : w.heap.size + 2 < P) : Below w.heap.size w w6 := by
  have hb := nxt h3 h5
  have := hb.size
  exact ⟨hg.os.trans hb.os, hg.tape.trans hb.tape, hg.output.trans hb.output, Nat.le_trans hb.size hg.size, fun k hk => by rw [hg.block k (by omega) (by simp; omega), hb.block k hk]⟩

theorem five_sets {w : World} {g : Nat} {cur : Array Value} {t : TypeId} (h : w.heap[g]? = some (.cells cur t (0, 0))) (hc : 5 ≤ cur.size) (v0 v1 v2 v3 v4 : Value) :
    (∀ k, k ≠ g → (((((w.setCell ⟨g, 0, none⟩ v0).setCell ⟨g, 1, none⟩ v1).setCell ⟨g, 2, none⟩ v2).setCell ⟨g, 3, none⟩ v3).setCell ⟨g, 4, none⟩ v4).heap[k]? = w.heap[k]?) ∧
    (((((w.setCell ⟨g, 0, none⟩ v0).setCell ⟨g, 1, none⟩ v1).setCell ⟨g, 2, none⟩ v2).setCell ⟨g, 3, none⟩ v3).setCell ⟨g, 4, none⟩ v4).heap.size = w.heap.size ∧
    (∃ cur' : Array Value, (((((w.setCell ⟨g, 0, none⟩ v0).setCell ⟨g, 1, none⟩ v1).setCell ⟨g, 2, none⟩ v2).setCell ⟨g, 3, none⟩ v3).setCell ⟨g, 4, none⟩ v4).heap[g]? = some (.cells cur' t (0, 0)) ∧ cur'.size = cur.size ∧
      cur'[0]? = some v0 ∧ cur'[1]? = some v1 ∧ cur'[2]? = some v2 ∧ cur'[3]? = some v3 ∧ cur'[4]? = some v4) := by
  refine ⟨fun k hk => ?_, by simp [World.setCell], ?_⟩
  · rw [Below.heap_setCell _ _ _ _ hk, Below.heap_setCell _ _ _ _ hk, Below.heap_setCell _ _ _ _ hk, Below.heap_setCell _ _ _ _ hk, Below.heap_setCell _ _ _ _ hk]
  · refine ⟨((((cur.setIfInBounds 0 v0).setIfInBounds 1 v1).setIfInBounds 2 v2).setIfInBounds 3 v3).setIfInBounds 4 v4, by simp [World.setCell, Array.getElem?_modify, h], by simp, ?_, ?_, ?_, ?_, ?_⟩
    all_goals (simp [Array.getElem?_setIfInBounds]; try (first | omega | (intro e; subst e; simp at hc)))

/-- The record with its one key and its item. -/
def One5 (w : World) (gk gi ck ci : Nat) : Prop :=
  (∃ base, w.ownsRow base 9 1 (.slice (some ⟨gk, 0, none⟩) 1 ck) 1 [.string keyb]) ∧
    ∃ cur : Array Value, w.heap[gi]? = some (.cells cur 26 (0, 0)) ∧ cur[0]? = some (.int .i64 4) ∧ cur[1]? = some (.int .u64 0) ∧ cur[2]? = some (.string ⟨#[]⟩) ∧ cur[3]? = some (.slice none 0 0) ∧ cur[4]? = some (.slice none 0 0) ∧ 1 ≤ ci ∧ ci ≤ 9223372036854775807

theorem One5.same {w w' : World} {gk gi ck ci : Nat} (h : One5 w gk gi ck ci) (h1 : w'.heap[gk]? = w.heap[gk]?) (h2 : w'.heap[gi]? = w.heap[gi]?) : One5 w' gk gi ck ci := by
  obtain ⟨⟨base, k1⟩, cur, k2, k3⟩ := h
  exact ⟨⟨base, ownsRow_same k1 fun g hg => by simp only [Value.ownBlock, Option.some.injEq] at hg; subst hg; exact h1⟩, cur, by rw [h2]; exact k2, k3⟩

theorem One5.lt {w : World} {gk gi ck ci : Nat} (h : One5 w gk gi ck ci) : gk < w.heap.size ∧ gi < w.heap.size := by
  obtain ⟨⟨base, k1⟩, cur, k2, k3⟩ := h
  exact ⟨(k1.lt gk rfl).2, lt_of_block k2⟩

theorem One5.lay {w : World} {gk gi ck ci : Nat} (h : One5 w gk gi ck ci) : Lay w 2 (mk 5 0 ⟨#[]⟩ (some ⟨gk, 0, none⟩) 1 ck (some ⟨gi, 0, none⟩) 1 ci) one5 := by
  obtain ⟨⟨base, hK⟩, cur', q3, e0, e1, e2, e3, e4, h5, h6⟩ := h
  have cK := cap_of_own hK
  have cells : ∀ i, w.cell? ⟨gi, i, none⟩ = cur'[i]? := fun i => by simp [World.cell?, q3]
  refine ⟨some ⟨gk, 0, none⟩, ck, some ⟨gi, 0, none⟩, ci, rfl, ⟨by decide, by decide, by decide, cK.1, cK.2, by decide, h5, h6, by decide⟩, by simp, by simp, ?_, ?_⟩
  · intro i s hi
    match i, hi with
    | 0, hi =>
      simp only [List.getElem?_cons_zero, Option.some.injEq] at hi
      subst hi
      obtain ⟨g', e', hc⟩ := cells_of_own hK 0 (.string keyb) rfl
      exact ⟨g', 0, e', hc, by decide⟩
  · intro i u hu
    match i, hu with
    | 0, hu =>
      simp only [List.getElem?_cons_zero, Option.some.injEq] at hu
      subst hu
      exact ⟨gi, 0, _, _, _, _, _, rfl, (cells 0).trans e0, (cells 1).trans e1, (cells 2).trans e2, (cells 3).trans e3, (cells 4).trans e4, lay_none _ 4 (by omega)⟩

theorem set_final {w : World} {P gk gi ck ci : Nat} (h : Final w P gk gi ck ci) (hne : ¬ gi = P) :
    One5 (((((w.setCell ⟨gi, 0, none⟩ (.int .i64 4)).setCell ⟨gi, 1, none⟩ (.int .u64 0)).setCell ⟨gi, 2, none⟩ (.string ⟨#[]⟩)).setCell ⟨gi, 3, none⟩ (.slice none 0 0)).setCell ⟨gi, 4, none⟩ (.slice none 0 0)) gk gi ck ci ∧
    (((((w.setCell ⟨gi, 0, none⟩ (.int .i64 4)).setCell ⟨gi, 1, none⟩ (.int .u64 0)).setCell ⟨gi, 2, none⟩ (.string ⟨#[]⟩)).setCell ⟨gi, 3, none⟩ (.slice none 0 0)).setCell ⟨gi, 4, none⟩ (.slice none 0 0)).heap[P]? =
      some (.cells #[.int .i64 5, .int .u64 0, .string ⟨#[]⟩, .slice (some ⟨gk, 0, none⟩) 1 ck, .slice (some ⟨gi, 0, none⟩) 1 ci] 26 (0, 0)) ∧
    (∀ k, k ≠ gi → (((((w.setCell ⟨gi, 0, none⟩ (.int .i64 4)).setCell ⟨gi, 1, none⟩ (.int .u64 0)).setCell ⟨gi, 2, none⟩ (.string ⟨#[]⟩)).setCell ⟨gi, 3, none⟩ (.slice none 0 0)).setCell ⟨gi, 4, none⟩ (.slice none 0 0)).heap[k]? = w.heap[k]?) ∧
    (((((w.setCell ⟨gi, 0, none⟩ (.int .i64 4)).setCell ⟨gi, 1, none⟩ (.int .u64 0)).setCell ⟨gi, 2, none⟩ (.string ⟨#[]⟩)).setCell ⟨gi, 3, none⟩ (.slice none 0 0)).setCell ⟨gi, 4, none⟩ (.slice none 0 0)).heap.size = w.heap.size := by
  obtain ⟨h1, ⟨base, h2⟩, cur, h3, h4, h5, h6⟩ := h
  obtain ⟨q1, q2, cur', q3, q4, e0, e1, e2, e3, e4⟩ := five_sets h3 h4 (.int .i64 4) (.int .u64 0) (.string ⟨#[]⟩) (.slice none 0 0) (.slice none 0 0)
  generalize ((((w.setCell ⟨gi, 0, none⟩ (.int .i64 4)).setCell ⟨gi, 1, none⟩ (.int .u64 0)).setCell ⟨gi, 2, none⟩ (.string ⟨#[]⟩)).setCell ⟨gi, 3, none⟩ (.slice none 0 0)).setCell ⟨gi, 4, none⟩ (.slice none 0 0) = W at *
  have hkg : gk ≠ gi := by
    intro e
    obtain ⟨_, h7⟩ := h2
    rcases h7 with ⟨hv, _⟩ | ⟨g', cap, cur2, hv, _, hh, _⟩
    · simp at hv
    · simp only [Value.slice.injEq, Option.some.injEq, Addr.mk.injEq, and_true, true_and] at hv
      obtain ⟨rfl, rfl⟩ := hv
      rw [e, h3] at hh
      simp at hh
  have hK : W.ownsRow base 9 1 (.slice (some ⟨gk, 0, none⟩) 1 ck) 1 [.string keyb] := ownsRow_same h2 fun g hg => by
    simp only [Value.ownBlock, Option.some.injEq] at hg
    subst hg
    exact q1 _ hkg
  exact ⟨⟨⟨base, hK⟩, cur', q3, e0, e1, e2, e3, e4, h5, h6⟩, by rw [q1 P (fun e => hne e.symm)]; exact h1, q1, q2⟩

theorem set_last {w w6 w7 W : World} {gi : Nat} (h6 : Below w.heap.size w w6) (h7 : Below w6.heap.size w6 w7) (hgi : w.heap.size ≤ gi) (hk : ∀ k, k ≠ gi → W.heap[k]? = w7.heap[k]?) (hs : W.heap.size = w7.heap.size) (ho : W.os = w7.os := by rfl) (ht : W.tape = w7.tape := by rfl) (hp : W.output = w7.output := by rfl) : Below w.heap.size w W := by
  have hb := nxt h6 h7
  have := hb.size
  exact ⟨ho.trans hb.os, ht.trans hb.tape, hp.trans hb.output, by omega, fun k hk' => by rw [hk k (by omega), hb.block k hk']⟩

set_option maxRecDepth 100000 in
set_option maxHeartbeats 3200000 in
theorem set_one (g : Nat) (w : World) (g0 : w.cell? ⟨g, 0, none⟩ = some (.bool true)) (g1 : w.cell? ⟨g, 1, none⟩ = some (.string keyb)) (g2 : w.cell? ⟨g, 2, none⟩ = some (.int .i64 0)) :
    Calls Try.prog 7 #[mk 5 0 ⟨#[]⟩ none 0 0 none 0 0, .slice (some ⟨g, 0, none⟩) 1 1, mk 4 0 ⟨#[]⟩ none 0 0 none 0 0] w fun e w' =>
      ∃ gk gi ck ci, e = .returned (.tuple #[mk 5 0 ⟨#[]⟩ (some ⟨gk, 0, none⟩) 1 ck (some ⟨gi, 0, none⟩) 1 ci, .int .i64 0]) ∧ One5 w' gk gi ck ci ∧ Below w.heap.size w w' := by
  have hb := both_any 1 none5 none4 5 0 4 0 ⟨#[]⟩ ⟨#[]⟩ none none none none 0 0 0 0 0 0 0 0
  rw [chk5, chk4] at hb
  have HB : Hid (∀ (w : World), Lay w 1 (mk 5 0 ⟨#[]⟩ none 0 0 none 0 0) none5 → Lay w 1 (mk 4 0 ⟨#[]⟩ none 0 0 none 0 0) none4 → Calls Try.prog 18 #[.agg #[.int .i64 5, .int .u64 0, .string ⟨#[]⟩, .slice none 0 0, .slice none 0 0, .int .i64 4, .int .u64 0, .string ⟨#[]⟩, .slice none 0 0, .slice none 0 0]] w
      fun e w' => e = .returned (.int .i64 0) ∧ Below w.heap.size w w') := hb
  clear hb
  have hg : g < w.heap.size := lt_of_cell g0
  go_enter Try.func7, Try.ntmps7
  go_wp2_with fail
  refine (HB.out _ (lay_none _ 5 (by omega)) (lay_none _ 4 (by omega))).mono ?_
  rintro e w1 ⟨rfl, hb1⟩
  obtain ⟨x0, x1, x2, x3, x4⟩ := box_first (.int .i64 5) (.int .u64 0) (.string ⟨#[]⟩) (.slice none 0 0) (.slice none 0 0) 26 hb1
  go_wp2_with (go_at_call 14; refine (copyOf_none _ _ _ _).mono ?_; rintro e w2 ⟨rfl, hb2⟩)
  obtain ⟨B3, hY, hZ, hP, hlt⟩ := set_start hb1 hb2 (.cells #[.int .i64 5, .int .u64 0, .string ⟨#[]⟩, .slice none 0 0, .slice none 0 0] 26)
  clear x0 x1 x2 x3 x4 hb1 hb2
  generalize hW : w2.alloc (.cells #[.int .i64 5, .int .u64 0, .string ⟨#[]⟩, .slice none 0 0, .slice none 0 0] 26) = W3
  rw [hW] at B3 hY hZ hP
  clear hW
  generalize w2.heap.size = P at hP hlt
  have c0 := keepc B3 _ _ g0
  have c1 := keepc B3 _ _ g1
  have c2 := keepc B3 _ _ g2
  have HP : Hid (W3.heap[P]? = some (.cells #[.int .i64 5, .int .u64 0, .string ⟨#[]⟩, .slice none 0 0, .slice none 0 0] 26 (0, 0))) := hP
  have HY : Hid (W3.heap[w.heap.size + 1]? = some (.cells #[.int .i64 4, .int .u64 0, .string ⟨#[]⟩, .slice none 0 0, .slice none 0 0] 26 (0, 0))) := hY
  have HZ : Hid (W3.heap[w.heap.size + 1 + 1]? = some (.cells #[.int .i64 0, .int .u64 0, .string ⟨#[]⟩, .slice none 0 0, .slice none 0 0] 26 (0, 0))) := hZ
  have HB3 : Hid (Below w.heap.size w W3) := B3
  have HLT : Hid (w.heap.size + 2 < P) := hlt
  clear hY hZ B3 g0 g1 g2 hlt
  refine wp_loop_rounds 2 ?_
  rw [rounds_succ]
  obtain ⟨p0, p1, p2, p3, p4, f0, f1, f2, f3, f4⟩ := box_cells hP
  clear hP
  go_wp2_with fail
  clear c0 c1 c2
  obtain ⟨s0, s1, s2, HB4, HPs⟩ := step_new W3 (.bool true) (.string keyb) (.int .i64 0) 42
  generalize hW : W3.alloc (.cells #[.bool true, .string keyb, .int .i64 0] 42) = W4
  rw [hW] at s0 s1 s2 HB4
  clear hW
  generalize W3.heap.size = Sb at s0 s1 s2 HPs
  have P0 := keepc HB4 _ _ p0
  have P1 := keepc HB4 _ _ p1
  have P2 := keepc HB4 _ _ p2
  have P3 := keepc HB4 _ _ p3
  have P4 := keepc HB4 _ _ p4
  clear p0 p1 p2 p3 p4 f0 f1 f2 f3 f4 HPs
  have H4 : Hid (Below W3.heap.size W3 W4) := HB4
  clear HB4
  go_region_held3 (fun w' => w'.cell? ⟨P, 0, none⟩ = some (.int .i64 5) ∧ w'.cell? ⟨P, 1, none⟩ = some (.int .u64 0) ∧ w'.cell? ⟨P, 2, none⟩ = some (.string ⟨#[]⟩) ∧ w'.cell? ⟨P, 3, none⟩ = some (.slice none 0 0) ∧ w'.cell? ⟨P, 4, none⟩ = some (.slice none 0 0) ∧
      w'.cell? ⟨Sb, 0, none⟩ = some (.bool true) ∧ w'.cell? ⟨Sb, 1, none⟩ = some (.string keyb) ∧ w'.cell? ⟨Sb, 2, none⟩ = some (.int .i64 0)) (go_keep) ((go_at_call 13; refine (find_none _ _).mono ?_; rintro e w5 ⟨rfl, hb5⟩; have hk5 := keepc hb5))
  have B5 : Below W3.heap.size W3 w5 := nxt H4.out.drew hb5
  have S0 := hk5 _ _ s0
  have S1 := hk5 _ _ s1
  have S2 := hk5 _ _ s2
  have HB5 : Hid (Below W3.heap.size W3 w5) := B5
  clear P0 P1 P2 P3 P4 s0 s1 s2 hb5 hk5 B5
  go_wp2_with (go_at_call 19; refine (room_one P _ ((HB5.out.block P (lt_of_block HP.out)).trans HP.out)).mono ?_; rintro e w6 ⟨rfl, kv, iv, hP6, hk6, hi6, hg6⟩; obtain ⟨gk, ck, rfl⟩ := head_of_own hk6 (by decide); obtain ⟨gi, ci, rfl⟩ := head_of_own hi6 (by decide); have r4 := (box_cells hP6).2.2.2.2.1)
  have hlt := HLT.out
  have hP5 : P < w5.heap.size := Nat.lt_of_lt_of_le (lt_of_block HP.out) HB5.out.size
  have hgi := (hi6.lt gi rfl).1
  have hgk := (hk6.lt gk rfl).1
  have hY6 : w6.heap[w.heap.size + 1]? = some (.cells #[.int .i64 4, .int .u64 0, .string ⟨#[]⟩, .slice none 0 0, .slice none 0 0] 26 (0, 0)) := by
    rw [hg6.block _ (by omega) (by simp; omega), HB5.out.block _ (lt_of_block HY.out)]; exact HY.out
  have hZ6 : w6.heap[w.heap.size + 1 + 1]? = some (.cells #[.int .i64 0, .int .u64 0, .string ⟨#[]⟩, .slice none 0 0, .slice none 0 0] 26 (0, 0)) := by
    rw [hg6.block _ (by omega) (by simp; omega), HB5.out.block _ (lt_of_block HZ.out)]; exact HZ.out
  obtain ⟨cur, hI6, hcur⟩ := row_of_own hi6
  have F6 : Hid (Final w6 P gk gi ck ci) := ⟨hP6, ⟨_, hk6⟩, cur, hI6, hcur⟩
  have HZ6 : Hid (w6.heap[w.heap.size + 1 + 1]? = some (.cells #[.int .i64 0, .int .u64 0, .string ⟨#[]⟩, .slice none 0 0, .slice none 0 0] 26 (0, 0))) := hZ6
  obtain ⟨y0, y1, y2, y3, y4, -⟩ := box_cells hY6
  have hne : ¬ gi = P := by omega
  have hne' : ¬ P = gi := by omega
  have HGI : Hid (w5.heap.size ≤ gi) := hgi
  have HGK : Hid (w5.heap.size ≤ gk) := hgk
  have HP5 : Hid (P < w5.heap.size) := hP5
  have HB6 : Hid (Below w.heap.size w w6) := set_mid HB3.out HB5.out hg6 hlt
  clear S0 S1 S2 hP6 hk6 hi6 hg6 r4 hlt hgi hgk hY6 hI6 hcur hZ6
  rw [rounds_succ]
  go_wp2_with (go_at_call 14; refine (copyOf_none _ _ _ _).mono ?_; rintro e w7 ⟨rfl, hb7⟩; obtain ⟨d0, d1, d2, d3, d4, t0, t1, t2, t3, t4, u0, u1, u2, u3, u4, v0, v1, v2, v3, v4⟩ := Final.cells (Final.below F6.out hb7))
  obtain ⟨L8, hP8, hk8, hs8⟩ := set_final (Final.below F6.out hb7) hne
  have B8 := set_last HB6.out hb7 (by have := HGI.out; have := (nxt HB3.out HB5.out).size; omega) hk8 hs8
  have hZ8 := hk8 (w.heap.size + 1 + 1) (by have := HGI.out; have := HLT.out; omega)
  rw [hb7.block _ (lt_of_block HZ6.out), HZ6.out] at hZ8
  clear t0 t1 t2 t3 t4 u0 u1 u2 u3 u4 v0 v1 v2 v3 v4 y0 y1 y2 y3 y4 hk8 hs8 hb7
  generalize hW : ((((w7.setCell ⟨gi, 0, none⟩ (.int .i64 4)).setCell ⟨gi, 1, none⟩ (.int .u64 0)).setCell ⟨gi, 2, none⟩ (.string ⟨#[]⟩)).setCell ⟨gi, 3, none⟩ (.slice none 0 0)).setCell ⟨gi, 4, none⟩ (.slice none 0 0) = W8
  rw [hW] at L8 hP8 B8 hZ8
  clear hW
  refine (check_any 2 _ _ _ L8.lay).mono ?_
  have hchk : (msr (wk 2 one5 1 (0, 0))).2.2 = 0 := chk51
  rw [hchk]
  rintro e w9 ⟨rfl, hb9⟩
  have hP9 : w9.heap[P]? = some (.cells #[.int .i64 5, .int .u64 0, .string ⟨#[]⟩, .slice (some ⟨gk, 0, none⟩) 1 ck, .slice (some ⟨gi, 0, none⟩) 1 ci] 26 (0, 0)) := by rw [hb9.block _ (lt_of_block hP8)]; exact hP8
  have hZ9 : w9.heap[w.heap.size + 1 + 1]? = some (.cells #[.int .i64 0, .int .u64 0, .string ⟨#[]⟩, .slice none 0 0, .slice none 0 0] 26 (0, 0)) := by rw [hb9.block _ (lt_of_block hZ8)]; exact hZ8
  obtain ⟨v0, v1, v2, v3, v4, -⟩ := box_cells hP9
  obtain ⟨z0, z1, z2, z3, z4, y0, y1, y2, y3, y4⟩ := box_cells hZ9
  have HL9 : Hid (One5 w9 gk gi ck ci) := L8.same (hb9.block _ L8.lt.1) (hb9.block _ L8.lt.2)
  have HB9 : Hid (Below w.heap.size w w9) := nxt B8 hb9
  clear hchk hP8 hZ8 hb9 L8 B8 hP9
  have HZ9 : Hid (w9.heap[w.heap.size + 1 + 1]? = some (.cells #[.int .i64 0, .int .u64 0, .string ⟨#[]⟩, .slice none 0 0, .slice none 0 0] 26 (0, 0))) := hZ9
  clear hZ9
  go_wp2_with fail
  obtain ⟨k1, k2, -⟩ := five_sets HZ9.out (by decide) (.int .i64 5) (.int .u64 0) (.string ⟨#[]⟩) (.slice (some ⟨gk, 0, none⟩) 1 ck) (.slice (some ⟨gi, 0, none⟩) 1 ci)
  refine bodyPost_ret (v := .tuple #[mk 5 0 ⟨#[]⟩ (some ⟨gk, 0, none⟩) 1 ck (some ⟨gi, 0, none⟩) 1 ci, .int .i64 0]) (by simp [results, Try.results7, go_sem, z0, z1, z2, z3, z4]) rfl ⟨gk, gi, ck, ci, rfl, One5.same HL9.out (k1 _ ?_) (k1 _ ?_), ?_⟩
  · have := HGK.out; have := HLT.out; have := HP5.out; omega
  · have := HGI.out; have := HLT.out; have := HP5.out; omega
  · exact ((((HB9.out.setCell (by simp; omega) _).setCell (by simp; omega) _).setCell (by simp; omega) _).setCell (by simp; omega) _).setCell (by simp; omega) _
end Go.Proofs.Ytkjiiggboblioaa
