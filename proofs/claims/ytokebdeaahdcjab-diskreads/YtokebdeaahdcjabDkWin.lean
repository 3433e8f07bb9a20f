/-
  Rows of octets that are windows into blocks; a window written over.
-/
import Derived.Test.YtokebdeaahdcjabDkBase
import Derived.Laws.CopyOwn
import Derived.RangeFuncNested
import Derived.RangeFuncLeaves
import Derived.RangeFuncBox
import Derived.RangeFuncBound
import Derived.RangeFuncCalls
import Derived.OwnWalkIn
import Derived.TacticsInMore
import Derived.LoopNIn
import Derived.LoopIn
import Derived.Shelf.Abstract
namespace Go.Proofs.Ytokebdeaahdcjab
open Go.ChangeShapes Go.WideShapes Go.ChangeAt Go.RowKit Go.Deep
open Dk (Wr St)

/-- A row that is a window of 48 octets, or nothing. -/
def Win (w : World) (wn : Option (Nat × Nat)) (x : Value) (l : List UInt8) : Prop :=
  match wn with
  | none => x = .slice none 0 0 ∧ l = []
  | some (g, o) => ∃ (c : Nat) (cur : Array Value), x = .slice (some ⟨g, o, none⟩) 48 c ∧ 48 ≤ c ∧ c ≤ 9223372036854775807 ∧ l.length = 48 ∧ w.heap[g]? = some (.cells cur 5 (0, 0)) ∧ o + 48 ≤ cur.size
      ∧ ∀ j u, l[j]? = some u → cur[o + j]? = some (.int .u8 (u.toNat : Int))

/-- A row of windows. -/
structure Wn (w : World) (T : Nat) (wins : List (Option (Nat × Nat))) (ss : List (List UInt8)) : Prop where
  len : wins.length = ss.length
  tab : ∃ tab : Array Value, w.heap[T]? = some (.cells tab 26 (0, 0)) ∧ ss.length ≤ tab.size ∧ ∀ (i : Nat) (wn : Option (Nat × Nat)) (l : List UInt8), wins[i]? = some wn → ss[i]? = some l → ∃ x, tab[i]? = some x ∧ Win w wn x l

/-- No two windows meet. -/
def Apart (wins : List (Option (Nat × Nat))) : Prop := ∀ (i j g o o' : Nat), i ≠ j → wins[i]? = some (some (g, o)) → wins[j]? = some (some (g, o')) → o + 48 ≤ o' ∨ o' + 48 ≤ o

/-- All windows lie in blocks from M on. -/
def WinsUp (M : Nat) (wins : List (Option (Nat × Nat))) : Prop := ∀ (i g o : Nat), wins[i]? = some (some (g, o)) → M ≤ g

/-- Cells stay. -/
def KpC (W W' : World) : Prop := W.heap.size ≤ W'.heap.size ∧ ∀ (j : Nat) (cs : Array Value) (t : TypeId) (r : Nat × Nat), W.heap[j]? = some (Obj.cells cs t r) → W'.heap[j]? = some (Obj.cells cs t r)
theorem KpC.refl (W : World) : KpC W W := ⟨Nat.le_refl _, fun _ _ _ _ h => h⟩
theorem KpC.trans {A B C : World} (h : KpC A B) (k : KpC B C) : KpC A C := ⟨Nat.le_trans h.1 k.1, fun j cs t r hj => k.2 j cs t r (h.2 j cs t r hj)⟩
theorem KpC.below {A B : World} (h : Below A.heap.size A B) : KpC A B := ⟨h.size, fun j _ _ _ hj => (h.block j (lt_of_block hj)).trans hj⟩
theorem KpC.put {A : World} {g : Nat} {o : Obj} (o' : Obj) (h : A.heap[g]? = some o) (ho : o.isCells = false) : KpC A (A.putObj g o') :=
  ⟨by simp [World.putObj], fun j cs t r hj => (World.putObj_heap_other (by rintro rfl; rw [h] at hj; simp only [Option.some.injEq] at hj; subst hj; simp [Obj.isCells] at ho)).trans hj⟩

/-- All but rows of octets stays. -/
def KpN (W W' : World) : Prop := W.heap.size ≤ W'.heap.size ∧ ∀ (j : Nat) (o : Obj), W.heap[j]? = some o → (∀ cs r, o ≠ .cells cs 5 r) → W'.heap[j]? = some o
theorem KpN.refl (W : World) : KpN W W := ⟨Nat.le_refl _, fun _ _ h _ => h⟩
theorem KpN.trans {A B C : World} (h : KpN A B) (k : KpN B C) : KpN A C := ⟨Nat.le_trans h.1 k.1, fun j o hj hn => k.2 j o (h.2 j o hj hn) hn⟩
theorem KpN.below {A B : World} (h : Below A.heap.size A B) : KpN A B := ⟨h.size, fun j _ hj _ => (h.block j (lt_of_block hj)).trans hj⟩

theorem Win.keep {W W' : World} {wn : Option (Nat × Nat)} {x : Value} {l : List UInt8} (h : Win W wn x l) (k : KpC W W') : Win W' wn x l := by
  cases wn with
  | none => exact h
  | some p =>
    obtain ⟨c, cur, h1, h2, h3, h4, h5, h6⟩ := h
    exact ⟨c, cur, h1, h2, h3, h4, k.2 _ _ _ _ h5, h6⟩

theorem Wn.keep {W W' : World} {T : Nat} {wins : List (Option (Nat × Nat))} {ss : List (List UInt8)} (h : Wn W T wins ss) (k : KpC W W') : Wn W' T wins ss := by
  obtain ⟨tab, h1, h2, h3⟩ := h.tab
  refine ⟨h.len, tab, k.2 _ _ _ _ h1, h2, fun i wn l hi hl => ?_⟩
  obtain ⟨x, hx, hw⟩ := h3 i wn l hi hl
  exact ⟨x, hx, hw.keep k⟩

theorem Wn.row {W : World} {T : Nat} {wins : List (Option (Nat × Nat))} {ss : List (List UInt8)} (h : Wn W T wins ss) {i : Nat} (hi : i < ss.length) : ∃ wn l x, wins[i]? = some wn ∧ ss[i]? = some l ∧ W.cell? ⟨T, i, none⟩ = some x ∧ Win W wn x l := by
  obtain ⟨tab, h1, h2, h3⟩ := h.tab
  have hw : i < wins.length := by have := h.len; omega
  obtain ⟨x, hx, hwin⟩ := h3 i _ _ (List.getElem?_eq_getElem hw) (List.getElem?_eq_getElem hi)
  exact ⟨_, _, x, List.getElem?_eq_getElem hw, List.getElem?_eq_getElem hi, (cell_of h1 i).1.trans hx, hwin⟩

/-- What lies behind octets laid over a row. -/
theorem over_get (cur : Array Value) (o : Nat) (X : List Value) (h : o + X.length ≤ cur.size) (k : Nat) :
    (cur.toList.take o ++ (X ++ cur.toList.drop (o + X.length))).toArray[k]? = if o ≤ k ∧ k < o + X.length then X[k - o]? else cur[k]? := by
  rw [List.getElem?_toArray]
  have hl : (cur.toList.take o).length = o := by rw [List.length_take, Array.length_toList]; omega
  by_cases h1 : k < o
  · rw [List.getElem?_append_left (by omega), if_neg (by omega), List.getElem?_take_of_lt h1, Array.getElem?_toList]
  · rw [List.getElem?_append_right (by omega), hl]
    by_cases h2 : k < o + X.length
    · rw [List.getElem?_append_left (by omega), if_pos (by omega)]
    · rw [List.getElem?_append_right (by omega), if_neg (by omega), List.getElem?_drop, Array.getElem?_toList]
      congr 1
      omega

theorem over_size (cur : Array Value) (o : Nat) (X : List Value) (h : o + X.length ≤ cur.size) : (cur.toList.take o ++ (X ++ cur.toList.drop (o + X.length))).toArray.size = cur.size := by
  simp only [List.size_toArray, List.length_append, List.length_take, List.length_drop, Array.length_toList]
  omega

/-- A window is written over. -/
theorem Wn.put {W : World} {T : Nat} {wins : List (Option (Nat × Nat))} {ss : List (List UInt8)} (h : Wn W T wins ss) (ha : Apart wins) {i g o : Nat} (hi : wins[i]? = some (some (g, o))) {x : List UInt8} (hx : x.length = 48)
    {cur : Array Value} (hg : W.heap[g]? = some (.cells cur 5 (0, 0))) (ho : o + 48 ≤ cur.size) : Wn (W.setRow g (cur.toList.take o ++ (cellsO x ++ cur.toList.drop (o + (cellsO x).length))).toArray) T wins (Dk.putS ss i x) := by
  have hX : (cellsO x).length = 48 := by rw [cellsO_length]; exact hx
  obtain ⟨tab, h1, h2, h3⟩ := h.tab
  have hTg : T ≠ g := by
    rintro rfl
    rw [hg] at h1
    simp at h1
  have hrow := setRow_heap W g cur (cur.toList.take o ++ (cellsO x ++ cur.toList.drop (o + (cellsO x).length))).toArray 5 (0, 0) hg
  refine ⟨by rw [Dk.putS_length]; exact h.len, tab, ?_, by rw [Dk.putS_length]; exact h2, ?_⟩
  · rw [setRow_other W g T _ hTg]
    exact h1
  intro j wn l hj hl
  rw [Dk.putS_get] at hl
  by_cases hji : j = i
  · subst hji
    rw [if_pos rfl, Option.map_eq_some_iff] at hl
    obtain ⟨l0, hl0, hl1⟩ := hl
    obtain ⟨v, hv, hw⟩ := h3 j wn l0 hj hl0
    rw [hi] at hj
    cases hj
    obtain ⟨c, cur', e1, e2, e3, e4, e5, e6, e7⟩ := hw
    rw [if_neg (by intro e; rw [e] at e4; simp at e4)] at hl1
    subst hl1
    refine ⟨v, hv, c, _, e1, e2, e3, hx, hrow, by rw [over_size _ _ _ (by omega)]; exact ho, ?_⟩
    intro k u hk
    have hk48 : k < 48 := by have := (List.getElem?_eq_some_iff.1 hk).1; omega
    rw [over_get _ _ _ (by omega), if_pos (by omega)]
    simp [cellsO, hk]
  · rw [if_neg hji] at hl
    obtain ⟨v, hv, hw⟩ := h3 j wn l hj hl
    refine ⟨v, hv, ?_⟩
    cases wn with
    | none => exact hw
    | some p =>
      obtain ⟨g', o'⟩ := p
      obtain ⟨c, cur', e1, e2, e3, e4, e5, e6, e7⟩ := hw
      by_cases hgg : g' = g
      · subst hgg
        have hap := ha i j g' o o' (fun e => hji e.symm) hi hj
        rw [hg] at e5
        simp only [Option.some.injEq, Obj.cells.injEq, and_true] at e5
        subst e5
        refine ⟨c, _, e1, e2, e3, e4, hrow, by rw [over_size _ _ _ (by omega)]; exact e6, ?_⟩
        intro k u hk
        have hk48 : k < 48 := by have := (List.getElem?_eq_some_iff.1 hk).1; omega
        rw [over_get _ _ _ (by omega), if_neg (by omega)]
        exact e7 k u hk
      · exact ⟨c, cur', e1, e2, e3, e4, by rw [setRow_other W g g' _ hgg]; exact e5, e6, e7⟩

/-- Nothing is written over. -/
theorem putS_none {ss : List (List UInt8)} {i : Nat} (h : ss[i]? = some []) (x : List UInt8) : Dk.putS ss i x = ss := by
  refine List.ext_getElem? fun j => ?_
  rw [Dk.putS_get]
  split
  · rename_i e
    subst e
    rw [h]
    rfl
  · rfl

theorem KpN.row {W : World} {g : Nat} {cur cs : Array Value} (hg : W.heap[g]? = some (.cells cur 5 (0, 0))) : KpN W (W.setRow g cs) :=
  ⟨by simp [World.setRow], fun j o hj hn => (setRow_other W g j cs (by rintro rfl; rw [hg] at hj; cases hj; exact hn _ _ rfl)).trans hj⟩

theorem wpListIn_copy_nothing {F : Fence} {n : Nat} {P : Program} {w : World} {ops : Array Oper} {rest : List Oper} {o : Oper} {a : Act} {Q : Exit → Act → World → Prop} (hgd : o.guard = none) (d s : Operand) (dT sT : TypeId)
    (ho : o.op = .call { callee := .builtin .copy, args := #[d, s], argTypes := #[dT, sT] }) (elem : TypeId) (hu : P.underlying dT = some (.slice elem)) (hsz : (P.info? elem).map (·.size) = some 1)
    (dp sp : Option Addr) (dLen dCap sLen sCap : Nat) (hd : a.eval d = .slice dp dLen dCap) (hs : a.eval s = .slice sp sLen sCap) (hn : Nat.min sLen dLen = 0)
    (h : wpListIn F n P ops Q rest (a.put o.dst (goInt 0)) w) : wpListIn F n P ops Q (o :: rest) a w := by
  refine wpListIn_plain hgd fun K hK => ?_
  have hrun := run_copy_none (P := P) w dT sT o.type elem dp sp dLen dCap sLen sCap hu hsz hn
  unfold Oper.wpIn
  refine ⟨?_, ?_⟩
  · simp [Oper.about, ho, resolve, Target.leads, Sem.run_pure]
  · rw [Oper.semAt_plain F _ _ (by rw [ho]; intro c hc'; cases hc')]
    simp [execOp, ho, resolve, invoke, builtin, hd, hs, hrun, Result.andThen]
    exact hK _ _ h

theorem wpListIn_copy_own {F : Fence} {n : Nat} {P : Program} {w : World} {ops : Array Oper} {rest : List Oper} {o : Oper} {a : Act} {Q : Exit → Act → World → Prop} (hgd : o.guard = none) (d s : Operand) (dT sT : TypeId)
    (ho : o.op = .call { callee := .builtin .copy, args := #[d, s], argTypes := #[dT, sT] }) (elem : TypeId) (hu : P.underlying dT = some (.slice elem)) (hsz : (P.info? elem).map (·.size) = some 1)
    (g off dLen dCap : Nat) (ad : Addr) (sLen sCap : Nat) (hd : a.eval d = .slice (some ⟨g, off, none⟩) dLen dCap) (hs : a.eval s = .slice (some ad) sLen sCap)
    (cur : Array Value) (t : TypeId) (hg : w.heap[g]? = some (.cells cur t (0, 0))) (cs : List Value) (hn : cs.length = Nat.min sLen dLen)
    (hsrc : ∀ j v, cs[j]? = some v → w.cell? (ad.add j) = some v) (hfit : off + cs.length ≤ cur.size) (h1 : ∀ v ∈ cs, v.oneCell' = true)
    (h : ∀ w', Hid (w' = w.setRow g (cur.toList.take off ++ (cs ++ cur.toList.drop (off + cs.length))).toArray) → wpListIn F n P ops Q rest (a.put o.dst (goInt cs.length)) w') : wpListIn F n P ops Q (o :: rest) a w := by
  refine wpListIn_plain hgd fun K hK => ?_
  have hrun := run_copy_row (P := P) w dT sT o.type elem g off dLen dCap ad sLen sCap cur t cs hu hsz hg hn hsrc hfit h1
  unfold Oper.wpIn
  refine ⟨?_, ?_⟩
  · simp [Oper.about, ho, resolve, Target.leads, Sem.run_pure]
  · rw [Oper.semAt_plain F _ _ (by rw [ho]; intro c hc'; cases hc')]
    simp [execOp, ho, resolve, invoke, builtin, hd, hs, hrun, Result.andThen]
    exact hK _ _ (h _ rfl)

/-- The marks that loops over functions leave. -/
structure Marks (B : Nat) (W : World) (ds : List Deferred) (Ds : List Nat) : Prop where
  same : ds = Ds.map fun D => { target := .collected D, args := #[] }
  nodup : Ds.Nodup
  there : ∀ D ∈ Ds, B ≤ D ∧ W.heap[D]? = some (.deferred (some []))

theorem Marks.keep {B : Nat} {W W' : World} {ds : List Deferred} {Ds : List Nat} (h : Marks B W ds Ds) (k : KpN W W') : Marks B W' ds Ds :=
  ⟨h.same, h.nodup, fun D hD => ⟨(h.there D hD).1, k.2 _ _ (h.there D hD).2 (by intro cs r e; cases e)⟩⟩

/-- All but what lies behind B's marks stays. -/
def KpD (B : Nat) (W W' : World) : Prop := W'.heap.size = W.heap.size ∧ W'.os = W.os ∧ W'.tape = W.tape ∧ W'.output = W.output ∧ KpC W W' ∧ ∀ j, j < B → W'.heap[j]? = W.heap[j]?

theorem leaves_marks {n : Nat} {fn : Func} {tmps : Array Value} {R : Ending → World → Prop} (B : Nat) (hres : ∀ W, (results fn tmps).run Try.prog W = .ok (.tuple #[]) W) : ∀ (Ds : List Nat) (ds : List Deferred) (W : World), Marks B W ds Ds →
    (∀ W', KpD B W W' → R (.returned (.tuple #[])) W') → LeavesInM Fence.wide n Try.prog fn tmps R ds .returning W := by
  intro Ds
  induction Ds with
  | nil =>
    intro ds W hM hR
    have := hM.same
    subst this
    exact ⟨_, hres W, hR W ⟨rfl, rfl, rfl, rfl, KpC.refl _, fun _ _ => rfl⟩⟩
  | cons D Ds ih =>
    intro ds W hM hR
    have hs := hM.same
    subst hs
    have hD := hM.there D List.mem_cons_self
    have hnd := List.nodup_cons.1 hM.nodup
    refine ⟨by simp, .inl ⟨D, _, rfl, run_takeDeferred hD.2, ?_⟩⟩
    refine ih _ _ ⟨rfl, hnd.2, fun D' hD' => ?_⟩ ?_
    · have h1 := hM.there D' (List.mem_cons_of_mem _ hD')
      exact ⟨h1.1, (World.putObj_heap_other (by rintro rfl; exact hnd.1 hD')).trans h1.2⟩
    · intro W' hk
      refine hR W' ⟨hk.1.trans (by simp [World.putObj]), hk.2.1, hk.2.2.1, hk.2.2.2.1, (KpC.put _ hD.2 rfl).trans hk.2.2.2.2.1, fun j hj => (hk.2.2.2.2.2 j hj).trans (World.putObj_heap_other (by omega))⟩
end Go.Proofs.Ytokebdeaahdcjab
