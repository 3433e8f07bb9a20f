/-
  A loop over the function that hands numbers out: what stays; one loop by an invariant of one's own.
-/
import Derived.Test.YteceljjmandnmaaLiIter
namespace Go.Proofs.Yteceljjmandnmaa
open Go.ChangeShapes Go.WideShapes Go.ChangeAt Go.RowKit Go.Deep

/-- Cells stay. -/
def KpC (W W' : World) : Prop := W.heap.size ≤ W'.heap.size ∧ ∀ (j : Nat) (cs : Array Value) (t : TypeId) (r : Nat × Nat), W.heap[j]? = some (Obj.cells cs t r) → W'.heap[j]? = some (Obj.cells cs t r)
theorem KpC.refl (W : World) : KpC W W := ⟨Nat.le_refl _, fun _ _ _ _ h => h⟩
theorem KpC.trans {A B C : World} (h : KpC A B) (k : KpC B C) : KpC A C := ⟨Nat.le_trans h.1 k.1, fun j cs t r hj => k.2 j cs t r (h.2 j cs t r hj)⟩
theorem KpC.below {A B : World} (h : Below A.heap.size A B) : KpC A B := ⟨h.size, fun j _ _ _ hj => (h.block j (lt_of_block hj)).trans hj⟩
theorem KpC.put {A : World} {g : Nat} {o : Obj} (o' : Obj) (h : A.heap[g]? = some o) (ho : o.isCells = false) : KpC A (A.putObj g o') :=
  ⟨by simp [World.putObj], fun j cs t r hj => (World.putObj_heap_other (by rintro rfl; rw [h] at hj; simp only [Option.some.injEq] at hj; subst hj; simp [Obj.isCells] at ho)).trans hj⟩

/-- Cells stay, and all blocks ahead of B. -/
structure Stay (B : Nat) (W W' : World) : Prop where
  os : W'.os = W.os
  tape : W'.tape = W.tape
  output : W'.output = W.output
  kp : KpC W W'
  old : ∀ j, j < B → W'.heap[j]? = W.heap[j]?

theorem Stay.refl (B : Nat) (W : World) : Stay B W W := ⟨rfl, rfl, rfl, KpC.refl _, fun _ _ => rfl⟩
theorem Stay.trans {B : Nat} {A C D : World} (h : Stay B A C) (k : Stay B C D) : Stay B A D :=
  ⟨k.os.trans h.os, k.tape.trans h.tape, k.output.trans h.output, h.kp.trans k.kp, fun j hj => (k.old j hj).trans (h.old j hj)⟩
theorem Stay.less {B B' : Nat} {W W' : World} (h : Stay B' W W') (hB : B ≤ B') : Stay B W W' := ⟨h.os, h.tape, h.output, h.kp, fun j hj => h.old j (by omega)⟩
theorem Stay.of_below {B : Nat} {W W' : World} (h : Below W.heap.size W W') (hB : B ≤ W.heap.size) : Stay B W W' := ⟨h.os, h.tape, h.output, KpC.below h, fun j hj => h.block j (by omega)⟩
theorem Stay.put {B : Nat} {W : World} {g : Nat} {o : Obj} (o' : Obj) (h : W.heap[g]? = some o) (ho : o.isCells = false) (hg : B ≤ g) : Stay B W (W.putObj g o') :=
  ⟨rfl, rfl, rfl, KpC.put o' h ho, fun _ hj => World.putObj_heap_other (by omega)⟩
theorem Stay.below {B : Nat} {W W' : World} (h : Stay B W W') : Below B W W' := ⟨h.os, h.tape, h.output, h.kp.1, h.old⟩
/-- A loop over a function is entered: the record is laid, the function is called. -/
theorem range_enter {P : Program} {g : Operand} {ps : Array Tmp} {assign body : Code} {Q : Exit → Act → World → Prop} {a : Act} {w : World} {n : Nat} (h1 : 1 ≤ n) {gf : Nat} {lb : Array Value} (hg : a.eval g = .func (.func gf) #[] lb)
    (eg : ∀ args w, (callFunc gf args).run P w = .ok (.enter gf args) w)
    (h : ∀ (fn : FuncId) (rec : Loop), rec = { state := .ready, pending := none, fn := fn, tmps := a.tmps, params := ps, assign := assign, body := body, defers := w.heap.size } →
      CallsIn Fence.wide (n - 1) P gf (#[.func (.yield (w.heap.size + 1)) #[] #[]] ++ lb) ((w.alloc (.deferred (some []))).alloc (.loop rec)) (rangePost Fence.wide n P (w.heap.size + 1) Q { a with defers := [{ target := .collected w.heap.size, args := #[] }] ++ a.defers })) :
    (Code.rangeFunc g ps assign body).wpIn Fence.wide n P Q a w := by
  refine wpIn_rangeFunc ?_
  intro fn _
  have he := run_enterLoop_outer (P := P) (w := w) fn a.tmps ps assign body
  have hc := h fn _ rfl
  generalize (w.alloc (.deferred (some []))).alloc (.loop { state := .ready, pending := none, fn := fn, tmps := a.tmps, params := ps, assign := assign, body := body, defers := w.heap.size }) = W1 at he hc
  refine ⟨w.heap.size + 1, [{ target := .collected w.heap.size, args := #[] }], W1, { target := .fn (.func gf) lb, args := #[.func (.yield (w.heap.size + 1)) #[] #[]] }, W1, gf, #[.func (.yield (w.heap.size + 1)) #[] #[]] ++ lb, W1, ?_, ?_, ?_, ?_, ?_, ?_⟩
  · exact he
  · simp only [resolve, hg]
    simp [go_sem]
  · intro _ _
    trivial
  · simp [invoke, go_sem, eg]
  · intro _
    exact h1
  · exact hc

/-- What is no cells stays, from B on. -/
def KpO (B : Nat) (W W' : World) : Prop := W.heap.size ≤ W'.heap.size ∧ ∀ (j : Nat) (o : Obj), B ≤ j → W.heap[j]? = some o → o.isCells = false → W'.heap[j]? = some o

/-- How a round ends. -/
def bodyEnd (B : Nat) (I : World → Prop) (W : World) : Exit → Act → World → Prop
  | .normal, _, W' => KpO B W W' ∧ I W'
  | _, _, _ => False

theorem range_from {g : Operand} {ps : Array Tmp} {assign body : Code} {Q : Exit → Act → World → Prop} {a : Act} {w : World} {n : Nat} (h2 : 2 ≤ n) (hps : ps.size = 2) (P c : Nat) (ks : List Int) (hk : ks.length ≤ 1000) (sa : Option Addr)
    (hg : a.eval g = .func (.func 25) #[] #[.pointer (some ⟨P, 0, none⟩)])
    (I : Nat → World → Prop) (stI : ∀ i W W', I i W → Stay w.heap.size W W' → I i W') (hR : ∀ W i, I i W → W.cell? ⟨P, 0, none⟩ = some (.slice sa ks.length c) ∧ LayI W sa ks) (h0 : I ks.length w) (a1 : Nat → Int → Nat → Act)
    (hassign : ∀ (l p : Nat) (x : Int) (W : World) (K : Act → World → Prop), K (a1 p x W.heap.size) (W.alloc (.cells #[.int .i64 x] 3)) →
      assign.wpIn (Fence.wide.inRound l) (n - 1 - 1) Try.prog (Exit.then K (fun _ _ _ => False)) { tmps := (ps.zip #[.int .i64 (p : Int), .int .i64 x]).foldl (fun t (p, v) => t.setIfInBounds p v) a.tmps, defers := [] } W)
    (hbody : ∀ (l p : Nat) (hp : p < ks.length) (W1 W : World), I (p + 1) W1 → w.heap.size ≤ W1.heap.size → Stay w.heap.size (W1.alloc (.cells #[.int .i64 ks[p]] 3)) W → body.wpIn (Fence.wide.inRound l) (n - 1 - 1) Try.prog (bodyEnd w.heap.size (I p) W) (a1 p ks[p] W1.heap.size) W)
    (hdone : ∀ W, I 0 W → W.heap[w.heap.size]? = some (.deferred (some [])) → w.heap.size + 2 ≤ W.heap.size → Q .normal { a with defers := { target := .collected w.heap.size, args := #[] } :: a.defers } W) :
    (Code.rangeFunc g ps assign body).wpIn Fence.wide n Try.prog Q a w := by
  refine range_enter (by omega) hg (enters_of Try.func25 (by kernel_rfl) rfl) ?_
  intro fn rec0 hrec0
  obtain ⟨rec, hrec⟩ : ∃ rec : LoopState → Option Code → Loop, rec = fun st pe => { state := st, pending := pe, fn := fn, tmps := a.tmps, params := ps, assign := assign, body := body, defers := w.heap.size } := ⟨_, rfl⟩
  have e0 : rec0 = rec .ready none := by rw [hrec0, hrec]
  subst e0
  clear hrec0
  have hB := nxt (below_one w (.deferred (some []))) (below_one _ (.loop (rec .ready none)))
  have hL1 : ((w.alloc (.deferred (some []))).alloc (.loop (rec .ready none))).heap[w.heap.size + 1]? = some (.loop (rec .ready none)) := heap_new2 _ _ _
  have hK1 : ((w.alloc (.deferred (some []))).alloc (.loop (rec .ready none))).heap[w.heap.size]? = some (.deferred (some [])) := (Below.heap_alloc _ _ _ (by simp)).trans (heap_alloc_new _ _)
  have hI1 : I ks.length ((w.alloc (.deferred (some []))).alloc (.loop (rec .ready none))) := stI _ _ _ h0 (Stay.of_below hB (Nat.le_refl _))
  generalize (w.alloc (.deferred (some []))).alloc (.loop (rec .ready none)) = W1 at *
  refine (from_iter (n - 1) (by omega) (w.heap.size + 1) P c ks hk sa
    (fun W i => I i W ∧ W.heap[w.heap.size + 1]? = some (.loop (rec .ready none)) ∧ W.heap[w.heap.size]? = some (.deferred (some [])))
    (fun W i h => hR W i h.1) ?_ W1 ⟨hI1, hL1, hK1⟩).mono ?_
  · rintro W0 p hp ⟨hII, hl0, hk0⟩
    have hlt0 : w.heap.size + 1 < W0.heap.size := lt_of_block hl0
    have hy := run_yield (P := Try.prog) (args := #[.int .i64 (p : Int), .int .i64 ks[p]]) hl0 (by rw [hrec]; exact hps.symm)
    rw [hrec] at hy
    have hba := below_one W0 (.cells #[.int .i64 ks[p]] 3)
    have hl : (W0.alloc (.cells #[.int .i64 ks[p]] 3)).heap[w.heap.size + 1]? = some (.loop (rec .ready none)) := (hba.block _ hlt0).trans hl0
    have hk : (W0.alloc (.cells #[.int .i64 ks[p]] 3)).heap[w.heap.size]? = some (.deferred (some [])) := (hba.block _ (by omega)).trans hk0
    have hlt : w.heap.size + 1 < (W0.alloc (.cells #[.int .i64 ks[p]] 3)).heap.size := lt_of_block hl
    refine ⟨fn, _, assign, body, hy, roundIn_of_wpIn trivial (hassign _ p ks[p] W0 _ ⟨_, run_beginRound hl (by rw [hrec]), ?_⟩)⟩
    obtain ⟨W, hW⟩ : ∃ W, W = W0.alloc (.cells #[.int .i64 ks[p]] 3) := ⟨_, rfl⟩
    rw [← hW] at hl hk hlt ⊢
    have hl2 : (W.putObj (w.heap.size + 1) (.loop { rec .ready none with state := .busy })).heap[w.heap.size + 1]? = some (.loop { rec .ready none with state := .busy }) := World.putObj_heap_same hlt
    have hk2 : (W.putObj (w.heap.size + 1) (.loop { rec .ready none with state := .busy })).heap[w.heap.size]? = some (.deferred (some [])) := (World.putObj_heap_other (by omega)).trans hk
    have hst := Stay.put (B := w.heap.size) (.loop { rec .ready none with state := .busy }) hl rfl (by omega)
    generalize W.putObj (w.heap.size + 1) (.loop { rec .ready none with state := .busy }) = W2 at *
    refine wpIn_mono (hbody (w.heap.size + 1) p hp W0 W2 hII (by omega) (by rw [← hW]; exact hst)) ?_
    rintro e a3 W3 hpp
    cases e with
    | normal =>
      obtain ⟨hk3, hi3⟩ := hpp
      have hl3 := hk3.2 _ _ (by omega) hl2 rfl
      have hrun := run_endRound (P := Try.prog) none hl3
      refine ⟨_, _, ?_, rfl, stI _ _ _ hi3 (Stay.put (.loop (rec .ready none)) hl3 rfl (by omega)), World.putObj_heap_same (lt_of_block hl3), (World.putObj_heap_other (by omega)).trans (hk3.2 _ _ (Nat.le_refl _) hk2 rfl)⟩
      rw [hrec] at hrun ⊢
      exact hrun
    | exit id => exact hpp.elim
    | ret => exact hpp.elim
    | goto t => exact hpp.elim
    | panic ch => exact hpp.elim
    | outgrown => exact hpp.elim
  · rintro e W2 ⟨⟨v, rfl⟩, hi, hl, hk⟩
    refine ⟨none, _, by have := run_endLoop (P := Try.prog) hl (by rw [hrec]; simp); rw [hrec] at this; exact this, ?_⟩
    have hlt := lt_of_block hl
    exact hdone _ (stI _ _ _ hi (Stay.put _ hl rfl (by omega))) ((World.putObj_heap_other (by omega)).trans hk) (by simp [World.putObj]; omega)
end Go.Proofs.Yteceljjmandnmaa
