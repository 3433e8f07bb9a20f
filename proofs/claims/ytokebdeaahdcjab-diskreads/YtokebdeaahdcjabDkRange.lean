/-
  A loop over the function that hands sectors out.
-/
import Derived.Test.YtokebdeaahdcjabDkIter
namespace Go.Proofs.Ytokebdeaahdcjab
open Go.ChangeShapes Go.WideShapes Go.ChangeAt Go.RowKit Go.Deep
open Dk (Wr St)

/-- Cells stay, and all blocks ahead of B. -/
structure Stay (B : Nat) (W W' : World) : Prop where
  os : W'.os = W.os
  tape : W'.tape = W.tape
  output : W'.output = W.output
  kp : KpC W W'
  old : ∀ j, j < B → W'.heap[j]? = W.heap[j]?

theorem Stay.trans {B : Nat} {A C D : World} (h : Stay B A C) (k : Stay B C D) : Stay B A D :=
  ⟨k.os.trans h.os, k.tape.trans h.tape, k.output.trans h.output, h.kp.trans k.kp, fun j hj => (k.old j hj).trans (h.old j hj)⟩
theorem Stay.drewN (B : Nat) (W : World) (q : Nat) : Stay B W (W.drewN q) := ⟨rfl, rfl, rfl, KpC.below (Below_drewN _ _ _), fun _ _ => rfl⟩
theorem Stay.of_below {B : Nat} {W W' : World} (h : Below W.heap.size W W') (hB : B ≤ W.heap.size) : Stay B W W' := ⟨h.os, h.tape, h.output, KpC.below h, fun j hj => h.block j (by omega)⟩
theorem Stay.put {B : Nat} {W : World} {g : Nat} {o : Obj} (o' : Obj) (h : W.heap[g]? = some o) (ho : o.isCells = false) (hg : B ≤ g) : Stay B W (W.putObj g o') :=
  ⟨rfl, rfl, rfl, KpC.put o' h ho, fun _ hj => World.putObj_heap_other (by omega)⟩
theorem Below.stay {M B : Nat} {w0 W W' : World} (h : Below M w0 W) (k : Stay B W W') (hM : M ≤ B) : Below M w0 W' :=
  h.trans ⟨k.os, k.tape, k.output, k.kp.1, fun j hj => k.old j (by omega)⟩

/-- What is no cells stays, from B on. -/
def KpO (B : Nat) (W W' : World) : Prop := W.heap.size ≤ W'.heap.size ∧ ∀ (j : Nat) (o : Obj), B ≤ j → W.heap[j]? = some o → o.isCells = false → W'.heap[j]? = some o

/-- How a round may end. -/
def roundEnd (B : Nat) (I : World → Prop) (Ix : Nat → World → Prop) (W : World) : Exit → Act → World → Prop
  | .normal, _, W' => KpO B W W' ∧ I W'
  | .exit id, _, W' => KpO B W W' ∧ Ix id W'
  | _, _, _ => False

theorem range_cut {g : Operand} {ps : Array Tmp} {assign body : Code} {Q : Exit → Act → World → Prop} {a : Act} {w : World} {n : Nat} (h2 : 2 ≤ n) (hps : ps.size = 2) (P1 P2 : Nat)
    (hg : a.eval g = .func (.func 47) #[] #[.pointer (some ⟨P1, 0, none⟩), .pointer (some ⟨P2, 0, none⟩)])
    (first b off c k : Nat) (sa : Option Addr) (ha : 0 < k → sa = some ⟨b, off, none⟩) (hc : 48 * k ≤ c) (hf : first + k ≤ 1000000000)
    (hp1 : w.cell? ⟨P1, 0, none⟩ = some (.int .i64 (first : Nat))) (hp2 : w.cell? ⟨P2, 0, none⟩ = some (.slice sa (48 * k) c))
    (I : Nat → World → Prop) (Ix : Nat → World → Prop) (stI : ∀ i W W', I i W → Stay w.heap.size W W' → I i W') (stX : ∀ id W W', Ix id W → Stay w.heap.size W W' → Ix id W') (h0 : I 0 w) (a1 : Nat → Act)
    (hassign : ∀ (l i : Nat) (W : World) (K : Act → World → Prop), K (a1 i) W →
      assign.wpIn (Fence.wide.inRound l) (n - 1 - 1) Try.prog (Exit.then K (fun _ _ _ => False)) { tmps := (ps.zip #[.int .i64 ((first + i : Nat) : Int), .slice (some ⟨b, off + 48 * i, none⟩) 48 (c - 48 * i)]).foldl (fun t (p, v) => t.setIfInBounds p v) a.tmps, defers := [] } W)
    (hbody : ∀ (l i : Nat) (W : World), i < k → I i W → w.heap.size ≤ W.heap.size → body.wpIn (Fence.wide.inRound l) (n - 1 - 1) Try.prog (roundEnd w.heap.size (I (i + 1)) Ix W) (a1 i) W)
    (hdone : ∀ W, I k W → W.heap[w.heap.size]? = some (.deferred (some [])) → Q .normal { a with defers := { target := .collected w.heap.size, args := #[] } :: a.defers } W)
    (hstop : ∀ id W, Ix id W → W.heap[w.heap.size]? = some (.deferred (some [])) → Q (.exit id) { a with defers := { target := .collected w.heap.size, args := #[] } :: a.defers } W) :
    (Code.rangeFunc g ps assign body).wpIn Fence.wide n Try.prog Q a w := by
  refine range_enter (by omega) hg (enters_of Try.func47 (by kernel_rfl) rfl) ?_
  intro fn rec0 hrec0
  obtain ⟨rec, hrec⟩ : ∃ rec : LoopState → Option Code → Loop, rec = fun st pe => { state := st, pending := pe, fn := fn, tmps := a.tmps, params := ps, assign := assign, body := body, defers := w.heap.size } := ⟨_, rfl⟩
  have e0 : rec0 = rec .ready none := by rw [hrec0, hrec]
  subst e0
  clear hrec0
  have hB := nxt (below_one w (.deferred (some []))) (below_one _ (.loop (rec .ready none)))
  have hL1 : ((w.alloc (.deferred (some []))).alloc (.loop (rec .ready none))).heap[w.heap.size + 1]? = some (.loop (rec .ready none)) := heap_new2 _ _ _
  have hK1 : ((w.alloc (.deferred (some []))).alloc (.loop (rec .ready none))).heap[w.heap.size]? = some (.deferred (some [])) := (Below.heap_alloc _ _ _ (by simp)).trans (heap_alloc_new _ _)
  have hI1 : I 0 ((w.alloc (.deferred (some []))).alloc (.loop (rec .ready none))) := stI _ _ _ h0 (Stay.of_below hB (Nat.le_refl _))
  have q1 := keepc hB _ _ hp1
  have q2 := keepc hB _ _ hp2
  generalize (w.alloc (.deferred (some []))).alloc (.loop (rec .ready none)) = W1 at *
  refine (cut_iter (n - 1) (by omega) (w.heap.size + 1) first b off c k sa ha hc hf
    (fun W i => I i W ∧ W.heap[w.heap.size + 1]? = some (.loop (rec .ready none)) ∧ W.heap[w.heap.size]? = some (.deferred (some [])))
    (fun W => ∃ id, Ix id W ∧ W.heap[w.heap.size + 1]? = some (.loop (rec .done (some (.exit id)))) ∧ W.heap[w.heap.size]? = some (.deferred (some [])))
    (fun W i q h => ⟨stI _ _ _ h.1 (Stay.drewN _ _ _), h.2.1, h.2.2⟩) ?_ W1 P1 P2 q1 q2 ⟨hI1, hL1, hK1⟩).mono ?_
  · rintro W i hi ⟨hII, hl, hk⟩
    have hlt : w.heap.size + 1 < W.heap.size := lt_of_block hl
    have hy := run_yield (P := Try.prog) (args := #[.int .i64 ((first + i : Nat) : Int), .slice (some ⟨b, off + 48 * i, none⟩) 48 (c - 48 * i)]) hl (by rw [hrec]; exact hps.symm)
    rw [hrec] at hy
    refine ⟨fn, _, assign, body, hy, roundIn_of_wpIn trivial (hassign _ i W _ ⟨_, run_beginRound hl (by rw [hrec]), ?_⟩)⟩
    have hl2 : (W.putObj (w.heap.size + 1) (.loop { rec .ready none with state := .busy })).heap[w.heap.size + 1]? = some (.loop { rec .ready none with state := .busy }) := World.putObj_heap_same hlt
    have hk2 : (W.putObj (w.heap.size + 1) (.loop { rec .ready none with state := .busy })).heap[w.heap.size]? = some (.deferred (some [])) := (World.putObj_heap_other (by omega)).trans hk
    have hI2 := stI _ _ _ hII (Stay.put (.loop { rec .ready none with state := .busy }) hl rfl (by omega))
    have hsz2 : w.heap.size ≤ (W.putObj (w.heap.size + 1) (.loop { rec .ready none with state := .busy })).heap.size := by simp [World.putObj]; omega
    generalize W.putObj (w.heap.size + 1) (.loop { rec .ready none with state := .busy }) = W2 at *
    refine wpIn_mono (hbody (w.heap.size + 1) i W2 hi hI2 hsz2) ?_
    have fin : ∀ (jump : Option Code) (W3 : World), KpO w.heap.size W2 W3 →
        (Instr.endRound (w.heap.size + 1) jump).run Try.prog W3 = .ok (.bool jump.isNone) (W3.putObj (w.heap.size + 1) (.loop (rec (if jump.isNone then .ready else .done) jump))) ∧
        W3.heap[w.heap.size + 1]? = some (.loop { rec .ready none with state := .busy }) ∧
        (W3.putObj (w.heap.size + 1) (.loop (rec (if jump.isNone then .ready else .done) jump))).heap[w.heap.size + 1]? = some (.loop (rec (if jump.isNone then .ready else .done) jump)) ∧
        (W3.putObj (w.heap.size + 1) (.loop (rec (if jump.isNone then .ready else .done) jump))).heap[w.heap.size]? = some (.deferred (some [])) := fun jump W3 hk3 => by
      have hl3 := hk3.2 _ _ (by omega) hl2 rfl
      have := run_endRound (P := Try.prog) jump hl3
      rw [hrec] at this ⊢
      exact ⟨this, by rw [hrec] at hl3; exact hl3, World.putObj_heap_same (lt_of_block hl3), (World.putObj_heap_other (by omega)).trans (hk3.2 _ _ (Nat.le_refl _) hk2 rfl)⟩
    rintro e a3 W3 hp
    cases e with
    | normal =>
      obtain ⟨hk3, hi3⟩ := hp
      obtain ⟨hr, hl3, hl4, hk4⟩ := fin none W3 hk3
      exact ⟨_, _, hr, .inl ⟨rfl, stI _ _ _ hi3 (Stay.put _ hl3 rfl (by omega)), hl4, hk4⟩⟩
    | exit id =>
      obtain ⟨hk3, hi3⟩ := hp
      obtain ⟨hr, hl3, hl4, hk4⟩ := fin (some (.exit id)) W3 hk3
      exact ⟨_, _, hr, .inr ⟨rfl, id, stX _ _ _ hi3 (Stay.put _ hl3 rfl (by omega)), hl4, hk4⟩⟩
    | ret => exact hp.elim
    | goto t => exact hp.elim
    | panic ch => exact hp.elim
    | outgrown => exact hp.elim
  · rintro e W2 ⟨⟨v, rfl⟩, (⟨hi, hl, hk⟩ | ⟨id, hi, hl, hk⟩)⟩
    · refine ⟨none, _, by have := run_endLoop (P := Try.prog) hl (by rw [hrec]; simp); rw [hrec] at this; exact this, ?_⟩
      exact hdone _ (stI _ _ _ hi (Stay.put _ hl rfl (by omega))) ((World.putObj_heap_other (by omega)).trans hk)
    · refine ⟨some (.exit id), _, by have := run_endLoop (P := Try.prog) hl (by rw [hrec]; simp); rw [hrec] at this; exact this, ?_⟩
      exact wpIn_exit (hstop id _ (stX _ _ _ hi (Stay.put _ hl rfl (by omega))) ((World.putObj_heap_other (by omega)).trans hk))
end Go.Proofs.Ytokebdeaahdcjab
