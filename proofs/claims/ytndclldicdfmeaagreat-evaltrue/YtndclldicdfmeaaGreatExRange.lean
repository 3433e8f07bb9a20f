/-
  A loop over an expression's parts, by an invariant of one's own; its body may panic.
-/
import Derived.Test.YtndclldicdfmeaaGreatExHand
namespace Go.Proofs.YtndclldicdfmeaaGreat.Xp
open Go.ChangeShapes Go.WideShapes Go.ChangeAt Go.RowKit Go.Deep

/-- Cells stay, and all blocks ahead of B. -/
structure StayX (B : Nat) (W W' : World) : Prop where
  os : W'.os = W.os
  tape : W'.tape = W.tape
  output : W'.output = W.output
  size : W.heap.size ≤ W'.heap.size
  kp : ∀ (j : Nat) (cs : Array Value) (t : TypeId) (r : Nat × Nat), W.heap[j]? = some (Obj.cells cs t r) → W'.heap[j]? = some (Obj.cells cs t r)
  old : ∀ j, j < B → W'.heap[j]? = W.heap[j]?

theorem StayX.of_below {B : Nat} {W W' : World} (h : Below W.heap.size W W') (hB : B ≤ W.heap.size) : StayX B W W' := ⟨h.os, h.tape, h.output, h.size, fun j _ _ _ hj => (h.block j (lt_of_block hj)).trans hj, fun j hj => h.block j (by omega)⟩
theorem StayX.put {B : Nat} {W : World} {g : Nat} {o : Obj} (o' : Obj) (h : W.heap[g]? = some o) (ho : o.isCells = false) (hg : B ≤ g) : StayX B W (W.putObj g o') :=
  ⟨rfl, rfl, rfl, by simp [World.putObj], fun j cs t r hj => (World.putObj_heap_other (by rintro rfl; rw [h] at hj; simp only [Option.some.injEq] at hj; subst hj; simp [Obj.isCells] at ho)).trans hj, fun _ hj => World.putObj_heap_other (by omega)⟩
theorem StayX.less {B B' : Nat} {W W' : World} (h : StayX B' W W') (hB : B ≤ B') : StayX B W W' := ⟨h.os, h.tape, h.output, h.size, h.kp, fun j hj => h.old j (by omega)⟩

/-- All but records of loops. -/
def nl (fr : Obj → Bool) (o : Obj) : Bool := fr o && !(match o with | .loop _ => true | _ => false)
theorem KpX.nl {fr : Obj → Bool} {W W' : World} (h : KpX fr W W') : KpX (nl fr) W W' := fun j o hf hj => h j o (by unfold Go.Proofs.YtndclldicdfmeaaGreat.Xp.nl at hf; simp at hf; exact hf.1) hj
theorem KpX.putLoop {fr : Obj → Bool} {W : World} {l : Nat} {r : Loop} (o : Obj) (h : W.heap[l]? = some (.loop r)) : KpX (Go.Proofs.YtndclldicdfmeaaGreat.Xp.nl fr) W (W.putObj l o) := fun j u hu hj => by
  by_cases e : j = l
  · subst e
    rw [h] at hj
    cases hj
    unfold Go.Proofs.YtndclldicdfmeaaGreat.Xp.nl at hu
    simp at hu
  · rw [World.putObj_heap_other e]
    exact hj

/-- How a round ends. -/
def bodyEndX {S : Type} (fr : Obj → Bool) (I : S → World → Prop) (EI : World → Prop) (r : Except Int S) (W : World) : Exit → Act → World → Prop
  | .normal, _, W' => KpX fr W W' ∧ W.heap.size ≤ W'.heap.size ∧ ∃ s', r = .ok s' ∧ I s' W'
  | .panic ch, a, W' => a.defers = [] ∧ KpX fr W W' ∧ W.heap.size ≤ W'.heap.size ∧ ∃ er, r = .error er ∧ ch = [{ v := .iface 38 (.int .i64 er), recovered := false }] ∧ EI W'
  | _, _, _ => False

theorem range_hand {S : Type} {fr : Obj → Bool} (hfe : ∀ cs, fr (.cells cs 34 (0, 0)) = true) (hfl : ∀ r, fr (.loop r) = true) (hfd : ∀ d, fr (.deferred d) = true)
    {go : Operand} {ps : Array Tmp} {assign body : Code} {Q : Exit → Act → World → Prop} {a : Act} {w : World} {f0 : FuncId} {fn0 : Func} (hf0 : Tryz.prog.funcs[f0]? = some fn0) (hps : ps.size = 2) (Pt : Nat)
    (hg : a.eval go = .func (.func 102) #[] #[.pointer (some ⟨Pt, 0, none⟩)])
    (w0 : World) (n : Nat) (v : X n) (k b : Int) (t : ByteArray) (ia : Option Addr) (il ic : Nat) (hlay : LayX w0 n (mkX k b t ia il ic) v)
    (hp : w.heap[Pt]? = some (.cells #[.int .i64 k, .int .u64 b, .string t, .slice ia il ic] 34 (0, 0)))
    (st : Int → Nd4 → S → Except Int S) (ce : Bool) (hdeep : ∀ d p s s', st d p s = .ok s' → d ≤ 1000) (I : S → World → Prop) (EI : World → Prop) (s : S) (D : Nat) (hD : D ≤ w.heap.size) (stI : ∀ s W W', I s W → StayX D W W' → I s W') (hw0 : ∀ s W, I s W → Below w0.heap.size w0 W) (h0 : I s w)
    (hce : ce = false → ∃ s', pre st n v 1 s = .ok s') (a1 : Int → Int → Int → ByteArray → Option Addr → Nat → Nat → Nat → Act)
    (hassign : ∀ (rl : Nat) (d k b : Int) (t : ByteArray) (ia : Option Addr) (il ic : Nat) (W : World) (K : Act → World → Prop), K (a1 d k b t ia il ic W.heap.size) (W.alloc (.cells #[.int .i64 k, .int .u64 b, .string t, .slice ia il ic] 34)) →
      assign.wpIn (Fence.wide.inRound rl) 5 Tryz.prog (Exit.then K (fun _ _ _ => False)) { tmps := (ps.zip #[.int .i64 d, mkX k b t ia il ic]).foldl (fun t (p, v) => t.setIfInBounds p v) a.tmps, defers := [] } W)
    (hbody : ∀ (rl : Nat) (s : S) (d : Int) (n : Nat) (k b : Int) (t : ByteArray) (its : List (X n)) (ia : Option Addr) (ic q : Nat) (W : World), I s W → KpX fr w W → w.heap.size ≤ W.heap.size → LayX w0 (n + 1) (mkX k b t ia its.length ic) (k, b, t, its) →
      W.heap[q]? = some (.cells #[.int .i64 k, .int .u64 b, .string t, .slice ia its.length ic] 34 (0, 0)) → w.heap.size ≤ q → (ce = false → ∃ s', st d (k, b, t, its.length) s = .ok s') →
      body.wpIn (Fence.wide.inRound rl) 5 Tryz.prog (bodyEndX fr I EI (st d (k, b, t, its.length) s) W) (a1 d k b t ia its.length ic q) W)
    (hdone : ∀ W s', pre st n v 1 s = .ok s' → I s' W → W.heap[w.heap.size]? = some (.deferred (some [])) → KpX fr w W → w.heap.size + 2 ≤ W.heap.size → Q .normal { a with defers := { target := .collected w.heap.size, args := #[] } :: a.defers } W)
    (hpan : ∀ W er, pre st n v 1 s = .error er → EI W → W.heap[w.heap.size]? = some (.deferred (some [])) → KpX (nl fr) w W → w.heap.size + 2 ≤ W.heap.size → Q (.panic [{ v := .iface 38 (.int .i64 er), recovered := false }]) { a with defers := { target := .collected w.heap.size, args := #[] } :: a.defers } W) :
    wpAt f0 Tryz.prog (Code.rangeFunc go ps assign body) Q a w := by
  refine wpAt_range (n := 9) hg (enters_of Tryz.func102 (by kernel_rfl) rfl) ?_
  obtain ⟨rec, hrec⟩ : ∃ rec : LoopState → Option Code → Loop, rec = fun st pe => { state := st, pending := pe, fn := f0, tmps := a.tmps, params := ps, assign := assign, body := body, defers := w.heap.size } := ⟨_, rfl⟩
  have e0 : ({ state := .ready, pending := none, fn := f0, tmps := a.tmps, params := ps, assign := assign, body := body, defers := w.heap.size } : Loop) = rec .ready none := by rw [hrec]
  rw [e0]
  have hB := nxt (below_one w (.deferred (some []))) (below_one _ (.loop (rec .ready none)))
  have hL1 : ((w.alloc (.deferred (some []))).alloc (.loop (rec .ready none))).heap[w.heap.size + 1]? = some (.loop (rec .ready none)) := heap_new2 _ _ _
  have hK1 : ((w.alloc (.deferred (some []))).alloc (.loop (rec .ready none))).heap[w.heap.size]? = some (.deferred (some [])) := (Below.heap_alloc _ _ _ (by simp)).trans (heap_alloc_new _ _)
  have hI1 : I s ((w.alloc (.deferred (some []))).alloc (.loop (rec .ready none))) := stI _ _ _ h0 (StayX.of_below hB hD)
  have hp1 := (hB.block _ (lt_of_block hp)).trans hp
  have hsz1 : ((w.alloc (.deferred (some []))).alloc (.loop (rec .ready none))).heap.size = w.heap.size + 2 := by simp
  have hkw : KpX fr w ((w.alloc (.deferred (some []))).alloc (.loop (rec .ready none))) := KpX.of_below hB
  generalize (w.alloc (.deferred (some []))).alloc (.loop (rec .ready none)) = W1 at *
  have HH : Hands fr w0 (w.heap.size + 1) st ce (fun s W => I s W ∧ KpX fr W1 W ∧ W1.heap.size ≤ W.heap.size) (fun W => EI W ∧ KpX (nl fr) W1 W ∧ W1.heap.size ≤ W.heap.size) := by
    refine ⟨?_, fun s W h => hw0 _ _ h.1, hdeep, ?_⟩
    · exact fun s W W' h hb => ⟨stI _ _ _ h.1 (StayX.of_below hb (by have := h.2.2; omega)), h.2.1.trans (KpX.of_below hb), Nat.le_trans h.2.2 hb.size⟩
    · rintro s d n k b t its y W ⟨hI, hk, hsz⟩ hly hc m
      have hl : W.heap[w.heap.size + 1]? = some (.loop (rec .ready none)) := hk _ _ (hfl _) hL1
      have hly0 := hly
      obtain ⟨ia, ic, rfl, -⟩ := hly
      have hy := run_yield (P := Tryz.prog) (args := #[.int .i64 d, mkX k b t ia its.length ic]) hl (by rw [hrec]; exact hps.symm)
      rw [hrec] at hy
      refine YieldAt.any (d := 5) ⟨f0, _, assign, body, hy, roundIn_of_wpInX trivial hf0 (hassign _ d k b t ia its.length ic W _ ?_)⟩
      have hBa := below_one W (.cells #[.int .i64 k, .int .u64 b, .string t, .slice ia its.length ic] 34)
      have hqa := heap_alloc_new W (.cells #[.int .i64 k, .int .u64 b, .string t, .slice ia its.length ic] 34)
      have hla := (hBa.block _ (lt_of_block hl)).trans hl
      have hIa := stI _ _ _ hI (StayX.of_below hBa (by omega))
      have hka : KpX fr W _ := KpX.of_below hBa
      have hsa := hBa.size
      generalize hWa : W.alloc (.cells #[.int .i64 k, .int .u64 b, .string t, .slice ia its.length ic] 34) = Wa at *
      refine ⟨_, run_beginRound hla (by rw [hrec]), ?_⟩
      have hlt := lt_of_block hla
      have hl2 : (Wa.putObj (w.heap.size + 1) (.loop { rec .ready none with state := .busy })).heap[w.heap.size + 1]? = some (.loop { rec .ready none with state := .busy }) := World.putObj_heap_same hlt
      have hI2 := stI _ _ _ hIa (StayX.put (.loop { rec .ready none with state := .busy }) hla rfl (by omega))
      have hkw2 : KpX fr w (Wa.putObj (w.heap.size + 1) (.loop { rec .ready none with state := .busy })) := ((hkw.trans hk).trans hka).putNew (by omega)
      have hsz2 : (Wa.putObj (w.heap.size + 1) (.loop { rec .ready none with state := .busy })).heap.size = Wa.heap.size := by simp [World.putObj]
      have hq2 : (Wa.putObj (w.heap.size + 1) (.loop { rec .ready none with state := .busy })).heap[W.heap.size]? = _ := (World.putObj_heap_other (by have := lt_of_block hl; omega)).trans hqa
      have hnl : KpX (nl fr) Wa (Wa.putObj (w.heap.size + 1) (.loop { rec .ready none with state := .busy })) := KpX.putLoop _ hla
      have hrnd : ∀ W3, KpX fr (Wa.putObj (w.heap.size + 1) (.loop { rec .ready none with state := .busy })) W3 → KpX fr Wa (W3.putObj (w.heap.size + 1) (.loop (rec .ready none))) := fun W3 h => KpX.round hla (hfl _) h
      generalize Wa.putObj (w.heap.size + 1) (.loop { rec .ready none with state := .busy }) = W2 at *
      refine wpIn_mono (hbody (w.heap.size + 1) s d n k b t its ia ic W.heap.size W2 hI2 hkw2 (by omega) hly0 hq2 (by omega) hc) ?_
      rintro e a3 W3 hpo
      cases e with
      | normal =>
        obtain ⟨hk3, hs3, s', hs', hi3⟩ := hpo
        have hl3 := hk3 _ _ (hfl _) hl2
        have hrun := run_endRound (P := Tryz.prog) none hl3
        have hkf := hrnd W3 hk3
        have hif := stI _ _ _ hi3 (StayX.put (.loop (rec .ready none)) hl3 rfl (by omega))
        have hsf : W1.heap.size ≤ (W3.putObj (w.heap.size + 1) (.loop (rec .ready none))).heap.size ∧ W.heap.size ≤ (W3.putObj (w.heap.size + 1) (.loop (rec .ready none))).heap.size := by simp [World.putObj]; omega
        refine ⟨_, _, ?_, Or.inl ⟨s', hs', rfl, hka.trans hkf, hsf.2, hif, (hk.trans hka).trans hkf, hsf.1⟩⟩
        rw [hrec] at hrun ⊢
        exact hrun
      | panic ch =>
        obtain ⟨hd3, hk3, hs3, er, hs', rfl, hi3⟩ := hpo
        exact ⟨hd3, Or.inr ⟨er, hs', rfl, hi3, ((hk.trans hka).nl.trans hnl).trans hk3.nl, by omega⟩⟩
      | exit id => exact hpo.elim
      | ret => exact hpo.elim
      | goto t => exact hpo.elim
      | outgrown => exact hpo.elim
  refine (parts_any hfe HH n v k b t ia il ic s W1 Pt hp1 hlay ⟨hI1, KpX.refl _ _, Nat.le_refl _⟩ hce).mono ?_
  rintro e W2 (⟨s', hs', rfl, -, -, hi, hk, hsz⟩ | ⟨er, hs', rfl, hi, hk, hsz⟩)
  · have hl : W2.heap[w.heap.size + 1]? = some (.loop (rec .ready none)) := hk _ _ (hfl _) hL1
    refine ⟨none, _, by have := run_endLoop (P := Tryz.prog) hl (by rw [hrec]; simp); rw [hrec] at this; exact this, ?_⟩
    exact hdone _ _ hs' (stI _ _ _ hi (StayX.put _ hl rfl (by omega))) ((World.putObj_heap_other (by omega)).trans (hk _ _ (hfd _) hK1)) ((hkw.trans hk).putNew (by omega)) (by simp [World.putObj]; omega)
  · exact hpan _ _ hs' hi (hk _ _ (by unfold nl; simp [hfd]) hK1) (hkw.nl.trans hk) (by omega)

end Go.Proofs.YtndclldicdfmeaaGreat.Xp
