/-
  A loop over a function that hands texts out: what stays, the marks, one loop by an invariant of one's own.
-/
import Derived.Test.YtoheppocolbjkaaTrPrint
import Derived.RangeFuncNested
import Derived.RangeFuncLeaves
import Derived.RangeFuncBox
import Derived.RangeFuncBound
import Derived.RangeFuncCalls
import Derived.OwnWalkIn
import Derived.TacticsInMore
import Derived.LoopNIn
import Derived.LoopIn
import Derived.Shelf.Abstract
namespace Go.Proofs.Ytoheppocolbjkaa
open Go.ChangeShapes Go.WideShapes Go.ChangeAt Go.RowKit Go.Deep

/-- All texts of a tree, one behind the other. -/
def txt : {n : Nat} → T n → List UInt8
  | 0, v => v.elim
  | _ + 1, (g, _, t, _, its) => if g.size = 0 then t.toList else cat txt its
theorem txt_node {n : Nat} (g k t : ByteArray) (ats : List Atr) (its : List (T n)) : txt (n := n + 1) (g, k, t, ats, its) = if g.size = 0 then t.toList else cat txt its := rfl

/-- Cells stay. -/
def KpC (W W' : World) : Prop := W.heap.size ≤ W'.heap.size ∧ ∀ (j : Nat) (cs : Array Value) (t : TypeId) (r : Nat × Nat), W.heap[j]? = some (Obj.cells cs t r) → W'.heap[j]? = some (Obj.cells cs t r)
theorem KpC.refl (W : World) : KpC W W := ⟨Nat.le_refl _, fun _ _ _ _ h => h⟩
theorem KpC.trans {A B C : World} (h : KpC A B) (k : KpC B C) : KpC A C := ⟨Nat.le_trans h.1 k.1, fun j cs t r hj => k.2 j cs t r (h.2 j cs t r hj)⟩
theorem KpC.below {A B : World} (h : Below A.heap.size A B) : KpC A B := ⟨h.size, fun j _ _ _ hj => (h.block j (lt_of_block hj)).trans hj⟩
theorem KpC.put {A : World} {g : Nat} {o : Obj} (o' : Obj) (h : A.heap[g]? = some o) (ho : o.isCells = false) : KpC A (A.putObj g o') :=
  ⟨by simp [World.putObj], fun j cs t r hj => (World.putObj_heap_other (by rintro rfl; rw [h] at hj; simp only [Option.some.injEq] at hj; subst hj; simp [Obj.isCells] at ho)).trans hj⟩

/-- Cells stay, and all blocks ahead of B. -/
structure Stay (B : Nat) (W W' : World) : Prop where
  os : W'.os = W.os
  tape : W'.tape = W.tape
  output : W'.output = W.output
  kp : KpC W W'
  old : ∀ j, j < B → W'.heap[j]? = W.heap[j]?

theorem Stay.refl (B : Nat) (W : World) : Stay B W W := ⟨rfl, rfl, rfl, KpC.refl _, fun _ _ => rfl⟩
theorem Stay.trans {B : Nat} {A C D : World} (h : Stay B A C) (k : Stay B C D) : Stay B A D :=
  ⟨k.os.trans h.os, k.tape.trans h.tape, k.output.trans h.output, h.kp.trans k.kp, fun j hj => (k.old j hj).trans (h.old j hj)⟩
theorem Stay.less {B B' : Nat} {W W' : World} (h : Stay B' W W') (hB : B ≤ B') : Stay B W W' := ⟨h.os, h.tape, h.output, h.kp, fun j hj => h.old j (by omega)⟩
theorem Stay.of_below {B : Nat} {W W' : World} (h : Below W.heap.size W W') (hB : B ≤ W.heap.size) : Stay B W W' := ⟨h.os, h.tape, h.output, KpC.below h, fun j hj => h.block j (by omega)⟩
theorem Stay.put {B : Nat} {W : World} {g : Nat} {o : Obj} (o' : Obj) (h : W.heap[g]? = some o) (ho : o.isCells = false) (hg : B ≤ g) : Stay B W (W.putObj g o') :=
  ⟨rfl, rfl, rfl, KpC.put o' h ho, fun _ hj => World.putObj_heap_other (by omega)⟩
theorem Stay.below {B : Nat} {W W' : World} (h : Stay B W W') : Below B W W' := ⟨h.os, h.tape, h.output, h.kp.1, h.old⟩
/-- What stays ahead of the heap's end stays in every word. -/
theorem Stay.kp0 {A W W' : World} (h : Stay A.heap.size W W') (k : Kp A W) : Kp A W' := fun j o hf hj => (h.old j (lt_of_block hj)).trans (k j o hf hj)

/-- A record is put to work, all else stays, the record is laid back. -/
theorem Kp.round {W W3 : World} {l : Nat} {o o' : Obj} (h : W.heap[l]? = some o) (hf : free o' = true) (k : Kp (W.putObj l o') W3) : Kp W (W3.putObj l o) := by
  intro j u hu hj
  by_cases e : j = l
  · subst e
    rw [h] at hj
    cases hj
    exact World.putObj_heap_same (lt_of_block (k j o' hf (World.putObj_heap_same (lt_of_block h))))
  · rw [World.putObj_heap_other e]
    exact k j u hu ((World.putObj_heap_other e).trans hj)

/-- What lies ahead of a block stays where that block is written. -/
theorem Kp.putNew {W W3 : World} {l : Nat} {o : Obj} (k : Kp W W3) (hl : W.heap.size ≤ l) : Kp W (W3.putObj l o) := fun j u hu hj => by
  have := lt_of_block hj
  rw [World.putObj_heap_other (by omega)]
  exact k j u hu hj

/-- The marks that loops over functions leave. -/
structure Marks (B : Nat) (W : World) (ds : List Deferred) (Ds : List Nat) : Prop where
  same : ds = Ds.map fun D => { target := .collected D, args := #[] }
  nodup : Ds.Nodup
  there : ∀ D ∈ Ds, B ≤ D ∧ W.heap[D]? = some (.deferred (some []))

theorem Marks.keep {B : Nat} {W W' : World} {ds : List Deferred} {Ds : List Nat} (h : Marks B W ds Ds) (k : Kp W W') : Marks B W' ds Ds :=
  ⟨h.same, h.nodup, fun D hD => ⟨(h.there D hD).1, k _ _ rfl (h.there D hD).2⟩⟩
theorem Marks.more {B : Nat} {W W' : World} {ds : List Deferred} {Ds : List Nat} (h : Marks B W ds Ds) (k : Kp W W') {D : Nat} (hD : W'.heap[D]? = some (.deferred (some []))) (hB : B ≤ D) (hW : W.heap.size ≤ D) : Marks B W' ({ target := .collected D, args := #[] } :: ds) (D :: Ds) := by
  have h' := h.keep k
  refine ⟨by rw [h.same]; rfl, List.nodup_cons.2 ⟨fun hm => ?_, h.nodup⟩, fun E hE => ?_⟩
  · have := lt_of_block (h.there D hm).2
    omega
  · rcases List.mem_cons.1 hE with rfl | hE
    · exact ⟨hB, hD⟩
    · exact h'.there E hE

theorem leaves_marks {n : Nat} {fn : Func} {tmps : Array Value} {R : Ending → World → Prop} {v : Value} (B : Nat) (hres : ∀ W, Stay B W W → (results fn tmps).run Try.prog W = .ok v W) : ∀ (Ds : List Nat) (ds : List Deferred) (W : World), Marks B W ds Ds →
    (∀ W', Stay B W W' → R (.returned v) W') → LeavesInM Fence.wide n Try.prog fn tmps R ds .returning W := by
  intro Ds
  induction Ds with
  | nil =>
    intro ds W hM hR
    have := hM.same
    subst this
    exact ⟨_, hres W (Stay.refl _ _), hR W (Stay.refl _ _)⟩
  | cons D Ds ih =>
    intro ds W hM hR
    have hs := hM.same
    subst hs
    have hD := hM.there D List.mem_cons_self
    have hnd := List.nodup_cons.1 hM.nodup
    refine ⟨by simp, .inl ⟨D, _, rfl, run_takeDeferred hD.2, ?_⟩⟩
    refine ih _ _ ⟨rfl, hnd.2, fun D' hD' => ?_⟩ ?_
    · have h1 := hM.there D' (List.mem_cons_of_mem _ hD')
      exact ⟨h1.1, (World.putObj_heap_other (by rintro rfl; exact hnd.1 hD')).trans h1.2⟩
    · intro W' hk
      exact hR W' ((Stay.put _ hD.2 rfl hD.1).trans hk)

theorem YieldAt.any {d d' : Nat} {L : Nat} {args : Array Value} {W : World} {R : Ending → World → Prop} (h : YieldAt Fence.wide d Try.prog L args W R) : YieldAt Fence.wide d' Try.prog L args W R := by
  obtain ⟨fn, tmps, assign, body, h1, h2⟩ := h
  exact ⟨fn, tmps, assign, body, h1, h2.1, fun c cs _ => h2.2 c cs (room_wide _)⟩

/-- A loop over a function is entered: the record is laid, the function is called. -/
theorem range_enter {P : Program} {g : Operand} {ps : Array Tmp} {assign body : Code} {Q : Exit → Act → World → Prop} {a : Act} {w : World} {n : Nat} (h1 : 1 ≤ n) {gf : Nat} {lb : Array Value} (hg : a.eval g = .func (.func gf) #[] lb)
    (eg : ∀ args w, (callFunc gf args).run P w = .ok (.enter gf args) w)
    (h : ∀ (fn : FuncId) (rec : Loop), rec = { state := .ready, pending := none, fn := fn, tmps := a.tmps, params := ps, assign := assign, body := body, defers := w.heap.size } →
      CallsIn Fence.wide (n - 1) P gf (#[.func (.yield (w.heap.size + 1)) #[] #[]] ++ lb) ((w.alloc (.deferred (some []))).alloc (.loop rec)) (rangePost Fence.wide n P (w.heap.size + 1) Q { a with defers := [{ target := .collected w.heap.size, args := #[] }] ++ a.defers })) :
    (Code.rangeFunc g ps assign body).wpIn Fence.wide n P Q a w := by
  refine wpIn_rangeFunc ?_
  intro fn _
  have he := run_enterLoop_outer (P := P) (w := w) fn a.tmps ps assign body
  have hc := h fn _ rfl
  generalize (w.alloc (.deferred (some []))).alloc (.loop { state := .ready, pending := none, fn := fn, tmps := a.tmps, params := ps, assign := assign, body := body, defers := w.heap.size }) = W1 at he hc
  refine ⟨w.heap.size + 1, [{ target := .collected w.heap.size, args := #[] }], W1, { target := .fn (.func gf) lb, args := #[.func (.yield (w.heap.size + 1)) #[] #[]] }, W1, gf, #[.func (.yield (w.heap.size + 1)) #[] #[]] ++ lb, W1, ?_, ?_, ?_, ?_, ?_, ?_⟩
  · exact he
  · simp only [resolve, hg]
    simp [go_sem]
  · intro _ _
    trivial
  · simp [invoke, go_sem, eg]
  · intro _
    exact h1
  · exact hc

/-- The function that hands a tree's texts out, for every loop body that keeps its word. -/
def TxtIter (w0 : World) (n : Nat) (v : T n) : Prop :=
  ∀ (g k t : ByteArray) (aa : Option Addr) (al ac : Nat) (ia : Option Addr) (il ic : Nat) (L D : Nat) (l : List UInt8) (Inv : List UInt8 → World → Prop) (W : World) (Pt : Nat),
    LayT w0 n (mkT g k t aa al ac ia il ic) v → W.heap[Pt]? = some (.cells #[.string g, .string k, .string t, .slice aa al ac, .slice ia il ic] 25 (0, 0)) → D ≤ W.heap.size →
    (∀ l W W', Inv l W → Stay D W W' → Inv l W') → (∀ l W, Inv l W → Below w0.heap.size w0 W) →
    (∀ l s W, Inv l W → D ≤ W.heap.size → l.length + s.size ≤ 1000000000 → ∀ d, YieldAt Fence.wide d Try.prog L #[.string s] W fun e W' => e = .returned (.bool true) ∧ Inv (l ++ s.toList) W' ∧ Kp W W' ∧ W.heap.size ≤ W'.heap.size) →
    Inv l W → l.length + (txt v).length ≤ 1000000000 →
    Calls Try.prog 44 #[.func (.yield L) #[] #[], .pointer (some ⟨Pt, 0, none⟩)] W fun e W' => e = .returned (.tuple #[]) ∧ Inv (l ++ txt v) W' ∧ Kp W W' ∧ W.heap.size ≤ W'.heap.size

/-- How a round ends. -/
def bodyEnd (I : World → Prop) (W : World) : Exit → Act → World → Prop
  | .normal, _, W' => I W' ∧ Kp W W' ∧ W.heap.size ≤ W'.heap.size
  | _, _, _ => False

theorem range_txt {go : Operand} {ps : Array Tmp} {assign body : Code} {Q : Exit → Act → World → Prop} {a : Act} {w : World} {m : Nat} (h2 : 2 ≤ m) (hps : ps.size = 1) (Pt : Nat)
    (hg : a.eval go = .func (.func 44) #[] #[.pointer (some ⟨Pt, 0, none⟩)])
    (w0 : World) (n : Nat) (v : T n) (IT : TxtIter w0 n v) (g k t : ByteArray) (aa : Option Addr) (al ac : Nat) (ia : Option Addr) (il ic : Nat) (hlay : LayT w0 n (mkT g k t aa al ac ia il ic) v)
    (hp : w.heap[Pt]? = some (.cells #[.string g, .string k, .string t, .slice aa al ac, .slice ia il ic] 25 (0, 0)))
    (I : List UInt8 → World → Prop) (l : List UInt8) (D : Nat) (hD : D ≤ w.heap.size) (stI : ∀ l W W', I l W → Stay D W W' → I l W') (hw0 : ∀ l W, I l W → Below w0.heap.size w0 W) (h0 : I l w) (hlen : l.length + (txt v).length ≤ 1000000000)
    (a1 : ByteArray → Act)
    (hassign : ∀ (rl : Nat) (s : ByteArray) (W : World) (K : Act → World → Prop), K (a1 s) W →
      assign.wpIn (Fence.wide.inRound rl) (m - 1 - 1) Try.prog (Exit.then K (fun _ _ _ => False)) { tmps := (ps.zip #[.string s]).foldl (fun t (p, v) => t.setIfInBounds p v) a.tmps, defers := [] } W)
    (hbody : ∀ (rl : Nat) (l : List UInt8) (s : ByteArray) (W : World), I l W → Kp w W → w.heap.size ≤ W.heap.size → l.length + s.size ≤ 1000000000 → body.wpIn (Fence.wide.inRound rl) (m - 1 - 1) Try.prog (bodyEnd (I (l ++ s.toList)) W) (a1 s) W)
    (hdone : ∀ W, I (l ++ txt v) W → W.heap[w.heap.size]? = some (.deferred (some [])) → Kp w W → w.heap.size + 2 ≤ W.heap.size → Q .normal { a with defers := { target := .collected w.heap.size, args := #[] } :: a.defers } W) :
    (Code.rangeFunc go ps assign body).wpIn Fence.wide m Try.prog Q a w := by
  refine range_enter (by omega) hg (enters_of Try.func44 (by kernel_rfl) rfl) ?_
  intro fn rec0 hrec0
  obtain ⟨rec, hrec⟩ : ∃ rec : LoopState → Option Code → Loop, rec = fun st pe => { state := st, pending := pe, fn := fn, tmps := a.tmps, params := ps, assign := assign, body := body, defers := w.heap.size } := ⟨_, rfl⟩
  have e0 : rec0 = rec .ready none := by rw [hrec0, hrec]
  subst e0
  clear hrec0
  have hB := nxt (below_one w (.deferred (some []))) (below_one _ (.loop (rec .ready none)))
  have hL1 : ((w.alloc (.deferred (some []))).alloc (.loop (rec .ready none))).heap[w.heap.size + 1]? = some (.loop (rec .ready none)) := by
    have := heap_alloc_new (w.alloc (.deferred (some []))) (.loop (rec .ready none))
    rwa [World.size_alloc] at this
  have hK1 : ((w.alloc (.deferred (some []))).alloc (.loop (rec .ready none))).heap[w.heap.size]? = some (.deferred (some [])) := (Below.heap_alloc _ _ _ (by simp)).trans (heap_alloc_new _ _)
  have hI1 : I l ((w.alloc (.deferred (some []))).alloc (.loop (rec .ready none))) := stI _ _ _ h0 (Stay.of_below hB hD)
  have hp1 := (hB.block _ (lt_of_block hp)).trans hp
  have hsz1 : ((w.alloc (.deferred (some []))).alloc (.loop (rec .ready none))).heap.size = w.heap.size + 2 := by simp
  have hkw : Kp w ((w.alloc (.deferred (some []))).alloc (.loop (rec .ready none))) := Kp.of_below hB
  generalize (w.alloc (.deferred (some []))).alloc (.loop (rec .ready none)) = W1 at *
  refine callsIn_wide.2 ?_
  refine (IT g k t aa al ac ia il ic (w.heap.size + 1) W1.heap.size l (fun l W => I l W ∧ Kp W1 W ∧ W1.heap.size ≤ W.heap.size) W1 Pt hlay hp1 (Nat.le_refl _) ?st ?w0 ?hy ⟨hI1, Kp.refl _, Nat.le_refl _⟩ hlen).mono ?fin
  case st => exact fun l W W' h st => ⟨stI _ _ _ h.1 (st.less (by omega)), st.kp0 h.2.1, Nat.le_trans h.2.2 st.kp.1⟩
  case w0 => exact fun l W h => hw0 _ _ h.1
  case hy =>
    rintro l s W ⟨hI, hk, hsz⟩ - hls d
    have hl : W.heap[w.heap.size + 1]? = some (.loop (rec .ready none)) := hk _ _ rfl hL1
    have hlt := lt_of_block hl
    have hy := run_yield (P := Try.prog) (args := #[.string s]) hl (by rw [hrec]; exact hps.symm)
    rw [hrec] at hy
    refine YieldAt.any (d := m - 1 - 1) ⟨fn, _, assign, body, hy, roundIn_of_wpIn trivial (hassign _ s W _ ⟨_, run_beginRound hl (by rw [hrec]), ?_⟩)⟩
    have hl2 : (W.putObj (w.heap.size + 1) (.loop { rec .ready none with state := .busy })).heap[w.heap.size + 1]? = some (.loop { rec .ready none with state := .busy }) := World.putObj_heap_same hlt
    have hI2 := stI _ _ _ hI (Stay.put (.loop { rec .ready none with state := .busy }) hl rfl (by omega))
    have hkw2 : Kp w (W.putObj (w.heap.size + 1) (.loop { rec .ready none with state := .busy })) := (hkw.trans hk).putNew (by omega)
    have hsz2 : (W.putObj (w.heap.size + 1) (.loop { rec .ready none with state := .busy })).heap.size = W.heap.size := by simp [World.putObj]
    have hrnd : ∀ W3, Kp (W.putObj (w.heap.size + 1) (.loop { rec .ready none with state := .busy })) W3 → Kp W (W3.putObj (w.heap.size + 1) (.loop (rec .ready none))) := fun W3 h => Kp.round hl rfl h
    generalize W.putObj (w.heap.size + 1) (.loop { rec .ready none with state := .busy }) = W2 at *
    refine wpIn_mono (hbody (w.heap.size + 1) l s W2 hI2 hkw2 (by omega) hls) ?_
    rintro e a3 W3 hp
    cases e with
    | normal =>
      obtain ⟨hi3, hk3, hs3⟩ := hp
      have hl3 := hk3 _ _ rfl hl2
      have hrun := run_endRound (P := Try.prog) none hl3
      have hkf := hrnd W3 hk3
      have hif := stI _ _ _ hi3 (Stay.put (.loop (rec .ready none)) hl3 rfl (by omega))
      have hsf : W1.heap.size ≤ (W3.putObj (w.heap.size + 1) (.loop (rec .ready none))).heap.size ∧ W.heap.size ≤ (W3.putObj (w.heap.size + 1) (.loop (rec .ready none))).heap.size := by simp [World.putObj]; omega
      refine ⟨_, _, ?_, rfl, ⟨hif, hk.trans hkf, hsf.1⟩, hkf, hsf.2⟩
      rw [hrec] at hrun ⊢
      exact hrun
    | exit id => exact hp.elim
    | ret => exact hp.elim
    | goto t => exact hp.elim
    | panic ch => exact hp.elim
    | outgrown => exact hp.elim
  case fin =>
    rintro e W2 ⟨rfl, ⟨hi, hk, hsz⟩, -, -⟩
    have hl : W2.heap[w.heap.size + 1]? = some (.loop (rec .ready none)) := hk _ _ rfl hL1
    refine ⟨none, _, by have := run_endLoop (P := Try.prog) hl (by rw [hrec]; simp); rw [hrec] at this; exact this, ?_⟩
    exact hdone _ (stI _ _ _ hi (Stay.put _ hl rfl (by omega))) ((World.putObj_heap_other (by omega)).trans (hk _ _ rfl hK1)) ((hkw.trans hk).putNew (by omega)) (by simp [World.putObj]; omega)
end Go.Proofs.Ytoheppocolbjkaa
