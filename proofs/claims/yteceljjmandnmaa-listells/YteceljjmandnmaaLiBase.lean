/-
  Rows of whole numbers: of one's own, and such as came from somewhere; SameInts, CopyInts.
-/
import Derived.Test.YteceljjmandnmaaRows
import Derived.WalkKit
import Derived.ProofKit
import Derived.OpenShut
import Derived.WalkLawsBesides
import Derived.BigQuiet
import Derived.Deep.QuietTactic
import Derived.Deep.Strs
import Derived.Deep.LoopGhost
import Derived.Deep.RegionWith
import Derived.Deep.DeepCutAuto
import Derived.Laws.AppendOwnNone
import Derived.ArgAppend
import Derived.SizedLaws
import Derived.Deep.Slices
import Derived.Laws.BytesArg
import Derived.Laws.CopyOwn
import Derived.RangeFuncNested
import Derived.RangeFuncLeaves
import Derived.RangeFuncBox
import Derived.RangeFuncBound
import Derived.RangeFuncCalls
import Derived.OwnWalkIn
import Derived.TacticsInMore
import Derived.LoopNIn
import Derived.LoopIn
import Derived.Shelf.Abstract
namespace Go.Proofs.Yteceljjmandnmaa
open Go.ChangeShapes Go.WideShapes Go.ChangeAt Go.RowKit Go.Deep

theorem ownsRow_same {w w' : World} {base : Nat} {e : TypeId} {size : Nat} {v : Value} {n : Nat} {xs : List Value} (h : w.ownsRow base e size v n xs)
    (hh : ∀ g, v.ownBlock = some g → w'.heap[g]? = w.heap[g]?) : w'.ownsRow base e size v n xs := by
  obtain ⟨h1, h2⟩ := h
  refine ⟨h1, ?_⟩
  rcases h2 with h2 | ⟨g, cap, cur, hv, hg, hb, r⟩
  · exact Or.inl h2
  · exact Or.inr ⟨g, cap, cur, hv, hg, by rw [hh g (by rw [hv]; rfl)]; exact hb, r⟩

theorem lt_of_cell {w : World} {a : Addr} {v : Value} (h : w.cell? a = some v) : a.block < w.heap.size := by
  unfold World.cell? at h
  split at h
  · rename_i c _ _ hb
    exact lt_of_block hb
  · cases h

/-- append to a slice of the call's own: the row stays where it is, or is a new block; nothing but the row has turned. -/
theorem wpList_append_apart {P : Program} (w : World) {ops : Array Oper} {rest : List Oper} {o : Oper} {a : Act} {Q : Exit → Act → World → Prop} (hgd : o.guard = none) (s x : Operand) (t : TypeId)
    (ho : o.op = .call { callee := .builtin .append, args := #[s, x], argTypes := #[t, t] })
    (base : Nat) (e : TypeId) (i : TypeInfo) (z : Value) (size bytes : Nat) (ht : P.underlying t = some (.slice e)) (hi : P.info? e = some i) (hz : i.zero = some z)
    (hsize : i.size = size) (hby : i.bytes = bytes) (hzs : z.cells.size = size) (hsz : 0 < size)
    (v : Value) (n : Nat) (xs : List Value) (hs : a.eval s = v) (hown : w.ownsRow base e size v n xs)
    (ao : Option Addr) (m c : Nat) (news : List Value) (hx : a.eval x = .slice ao m c) (hnone : ao = none → m = 0 ∧ c = 0) (hl : news.length = m * size)
    (hnews : ∀ ad, ao = some ad → ∀ j u, news[j]? = some u → w.cell? (ad.add j) = some u) (h1 : ∀ u ∈ news, u.oneCell' = true)
    (h63 : n + m ≤ maxLen) (hbytes : (n + m) * bytes ≤ 140737488355328) (hbase : base ≤ w.heap.size)
    (h : ∀ v' w', w'.ownsRow base e size v' (n + m) (xs ++ news) → w.grownBy w' v.ownBlock → (v'.ownBlock = v.ownBlock ∨ ∀ g, v'.ownBlock = some g → w.heap.size ≤ g) → wpList P ops Q rest (a.put o.dst v') w') :
    wpList P ops Q (o :: rest) a w := by
  have lower : ∀ {w' : World} {v' : Value} {k : Nat} {ys : List Value}, w'.ownsRow w.heap.size e size v' k ys → w'.ownsRow base e size v' k ys ∧ ∀ g, v'.ownBlock = some g → w.heap.size ≤ g := by
    rintro w' v' k ys ⟨q1, q2⟩
    rcases q2 with ⟨rfl, rfl⟩ | ⟨g, cap, cur, rfl, hg, r⟩
    · exact ⟨⟨q1, Or.inl ⟨rfl, rfl⟩⟩, fun g hg => by simp [Value.ownBlock] at hg⟩
    · exact ⟨⟨q1, Or.inr ⟨g, cap, cur, rfl, by omega, r⟩⟩, fun g' hg' => by simp only [Value.ownBlock, Option.some.injEq] at hg'; omega⟩
  have wide : ∀ {w' : World} {r : Option Nat}, w.grownBy w' none → w.grownBy w' r := fun q => ⟨q.os, q.tape, q.output, q.size, fun k hk _ => q.block k hk (by simp)⟩
  cases ao with
  | none =>
    obtain ⟨rfl, rfl⟩ := hnone rfl
    have hn0 : news = [] := List.eq_nil_of_length_eq_zero (by simpa using hl)
    subst hn0
    refine wpList_append_own_none hgd s x t ho base e i size ht hi v n xs hs hown hx ?_
    exact h v w (by simpa using hown) (World.grownBy.refl _ _) (Or.inl rfl)
  | some ad =>
    have hown0 := hown
    obtain ⟨l0, hcase⟩ := hown
    rcases hcase with ⟨rfl, rfl⟩ | ⟨g, cap, cur, rfl, hg, hh, hnc, r⟩
    · have : xs = [] := List.eq_nil_of_length_eq_zero (by simpa using l0)
      subst this
      refine wpList_append_own w hgd s x t ho w.heap.size e i z size bytes ht hi hz hsize hby hzs hsz _ 0 [] hs (World.ownsRow_nil _ _ _ _) ad m c news hx hl (hnews ad rfl) h1 h63 hbytes (Nat.le_refl _) ?_
      intro v' w' q1 q2 _
      exact h v' w' (lower q1).1 q2 (Or.inr (lower q1).2)
    · by_cases hroom : n + m ≤ cap
      · refine wpList_append_fits w hgd s x t ho base e i size ht hi hsize g n cap xs hs hown0 ad m c news hx hl (hnews ad rfl) h1 hroom ?_
        intro w' q1 q2
        exact h _ w' q1 q2 (Or.inl rfl)
      · refine wpList_append_grows w hgd s x t ho e i z size bytes ht hi hz hsize hby hzs hsz (some ⟨g, 0, none⟩) n cap xs hs (by simp) l0 (fun b hb j u hu => by cases hb; exact hown0.cells (g := g) rfl j u hu) ad m c news hx hl (hnews ad rfl) h1 (by omega) h63 hbytes ?_
        intro v' w' q1 q2
        exact h v' w' (lower q1).1 (wide q2) (Or.inr (lower q1).2)

/-- Two ends, one behind the other. -/
theorem nxt {w w1 w2 : World} (h : Below w.heap.size w w1) (k : Below w1.heap.size w1 w2) : Below w.heap.size w w2 := h.trans (k.mono h.size)

theorem heap_new2 (w : World) (o o' : Obj) : ((w.alloc o).alloc o').heap[w.heap.size + 1]? = some o' := by
  have e : (w.alloc o).heap.size = w.heap.size + 1 := by simp
  rw [← e]
  exact heap_alloc_new _ _

theorem slice_of_own {w : World} {base : Nat} {e : TypeId} {size : Nat} {v : Value} {n : Nat} {xs : List Value} (h : w.ownsRow base e size v n xs) : ∃ a c, v = .slice a n c := by
  obtain ⟨_, h2⟩ := h
  rcases h2 with ⟨hv, hn⟩ | ⟨g, cap, cur, hv, _⟩
  · exact ⟨none, 0, by rw [hv, hn]⟩
  · exact ⟨_, _, hv⟩

theorem cap_of_own {w : World} {base : Nat} {e : TypeId} {size : Nat} {a : Option Addr} {l c n : Nat} {xs : List Value} (h : w.ownsRow base e size (.slice a l c) n xs) : l ≤ c ∧ c ≤ 9223372036854775807 := by
  obtain ⟨_, h2⟩ := h
  rcases h2 with ⟨hv, hn⟩ | ⟨g, cap, cur, hv, _, _, h1, h2, _⟩
  · simp only [Value.slice.injEq] at hv; omega
  · simp only [Value.slice.injEq] at hv; unfold maxLen at h2; omega

theorem ownsRow_base0 {w : World} {base : Nat} {e : TypeId} {size : Nat} {v : Value} {n : Nat} {xs : List Value} (h : w.ownsRow base e size v n xs) : w.ownsRow 0 e size v n xs := by
  obtain ⟨h1, h2⟩ := h
  refine ⟨h1, ?_⟩
  rcases h2 with h2 | ⟨g, cap, cur, hv, _, r⟩
  · exact Or.inl h2
  · exact Or.inr ⟨g, cap, cur, hv, Nat.zero_le _, r⟩

theorem keepc {W w1 : World} (hb : Below W.heap.size W w1) : ∀ a v, W.cell? a = some v → w1.cell? a = some v := fun a v h => by rw [hb.cell (lt_of_cell h)]; exact h

theorem Below_drewN (B : Nat) (w : World) (n : Nat) : Below B w (w.drewN n) := ⟨rfl, rfl, rfl, Nat.le_refl _, fun _ _ => rfl⟩

theorem num_any (n : Int) (w : World) : Calls Try.prog 17 #[.int .i64 n] w fun e w' => e = .returned (.int .i64 n) ∧ w' = w := by
  go_enter Try.func17, Try.ntmps17
  go_wp2_with fail
  go_ret
  exact ⟨rfl, rfl⟩

theorem below_one (w : World) (o : Obj) : Below w.heap.size w (w.alloc o) := (Below.refl _ _).alloc (Nat.le_refl _) _

/-- All but F's blocks is as it was. -/
structure Kept (F : Nat → Prop) (w w' : World) : Prop where
  os : w'.os = w.os
  tape : w'.tape = w.tape
  output : w'.output = w.output
  size : w.heap.size ≤ w'.heap.size
  block : ∀ b, b < w.heap.size → ¬ F b → w'.heap[b]? = w.heap[b]?

theorem Kept.refl (F : Nat → Prop) (w : World) : Kept F w w := ⟨rfl, rfl, rfl, Nat.le_refl _, fun _ _ _ => rfl⟩

theorem Kept.trans {F : Nat → Prop} {a b c : World} (h : Kept F a b) (k : Kept F b c) : Kept F a c :=
  ⟨k.os.trans h.os, k.tape.trans h.tape, k.output.trans h.output, Nat.le_trans h.size k.size, fun j hj hn => (k.block j (Nat.lt_of_lt_of_le hj h.size) hn).trans (h.block j hj hn)⟩

theorem Kept.mono {F F' : Nat → Prop} {a b : World} (h : Kept F a b) (hF : ∀ j, F j → F' j) : Kept F' a b := ⟨h.os, h.tape, h.output, h.size, fun j hj hn => h.block j hj fun q => hn (hF j q)⟩

theorem Kept.of_below {F : Nat → Prop} {a b : World} (h : Below a.heap.size a b) : Kept F a b := ⟨h.os, h.tape, h.output, h.size, fun j hj _ => h.block j hj⟩

theorem Kept.setCell {F : Nat → Prop} {a b : World} (h : Kept F a b) {g o : Nat} (v : Value) (hg : F g) : Kept F a (b.setCell ⟨g, o, none⟩ v) :=
  ⟨h.os, h.tape, h.output, by simpa [World.setCell] using h.size, fun j hj hn => by
    have : ¬ g = j := fun e => hn (by rw [← e]; exact hg)
    simpa [World.setCell, Array.getElem?_modify, this] using h.block j hj hn⟩

theorem set_one_cell {w : World} {g o : Nat} {cur : Array Value} {t : TypeId} (h : w.heap[g]? = some (.cells cur t (0, 0))) (v : Value) : (w.setCell ⟨g, o, none⟩ v).heap[g]? = some (.cells (cur.setIfInBounds o v) t (0, 0)) := by
  simp [World.setCell, Array.getElem?_modify, h]

theorem cell_of {w : World} {g : Nat} {cur : Array Value} {t : TypeId} (h : w.heap[g]? = some (.cells cur t (0, 0))) (j : Nat) : w.cell? ⟨g, j, none⟩ = cur[j]? ∧ w.frozen? ⟨g, j, none⟩ = false := by
  simp [World.cell?, World.frozen?, h]

theorem Try.own : ownKnob Try.prog.godebug = none := by kernel_rfl

theorem Try.laidOut : laidOutB Try.prog = true := by kernel_rfl

theorem reach_eq : reachBytes = 140737488351232 := rfl

theorem weightsAll_mem {H : Type} {P : Program} {e : TypeId} : ∀ {l : List (DataW H)} {d : DataW H}, d ∈ l → ∀ n ∈ d.weights P e, n ∈ DataW.weightsAll P e l
  | d' :: r, d, hd, n, hn => by
    simp only [DataW.weightsAll, List.mem_append]
    rcases List.mem_cons.1 hd with rfl | h
    · exact Or.inl hn
    · exact Or.inr (weightsAll_mem h n hn)

theorem spot_none {w : World} {a : Addr} {v : Value} (h : w.cell? a = some v) : a = ⟨a.block, a.off, none⟩ := by
  rcases a with ⟨b, o, sp⟩
  cases sp with
  | none => rfl
  | some q =>
    simp only [World.cell?] at h
    split at h
    · simp at h
    · cases h

theorem list_of {α : Type} {p : Nat → α → Prop} {n : Nat} (h : ∀ i, i < n → ∃ u, p i u) : ∃ l : List α, l.length = n ∧ ∀ i u, l[i]? = some u → p i u := by
  induction n with
  | zero => exact ⟨[], rfl, fun i u hu => by simp at hu⟩
  | succ n ih =>
    obtain ⟨l, hl, hp⟩ := ih fun i hi => h i (by omega)
    obtain ⟨x, hx⟩ := h n (by omega)
    refine ⟨l ++ [x], by simp [hl], fun i u hu => ?_⟩
    by_cases hi : i < l.length
    · rw [List.getElem?_append_left hi] at hu; exact hp i u hu
    · rw [List.getElem?_append_right (by omega)] at hu
      have : i - l.length = 0 := by
        have := (List.getElem?_eq_some_iff.1 hu).1
        simp at this
        omega
      rw [this] at hu
      simp at hu
      have e : i = n := by omega
      rw [← hu, e]
      exact hx

/-- A row has become another: nothing but the row has turned. -/
structure RowTo (w w' : World) (s s' : Value) : Prop where
  grown : w.grownBy w' s.ownBlock
  place : s'.ownBlock = s.ownBlock ∨ ∀ g, s'.ownBlock = some g → w.heap.size ≤ g

theorem RowTo.refl (w : World) (s : Value) : RowTo w w s s := ⟨World.grownBy.refl _ _, Or.inl rfl⟩

theorem RowTo.trans {w w1 w2 : World} {s s1 s2 : Value} (h : RowTo w w1 s s1) (k : RowTo w1 w2 s1 s2) : RowTo w w2 s s2 := by
  have hs := h.grown.size
  refine ⟨⟨k.grown.os.trans h.grown.os, k.grown.tape.trans h.grown.tape, k.grown.output.trans h.grown.output, Nat.le_trans hs k.grown.size, ?_⟩, ?_⟩
  · intro j hj hn
    rw [k.grown.block j (by omega) ?_]
    · exact h.grown.block j hj hn
    · rcases h.place with e | e
      · rw [e]; exact hn
      · intro e'; have := e j e'.symm; omega
  · rcases k.place with e | e
    · rcases h.place with e' | e'
      · exact Or.inl (e.trans e')
      · exact Or.inr fun g hg => e' g (by rw [← e]; exact hg)
    · exact Or.inr fun g hg => Nat.le_trans hs (e g hg)

theorem RowTo.pre {w w1 w2 : World} {s s' : Value} (h : Below w.heap.size w w1) (k : RowTo w1 w2 s s') : RowTo w w2 s s' := by
  have hs := h.size
  refine ⟨⟨k.grown.os.trans h.os, k.grown.tape.trans h.tape, k.grown.output.trans h.output, Nat.le_trans hs k.grown.size, fun j hj hn => (k.grown.block j (by omega) hn).trans (h.block j hj)⟩, k.place.imp id fun e g hg => Nat.le_trans hs (e g hg)⟩

theorem RowTo.post {w w1 w2 : World} {s s' : Value} (k : RowTo w w1 s s') (h : Below w1.heap.size w1 w2) : RowTo w w2 s s' := by
  have hs := k.grown.size
  refine ⟨⟨h.os.trans k.grown.os, h.tape.trans k.grown.tape, h.output.trans k.grown.output, Nat.le_trans hs h.size, fun j hj hn => (h.block j (by omega)).trans (k.grown.block j hj hn)⟩, k.place⟩

theorem RowTo.below {w w' : World} {s s' : Value} {B : Nat} (k : RowTo w w' s s') (hB : B ≤ w.heap.size) (hs : ∀ g, s.ownBlock = some g → B ≤ g) : Below B w w' :=
  ⟨k.grown.os, k.grown.tape, k.grown.output, k.grown.size, fun j hj => k.grown.block j (by omega) fun e => by have := hs j e.symm; omega⟩

theorem RowTo.block {w w' : World} {s s' : Value} (k : RowTo w w' s s') {g : Nat} (hg : g < w.heap.size) (hn : s.ownBlock ≠ some g) : w'.heap[g]? = w.heap[g]? := k.grown.block g hg fun e => hn e.symm

theorem heap_alloc_old' (w : World) (o : Obj) (k : Nat) (h : k < w.heap.size) : (w.alloc o).heap[k]? = w.heap[k]? := Below.heap_alloc _ _ _ h

theorem newCells (w : World) (cs : Array Value) (t : TypeId) (j : Nat) (v : Value) (h : cs[j]? = some v) : (w.alloc (.cells cs t)).cell? ((⟨w.heap.size, 0, none⟩ : Addr).add j) = some v := by
  rw [add_plain]
  have := heap_alloc_new w (.cells cs t)
  simp only [World.cell?, this]
  simpa using h

theorem cells_one {w : World} {a : Addr} {cs : List Value} (h : w.cells? 0 a 1 = some cs) : ∃ c0, cs = [c0] ∧ w.cell? (a.add 0) = some c0 := by
  simp only [World.cells?, Nat.zero_le, if_true, show List.range 1 = [0] from rfl, List.mapM_cons, List.mapM_nil] at h
  cases h0 : w.cell? (a.add 0) with
  | none => simp [h0] at h
  | some c0 =>
    simp [h0] at h
    exact ⟨c0, h.symm, rfl⟩

theorem cells_of_own {w : World} {base : Nat} {e : TypeId} {size : Nat} {ia : Option Addr} {l c n : Nat} {xs : List Value} (h : w.ownsRow base e size (.slice ia l c) n xs) (j : Nat) (u : Value) (hj : xs[j]? = some u) :
    ∃ g, ia = some ⟨g, 0, none⟩ ∧ w.cell? ⟨g, 0 + j, none⟩ = some u := by
  have h0 := h
  obtain ⟨h1, h2⟩ := h
  rcases h2 with ⟨hv, hn⟩ | ⟨g, cap, cur, hv, hg, hb, r⟩
  · subst hn; simp at h1; subst h1; simp at hj
  · have e : ia = some ⟨g, 0, none⟩ := by simp only [Value.slice.injEq] at hv; exact hv.1
    refine ⟨g, e, ?_⟩
    have := h0.cells (g := g) (by rw [e]; rfl) j u hj
    rw [WideShapes.add_plain] at this
    exact this

theorem Try.infoInt : (Try.prog.info? 3).map (fun i => (i.zero, i.size, i.bytes)) = some (some (.int .i64 0), 1, 8) := by kernel_rfl

/-- A row of whole numbers of one's own. -/
def OwnI (w : World) (B : Nat) (v : Value) (ks : List Int) : Prop := w.ownsRow B 3 1 v ks.length (ks.map fun k => Value.int .i64 k)

theorem OwnI.nil (w : World) (B : Nat) : OwnI w B (.slice none 0 0) [] := World.ownsRow_nil _ _ _ _

theorem OwnI.shape {w : World} {B : Nat} {v : Value} {ks : List Int} (h : OwnI w B v ks) : ∃ a c, v = .slice a ks.length c := slice_of_own h

theorem OwnI.same {w w' : World} {B : Nat} {v : Value} {ks : List Int} (h : OwnI w B v ks) (hk : ∀ b, v.ownBlock = some b → w'.heap[b]? = w.heap[b]?) : OwnI w' B v ks := ownsRow_same h hk

theorem OwnI.below {w w' : World} {B : Nat} {v : Value} {ks : List Int} (h : OwnI w B v ks) (hb : Below w.heap.size w w') : OwnI w' B v ks := ownsRow_same h fun g hg => hb.block g (h.lt g hg).2

/-- A number of it. -/
theorem OwnI.at {w : World} {B : Nat} {a : Option Addr} {c n : Nat} {ks : List Int} (h : OwnI w B (.slice a n c) ks) (m : Nat) (hm : m < ks.length) : ∃ g, a = some ⟨g, 0, none⟩ ∧ w.cell? ⟨g, 0 + m, none⟩ = some (.int .i64 ks[m]) :=
  cells_of_own h m _ (by simp [hm])

/-- append of one number. -/
theorem wpList_pushI (w : World) {ops : Array Oper} {rest : List Oper} {o : Oper} {a : Act} {Q : Exit → Act → World → Prop} (hgd : o.guard = none) (s x : Operand)
    (hop : o.op = .call { callee := .builtin .append, args := #[s, x], argTypes := #[22, 22] })
    (B : Nat) (v : Value) (ks : List Int) (hs : a.eval s = v) (hL : OwnI w B v ks) (k : Int) (ad : Addr) (c : Nat) (hx : a.eval x = .slice (some ad) 1 c) (hnews : w.cell? (ad.add 0) = some (.int .i64 k)) (hlen : (ks.length + 1) * 8 ≤ 140737488355328) (hB : B ≤ w.heap.size)
    (h : ∀ v' w', OwnI w' B v' (ks ++ [k]) → w.grownBy w' v.ownBlock → (v'.ownBlock = v.ownBlock ∨ ∀ g, v'.ownBlock = some g → w.heap.size ≤ g) → wpList Try.prog ops Q rest (a.put o.dst v') w') : wpList Try.prog ops Q (o :: rest) a w := by
  obtain ⟨i0, hi, hz0, hz1, hz2⟩ := info_parts Try.infoInt
  refine wpList_append_apart w hgd s x 22 hop B 3 i0 _ 1 8 Try.underlying22 hi hz0 hz1 hz2 rfl (by decide) v ks.length _ hs hL (some ad) 1 c [.int .i64 k] hx (by simp) rfl ?_ ?_ (by unfold maxLen; omega) hlen hB ?_
  · intro ad' e j u hj
    cases e
    cases j with
    | zero => cases hj; exact hnews
    | succ j => simp at hj
  · intro y hy
    simp at hy
    subst hy
    rfl
  · intro v' w' q1 q2 q3
    refine h v' w' ?_ q2 q3
    unfold OwnI
    rw [List.length_append, List.map_append]
    exact q1

/-- append of numbers that are read. -/
theorem wpList_appI (w : World) {ops : Array Oper} {rest : List Oper} {o : Oper} {a : Act} {Q : Exit → Act → World → Prop} (hgd : o.guard = none) (s x : Operand)
    (hop : o.op = .call { callee := .builtin .append, args := #[s, x], argTypes := #[22, 22] })
    (B : Nat) (v : Value) (ks js : List Int) (hs : a.eval s = v) (hL : OwnI w B v ks) (ia : Option Addr) (c : Nat) (hx : a.eval x = .slice ia js.length c) (hnone : ia = none → js.length = 0 ∧ c = 0) (hnews : ∀ ad, ia = some ad → ∀ i k, js[i]? = some k → w.cell? (ad.add i) = some (.int .i64 k)) (hlen : (ks.length + js.length) * 8 ≤ 140737488355328) (hB : B ≤ w.heap.size)
    (h : ∀ v' w', OwnI w' B v' (ks ++ js) → w.grownBy w' v.ownBlock → (v'.ownBlock = v.ownBlock ∨ ∀ g, v'.ownBlock = some g → w.heap.size ≤ g) → wpList Try.prog ops Q rest (a.put o.dst v') w') : wpList Try.prog ops Q (o :: rest) a w := by
  obtain ⟨i0, hi, hz0, hz1, hz2⟩ := info_parts Try.infoInt
  refine wpList_append_apart w hgd s x 22 hop B 3 i0 _ 1 8 Try.underlying22 hi hz0 hz1 hz2 rfl (by decide) v ks.length _ hs hL ia js.length c (js.map fun k => Value.int .i64 k) hx hnone (by simp) ?_ ?_ (by unfold maxLen; omega) hlen hB ?_
  · intro ad e j u hj
    simp only [List.getElem?_map, Option.map_eq_some_iff] at hj
    obtain ⟨k, hk, rfl⟩ := hj
    exact hnews ad e j k hk
  · intro y hy
    obtain ⟨k, -, rfl⟩ := List.mem_map.1 hy
    rfl
  · intro v' w' q1 q2 q3
    refine h v' w' ?_ q2 q3
    unfold OwnI
    rw [List.length_append, List.map_append]
    exact q1

/-- Parts of a row of numbers, to be read. -/
theorem OwnI.take {w : World} {B : Nat} {a : Option Addr} {c n : Nat} {ks : List Int} (h : OwnI w B (.slice a n c) ks) (m : Nat) : ∀ ad, a = some ad → ∀ i k, (ks.take m)[i]? = some k → w.cell? (ad.add i) = some (.int .i64 k) := by
  intro ad e i k hk
  rw [List.getElem?_take] at hk
  split at hk
  · obtain ⟨g, e', q⟩ := cells_of_own h i (.int .i64 k) (by simp [hk])
    rw [e] at e'
    cases e'
    rw [add_plain]
    exact q
  · cases hk

theorem OwnI.drop {w : World} {B : Nat} {a : Option Addr} {c n : Nat} {ks : List Int} (h : OwnI w B (.slice a n c) ks) (m : Nat) : ∀ g, a = some ⟨g, 0, none⟩ → ∀ i k, (ks.drop m)[i]? = some k → w.cell? ((⟨g, m, none⟩ : Addr).add i) = some (.int .i64 k) := by
  intro g e i k hk
  rw [List.getElem?_drop] at hk
  obtain ⟨g', e', q⟩ := cells_of_own h (m + i) (.int .i64 k) (by simp [hk])
  rw [e] at e'
  cases e'
  rw [add_plain]
  rwa [Nat.zero_add] at q

/-- Whole numbers that lie somewhere. -/
def LayI (w : World) (a : Option Addr) (ks : List Int) : Prop := ∀ i v, ks[i]? = some v → ∃ b off, a = some ⟨b, off, none⟩ ∧ w.cell? ⟨b, off + i, none⟩ = some (.int .i64 v) ∧ -9223372036854775808 ≤ v ∧ v ≤ 9223372036854775807

theorem LayI.below {w w' : World} {a : Option Addr} {ks : List Int} (h : LayI w a ks) (hb : Below w.heap.size w w') : LayI w' a ks := by
  intro i v hi
  obtain ⟨b, off, h1, h2, h3⟩ := h i v hi
  exact ⟨b, off, h1, keepc hb _ _ h2, h3⟩

/-- Whole numbers. -/
def I64 (ks : List Int) : Prop := ∀ x ∈ ks, -9223372036854775808 ≤ x ∧ x ≤ 9223372036854775807

/-- What numbers that are read keep to. -/
def Nm (w : World) (a : Option Addr) (c : Nat) (ks : List Int) : Prop := LayI w a ks ∧ ks.length ≤ c ∧ c ≤ 9223372036854775807 ∧ ks.length * 8 ≤ 140737488351232 ∧ (a = none → c = 0) ∧ (∀ ad, a = some ad → 0 < c → ad = ⟨ad.block, ad.off, none⟩)

theorem Nm.below {w w' : World} {a : Option Addr} {c : Nat} {ks : List Int} (h : Nm w a c ks) (hb : Below w.heap.size w w') : Nm w' a c ks := ⟨h.1.below hb, h.2⟩

theorem LayI.i64 {w : World} {a : Option Addr} {ks : List Int} (h : LayI w a ks) : I64 ks := by
  intro x hx
  obtain ⟨i, hi, rfl⟩ := List.getElem_of_mem hx
  obtain ⟨_, _, _, _, h3⟩ := h i ks[i] (List.getElem?_eq_getElem hi)
  exact h3

theorem OwnI.lay {w : World} {B : Nat} {a : Option Addr} {n c : Nat} {ks : List Int} (h : OwnI w B (.slice a n c) ks) (hi : I64 ks) : LayI w a ks := by
  intro i v hv
  have hlt := (List.getElem?_eq_some_iff.1 hv).1
  obtain ⟨g, rfl, q⟩ := h.at i hlt
  have e : ks[i] = v := by rw [List.getElem?_eq_getElem hlt] at hv; exact Option.some.inj hv
  rw [e] at q
  exact ⟨g, 0, rfl, q, hi v (by rw [← e]; exact List.getElem_mem hlt)⟩

theorem OwnI.nm {w : World} {B : Nat} {a : Option Addr} {n c : Nat} {ks : List Int} (h : OwnI w B (.slice a n c) ks) (hi : I64 ks) (hl : ks.length * 8 ≤ 140737488351232) : Nm w a c ks := by
  refine ⟨h.lay hi, ?_⟩
  obtain ⟨h1, h2⟩ := h
  rcases h2 with ⟨h3, h4⟩ | ⟨g, cap, cur, h3, h4, h5, h6, h7, _⟩
  · simp only [Value.slice.injEq] at h3
    obtain ⟨rfl, rfl, rfl⟩ := h3
    exact ⟨by omega, by omega, hl, fun _ => rfl, fun ad h => by cases h⟩
  · simp only [Value.slice.injEq] at h3
    obtain ⟨rfl, rfl, rfl⟩ := h3
    unfold maxLen at h7
    exact ⟨h6, by omega, hl, by simp, fun ad h _ => by cases h; rfl⟩

/-- A part of the numbers, from the first on. -/
theorem Nm.take {w : World} {a : Option Addr} {c : Nat} {ks : List Int} (h : Nm w a c ks) (m : Nat) : Nm w a c (ks.take m) := by
  obtain ⟨h1, h2, h3, h4, h5⟩ := h
  have hm : (ks.take m).length ≤ ks.length := by simp; omega
  refine ⟨fun i v hv => ?_, by omega, h3, by omega, h5⟩
  rw [List.getElem?_take] at hv
  split at hv
  · exact h1 i v hv
  · cases hv

/-- Numbers among the arguments. -/
def NumsArg (w : World) (x : Value) (ks : List Int) : Prop := ∃ a c, x = .slice a ks.length c ∧ Nm w a c ks

theorem Try.cellsInt : Try.prog.cellsOf 3 = 1 := by kernel_rfl

theorem Try.bytesInt : Try.prog.bytesOf 3 = 8 := by kernel_rfl

set_option maxRecDepth 100000 in
theorem ints_of_trod {H : Type} {enc : TypeId × Value → H} {w : World} {d : DataW H} {fuel : Nat} {c : Value} {pl : List MemPlace} (hwt : ∀ n ∈ d.weights Try.prog 22, n ≤ reachBytes)
    (h : DataW.trod enc Try.prog w 0 (fun _ => true) true fuel 22 [c] = some (d, pl)) : ∃ ks, NumsArg w c ks := by
  rcases open_slice Try.underlying22 h with ⟨h1, h2⟩ | ⟨a, len, cap, m, n', D, Pl, h1, _, hl1, hm1, hm2, h2, h3⟩
  · simp only [List.cons.injEq, and_true] at h1
    exact ⟨[], none, 0, h1, fun i s hi => by simp at hi, by simp, by simp, by simp, fun _ => rfl, fun ad h => by cases h⟩
  · simp only [List.cons.injEq, and_true] at h1
    simp only [if_true] at hm2
    subst hm2
    rw [Try.cellsInt] at h2 h3
    have h2' : d = .slice ((List.range len).map D) ((List.range (m - len)).map fun j => D (len + j)) := congrArg Prod.fst h2
    rw [h2'] at hwt
    unfold maxLen at hm1
    have spot : 0 < m → a = ⟨a.block, a.off, none⟩ := by
      intro hm0
      obtain ⟨cs0, q0, _⟩ := h3 0 hm0
      obtain ⟨z0, _, p0⟩ := cells_one q0
      have hs := spot_none p0
      simpa only [Nat.zero_mul, Addr.add, if_true] using hs
    have each : ∀ i, i < len → ∃ v : Int, ∃ b off, some a = some (⟨b, off, none⟩ : Addr) ∧ w.cell? ⟨b, off + i, none⟩ = some (.int .i64 v) ∧ -9223372036854775808 ≤ v ∧ v ≤ 9223372036854775807 := by
      intro i hi
      obtain ⟨cs', q, htr⟩ := h3 i (by omega)
      obtain ⟨c0, rfl, p0⟩ := cells_one q
      obtain ⟨kk, e2, -, w2⟩ := DataW.trod_int Try.underlying3 htr
      have e2' : c0 = .int .i64 kk := by simpa using e2
      subst e2'
      have b2 := bounds_i64 w2
      have hs := spot (by omega)
      rw [hs] at p0 ⊢
      rw [add_plain, add_plain] at p0
      exact ⟨kk, _, _, rfl, by simpa using p0, by omega, by omega⟩
    obtain ⟨fs, hlen', hfs⟩ := list_of each
    have hbl : fs.length * 8 ≤ 140737488351232 := by
      have := hwt _ (by simp only [DataW.weights, Try.underlying22]; exact List.mem_cons_self)
      simp only [List.length_map, List.length_range, Try.bytesInt] at this
      rw [reach_eq] at this
      rw [hlen']
      have h5 : len * 8 ≤ m * 8 := Nat.mul_le_mul_right _ hl1
      omega
    exact ⟨fs, some a, m, by rw [hlen']; exact h1, fun i f hf => hfs i f hf, by omega, hm1, hbl, by simp, fun ad h => by cases h; exact spot⟩

theorem ints_of_arg {H : Type} {enc : TypeId × Value → H} {w : World} {base : Nat} {x : Value} {d : DataW H} {pl : List MemPlace} (hx : Value.okWide Try.prog w .any base 22 x) (h : DataW.Trod enc Try.prog w 0 (fun _ => true) true 22 x d pl)
    (hw : ∀ n ∈ d.weights Try.prog 22, n ≤ reachBytes) : ∃ ks, NumsArg w x ks := by
  obtain ⟨fuel, hf⟩ := h
  unfold Value.okWide at hx
  rw [Try.underlying22] at hx
  have hc : x.cells = #[x] ∨ ∃ cs, x = .agg cs := by cases x <;> simp [Value.cells]
  rcases hc with hc | ⟨cs, rfl⟩
  · rw [hc] at hf
    exact ints_of_trod hw hf
  · exfalso
    simp [Cell.okWide, Cell.ok, Try.underlying22] at hx

/-- Are two lists one? -/
def alike : List Int → List Int → Bool := fun a b => decide (a = b)

theorem alike_same (a : List Int) : alike a a = true := by simp [alike]

set_option maxRecDepth 100000 in
set_option maxHeartbeats 1600000 in
/-- SameInts. -/
theorem sameI_any (l m : List Int) (a b : Option Addr) (c d : Nat) (w : World) (hl : Nm w a c l) (hm : Nm w b d m) :
    Calls Try.prog 16 #[.slice a l.length c, .slice b m.length d] w fun e w' => e = .returned (.bool (alike l m)) ∧ Below w.heap.size w w' := by
  have HL : Hid (LayI w a l) := hl.1
  have HM : Hid (LayI w b m) := hm.1
  have hln : l.length ≤ 140737488351232 := by have := hl.2.2.2.1; omega
  have hmn : m.length ≤ 140737488351232 := by have := hm.2.2.2.1; omega
  clear hl hm
  by_cases hlen : l.length = m.length
  · have hq : ((l.length : Int) == (m.length : Int)) = true := by simp; omega
    have hq2 : ((l.length : Int) != (m.length : Int)) = false := by simp; omega
    have HLE : Hid (l.length = m.length) := hlen
    clear hlen
    go_enter Try.func16, Try.ntmps16
    go_wp2_with fail
    go_loopw [5] (fun v5 wr => ∃ i : Nat, i ≤ l.length ∧ v5 = .int .i64 (i : Int) ∧ Hid (l.take i = m.take i) ∧ Hid (Below w.heap.size w wr)) (fun v5 _ => l.length - (intOf v5).toNat)
    case atStart => exact ⟨0, Nat.zero_le _, rfl, (show l.take 0 = m.take 0 from by simp), Below.refl _ _⟩
    case round =>
      obtain ⟨i, hi, rfl, HT, HB⟩ := hrel
      by_cases hlt : i < l.length
      · obtain ⟨b1, o1, rfl, r1, _⟩ := HL.out.below HB.out i l[i] (List.getElem?_eq_getElem hlt)
        have hlt2 : i < m.length := by have := HLE.out; omega
        obtain ⟨b2, o2, rfl, r2, _⟩ := HM.out.below HB.out i m[i] (List.getElem?_eq_getElem hlt2)
        by_cases he : l[i] = m[i]
        · have HT' : Hid (l.take (i + 1) = m.take (i + 1)) := by show _ = _; rw [List.take_succ_eq_append_getElem hlt, List.take_succ_eq_append_getElem hlt2, HT.out, he]
          have he1 : (l[i] == m[i]) = true := by simpa using he
          have he2 : (l[i] != m[i]) = false := by simpa using he
          clear he
          go_wp2_with fail
          go_quiet (fail)
          go_wp2_with fail
          go_roundw
          case rel => exact ⟨i + 1, by omega, by go_num, HT'.out, nxt HB.out (Below_drewN _ _ _)⟩
          case measure => simp [intOf]; omega
        · have HA : Hid (alike l m = false) := by
            show _ = _
            simp only [alike, decide_eq_false_iff_not]
            intro e
            subst e
            exact he rfl
          have he1 : (l[i] == m[i]) = false := by simpa using he
          have he2 : (l[i] != m[i]) = true := by simpa using he
          clear he
          go_wp2_with fail
          go_quiet (fail)
          go_wp2_with fail
          go_ret
          exact ⟨by rw [HA.out]; rfl, nxt HB.out (Below_drewN _ _ _)⟩
      · have HA : Hid (alike l m = true) := by
          show _ = _
          simp only [alike, decide_eq_true_eq]
          have h := HT.out
          have hle := HLE.out
          rwa [List.take_of_length_le (by omega), List.take_of_length_le (by omega)] at h
        go_wp2_with fail
        go_ret
        exact ⟨by rw [HA.out]; rfl, HB.out⟩
  · have hq : ((l.length : Int) == (m.length : Int)) = false := by simp; omega
    have hq2 : ((l.length : Int) != (m.length : Int)) = true := by simp; omega
    have HA : Hid (alike l m = false) := by
      show _ = _
      simp only [alike, decide_eq_false_iff_not]
      intro e
      exact hlen (by rw [e])
    clear hlen
    go_enter Try.func16, Try.ntmps16
    go_wp2_with fail
    go_ret
    exact ⟨by rw [HA.out]; rfl, Below.refl _ _⟩

set_option maxRecDepth 100000 in
set_option maxHeartbeats 1600000 in
/-- CopyInts. -/
theorem copyI_any (l : List Int) (a : Option Addr) (c : Nat) (w : World) (hl : Nm w a c l) :
    Calls Try.prog 9 #[.slice a l.length c] w fun e w' => ∃ v, e = .returned v ∧ OwnI w' w.heap.size v l ∧ Below w.heap.size w w' := by
  have HL : Hid (Nm w a c l) := hl
  clear hl
  have hn : a = none → l.length = 0 ∧ c = 0 := fun e => by have := HL.out.2.1; have := HL.out.2.2.2.2.1 e; omega
  have HN : Hid (a = none → l.length = 0 ∧ c = 0) := hn
  clear hn
  have HW : Hid (∀ ad, a = some ad → ∀ i k, l[i]? = some k → w.cell? (ad.add i) = some (.int .i64 k)) := by
    intro ad e i k hk
    obtain ⟨b, off, e1, q, _⟩ := HL.out.1 i k hk
    rw [e] at e1
    cases e1
    rw [add_plain]
    exact q
  have HS : Hid ((([] : List Int).length + l.length) * 8 ≤ 140737488355328) := by show _ ≤ _; have := HL.out.2.2.2.1; simp only [List.length_nil]; omega
  go_enter Try.func9, Try.ntmps9
  go_wp2_with (refine wpList_appI _ rfl (.tmp 4) (.tmp 5) rfl w.heap.size _ [] l rfl (OwnI.nil _ _) a c rfl HN.out HW.out HS.out (Nat.le_refl _) ?_; intro v' w' h1 h2 h3; have H1 : Hid (OwnI w' w.heap.size v' ([] ++ l)) := h1; have H2 : Hid (w.grownBy w' (Value.slice none 0 0).ownBlock) := h2; clear h1 h2 h3)
  go_ret
  exact ⟨_, rfl, by simpa using H1.out, ⟨H2.out.os, H2.out.tape, H2.out.output, H2.out.size, fun j hj => H2.out.block j hj (by simp [Value.ownBlock])⟩⟩

end Go.Proofs.Yteceljjmandnmaa
