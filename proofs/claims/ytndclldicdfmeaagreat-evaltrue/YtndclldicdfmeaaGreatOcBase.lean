/-
  Rows of octets: of one's own, and such as came from somewhere.
-/
import Derived.Test.YtndclldicdfmeaaGreatRows
import Derived.WalkKit
import Derived.ProofKit
import Derived.OpenShut
import Derived.WalkLawsBesides
import Derived.BigQuiet
import Derived.Deep.QuietTactic
import Derived.Deep.Strs
import Derived.Deep.LoopGhost
import Derived.Deep.RegionWith
import Derived.Deep.DeepCutAuto
import Derived.Laws.AppendOwnNone
import Derived.ArgAppend
import Derived.SizedLaws
import Derived.Deep.Slices
import Derived.Lib.AppendStr
import Derived.Laws.IdiomStrings
import Derived.Laws.BytesArg
namespace Go.Proofs.YtndclldicdfmeaaGreat.Xp
open Go.ChangeShapes Go.WideShapes Go.ChangeAt Go.RowKit Go.Deep

theorem ownsRow_same {w w' : World} {base : Nat} {e : TypeId} {size : Nat} {v : Value} {n : Nat} {xs : List Value} (h : w.ownsRow base e size v n xs)
    (hh : ∀ g, v.ownBlock = some g → w'.heap[g]? = w.heap[g]?) : w'.ownsRow base e size v n xs := by
  obtain ⟨h1, h2⟩ := h
  refine ⟨h1, ?_⟩
  rcases h2 with h2 | ⟨g, cap, cur, hv, hg, hb, r⟩
  · exact Or.inl h2
  · exact Or.inr ⟨g, cap, cur, hv, hg, by rw [hh g (by rw [hv]; rfl)]; exact hb, r⟩

theorem lt_of_cell {w : World} {a : Addr} {v : Value} (h : w.cell? a = some v) : a.block < w.heap.size := by
  unfold World.cell? at h
  split at h
  · rename_i c _ _ hb
    exact lt_of_block hb
  · cases h

/-- append to a slice of the call's own: the row stays where it is, or is a new block; nothing but the row has turned. -/
theorem wpList_append_apart {P : Program} (w : World) {ops : Array Oper} {rest : List Oper} {o : Oper} {a : Act} {Q : Exit → Act → World → Prop} (hgd : o.guard = none) (s x : Operand) (t : TypeId)
    (ho : o.op = .call { callee := .builtin .append, args := #[s, x], argTypes := #[t, t] })
    (base : Nat) (e : TypeId) (i : TypeInfo) (z : Value) (size bytes : Nat) (ht : P.underlying t = some (.slice e)) (hi : P.info? e = some i) (hz : i.zero = some z)
    (hsize : i.size = size) (hby : i.bytes = bytes) (hzs : z.cells.size = size) (hsz : 0 < size)
    (v : Value) (n : Nat) (xs : List Value) (hs : a.eval s = v) (hown : w.ownsRow base e size v n xs)
    (ao : Option Addr) (m c : Nat) (news : List Value) (hx : a.eval x = .slice ao m c) (hnone : ao = none → m = 0 ∧ c = 0) (hl : news.length = m * size)
    (hnews : ∀ ad, ao = some ad → ∀ j u, news[j]? = some u → w.cell? (ad.add j) = some u) (h1 : ∀ u ∈ news, u.oneCell' = true)
    (h63 : n + m ≤ maxLen) (hbytes : (n + m) * bytes ≤ 140737488355328) (hbase : base ≤ w.heap.size)
    (h : ∀ v' w', w'.ownsRow base e size v' (n + m) (xs ++ news) → w.grownBy w' v.ownBlock → (v'.ownBlock = v.ownBlock ∨ ∀ g, v'.ownBlock = some g → w.heap.size ≤ g) → wpList P ops Q rest (a.put o.dst v') w') :
    wpList P ops Q (o :: rest) a w := by
  have lower : ∀ {w' : World} {v' : Value} {k : Nat} {ys : List Value}, w'.ownsRow w.heap.size e size v' k ys → w'.ownsRow base e size v' k ys ∧ ∀ g, v'.ownBlock = some g → w.heap.size ≤ g := by
    rintro w' v' k ys ⟨q1, q2⟩
    rcases q2 with ⟨rfl, rfl⟩ | ⟨g, cap, cur, rfl, hg, r⟩
    · exact ⟨⟨q1, Or.inl ⟨rfl, rfl⟩⟩, fun g hg => by simp [Value.ownBlock] at hg⟩
    · exact ⟨⟨q1, Or.inr ⟨g, cap, cur, rfl, by omega, r⟩⟩, fun g' hg' => by simp only [Value.ownBlock, Option.some.injEq] at hg'; omega⟩
  have wide : ∀ {w' : World} {r : Option Nat}, w.grownBy w' none → w.grownBy w' r := fun q => ⟨q.os, q.tape, q.output, q.size, fun k hk _ => q.block k hk (by simp)⟩
  cases ao with
  | none =>
    obtain ⟨rfl, rfl⟩ := hnone rfl
    have hn0 : news = [] := List.eq_nil_of_length_eq_zero (by simpa using hl)
    subst hn0
    refine wpList_append_own_none hgd s x t ho base e i size ht hi v n xs hs hown hx ?_
    exact h v w (by simpa using hown) (World.grownBy.refl _ _) (Or.inl rfl)
  | some ad =>
    have hown0 := hown
    obtain ⟨l0, hcase⟩ := hown
    rcases hcase with ⟨rfl, rfl⟩ | ⟨g, cap, cur, rfl, hg, hh, hnc, r⟩
    · have : xs = [] := List.eq_nil_of_length_eq_zero (by simpa using l0)
      subst this
      refine wpList_append_own w hgd s x t ho w.heap.size e i z size bytes ht hi hz hsize hby hzs hsz _ 0 [] hs (World.ownsRow_nil _ _ _ _) ad m c news hx hl (hnews ad rfl) h1 h63 hbytes (Nat.le_refl _) ?_
      intro v' w' q1 q2 _
      exact h v' w' (lower q1).1 q2 (Or.inr (lower q1).2)
    · by_cases hroom : n + m ≤ cap
      · refine wpList_append_fits w hgd s x t ho base e i size ht hi hsize g n cap xs hs hown0 ad m c news hx hl (hnews ad rfl) h1 hroom ?_
        intro w' q1 q2
        exact h _ w' q1 q2 (Or.inl rfl)
      · refine wpList_append_grows w hgd s x t ho e i z size bytes ht hi hz hsize hby hzs hsz (some ⟨g, 0, none⟩) n cap xs hs (by simp) l0 (fun b hb j u hu => by cases hb; exact hown0.cells (g := g) rfl j u hu) ad m c news hx hl (hnews ad rfl) h1 (by omega) h63 hbytes ?_
        intro v' w' q1 q2
        exact h v' w' (lower q1).1 (wide q2) (Or.inr (lower q1).2)

/-- Two ends, one behind the other. -/
theorem nxt {w w1 w2 : World} (h : Below w.heap.size w w1) (k : Below w1.heap.size w1 w2) : Below w.heap.size w w2 := h.trans (k.mono h.size)

theorem heap_new2 (w : World) (o o' : Obj) : ((w.alloc o).alloc o').heap[w.heap.size + 1]? = some o' := by
  have e : (w.alloc o).heap.size = w.heap.size + 1 := by simp
  rw [← e]
  exact heap_alloc_new _ _

theorem slice_of_own {w : World} {base : Nat} {e : TypeId} {size : Nat} {v : Value} {n : Nat} {xs : List Value} (h : w.ownsRow base e size v n xs) : ∃ a c, v = .slice a n c := by
  obtain ⟨_, h2⟩ := h
  rcases h2 with ⟨hv, hn⟩ | ⟨g, cap, cur, hv, _⟩
  · exact ⟨none, 0, by rw [hv, hn]⟩
  · exact ⟨_, _, hv⟩

theorem cap_of_own {w : World} {base : Nat} {e : TypeId} {size : Nat} {a : Option Addr} {l c n : Nat} {xs : List Value} (h : w.ownsRow base e size (.slice a l c) n xs) : l ≤ c ∧ c ≤ 9223372036854775807 := by
  obtain ⟨_, h2⟩ := h
  rcases h2 with ⟨hv, hn⟩ | ⟨g, cap, cur, hv, _, _, h1, h2, _⟩
  · simp only [Value.slice.injEq] at hv; omega
  · simp only [Value.slice.injEq] at hv; unfold maxLen at h2; omega

theorem ownsRow_base0 {w : World} {base : Nat} {e : TypeId} {size : Nat} {v : Value} {n : Nat} {xs : List Value} (h : w.ownsRow base e size v n xs) : w.ownsRow 0 e size v n xs := by
  obtain ⟨h1, h2⟩ := h
  refine ⟨h1, ?_⟩
  rcases h2 with h2 | ⟨g, cap, cur, hv, _, r⟩
  · exact Or.inl h2
  · exact Or.inr ⟨g, cap, cur, hv, Nat.zero_le _, r⟩

theorem keepc {W w1 : World} (hb : Below W.heap.size W w1) : ∀ a v, W.cell? a = some v → w1.cell? a = some v := fun a v h => by rw [hb.cell (lt_of_cell h)]; exact h

theorem Below_drewN (B : Nat) (w : World) (n : Nat) : Below B w (w.drewN n) := ⟨rfl, rfl, rfl, Nat.le_refl _, fun _ _ => rfl⟩

theorem num_any (n : Int) (w : World) : Calls Tryz.prog 14 #[.int .i64 n] w fun e w' => e = .returned (.int .i64 n) ∧ w' = w := by
  go_enter Tryz.func14, Tryz.ntmps14
  go_wp2_with fail
  go_ret
  exact ⟨rfl, rfl⟩

theorem below_one (w : World) (o : Obj) : Below w.heap.size w (w.alloc o) := (Below.refl _ _).alloc (Nat.le_refl _) _

/-- All but F's blocks is as it was. -/
structure Kept (F : Nat → Prop) (w w' : World) : Prop where
  os : w'.os = w.os
  tape : w'.tape = w.tape
  output : w'.output = w.output
  size : w.heap.size ≤ w'.heap.size
  block : ∀ b, b < w.heap.size → ¬ F b → w'.heap[b]? = w.heap[b]?

theorem Kept.refl (F : Nat → Prop) (w : World) : Kept F w w := ⟨rfl, rfl, rfl, Nat.le_refl _, fun _ _ _ => rfl⟩

theorem Kept.trans {F : Nat → Prop} {a b c : World} (h : Kept F a b) (k : Kept F b c) : Kept F a c :=
  ⟨k.os.trans h.os, k.tape.trans h.tape, k.output.trans h.output, Nat.le_trans h.size k.size, fun j hj hn => (k.block j (Nat.lt_of_lt_of_le hj h.size) hn).trans (h.block j hj hn)⟩

theorem Kept.mono {F F' : Nat → Prop} {a b : World} (h : Kept F a b) (hF : ∀ j, F j → F' j) : Kept F' a b := ⟨h.os, h.tape, h.output, h.size, fun j hj hn => h.block j hj fun q => hn (hF j q)⟩

theorem Kept.of_below {F : Nat → Prop} {a b : World} (h : Below a.heap.size a b) : Kept F a b := ⟨h.os, h.tape, h.output, h.size, fun j hj _ => h.block j hj⟩

theorem Kept.setCell {F : Nat → Prop} {a b : World} (h : Kept F a b) {g o : Nat} (v : Value) (hg : F g) : Kept F a (b.setCell ⟨g, o, none⟩ v) :=
  ⟨h.os, h.tape, h.output, by simpa [World.setCell] using h.size, fun j hj hn => by
    have : ¬ g = j := fun e => hn (by rw [← e]; exact hg)
    simpa [World.setCell, Array.getElem?_modify, this] using h.block j hj hn⟩

theorem set_one_cell {w : World} {g o : Nat} {cur : Array Value} {t : TypeId} (h : w.heap[g]? = some (.cells cur t (0, 0))) (v : Value) : (w.setCell ⟨g, o, none⟩ v).heap[g]? = some (.cells (cur.setIfInBounds o v) t (0, 0)) := by
  simp [World.setCell, Array.getElem?_modify, h]

theorem cell_of {w : World} {g : Nat} {cur : Array Value} {t : TypeId} (h : w.heap[g]? = some (.cells cur t (0, 0))) (j : Nat) : w.cell? ⟨g, j, none⟩ = cur[j]? ∧ w.frozen? ⟨g, j, none⟩ = false := by
  simp [World.cell?, World.frozen?, h]

theorem Tryz.own : ownKnob Tryz.prog.godebug = none := by kernel_rfl

theorem Tryz.laidOut : laidOutB Tryz.prog = true := by kernel_rfl

theorem reach_eq : reachBytes = 140737488351232 := rfl

theorem weightsAll_mem {H : Type} {P : Program} {e : TypeId} : ∀ {l : List (DataW H)} {d : DataW H}, d ∈ l → ∀ n ∈ d.weights P e, n ∈ DataW.weightsAll P e l
  | d' :: r, d, hd, n, hn => by
    simp only [DataW.weightsAll, List.mem_append]
    rcases List.mem_cons.1 hd with rfl | h
    · exact Or.inl hn
    · exact Or.inr (weightsAll_mem h n hn)

theorem spot_none {w : World} {a : Addr} {v : Value} (h : w.cell? a = some v) : a = ⟨a.block, a.off, none⟩ := by
  rcases a with ⟨b, o, sp⟩
  cases sp with
  | none => rfl
  | some q =>
    simp only [World.cell?] at h
    split at h
    · simp at h
    · cases h

theorem list_of {α : Type} {p : Nat → α → Prop} {n : Nat} (h : ∀ i, i < n → ∃ u, p i u) : ∃ l : List α, l.length = n ∧ ∀ i u, l[i]? = some u → p i u := by
  induction n with
  | zero => exact ⟨[], rfl, fun i u hu => by simp at hu⟩
  | succ n ih =>
    obtain ⟨l, hl, hp⟩ := ih fun i hi => h i (by omega)
    obtain ⟨x, hx⟩ := h n (by omega)
    refine ⟨l ++ [x], by simp [hl], fun i u hu => ?_⟩
    by_cases hi : i < l.length
    · rw [List.getElem?_append_left hi] at hu; exact hp i u hu
    · rw [List.getElem?_append_right (by omega)] at hu
      have : i - l.length = 0 := by
        have := (List.getElem?_eq_some_iff.1 hu).1
        simp at this
        omega
      rw [this] at hu
      simp at hu
      have e : i = n := by omega
      rw [← hu, e]
      exact hx

/-- The worlds in which all that was there stays. -/
def Cls (w : World) : Type := { x : World // Below w.heap.size w x }

theorem wp_region_cls {P : Program} {id : Nat} {Q : Exit → Act → World → Prop} {a : Act} {w : World} {l : List Oper} (hm : P.follows .mixedOrders = true) (hB : Region.lexB .any l.toArray = true)
    (h : wpQuiet P l.toArray (fun w' => ∃ s : Cls w, w' = s.1) (fun a' => ∀ w', (∃ s : Cls w, w' = s.1) → Q .normal a' w') l a) : (Code.region id l.toArray true).wp P Q a w :=
  wp_region_quiet (C := fun w' => ∃ s : Cls w, w' = s.1) hm hB ⟨⟨_, (Below.refl _ w).drew⟩, rfl⟩ (by simpa using h)

theorem Calls.cls {P : Program} {f : FuncId} {args : Array Value} {w : World} {s : Cls w} {v : Value} (h : Calls P f args s.1 fun e w' => e = .returned v ∧ Below s.1.heap.size s.1 w') :
    Calls P f args s.1 fun e w'' => e = .returned v ∧ ∃ m : Cls w, w'' = m.1 :=
  h.mono fun _ w' ⟨he, hb⟩ => ⟨he, ⟨w', nxt s.2 hb⟩, rfl⟩

theorem Calls.cls_same {P : Program} {f : FuncId} {args : Array Value} {w : World} {s : Cls w} {v : Value} (h : Calls P f args s.1 fun e w' => e = .returned v ∧ w' = s.1) :
    Calls P f args s.1 fun e w'' => e = .returned v ∧ ∃ m : Cls w, w'' = m.1 :=
  h.mono fun _ _ ⟨he, hb⟩ => ⟨he, s, hb⟩

theorem Cls.cell {w : World} {a : Addr} {v : Value} (h : w.cell? a = some v) (s : Cls w) : s.1.cell? a = some v := keepc s.2 _ _ h

/-- Octets as cells. -/
def cellsO (l : List UInt8) : List Value := l.map fun o => Value.int .u8 (o.toNat : Int)

theorem cellsO_append (l m : List UInt8) : cellsO (l ++ m) = cellsO l ++ cellsO m := by simp [cellsO]

theorem cellsO_length (l : List UInt8) : (cellsO l).length = l.length := by simp [cellsO]

/-- A row of octets of one's own. -/
def Bs (w : World) (B : Nat) (s : Value) (l : List UInt8) : Prop := w.ownsRow B 5 1 s l.length (cellsO l)

/-- A row has become another: nothing but the row has turned. -/
structure RowTo (w w' : World) (s s' : Value) : Prop where
  grown : w.grownBy w' s.ownBlock
  place : s'.ownBlock = s.ownBlock ∨ ∀ g, s'.ownBlock = some g → w.heap.size ≤ g

theorem RowTo.refl (w : World) (s : Value) : RowTo w w s s := ⟨World.grownBy.refl _ _, Or.inl rfl⟩

theorem RowTo.trans {w w1 w2 : World} {s s1 s2 : Value} (h : RowTo w w1 s s1) (k : RowTo w1 w2 s1 s2) : RowTo w w2 s s2 := by
  have hs := h.grown.size
  refine ⟨⟨k.grown.os.trans h.grown.os, k.grown.tape.trans h.grown.tape, k.grown.output.trans h.grown.output, Nat.le_trans hs k.grown.size, ?_⟩, ?_⟩
  · intro j hj hn
    rw [k.grown.block j (by omega) ?_]
    · exact h.grown.block j hj hn
    · rcases h.place with e | e
      · rw [e]; exact hn
      · intro e'; have := e j e'.symm; omega
  · rcases k.place with e | e
    · rcases h.place with e' | e'
      · exact Or.inl (e.trans e')
      · exact Or.inr fun g hg => e' g (by rw [← e]; exact hg)
    · exact Or.inr fun g hg => Nat.le_trans hs (e g hg)

theorem RowTo.pre {w w1 w2 : World} {s s' : Value} (h : Below w.heap.size w w1) (k : RowTo w1 w2 s s') : RowTo w w2 s s' := by
  have hs := h.size
  refine ⟨⟨k.grown.os.trans h.os, k.grown.tape.trans h.tape, k.grown.output.trans h.output, Nat.le_trans hs k.grown.size, fun j hj hn => (k.grown.block j (by omega) hn).trans (h.block j hj)⟩, k.place.imp id fun e g hg => Nat.le_trans hs (e g hg)⟩

theorem RowTo.post {w w1 w2 : World} {s s' : Value} (k : RowTo w w1 s s') (h : Below w1.heap.size w1 w2) : RowTo w w2 s s' := by
  have hs := k.grown.size
  refine ⟨⟨h.os.trans k.grown.os, h.tape.trans k.grown.tape, h.output.trans k.grown.output, Nat.le_trans hs h.size, fun j hj hn => (h.block j (by omega)).trans (k.grown.block j hj hn)⟩, k.place⟩

theorem RowTo.below {w w' : World} {s s' : Value} {B : Nat} (k : RowTo w w' s s') (hB : B ≤ w.heap.size) (hs : ∀ g, s.ownBlock = some g → B ≤ g) : Below B w w' :=
  ⟨k.grown.os, k.grown.tape, k.grown.output, k.grown.size, fun j hj => k.grown.block j (by omega) fun e => by have := hs j e.symm; omega⟩

theorem RowTo.block {w w' : World} {s s' : Value} (k : RowTo w w' s s') {g : Nat} (hg : g < w.heap.size) (hn : s.ownBlock ≠ some g) : w'.heap[g]? = w.heap[g]? := k.grown.block g hg fun e => hn e.symm

theorem Bs.base {w : World} {B : Nat} {s : Value} {l : List UInt8} (h : Bs w B s l) : ∀ g, s.ownBlock = some g → B ≤ g ∧ g < w.heap.size := h.lt

theorem Bs.nil (w : World) (B : Nat) : Bs w B (.slice none 0 0) [] := World.ownsRow_nil _ _ _ _

theorem Bs.below {w w' : World} {B : Nat} {s : Value} {l : List UInt8} (h : Bs w B s l) (hb : Below w.heap.size w w') : Bs w' B s l := ownsRow_same h fun g hg => hb.block g (h.lt g hg).2

theorem Bs.shape {w : World} {B : Nat} {s : Value} {l : List UInt8} (h : Bs w B s l) : ∃ a c, s = .slice a l.length c := slice_of_own h

theorem Bs.up {w : World} {B B' : Nat} {s : Value} {l : List UInt8} (h : Bs w B s l) (hn : ∀ g, s.ownBlock = some g → B' ≤ g) : Bs w B' s l := by
  obtain ⟨h1, h2⟩ := h
  rcases h2 with ⟨rfl, h3⟩ | ⟨g, cap, cur, rfl, hg, r⟩
  · exact ⟨h1, Or.inl ⟨rfl, h3⟩⟩
  · exact ⟨h1, Or.inr ⟨g, cap, cur, rfl, hn g rfl, r⟩⟩

theorem Tryz.infoU8 : (Tryz.prog.info? 5).map (fun i => (i.zero, i.size, i.bytes)) = some (some (.int .u8 0), 1, 1) := by kernel_rfl

theorem one_cells (l : List UInt8) : ∀ u ∈ cellsO l, u.oneCell' = true := by
  intro u hu
  simp only [cellsO, List.mem_map] at hu
  obtain ⟨o, _, rfl⟩ := hu
  rfl

/-- append of octets that lie somewhere. -/
theorem wpList_app (w : World) {ops : Array Oper} {rest : List Oper} {o : Oper} {a : Act} {Q : Exit → Act → World → Prop} (hgd : o.guard = none) (sl x : Operand)
    (ho : o.op = .call { callee := .builtin .append, args := #[sl, x], argTypes := #[158, 158] })
    (B : Nat) (s : Value) (l m : List UInt8) (hs : a.eval sl = s) (hown : Bs w B s l) (ad : Addr) (c : Nat) (hx : a.eval x = .slice (some ad) m.length c)
    (hnews : ∀ j u, m[j]? = some u → w.cell? (ad.add j) = some (.int .u8 (u.toNat : Int))) (hlen : l.length + m.length ≤ 140737488355328) (hbase : B ≤ w.heap.size)
    (h : ∀ s' w', Bs w' B s' (l ++ m) → RowTo w w' s s' → wpList Tryz.prog ops Q rest (a.put o.dst s') w') : wpList Tryz.prog ops Q (o :: rest) a w := by
  obtain ⟨i0, hi, hz0, hz1, hz2⟩ := info_parts Tryz.infoU8
  refine wpList_append_apart w hgd sl x 158 ho B 5 i0 _ 1 1 Tryz.underlying158 hi hz0 hz1 hz2 rfl (by decide) s l.length (cellsO l) hs hown (some ad) m.length c (cellsO m) hx (by simp) (by rw [cellsO_length]; omega) ?_ (one_cells m) (by unfold maxLen; omega) (by omega) hbase ?_
  · intro ad' e j u hj
    cases e
    simp only [cellsO, List.getElem?_map, Option.map_eq_some_iff] at hj
    obtain ⟨o', ho', rfl⟩ := hj
    exact hnews j o' ho'
  · intro v' w' h1 h2 h3
    refine h v' w' ?_ ⟨h2, h3⟩
    unfold Bs
    rw [List.length_append, cellsO_append]
    exact h1

theorem heap_alloc_old' (w : World) (o : Obj) (k : Nat) (h : k < w.heap.size) : (w.alloc o).heap[k]? = w.heap[k]? := Below.heap_alloc _ _ _ h

theorem newCells (w : World) (cs : Array Value) (t : TypeId) (j : Nat) (v : Value) (h : cs[j]? = some v) : (w.alloc (.cells cs t)).cell? ((⟨w.heap.size, 0, none⟩ : Addr).add j) = some v := by
  rw [add_plain]
  have := heap_alloc_new w (.cells cs t)
  simp only [World.cell?, this]
  simpa using h

/-- Octets just laid. -/
theorem new_octets (w : World) (t : TypeId) (m : List UInt8) (cs : Array Value) (h : cs.toList = cellsO m) : ∀ j u, m[j]? = some u → (w.alloc (.cells cs t)).cell? ((⟨w.heap.size, 0, none⟩ : Addr).add j) = some (.int .u8 (u.toNat : Int)) := by
  intro j u hj
  refine newCells w _ _ j _ ?_
  rw [← Array.getElem?_toList, h, cellsO, List.getElem?_map, hj]
  rfl

/-- Octets that lie somewhere. -/
def LayB (w : World) (a : Option Addr) (l : List UInt8) : Prop := ∀ i o, l[i]? = some o → ∃ b off, a = some ⟨b, off, none⟩ ∧ w.cell? ⟨b, off + i, none⟩ = some (.int .u8 (o.toNat : Int))

theorem LayB.below {w w' : World} {a : Option Addr} {l : List UInt8} (h : LayB w a l) (hb : Below w.heap.size w w') : LayB w' a l := by
  intro i o hi
  obtain ⟨b, off, e, c⟩ := h i o hi
  exact ⟨b, off, e, keepc hb _ _ c⟩

theorem Bs.lay {w : World} {B : Nat} {a : Option Addr} {n c : Nat} {l : List UInt8} (h : Bs w B (.slice a n c) l) : LayB w a l := by
  intro i o hi
  have hc : (cellsO l)[i]? = some (.int .u8 (o.toNat : Int)) := by simp [cellsO, hi]
  obtain ⟨h1, h2⟩ := h
  rcases h2 with ⟨h3, h4⟩ | ⟨g, cap, cur, h3, h4, h5⟩
  · have : l = [] := List.eq_nil_of_length_eq_zero h4
    subst this
    simp at hi
  · have hown : w.ownsRow B 5 1 (.slice a n c) l.length (cellsO l) := ⟨h1, Or.inr ⟨g, cap, cur, h3, h4, h5⟩⟩
    simp only [Value.slice.injEq] at h3
    obtain ⟨rfl, rfl, rfl⟩ := h3
    have := hown.cells (g := g) rfl i _ hc
    rw [add_plain] at this
    exact ⟨g, 0, rfl, this⟩

theorem run_str {w : World} {a : Option Addr} {c : Nat} {l : List UInt8} (h : LayB w a l) : (convert 158 9 (.slice a l.length c)).run Tryz.prog w = .ok (.string ⟨l.toArray⟩) w := by
  cases a with
  | none =>
    have : l = [] := by
      cases l with
      | nil => rfl
      | cons o l => obtain ⟨b, off, e, _⟩ := h 0 o rfl; cases e
    subst this
    exact run_convert_bytes_nil w 158 5 Tryz.underlying158 Tryz.underlying5 _ _ 9 Tryz.underlying9
  | some ad =>
    refine run_convert_bytes_back w 158 9 5 ad c l Tryz.underlying158 Tryz.underlying5 Tryz.underlying9 ?_
    intro j hj
    obtain ⟨b, off, e, hc⟩ := h j l[j] (by simp)
    cases e
    rw [add_plain]
    exact hc

theorem wpList_strG (w : World) {ops : Array Oper} {rest : List Oper} {o : Oper} {a : Act} {Q : Exit → Act → World → Prop} (x : Operand) (ho : o.op = .convert 158 9 x) (hw : Region.wanted o (yielded ops a.tmps) = true)
    (ad : Option Addr) (c n : Nat) (l : List UInt8) (hn : l.length = n) (hx : a.eval x = .slice ad n c) (hl : LayB w ad l) (h : wpList Tryz.prog ops Q rest (a.put o.dst (.string ⟨l.toArray⟩)) w) : wpList Tryz.prog ops Q (o :: rest) a w := by
  subst hn
  refine wpList_step fun K hK => ?_
  rw [if_pos hw]
  unfold Oper.wp execOp
  simp only [ho, hx, run_str hl, Sem.run_bind, Sem.run_pure, Result.andThen_ok]
  exact hK _ _ h

theorem wpList_str (w : World) {ops : Array Oper} {rest : List Oper} {o : Oper} {a : Act} {Q : Exit → Act → World → Prop} (hgd : o.guard = none) (x : Operand) (ho : o.op = .convert 158 9 x)
    (ad : Option Addr) (c : Nat) (l : List UInt8) (hx : a.eval x = .slice ad l.length c) (hl : LayB w ad l) (h : wpList Tryz.prog ops Q rest (a.put o.dst (.string ⟨l.toArray⟩)) w) : wpList Tryz.prog ops Q (o :: rest) a w := by
  refine wpList_plain hgd fun K hK => ?_
  unfold Oper.wp execOp
  simp only [ho, hx, run_str hl, Sem.run_bind, Sem.run_pure, Result.andThen_ok]
  exact hK _ _ h

/-- What the octets keep to. -/
def Oct (w : World) (a : Option Addr) (c : Nat) (bs : List UInt8) : Prop := LayB w a bs ∧ bs.length ≤ c ∧ c ≤ 9223372036854775807 ∧ bs.length ≤ 200000000000000 ∧ (a = none → c = 0) ∧ (∀ ad, a = some ad → 0 < c → ad = ⟨ad.block, ad.off, none⟩)

theorem Oct.below {w w' : World} {a : Option Addr} {c : Nat} {bs : List UInt8} (h : Oct w a c bs) (hb : Below w.heap.size w w') : Oct w' a c bs := ⟨h.1.below hb, h.2⟩

theorem Bs.oct {w : World} {B : Nat} {a : Option Addr} {n c : Nat} {l : List UInt8} (h : Bs w B (.slice a n c) l) (hl : l.length ≤ 200000000000000) : Oct w a c l := by
  refine ⟨h.lay, ?_⟩
  obtain ⟨h1, h2⟩ := h
  rcases h2 with ⟨h3, h4⟩ | ⟨g, cap, cur, h3, h4, h5, h6, h7, _⟩
  · simp only [Value.slice.injEq] at h3
    obtain ⟨rfl, rfl, rfl⟩ := h3
    exact ⟨by omega, by omega, hl, fun _ => rfl, fun ad h => by cases h⟩
  · simp only [Value.slice.injEq] at h3
    obtain ⟨rfl, rfl, rfl⟩ := h3
    unfold maxLen at h7
    exact ⟨h6, by omega, hl, by simp, fun ad h _ => by cases h; rfl⟩

end Go.Proofs.YtndclldicdfmeaaGreat.Xp
