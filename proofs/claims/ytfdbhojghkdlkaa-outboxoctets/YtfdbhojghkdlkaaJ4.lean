/-
  Octets of a value that are cut off are refused: plain mathematics.
-/
import Derived.Test.YtfdbhojghkdlkaaPkRead
import Derived.Test.YtfdbhojghkdlkaaVaCopy
import Derived.Lib.AppendStr
namespace Go.Proofs.Ytfdbhojghkdlkaa
open Go.ChangeShapes Go.WideShapes Go.ChangeAt Go.RowKit
open Fl

theorem bits_cut {b : Int} {l x : List UInt8} (h : octs b = l ++ x) (hx : x ≠ []) : rdBits l = .error 8 := by
  have h1 := congrArg List.length h
  rw [octs_length, List.length_append] at h1
  have h2 := List.length_pos_iff.2 hx
  unfold rdBits nxtN
  rw [if_pos (by omega)]

theorem txt_cut {t : ByteArray} {lo hi : Nat} (h1 : lo ≤ t.size) (h2 : t.size ≤ hi) (h3 : t.size < 256) {l x : List UInt8} (h : txt t = l ++ x) (hx : x ≠ []) : rdText lo hi l = .error 8 := by
  cases l with
  | nil => rfl
  | cons o l =>
    simp only [txt, List.cons_append, List.cons.injEq] at h
    obtain ⟨rfl, h⟩ := h
    have h4 := congrArg List.length h
    have hl : t.toList.length = t.size := by rw [ByteArray.toList_eq]; rfl
    rw [hl, List.length_append] at h4
    have h5 := List.length_pos_iff.2 hx
    have hs : (UInt8.ofNat t.size).toNat = t.size := by simp; omega
    simp only [rdText, hs]
    rw [if_neg (by omega)]
    unfold nxtN
    rw [if_pos (by omega)]

/-- Cut within the first, or behind it. -/
theorem cut_cases {a c l x : List UInt8} (h : a ++ c = l ++ x) (_hx : x ≠ []) : (∃ y, a = l ++ y ∧ y ≠ []) ∨ ∃ l', l = a ++ l' ∧ c = l' ++ x := by
  rcases List.append_eq_append_iff.1 h with ⟨l', h1, h2⟩ | ⟨y, h1, h2⟩
  · exact Or.inr ⟨l', h1, h2⟩
  · by_cases hy : y = []
    · subst hy
      exact Or.inr ⟨[], by simpa using h1.symm, by simpa using h2.symm⟩
    · exact Or.inl ⟨y, h1, hy⟩

theorem items_cut {n : Nat} (hcut : ∀ u : V n, okV n u → bitsV n u → ∀ l x, enc n u = l ++ x → x ≠ [] → ∀ p, rd n (l, p) = .error 8) :
    ∀ (its acc : List (V n)) (l x : List UInt8) (p : Nat), (∀ u ∈ its, okV n u) → (∀ u ∈ its, bitsV n u) → (its.map (enc n)).flatten = l ++ x → x ≠ [] → iterE (stepI (rd n)) its.length (acc, (l, p)) = .error 8
  | [], acc, l, x, p, _, _, h, hx => by simp at h; exact absurd h.2 hx
  | u :: its, acc, l, x, p, ho, hb, h, hx => by
    simp only [List.map_cons, List.flatten_cons] at h
    rcases cut_cases h hx with ⟨y, h1, h2⟩ | ⟨l', rfl, h2⟩
    · simp only [List.length_cons, iterE, stepI, hcut u (ho u (by simp)) (hb u (by simp)) l y h1 h2]
    · simp only [List.length_cons, iterE, stepI, rd_enc n u (ho u (by simp)) (hb u (by simp))]
      exact items_cut hcut its _ l' x _ (fun v hv => ho v (by simp [hv])) (fun v hv => hb v (by simp [hv])) h2 hx

theorem fields_cut {n : Nat} (hcut : ∀ u : V n, okV n u → bitsV n u → ∀ l x, enc n u = l ++ x → x ≠ [] → ∀ p, rd n (l, p) = .error 8) :
    ∀ (ks : List ByteArray) (its : List (V n)) (ka : List ByteArray) (acc : List (V n)) (l x : List UInt8) (p : Nat), ks.length = its.length → rise ka.getLast? ks → (∀ u ∈ its, okV n u) → (∀ u ∈ its, bitsV n u) →
      (List.zipWith (fun s e => txt s ++ e) ks (its.map (enc n))).flatten = l ++ x → x ≠ [] → iterE (stepF (rd n)) its.length (ka, acc, (l, p)) = .error 8
  | [], [], ka, acc, l, x, p, _, _, _, _, h, hx => by simp at h; exact absurd h.2 hx
  | [], _ :: _, _, _, _, _, _, h, _, _, _, _, _ => by simp at h
  | _ :: _, [], _, _, _, _, _, h, _, _, _, _, _ => by simp at h
  | k :: ks, u :: its, ka, acc, l, x, p, hl, hr, ho, hb, h, hx => by
    obtain ⟨r1, r2, r3⟩ := hr
    simp only [List.map_cons, List.zipWith_cons_cons, List.flatten_cons, List.append_assoc] at h
    rcases cut_cases h hx with ⟨y, h1, h2⟩ | ⟨l1, rfl, h2⟩
    · simp only [List.length_cons, iterE, stepF, txt_cut (key_le r1).1 (key_le r1).2 (by have := (key_le r1).2; omega) h1 h2]
    · have h3 := txt_back k 1 16 (key_le r1).1 (key_le r1).2 (by have := (key_le r1).2; omega) l1
      rcases cut_cases h2 hx with ⟨y, h4, h5⟩ | ⟨l2, rfl, h4⟩
      · simp only [List.length_cons, iterE, stepF, h3, r2, Bool.true_eq_false, if_false, hcut u (ho u (by simp)) (hb u (by simp)) l1 y h4 h5]
      · simp only [List.length_cons, iterE, stepF, h3, r2, Bool.true_eq_false, if_false, rd_enc n u (ho u (by simp)) (hb u (by simp))]
        exact fields_cut hcut ks its _ _ l2 x _ (by simpa using hl) (by simpa using r3) (fun v hv => ho v (by simp [hv])) (fun v hv => hb v (by simp [hv])) h4 hx

/-- Octets that are cut off. -/
theorem rd_cut : ∀ (n : Nat) (u : V n), okV n u → bitsV n u → ∀ l x, enc n u = l ++ x → x ≠ [] → ∀ p, rd n (l, p) = .error 8
  | 0, u, _, _, _, _, _, _, _ => u.elim
  | n + 1, u, ho, hb, [], x, _, _, p => rfl
  | n + 1, u, ho, hb, o :: l, x, h, hx, p => by
    obtain ⟨k, b, t, ks, its⟩ := u
    obtain ⟨hm, hos⟩ := ho
    obtain ⟨hU, hbs⟩ := hb
    have hm' := may_iff.1 hm
    have hit : ∀ {l : List (V n)}, l.length = 0 → l = [] := fun h => List.eq_nil_of_length_eq_zero h
    generalize hil : its.length = il at hm'
    cases hm' with
    | nothing => simp [enc] at h; exact absurd h.2.2 hx
    | truth b _ => simp [enc] at h; exact absurd h.2.2 hx
    | number b _ =>
      simp only [enc, show ¬ (2 : Int) = 0 by decide, show ¬ (2 : Int) = 1 by decide, if_false, if_true, List.cons_append, List.cons.injEq] at h
      obtain ⟨rfl, h⟩ := h
      simp only [rd, show (3 : UInt8).toNat = 3 by rfl, show ¬ (3 : Nat) = 0 by decide, show ¬ ((3 : Nat) = 1 ∨ (3 : Nat) = 2) by decide, if_false, if_true, bits_cut h hx]
    | text t hs =>
      simp only [enc, show ¬ (3 : Int) = 0 by decide, show ¬ (3 : Int) = 1 by decide, show ¬ (3 : Int) = 2 by decide, if_false, if_true, List.cons_append, List.cons.injEq] at h
      obtain ⟨rfl, h⟩ := h
      simp only [rd, show (4 : UInt8).toNat = 4 by rfl, show ¬ (4 : Nat) = 0 by decide, show ¬ ((4 : Nat) = 1 ∨ (4 : Nat) = 2) by decide, show ¬ (4 : Nat) = 3 by decide, if_false, if_true, txt_cut (Nat.zero_le _) hs (by omega) h hx]
    | list _ hs =>
      subst hil
      simp only [enc, pcs, show ¬ (4 : Int) = 0 by decide, show ¬ (4 : Int) = 1 by decide, show ¬ (4 : Int) = 2 by decide, show ¬ (4 : Int) = 3 by decide, show ¬ (4 : Int) = 5 by decide, if_false, if_true, List.cons_append, List.cons.injEq] at h
      obtain ⟨rfl, h⟩ := h
      cases l with
      | nil => rfl
      | cons o l =>
        simp only [List.cons_append, List.cons.injEq] at h
        obtain ⟨rfl, h⟩ := h
        simp only [rd, show (5 : UInt8).toNat = 5 by rfl, show ¬ (5 : Nat) = 0 by decide, show ¬ ((5 : Nat) = 1 ∨ (5 : Nat) = 2) by decide, show ¬ (5 : Nat) = 3 by decide, show ¬ (5 : Nat) = 4 by decide, if_false, if_true, count_back its.length hs, items_cut (fun u => rd_cut n u) its [] l x (p + 1) hos hbs h hx]
    | record _ hs hk =>
      simp only [enc, pcs, show ¬ (5 : Int) = 0 by decide, show ¬ (5 : Int) = 1 by decide, show ¬ (5 : Int) = 2 by decide, show ¬ (5 : Int) = 3 by decide, show ¬ (5 : Int) = 4 by decide, if_false, if_true, List.cons_append, List.cons.injEq] at h
      obtain ⟨rfl, h⟩ := h
      cases l with
      | nil => rfl
      | cons o l =>
        simp only [List.cons_append, List.cons.injEq] at h
        obtain ⟨rfl, h⟩ := h
        simp only [rd, show (6 : UInt8).toNat = 6 by rfl, show ¬ (6 : Nat) = 0 by decide, show ¬ ((6 : Nat) = 1 ∨ (6 : Nat) = 2) by decide, show ¬ (6 : Nat) = 3 by decide, show ¬ (6 : Nat) = 4 by decide, show ¬ (6 : Nat) = 5 by decide, if_false, if_true, count_back its.length (by omega), fields_cut (fun u => rd_cut n u) ks its [] [] l x (p + 1) hil.symm (rise_of_keys hk) hos hbs h hx]
end Go.Proofs.Ytfdbhojghkdlkaa

/-
  Two variables, and what stands in them.
-/
namespace Go.Proofs.Ytfdbhojghkdlkaa
open Go.ChangeShapes Go.WideShapes Go.ChangeAt Go.RowKit

/-- Two boxes, and what stands in them. -/
def Two (w w' : World) (a b : Obj) : Prop := w'.heap[w.heap.size]? = some a ∧ w'.heap[w.heap.size + 1]? = some b
theorem Two.below {w w' w'' : World} {a b : Obj} (h : Two w w' a b) (hb : Below w'.heap.size w' w'') : Two w w'' a b :=
  ⟨(hb.block _ (lt_of_block h.1)).trans h.1, (hb.block _ (lt_of_block h.2)).trans h.2⟩
theorem Two.new (w : World) (o o' : Obj) {w1 : World} (hb : Below ((w.alloc o).alloc o').heap.size ((w.alloc o).alloc o') w1) : Two w w1 o o' := by
  refine ⟨?_, ?_⟩
  · rw [hb.block _ (by simp; omega), Below.heap_alloc _ _ _ (by simp)]
    exact heap_alloc_new _ _
  · rw [hb.block _ (by simp)]
    exact heap_new2 _ _ _
end Go.Proofs.Ytfdbhojghkdlkaa

/-
  A row of octets of one's own, and what is appended to it.
-/
namespace Go.Proofs.Ytfdbhojghkdlkaa
open Go.ChangeShapes Go.WideShapes Go.ChangeAt Go.RowKit
open Fl

/-- Octets as cells. -/
def cellsO (l : List UInt8) : List Value := l.map fun o => Value.int .u8 (o.toNat : Int)

theorem cellsO_append (l m : List UInt8) : cellsO (l ++ m) = cellsO l ++ cellsO m := by simp [cellsO]
theorem cellsO_length (l : List UInt8) : (cellsO l).length = l.length := by simp [cellsO]

/-- A row of octets of one's own. -/
def Bs (w : World) (B : Nat) (s : Value) (l : List UInt8) : Prop := w.ownsRow B 5 1 s l.length (cellsO l)

/-- A row has become another: nothing but the row has turned. -/
structure RowTo (w w' : World) (s s' : Value) : Prop where
  grown : w.grownBy w' s.ownBlock
  place : s'.ownBlock = s.ownBlock ∨ ∀ g, s'.ownBlock = some g → w.heap.size ≤ g

theorem RowTo.refl (w : World) (s : Value) : RowTo w w s s := ⟨World.grownBy.refl _ _, Or.inl rfl⟩
theorem RowTo.trans {w w1 w2 : World} {s s1 s2 : Value} (h : RowTo w w1 s s1) (k : RowTo w1 w2 s1 s2) : RowTo w w2 s s2 := by
  have hs := h.grown.size
  refine ⟨⟨k.grown.os.trans h.grown.os, k.grown.tape.trans h.grown.tape, k.grown.output.trans h.grown.output, Nat.le_trans hs k.grown.size, ?_⟩, ?_⟩
  · intro j hj hn
    rw [k.grown.block j (by omega) ?_]
    · exact h.grown.block j hj hn
    · rcases h.place with e | e
      · rw [e]; exact hn
      · intro e'; have := e j e'.symm; omega
  · rcases k.place with e | e
    · rcases h.place with e' | e'
      · exact Or.inl (e.trans e')
      · exact Or.inr fun g hg => e' g (by rw [← e]; exact hg)
    · exact Or.inr fun g hg => Nat.le_trans hs (e g hg)
theorem RowTo.pre {w w1 w2 : World} {s s' : Value} (h : Below w.heap.size w w1) (k : RowTo w1 w2 s s') : RowTo w w2 s s' := by
  have hs := h.size
  refine ⟨⟨k.grown.os.trans h.os, k.grown.tape.trans h.tape, k.grown.output.trans h.output, Nat.le_trans hs k.grown.size, fun j hj hn => (k.grown.block j (by omega) hn).trans (h.block j hj)⟩, k.place.imp id fun e g hg => Nat.le_trans hs (e g hg)⟩
theorem RowTo.post {w w1 w2 : World} {s s' : Value} (k : RowTo w w1 s s') (h : Below w1.heap.size w1 w2) : RowTo w w2 s s' := by
  have hs := k.grown.size
  refine ⟨⟨h.os.trans k.grown.os, h.tape.trans k.grown.tape, h.output.trans k.grown.output, Nat.le_trans hs h.size, fun j hj hn => (h.block j (by omega)).trans (k.grown.block j hj hn)⟩, k.place⟩
theorem RowTo.below {w w' : World} {s s' : Value} {B : Nat} (k : RowTo w w' s s') (hB : B ≤ w.heap.size) (hs : ∀ g, s.ownBlock = some g → B ≤ g) : Below B w w' :=
  ⟨k.grown.os, k.grown.tape, k.grown.output, k.grown.size, fun j hj => k.grown.block j (by omega) fun e => by have := hs j e.symm; omega⟩
theorem RowTo.block {w w' : World} {s s' : Value} (k : RowTo w w' s s') {g : Nat} (hg : g < w.heap.size) (hn : s.ownBlock ≠ some g) : w'.heap[g]? = w.heap[g]? := k.grown.block g hg fun e => hn e.symm

theorem Bs.base {w : World} {B : Nat} {s : Value} {l : List UInt8} (h : Bs w B s l) : ∀ g, s.ownBlock = some g → B ≤ g ∧ g < w.heap.size := h.lt
theorem Bs.nil (w : World) (B : Nat) : Bs w B (.slice none 0 0) [] := World.ownsRow_nil _ _ _ _
theorem Bs.below {w w' : World} {B : Nat} {s : Value} {l : List UInt8} (h : Bs w B s l) (hb : Below w.heap.size w w') : Bs w' B s l := ownsRow_same h fun g hg => hb.block g (h.lt g hg).2
theorem Bs.shape {w : World} {B : Nat} {s : Value} {l : List UInt8} (h : Bs w B s l) : ∃ a c, s = .slice a l.length c := slice_of_own h
theorem Bs.up {w : World} {B B' : Nat} {s : Value} {l : List UInt8} (h : Bs w B s l) (hn : ∀ g, s.ownBlock = some g → B' ≤ g) : Bs w B' s l := by
  obtain ⟨h1, h2⟩ := h
  rcases h2 with ⟨rfl, h3⟩ | ⟨g, cap, cur, rfl, hg, r⟩
  · exact ⟨h1, Or.inl ⟨rfl, h3⟩⟩
  · exact ⟨h1, Or.inr ⟨g, cap, cur, rfl, hn g rfl, r⟩⟩

theorem Try.infoU8 : (Try.prog.info? 5).map (fun i => (i.zero, i.size, i.bytes)) = some (some (.int .u8 0), 1, 1) := by kernel_rfl

theorem one_cells (l : List UInt8) : ∀ u ∈ cellsO l, u.oneCell' = true := by
  intro u hu
  simp only [cellsO, List.mem_map] at hu
  obtain ⟨o, _, rfl⟩ := hu
  rfl

/-- append of octets that lie somewhere. -/
theorem wpList_app (w : World) {ops : Array Oper} {rest : List Oper} {o : Oper} {a : Act} {Q : Exit → Act → World → Prop} (hgd : o.guard = none) (sl x : Operand)
    (ho : o.op = .call { callee := .builtin .append, args := #[sl, x], argTypes := #[25, 25] })
    (B : Nat) (s : Value) (l m : List UInt8) (hs : a.eval sl = s) (hown : Bs w B s l) (ad : Addr) (c : Nat) (hx : a.eval x = .slice (some ad) m.length c)
    (hnews : ∀ j u, m[j]? = some u → w.cell? (ad.add j) = some (.int .u8 (u.toNat : Int))) (hlen : l.length + m.length ≤ 140737488355328) (hbase : B ≤ w.heap.size)
    (h : ∀ s' w', Bs w' B s' (l ++ m) → RowTo w w' s s' → wpList Try.prog ops Q rest (a.put o.dst s') w') : wpList Try.prog ops Q (o :: rest) a w := by
  obtain ⟨i0, hi, hz0, hz1, hz2⟩ := info_parts Try.infoU8
  refine wpList_append_apart w hgd sl x 25 ho B 5 i0 _ 1 1 Try.underlying25 hi hz0 hz1 hz2 rfl (by decide) s l.length (cellsO l) hs hown (some ad) m.length c (cellsO m) hx (by simp) (by rw [cellsO_length]; omega) ?_ (one_cells m) (by unfold maxLen; omega) (by omega) hbase ?_
  · intro ad' e j u hj
    cases e
    simp only [cellsO, List.getElem?_map, Option.map_eq_some_iff] at hj
    obtain ⟨o', ho', rfl⟩ := hj
    exact hnews j o' ho'
  · intro v' w' h1 h2 h3
    refine h v' w' ?_ ⟨h2, h3⟩
    unfold Bs
    rw [List.length_append, cellsO_append]
    exact h1

theorem strCells_eq (t : ByteArray) : Go.Lib.strCells t = cellsO t.toList := by
  rw [ByteArray.toList_eq]
  rfl
theorem toList_length (t : ByteArray) : t.toList.length = t.size := by rw [ByteArray.toList_eq]; rfl

theorem heap_alloc_old' (w : World) (o : Obj) (k : Nat) (h : k < w.heap.size) : (w.alloc o).heap[k]? = w.heap[k]? := Below.heap_alloc _ _ _ h

/-- append of a text's octets. -/
theorem wpList_apps (w : World) {ops : Array Oper} {rest : List Oper} {o : Oper} {a : Act} {Q : Exit → Act → World → Prop} (hgd : o.guard = none) (sl x : Operand)
    (ho : o.op = .call { callee := .builtin .append, args := #[sl, x], argTypes := #[25, 9] })
    (B : Nat) (s : Value) (l : List UInt8) (t : ByteArray) (hs : a.eval sl = s) (hown : Bs w B s l) (hx : a.eval x = .string t)
    (hlen : l.length + t.size ≤ 140737488355328) (hbase : B ≤ w.heap.size)
    (h : ∀ s' w', Bs w' B s' (l ++ t.toList) → RowTo w w' s s' → wpList Try.prog ops Q rest (a.put o.dst s') w') : wpList Try.prog ops Q (o :: rest) a w := by
  obtain ⟨i0, hi, hz0, hz1, hz2⟩ := info_parts Try.infoU8
  have hmax : l.length + t.size ≤ maxLen := by unfold maxLen; omega
  have fin : ∀ {w' : World} {v' : Value} {B' : Nat}, w'.ownsRow B' 5 1 v' (l.length + t.size) (cellsO l ++ Go.Lib.strCells t) → Bs w' B' v' (l ++ t.toList) := by
    intro w' v' B' q
    unfold Bs
    rw [List.length_append, toList_length, cellsO_append, ← strCells_eq]
    exact q
  obtain ⟨l0, hcase⟩ := hown
  rcases hcase with ⟨rfl, hl0⟩ | ⟨g, cap, cur, rfl, hg, hh, hnc, r⟩
  · have hnil : l = [] := List.eq_nil_of_length_eq_zero hl0
    subst hnil
    refine Go.Lib.wpList_append_own_string w hgd sl x 25 9 ho w.heap.size 5 i0 Try.underlying25 Try.underlying9 hi hz0 hz1 hz2 _ 0 [] hs (World.ownsRow_nil _ _ _ _) t hx (by simpa using hmax) (by simpa using hlen) (Nat.le_refl _) ?_
    intro v' w' h1 h2 _
    have h3 := fin (w' := w') (v' := v') (B' := w.heap.size) (by simpa [cellsO] using h1)
    exact h v' w' (h3.up fun g hg => Nat.le_trans hbase (h3.base g hg).1) ⟨h2, Or.inr fun g hg => (h3.base g hg).1⟩
  · have hown : w.ownsRow B 5 1 (.slice (some ⟨g, 0, none⟩) l.length cap) l.length (cellsO l) := ⟨l0, Or.inr ⟨g, cap, cur, rfl, hg, hh, hnc, r⟩⟩
    by_cases hroom : l.length + t.size ≤ cap
    · obtain ⟨hcm, hcs, htake⟩ := r
      have hcs' : cur.size = cap := by simpa using hcs
      have hr := Go.Lib.run_append_room_string (P := Try.prog) w 25 9 o.type 5 i0 Try.underlying25 Try.underlying9 hi hz1 g l.length cap cur hh t hroom (by omega)
      refine wpList_plain hgd fun K hK => ?_
      unfold Oper.wp execOp
      simp only [ho, resolve, invoke, builtin, Sem.run_bind, Sem.run_pure, Result.andThen_ok, List.map_toArray, List.map_cons, List.map_nil, hs, hx, hr]
      have hl2 : (cellsO l ++ Go.Lib.strCells t).length = (l.length + t.size) * 1 := by rw [List.length_append, cellsO_length, Go.Lib.strCells_length]; omega
      refine hK _ _ (h _ _ (fin ⟨hl2, .inr ⟨g, cap, _, rfl, hg, setRow_heap w g cur _ 5 _ hh, hroom, hcm, ?_, ?_⟩⟩) ⟨⟨rfl, rfl, rfl, by simp, fun k _ hk => setRow_other w g k _ (fun e => hk (by simp [Value.ownBlock, e]))⟩, Or.inl rfl⟩)
      · simp only [List.size_toArray, List.length_append, List.length_take, List.length_drop, Array.length_toList, Go.Lib.strCells_length]
        omega
      · have ht' : cur.toList.take l.length = cellsO l := by simpa using htake
        rw [ht', ← hl2]
        exact List.take_left
    · refine wpList_plain hgd fun K hK => ?_
      have hr := Go.Lib.run_append_grow_string (P := Try.prog) w 25 9 o.type 5 i0 _ Try.underlying25 Try.underlying9 hi hz0 ⟨g, 0, none⟩ l.length cap (cellsO l) (by rw [hz1, cellsO_length]; omega) (hown.cells (g := g) rfl) t (by omega) (by unfold maxLen at hmax; omega) (by rw [hz2]; exact growslice_fits (by omega) (by omega))
      unfold Oper.wp execOp
      simp only [ho, resolve, invoke, builtin, Sem.run_bind, Sem.run_pure, Result.andThen_ok, List.map_toArray, List.map_cons, List.map_nil, hs, hx, hr]
      refine hK _ _ (h _ _ (fin ?_) ⟨?_, Or.inr fun g' hg' => ?_⟩)
      · have hge := grownCap_ge w (l.length + t.size) cap 5
        have hcm := grownCap_le_maxLen w (l.length + t.size) cap 5 hmax
        refine ⟨by rw [List.length_append, cellsO_length, Go.Lib.strCells_length]; omega, Or.inr ⟨w.heap.size, _, _, rfl, hbase, heap_alloc_new w.drew _, hge, hcm, ?_, ?_⟩⟩
        · have hz1 : (Value.int IntKind.u8 0).cells.size = 1 := rfl
          simp only [Array.size_append, List.size_toArray, size_zeroCells, hz1, cellsO_length, Go.Lib.strCells_length]
          omega
        · simp only [Array.toList_append]
          rw [show (l.length + t.size) * 1 = (cellsO l ++ Go.Lib.strCells t).length by rw [List.length_append, cellsO_length, Go.Lib.strCells_length]; omega]
          exact List.take_left
      · exact ⟨rfl, rfl, rfl, by simp, fun k hk _ => heap_alloc_old' w.drew _ k hk⟩
      · simp only [Value.ownBlock, Option.some.injEq] at hg'; omega
end Go.Proofs.Ytfdbhojghkdlkaa
