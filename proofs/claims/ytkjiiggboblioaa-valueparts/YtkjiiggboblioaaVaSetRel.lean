/-
  Set: what the loop keeps.
-/
import Derived.Test.YtkjiiggboblioaaJ6
import Derived.Test.YtkjiiggboblioaaVaPath
import Derived.Test.YtkjiiggboblioaaVaPair
namespace Go.Proofs.Ytkjiiggboblioaa
open Go.ChangeShapes Go.WideShapes Go.ChangeAt Go.RowKit
open Fl

theorem ins_set {α : Type} (l : List α) (i : Nat) (a c : α) (hi : i ≤ l.length) : (ins l i a).set i c = ins l i c := by
  unfold ins
  have hA : (l.take i).length = i := by rw [List.length_take]; omega
  rw [List.set_append_right _ _ (by omega), hA, Nat.sub_self]
  rfl

theorem setV_here {n : Nat} {x : V n} {s : St} {p : List St} {k b : Int} {t : ByteArray} {ks : List ByteArray} {its : List (V (n + p.length))} {u : V (n + p.length)} (h0 : (plc k ks its.length s).1 = 0) (hu : its[(plc k ks its.length s).2]? = some u) :
    setV x (s :: p) (k, b, t, ks, its) = ((setV x p u).1, ((k, b, t, ks, its.set (plc k ks its.length s).2 (setV x p u).2) : V (n + p.length + 1))) := by
  cases p with
  | nil => simp only [setV, h0, if_true]; rfl
  | cons s' p => simp only [setV, h0, if_true, hu]; rfl

theorem setV_err {n : Nat} {x : V n} {s : St} {p : List St} {k b : Int} {t : ByteArray} {ks : List ByteArray} {its : List (V (n + p.length))} (h0 : (plc k ks its.length s).1 ≠ 0) (h : p ≠ [] ∨ ¬ ((plc k ks its.length s).1 = 71 ∨ (plc k ks its.length s).1 = 82)) :
    (setV x (s :: p) (k, b, t, ks, its)).1 = (plc k ks its.length s).1 := by
  cases p with
  | nil =>
    have h' := h.resolve_left (by simp)
    have h0' : ¬ (plc k ks (List.length (α := V n) its) s).1 = 0 := h0
    have h'' : ¬ ((plc k ks (List.length (α := V n) its) s).1 = 71 ∨ (plc k ks (List.length (α := V n) its) s).1 = 82) := h'
    simp only [setV]
    rw [if_neg h0', if_neg h'']
  | cons s' p =>
    simp only [setV]
    rw [if_neg h0]

theorem setV_full {n : Nat} {x : V n} {s : St} {k b : Int} {t : ByteArray} {ks : List ByteArray} {its : List (V n)} (h : (plc k ks its.length s).1 = 71 ∨ (plc k ks its.length s).1 = 82) (hr : roomE its.length s ≠ 0) :
    (setV x [s] ((k, b, t, ks, its) : V (n + 1))).1 = roomE its.length s := by
  have h0 : ¬ (plc k ks its.length s).1 = 0 := by omega
  simp only [setV]
  rw [if_neg h0, if_pos h, if_neg hr]

theorem setV_room {n : Nat} {x : V n} {s : St} {k b : Int} {t : ByteArray} {ks : List ByteArray} {its : List (V n)} (h : (plc k ks its.length s).1 = 71 ∨ (plc k ks its.length s).1 = 82) (hr : roomE its.length s = 0) :
    setV x [s] ((k, b, t, ks, its) : V (n + 1)) = (0, ((k, b, t, (if s.1 = true then ins ks (roomAt ks its.length s) s.2.1 else ks), ins its (roomAt ks its.length s) x) : V (n + 1))) := by
  have h0 : ¬ (plc k ks its.length s).1 = 0 := by omega
  simp only [setV]
  rw [if_neg h0, if_pos h, if_pos hr]
  rfl

/-- Set's answer. -/
def setR {n : Nat} (ps : List St) (v : V (n + ps.length)) (x : V n) : Int × T :=
  if chk v = 0 then if chk x = 0 then if (setV x ps v).1 = 0 then if chk (setV x ps v).2 = 0 then (0, ⟨_, (setV x ps v).2⟩) else (chk (setV x ps v).2, zeroT) else ((setV x ps v).1, zeroT) else (chk x, zeroT) else (chk v, zeroT)

/-- What the loop keeps: the part at (g, o), to which the path has led, and what is left of it. -/
def SetRel {n : Nat} (ps : List St) (v : V (n + ps.length)) (x : V n) (A gw m g o : Nat) (wr : World) : Prop :=
  ∃ (rest : List St) (u : V (n + rest.length)) (y : Value) (F : Nat → Prop) (hole : V (n + rest.length) → V (n + ps.length)), rest = ps.drop m ∧ At wr g o y ∧ Own wr (n + rest.length) y u F ∧ (∀ b, F b → A ≤ b ∧ b < wr.heap.size) ∧ ¬ F g ∧ A ≤ g ∧
    (rest = [] ∨ okV (n + rest.length) u) ∧ Plug wr g o (n + rest.length) F (n + ps.length) gw A hole ∧ (setV x ps v).1 = (setV x rest u).1 ∧ ((setV x rest u).1 = 0 → (setV x ps v).2 = hole (setV x rest u).2)

theorem At.below {w w' : World} {g o : Nat} {x : Value} (h : At w g o x) (hb : Below w.heap.size w w') : At w' g o x := by
  obtain ⟨cur, c0, c1, c2, c3, c4, q, r⟩ := h
  exact ⟨cur, c0, c1, c2, c3, c4, (hb.block g (lt_of_block q)).trans q, r⟩

theorem SetRel.below {n : Nat} {ps : List St} {v : V (n + ps.length)} {x : V n} {A gw m g o : Nat} {wr w2 : World} (h : SetRel ps v x A gw m g o wr) (hb : Below wr.heap.size wr w2) : SetRel ps v x A gw m g o w2 := by
  obtain ⟨rest, u, y, F, hole, h1, h2, h3, h4, h5, h6, h7, h8, h9, h10⟩ := h
  exact ⟨rest, u, y, F, hole, h1, h2.below hb, Own.next _ h3 (fun b hb' => (h4 b hb').2) hb, fun b hb' => ⟨(h4 b hb').1, Nat.lt_of_lt_of_le (h4 b hb').2 hb.size⟩, h5, h6, h7, h8.below hb, h9, h10⟩

theorem SetRel.start {n : Nat} {ps : List St} {v : V (n + ps.length)} {x : V n} {A gw : Nat} {wr : World} {y : Value} {F : Nat → Prop} (ha : At wr gw 0 y) (ho : Own wr (n + ps.length) y v F) (hF : ∀ b, F b → A ≤ b ∧ b < wr.heap.size) (hg : ¬ F gw) (hA : A ≤ gw) (hok : okV (n + ps.length) v) :
    SetRel ps v x A gw 0 gw 0 wr := by
  have hgl : gw < wr.heap.size := by obtain ⟨_, _, _, _, _, _, q, _⟩ := ha; exact lt_of_block q
  exact ⟨ps, v, y, F, fun u => u, rfl, ha, ho, hF, hg, hA, Or.inr hok, Plug.start (fun b hb => (hF b hb).1) (by omega), rfl, fun _ => rfl⟩

/-- The node to which the path has led, as the next step meets it. -/
structure Node {n : Nat} (ps : List St) (v : V (n + ps.length)) (x : V n) (A gw m g o : Nat) (wr : World) (s : St) (k b : Int) (t : ByteArray) (ka : Option Addr) (ks : List ByteArray) (kc : Nat) (ia : Option Addr) (il ic : Nat) (cur : Array Value) : Prop where
  block : wr.heap[g]? = some (.cells cur 26 (0, 0))
  p0 : cur[o]? = some (.int .i64 k)
  p1 : cur[o + 1]? = some (.int .u64 b)
  p2 : cur[o + 2]? = some (.string t)
  p3 : cur[o + 3]? = some (.slice ka ks.length kc)
  p4 : cur[o + 4]? = some (.slice ia il ic)
  keys : LayS wr ka ks
  kl : ks.length * 16 ≤ 140737488351232
  ilr : il * 80 ≤ 140737488351232
  il32 : il ≤ 32
  up : k = 5 → Up ks
  here : (plc k ks il s).1 = 0 → (plc k ks il s).2 < il ∧ ∃ gi, ia = some ⟨gi, 0, none⟩ ∧ SetRel ps v x A gw (m + 1) gi ((plc k ks il s).2 * 5) wr
  err : (plc k ks il s).1 ≠ 0 → (m + 1 < ps.length ∨ ¬ ((plc k ks il s).1 = 71 ∨ (plc k ks il s).1 = 82)) → (setV x ps v).1 = (plc k ks il s).1
  room : (plc k ks il s).1 = 71 ∨ (plc k ks il s).1 = 82 → m + 1 = ps.length → roomE il s = 0 → s.2.1.size ≤ 140737488351232 → ∀ w2, Below wr.heap.size wr w2 →
    Calls Try.prog 19 #[.pointer (some ⟨g, o, none⟩), .agg #[.bool s.1, .string s.2.1, .int .i64 s.2.2]] w2 fun e w3 => e = .returned (.tuple #[.int .i64 (roomAt ks il s : Int), .int .i64 0]) ∧
      ∃ gi ic' cur', w3.heap[g]? = some (.cells cur' 26 (0, 0)) ∧ cur'[o + 4]? = some (.slice (some ⟨gi, 0, none⟩) (il + 1) ic') ∧ roomAt ks il s ≤ il ∧ SetRel ps v x A gw (m + 1) gi (roomAt ks il s * 5) w3 ∧ Below A w2 w3
  full : (plc k ks il s).1 = 71 ∨ (plc k ks il s).1 = 82 → m + 1 = ps.length → roomE il s ≠ 0 → (setV x ps v).1 = roomE il s

theorem SetRel.node {n : Nat} {ps : List St} {v : V (n + ps.length)} {x : V n} {A gw m g o : Nat} {wr : World} {s : St} (h : SetRel ps v x A gw m g o wr) (hs : ps[m]? = some s) :
    ∃ k b t ka ks kc ia il ic cur, Node ps v x A gw m g o wr s k b t ka ks kc ia il ic cur := by
  obtain ⟨rest, u, y, F, hole, h1, h2, h3, h4, h5, h6, h7, h8, h9, h10⟩ := h
  have hlt : m < ps.length := (List.getElem?_eq_some_iff.1 hs).1
  have hd : ps.drop m = s :: ps.drop (m + 1) := by
    rw [List.drop_eq_getElem_cons hlt]
    congr 1
    rw [List.getElem?_eq_getElem hlt] at hs
    exact Option.some.inj hs
  have hr : rest = s :: ps.drop (m + 1) := h1.trans hd
  subst hr
  have hl : (ps.drop (m + 1)).length = ps.length - (m + 1) := List.length_drop
  clear h1 hd hs
  have hok := h7.resolve_left (by simp)
  clear h7
  generalize hp : ps.drop (m + 1) = p at *
  obtain ⟨k, b, t, ks, its⟩ := u
  obtain ⟨hmay, hoks⟩ := hok
  have ho := h3
  obtain ⟨ka, kc, ia, ic, xs, G, rfl, hfit, hsk, hK, hI, fK, fI, hit, hG, hd⟩ := h3
  have ha := h2
  obtain ⟨cur, d0, d1, d2, d3, d4, hgw, hxe, p0, p1, p2, p3, p4⟩ := h2
  simp only [mk, Value.agg.injEq, Array.mk.injEq, List.cons.injEq, and_true] at hxe
  obtain ⟨rfl, rfl, rfl, rfl, rfl⟩ := hxe
  have hL := Own.lay _ ho
  obtain ⟨_, _, _, _, hxe, _, _, _, hS, _⟩ := hL
  simp only [mk, Value.agg.injEq, Array.mk.injEq, List.cons.injEq, Value.slice.injEq, true_and, and_true] at hxe
  obtain ⟨⟨rfl, rfl⟩, ⟨rfl, rfl⟩⟩ := hxe
  refine ⟨k, b, t, ka, ks, kc, ia, its.length, ic, cur, hgw, p0, p1, p2, p3, p4, hS, hfit.2.2.2.2.2.1, hfit.2.2.2.2.2.2.2.2, may_le hmay, fun hk => by subst hk; exact (up_of_may hmay).1, ?_, ?_, ?_, ?_⟩
  · intro h0
    have hlt' := plc_lt hmay h0
    refine ⟨hlt', ?_⟩
    obtain ⟨ka', kc', gi, ic', y', G', u', hx', hu', q1, q2, q3, q3', q4, q5⟩ := h8.down ha ho (fun b hb => (h4 b hb).2) h5 hlt'
    have hia : ia = some ⟨gi, 0, none⟩ := by
      simp only [mk, Value.agg.injEq, Array.mk.injEq, List.cons.injEq, Value.slice.injEq, true_and, and_true] at hx'
      exact hx'.2.1
    have hset := setV_here (x := x) (b := b) (t := t) h0 hu'
    refine ⟨gi, hia, p, u', y', G', fun u => hole (k, b, t, ks, its.set (plc k ks its.length s).2 u), hp.symm, q1, q2, fun b' hb' => h4 b' (q3 b' hb'), q4, (h4 gi q3').1, Or.inr (hoks u' (List.mem_of_getElem? hu')), q5, ?_, ?_⟩
    · rw [h9, hset]
    · intro hz
      rw [hset] at h10
      exact h10 hz
  · intro h0 h
    rw [h9]
    refine setV_err h0 (h.imp (fun hlt2 e => ?_) id)
    rw [e] at hl
    simp at hl
    omega
  · intro h hlast hr hks w2 hb
    have hp0 : p = [] := List.eq_nil_of_length_eq_zero (by omega)
    subst hp0
    cases n with
    | zero => exact x.elim
    | succ n0 =>
      have hF2 : ∀ b', F b' → b' < w2.heap.size := fun b' hb' => Nat.lt_of_lt_of_le (h4 b' hb').2 hb.size
      refine (room_own (n := n0) (its := its) s (ha.below hb) (Own.next _ ho (fun b' hb' => (h4 b' hb').2) hb) hF2 h5 hmay hks h hr).mono ?_
      rintro e w3 ⟨rfl, x2, F2, r1, r2, r3, r4, r5⟩
      refine ⟨rfl, ?_⟩
      have hat : roomAt ks its.length s ≤ its.length := by
        unfold roomAt
        split
        · rename_i hs1
          have hk5 : k = 5 := by rcases plc_kind h with q | q; exact q.2; rw [q.1] at hs1; cases hs1
          subst hk5
          have := (up_of_may hmay).2
          have := lb_le ks s.2.1
          omega
        · exact Nat.le_refl _
      have hln := ins_length its (roomAt ks its.length s) (nil5 n0) hat
      have hpl : Plug w3 g o (n0 + 1 + [s].length) F2 (n0 + 1 + ps.length) gw A hole := (h8.below hb).change r5 (fun j hj => (r3 j hj).1)
      obtain ⟨ka', kc', gi, ic', y', G', u', hx', hu', q1, q2, q3, q3', q4, q5⟩ := Plug.down (n := n0 + 1) (i := roomAt ks its.length s) hpl r1 r2 (fun b' hb' => (r3 b' hb').2) r4 (by omega)
      have r1' := r1
      obtain ⟨cur', e0, e1, e2, e3, e4, hc', hxe', y0, y1, y2, y3, y4⟩ := r1'
      rw [hx'] at hxe'
      simp only [mk, Value.agg.injEq, Array.mk.injEq, List.cons.injEq, and_true] at hxe'
      obtain ⟨rfl, rfl, rfl, rfl, rfl⟩ := hxe'
      rw [hln] at y4
      have hA2 : ∀ b', F2 b' → A ≤ b' := fun b' hb' => by
        rcases (r3 b' hb').1 with e' | e'
        · exact (h4 b' e').1
        · have := hb.size
          have := lt_of_block hgw
          omega
      refine ⟨gi, ic', cur', hc', y4, hat, ⟨[], u', y', G', fun u => hole (k, b, t, (if s.1 = true then ins ks (roomAt ks its.length s) s.2.1 else ks), (ins its (roomAt ks its.length s) (nil5 n0)).set (roomAt ks its.length s) u), hp.symm, q1, q2, fun b' hb' => ⟨hA2 b' (q3 b' hb'), (r3 b' (q3 b' hb')).2⟩, q4, hA2 gi q3', Or.inl rfl, q5, ?_, ?_⟩, ?_⟩
      · rw [h9, setV_room h hr]
        rfl
      · intro _
        rw [setV_room h hr] at h10
        have := h10 rfl
        rw [this]
        show hole _ = hole _
        rw [ins_set _ _ _ _ hat]
        rfl
      · exact ⟨r5.os, r5.tape, r5.output, r5.size, fun j hj => by
          have := lt_of_block hgw
          have := hb.size
          exact r5.block j (by omega) (fun e => by have := (h4 j e).1; omega) (by omega)⟩
  · intro h hlast hr
    have hp0 : p = [] := List.eq_nil_of_length_eq_zero (by omega)
    subst hp0
    rw [h9]
    exact setV_full h hr
end Go.Proofs.Ytkjiiggboblioaa
