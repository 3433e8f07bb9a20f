/-
  The page's reader of expressions: take, octet, fail. (Printed by wip/make/mkexrnext.py.)
-/
import Derived.Test.YtnliokikcpnllaaExROct
import Derived.Test.YtnliokikcpnllaaExDec
namespace Go.Proofs.Ytnliokikcpnllaa
open Go.ChangeShapes Go.WideShapes Go.ChangeAt Go.RowKit
open Fl

/-- Where the page's reader stands, without an error. -/
def RAtX (w : World) (p : Nat) (a : Option Addr) (c : Nat) (bs : List UInt8) (s : SX) : Prop :=
  ∃ i : Nat, i ≤ bs.length ∧ s.1 = bs.drop i ∧ w.heap[p]? = some (.cells #[.slice a bs.length c, .int .i64 i, .int .i64 (s.2 : Int), .int .i64 0] 73 (0, 0))

/-- The page's reader has met an error. -/
def RErrX (w : World) (p K : Nat) (er : Int) : Prop := er ≠ 0 ∧ ∃ q : Nat, q ≤ K ∧ ∃ (sl : Value) (i : Int), w.heap[p]? = some (.cells #[sl, .int .i64 i, .int .i64 (q : Int), .int .i64 er] 73 (0, 0))

theorem RErrX.mono {w : World} {p K K' : Nat} {er : Int} (h : RErrX w p K er) (hk : K ≤ K') : RErrX w p K' er := by
  obtain ⟨h1, q, h2, h3⟩ := h
  exact ⟨h1, q, by omega, h3⟩

theorem RErrX.same {w w' : World} {p K : Nat} {er : Int} (h : RErrX w p K er) (hk : w'.heap[p]? = w.heap[p]?) : RErrX w' p K er := by
  obtain ⟨h1, q, h2, sl, i, h3⟩ := h
  exact ⟨h1, q, h2, sl, i, hk.trans h3⟩

theorem RAtX.same {w w' : World} {p : Nat} {a : Option Addr} {c : Nat} {bs : List UInt8} {s : SX} (h : RAtX w p a c bs s) (hk : w'.heap[p]? = w.heap[p]?) : RAtX w' p a c bs s := by
  obtain ⟨i, h1, h2, h3⟩ := h
  exact ⟨i, h1, h2, hk.trans h3⟩

theorem rd4X_cells {w : World} {p : Nat} {x y z u : Value} {t : TypeId} (h : w.heap[p]? = some (.cells #[x, y, z, u] t (0, 0))) :
    w.cell? ⟨p, 0, none⟩ = some x ∧ w.cell? ⟨p, 1, none⟩ = some y ∧ w.cell? ⟨p, 2, none⟩ = some z ∧ w.cell? ⟨p, 3, none⟩ = some u ∧ w.frozen? ⟨p, 0, none⟩ = false ∧ w.frozen? ⟨p, 1, none⟩ = false ∧ w.frozen? ⟨p, 2, none⟩ = false ∧ w.frozen? ⟨p, 3, none⟩ = false := by
  simp [World.cell?, World.frozen?, h]

theorem set4X_one {w : World} {g : Nat} {x y z u : Value} {t : TypeId} (h : w.heap[g]? = some (.cells #[x, y, z, u] t (0, 0))) (v : Value) : (w.setCell ⟨g, 1, none⟩ v).heap[g]? = some (.cells #[x, v, z, u] t (0, 0)) := by
  simp [World.setCell, Array.getElem?_modify, h]
theorem set4X_two {w : World} {g : Nat} {x y z u : Value} {t : TypeId} (h : w.heap[g]? = some (.cells #[x, y, z, u] t (0, 0))) (v : Value) : (w.setCell ⟨g, 2, none⟩ v).heap[g]? = some (.cells #[x, y, v, u] t (0, 0)) := by
  simp [World.setCell, Array.getElem?_modify, h]
theorem set4X_three {w : World} {g : Nat} {x y z u : Value} {t : TypeId} (h : w.heap[g]? = some (.cells #[x, y, z, u] t (0, 0))) (v : Value) : (w.setCell ⟨g, 3, none⟩ v).heap[g]? = some (.cells #[x, y, z, v] t (0, 0)) := by
  simp [World.setCell, Array.getElem?_modify, h]

theorem grown_setX {w : World} {p o : Nat} (v : Value) : w.grownBy (w.setCell ⟨p, o, none⟩ v) (some p) :=
  ⟨by simp [World.setCell], by simp [World.setCell], by simp [World.setCell], by simp [World.setCell], fun k _ hn => Below.heap_setCell _ _ _ _ fun e => hn (by rw [e])⟩

theorem LayB.grown4X {w w' : World} {p : Nat} {a a' : Option Addr} {bs : List UInt8} {l c : Nat} {y q r : Int} {t : TypeId} (hl : LayB w a bs) (h : w.heap[p]? = some (.cells #[.slice a' l c, .int .i64 y, .int .i64 q, .int .i64 r] t (0, 0))) (hg : w.grownBy w' (some p)) : LayB w' a bs := by
  intro i o hi
  obtain ⟨b, off, e, hc⟩ := hl i o hi
  refine ⟨b, off, e, keep_cellX hg hc ?_⟩
  intro e
  subst e
  simp only [World.cell?, h] at hc
  generalize off + i = j at hc
  match j, hc with
  | 0, hc => simp at hc
  | 1, hc => simp at hc
  | 2, hc => simp at hc
  | 3, hc => simp at hc
  | j + 4, hc => simp at hc

theorem Oct.grown4X {w w' : World} {p : Nat} {a a' : Option Addr} {c c' : Nat} {bs bs' : List UInt8} {s : SX} (h : Oct w a c bs) (hr : RAtX w p a' c' bs' s) (hg : w.grownBy w' (some p)) : Oct w' a c bs := by
  obtain ⟨i, _, _, hb⟩ := hr
  exact ⟨h.1.grown4X hb hg, h.2⟩

set_option maxRecDepth 100000 in
theorem rfailX_no (p : Nat) (e' : Int) (w : World) {x y z : Value} {er : Int} (h : w.heap[p]? = some (.cells #[x, y, z, .int .i64 er] 73 (0, 0))) :
    Calls Try.prog 34 #[.pointer (some ⟨p, 0, none⟩), .bool false, .int .i64 e'] w fun e w' => e = .returned (.tuple #[]) ∧ w' = w := by
  obtain ⟨x0, x1, x2, x3, f0, f1, f2, f3⟩ := rd4X_cells h
  clear h
  cases he : (er == 0)
  all_goals
    go_enter Try.func34, Try.ntmps34
    go_wp2_with fail
    go_end0
    exact ⟨rfl, rfl⟩

set_option maxRecDepth 100000 in
theorem rfailX_err (p K : Nat) (e' er : Int) (b : Bool) (w : World) (h : RErrX w p K er) :
    Calls Try.prog 34 #[.pointer (some ⟨p, 0, none⟩), .bool b, .int .i64 e'] w fun e w' => e = .returned (.tuple #[]) ∧ w' = w := by
  obtain ⟨hne, q, _, sl, i, hb⟩ := h
  obtain ⟨x0, x1, x2, x3, f0, f1, f2, f3⟩ := rd4X_cells hb
  have he : (er == 0) = false := by simpa using hne
  clear hb hne
  go_enter Try.func34, Try.ntmps34
  go_wp2_with fail
  go_end0
  exact ⟨rfl, rfl⟩

set_option maxRecDepth 100000 in
theorem rfailX_set (p : Nat) (a : Option Addr) (c : Nat) (bs : List UInt8) (s : SX) (e' : Int) (w : World) (h : RAtX w p a c bs s) (he : e' ≠ 0) :
    Calls Try.prog 34 #[.pointer (some ⟨p, 0, none⟩), .bool true, .int .i64 e'] w fun e w' => e = .returned (.tuple #[]) ∧ w.grownBy w' (some p) ∧ RErrX w' p s.2 e' := by
  obtain ⟨i, _, _, hb⟩ := h
  have HE : Hid (RErrX (w.setCell ⟨p, 3, none⟩ (.int .i64 e')) p s.2 e') := ⟨he, s.2, Nat.le_refl _, _, _, set4X_three hb _⟩
  obtain ⟨x0, x1, x2, x3, f0, f1, f2, f3⟩ := rd4X_cells hb
  clear hb
  go_enter Try.func34, Try.ntmps34
  go_wp2_with fail
  go_end0
  exact ⟨rfl, grown_setX _, HE.out⟩

set_option maxRecDepth 100000 in
theorem rtakeX_err (p K : Nat) (er : Int) (m : Int) (w : World) (h : RErrX w p K er) :
    Calls Try.prog 50 #[.pointer (some ⟨p, 0, none⟩), .int .i64 m] w fun e w' => e = .returned (.slice none 0 0) ∧ w' = w := by
  obtain ⟨hne, q, _, sl, i, hb⟩ := h
  obtain ⟨x0, x1, x2, x3, f0, f1, f2, f3⟩ := rd4X_cells hb
  have he : (er == 0) = false := by simpa using hne
  have he' : (er != 0) = true := by simpa using hne
  clear hb hne
  go_enter Try.func50, Try.ntmps50
  go_wp2_with fail
  go_ret
  exact ⟨rfl, rfl⟩

set_option maxRecDepth 100000 in
theorem roctetX_err (p K : Nat) (er : Int) (w : World) (h : RErrX w p K er) :
    Calls Try.prog 47 #[.pointer (some ⟨p, 0, none⟩)] w fun e w' => e = .returned (.int .i64 0) ∧ w' = w := by
  have HT := rtakeX_err p K er 1 w h
  obtain ⟨hne, q, _, sl, i, hb⟩ := h
  obtain ⟨x0, x1, x2, x3, f0, f1, f2, f3⟩ := rd4X_cells hb
  have he : (er == 0) = false := by simpa using hne
  have he' : (er != 0) = true := by simpa using hne
  clear hb hne
  go_enter Try.func47, Try.ntmps47
  go_wp2_with fail
  refine HT.mono ?_
  rintro e w1 ⟨rfl, rfl⟩
  go_wp2_with fail
  go_ret
  exact ⟨rfl, rfl⟩

set_option maxRecDepth 100000 in
set_option maxHeartbeats 3200000 in
theorem rtakeX_any (m : Nat) (p : Nat) (a : Option Addr) (c : Nat) (bs : List UInt8) (s : SX) (w : World) (hr : RAtX w p a c bs s) (ho : Oct w a c bs) (hm : m ≤ 255) :
    Calls Try.prog 50 #[.pointer (some ⟨p, 0, none⟩), .int .i64 m] w fun e w' => w.grownBy w' (some p) ∧
      ((s.1.length < m ∧ e = .returned (.slice none 0 0) ∧ RErrX w' p s.2 8) ∨ (m ≤ s.1.length ∧ RAtX w' p a c bs (s.1.drop m, s.2) ∧ ∃ a' c', e = .returned (.slice a' m c') ∧ LayB w' a' (s.1.take m))) := by
  obtain ⟨l, q⟩ := s
  obtain ⟨i, hi, rfl, hb⟩ := hr
  obtain ⟨hl, hc1, hc2, hlen, hnil, had⟩ := ho
  have HAD : Hid (∀ ad, a = some ad → 0 < c → ad = ⟨ad.block, ad.off, none⟩) := had
  have HNI : Hid (a = none → c = 0) := hnil
  clear had hnil
  simp only at hb ⊢
  have HB : Hid (w.heap[p]? = some (.cells #[.slice a bs.length c, .int .i64 i, .int .i64 (q : Int), .int .i64 0] 73 (0, 0))) := hb
  have HL : Hid (LayB w a bs) := hl
  obtain ⟨x0, x1, x2, x3, f0, f1, f2, f3⟩ := rd4X_cells hb
  rw [List.length_drop]
  clear hb hl
  by_cases hs : bs.length - i < m
  · have hd : ((bs.length : Int) - (i : Int) < (m : Int)) := by omega
    go_enter Try.func50, Try.ntmps50
    go_wp2_with fail
    go_quiet (fail)
    have BQ : Hid (Below w.heap.size w (w.drewN nq)) := Below_drewN _ _ _
    have HB1 : (w.drewN nq).heap[p]? = some (.cells #[.slice a bs.length c, .int .i64 i, .int .i64 (q : Int), .int .i64 0] 73 (0, 0)) := HB.out
    generalize w.drewN nq = W1 at *
    clear x0 x1 x2 x3 f0 f1 f2 f3
    obtain ⟨x0, x1, x2, x3, f0, f1, f2, f3⟩ := rd4X_cells HB1
    have G2 : Hid (w.grownBy (W1.setCell ⟨p, 3, none⟩ (.int .i64 8)) (some p)) := ⟨BQ.out.os, BQ.out.tape, BQ.out.output, by simpa [World.setCell] using BQ.out.size, fun k hk hne => by
      rw [Below.heap_setCell _ _ _ _ (fun e => hne (by rw [e]))]
      exact BQ.out.block k hk⟩
    have HE : Hid (RErrX (W1.setCell ⟨p, 3, none⟩ (.int .i64 8)) p q 8) := ⟨by decide, q, Nat.le_refl _, _, _, set4X_three HB1 _⟩
    clear HB1
    go_wp2_with fail
    go_ret
    exact ⟨G2.out, Or.inl ⟨hs, rfl, HE.out⟩⟩
  · have hd : ¬ ((bs.length : Int) - (i : Int) < (m : Int)) := by omega
    cases a with
    | none =>
      have hc0 := HNI.out rfl
      have hi0 : i = 0 := by omega
      have hm0 : m = 0 := by omega
      have hbs : bs = [] := List.eq_nil_of_length_eq_zero (by omega)
      subst hc0 hi0 hm0 hbs
      go_enter Try.func50, Try.ntmps50
      go_wp2_with fail
      go_quiet (fail)
      have BQ : Hid (Below w.heap.size w (w.drewN nq)) := Below_drewN _ _ _
      have HB1 : (w.drewN nq).heap[p]? = some (.cells #[.slice none 0 0, .int .i64 0, .int .i64 (q : Int), .int .i64 0] 73 (0, 0)) := HB.out
      generalize w.drewN nq = W1 at *
      clear x0 x1 x2 x3 f0 f1 f2 f3
      obtain ⟨x0, x1, x2, x3, f0, f1, f2, f3⟩ := rd4X_cells HB1
      have HB2 : Hid (W1.heap[p]? = some (.cells #[.slice none 0 0, .int .i64 0, .int .i64 (q : Int), .int .i64 0] 73 (0, 0))) := HB1
      clear HB1
      go_wp2_with fail
      have G2 : Hid (w.grownBy (W1.setCell ⟨p, 1, none⟩ (.int .i64 0)) (some p)) := by
        refine ⟨BQ.out.os, BQ.out.tape, BQ.out.output, by simpa [World.setCell] using BQ.out.size, fun k hk hne => ?_⟩
        rw [Below.heap_setCell _ _ _ _ (fun e => hne (by rw [e]))]
        exact BQ.out.block k hk
      have HB3 : (W1.setCell ⟨p, 1, none⟩ (.int .i64 0)).heap[p]? = some (.cells #[.slice none 0 0, .int .i64 0, .int .i64 (q : Int), .int .i64 0] 73 (0, 0)) := set4X_one HB2.out _
      generalize W1.setCell ⟨p, 1, none⟩ (.int .i64 0) = W2 at *
      clear x0 x1 x2 x3 f0 f1 f2 f3
      obtain ⟨x0, x1, x2, x3, f0, f1, f2, f3⟩ := rd4X_cells HB3
      have HB4 : Hid (W2.heap[p]? = _) := HB3
      clear HB3 HB2
      go_quiet (fail)
      have G3 : Hid (w.grownBy (W2.drewN nq) (some p)) := grown_belowX G2.out (Below_drewN _ _ _)
      have HB5 : Hid ((W2.drewN nq).heap[p]? = some (.cells #[.slice none 0 0, .int .i64 0, .int .i64 (q : Int), .int .i64 0] 73 (0, 0))) := HB4.out
      generalize W2.drewN nq = W3 at *
      go_wp2_with fail
      go_ret
      exact ⟨G3.out, Or.inr ⟨by omega, ⟨0, by simp, rfl, HB5.out⟩, _, _, rfl, fun i o hi => by simp at hi⟩⟩
    | some ad =>
      by_cases hc0 : c = 0
      · have hi0 : i = 0 := by omega
        have hm0 : m = 0 := by omega
        have hbs : bs = [] := List.eq_nil_of_length_eq_zero (by omega)
        subst hc0 hi0 hm0 hbs
        go_enter Try.func50, Try.ntmps50
        go_wp2_with fail
        go_quiet (fail)
        have BQ : Hid (Below w.heap.size w (w.drewN nq)) := Below_drewN _ _ _
        have HB1 : (w.drewN nq).heap[p]? = some (.cells #[.slice (some ad) 0 0, .int .i64 0, .int .i64 (q : Int), .int .i64 0] 73 (0, 0)) := HB.out
        generalize w.drewN nq = W1 at *
        clear x0 x1 x2 x3 f0 f1 f2 f3
        obtain ⟨x0, x1, x2, x3, f0, f1, f2, f3⟩ := rd4X_cells HB1
        have HB2 : Hid (W1.heap[p]? = some (.cells #[.slice (some ad) 0 0, .int .i64 0, .int .i64 (q : Int), .int .i64 0] 73 (0, 0))) := HB1
        clear HB1
        go_wp2_with fail
        have G2 : Hid (w.grownBy (W1.setCell ⟨p, 1, none⟩ (.int .i64 0)) (some p)) := by
          refine ⟨BQ.out.os, BQ.out.tape, BQ.out.output, by simpa [World.setCell] using BQ.out.size, fun k hk hne => ?_⟩
          rw [Below.heap_setCell _ _ _ _ (fun e => hne (by rw [e]))]
          exact BQ.out.block k hk
        have HB3 : (W1.setCell ⟨p, 1, none⟩ (.int .i64 0)).heap[p]? = some (.cells #[.slice (some ad) 0 0, .int .i64 0, .int .i64 (q : Int), .int .i64 0] 73 (0, 0)) := set4X_one HB2.out _
        generalize W1.setCell ⟨p, 1, none⟩ (.int .i64 0) = W2 at *
        clear x0 x1 x2 x3 f0 f1 f2 f3
        obtain ⟨x0, x1, x2, x3, f0, f1, f2, f3⟩ := rd4X_cells HB3
        have HB4 : Hid (W2.heap[p]? = _) := HB3
        clear HB3 HB2
        go_quiet (fail)
        have G3 : Hid (w.grownBy (W2.drewN nq) (some p)) := grown_belowX G2.out (Below_drewN _ _ _)
        have HB5 : Hid ((W2.drewN nq).heap[p]? = some (.cells #[.slice (some ad) 0 0, .int .i64 0, .int .i64 (q : Int), .int .i64 0] 73 (0, 0))) := HB4.out
        generalize W2.drewN nq = W3 at *
        go_wp2_with fail
        go_ret
        exact ⟨G3.out, Or.inr ⟨by omega, ⟨0, by simp, rfl, HB5.out⟩, _, _, rfl, fun i o hi => by simp at hi⟩⟩
      obtain ⟨ab, ao, rfl⟩ : ∃ b o, ad = ⟨b, o, none⟩ := ⟨_, _, HAD.out ad rfl (by omega)⟩
      go_enter Try.func50, Try.ntmps50
      go_wp2_with fail
      go_quiet (fail)
      have BQ : Hid (Below w.heap.size w (w.drewN nq)) := Below_drewN _ _ _
      have HB1 : (w.drewN nq).heap[p]? = some (.cells #[.slice (some ⟨ab, ao, none⟩) bs.length c, .int .i64 i, .int .i64 (q : Int), .int .i64 0] 73 (0, 0)) := HB.out
      generalize w.drewN nq = W1 at *
      clear x0 x1 x2 x3 f0 f1 f2 f3
      obtain ⟨x0, x1, x2, x3, f0, f1, f2, f3⟩ := rd4X_cells HB1
      have HB2 : Hid (W1.heap[p]? = some (.cells #[.slice (some ⟨ab, ao, none⟩) bs.length c, .int .i64 i, .int .i64 (q : Int), .int .i64 0] 73 (0, 0))) := HB1
      clear HB1
      go_wp2_with fail
      have G2 : Hid (w.grownBy (W1.setCell ⟨p, 1, none⟩ (.int .i64 ((i : Int) + (m : Int)))) (some p)) := by
        refine ⟨BQ.out.os, BQ.out.tape, BQ.out.output, by simpa [World.setCell] using BQ.out.size, fun k hk hne => ?_⟩
        rw [Below.heap_setCell _ _ _ _ (fun e => hne (by rw [e]))]
        exact BQ.out.block k hk
      have HB3 : (W1.setCell ⟨p, 1, none⟩ (.int .i64 ((i : Int) + (m : Int)))).heap[p]? = some (.cells #[.slice (some ⟨ab, ao, none⟩) bs.length c, .int .i64 ((i : Int) + (m : Int)), .int .i64 (q : Int), .int .i64 0] 73 (0, 0)) := set4X_one HB2.out _
      generalize W1.setCell ⟨p, 1, none⟩ (.int .i64 ((i : Int) + (m : Int))) = W2 at *
      clear x0 x1 x2 x3 f0 f1 f2 f3
      obtain ⟨x0, x1, x2, x3, f0, f1, f2, f3⟩ := rd4X_cells HB3
      have HB4 : Hid (W2.heap[p]? = _) := HB3
      have e1 : (i : Int) + (m : Int) - (m : Int) = (i : Int) := by omega
      have e2 : (i : Int) + (m : Int) ≤ (c : Int) := by omega
      have e3 : (0 : Int) ≤ (i : Int) + (m : Int) := by omega
      have e4 : (i : Int) ≤ (i : Int) + (m : Int) := by omega
      clear HB3 HB2
      go_quiet (fail)
      have e5 : i + m - i = m := by omega
      rw [e5]
      have G3 : Hid (w.grownBy (W2.drewN nq) (some p)) := grown_belowX G2.out (Below_drewN _ _ _)
      have HB5 : Hid ((W2.drewN nq).heap[p]? = some (.cells #[.slice (some ⟨ab, ao, none⟩) bs.length c, .int .i64 ((i : Int) + (m : Int)), .int .i64 (q : Int), .int .i64 0] 73 (0, 0))) := HB4.out
      generalize W2.drewN nq = W3 at *
      generalize hA : (if c = i then some (⟨ab, ao, none⟩ : Addr) else some ⟨ab, ao + i, none⟩) = A
      have HA : Hid ((if c = i then some (⟨ab, ao, none⟩ : Addr) else some ⟨ab, ao + i, none⟩) = A) := hA
      clear hA
      go_wp2_with fail
      go_ret
      refine ⟨G3.out, Or.inr ⟨by omega, ⟨i + m, by omega, by simp [List.drop_drop], by have := HB5.out; simpa using this⟩, _, _, rfl, ?_⟩⟩
      intro j o hj
      have hjm : j < m := by
        have := (List.getElem?_eq_some_iff.1 hj).1
        rw [List.length_take] at this
        omega
      rw [List.getElem?_take_of_lt hjm, List.getElem?_drop] at hj
      obtain ⟨b, off, e, hc⟩ := HL.out.grown4X HB.out G3.out (i + j) o hj
      cases e
      have hA := HA.out
      rw [if_neg (by omega)] at hA
      exact ⟨ab, ao + i, hA.symm, by rw [Nat.add_assoc]; exact hc⟩

set_option maxRecDepth 100000 in
theorem roctetX_any (p : Nat) (a : Option Addr) (c : Nat) (bs : List UInt8) (l : List UInt8) (q : Nat) (w : World) (hr : RAtX w p a c bs (l, q)) (ho : Oct w a c bs) :
    Calls Try.prog 47 #[.pointer (some ⟨p, 0, none⟩)] w fun e w' => w.grownBy w' (some p) ∧ ((l = [] ∧ e = .returned (.int .i64 0) ∧ RErrX w' p q 8) ∨ (∃ o r, l = o :: r ∧ e = .returned (.int .i64 (o.toNat : Int)) ∧ RAtX w' p a c bs (r, q))) := by
  have HC : Hid (Calls Try.prog 50 #[.pointer (some ⟨p, 0, none⟩), .int .i64 ((1 : Nat) : Int)] w _) := rtakeX_any 1 p a c bs (l, q) w hr ho (by decide)
  cases l with
  | nil =>
    go_enter Try.func47, Try.ntmps47
    go_wp2_with fail
    refine HC.out.mono ?_
    rintro e w1 ⟨hg, ⟨h1, rfl, h2⟩ | ⟨h1, _⟩⟩
    · have h3 := h2
      obtain ⟨hne, q', _, sl, i, hb⟩ := h2
      obtain ⟨x0, x1, x2, x3, f0, f1, f2, f3⟩ := rd4X_cells hb
      have H3 : Hid (RErrX w1 p q 8) := h3
      clear hb h3 hne
      go_wp2_with fail
      go_ret
      exact ⟨hg, Or.inl ⟨by trivial, rfl, H3.out⟩⟩
    · simp at h1
  | cons o l =>
    go_enter Try.func47, Try.ntmps47
    go_wp2_with fail
    refine HC.out.mono ?_
    rintro e w1 ⟨hg, ⟨h1, _⟩ | ⟨h1, h2, a', c', rfl, h3⟩⟩
    · simp at h1
    · obtain ⟨gb, go, rfl, hc⟩ := h3 0 o (by simp)
      have H2 : Hid (RAtX w1 p a c bs ((o :: l).drop 1, q)) := h2
      obtain ⟨i, _, _, hb⟩ := h2
      obtain ⟨x0, x1, x2, x3, f0, f1, f2, f3⟩ := rd4X_cells hb
      clear h3 hb
      simp only [Nat.add_zero] at hc
      have h256 := o.toNat_lt
      go_wp2_with fail
      go_ret
      exact ⟨hg, Or.inr ⟨o, l, rfl, rfl, H2.out⟩⟩

end Go.Proofs.Ytnliokikcpnllaa
