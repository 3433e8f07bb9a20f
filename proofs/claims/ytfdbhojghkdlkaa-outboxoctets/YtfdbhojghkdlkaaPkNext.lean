/-
  The program's reader: so many octets, or a panic with the error.
-/
import Derived.Test.YtfdbhojghkdlkaaJ6
namespace Go.Proofs.Ytfdbhojghkdlkaa
open Go.ChangeShapes Go.WideShapes Go.ChangeAt Go.RowKit
open Fl

/-- Where the reader stands: what is left, how many parts were begun. -/
def RdAt (w : World) (p : Nat) (a : Option Addr) (c : Nat) (bs : List UInt8) (s : RS) : Prop :=
  ∃ i : Nat, i ≤ bs.length ∧ s.1 = bs.drop i ∧ w.heap[p]? = some (.cells #[.slice a bs.length c, .int .i64 i, .int .i64 (s.2 : Int)] 128 (0, 0))

/-- What the octets keep to. -/
def Oct (w : World) (a : Option Addr) (c : Nat) (bs : List UInt8) : Prop := LayB w a bs ∧ bs.length ≤ c ∧ c ≤ 9223372036854775807 ∧ bs.length ≤ 200000000000000 ∧ (a = none → c = 0) ∧ (∀ ad, a = some ad → 0 < c → ad = ⟨ad.block, ad.off, none⟩)

/-- A panic with an error's number. -/
abbrev pan (er : Int) : Ending := .panicked [{ v := .iface 29 (.int .i64 er), recovered := false }]

theorem rd_cells {w : World} {p : Nat} {x y z : Value} {t : TypeId} (h : w.heap[p]? = some (.cells #[x, y, z] t (0, 0))) :
    w.cell? ⟨p, 0, none⟩ = some x ∧ w.cell? ⟨p, 1, none⟩ = some y ∧ w.cell? ⟨p, 2, none⟩ = some z ∧ w.frozen? ⟨p, 0, none⟩ = false ∧ w.frozen? ⟨p, 1, none⟩ = false ∧ w.frozen? ⟨p, 2, none⟩ = false := by
  simp [World.cell?, World.frozen?, h]

theorem set_one_cell' {w : World} {g : Nat} {x y z : Value} {t : TypeId} (h : w.heap[g]? = some (.cells #[x, y, z] t (0, 0))) (v : Value) : (w.setCell ⟨g, 1, none⟩ v).heap[g]? = some (.cells #[x, v, z] t (0, 0)) := by
  simp [World.setCell, Array.getElem?_modify, h]

theorem not_rdr {w : World} {p b o : Nat} {z : Value} {a : Option Addr} {l c : Nat} {y q : Int} {t : TypeId} (h : w.heap[p]? = some (.cells #[.slice a l c, .int .i64 y, .int .i64 q] t (0, 0))) (hc : w.cell? ⟨b, o, none⟩ = some z) (hz : ∃ n, z = .int .u8 n) : b ≠ p := by
  intro e
  subst e
  obtain ⟨n, rfl⟩ := hz
  simp only [World.cell?, h] at hc
  match o, hc with
  | 0, hc => simp at hc
  | 1, hc => simp at hc
  | 2, hc => simp at hc
  | o + 3, hc => simp at hc

theorem LayB.grown {w w' : World} {p : Nat} {a a' : Option Addr} {bs : List UInt8} {l c : Nat} {y q : Int} {t : TypeId} (hl : LayB w a bs) (h : w.heap[p]? = some (.cells #[.slice a' l c, .int .i64 y, .int .i64 q] t (0, 0))) (hg : w.grownBy w' (some p)) : LayB w' a bs := by
  intro i o hi
  obtain ⟨b, off, e, hc⟩ := hl i o hi
  exact ⟨b, off, e, keep_cell hg hc (not_rdr h hc ⟨_, rfl⟩)⟩

theorem grown_of_below {w w' : World} {r : Option Nat} (h : Below w.heap.size w w') : w.grownBy w' r := ⟨h.os, h.tape, h.output, h.size, fun k hk _ => h.block k hk⟩

set_option maxRecDepth 100000 in
set_option maxHeartbeats 3200000 in
theorem next_any (m : Nat) (p : Nat) (a : Option Addr) (c : Nat) (bs : List UInt8) (s : RS) (w : World) (hr : RdAt w p a c bs s) (ho : Oct w a c bs) (hm : m ≤ 255) :
    Calls Try.prog 90 #[.pointer (some ⟨p, 0, none⟩), .int .i64 m] w fun e w' => w.grownBy w' (some p) ∧
      ((s.1.length < m ∧ e = pan 8) ∨ (m ≤ s.1.length ∧ RdAt w' p a c bs (s.1.drop m, s.2) ∧ ∃ a' c', e = .returned (.slice a' m c') ∧ LayB w' a' (s.1.take m))) := by
  obtain ⟨l, q⟩ := s
  obtain ⟨i, hi, rfl, hb⟩ := hr
  obtain ⟨hl, hc1, hc2, hlen, hnil, had⟩ := ho
  have HAD : Hid (∀ ad, a = some ad → 0 < c → ad = ⟨ad.block, ad.off, none⟩) := had
  have HNI : Hid (a = none → c = 0) := hnil
  clear had hnil
  simp only at hb ⊢
  have HB : Hid (w.heap[p]? = some (.cells #[.slice a bs.length c, .int .i64 i, .int .i64 (q : Int)] 128 (0, 0))) := hb
  have HL : Hid (LayB w a bs) := hl
  obtain ⟨x0, x1, x2, f0, f1, f2⟩ := rd_cells hb
  rw [List.length_drop]
  clear hb hl
  by_cases hs : bs.length - i < m
  · have hd : ((bs.length : Int) - (i : Int) < (m : Int)) := by omega
    go_enter Try.func90, Try.ntmps90
    go_wp2_with fail
    go_quiet (fail)
    go_wp2_with fail
    exact ⟨rfl, grown_of_below (Below_drewN _ _ _), Or.inl ⟨hs, rfl⟩⟩
  · have hd : ¬ ((bs.length : Int) - (i : Int) < (m : Int)) := by omega
    cases a with
    | none =>
      have hc0 := HNI.out rfl
      have hi0 : i = 0 := by omega
      have hm0 : m = 0 := by omega
      have hbs : bs = [] := List.eq_nil_of_length_eq_zero (by omega)
      subst hc0 hi0 hm0 hbs
      go_enter Try.func90, Try.ntmps90
      go_wp2_with fail
      go_quiet (fail)
      have BQ : Hid (Below w.heap.size w (w.drewN nq)) := Below_drewN _ _ _
      have HB1 : (w.drewN nq).heap[p]? = some (.cells #[.slice none 0 0, .int .i64 0, .int .i64 (q : Int)] 128 (0, 0)) := HB.out
      generalize w.drewN nq = W1 at *
      clear x0 x1 x2 f0 f1 f2
      obtain ⟨x0, x1, x2, f0, f1, f2⟩ := rd_cells HB1
      have HB2 : Hid (W1.heap[p]? = some (.cells #[.slice none 0 0, .int .i64 0, .int .i64 (q : Int)] 128 (0, 0))) := HB1
      clear HB1
      go_wp2_with fail
      have G2 : Hid (w.grownBy (W1.setCell ⟨p, 1, none⟩ (.int .i64 0)) (some p)) := by
        refine ⟨BQ.out.os, BQ.out.tape, BQ.out.output, by simpa [World.setCell] using BQ.out.size, fun k hk hne => ?_⟩
        rw [Below.heap_setCell _ _ _ _ (fun e => hne (by rw [e]))]
        exact BQ.out.block k hk
      have HB3 : (W1.setCell ⟨p, 1, none⟩ (.int .i64 0)).heap[p]? = some (.cells #[.slice none 0 0, .int .i64 0, .int .i64 (q : Int)] 128 (0, 0)) := set_one_cell' HB2.out _
      generalize W1.setCell ⟨p, 1, none⟩ (.int .i64 0) = W2 at *
      clear x0 x1 x2 f0 f1 f2
      obtain ⟨x0, x1, x2, f0, f1, f2⟩ := rd_cells HB3
      have HB4 : Hid (W2.heap[p]? = _) := HB3
      clear HB3 HB2
      go_quiet (fail)
      have G3 : Hid (w.grownBy (W2.drewN nq) (some p)) := grown_below G2.out (Below_drewN _ _ _)
      have HB5 : Hid ((W2.drewN nq).heap[p]? = some (.cells #[.slice none 0 0, .int .i64 0, .int .i64 (q : Int)] 128 (0, 0))) := HB4.out
      generalize W2.drewN nq = W3 at *
      go_wp2_with fail
      go_ret
      exact ⟨G3.out, Or.inr ⟨by omega, ⟨0, by simp, rfl, HB5.out⟩, _, _, rfl, fun i o hi => by simp at hi⟩⟩
    | some ad =>
      by_cases hc0 : c = 0
      · have hi0 : i = 0 := by omega
        have hm0 : m = 0 := by omega
        have hbs : bs = [] := List.eq_nil_of_length_eq_zero (by omega)
        subst hc0 hi0 hm0 hbs
        go_enter Try.func90, Try.ntmps90
        go_wp2_with fail
        go_quiet (fail)
        have BQ : Hid (Below w.heap.size w (w.drewN nq)) := Below_drewN _ _ _
        have HB1 : (w.drewN nq).heap[p]? = some (.cells #[.slice (some ad) 0 0, .int .i64 0, .int .i64 (q : Int)] 128 (0, 0)) := HB.out
        generalize w.drewN nq = W1 at *
        clear x0 x1 x2 f0 f1 f2
        obtain ⟨x0, x1, x2, f0, f1, f2⟩ := rd_cells HB1
        have HB2 : Hid (W1.heap[p]? = some (.cells #[.slice (some ad) 0 0, .int .i64 0, .int .i64 (q : Int)] 128 (0, 0))) := HB1
        clear HB1
        go_wp2_with fail
        have G2 : Hid (w.grownBy (W1.setCell ⟨p, 1, none⟩ (.int .i64 0)) (some p)) := by
          refine ⟨BQ.out.os, BQ.out.tape, BQ.out.output, by simpa [World.setCell] using BQ.out.size, fun k hk hne => ?_⟩
          rw [Below.heap_setCell _ _ _ _ (fun e => hne (by rw [e]))]
          exact BQ.out.block k hk
        have HB3 : (W1.setCell ⟨p, 1, none⟩ (.int .i64 0)).heap[p]? = some (.cells #[.slice (some ad) 0 0, .int .i64 0, .int .i64 (q : Int)] 128 (0, 0)) := set_one_cell' HB2.out _
        generalize W1.setCell ⟨p, 1, none⟩ (.int .i64 0) = W2 at *
        clear x0 x1 x2 f0 f1 f2
        obtain ⟨x0, x1, x2, f0, f1, f2⟩ := rd_cells HB3
        have HB4 : Hid (W2.heap[p]? = _) := HB3
        clear HB3 HB2
        go_quiet (fail)
        have G3 : Hid (w.grownBy (W2.drewN nq) (some p)) := grown_below G2.out (Below_drewN _ _ _)
        have HB5 : Hid ((W2.drewN nq).heap[p]? = some (.cells #[.slice (some ad) 0 0, .int .i64 0, .int .i64 (q : Int)] 128 (0, 0))) := HB4.out
        generalize W2.drewN nq = W3 at *
        go_wp2_with fail
        go_ret
        exact ⟨G3.out, Or.inr ⟨by omega, ⟨0, by simp, rfl, HB5.out⟩, _, _, rfl, fun i o hi => by simp at hi⟩⟩
      obtain ⟨ab, ao, rfl⟩ : ∃ b o, ad = ⟨b, o, none⟩ := ⟨_, _, HAD.out ad rfl (by omega)⟩
      go_enter Try.func90, Try.ntmps90
      go_wp2_with fail
      go_quiet (fail)
      have BQ : Hid (Below w.heap.size w (w.drewN nq)) := Below_drewN _ _ _
      have HB1 : (w.drewN nq).heap[p]? = some (.cells #[.slice (some ⟨ab, ao, none⟩) bs.length c, .int .i64 i, .int .i64 (q : Int)] 128 (0, 0)) := HB.out
      generalize w.drewN nq = W1 at *
      clear x0 x1 x2 f0 f1 f2
      obtain ⟨x0, x1, x2, f0, f1, f2⟩ := rd_cells HB1
      have HB2 : Hid (W1.heap[p]? = some (.cells #[.slice (some ⟨ab, ao, none⟩) bs.length c, .int .i64 i, .int .i64 (q : Int)] 128 (0, 0))) := HB1
      clear HB1
      go_wp2_with fail
      have G2 : Hid (w.grownBy (W1.setCell ⟨p, 1, none⟩ (.int .i64 ((i : Int) + (m : Int)))) (some p)) := by
        refine ⟨BQ.out.os, BQ.out.tape, BQ.out.output, by simpa [World.setCell] using BQ.out.size, fun k hk hne => ?_⟩
        rw [Below.heap_setCell _ _ _ _ (fun e => hne (by rw [e]))]
        exact BQ.out.block k hk
      have HB3 : (W1.setCell ⟨p, 1, none⟩ (.int .i64 ((i : Int) + (m : Int)))).heap[p]? = some (.cells #[.slice (some ⟨ab, ao, none⟩) bs.length c, .int .i64 ((i : Int) + (m : Int)), .int .i64 (q : Int)] 128 (0, 0)) := set_one_cell' HB2.out _
      generalize W1.setCell ⟨p, 1, none⟩ (.int .i64 ((i : Int) + (m : Int))) = W2 at *
      clear x0 x1 x2 f0 f1 f2
      obtain ⟨x0, x1, x2, f0, f1, f2⟩ := rd_cells HB3
      have HB4 : Hid (W2.heap[p]? = _) := HB3
      have e1 : (i : Int) + (m : Int) - (m : Int) = (i : Int) := by omega
      have e2 : (i : Int) + (m : Int) ≤ (c : Int) := by omega
      have e3 : (0 : Int) ≤ (i : Int) + (m : Int) := by omega
      have e4 : (i : Int) ≤ (i : Int) + (m : Int) := by omega
      clear HB3 HB2
      go_quiet (fail)
      have e5 : i + m - i = m := by omega
      rw [e5]
      have G3 : Hid (w.grownBy (W2.drewN nq) (some p)) := grown_below G2.out (Below_drewN _ _ _)
      have HB5 : Hid ((W2.drewN nq).heap[p]? = some (.cells #[.slice (some ⟨ab, ao, none⟩) bs.length c, .int .i64 ((i : Int) + (m : Int)), .int .i64 (q : Int)] 128 (0, 0))) := HB4.out
      generalize W2.drewN nq = W3 at *
      generalize hA : (if c = i then some (⟨ab, ao, none⟩ : Addr) else some ⟨ab, ao + i, none⟩) = A
      have HA : Hid ((if c = i then some (⟨ab, ao, none⟩ : Addr) else some ⟨ab, ao + i, none⟩) = A) := hA
      clear hA
      go_wp2_with fail
      go_ret
      refine ⟨G3.out, Or.inr ⟨by omega, ⟨i + m, by omega, by simp [List.drop_drop], by have := HB5.out; simpa using this⟩, _, _, rfl, ?_⟩⟩
      intro j o hj
      have hjm : j < m := by
        have := (List.getElem?_eq_some_iff.1 hj).1
        rw [List.length_take] at this
        omega
      rw [List.getElem?_take_of_lt hjm, List.getElem?_drop] at hj
      obtain ⟨b, off, e, hc⟩ := HL.out.grown HB.out G3.out (i + j) o hj
      cases e
      have hA := HA.out
      rw [if_neg (by omega)] at hA
      exact ⟨ab, ao + i, hA.symm, by rw [Nat.add_assoc]; exact hc⟩

/-- What a reading leaves: the reader alone is written; the end, or a panic with the error. -/
def RdPost {α : Type} (r : Except Int (α × List UInt8)) (q p : Nat) (a : Option Addr) (c : Nat) (bs : List UInt8) (V : α → Value) (w : World) (e : Ending) (w' : World) : Prop :=
  w.grownBy w' (some p) ∧ ((∃ x l, r = .ok (x, l) ∧ e = .returned (V x) ∧ RdAt w' p a c bs (l, q)) ∨ (∃ er, r = .error er ∧ e = pan er))

theorem RdPost.ok {α : Type} {x : α} {l : List UInt8} {q p : Nat} {a : Option Addr} {c : Nat} {bs : List UInt8} {V : α → Value} {w w' : World} {e : Ending} (h : RdPost (.ok (x, l)) q p a c bs V w e w') : e = .returned (V x) ∧ w.grownBy w' (some p) ∧ RdAt w' p a c bs (l, q) := by
  obtain ⟨hg, h⟩ := h
  rcases h with ⟨x', l', h1, h2, h3⟩ | ⟨er, h1, _⟩
  · cases h1; exact ⟨h2, hg, h3⟩
  · cases h1
theorem RdPost.err {α : Type} {er : Int} {q p : Nat} {a : Option Addr} {c : Nat} {bs : List UInt8} {V : α → Value} {w w' : World} {e : Ending} (h : RdPost (.error er) q p a c bs V w e w') : e = pan er ∧ w.grownBy w' (some p) := by
  obtain ⟨hg, h⟩ := h
  rcases h with ⟨x', l', h1, h2, h3⟩ | ⟨er', h1, h2⟩
  · cases h1
  · cases h1; exact ⟨h2, hg⟩

theorem Oct.grown {w w' : World} {p : Nat} {a a' : Option Addr} {c c' : Nat} {bs bs' : List UInt8} {s : RS} (h : Oct w a c bs) (hr : RdAt w p a' c' bs' s) (hg : w.grownBy w' (some p)) : Oct w' a c bs := by
  obtain ⟨i, _, _, hb⟩ := hr
  exact ⟨h.1.grown hb hg, h.2⟩

/-- One octet. -/
def rdOct : List UInt8 → Except Int (UInt8 × List UInt8)
  | [] => .error 8
  | o :: l => .ok (o, l)

set_option maxRecDepth 100000 in
theorem octet_any (p : Nat) (a : Option Addr) (c : Nat) (bs : List UInt8) (l : List UInt8) (q : Nat) (w : World) (hr : RdAt w p a c bs (l, q)) (ho : Oct w a c bs) :
    Calls Try.prog 83 #[.pointer (some ⟨p, 0, none⟩)] w (RdPost (rdOct l) q p a c bs (fun o => .int .u8 (o.toNat : Int)) w) := by
  have HC : Hid (Calls Try.prog 90 #[.pointer (some ⟨p, 0, none⟩), .int .i64 ((1 : Nat) : Int)] w _) := next_any 1 p a c bs (l, q) w hr ho (by decide)
  cases l with
  | nil =>
    go_enter Try.func83, Try.ntmps83
    go_wp2_with fail
    refine HC.out.mono ?_
    rintro e w1 ⟨hg, ⟨h1, rfl⟩ | ⟨h1, _⟩⟩
    · go_wp2_with fail
      exact ⟨rfl, hg, Or.inr ⟨8, rfl, rfl⟩⟩
    · simp at h1
  | cons o l =>
    go_enter Try.func83, Try.ntmps83
    go_wp2_with fail
    refine HC.out.mono ?_
    rintro e w1 ⟨hg, ⟨h1, rfl⟩ | ⟨h1, h2, a', c', rfl, h3⟩⟩
    · simp at h1
    · obtain ⟨gb, go, rfl, hc⟩ := h3 0 o (by simp)
      have H2 : Hid (RdAt w1 p a c bs ((o :: l).drop 1, q)) := h2
      clear h2 h3
      simp only [Nat.add_zero] at hc
      go_wp2_with fail
      go_ret
      exact ⟨hg, Or.inl ⟨o, l, rfl, rfl, H2.out⟩⟩
end Go.Proofs.Ytfdbhojghkdlkaa
