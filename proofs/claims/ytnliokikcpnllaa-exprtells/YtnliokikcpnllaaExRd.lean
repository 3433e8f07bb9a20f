/-
  The program's reader of octets: so many octets, one octet, an op; or a panic with the error.
-/
import Derived.Test.YtnliokikcpnllaaExEncM
import Derived.Test.YtnliokikcpnllaaExTake
namespace Go.Proofs.Ytnliokikcpnllaa
open Go.ChangeShapes Go.WideShapes Go.ChangeAt Go.RowKit
open Fl

/-- Where the reader stands: what is left, how many parts were begun. -/
abbrev SX := List UInt8 × Nat

/-- What the octets that are left keep to. -/
structure OctX (w : World) (a : Option Addr) (c : Nat) (l : List UInt8) : Prop where
  lay : LayB w a l
  cap : l.length ≤ c ∧ c ≤ 9223372036854775807
  len : l.length ≤ 200000000000000
  none_ : a = none → c = 0
  some_ : ∀ ad, a = some ad → 0 < c → ad = ⟨ad.block, ad.off, none⟩

/-- The reader's block. -/
def RdX (w : World) (p : Nat) (s : SX) : Prop :=
  ∃ a c, w.heap[p]? = some (.cells #[.slice a s.1.length c, .int .i64 (s.2 : Int)] 68 (0, 0)) ∧ OctX w a c s.1 ∧ (0 < s.1.length → ∀ ad, a = some ad → ad.block < p)

theorem not_rdX {w : World} {p b o : Nat} {z : Value} {a : Option Addr} {l c : Nat} {y : Int} {t : TypeId} (h : w.heap[p]? = some (.cells #[.slice a l c, .int .i64 y] t (0, 0))) (hc : w.cell? ⟨b, o, none⟩ = some z) (hz : ∃ n, z = .int .u8 n) : b ≠ p := by
  intro e
  subst e
  obtain ⟨n, rfl⟩ := hz
  simp only [World.cell?, h] at hc
  match o, hc with
  | 0, hc => simp at hc
  | 1, hc => simp at hc
  | o + 2, hc => simp at hc

theorem keep_cellX {w w' : World} {p : Nat} (hg : w.grownBy w' (some p)) {a : Addr} {v : Value} (h : w.cell? a = some v) (hne : a.block ≠ p) : w'.cell? a = some v := by
  rw [World.cell?_of_block (hg.block a.block (lt_of_cell h) (by simpa using hne))]
  exact h

theorem LayB.grownX {w w' : World} {p : Nat} {a a' : Option Addr} {bs : List UInt8} {l c : Nat} {y : Int} {t : TypeId} (hl : LayB w a bs) (h : w.heap[p]? = some (.cells #[.slice a' l c, .int .i64 y] t (0, 0))) (hg : w.grownBy w' (some p)) : LayB w' a bs := by
  intro i o hi
  obtain ⟨b, off, e, hc⟩ := hl i o hi
  exact ⟨b, off, e, keep_cellX hg hc (not_rdX h hc ⟨_, rfl⟩)⟩

theorem grown_of_belowX {w w' : World} {r : Option Nat} (h : Below w.heap.size w w') : w.grownBy w' r := ⟨h.os, h.tape, h.output, h.size, fun k hk _ => h.block k hk⟩

theorem OctX.below {w w' : World} {a : Option Addr} {c : Nat} {l : List UInt8} (h : OctX w a c l) (hb : Below w.heap.size w w') : OctX w' a c l := ⟨h.lay.below hb, h.cap, h.len, h.none_, h.some_⟩

theorem RdX.below {w w' : World} {p : Nat} {s : SX} (h : RdX w p s) (hb : Below w.heap.size w w') : RdX w' p s := by
  obtain ⟨a, c, h1, h2, h3⟩ := h
  exact ⟨a, c, (hb.block _ (lt_of_block h1)).trans h1, h2.below hb, h3⟩

/-- What lies up to the reader's block stays: so does the reader. -/
theorem RdX.upto {w w' : World} {p : Nat} {s : SX} (h : RdX w p s) (hh : ∀ j, j ≤ p → w'.heap[j]? = w.heap[j]?) : RdX w' p s := by
  obtain ⟨a, c, h1, h2, h3⟩ := h
  refine ⟨a, c, (hh p (Nat.le_refl _)).trans h1, ⟨?_, h2.cap, h2.len, h2.none_, h2.some_⟩, h3⟩
  intro i o hi
  obtain ⟨b, off, e, hc⟩ := h2.lay i o hi
  have hlt := (List.getElem?_eq_some_iff.1 hi).1
  have hb := h3 (by omega) _ e
  exact ⟨b, off, e, by rw [World.cell?_of_block (hh b (by simp at hb; omega))]; exact hc⟩

/-- Where the rest behind so many octets lies. -/
def restA : Option Addr → Nat → Nat → Option Addr
  | none, _, _ => none
  | some ad, c, m => if c = m then some ad else some (ad.add m)

/-- The rest behind so many octets. -/
theorem OctX.drop {w w' : World} {a : Option Addr} {c : Nat} {l : List UInt8} (h : OctX w a c l) (m : Nat) (hm : m ≤ l.length) (hl : LayB w' a l) : OctX w' (restA a c m) (c - m) (l.drop m) := by
  have hc := h.cap
  refine ⟨?_, ⟨by rw [List.length_drop]; omega, by omega⟩, by rw [List.length_drop]; have := h.len; omega, ?_, ?_⟩
  · intro i o hi
    rw [List.getElem?_drop] at hi
    obtain ⟨b, off, e, hcell⟩ := hl (m + i) o hi
    subst e
    have hlt := (List.getElem?_eq_some_iff.1 hi).1
    simp only [restA]
    rw [if_neg (by omega), add_plain]
    exact ⟨b, off + m, rfl, by rw [Nat.add_assoc]; exact hcell⟩
  · intro e
    cases a with
    | none => have := h.none_ rfl; omega
    | some ad => simp only [restA] at e; split at e <;> cases e
  · intro ad' e hpos
    cases a with
    | none => cases e
    | some ad =>
      simp only [restA] at e
      rw [if_neg (by omega)] at e
      have := h.some_ ad rfl (by omega)
      cases e
      rw [this, add_plain]

/-- What so many octets are. -/
def NextPost (m : Nat) (p : Nat) (s : SX) (w : World) (e : Ending) (w' : World) : Prop :=
  w.grownBy w' (some p) ∧ ((s.1.length < m ∧ e = panX 8) ∨ (m ≤ s.1.length ∧ RdX w' p (s.1.drop m, s.2) ∧ ∃ a' c', e = .returned (.slice a' m c') ∧ LayB w' a' (s.1.take m)))

set_option maxRecDepth 100000 in
set_option maxHeartbeats 3200000 in
theorem nextX_any (m : Nat) (p : Nat) (s : SX) (w : World) (hr : RdX w p s) (hm : m ≤ 255) :
    Calls Try.prog 68 #[.pointer (some ⟨p, 0, none⟩), .int .i64 m] w (NextPost m p s w) := by
  obtain ⟨l, q⟩ := s
  obtain ⟨a, c, hb, ho, hold⟩ := hr
  simp only at hb ho hold
  have HD : Hid (0 < l.length → ∀ ad, a = some ad → ad.block < p) := hold
  clear hold
  have HB : Hid (w.heap[p]? = some (.cells #[.slice a l.length c, .int .i64 (q : Int)] 68 (0, 0))) := hb
  have HO : Hid (OctX w a c l) := ho
  obtain ⟨x0, f0⟩ := cell_of hb 0
  obtain ⟨x1, f1⟩ := cell_of hb 1
  simp at x0 x1
  have hcap := ho.cap.1
  have hcap2 := ho.cap.2
  clear hb ho
  by_cases hs : l.length < m
  · have hd : (l.length : Int) < (m : Int) := by omega
    go_enter Try.func68, Try.ntmps68
    go_wp2_with fail
    exact ⟨rfl, World.grownBy.refl _ _, Or.inl ⟨hs, rfl⟩⟩
  · have hd : decide ((l.length : Int) < (m : Int)) = false := by simp; omega
    have h2 : (m : Int) ≤ (l.length : Int) := by omega
    have h3 : (l.length : Int) ≤ (c : Int) := by omega
    have h4 : (m : Int) ≤ (c : Int) := by omega
    have fin : ∀ (v : Value) (w1 : World), w1 = w.setCell ⟨p, 0, none⟩ (.slice (restA a c m) (l.length - m) (c - m)) → v = .slice a m c → NextPost m p (l, q) w (.returned v) w1 := by
      rintro v w1 rfl rfl
      have hg : w.grownBy (w.setCell ⟨p, 0, none⟩ (.slice (restA a c m) (l.length - m) (c - m))) (some p) := ⟨rfl, rfl, rfl, by simp [World.setCell], fun k hk hne => Below.heap_setCell _ _ _ _ (fun e => hne (by rw [e]))⟩
      have hl := HO.out.lay.grownX HB.out hg
      refine ⟨hg, Or.inr ⟨by show m ≤ l.length; omega, ⟨_, _, ?_, HO.out.drop m (by omega) hl, ?_⟩, a, c, rfl, ?_⟩⟩
      · simp [World.setCell, Array.getElem?_modify, HB.out]
      · intro hpos ad' e
        simp only [List.length_drop] at hpos
        cases a with
        | none => cases e
        | some ad =>
          simp only [restA] at e
          have hb := HD.out (by omega) ad rfl
          split at e
          · cases e; exact hb
          · cases e
            rw [HO.out.some_ ad rfl (by omega), add_plain]
            exact hb
      · intro i o hi
        have hi' : i < m := by
          have := (List.getElem?_eq_some_iff.1 hi).1
          rw [List.length_take] at this
          omega
        rw [List.getElem?_take_of_lt hi'] at hi
        exact hl i o hi
    have FIN : Hid (∀ (v : Value) (w1 : World), w1 = w.setCell ⟨p, 0, none⟩ (.slice (restA a c m) (l.length - m) (c - m)) → v = .slice a m c → NextPost m p (l, q) w (.returned v) w1) := fin
    clear fin
    cases a with
    | none =>
      have hc0 := HO.out.none_ rfl
      have hl0 : l.length = 0 := by omega
      have hm0 : m = 0 := by omega
      have hlnil : l = [] := List.eq_nil_of_length_eq_zero hl0
      subst hlnil hm0 hc0
      go_enter Try.func68, Try.ntmps68
      go_wp2_with fail
      go_ret
      exact FIN.out _ _ rfl rfl
    | some ad =>
      by_cases hcm : c = m
      · subst hcm
        go_enter Try.func68, Try.ntmps68
        go_wp2_with fail
        go_ret
        exact FIN.out _ _ (by rw [show l.length - c = 0 by omega]; simp [restA]) rfl
      · go_enter Try.func68, Try.ntmps68
        go_wp2_with fail
        go_ret
        exact FIN.out _ _ (by simp [restA, hcm]) rfl

/-- One octet, as a number. -/
def octetX : SX → Except Int (Int × SX)
  | ([], _) => .error 8
  | (o :: r, q) => .ok ((o.toNat : Int), (r, q))

/-- What a reading leaves: the reader alone is written; the end, or a panic with the error. -/
def RPost {α : Type} (r : Except Int (α × SX)) (p : Nat) (V : α → Value) (w : World) (e : Ending) (w' : World) : Prop :=
  w.grownBy w' (some p) ∧ ((∃ x s, r = .ok (x, s) ∧ e = .returned (V x) ∧ RdX w' p s) ∨ (∃ er, r = .error er ∧ e = panX er))

theorem RPost.ok {α : Type} {x : α} {s : SX} {p : Nat} {V : α → Value} {w w' : World} {e : Ending} (h : RPost (.ok (x, s)) p V w e w') : e = .returned (V x) ∧ w.grownBy w' (some p) ∧ RdX w' p s := by
  obtain ⟨hg, h⟩ := h
  rcases h with ⟨x', s', h1, h2, h3⟩ | ⟨er, h1, _⟩
  · cases h1; exact ⟨h2, hg, h3⟩
  · cases h1
theorem RPost.err {α : Type} {er : Int} {p : Nat} {V : α → Value} {w w' : World} {e : Ending} (h : RPost (.error er) p V w e w') : e = panX er ∧ w.grownBy w' (some p) := by
  obtain ⟨hg, h⟩ := h
  rcases h with ⟨x', s', h1, _⟩ | ⟨er', h1, h2⟩
  · cases h1
  · cases h1; exact ⟨h2, hg⟩

/-- A number. -/
abbrev I64 (x : Int) : Value := .int .i64 x

set_option maxRecDepth 100000 in
theorem octetX_any (p : Nat) (s : SX) (w : World) (hr : RdX w p s) : Calls Try.prog 67 #[.pointer (some ⟨p, 0, none⟩)] w (RPost (octetX s) p I64 w) := by
  have HN : Hid (Calls Try.prog 68 #[.pointer (some ⟨p, 0, none⟩), .int .i64 ((1 : Nat) : Int)] w (NextPost 1 p s w)) := nextX_any 1 p s w hr (by omega)
  clear hr
  obtain ⟨l, q⟩ := s
  cases l with
  | nil =>
    go_enter Try.func67, Try.ntmps67
    go_wp2_with fail
    refine HN.out.mono ?_
    rintro e w1 ⟨hg, ⟨h1, rfl⟩ | ⟨h1, -⟩⟩
    · go_wp2_with fail
      exact ⟨rfl, hg, Or.inr ⟨8, rfl, rfl⟩⟩
    · simp at h1
  | cons o r =>
    go_enter Try.func67, Try.ntmps67
    go_wp2_with fail
    refine HN.out.mono ?_
    rintro e w1 ⟨hg, ⟨h1, -⟩ | ⟨-, hR, a, c, rfl, hl⟩⟩
    · simp at h1
    · obtain ⟨b, off, rfl, hc⟩ := hl 0 o rfl
      have HR : Hid (RdX w1 p (r, q)) := hR
      clear hR hl
      simp only [Nat.add_zero] at hc
      go_wp2_with fail
      go_ret
      refine ⟨hg, Or.inl ⟨_, _, rfl, ?_, HR.out⟩⟩
      have hw : wrap64 (o.toNat : Int) = (o.toNat : Int) := by have := o.toNat_lt; simp only [wrap64]; omega
      show Ending.returned (.int .i64 (wrap64 (o.toNat : Int))) = _
      rw [hw]
end Go.Proofs.Ytnliokikcpnllaa
