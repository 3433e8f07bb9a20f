/-
  The program's walk through a value's parts: it panics with the first error, or ends with what was met.
-/
import Derived.Test.YtndclldicdfmeaaGreatVaWalkMath
namespace Go.Proofs.YtndclldicdfmeaaGreat
open Go.ChangeShapes Go.WideShapes Go.ChangeAt Go.RowKit
open Fl

/-- The block of a tally. -/
def Tally (w : World) (p : Nat) (s : Nat × Int) : Prop := w.heap[p]? = some (.cells #[.int .i64 (s.1 : Int), .int .i64 s.2] 67 (0, 0))

theorem Tally.cells {w : World} {p : Nat} {s : Nat × Int} (h : Tally w p s) : w.cell? ⟨p, 0, none⟩ = some (.int .i64 (s.1 : Int)) ∧ w.cell? ⟨p, 1, none⟩ = some (.int .i64 s.2) ∧ w.frozen? ⟨p, 0, none⟩ = false ∧ w.frozen? ⟨p, 1, none⟩ = false := by
  unfold Tally at h
  simp [World.cell?, World.frozen?, h]

theorem block_of_str {w : World} {p : Nat} {s : Nat × Int} (h : Tally w p s) {a : Addr} {t : ByteArray} (hc : w.cell? a = some (.string t)) : a.block ≠ p := by
  intro e
  subst e
  unfold Tally at h
  simp only [World.cell?, h] at hc
  split at hc
  · cases hc
  · rcases a with ⟨_, o, _⟩
    match o, hc with
    | 0, hc => simp at hc
    | 1, hc => simp at hc
    | o + 2, hc => simp at hc

theorem keep_cell {w w' : World} {p : Nat} (hg : w.grownBy w' (some p)) {a : Addr} {v : Value} (h : w.cell? a = some v) (hne : a.block ≠ p) : w'.cell? a = some v := by
  rw [World.cell?_of_block (hg.block a.block (lt_of_cell h) (by simpa using hne))]
  exact h

theorem LayS.tally {w w' : World} {p : Nat} {s : Nat × Int} {ka : Option Addr} {ks : List ByteArray} (h : LayS w ka ks) (ht : Tally w p s) (hg : w.grownBy w' (some p)) : LayS w' ka ks := by
  intro i s hi
  obtain ⟨b, o, e, hc, hs⟩ := h i s hi
  exact ⟨b, o, e, keep_cell hg hc (block_of_str ht hc), hs⟩

theorem Lay.tally (n : Nat) : ∀ {w w' : World} {p : Nat} {s : Nat × Int} {x : Value} {v : V n}, Lay w n x v → Tally w p s → w.grownBy w' (some p) → Lay w' n x v := by
  induction n with
  | zero => intro w w' p s x v; exact v.elim
  | succ n ih =>
    rintro w w' p s x ⟨k, b, t, ks, its⟩ ⟨ka, kc, ia, ic, hx, hfit, nk, ni, hS, hI⟩ ht hg
    refine ⟨ka, kc, ia, ic, hx, hfit, nk, ni, hS.tally ht hg, ?_⟩
    intro i u hu
    obtain ⟨b, o, c0, c1, c2, c3, c4, e, q0, q1, q2, q3, q4, hl⟩ := hI i u hu
    have hne : b ≠ p := by
      obtain ⟨k', b', t', _, _, _, _, _, _, ex⟩ := Lay.shape n hl
      simp only [mk, Value.agg.injEq, Array.mk.injEq, List.cons.injEq] at ex
      rw [ex.2.2.1] at q2
      exact block_of_str ht q2
    exact ⟨b, o, c0, c1, c2, c3, c4, e, keep_cell hg q0 hne, keep_cell hg q1 hne, keep_cell hg q2 hne, keep_cell hg q3 hne, keep_cell hg q4 hne, ih hl ht hg⟩

theorem tally_step {w : World} {p c : Nat} {d : Int} (h : Tally w p (c, d)) (mx : Int) (o : Obj) :
    Tally (((w.setCell ⟨p, 0, none⟩ (.int .i64 ((c : Int) + 1))).setCell ⟨p, 1, none⟩ (.int .i64 mx)).alloc o) p (c + 1, mx) ∧ w.grownBy (((w.setCell ⟨p, 0, none⟩ (.int .i64 ((c : Int) + 1))).setCell ⟨p, 1, none⟩ (.int .i64 mx)).alloc o) (some p) := by
  have hp := lt_of_block h
  constructor
  · show _ = _
    rw [Below.heap_alloc _ _ _ (by simp [World.setCell]; omega)]
    unfold Tally at h
    simp [World.setCell, Array.getElem?_modify, h]
  · refine ⟨rfl, rfl, rfl, by simp [World.setCell], fun k hk hne => ?_⟩
    have hne' : k ≠ p := fun e => hne (by rw [e])
    rw [Below.heap_alloc _ _ _ (by simp [World.setCell]; omega), Below.heap_setCell _ _ _ _ hne', Below.heap_setCell _ _ _ _ hne']

theorem box_at4 (w : World) (p : Nat) (u u' a0 a1 a2 a3 a4 : Value) (t : TypeId) : (((w.setCell ⟨p, 0, none⟩ u).setCell ⟨p, 1, none⟩ u').alloc (.cells #[a0, a1, a2, a3, a4] t)).cell? ⟨w.heap.size, 4, none⟩ = some a4 := by
  have := heap_alloc_new ((w.setCell ⟨p, 0, none⟩ u).setCell ⟨p, 1, none⟩ u') (.cells #[a0, a1, a2, a3, a4] t)
  have e : ((w.setCell ⟨p, 0, none⟩ u).setCell ⟨p, 1, none⟩ u').heap.size = w.heap.size := by simp [World.setCell]
  rw [e] at this
  simp only [World.cell?, this]
  rfl

theorem grown_below {w w1 w2 : World} {r : Option Nat} (h : w.grownBy w1 r) (k : Below w1.heap.size w1 w2) : w.grownBy w2 r :=
  ⟨k.os.trans h.os, k.tape.trans h.tape, k.output.trans h.output, Nat.le_trans h.size k.size, fun j hj hne => (k.block j (Nat.lt_of_lt_of_le hj h.size)).trans (h.block j hj hne)⟩

theorem grown_trans {a b c : World} {r : Option Nat} (h : a.grownBy b r) (k : b.grownBy c r) : a.grownBy c r :=
  ⟨k.os.trans h.os, k.tape.trans h.tape, k.output.trans h.output, Nat.le_trans h.size k.size, fun j hj hne => (k.block j (Nat.lt_of_lt_of_le hj h.size) hne).trans (h.block j hj hne)⟩

theorem Tally.below {w w' : World} {p : Nat} {s : Nat × Int} (h : Tally w p s) (k : Below w.heap.size w w') : Tally w' p s := by
  unfold Tally at *
  rw [k.block p (lt_of_block h)]
  exact h

theorem LayI.tally {n : Nat} {w w' : World} {p : Nat} {s : Nat × Int} {ia : Option Addr} {its : List (V n)} (hI : LayI w (Lay w n) ia its) (ht : Tally w p s) (hg : w.grownBy w' (some p)) : LayI w' (Lay w' n) ia its := by
  intro i u hu
  obtain ⟨b, o, c0, c1, c2, c3, c4, e, q0, q1, q2, q3, q4, hl⟩ := hI i u hu
  have hne : b ≠ p := by
    obtain ⟨k', b', t', _, _, _, _, _, _, ex⟩ := Lay.shape n hl
    simp only [mk, Value.agg.injEq, Array.mk.injEq, List.cons.injEq] at ex
    rw [ex.2.2.1] at q2
    exact block_of_str ht q2
  exact ⟨b, o, c0, c1, c2, c3, c4, e, keep_cell hg q0 hne, keep_cell hg q1 hne, keep_cell hg q2 hne, keep_cell hg q3 hne, keep_cell hg q4 hne, Lay.tally n hl ht hg⟩

/-- What a walk leaves: the tally alone is written; the end, or a panic with the error. -/
def WalkPost (r : Except Int (Nat × Int)) (p : Nat) (w : World) (e : Ending) (w' : World) : Prop :=
  w.grownBy w' (some p) ∧ ((∃ s', r = .ok s' ∧ e = .returned (.tuple #[]) ∧ Tally w' p s') ∨ (∃ er s', r = .error er ∧ Tally w' p s' ∧ e = .panicked [{ v := .iface 38 (.int .i64 er), recovered := false }]))

theorem WalkPost.ok {s : Nat × Int} {p : Nat} {w w' : World} {e : Ending} (h : WalkPost (.ok s) p w e w') : e = .returned (.tuple #[]) ∧ w.grownBy w' (some p) ∧ Tally w' p s := by
  obtain ⟨hg, h⟩ := h
  rcases h with ⟨s', h1, h2, h3⟩ | ⟨er, s', h1, _⟩
  · cases h1; exact ⟨h2, hg, h3⟩
  · cases h1

theorem WalkPost.err {er : Int} {p : Nat} {w w' : World} {e : Ending} (h : WalkPost (.error er) p w e w') :
    e = .panicked [{ v := .iface 38 (.int .i64 er), recovered := false }] ∧ w.grownBy w' (some p) ∧ ∃ s, Tally w' p s := by
  obtain ⟨hg, h⟩ := h
  rcases h with ⟨s', h1, _⟩ | ⟨er', s', h1, h2, h3⟩
  · cases h1
  · cases h1; exact ⟨h3, hg, s', h2⟩

theorem Lay.five (n : Nat) {w : World} {c0 c1 c2 c3 c4 : Value} {v : V n} (h : Lay w n (.agg #[c0, c1, c2, c3, c4]) v) :
    ∃ k b t ka kl kc ia il ic, c0 = .int .i64 k ∧ c1 = .int .u64 b ∧ c2 = .string t ∧ c3 = .slice ka kl kc ∧ c4 = .slice ia il ic := by
  obtain ⟨k, b, t, ka, kl, kc, ia, il, ic, ex⟩ := Lay.shape n h
  simp only [mk, Value.agg.injEq, Array.mk.injEq, List.cons.injEq] at ex
  exact ⟨k, b, t, ka, kl, kc, ia, il, ic, ex.1, ex.2.1, ex.2.2.1, ex.2.2.2.1, ex.2.2.2.2.1⟩

set_option maxRecDepth 100000 in
set_option maxHeartbeats 3200000 in
theorem walk_any (n : Nat) : ∀ (v : V n) (x : Value) (l : Int) (s : Nat × Int) (p : Nat) (w : World), Lay w n x v → Tally w p s → Met s → 1 ≤ l → l ≤ 9 →
    Calls Tryz.prog 39 #[.pointer (some ⟨p, 0, none⟩), x, .int .i64 l] w (WalkPost (wk n v l s) p w) := by
  induction n with
  | zero => intro v; exact v.elim
  | succ n ih =>
    rintro ⟨k, b, t, ks, its⟩ x l ⟨c, d⟩ p w ⟨ka, kc, ia, ic, rfl, hfit, nk, ni, hks, his⟩ ht hmet hl1 hl9
    obtain ⟨a0, a1, f0, f1⟩ := ht.cells
    obtain ⟨m1, m2, m3⟩ := hmet
    simp only at a0 a1 m1 m2 m3
    have hp : p < w.heap.size := lt_of_cell a0
    have HS : Hid (LayS w ka ks) := hks
    have HI : Hid (LayI w (Lay w n) ia its) := his
    have HF : Hid (Fit k b t ks.length kc its.length ic) := hfit
    have HT : Hid (Tally w p (c, d)) := ht
    obtain ⟨-, -, -, -, -, -, -, -, bi⟩ := hfit
    clear hks his nk ni ht
    by_cases h8 : 8 < l
    · go_enter Tryz.func39, Tryz.ntmps39
      go_wp2_with fail
      exact ⟨rfl, (tally_step HT.out _ _).2, Or.inr ⟨10, _, by simp only [wk]; rw [if_pos h8], (tally_step HT.out _ _).1, rfl⟩⟩
    by_cases h5 : 512 ≤ c
    · have h5' : (512 : Int) ≤ (c : Int) := by omega
      have HW : Hid (wk (n + 1) (k, b, t, ks, its) l (c, d) = .error 3) := by show _ = _; simp only [wk]; rw [if_neg h8, if_pos h5]
      by_cases hd : d < l
      · go_enter Tryz.func39, Tryz.ntmps39
        go_wp2_with fail
        exact ⟨rfl, (tally_step HT.out _ _).2, Or.inr ⟨3, _, HW.out, (tally_step HT.out _ _).1, rfl⟩⟩
      · go_enter Tryz.func39, Tryz.ntmps39
        go_wp2_with fail
        exact ⟨rfl, (tally_step HT.out _ _).2, Or.inr ⟨3, _, HW.out, (tally_step HT.out _ _).1, rfl⟩⟩
    have h5' : (c : Int) < 512 := by omega
    have d5 : decide ((512 : Int) < (c : Int) + 1) = false := by simp; omega
    cases hmay : mayB k b t ks its.length with
    | false =>
      have HW : Hid (wk (n + 1) (k, b, t, ks, its) l (c, d) = .error 9) := by show _ = _; simp only [wk]; rw [if_neg h8, if_neg h5, if_neg (by simp [hmay])]
      by_cases hd : d < l
      · go_enter Tryz.func39, Tryz.ntmps39
        go_wp2_with (go_at_call 60; refine (part_any _ _ _ _ _ _ _ _ _ _ (LayS.tally HS.out HT.out (tally_step HT.out _ _).2) HF.out).mono ?_; rw [hmay]; rintro e w1 ⟨rfl, hb1⟩)
        exact ⟨rfl, grown_below (tally_step HT.out _ _).2 hb1, Or.inr ⟨9, _, HW.out, Tally.below (tally_step HT.out _ _).1 hb1, rfl⟩⟩
      · go_enter Tryz.func39, Tryz.ntmps39
        go_wp2_with (go_at_call 60; refine (part_any _ _ _ _ _ _ _ _ _ _ (LayS.tally HS.out HT.out (tally_step HT.out _ _).2) HF.out).mono ?_; rw [hmay]; rintro e w1 ⟨rfl, hb1⟩)
        exact ⟨rfl, grown_below (tally_step HT.out _ _).2 hb1, Or.inr ⟨9, _, HW.out, Tally.below (tally_step HT.out _ _).1 hb1, rfl⟩⟩
    | true =>
      have HW : Hid (wk (n + 1) (k, b, t, ks, its) l (c, d) = foldE (fun u s => wk n u (l + 1) s) its (c + 1, max d l)) := by show _ = _; simp only [wk]; rw [if_neg h8, if_neg h5, if_pos hmay]
      by_cases hd : d < l
      · have e1 : max d l = l := by omega
        rw [e1] at HW
        go_enter Tryz.func39, Tryz.ntmps39
        go_wp2_with (go_at_call 60; refine (part_any _ _ _ _ _ _ _ _ _ _ (LayS.tally HS.out HT.out (tally_step HT.out _ _).2) HF.out).mono ?_; rw [hmay]; rintro e w1 ⟨rfl, hb1⟩; have b4 := keepc hb1 _ _ (box_at4 _ _ _ _ _ _ _ _ _ _))
        have T1 : Hid (Tally w1 p (c + 1, l)) := Tally.below (tally_step HT.out _ _).1 hb1
        have G1 : Hid (w.grownBy w1 (some p)) := grown_below (tally_step HT.out _ _).2 hb1
        clear hb1 b4
        go_loopw [43] (fun i wr => ∃ (m : Nat) (s' : Nat × Int), m ≤ its.length ∧ i = .int .i64 m ∧ Hid (foldE (fun u s => wk n u (l + 1) s) (its.take m) (c + 1, l) = .ok s') ∧ Hid (Tally wr p s') ∧ Hid (Met s') ∧ Hid (w.grownBy wr (some p))) (fun i _ => its.length - (intOf i).toNat)
        case atStart => exact ⟨0, (c + 1, l), Nat.zero_le _, rfl, rfl, T1, ⟨by show c + 1 ≤ 512; omega, by show (0 : Int) ≤ l; omega, by show l ≤ 8; omega⟩, G1⟩
        case round =>
          obtain ⟨m, s', hm, rfl, HE, HTr, HM, HG⟩ := hrel
          by_cases hlt : m < its.length
          · obtain ⟨g1, o1, c0, c1, c2, c3, c4, rfl, p0, p1, p2, p3, p4, l1⟩ := (LayI.tally HI.out HT.out HG.out) m its[m] (by simp [hlt])
            obtain ⟨k1, b1, t1, ka1, kl1, kc1, ia1, il1, ic1, rfl, rfl, rfl, rfl, rfl⟩ := Lay.five n l1
            have L1 : Hid (Lay wr n (mk k1 b1 t1 ka1 kl1 kc1 ia1 il1 ic1) its[m]) := l1
            clear l1
            cases hw : wk n its[m] (l + 1) s' with
            | error er =>
              have HX : Hid (wk n its[m] (l + 1) s' = .error er) := hw
              clear hw
              go_wp2_with (go_at_call 39; refine (ih _ _ _ _ _ _ (Lay.below n L1.out ((Below.refl _ _).alloc (Nat.le_refl _) _)) (Tally.below HTr.out ((Below.refl _ _).alloc (Nat.le_refl _) _)) HM.out (by omega) (by omega)).mono ?_; rw [HX.out]; intro e w2 hp2; obtain ⟨rfl, hg2, s2, ht2⟩ := WalkPost.err hp2)
              exact ⟨rfl, grown_trans (grown_below HG.out ((Below.refl _ _).alloc (Nat.le_refl _) _)) hg2, Or.inr ⟨er, s2, by rw [HW.out]; exact foldE_stop (m := m + 1) ((foldE_next hlt HE.out).trans HX.out), ht2, rfl⟩⟩
            | ok s2 =>
              have HX : Hid (wk n its[m] (l + 1) s' = .ok s2) := hw
              clear hw
              go_wp2_with (go_at_call 39; refine (ih _ _ _ _ _ _ (Lay.below n L1.out ((Below.refl _ _).alloc (Nat.le_refl _) _)) (Tally.below HTr.out ((Below.refl _ _).alloc (Nat.le_refl _) _)) HM.out (by omega) (by omega)).mono ?_; rw [HX.out]; intro e w2 hp2; obtain ⟨rfl, hg2, ht2⟩ := WalkPost.ok hp2)
              go_roundw
              case rel => exact ⟨m + 1, s2, by omega, by go_num, (foldE_next hlt HE.out).trans HX.out, ht2, wk_met n _ _ _ _ (by omega) HM.out HX.out, grown_trans (grown_below HG.out ((Below.refl _ _).alloc (Nat.le_refl _) _)) hg2⟩
              case measure => simp [intOf]; omega
          · go_wp2_with fail
            go_end0
            exact ⟨HG.out, Or.inl ⟨s', by rw [HW.out, ← foldE_all (m := m) (by omega)]; exact HE.out, rfl, HTr.out⟩⟩
      · have e1 : max d l = d := by omega
        rw [e1] at HW
        go_enter Tryz.func39, Tryz.ntmps39
        go_wp2_with (go_at_call 60; refine (part_any _ _ _ _ _ _ _ _ _ _ (LayS.tally HS.out HT.out (tally_step HT.out _ _).2) HF.out).mono ?_; rw [hmay]; rintro e w1 ⟨rfl, hb1⟩; have b4 := keepc hb1 _ _ (box_at4 _ _ _ _ _ _ _ _ _ _))
        have T1 : Hid (Tally w1 p (c + 1, d)) := Tally.below (tally_step HT.out _ _).1 hb1
        have G1 : Hid (w.grownBy w1 (some p)) := grown_below (tally_step HT.out _ _).2 hb1
        clear hb1 b4
        go_loopw [43] (fun i wr => ∃ (m : Nat) (s' : Nat × Int), m ≤ its.length ∧ i = .int .i64 m ∧ Hid (foldE (fun u s => wk n u (l + 1) s) (its.take m) (c + 1, d) = .ok s') ∧ Hid (Tally wr p s') ∧ Hid (Met s') ∧ Hid (w.grownBy wr (some p))) (fun i _ => its.length - (intOf i).toNat)
        case atStart => exact ⟨0, (c + 1, d), Nat.zero_le _, rfl, rfl, T1, ⟨by show c + 1 ≤ 512; omega, by show (0 : Int) ≤ d; omega, by show d ≤ 8; omega⟩, G1⟩
        case round =>
          obtain ⟨m, s', hm, rfl, HE, HTr, HM, HG⟩ := hrel
          by_cases hlt : m < its.length
          · obtain ⟨g1, o1, c0, c1, c2, c3, c4, rfl, p0, p1, p2, p3, p4, l1⟩ := (LayI.tally HI.out HT.out HG.out) m its[m] (by simp [hlt])
            obtain ⟨k1, b1, t1, ka1, kl1, kc1, ia1, il1, ic1, rfl, rfl, rfl, rfl, rfl⟩ := Lay.five n l1
            have L1 : Hid (Lay wr n (mk k1 b1 t1 ka1 kl1 kc1 ia1 il1 ic1) its[m]) := l1
            clear l1
            cases hw : wk n its[m] (l + 1) s' with
            | error er =>
              have HX : Hid (wk n its[m] (l + 1) s' = .error er) := hw
              clear hw
              go_wp2_with (go_at_call 39; refine (ih _ _ _ _ _ _ (Lay.below n L1.out ((Below.refl _ _).alloc (Nat.le_refl _) _)) (Tally.below HTr.out ((Below.refl _ _).alloc (Nat.le_refl _) _)) HM.out (by omega) (by omega)).mono ?_; rw [HX.out]; intro e w2 hp2; obtain ⟨rfl, hg2, s2, ht2⟩ := WalkPost.err hp2)
              exact ⟨rfl, grown_trans (grown_below HG.out ((Below.refl _ _).alloc (Nat.le_refl _) _)) hg2, Or.inr ⟨er, s2, by rw [HW.out]; exact foldE_stop (m := m + 1) ((foldE_next hlt HE.out).trans HX.out), ht2, rfl⟩⟩
            | ok s2 =>
              have HX : Hid (wk n its[m] (l + 1) s' = .ok s2) := hw
              clear hw
              go_wp2_with (go_at_call 39; refine (ih _ _ _ _ _ _ (Lay.below n L1.out ((Below.refl _ _).alloc (Nat.le_refl _) _)) (Tally.below HTr.out ((Below.refl _ _).alloc (Nat.le_refl _) _)) HM.out (by omega) (by omega)).mono ?_; rw [HX.out]; intro e w2 hp2; obtain ⟨rfl, hg2, ht2⟩ := WalkPost.ok hp2)
              go_roundw
              case rel => exact ⟨m + 1, s2, by omega, by go_num, (foldE_next hlt HE.out).trans HX.out, ht2, wk_met n _ _ _ _ (by omega) HM.out HX.out, grown_trans (grown_below HG.out ((Below.refl _ _).alloc (Nat.le_refl _) _)) hg2⟩
              case measure => simp [intOf]; omega
          · go_wp2_with fail
            go_end0
            exact ⟨HG.out, Or.inl ⟨s', by rw [HW.out, ← foldE_all (m := m) (by omega)]; exact HE.out, rfl, HTr.out⟩⟩
end Go.Proofs.YtndclldicdfmeaaGreat
