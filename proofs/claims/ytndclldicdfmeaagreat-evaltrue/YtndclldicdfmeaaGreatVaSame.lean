/-
  SameStrings and SameValue: they answer true just for one list, one tree.
-/
import Derived.Test.YtndclldicdfmeaaGreatVaCopy
import Derived.Deep.RegionHeld3
namespace Go.Proofs.YtndclldicdfmeaaGreat
open Go.ChangeShapes Go.WideShapes Go.ChangeAt Go.RowKit

/-- Are two things one? -/
noncomputable def one {α : Type} (a b : α) : Bool := @decide (a = b) (Classical.propDecidable _)

theorem one_iff {α : Type} {a b : α} : one a b = true ↔ a = b := by unfold one; exact @decide_eq_true_iff _ (Classical.propDecidable _)
theorem one_true {α : Type} {a b : α} (h : a = b) : one a b = true := one_iff.2 h
theorem one_false {α : Type} {a b : α} (h : a ≠ b) : one a b = false := by
  cases e : one a b with
  | false => rfl
  | true => exact absurd (one_iff.1 e) h

theorem ret_bool {a b : Bool} (h : a = b) : Ending.returned (.bool a) = .returned (.bool b) := by rw [h]

theorem bytes_ext {s t : ByteArray} (h : s.toList = t.toList) : s = t := by
  have e : s.data.toList = t.data.toList := by rw [← ByteArray.toList_eq, ← ByteArray.toList_eq]; exact h
  cases s; cases t
  simp only [ByteArray.mk.injEq]
  exact Array.toList_inj.1 e

theorem toList_beq_false {s t : ByteArray} (h : ¬ s = t) : (s.toList == t.toList) = false := by
  cases e : (s.toList == t.toList) with
  | false => rfl
  | true => exact absurd (bytes_ext (by simpa using e)) h

theorem take_next {α : Type} {ks ls : List α} {m : Nat} (h : ks.take m = ls.take m) (h1 : m < ks.length) (h2 : m < ls.length) (he : ks[m] = ls[m]) : ks.take (m + 1) = ls.take (m + 1) := by
  rw [List.take_succ_eq_append_getElem h1, List.take_succ_eq_append_getElem h2, h, he]

theorem take_all {α : Type} {ks ls : List α} {m : Nat} (h : ks.take m = ls.take m) (h1 : ks.length ≤ m) (h2 : ks.length = ls.length) : ks = ls := by
  rwa [List.take_of_length_le h1, List.take_of_length_le (by omega)] at h

theorem Below_drewN (B : Nat) (w : World) (n : Nat) : Below B w (w.drewN n) := ⟨rfl, rfl, rfl, Nat.le_refl _, fun _ _ => rfl⟩

set_option maxRecDepth 100000 in
set_option maxHeartbeats 1600000 in
theorem strings_any (ks ls : List ByteArray) (ka la : Option Addr) (kc lc : Nat) (w : World) (hk : LayS w ka ks) (hl : LayS w la ls) (bk : ks.length * 16 ≤ 140737488351232) (bl : ls.length * 16 ≤ 140737488351232) :
    Calls Tryz.prog 28 #[.slice ka ks.length kc, .slice la ls.length lc] w fun e w' => e = .returned (.bool (one ks ls)) ∧ Below w.heap.size w w' := by
  have HK : Hid (LayS w ka ks) := hk
  have HL : Hid (LayS w la ls) := hl
  clear hk hl
  by_cases hlen : ks.length = ls.length
  · go_enter Tryz.func28, Tryz.ntmps28
    go_wp2_with fail
    go_loopw [5] (fun i wr => ∃ m : Nat, m ≤ ks.length ∧ i = .int .i64 m ∧ Hid (ks.take m = ls.take m) ∧ Hid (Below w.heap.size w wr)) (fun i _ => ks.length - (intOf i).toNat)
    case atStart => exact ⟨0, Nat.zero_le _, rfl, by simp [Hid], Below.refl _ _⟩
    case round =>
      obtain ⟨m, hm, rfl, HT, HW⟩ := hrel
      by_cases hlt : m < ks.length
      · obtain ⟨b1, o1, rfl, q1, _⟩ := HK.out m ks[m] (by simp [hlt])
        obtain ⟨b2, o2, rfl, q2, _⟩ := HL.out m (ls[m]'(by omega)) (by simp)
        rw [← HW.out.cell (lt_of_cell q1)] at q1
        rw [← HW.out.cell (lt_of_cell q2)] at q2
        have hlt2 : m < ls.length := by omega
        by_cases he : ks[m] = ls[m]'(by omega)
        · go_wp2_with fail
          go_quiet (fail)
          go_wp2_with fail
          go_roundw
          case rel => exact ⟨m + 1, by omega, by go_num, take_next HT.out hlt hlt2 he, HW.out.trans (Below_drewN _ _ _)⟩
          case measure => simp [intOf]; omega
        · have hd := toList_beq_false he
          go_wp2_with fail
          go_quiet (fail)
          go_wp2_with fail
          go_ret
          exact ⟨ret_bool (one_false fun e => he (by subst e; rfl)).symm, HW.out.trans (Below_drewN _ _ _)⟩
      · go_wp2_with fail
        go_ret
        exact ⟨ret_bool (one_true (take_all HT.out (by omega) hlen)).symm, HW.out⟩
  · go_enter Tryz.func28, Tryz.ntmps28
    go_wp2_with fail
    go_ret
    exact ⟨ret_bool (one_false fun e => hlen (by rw [e])).symm, Below.refl _ _⟩

theorem V_inj {n : Nat} {k b k' b' : Int} {t t' : ByteArray} {ks ks' : List ByteArray} {its its' : List (V n)} (e : ((k, b, t, ks, its) : V (n + 1)) = (k', b', t', ks', its')) :
    k = k' ∧ b = b' ∧ t = t' ∧ ks = ks' ∧ its = its' := by
  have e' : ((k, b, t, ks, its) : Int × Int × ByteArray × List ByteArray × List (V n)) = (k', b', t', ks', its') := e
  simpa using e'

theorem below_two (w : World) (o o' : Obj) : Below w.heap.size w ((w.alloc o).alloc o') := ((Below.refl _ _).alloc (Nat.le_refl _) o).alloc (by simp) o'

theorem two_cells (w : World) (a0 a1 a2 a3 a4 b0 b1 b2 b3 b4 : Value) (t t' : TypeId) :
    ((w.alloc (.cells #[a0, a1, a2, a3, a4] t)).alloc (.cells #[b0, b1, b2, b3, b4] t')).cell? ⟨w.heap.size, 4, none⟩ = some a4 ∧
    ((w.alloc (.cells #[a0, a1, a2, a3, a4] t)).alloc (.cells #[b0, b1, b2, b3, b4] t')).cell? ⟨w.heap.size + 1, 4, none⟩ = some b4 := by
  constructor
  · have := (Below.heap_alloc (w.alloc (.cells #[a0, a1, a2, a3, a4] t)) (.cells #[b0, b1, b2, b3, b4] t') w.heap.size (by simp)).trans (heap_alloc_new w (.cells #[a0, a1, a2, a3, a4] t))
    simp only [World.cell?, this]
    rfl
  · have := heap_new2 w (.cells #[a0, a1, a2, a3, a4] t) (.cells #[b0, b1, b2, b3, b4] t')
    simp only [World.cell?, this]
    rfl

theorem keepc {W w1 : World} (hb : Below W.heap.size W w1) : ∀ a v, W.cell? a = some v → w1.cell? a = some v := fun a v h => by rw [hb.cell (lt_of_cell h)]; exact h

theorem bcell {W w1 : World} (hb : Below W.heap.size W w1) : (∀ b o, b < W.heap.size → w1.cell? ⟨b, o, none⟩ = W.cell? ⟨b, o, none⟩) ∧ (∀ b o, b < W.heap.size → w1.frozen? ⟨b, o, none⟩ = W.frozen? ⟨b, o, none⟩) :=
  ⟨fun b o h => hb.cell (p := ⟨b, o, none⟩) h, fun b o h => hb.frozen (p := ⟨b, o, none⟩) h⟩

set_option maxRecDepth 100000 in
set_option maxHeartbeats 3200000 in
theorem same_any (n : Nat) : ∀ (u v : V n) (x y : Value) (w : World), Lay w n x u → Lay w n y v →
    Calls Tryz.prog 13 #[x, y] w fun e w' => e = .returned (.bool (one u v)) ∧ Below w.heap.size w w' := by
  induction n with
  | zero => intro v; exact v.elim
  | succ n ih =>
    rintro ⟨k, b, t, ks, its⟩ ⟨k', b', t', ks', its'⟩ x y w ⟨ka, kc, ia, ic, rfl, hfit, nk, ni, hks, his⟩ ⟨ka', kc', ia', ic', rfl, hfit', nk', ni', hks', his'⟩
    obtain ⟨-, -, -, -, -, hkr, -, -, hir⟩ := hfit
    obtain ⟨-, -, -, -, -, hkr', -, -, hir'⟩ := hfit'
    clear nk ni nk' ni'
    have HS : Hid (LayS w ka ks) := hks
    have HI : Hid (LayI w (Lay w n) ia its) := his
    have HS' : Hid (LayS w ka' ks') := hks'
    have HI' : Hid (LayI w (Lay w n) ia' its') := his'
    clear hks his hks' his'
    by_cases e1 : k = k'
    · subst e1
      by_cases e2 : b = b'
      · subst e2
        by_cases e3 : t = t'
        · subst e3
          by_cases e4 : ks = ks'
          · subst e4
            have o4 : one ks ks = true := one_true rfl
            by_cases e5 : its.length = its'.length
            · have E5 : Hid (its.length = its'.length) := e5
              have d5 : ((its.length : Int) != (its'.length : Int)) = false := by simp [e5]
              clear e5
              go_enter Tryz.func13, Tryz.ntmps13
              go_wp2_with (go_at_call 28; refine (strings_any _ _ _ _ _ _ _ ?_ ?_ hkr hkr').mono ?_; exact LayS.below HS.out (below_two _ _ _); exact LayS.below HS'.out (below_two _ _ _); rw [o4]; rintro e w1 ⟨rfl, hb⟩; obtain ⟨hc, hf⟩ := bcell hb)
              have a4 : w1.cell? ⟨w.heap.size, 4, none⟩ = some (.slice ia its.length ic) := by rw [hb.cell (by simp; omega)]; exact (two_cells _ _ _ _ _ _ _ _ _ _ _ _ _).1
              have b4 : w1.cell? ⟨w.heap.size + 1, 4, none⟩ = some (.slice ia' its'.length ic') := by rw [hb.cell (by simp)]; exact (two_cells _ _ _ _ _ _ _ _ _ _ _ _ _).2
              have HA : Hid (w1.cell? ⟨w.heap.size, 4, none⟩ = some (.slice ia its.length ic)) := a4
              have HB : Hid (w1.cell? ⟨w.heap.size + 1, 4, none⟩ = some (.slice ia' its'.length ic')) := b4
              have H1 : Hid (Below w.heap.size w w1) := nxt (below_two _ _ _) hb
              clear a4 b4 hc hf hb
              go_loopw [5] (fun i wr => ∃ m : Nat, m ≤ its.length ∧ i = .int .i64 m ∧ Hid (its.take m = its'.take m) ∧ Hid (Below w1.heap.size w1 wr)) (fun i _ => its.length - (intOf i).toNat)
              case atStart => exact ⟨0, Nat.zero_le _, rfl, by simp [Hid], Below.refl _ _⟩
              case round =>
                obtain ⟨m, hm, rfl, HT, HW⟩ := hrel
                have a4 := HA.out
                have b4 := HB.out
                rw [← HW.out.cell (lt_of_cell a4)] at a4
                rw [← HW.out.cell (lt_of_cell b4)] at b4
                by_cases hlt : m < its.length
                · have hlt2 : m < its'.length := by have := E5.out; omega
                  have hi0 : (0 : Int) ≤ (m : Int) := by omega
                  have hi1 : (m : Int) < (its.length : Int) := by omega
                  have hi2 : (m : Int) < (its'.length : Int) := by omega
                  have hbw := nxt H1.out HW.out
                  obtain ⟨g1, o1, c0, c1, c2, c3, c4, rfl, p0, p1, p2, p3, p4, l1⟩ := (LayI.below HI.out hbw) m its[m] (by simp [hlt])
                  obtain ⟨g2, o2, f0, f1, f2, f3, f4, rfl, q0, q1, q2, q3, q4, l2⟩ := (LayI.below HI'.out hbw) m (its'[m]'hlt2) (by simp)
                  have L1 : Hid (Lay wr n (.agg #[c0, c1, c2, c3, c4]) its[m]) := l1
                  have L2 : Hid (Lay wr n (.agg #[f0, f1, f2, f3, f4]) (its'[m]'hlt2)) := l2
                  clear l1 l2 hbw
                  by_cases he : its[m] = its'[m]'hlt2
                  · have o5 := one_true he
                    have HE : Hid (its[m] = its'[m]'hlt2) := he
                    clear he
                    go_wp2_with fail
                    go_region_held3 (fun w' => w'.cell? ⟨w.heap.size, 4, none⟩ = some (.slice (some ⟨g1, o1, none⟩) its.length ic) ∧ w'.cell? ⟨w.heap.size + 1, 4, none⟩ = some (.slice (some ⟨g2, o2, none⟩) its'.length ic') ∧
                      w'.cell? ⟨g1, o1 + m * 5, none⟩ = some c0 ∧ w'.cell? ⟨g1, o1 + m * 5 + 1, none⟩ = some c1 ∧ w'.cell? ⟨g1, o1 + m * 5 + 2, none⟩ = some c2 ∧ w'.cell? ⟨g1, o1 + m * 5 + 3, none⟩ = some c3 ∧ w'.cell? ⟨g1, o1 + m * 5 + 4, none⟩ = some c4 ∧
                      w'.cell? ⟨g2, o2 + m * 5, none⟩ = some f0 ∧ w'.cell? ⟨g2, o2 + m * 5 + 1, none⟩ = some f1 ∧ w'.cell? ⟨g2, o2 + m * 5 + 2, none⟩ = some f2 ∧ w'.cell? ⟨g2, o2 + m * 5 + 3, none⟩ = some f3 ∧ w'.cell? ⟨g2, o2 + m * 5 + 4, none⟩ = some f4) (go_keep)
                      ((go_at_call 13; refine (ih _ _ _ _ _ (Lay.below n L1.out ((Below.refl _ _).drew)) (Lay.below n L2.out ((Below.refl _ _).drew))).mono ?_; rintro e w2 ⟨rfl, hb2⟩; have hk2 := keepc hb2))
                    go_wp2_with fail
                    go_roundw
                    case rel =>
                      exact ⟨m + 1, by omega, by go_num, take_next HT.out hlt hlt2 HE.out, nxt HW.out.drew (by assumption)⟩
                    case measure => simp [intOf]; omega
                  · have o5 := one_false he
                    have HE : Hid (¬ its[m] = its'[m]'hlt2) := he
                    clear he
                    go_wp2_with fail
                    go_region_held3 (fun w' => w'.cell? ⟨w.heap.size, 4, none⟩ = some (.slice (some ⟨g1, o1, none⟩) its.length ic) ∧ w'.cell? ⟨w.heap.size + 1, 4, none⟩ = some (.slice (some ⟨g2, o2, none⟩) its'.length ic') ∧
                      w'.cell? ⟨g1, o1 + m * 5, none⟩ = some c0 ∧ w'.cell? ⟨g1, o1 + m * 5 + 1, none⟩ = some c1 ∧ w'.cell? ⟨g1, o1 + m * 5 + 2, none⟩ = some c2 ∧ w'.cell? ⟨g1, o1 + m * 5 + 3, none⟩ = some c3 ∧ w'.cell? ⟨g1, o1 + m * 5 + 4, none⟩ = some c4 ∧
                      w'.cell? ⟨g2, o2 + m * 5, none⟩ = some f0 ∧ w'.cell? ⟨g2, o2 + m * 5 + 1, none⟩ = some f1 ∧ w'.cell? ⟨g2, o2 + m * 5 + 2, none⟩ = some f2 ∧ w'.cell? ⟨g2, o2 + m * 5 + 3, none⟩ = some f3 ∧ w'.cell? ⟨g2, o2 + m * 5 + 4, none⟩ = some f4) (go_keep)
                      ((go_at_call 13; refine (ih _ _ _ _ _ (Lay.below n L1.out ((Below.refl _ _).drew)) (Lay.below n L2.out ((Below.refl _ _).drew))).mono ?_; rintro e w2 ⟨rfl, hb2⟩; have hk2 := keepc hb2))
                    go_wp2_with fail
                    go_ret
                    exact ⟨ret_bool (one_false fun e => HE.out (by have := (V_inj e).2.2.2.2; subst this; rfl)).symm, nxt (nxt H1.out HW.out.drew) (by assumption)⟩
                · go_wp2_with fail
                  go_ret
                  exact ⟨ret_bool (one_true (by rw [take_all HT.out (by omega) E5.out])).symm, nxt H1.out HW.out⟩
            · have d5 : ((its.length : Int) == (its'.length : Int)) = false := by simp; omega
              have E5 : Hid (¬ its.length = its'.length) := e5
              clear e5
              go_enter Tryz.func13, Tryz.ntmps13
              go_wp2_with (go_at_call 28; refine (strings_any _ _ _ _ _ _ _ ?_ ?_ hkr hkr').mono ?_; exact LayS.below HS.out (below_two _ _ _); exact LayS.below HS'.out (below_two _ _ _); rw [o4]; rintro e w1 ⟨rfl, hb⟩; obtain ⟨hc, hf⟩ := bcell hb)
              go_ret
              exact ⟨ret_bool (one_false fun e => E5.out (by rw [(V_inj e).2.2.2.2])).symm, nxt (below_two _ _ _) hb⟩
          · have o4 : one ks ks' = false := one_false e4
            go_enter Tryz.func13, Tryz.ntmps13
            go_wp2_with (go_at_call 28; refine (strings_any _ _ _ _ _ _ _ ?_ ?_ hkr hkr').mono ?_; exact LayS.below HS.out (below_two _ _ _); exact LayS.below HS'.out (below_two _ _ _); rw [o4]; rintro e w1 ⟨rfl, hb⟩)
            go_ret
            exact ⟨ret_bool (one_false fun e => e4 ((V_inj e).2.2.2.1)).symm, nxt (below_two _ _ _) hb⟩
        · have d1 := toList_beq_false e3
          go_enter Tryz.func13, Tryz.ntmps13
          go_wp2_with fail
          go_ret
          exact ⟨ret_bool (one_false fun e => e3 ((V_inj e).2.2.1)).symm, below_two _ _ _⟩
      · have d1 : (b == b') = false := by simpa using e2
        go_enter Tryz.func13, Tryz.ntmps13
        go_wp2_with fail
        go_ret
        exact ⟨ret_bool (one_false fun e => e2 ((V_inj e).2.1)).symm, below_two _ _ _⟩
    · have d1 : (k == k') = false := by simpa using e1
      go_enter Tryz.func13, Tryz.ntmps13
      go_wp2_with fail
      go_ret
      exact ⟨ret_bool (one_false fun e => e1 ((V_inj e).1)).symm, below_two _ _ _⟩
end Go.Proofs.YtndclldicdfmeaaGreat
