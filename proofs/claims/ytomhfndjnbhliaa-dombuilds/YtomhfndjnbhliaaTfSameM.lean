/-
  SameAttrs and SameTree: they answer true just for one list, one tree. (Printed by wip/make/mktrsame.py.)
-/
import Derived.Test.YtomhfndjnbhliaaTfFrameJ
import Derived.Laws.StructEq
import Derived.Deep.RegionHeld3
namespace Go.Proofs.Ytomhfndjnbhliaa
open Go.ChangeShapes Go.WideShapes Go.ChangeAt Go.RowKit

/-- Are two things one? -/
noncomputable def one {α : Type} (a b : α) : Bool := @decide (a = b) (Classical.propDecidable _)
theorem one_iff {α : Type} {a b : α} : one a b = true ↔ a = b := by unfold one; exact @decide_eq_true_iff _ (Classical.propDecidable _)
theorem one_true {α : Type} {a b : α} (h : a = b) : one a b = true := one_iff.2 h
theorem one_false {α : Type} {a b : α} (h : a ≠ b) : one a b = false := by
  cases e : one a b with
  | false => rfl
  | true => exact absurd (one_iff.1 e) h
theorem bytes_ext {s t : ByteArray} (h : s.toList = t.toList) : s = t := by
  have e : s.data.toList = t.data.toList := by rw [← ByteArray.toList_eq, ← ByteArray.toList_eq]; exact h
  cases s; cases t
  simp only [ByteArray.mk.injEq]
  exact Array.toList_inj.1 e
theorem toList_beq_false {s t : ByteArray} (h : ¬ s = t) : (s.toList == t.toList) = false := by
  cases e : (s.toList == t.toList) with
  | false => rfl
  | true => exact absurd (bytes_ext (by simpa using e)) h
theorem take_next {α : Type} {ks ls : List α} {m : Nat} (h : ks.take m = ls.take m) (h1 : m < ks.length) (h2 : m < ls.length) (he : ks[m] = ls[m]) : ks.take (m + 1) = ls.take (m + 1) := by
  rw [List.take_succ_eq_append_getElem h1, List.take_succ_eq_append_getElem h2, h, he]
theorem take_all {α : Type} {ks ls : List α} {m : Nat} (h : ks.take m = ls.take m) (h1 : ks.length ≤ m) (h2 : ks.length = ls.length) : ks = ls := by
  rwa [List.take_of_length_le h1, List.take_of_length_le (by omega)] at h

theorem Try.infoStr : (Try.prog.info? 9).map (fun i => (i.zero, i.size, i.bytes)) = some (some (.string ⟨#[]⟩), 1, 16) := by kernel_rfl

theorem Try.noGuardA : Try.prog.eqGuardType Try.prog.depth 90 = false := by kernel_rfl

/-- Two attributes held against each other. -/
theorem eqA (a b c d : ByteArray) (w : World) : Sem.run Try.prog (Op.equalIn 10000 90 (.agg #[.string a, .string b]) (.agg #[.string c, .string d])) w = .ok (a.toList == c.toList && b.toList == d.toList) w := by
  obtain ⟨i0, hi, hz0, hz1, hz2⟩ := info_parts Try.infoStr
  have hs : ∀ w, Sem.run Try.prog (sizeOf 9) w = .ok 1 w := fun w => by simp [sizeOf, typeInfo, hi, hz1]
  have ha : ∀ w, Sem.run Try.prog (isAgg 9) w = .ok false w := fun w => by simp [isAgg, run_underlying Try.underlying9]
  have hq : ∀ (a b : ByteArray) w, Sem.run Try.prog (Op.equalIn 9999 9 (.string a) (.string b)) w = .ok (a.toList == b.toList) w := fun a b w => run_equalIn_string (P := Try.prog) w 9998 9 a b Try.underlying9
  rw [Op.equalIn]
  simp [run_underlying Try.underlying90, part, hs, ha, hq]
  by_cases h1 : a.toList = c.toList <;> by_cases h2 : b.toList = d.toList <;> simp [h1, h2]

theorem T_inj {n : Nat} {g k t g' k' t' : ByteArray} {ats ats' : List Atr} {its its' : List (T n)} (e : ((g, k, t, ats, its) : T (n + 1)) = (g', k', t', ats', its')) : g = g' ∧ k = k' ∧ t = t' ∧ ats = ats' ∧ its = its' := by
  have e' : ((g, k, t, ats, its) : ByteArray × ByteArray × ByteArray × List Atr × List (T n)) = (g', k', t', ats', its') := e
  simpa using e'

set_option maxRecDepth 100000 in
set_option maxHeartbeats 1600000 in
theorem sameA_any (ks ls : List Atr) (ka la : Option Addr) (kc lc : Nat) (w : World) (hk : LayA w ka ks) (hl : LayA w la ls) (bk : ks.length * 32 ≤ 140737488351232) (bl : ls.length * 32 ≤ 140737488351232) :
    Calls Try.prog 26 #[.slice ka ks.length kc, .slice la ls.length lc] w fun e w' => e = .returned (.bool (one ks ls)) ∧ Below w.heap.size w w' := by
  have HK : Hid (LayA w ka ks) := hk
  have HL : Hid (LayA w la ls) := hl
  clear hk hl
  have hng := Try.noGuardA
  by_cases hlen : ks.length = ls.length
  · go_enter Try.func26, Try.ntmps26
    go_wp2_with fail
    go_loopw [5] (fun i wr => ∃ m : Nat, m ≤ ks.length ∧ i = .int .i64 m ∧ Hid (ks.take m = ls.take m) ∧ Hid (Below w.heap.size w wr)) (fun i _ => ks.length - (intOf i).toNat)
    case atStart => exact ⟨0, Nat.zero_le _, rfl, by simp [Hid], Below.refl _ _⟩
    case round =>
      obtain ⟨m, hm, rfl, HT, HW⟩ := hrel
      by_cases hlt : m < ks.length
      · obtain ⟨b1, o1, rfl, q1, q1', -, -⟩ := (HK.out.below HW.out) m ks[m] (by simp [hlt])
        obtain ⟨b2, o2, rfl, q2, q2', -, -⟩ := (HL.out.below HW.out) m (ls[m]'(by omega)) (by simp)
        have hlt2 : m < ls.length := by omega
        have heq := eqA ks[m].1 ks[m].2 (ls[m]'hlt2).1 (ls[m]'hlt2).2
        by_cases he : ks[m] = ls[m]'(by omega)
        · have HE : Hid (ks[m] = ls[m]'(by omega)) := he
          have hv : (ks[m].1.toList == (ls[m]'hlt2).1.toList && ks[m].2.toList == (ls[m]'hlt2).2.toList) = true := by rw [he]; simp
          rw [hv] at heq
          clear hv he
          generalize hx : ks[m] = x at *
          generalize hy : ls[m]'hlt2 = y at *
          have HX : Hid (ks[m] = x) := hx
          have HY : Hid (ls[m]'hlt2 = y) := hy
          clear hx hy
          go_wp2_with fail
          go_quiet (fail)
          go_wp2_with fail
          go_roundw
          case rel => exact ⟨m + 1, by omega, by go_num, take_next HT.out hlt hlt2 (by rw [HX.out, HY.out]; exact HE.out), HW.out.trans (Below_drewN _ _ _)⟩
          case measure => simp [intOf]; omega
        · have HE : Hid (¬ ks[m] = ls[m]'(by omega)) := he
          have hv : (ks[m].1.toList == (ls[m]'hlt2).1.toList && ks[m].2.toList == (ls[m]'hlt2).2.toList) = false := by
            cases e1 : (ks[m].1.toList == (ls[m]'hlt2).1.toList) with
            | false => rfl
            | true =>
              cases e2 : (ks[m].2.toList == (ls[m]'hlt2).2.toList) with
              | false => rfl
              | true => exact absurd (Prod.ext (bytes_ext (by simpa using e1)) (bytes_ext (by simpa using e2))) he
          rw [hv] at heq
          clear hv he
          generalize hx : ks[m] = x at *
          generalize hy : ls[m]'hlt2 = y at *
          have HX : Hid (ks[m] = x) := hx
          have HY : Hid (ls[m]'hlt2 = y) := hy
          clear hx hy
          go_wp2_with fail
          go_quiet (fail)
          go_wp2_with fail
          go_ret
          exact ⟨ret_bool (one_false fun e => HE.out (by rw [← HX.out, ← HY.out]; subst e; rfl)).symm, HW.out.trans (Below_drewN _ _ _)⟩
      · go_wp2_with fail
        go_ret
        exact ⟨ret_bool (one_true (take_all HT.out (by omega) hlen)).symm, HW.out⟩
  · go_enter Try.func26, Try.ntmps26
    go_wp2_with fail
    go_ret
    exact ⟨ret_bool (one_false fun e => hlen (by rw [e])).symm, Below.refl _ _⟩

set_option maxRecDepth 100000 in
set_option maxHeartbeats 6400000 in
theorem sameT_any (n : Nat) : ∀ (u v : T n) (x y : Value) (w : World), LayT w n x u → LayT w n y v →
    Calls Try.prog 12 #[x, y] w fun e w' => e = .returned (.bool (one u v)) ∧ Below w.heap.size w w' := by
  induction n with
  | zero => intro v; exact v.elim
  | succ n ih =>
    rintro ⟨g, k, t, ats, its⟩ ⟨g', k', t', ats', its'⟩ x y w ⟨aa, ac, ia, ic, rfl, hfit, -, -, hA, hI⟩ ⟨aa', ac', ia', ic', rfl, hfit', -, -, hA', hI'⟩
    obtain ⟨-, -, -, -, -, ha1, -, -, hi1⟩ := hfit
    obtain ⟨-, -, -, -, -, ha1', -, -, hi1'⟩ := hfit'
    have HI : Hid (LayI w (LayT w n) ia its) := hI
    have HI' : Hid (LayI w (LayT w n) ia' its') := hI'
    have CA : Hid (∀ W, Below w.heap.size w W → Calls Try.prog 26 #[.slice aa ats.length ac, .slice aa' ats'.length ac'] W fun e w' => e = .returned (.bool (one ats ats')) ∧ Below W.heap.size W w') := fun W h => sameA_any ats ats' aa aa' ac ac' W (hA.below h) (hA'.below h) ha1 ha1'
    have IH : Hid (∀ (u v : T n) (x y : Value) (w : World), LayT w n x u → LayT w n y v → Calls Try.prog 12 #[x, y] w fun e w' => e = .returned (.bool (one u v)) ∧ Below w.heap.size w w') := ih
    clear hA hA' hI hI' ih
    by_cases e1 : g = g'
    · subst e1
      by_cases e2 : k = k'
      · subst e2
        by_cases e3 : t = t'
        · subst e3
          by_cases e4 : ats = ats'
          · subst e4
            have o4 : one ats ats = true := one_true rfl
            rw [o4] at CA
            by_cases e5 : its.length = its'.length
            · have E5 : Hid (its.length = its'.length) := e5
              have d5 : ((its.length : Int) != (its'.length : Int)) = false := by simp [e5]
              clear e5
              go_enter Try.func12, Try.ntmps12
              go_wp2_with (go_at_call 26; refine (CA.out _ (below2 _ _ _)).mono ?_; rintro e w1 ⟨rfl, hb⟩; obtain ⟨x1, x2⟩ := boxed2 hb; obtain ⟨p0, p1, p2, p3, p4, -⟩ := box_cells x1; obtain ⟨r0, r1, r2, r3, r4, -⟩ := box_cells x2)
              have X1 : Hid (w1.heap[w.heap.size]? = _) := x1
              have X2 : Hid (w1.heap[w.heap.size + 1]? = _) := x2
              have H1 : Hid (Below w.heap.size w w1) := nxt (below2 _ _ _) hb
              clear x1 x2 hb p0 p1 p2 p3 p4 r0 r1 r2 r3 r4
              go_loopw [5] (fun i wr => ∃ m : Nat, m ≤ its.length ∧ i = .int .i64 m ∧ Hid (its.take m = its'.take m) ∧ Hid (Below w1.heap.size w1 wr)) (fun i _ => its.length - (intOf i).toNat)
              case atStart => exact ⟨0, Nat.zero_le _, rfl, by simp [Hid], Below.refl _ _⟩
              case round =>
                obtain ⟨m, hm, rfl, HT, HW⟩ := hrel
                obtain ⟨-, -, -, -, a4, -⟩ := box_cells ((HW.out.block _ (lt_of_block X1.out)).trans X1.out)
                obtain ⟨-, -, -, -, b4, -⟩ := box_cells ((HW.out.block _ (lt_of_block X2.out)).trans X2.out)
                by_cases hlt : m < its.length
                · have hlt2 : m < its'.length := by have := E5.out; omega
                  have hi0 : (0 : Int) ≤ (m : Int) := by omega
                  have hj1 : (m : Int) < (its.length : Int) := by omega
                  have hj2 : (m : Int) < (its'.length : Int) := by omega
                  have hbw := nxt H1.out HW.out
                  obtain ⟨g1, o1, c0, c1, c2, c3, c4, rfl, p0, p1, p2, p3, p4, l1⟩ := (LayI.below HI.out hbw) m its[m] (by simp [hlt])
                  obtain ⟨g2, o2, f0, f1, f2, f3, f4, rfl, q0, q1, q2, q3, q4, l2⟩ := (LayI.below HI'.out hbw) m (its'[m]'hlt2) (by simp)
                  have L1 : Hid (LayT wr n (.agg #[c0, c1, c2, c3, c4]) its[m]) := l1
                  have L2 : Hid (LayT wr n (.agg #[f0, f1, f2, f3, f4]) (its'[m]'hlt2)) := l2
                  clear l1 l2 hbw
                  by_cases he : its[m] = its'[m]'hlt2
                  · have o5 := one_true he
                    have HE : Hid (its[m] = its'[m]'hlt2) := he
                    clear he
                    go_wp2_with fail
                    go_region_held3 (fun w' => w'.cell? ⟨w.heap.size, 4, none⟩ = some (.slice (some ⟨g1, o1, none⟩) its.length ic) ∧ w'.cell? ⟨w.heap.size + 1, 4, none⟩ = some (.slice (some ⟨g2, o2, none⟩) its'.length ic') ∧
                      w'.cell? ⟨g1, o1 + m * 5, none⟩ = some c0 ∧ w'.cell? ⟨g1, o1 + m * 5 + 1, none⟩ = some c1 ∧ w'.cell? ⟨g1, o1 + m * 5 + 2, none⟩ = some c2 ∧ w'.cell? ⟨g1, o1 + m * 5 + 3, none⟩ = some c3 ∧ w'.cell? ⟨g1, o1 + m * 5 + 4, none⟩ = some c4 ∧
                      w'.cell? ⟨g2, o2 + m * 5, none⟩ = some f0 ∧ w'.cell? ⟨g2, o2 + m * 5 + 1, none⟩ = some f1 ∧ w'.cell? ⟨g2, o2 + m * 5 + 2, none⟩ = some f2 ∧ w'.cell? ⟨g2, o2 + m * 5 + 3, none⟩ = some f3 ∧ w'.cell? ⟨g2, o2 + m * 5 + 4, none⟩ = some f4) (go_keep)
                      ((go_at_call 12; refine (IH.out _ _ _ _ _ (LayT.below n L1.out ((Below.refl _ _).drew)) (LayT.below n L2.out ((Below.refl _ _).drew))).mono ?_; rintro e w2 ⟨rfl, hb2⟩; have hk2 := keepc hb2))
                    go_wp2_with fail
                    go_roundw
                    case rel => exact ⟨m + 1, by omega, by go_num, take_next HT.out hlt hlt2 HE.out, nxt HW.out.drew (by assumption)⟩
                    case measure => simp [intOf]; omega
                  · have o5 := one_false he
                    have HE : Hid (¬ its[m] = its'[m]'hlt2) := he
                    clear he
                    go_wp2_with fail
                    go_region_held3 (fun w' => w'.cell? ⟨w.heap.size, 4, none⟩ = some (.slice (some ⟨g1, o1, none⟩) its.length ic) ∧ w'.cell? ⟨w.heap.size + 1, 4, none⟩ = some (.slice (some ⟨g2, o2, none⟩) its'.length ic') ∧
                      w'.cell? ⟨g1, o1 + m * 5, none⟩ = some c0 ∧ w'.cell? ⟨g1, o1 + m * 5 + 1, none⟩ = some c1 ∧ w'.cell? ⟨g1, o1 + m * 5 + 2, none⟩ = some c2 ∧ w'.cell? ⟨g1, o1 + m * 5 + 3, none⟩ = some c3 ∧ w'.cell? ⟨g1, o1 + m * 5 + 4, none⟩ = some c4 ∧
                      w'.cell? ⟨g2, o2 + m * 5, none⟩ = some f0 ∧ w'.cell? ⟨g2, o2 + m * 5 + 1, none⟩ = some f1 ∧ w'.cell? ⟨g2, o2 + m * 5 + 2, none⟩ = some f2 ∧ w'.cell? ⟨g2, o2 + m * 5 + 3, none⟩ = some f3 ∧ w'.cell? ⟨g2, o2 + m * 5 + 4, none⟩ = some f4) (go_keep)
                      ((go_at_call 12; refine (IH.out _ _ _ _ _ (LayT.below n L1.out ((Below.refl _ _).drew)) (LayT.below n L2.out ((Below.refl _ _).drew))).mono ?_; rintro e w2 ⟨rfl, hb2⟩; have hk2 := keepc hb2))
                    go_wp2_with fail
                    go_ret
                    exact ⟨ret_bool (one_false fun e => HE.out (by have := (T_inj e).2.2.2.2; subst this; rfl)).symm, nxt (nxt H1.out HW.out.drew) (by assumption)⟩
                · go_wp2_with fail
                  go_ret
                  exact ⟨ret_bool (one_true (by rw [take_all HT.out (by omega) E5.out])).symm, nxt H1.out HW.out⟩
            · have d5 : ((its.length : Int) == (its'.length : Int)) = false := by simp; omega
              have E5 : Hid (¬ its.length = its'.length) := e5
              clear e5
              go_enter Try.func12, Try.ntmps12
              go_wp2_with (go_at_call 26; refine (CA.out _ (below2 _ _ _)).mono ?_; rintro e w1 ⟨rfl, hb⟩; obtain ⟨x1, x2⟩ := boxed2 hb; obtain ⟨p0, p1, p2, p3, p4, -⟩ := box_cells x1; obtain ⟨r0, r1, r2, r3, r4, -⟩ := box_cells x2)
              go_ret
              exact ⟨ret_bool (one_false fun e => E5.out (by rw [(T_inj e).2.2.2.2])).symm, nxt (below2 _ _ _) hb⟩
          · have o4 : one ats ats' = false := one_false e4
            rw [o4] at CA
            go_enter Try.func12, Try.ntmps12
            go_wp2_with (go_at_call 26; refine (CA.out _ (below2 _ _ _)).mono ?_; rintro e w1 ⟨rfl, hb⟩)
            go_ret
            exact ⟨ret_bool (one_false fun e => e4 ((T_inj e).2.2.2.1)).symm, nxt (below2 _ _ _) hb⟩
        · have d1 := toList_beq_false e3
          go_enter Try.func12, Try.ntmps12
          go_wp2_with fail
          go_ret
          exact ⟨ret_bool (one_false fun e => e3 ((T_inj e).2.2.1)).symm, below2 _ _ _⟩
      · have d1 := toList_beq_false e2
        go_enter Try.func12, Try.ntmps12
        go_wp2_with fail
        go_ret
        exact ⟨ret_bool (one_false fun e => e2 ((T_inj e).2.1)).symm, below2 _ _ _⟩
    · have d1 := toList_beq_false e1
      go_enter Try.func12, Try.ntmps12
      go_wp2_with fail
      go_ret
      exact ⟨ret_bool (one_false fun e => e1 ((T_inj e).1)).symm, below2 _ _ _⟩
end Go.Proofs.Ytomhfndjnbhliaa
