/-
  The order of values: what the program's order, Compare and Same answer.
-/
import Derived.Test.YtocodkoanjcmkaaVaCmp
import Derived.Test.YtocodkoanjcmkaaVaFrame
namespace Go.Proofs.Ytocodkoanjcmkaa
open Go.ChangeShapes Go.WideShapes Go.ChangeAt Go.RowKit
open Fl

/-- The order of two trees. -/
def vcmp : (n : Nat) → V n → V n → Int
  | 0, _, _ => 0
  | n + 1, (k, b, t, ks, its), (k', b', t', ks', its') => or5 (icmp k k') (icmp (rnk k b) (rnk k' b')) (scmp t t') (lcmp scmp ks ks') (lcmp (vcmp n) its its')

set_option maxRecDepth 100000 in
set_option maxHeartbeats 3200000 in
theorem cf_any (n : Nat) (hyp : ∀ (u v : V n) (x y : Value) (w : World), Lay w n x u → Lay w n y v → Calls Try.prog 30 #[x, y] w fun e w' => e = .returned (.int .i64 (vcmp n u v)) ∧ Below w.heap.size w w')
    (its jts : List (V n)) (ia ja : Option Addr) (ic jc : Nat) (w : World) (hi : LayI w (Lay w n) ia its) (hj : LayI w (Lay w n) ja jts) (bi : its.length * 80 ≤ 140737488351232) :
    Calls Try.prog 47 #[.slice ia its.length ic, .slice ja jts.length jc, .func (.func 30) #[] #[]] w
      fun e w' => e = .returned (.int .i64 (lcmp (vcmp n) its jts)) ∧ Below w.heap.size w w' := by
  have HI : Hid (LayI w (Lay w n) ia its) := hi
  have HJ : Hid (LayI w (Lay w n) ja jts) := hj
  have HY : Hid (∀ (u v : V n) (x y : Value) (w : World), Lay w n x u → Lay w n y v → Calls Try.prog 30 #[x, y] w fun e w' => e = .returned (.int .i64 (vcmp n u v)) ∧ Below w.heap.size w w') := hyp
  clear hi hj hyp
  go_enter Try.func47, Try.ntmps47
  go_wp2_with fail
  go_loopw [13] (fun i wr => ∃ m : Nat, m ≤ its.length ∧ m ≤ jts.length ∧ i = .int .i64 m ∧ Hid (lcmp (vcmp n) its jts = lcmp (vcmp n) (its.drop m) (jts.drop m)) ∧ Hid (Below w.heap.size w wr)) (fun i _ => its.length - (intOf i).toNat)
  case atStart => exact ⟨0, Nat.zero_le _, Nat.zero_le _, rfl, rfl, Below.refl _ _⟩
  case round =>
    obtain ⟨m, hm, hm2, rfl, HE, HW⟩ := hrel
    by_cases hlt : m < its.length
    · obtain ⟨s1, hs1⟩ : ∃ s, its[m]? = some s := ⟨its[m], by simp [hlt]⟩
      have e1 : its[m] = s1 := by rw [List.getElem?_eq_getElem hlt] at hs1; simpa using hs1
      obtain ⟨g1, o1, c0, c1, c2, c3, c4, rfl, p0, p1, p2, p3, p4, l1⟩ := (LayI.below HI.out HW.out) m s1 hs1
      obtain ⟨k1, b1, t1, ka1, kl1, kc1, ia1, il1, ic1, rfl, rfl, rfl, rfl, rfl⟩ := Lay.five n l1
      have L1 : Hid (Lay wr n (mk k1 b1 t1 ka1 kl1 kc1 ia1 il1 ic1) s1) := l1
      clear l1
      by_cases hlt2 : m < jts.length
      · obtain ⟨s2, hs2⟩ : ∃ s, jts[m]? = some s := ⟨jts[m], by simp [hlt2]⟩
        have e2 : jts[m] = s2 := by rw [List.getElem?_eq_getElem hlt2] at hs2; simpa using hs2
        obtain ⟨g2, o2, d0, d1, d2, d3, d4, rfl, q0, q1, q2, q3, q4, l2⟩ := (LayI.below HJ.out HW.out) m s2 hs2
        obtain ⟨k2, b2, t2, ka2, kl2, kc2, ia2, il2, ic2, rfl, rfl, rfl, rfl, rfl⟩ := Lay.five n l2
        have L2 : Hid (Lay wr n (mk k2 b2 t2 ka2 kl2 kc2 ia2 il2 ic2) s2) := l2
        clear l2
        have Q0 : ∀ o, (wr.alloc o).cell? ⟨g2, o2 + m * 5, none⟩ = some (.int .i64 k2) := fun o => keepc (below_one _ _) _ _ q0
        have Q1 : ∀ o, (wr.alloc o).cell? ⟨g2, o2 + m * 5 + 1, none⟩ = some (.int .u64 b2) := fun o => keepc (below_one _ _) _ _ q1
        have Q2 : ∀ o, (wr.alloc o).cell? ⟨g2, o2 + m * 5 + 2, none⟩ = some (.string t2) := fun o => keepc (below_one _ _) _ _ q2
        have Q3 : ∀ o, (wr.alloc o).cell? ⟨g2, o2 + m * 5 + 3, none⟩ = some (.slice ka2 kl2 kc2) := fun o => keepc (below_one _ _) _ _ q3
        have Q4 : ∀ o, (wr.alloc o).cell? ⟨g2, o2 + m * 5 + 4, none⟩ = some (.slice ia2 il2 ic2) := fun o => keepc (below_one _ _) _ _ q4
        have HD := lcmp_drop (f := vcmp n) hlt hlt2
        rw [e1, e2] at HD
        have HD' : Hid (lcmp (vcmp n) (its.drop m) (jts.drop m) = if vcmp n s1 s2 = 0 then lcmp (vcmp n) (its.drop (m + 1)) (jts.drop (m + 1)) else vcmp n s1 s2) := HD
        clear HD hs1 hs2 e1 e2 q0 q1 q2 q3 q4
        cases hz : (vcmp n s1 s2 == 0) with
        | true =>
          go_wp2_with (go_at_call 30; refine (HY.out _ _ _ _ _ (Lay.below n L1.out (below_two _ _ _)) (Lay.below n L2.out (below_two _ _ _))).mono ?_; rintro e w2 ⟨rfl, hb2⟩)
          go_roundw
          case rel => exact ⟨m + 1, by omega, by omega, by go_num, by rw [HE.out, HD'.out, if_pos (by simpa using hz)]; rfl, nxt (nxt HW.out (below_two _ _ _)) hb2⟩
          case measure => simp [intOf]; omega
        | false =>
          go_wp2_with (go_at_call 30; refine (HY.out _ _ _ _ _ (Lay.below n L1.out (below_two _ _ _)) (Lay.below n L2.out (below_two _ _ _))).mono ?_; rintro e w2 ⟨rfl, hb2⟩)
          go_ret
          exact ⟨ret_int (by rw [HE.out, HD'.out, if_neg (by simpa using hz)]), nxt (nxt HW.out (below_two _ _ _)) hb2⟩
      · clear hs1 e1
        go_wp2_with fail
        go_ret
        exact ⟨ret_int (by rw [HE.out, lcmp_left hlt (by omega)]), nxt HW.out (below_one _ _)⟩
    · by_cases hlt2 : m < jts.length
      · have hh : (its.length : Int) < (jts.length : Int) := by omega
        go_wp2_with fail
        go_ret
        exact ⟨ret_int (by rw [HE.out, lcmp_right (by omega) hlt2]), HW.out⟩
      · have hh : ¬ (its.length : Int) < (jts.length : Int) := by omega
        go_wp2_with fail
        go_ret
        exact ⟨ret_int (by rw [HE.out, lcmp_none (by omega) (by omega)]), HW.out⟩

theorem two_boxes (w : World) (a0 a1 a2 a3 a4 b0 b1 b2 b3 b4 : Value) (t t' : TypeId) :
    ((w.alloc (.cells #[a0, a1, a2, a3, a4] t)).alloc (.cells #[b0, b1, b2, b3, b4] t')).heap[w.heap.size]? = some (.cells #[a0, a1, a2, a3, a4] t (0, 0)) ∧
    ((w.alloc (.cells #[a0, a1, a2, a3, a4] t)).alloc (.cells #[b0, b1, b2, b3, b4] t')).heap[w.heap.size + 1]? = some (.cells #[b0, b1, b2, b3, b4] t' (0, 0)) :=
  ⟨(Below.heap_alloc _ _ _ (by simp)).trans (heap_alloc_new _ _), heap_new2 _ _ _⟩

set_option maxRecDepth 100000 in
set_option maxHeartbeats 3200000 in
theorem ord_any (n : Nat) : ∀ (u v : V n) (x y : Value) (w : World), Lay w n x u → Lay w n y v → Calls Try.prog 30 #[x, y] w fun e w' => e = .returned (.int .i64 (vcmp n u v)) ∧ Below w.heap.size w w' := by
  induction n with
  | zero => intro v; exact v.elim
  | succ n ih =>
    rintro ⟨k, b, t, ks, its⟩ ⟨k', b', t', ks', its'⟩ x y w ⟨ka, kc, ia, ic, rfl, hfit, nk, ni, hks, his⟩ ⟨ka', kc', ia', ic', rfl, hfit', nk', ni', hks', his'⟩
    obtain ⟨-, hU, -, -, -, hkr, -, -, hir⟩ := hfit
    obtain ⟨-, hU', -, -, -, -, -, -, -⟩ := hfit'
    have HU : Hid (U b) := hU
    have HU' : Hid (U b') := hU'
    have HS : Hid (LayS w ka ks) := hks
    have HI : Hid (LayI w (Lay w n) ia its) := his
    have HS' : Hid (LayS w ka' ks') := hks'
    have HI' : Hid (LayI w (Lay w n) ia' its') := his'
    have HV : Hid (vcmp (n + 1) (k, b, t, ks, its) (k', b', t', ks', its') = or5 (icmp k k') (icmp (rnk k b) (rnk k' b')) (scmp t t') (lcmp scmp ks ks') (lcmp (vcmp n) its its')) := rfl
    clear nk ni nk' ni' hks his hks' his' hU hU'
    go_enter Try.func30, Try.ntmps30
    go_wp2_with fail
    obtain ⟨h1, h2⟩ := two_boxes w (.int .i64 k) (.int .u64 b) (.string t) (.slice ka ks.length kc) (.slice ia its.length ic) (.int .i64 k') (.int .u64 b') (.string t') (.slice ka' ks'.length kc') (.slice ia' its'.length ic') 26 26
    have B2 := below_two w (.cells #[.int .i64 k, .int .u64 b, .string t, .slice ka ks.length kc, .slice ia its.length ic] 26) (.cells #[.int .i64 k', .int .u64 b', .string t', .slice ka' ks'.length kc', .slice ia' its'.length ic'] 26)
    generalize hW : (w.alloc (.cells #[.int .i64 k, .int .u64 b, .string t, .slice ka ks.length kc, .slice ia its.length ic] 26)).alloc (.cells #[.int .i64 k', .int .u64 b', .string t', .slice ka' ks'.length kc', .slice ia' its'.length ic'] 26) = W2
    rw [hW] at h1 h2 B2
    clear hW
    obtain ⟨p0, p1, p2, p3, p4, -⟩ := box_cells h1
    obtain ⟨q0, q1, q2, q3, q4, -⟩ := box_cells h2
    have T1 : Hid (LayS W2 ka ks) := LayS.below HS.out B2
    have T1' : Hid (LayS W2 ka' ks') := LayS.below HS'.out B2
    have I1 : Hid (LayI W2 (Lay W2 n) ia its) := LayI.below HI.out B2
    have I1' : Hid (LayI W2 (Lay W2 n) ia' its') := LayI.below HI'.out B2
    have HB2 : Hid (Below w.heap.size w W2) := B2
    clear h1 h2 B2
    go_region_held3 (fun w' => w'.cell? ⟨w.heap.size, 0, none⟩ = some (.int .i64 k) ∧ w'.cell? ⟨w.heap.size, 1, none⟩ = some (.int .u64 b) ∧ w'.cell? ⟨w.heap.size, 2, none⟩ = some (.string t) ∧ w'.cell? ⟨w.heap.size, 3, none⟩ = some (.slice ka ks.length kc) ∧ w'.cell? ⟨w.heap.size, 4, none⟩ = some (.slice ia its.length ic) ∧
        w'.cell? ⟨w.heap.size + 1, 0, none⟩ = some (.int .i64 k') ∧ w'.cell? ⟨w.heap.size + 1, 1, none⟩ = some (.int .u64 b') ∧ w'.cell? ⟨w.heap.size + 1, 2, none⟩ = some (.string t') ∧ w'.cell? ⟨w.heap.size + 1, 3, none⟩ = some (.slice ka' ks'.length kc') ∧ w'.cell? ⟨w.heap.size + 1, 4, none⟩ = some (.slice ia' its'.length ic')) (go_keep)
      (first
        | (go_at_call 42; refine (cmpI_any _ _ _).mono ?_; rintro e w' ⟨rfl, rfl⟩)
        | (go_at_call 44; refine (rank_any _ _ _ _ _ _ _ _ _ _ (by first | exact HU.out | exact HU'.out)).mono ?_; rintro e w3 ⟨rfl, hb3⟩; have hk3 := keepc hb3)
        | (go_at_call 43; refine (cmpU_any _ _ _).mono ?_; rintro e w' ⟨rfl, rfl⟩)
        | (go_at_call 45; refine (cmpS_any _ _ _).mono ?_; rintro e w' ⟨rfl, rfl⟩)
        | (go_at_call 46; refine (cmpL_any _ _ _ _ _ _ _ (LayS.below T1.out ?_) (LayS.below T1'.out ?_) hkr).mono ?_; (repeat (refine nxt ?_ (by assumption))); exact (Below.refl _ _).drew; (repeat (refine nxt ?_ (by assumption))); exact (Below.refl _ _).drew; rintro e w' ⟨rfl, rfl⟩)
        | (go_at_call 47; refine (cf_any n ih _ _ _ _ _ _ _ (LayI.below I1.out ?_) (LayI.below I1'.out ?_) hir).mono ?_; (repeat (refine nxt ?_ (by assumption))); exact (Below.refl _ _).drew; (repeat (refine nxt ?_ (by assumption))); exact (Below.refl _ _).drew; rintro e w4 ⟨rfl, hb4⟩; have hk4 := keepc hb4)
        | (go_at_call 41; refine (or_any _ _ _ _ _ _ _ (box_cells (heap_alloc_new _ _)).1 (box_cells (heap_alloc_new _ _)).2.1 (box_cells (heap_alloc_new _ _)).2.2.1 (box_cells (heap_alloc_new _ _)).2.2.2.1 (box_cells (heap_alloc_new _ _)).2.2.2.2.1).mono ?_; rintro e w' ⟨rfl, rfl⟩))
    all_goals
      go_wp2_with fail
      go_ret
      refine ⟨ret_int HV.out.symm, ?_⟩
      refine nxt HB2.out ?_
      refine nxt ?_ (below_one _ _)
      repeat (refine nxt ?_ (by assumption))
      exact (Below.refl _ _).drew
end Go.Proofs.Ytocodkoanjcmkaa
