/-
  ValueSets holds for every value, path, value to be set, and other path: what was set is got, and what is got by another path that parts from it stays. No condition.
-/
import Derived.Test.YtghogejjijdfeaaVaSetsMath
namespace Go.Proofs.Ytghogejjijdfeaa.valueSets
open Go.ChangeShapes Go.WideShapes Go.ChangeAt Go.RowKit
open Fl

/-- The first m steps of both lead the same way. -/
def smU (ps qs : List St) : Nat → Bool
  | 0 => true
  | m + 1 => smU ps qs m && sameSt (ps.getD m (false, ⟨#[]⟩, 0)) (qs.getD m (false, ⟨#[]⟩, 0))

theorem smU_cons (s r : St) (p q : List St) : ∀ m, smU (s :: p) (r :: q) (m + 1) = (sameSt s r && smU p q m)
  | 0 => by simp [smU]
  | m + 1 => by
    have := smU_cons s r p q m
    rw [smU, this, smU]
    simp [Bool.and_assoc]

theorem smU_part : ∀ (ps qs : List St), smU ps qs (min ps.length qs.length) = !part2 ps qs
  | [], qs => by simp [smU, part2]
  | s :: p, [] => by simp [smU, part2]
  | s :: p, r :: q => by
    have e : min (s :: p).length (r :: q).length = min p.length q.length + 1 := by simp only [List.length_cons]; omega
    rw [e, smU_cons, smU_part p q, part2]
    cases sameSt s r <;> simp

theorem setR_err {n : Nat} {ps : List St} {v : V (n + ps.length)} {x : V n} (h : (setR ps v x).1 ≠ 0) : (setR ps v x).2 = zeroT := by
  unfold setR at h ⊢
  split
  · split
    · split
      · split
        · rename_i h1 h2 h3 h4
          rw [if_pos h1, if_pos h2, if_pos h3, if_pos h4] at h
          exact absurd rfl h
        · rfl
      · rfl
    · rfl
  · rfl

theorem setR_ok {n : Nat} {ps : List St} {v : V (n + ps.length)} {x : V n} (h : (setR ps v x).1 = 0) : chk v = 0 ∧ (setV x ps v).1 = 0 ∧ chk (setV x ps v).2 = 0 ∧ (setR ps v x).2 = ⟨_, (setV x ps v).2⟩ := by
  unfold setR at h ⊢
  split
  · rename_i h1
    rw [if_pos h1] at h
    split
    · rename_i h2
      rw [if_pos h2] at h
      split
      · rename_i h3
        rw [if_pos h3] at h
        split
        · rename_i h4
          exact ⟨h1, h3, h4, rfl⟩
        · rename_i h4
          rw [if_neg h4] at h
          exact absurd h h4
      · rename_i h3
        rw [if_neg h3] at h
        exact absurd h h3
    · rename_i h2
      rw [if_neg h2] at h
      exact absurd h h2
  · rename_i h1
    rw [if_neg h1] at h
    exact absurd h h1

/-- What is got of the new value, by the path and by one that parts from it. -/
theorem sets_math {n : Nat} {ps : List St} {v : V n} {x : V n} (h : (setR ps (ups v ps.length) x).1 = 0) :
    ∃ W : V (n + ps.length), (setR ps (ups v ps.length) x).2 = ⟨_, W⟩ ∧ getR W ps = (0, ⟨n, x⟩) ∧ ∀ qs m (u : V m), part2 ps qs = true → getR v qs = (0, ⟨m, u⟩) → getR W qs = (0, ⟨m + ps.length, ups u ps.length⟩) := by
  obtain ⟨h1, h2, h3, h4⟩ := setR_ok h
  have hok : okV (n + ps.length) (ups v ps.length) := ok_of_chk h1
  refine ⟨_, h4, ?_, ?_⟩
  · unfold getR
    rw [if_pos h3]
    exact get_set x ps _ hok h2
  · intro qs m u hp hg
    rw [chk_ups] at h1
    unfold getR at hg ⊢
    rw [if_pos h1] at hg
    rw [if_pos h3]
    exact get_other x _ ps _ qs hok h2 hp (get_ups (ok_of_chk h1) hg _)

set_option maxRecDepth 100000 in
set_option maxHeartbeats 6400000 in
theorem walk (n : Nat) (v : V n) (xv : Value) (ps : List St) (xp : Value) (x : V n) (xx : Value) (qs : List St) (xq : Value) (w : World) (hv : Lay w n xv v) (hp : PathIs w xp ps) (hx : Lay w n xx x) (hq : PathIs w xq qs) :
    Calls Try.prog 6 #[xv, xp, xx, xq] w fun e w' => e = .returned (.bool true) ∧ Below w.heap.size w w' := by
  obtain ⟨k, b, t, ka, kl, kc, ia, il, ic, rfl⟩ := Lay.shape n hv
  obtain ⟨k', b', t', ka', kl', kc', ia', il', ic', rfl⟩ := Lay.shape n hx
  obtain ⟨pa, pc, rfl, hpn, hpc, hpm, hpl, hp⟩ := hp
  obtain ⟨qa, qc, rfl, hqn, hqc, hqm, hql, hq⟩ := hq
  have HV : Hid (Lay w n (mk k b t ka kl kc ia il ic) v) := hv
  have HX : Hid (Lay w n (mk k' b' t' ka' kl' kc' ia' il' ic') x) := hx
  have HP : Hid (LayP w pa ps) := hp
  have HQ : Hid (LayP w qa qs) := hq
  have HPN : Hid (ps.length * 32 ≤ 140737488351232) := hpl
  have HQN : Hid (qs.length * 32 ≤ 140737488351232) := hql
  clear hv hx hp hq hpn hqn hpm hqm
  go_enter Try.func6, Try.ntmps6
  go_wp2_with fail
  have T0 : Two w _ _ _ := Two.new w (.cells #[.int .i64 k, .int .u64 b, .string t, .slice ka kl kc, .slice ia il ic] 26) (.cells #[.int .i64 k', .int .u64 b', .string t', .slice ka' kl' kc', .slice ia' il' ic'] 26) (Below.refl _ _)
  have B0 := below_two w (.cells #[.int .i64 k, .int .u64 b, .string t, .slice ka kl kc, .slice ia il ic] 26) (.cells #[.int .i64 k', .int .u64 b', .string t', .slice ka' kl' kc', .slice ia' il' ic'] 26)
  generalize (w.alloc (.cells #[.int .i64 k, .int .u64 b, .string t, .slice ka kl kc, .slice ia il ic] 26)).alloc (.cells #[.int .i64 k', .int .u64 b', .string t', .slice ka' kl' kc', .slice ia' il' ic'] 26) = W2 at T0 B0 ⊢
  refine (alive_any W2).mono ?_
  rintro e w1 ⟨rfl, hb1⟩
  have T1 : Hid (Two w w1 _ _) := T0.below hb1
  have B1 : Hid (Below w.heap.size w w1) := nxt B0 hb1
  clear T0 B0 hb1
  obtain ⟨p0, p1, p2, p3, p4, -⟩ := box_cells T1.out.1
  obtain ⟨q0, q1, q2, q3, q4, -⟩ := box_cells T1.out.2
  go_wp2_with fail
  refine (set_any ps (ups v ps.length) x _ _ pa pc _ (Lay.ups (Lay.below n HV.out B1.out) _) (Lay.below n HX.out B1.out) (HP.out.below B1.out) HPN.out).mono ?_
  rintro e w2 ⟨y, E, rfl, ho, hE, hb2⟩
  have T2 : Hid (Two w w2 _ _) := T1.out.below hb2
  have B2 : Hid (Below w.heap.size w w2) := nxt B1.out hb2
  clear p0 p1 p2 p3 p4 q0 q1 q2 q3 q4 hb2 hE T1 B1
  by_cases h0 : (setR ps (ups v ps.length) x).1 = 0
  · obtain ⟨W, hW, hg1, hg2⟩ := sets_math h0
    rw [hW] at ho
    rw [h0]
    have hlW := Own.lay _ ho
    obtain ⟨k3, b3, t3, ka3, kl3, kc3, ia3, il3, ic3, rfl⟩ := Lay.shape _ hlW
    have LW : Hid (Lay w2 (n + ps.length) (mk k3 b3 t3 ka3 kl3 kc3 ia3 il3 ic3) W) := hlW
    have HG1 : Hid (getR W ps = (0, ⟨n, x⟩)) := hg1
    have HG2 : Hid (∀ qs m (u : V m), part2 ps qs = true → getR v qs = (0, ⟨m, u⟩) → getR W qs = (0, ⟨m + ps.length, ups u ps.length⟩)) := hg2
    clear hlW ho hW hg1 hg2 h0
    go_wp2_with fail
    have BW : Hid ((w2.alloc (.cells #[.int .i64 k3, .int .u64 b3, .string t3, .slice ka3 kl3 kc3, .slice ia3 il3 ic3] 26)).heap[w2.heap.size]? = some (.cells #[.int .i64 k3, .int .u64 b3, .string t3, .slice ka3 kl3 kc3, .slice ia3 il3 ic3] 26 (0, 0))) := heap_alloc_new _ _
    have B3 : Hid (Below w2.heap.size w2 (w2.alloc (.cells #[.int .i64 k3, .int .u64 b3, .string t3, .slice ka3 kl3 kc3, .slice ia3 il3 ic3] 26))) := below_one _ _
    generalize w2.alloc (.cells #[.int .i64 k3, .int .u64 b3, .string t3, .slice ka3 kl3 kc3, .slice ia3 il3 ic3] 26) = W3 at *
    refine (num_any _ _).mono ?_
    rintro e w3 ⟨rfl, rfl⟩
    have T3 : Hid (Two w w3 _ _) := T2.out.below B3.out
    have BB3 : Hid (Below w.heap.size w w3) := nxt B2.out B3.out
    have LW3 : Hid (Lay w3 (n + ps.length) (mk k3 b3 t3 ka3 kl3 kc3 ia3 il3 ic3) W) := Lay.below _ LW.out B3.out
    clear T2 LW B3 B2
    generalize w2.heap.size = gw at *
    obtain ⟨p0, p1, p2, p3, p4, -⟩ := box_cells BW.out
    go_wp2_with fail
    have CG := get_any (n + ps.length) W _ ps pa pc w3 LW3.out (HP.out.below BB3.out) HPN.out
    rw [HG1.out] at CG
    refine CG.mono ?_
    rintro e w4 ⟨y4, F4, rfl, ho4, -, hb4⟩
    have hl4 := Own.lay _ ho4
    obtain ⟨k4, b4, t4, ka4, kl4, kc4, ia4, il4, ic4, rfl⟩ := Lay.shape _ hl4
    have L4 : Hid (Lay w4 n (mk k4 b4 t4 ka4 kl4 kc4 ia4 il4 ic4) x) := hl4
    have T4 : Hid (Two w w4 _ _) := T3.out.below hb4
    have B4 : Hid (Below w.heap.size w w4) := nxt BB3.out hb4
    have H4 : Hid (Below w3.heap.size w3 w4) := hb4
    clear hl4 ho4 CG hb4 p0 p1 p2 p3 p4 T3 BB3 HG1
    go_wp2_with fail
    have X5 : Hid ((w4.alloc (.cells #[.int .i64 k4, .int .u64 b4, .string t4, .slice ka4 kl4 kc4, .slice ia4 il4 ic4] 26)).heap[w4.heap.size]? = some (.cells #[.int .i64 k4, .int .u64 b4, .string t4, .slice ka4 kl4 kc4, .slice ia4 il4 ic4] 26 (0, 0))) := heap_alloc_new _ _
    have B5 : Hid (Below w4.heap.size w4 (w4.alloc (.cells #[.int .i64 k4, .int .u64 b4, .string t4, .slice ka4 kl4 kc4, .slice ia4 il4 ic4] 26))) := below_one _ _
    generalize w4.alloc (.cells #[.int .i64 k4, .int .u64 b4, .string t4, .slice ka4 kl4 kc4, .slice ia4 il4 ic4] 26) = W5 at *
    refine (num_any _ _).mono ?_
    rintro e w5 ⟨rfl, rfl⟩
    have T5 : Hid (Two w w5 _ _) := T4.out.below B5.out
    have BB5 : Hid (Below w.heap.size w w5) := nxt B4.out B5.out
    have L5 : Hid (Lay w5 n (mk k4 b4 t4 ka4 kl4 kc4 ia4 il4 ic4) x) := Lay.below _ L4.out B5.out
    have H5 : Hid (Below w3.heap.size w3 w5) := nxt H4.out B5.out
    clear T4 L4 H4 B4 B5
    generalize w4.heap.size = g4 at *
    obtain ⟨p0, p1, p2, p3, p4, -⟩ := box_cells X5.out
    obtain ⟨q0, q1, q2, q3, q4, -⟩ := box_cells T5.out.2
    go_wp2_with fail
    have CS := same_any n x x _ _ w5 L5.out (Lay.below _ HX.out BB5.out)
    rw [one_true rfl] at CS
    refine CS.mono ?_
    rintro e w6 ⟨rfl, hb6⟩
    have T6 : Hid (Two w w6 _ _) := T5.out.below hb6
    have B6 : Hid (Below w.heap.size w w6) := nxt BB5.out hb6
    have H6 : Hid (Below w3.heap.size w3 w6) := nxt H5.out hb6
    clear T5 BB5 L5 H5 X5 hb6 CS p0 p1 p2 p3 p4 q0 q1 q2 q3 q4
    go_wp2_with fail
    obtain ⟨N, hN⟩ : ∃ N : Nat, min ps.length qs.length = N := ⟨_, rfl⟩
    rw [show min (ps.length : Int) (qs.length : Int) = (N : Int) by omega]
    have HN : Hid (smU ps qs N = !part2 ps qs) := by show _ = _; rw [← hN]; exact smU_part ps qs
    have hN1 : N ≤ ps.length := by omega
    have hN2 : N ≤ qs.length := by omega
    clear hN
    go_loopw [14, 15] (fun sm i wr => ∃ m : Nat, m ≤ N ∧ i = .int .i64 m ∧ sm = .bool (smU ps qs m) ∧ Hid (Below w6.heap.size w6 wr)) (fun _ i _ => N - (intOf i).toNat)
    case atStart => exact ⟨0, Nat.zero_le _, rfl, rfl, Below.refl _ _⟩
    case round =>
      obtain ⟨m, hm, rfl, rfl, HW⟩ := hrel
      by_cases hlt : m < N
      · have hm1 : (m : Int) < (N : Int) := by omega
        have hm2 : (m : Int) < (ps.length : Int) := by omega
        have hm3 : (m : Int) < (qs.length : Int) := by omega
        obtain ⟨⟨q1, key1, idx1⟩, hst1⟩ : ∃ s, ps[m]? = some s := ⟨ps[m]'(by omega), by simp⟩
        obtain ⟨⟨q2, key2, idx2⟩, hst2⟩ : ∃ s, qs[m]? = some s := ⟨qs[m]'(by omega), by simp⟩
        obtain ⟨gp, op, rfl, c0, c1, c2, -, -⟩ := HP.out m _ hst1
        obtain ⟨gq, oq, rfl, d0, d1, d2, -, -⟩ := HQ.out m _ hst2
        simp only at c0 c1 c2 d0 d1 d2
        replace c0 := keepc (nxt B6.out HW.out) _ _ c0
        replace c1 := keepc (nxt B6.out HW.out) _ _ c1
        replace c2 := keepc (nxt B6.out HW.out) _ _ c2
        replace d0 := keepc (nxt B6.out HW.out) _ _ d0
        replace d1 := keepc (nxt B6.out HW.out) _ _ d1
        replace d2 := keepc (nxt B6.out HW.out) _ _ d2
        have HS : Hid (smU ps qs (m + 1) = (smU ps qs m && sameSt (q1, key1, idx1) (q2, key2, idx2))) := by
          show _ = _
          simp only [smU, List.getD, hst1, hst2, Option.getD_some]
        clear hst1 hst2
        generalize smU ps qs m = S0 at *
        cases S0
        · go_wp2_with fail
          go_quiet (fail)
          go_wp2_with fail
          go_roundw
          case rel => exact ⟨m + 1, by omega, by go_num, by rw [HS.out]; rfl, HW.out.trans (Below_drewN _ _ _)⟩
          case measure => simp [intOf]; omega
        · cases q1 <;> cases q2
          · cases hd : (idx1 == idx2)
            all_goals
              go_wp2_with fail
              go_quiet (fail)
              go_wp2_with fail
              go_roundw
              case rel => exact ⟨m + 1, by omega, by go_num, by rw [HS.out]; simp [sameSt, hd], HW.out.trans (Below_drewN _ _ _)⟩
              case measure => simp [intOf]; omega
          · go_wp2_with fail
            go_quiet (fail)
            go_wp2_with fail
            go_roundw
            case rel => exact ⟨m + 1, by omega, by go_num, by rw [HS.out]; simp [sameSt], HW.out.trans (Below_drewN _ _ _)⟩
            case measure => simp [intOf]; omega
          · go_wp2_with fail
            go_quiet (fail)
            go_wp2_with fail
            go_roundw
            case rel => exact ⟨m + 1, by omega, by go_num, by rw [HS.out]; simp [sameSt], HW.out.trans (Below_drewN _ _ _)⟩
            case measure => simp [intOf]; omega
          · cases hd : (key1.toList == key2.toList)
            all_goals
              go_wp2_with fail
              go_quiet (fail)
              go_wp2_with fail
              go_roundw
              case rel => exact ⟨m + 1, by omega, by go_num, by rw [HS.out]; simp [sameSt, hd], HW.out.trans (Below_drewN _ _ _)⟩
              case measure => simp [intOf]; omega
      · have hmN : m = N := by omega
        subst hmN
        have T7 : Hid (Two w wr _ _) := T6.out.below HW.out
        have B7 : Hid (Below w.heap.size w wr) := nxt B6.out HW.out
        have H7 : Hid (Below w3.heap.size w3 wr) := nxt H6.out HW.out
        obtain ⟨p0, p1, p2, p3, p4, -⟩ := box_cells T7.out.1
        clear T6 B6 H6 HW
        rw [HN.out]
        go_wp2_with fail
        refine (get_any n v _ qs qa qc wr (Lay.below n HV.out B7.out) (HQ.out.below B7.out) HQN.out).mono ?_
        rintro e w8 ⟨y8, F8, rfl, ho8, -, hb8⟩
        have hl8 := Own.lay _ ho8
        obtain ⟨k8, b8, t8, ka8, kl8, kc8, ia8, il8, ic8, rfl⟩ := Lay.shape _ hl8
        have HG : Hid (∀ m (u : V m), part2 ps qs = true → getR v qs = (0, ⟨m, u⟩) → getR W qs = (0, ⟨m + ps.length, ups u ps.length⟩)) := HG2.out qs
        generalize hgr : getR v qs = gr at *
        obtain ⟨ge, gm, gu⟩ := gr
        simp only at hl8
        have L8 : Hid (Lay w8 gm (mk k8 b8 t8 ka8 kl8 kc8 ia8 il8 ic8) gu) := hl8
        have B8 : Hid (Below w.heap.size w w8) := nxt B7.out hb8
        have H8 : Hid (Below w3.heap.size w3 w8) := nxt H7.out hb8
        clear ho8 hl8 hb8 p0 p1 p2 p3 p4 T7 B7 H7 HG2 hgr HN hm hlt
        generalize hpart : part2 ps qs = P2 at *
        cases P2
        · go_wp2_with fail
          go_ret
          exact ⟨rfl, nxt B8.out (below_one _ _)⟩
        · by_cases h0 : ge = 0
          · subst h0
            have HGW : Hid (getR W qs = (0, ⟨gm + ps.length, ups gu ps.length⟩)) := HG.out gm gu rfl rfl
            clear HG
            go_wp2_with fail
            have X9 : Hid ((w8.alloc (.cells #[.int .i64 k8, .int .u64 b8, .string t8, .slice ka8 kl8 kc8, .slice ia8 il8 ic8] 26)).heap[w8.heap.size]? = some (.cells #[.int .i64 k8, .int .u64 b8, .string t8, .slice ka8 kl8 kc8, .slice ia8 il8 ic8] 26 (0, 0))) := heap_alloc_new _ _
            have B9 : Hid (Below w8.heap.size w8 (w8.alloc (.cells #[.int .i64 k8, .int .u64 b8, .string t8, .slice ka8 kl8 kc8, .slice ia8 il8 ic8] 26))) := below_one _ _
            generalize w8.alloc (.cells #[.int .i64 k8, .int .u64 b8, .string t8, .slice ka8 kl8 kc8, .slice ia8 il8 ic8] 26) = W9 at *
            refine (num_any _ _).mono ?_
            rintro e w9 ⟨rfl, rfl⟩
            have BB9 : Hid (Below w.heap.size w w9) := nxt B8.out B9.out
            have H9 : Hid (Below w3.heap.size w3 w9) := nxt H8.out B9.out
            have L9 : Hid (Lay w9 gm (mk k8 b8 t8 ka8 kl8 kc8 ia8 il8 ic8) gu) := Lay.below _ L8.out B9.out
            clear B8 H8 L8 B9
            generalize w8.heap.size = g8 at *
            obtain ⟨p0, p1, p2, p3, p4, -⟩ := box_cells ((H9.out.block _ (lt_of_block BW.out)).trans BW.out)
            go_wp2_with fail
            have CG := get_any (n + ps.length) W _ qs qa qc w9 (Lay.below _ LW3.out H9.out) (HQ.out.below BB9.out) HQN.out
            rw [HGW.out] at CG
            refine CG.mono ?_
            rintro e w10 ⟨y10, F10, rfl, ho10, -, hb10⟩
            have hl10 := Own.lay _ ho10
            obtain ⟨k5, b5, t5, ka5, kl5, kc5, ia5, il5, ic5, rfl⟩ := Lay.shape _ hl10
            have L10 : Hid (Lay w10 (gm + ps.length) (mk k5 b5 t5 ka5 kl5 kc5 ia5 il5 ic5) (ups gu ps.length)) := hl10
            have X10 : Hid (w10.heap[g8]? = _) := (hb10.block _ (lt_of_block X9.out)).trans X9.out
            have B10 : Hid (Below w.heap.size w w10) := nxt BB9.out hb10
            have M10 : Hid (Lay w10 (gm + ps.length) (mk k8 b8 t8 ka8 kl8 kc8 ia8 il8 ic8) (ups gu ps.length)) := Lay.below _ (Lay.ups L9.out _) hb10
            clear ho10 hl10 CG hb10 p0 p1 p2 p3 p4 X9 BB9 H9 L9
            go_wp2_with fail
            have X11 : Hid ((w10.alloc (.cells #[.int .i64 k5, .int .u64 b5, .string t5, .slice ka5 kl5 kc5, .slice ia5 il5 ic5] 26)).heap[w10.heap.size]? = some (.cells #[.int .i64 k5, .int .u64 b5, .string t5, .slice ka5 kl5 kc5, .slice ia5 il5 ic5] 26 (0, 0))) := heap_alloc_new _ _
            have B11 : Hid (Below w10.heap.size w10 (w10.alloc (.cells #[.int .i64 k5, .int .u64 b5, .string t5, .slice ka5 kl5 kc5, .slice ia5 il5 ic5] 26))) := below_one _ _
            generalize w10.alloc (.cells #[.int .i64 k5, .int .u64 b5, .string t5, .slice ka5 kl5 kc5, .slice ia5 il5 ic5] 26) = W11 at *
            refine (num_any _ _).mono ?_
            rintro e w11 ⟨rfl, rfl⟩
            obtain ⟨p0, p1, p2, p3, p4, -⟩ := box_cells ((B11.out.block _ (lt_of_block X10.out)).trans X10.out)
            obtain ⟨q0, q1, q2, q3, q4, -⟩ := box_cells X11.out
            have L11 : Hid (Lay w11 (gm + ps.length) (mk k5 b5 t5 ka5 kl5 kc5 ia5 il5 ic5) (ups gu ps.length)) := Lay.below _ L10.out B11.out
            have M11 : Hid (Lay w11 (gm + ps.length) (mk k8 b8 t8 ka8 kl8 kc8 ia8 il8 ic8) (ups gu ps.length)) := Lay.below _ M10.out B11.out
            have BB11 : Hid (Below w.heap.size w w11) := nxt B10.out B11.out
            clear L10 M10 B10 B11 X10 X11
            generalize w10.heap.size = g10 at *
            go_wp2_with fail
            have CS := same_any _ _ _ _ _ w11 M11.out L11.out
            rw [one_true rfl] at CS
            refine CS.mono ?_
            rintro e w12 ⟨rfl, hb12⟩
            go_wp2_with fail
            go_ret
            exact ⟨rfl, nxt BB11.out hb12⟩
          · have h0' : (ge == 0) = false := by simpa using h0
            clear h0 HG
            go_wp2_with fail
            refine (num_any _ _).mono ?_
            rintro e w9 ⟨rfl, rfl⟩
            go_wp2_with fail
            go_ret
            exact ⟨rfl, nxt B8.out (below_one _ _)⟩
  · have hz := setR_err h0
    rw [hz] at ho
    have hl := Own.lay _ ho
    obtain ⟨k3, b3, t3, ka3, kl3, kc3, ia3, il3, ic3, rfl⟩ := Lay.shape _ hl
    have HL : Hid (Lay w2 zeroT.1 (mk k3 b3 t3 ka3 kl3 kc3 ia3 il3 ic3) zeroT.2) := hl
    have h0' : ((setR ps (ups v ps.length) x).1 == 0) = false := by simpa using h0
    clear hl ho hz h0
    generalize (setR ps (ups v ps.length) x).1 = er at *
    go_wp2_with fail
    refine (num_any _ _).mono ?_
    rintro e w3 ⟨rfl, rfl⟩
    go_wp2_with fail
    have CS := same_any _ zeroT.2 zeroT.2 _ _ _ (Lay.below _ HL.out (below_one w2 (.cells #[.int .i64 k3, .int .u64 b3, .string t3, .slice ka3 kl3 kc3, .slice ia3 il3 ic3] 26))) (Own.lay _ (own_zero _))
    rw [one_true rfl] at CS
    refine CS.mono ?_
    rintro e w4 ⟨rfl, hb4⟩
    go_wp2_with fail
    go_ret
    exact ⟨rfl, nxt (nxt B2.out (below_one _ _)) hb4⟩

set_option maxRecDepth 100000 in
set_option maxHeartbeats 1600000 in
theorem lifted (os : Os) (started : os.Started) (H : Type) (enc : TypeId × Value → H) :
    ReturnsInHanded {} Try.checked os 6 .any (Rows.valueSetsSpec.pre6 enc Try.prog Try.f6 Rows.valueSetsRow.domain false) (Rows.valueSetsSpec.post enc Try.prog Try.f6 false true false false) := by
  refine returnsInHanded_of_change_sized (C := Try.checked) Try.own started (by kernel_rfl) Try.func6
    (ChangeSpec.witness6 (enc := enc) (C := Try.checked) false ⟨#[], #[.agg #[.int .i64 0, .int .u64 0, .string ⟨#[]⟩, .slice none 0 0, .slice none 0 0], .slice none 0 0, .agg #[.int .i64 0, .int .u64 0, .string ⟨#[]⟩, .slice none 0 0, .slice none 0 0], .slice none 0 0], []⟩ 8 (by kernel_rfl) (by kernel_rfl) (by kernel_rfl) (by kernel_rfl)) ?_
  intro W base args ds gs before hval0 hW _ hsz0 _
  have hsz : (DataW.weightsEach Try.prog (Try.f6.params.toList ++ Rows.valueSetsSpec.plain.varTypes Try.prog) (ds ++ gs)).all (· ≤ reachBytes) = true := hsz0
  have hval : ∀ (j : Nat) t v, Try.f6.params[j]? = some t → args[j]? = some v → Value.okWide Try.prog W .any base t v := hval0
  have hW' := hW
  obtain ⟨p, q, hA0, hV, rfl, hfz, hnd⟩ := hW
  have hA : DataW.TrodAll enc Try.prog W 0 (fun _ => true) true Try.f6.params.toList args.toList ds p := hA0
  rw [Try.params6] at hA hval hsz
  obtain ⟨v0, vs0, d0, ds0, p0, q0, hargs, rfl, rfl, h0, r0⟩ := trodAll_cons hA
  obtain ⟨v1, vs1, d1, ds1, p1, q1, rfl, rfl, rfl, h1, r1⟩ := trodAll_cons r0
  obtain ⟨v2, vs2, d2, ds2, p2, q2, rfl, rfl, rfl, h2, r2⟩ := trodAll_cons r1
  obtain ⟨v3, vs3, d3, ds3, p3, q3, rfl, rfl, rfl, h3, r3⟩ := trodAll_cons r2
  obtain ⟨rfl, rfl, rfl⟩ := trodAll_nil r3
  obtain rfl : args = #[v0, v1, v2, v3] := by cases args; simp_all
  obtain ⟨rfl, rfl⟩ := trodVars_none hV
  clear hA0 hval0
  simp only [List.append_nil] at hW' hsz
  have hlt : ∀ x ∈ p0 ++ p1 ++ p2 ++ p3, x.block < W.heap.size := fun x hx => hW'.lt x (by simpa using hx)
  have hall : ∀ x ∈ DataW.weightsEach Try.prog [26, 43, 26, 43] [d0, d1, d2, d3], x ≤ reachBytes := fun x hx => of_decide_eq_true (List.all_eq_true.1 hsz x hx)
  have g0 : ∀ x ∈ d0.weights Try.prog 26, x ≤ reachBytes := fun x hx => hall x (DataW.weights_mem_each (j := 0) rfl rfl x hx)
  obtain ⟨u0, l0⟩ := lay_of_arg (k := SizeOf.sizeOf d0 + SizeOf.sizeOf d2) (hval 0 _ v0 rfl rfl) h0 (by omega) g0
  have g1 : ∀ x ∈ d1.weights Try.prog 43, x ≤ reachBytes := fun x hx => hall x (DataW.weights_mem_each (j := 1) rfl rfl x hx)
  obtain ⟨u1, l1⟩ := path_of_arg (hval 1 _ v1 rfl rfl) h1 g1
  have g2 : ∀ x ∈ d2.weights Try.prog 26, x ≤ reachBytes := fun x hx => hall x (DataW.weights_mem_each (j := 2) rfl rfl x hx)
  obtain ⟨u2, l2⟩ := lay_of_arg (k := SizeOf.sizeOf d0 + SizeOf.sizeOf d2) (hval 2 _ v2 rfl rfl) h2 (by omega) g2
  have g3 : ∀ x ∈ d3.weights Try.prog 43, x ≤ reachBytes := fun x hx => hall x (DataW.weights_mem_each (j := 3) rfl rfl x hx)
  obtain ⟨u3, l3⟩ := path_of_arg (hval 3 _ v3 rfl rfl) h3 g3
  refine (walk _ u0 v0 u1 v1 u2 v2 u3 v3 W l0 l1 l2 l3).mono fun e W' ⟨he, bel⟩ => ?_
  subst he
  exact ⟨_, rfl, _, _, _, [], _, [], hW', trodAll_mk1 (shut_bool Try.underlying4 _), (trodAll_cons_mk (Below.trod Try.laidOut (by kernel_rfl) (of_decide_eq_true (by kernel_rfl)) h0 bel (fun x hx => hlt x (by simp [hx]))) (trodAll_cons_mk (Below.trod Try.laidOut (by kernel_rfl) (of_decide_eq_true (by kernel_rfl)) h1 bel (fun x hx => hlt x (by simp [hx]))) (trodAll_cons_mk (Below.trod Try.laidOut (by kernel_rfl) (of_decide_eq_true (by kernel_rfl)) h2 bel (fun x hx => hlt x (by simp [hx]))) (trodAll_cons_mk (Below.trod Try.laidOut (by kernel_rfl) (of_decide_eq_true (by kernel_rfl)) h3 bel (fun x hx => hlt x (by simp [hx]))) trodAll_mk0)))), rfl, bel.frame _, fun h => by cases h⟩

theorem over : Rows.valueSetsRow.holds Try.pinned (OpenSpec.ofChange Rows.valueSetsSpec) :=
  OpenClaim.holds_of_wide 6 Try.f6 rfl rfl rfl rfl rfl rfl rfl ⟨rfl, rfl, rfl, rfl, rfl⟩ rfl rfl rfl rfl rfl (by kernel_rfl) Try.func6 (by kernel_rfl)
    (of_decide_eq_true (by kernel_rfl)) (by unfold Func.isWrapper; first | (rw [if_pos (by decide +kernel)]; kernel_rfl) | (rw [if_neg (by decide +kernel)]; exact ⟨rfl, rfl⟩))
    (fun os started H enc _ => lifted os started H enc)

/-- THE STATEMENT. -/
theorem proved : Rows.ValueSetsSaid := over
#print axioms proved
end Go.Proofs.Ytghogejjijdfeaa.valueSets
