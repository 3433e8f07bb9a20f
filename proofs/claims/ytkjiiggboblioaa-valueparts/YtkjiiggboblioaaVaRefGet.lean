/-
  The page's Get.
-/
import Derived.Test.YtkjiiggboblioaaVaGet
import Derived.Test.YtkjiiggboblioaaVaRefWalk
namespace Go.Proofs.Ytkjiiggboblioaa
open Go.ChangeShapes Go.WideShapes Go.ChangeAt Go.RowKit
open Fl

set_option maxRecDepth 100000 in
set_option maxHeartbeats 3200000 in
theorem rget_any (n : Nat) (v : V n) (x : Value) (ps : List St) (pa : Option Addr) (pc : Nat) (w : World) (hx : Lay w n x v) (hp : LayP w pa ps) (hlen : ps.length * 32 ≤ 140737488351232) :
    Calls Try.prog 6 #[x, .slice pa ps.length pc] w fun e w' => ∃ y F, e = .returned (.tuple #[y, .int .i64 (getR v ps).1]) ∧ Own w' (getR v ps).2.1 y (getR v ps).2.2 F ∧ (∀ b, F b → w.heap.size ≤ b ∧ b < w'.heap.size) ∧ Below w.heap.size w w' := by
  obtain ⟨k, b, t, ka, kl, kc, ia, il, ic, rfl⟩ := Lay.shape n hx
  have HX : Hid (Lay w n (mk k b t ka kl kc ia il ic) v) := hx
  have HP : Hid (LayP w pa ps) := hp
  clear hx hp
  have C1 : Hid (∀ w', Below w.heap.size w w' → Calls Try.prog 15 #[mk k b t ka kl kc ia il ic] w' fun e w'' => e = .returned (.int .i64 (chk v)) ∧ Below w'.heap.size w' w'') := fun w' hb => rcheck_any n _ _ _ (Lay.below n HX.out hb)
  by_cases h0 : chk v = 0
  · have HR : Hid (getR v ps = getV ps n v) := by show _ = _; unfold getR; rw [if_pos h0]
    have HOK : Hid (okV n v) := ok_of_chk h0
    rw [h0] at C1
    clear h0
    go_enter Try.func6, Try.ntmps6
    go_wp2_with fail
    refine (C1.out _ (below_two _ _ _)).mono ?_
    rintro e w1 ⟨rfl, hb1⟩
    have T1 : Hid (Two w w1 _ _) := Two.new w _ _ hb1
    have B1 : Hid (Below w.heap.size w w1) := nxt (below_two _ _ _) hb1
    clear hb1
    go_wp2_with fail
    go_loopw [7] (fun i wr => ∃ (m n' : Nat) (u' : V n') (k' b' : Int) (t' : ByteArray) (ka' : Option Addr) (kl' kc' : Nat) (ia' : Option Addr) (il' ic' : Nat), m ≤ ps.length ∧ i = .int .i64 m ∧
        Hid (wr.heap[w.heap.size]? = some (.cells #[.int .i64 k', .int .u64 b', .string t', .slice ka' kl' kc', .slice ia' il' ic'] 26 (0, 0))) ∧
        Hid (wr.heap[w.heap.size + 1]? = some (.cells #[.int .i64 0, .int .u64 0, .string ⟨#[]⟩, .slice none 0 0, .slice none 0 0] 26 (0, 0))) ∧
        Hid (Lay w n' (mk k' b' t' ka' kl' kc' ia' il' ic') u') ∧ Hid (okV n' u') ∧ Hid (getV ps n v = getV (ps.drop m) n' u') ∧ Hid (Below w.heap.size w wr)) (fun i _ => ps.length - (intOf i).toNat)
    case atStart => exact ⟨0, n, v, k, b, t, ka, kl, kc, ia, il, ic, Nat.zero_le _, rfl, T1.out.1, T1.out.2, HX.out, HOK.out, (by show _ = _; rw [List.drop_zero]), B1.out⟩
    case round =>
      obtain ⟨m, n', u', k1, b1, t1, ka1, kl1, kc1, ia1, il1, ic1, hm, rfl, HB, HZ, HL, HO, HG, HW⟩ := hrel
      obtain ⟨x0, x1, x2, x3, x4, y0, y1, y2, y3, y4⟩ := box_cells HB.out
      have hwz := lt_of_block HZ.out
      by_cases hlt : m < ps.length
      · obtain ⟨⟨q, key, idx⟩, hst⟩ : ∃ s, ps[m]? = some s := ⟨ps[m], by simp [hlt]⟩
        obtain ⟨gp, op, rfl, c0, c1, c2, hks, hidx⟩ := HP.out m _ hst
        simp only at c0 c1 c2 hks hidx
        replace c0 := keepc HW.out _ _ c0
        replace c1 := keepc HW.out _ _ c1
        replace c2 := keepc HW.out _ _ c2
        have hm1 : (m : Int) < (ps.length : Int) := by omega
        cases n' with
        | zero => exact u'.elim
        | succ n' =>
          obtain ⟨k2, b2, t2, ks, its⟩ := u'
          obtain ⟨ka2, kc2, ia2, ic2, heq, hfit, -, -, hS, hI⟩ := HL.out
          simp only [mk, Value.agg.injEq, Array.mk.injEq, List.cons.injEq, Value.int.injEq, Value.string.injEq, Value.slice.injEq, true_and, and_true] at heq
          obtain ⟨rfl, rfl, rfl, ⟨rfl, rfl, rfl⟩, ⟨rfl, rfl, rfl⟩⟩ := heq
          obtain ⟨hmay, hoks⟩ := HO.out
          have HMAY : Hid (mayB k1 b1 t1 ks its.length = true) := hmay
          have HOKS : Hid (∀ u ∈ its, okV n' u) := hoks
          have HI : Hid (LayI w (Lay w n') ia1 its) := hI
          have HF : Hid (∀ w', Below w.heap.size w w' → Calls Try.prog 16 #[mk k1 b1 t1 ka1 ks.length kc1 ia1 its.length ic1, .agg #[.bool q, .string key, .int .i64 idx]] w' fun e w'' => e = .returned (.tuple #[.int .i64 (rplc (plc k1 ks its.length (q, key, idx))), .int .i64 (plc k1 ks its.length (q, key, idx)).1]) ∧ Below w'.heap.size w' w'') := fun w' hb =>
            place_any k1 b1 t1 ka1 kc1 ia1 its.length ic1 ks (q, key, idx) w' (fun h => by subst h; exact (up_of_may hmay).1) (LayS.below hS hb) hfit.2.2.2.2.2.1 hidx hfit.2.2.2.2.2.2.2.2
          have hd : ps.drop m = (q, key, idx) :: ps.drop (m + 1) := by
            rw [List.drop_eq_getElem_cons hlt]
            congr 1
            rw [List.getElem?_eq_getElem hlt] at hst
            exact Option.some.inj hst
          have HGG : Hid (getV ps n v = if (plc k1 ks its.length (q, key, idx)).1 = 0 then match its[(plc k1 ks its.length (q, key, idx)).2]? with | some u => getV (ps.drop (m + 1)) n' u | none => (0, zeroT) else ((plc k1 ks its.length (q, key, idx)).1, zeroT)) := by
            show _ = _
            rw [HG.out, hd]
            rfl
          have hir := hfit.2.2.2.2.2.2.2.2
          have HPL : Hid ((plc k1 ks its.length (q, key, idx)).1 = 0 → (plc k1 ks its.length (q, key, idx)).2 < its.length) := fun h => plc_lt hmay h
          clear hd hst hmay hoks hI hS hfit hks hidx HG HO HL
          have inst : Nonempty (Cls wr) := ⟨⟨wr, Below.refl _ _⟩⟩
          have X0 := fun s => Cls.cell x0 s
          have X1 := fun s => Cls.cell x1 s
          have X2 := fun s => Cls.cell x2 s
          have X3 := fun s => Cls.cell x3 s
          have X4 := fun s => Cls.cell x4 s
          have Y0 := fun s => Cls.cell c0 s
          have Y1 := fun s => Cls.cell c1 s
          have Y2 := fun s => Cls.cell c2 s
          have CF : Hid (∀ s : Cls wr, Calls Try.prog 16 #[mk k1 b1 t1 ka1 ks.length kc1 ia1 its.length ic1, .agg #[.bool q, .string key, .int .i64 idx]] s.1 fun e w'' => e = .returned (.tuple #[.int .i64 (rplc (plc k1 ks its.length (q, key, idx))), .int .i64 (plc k1 ks its.length (q, key, idx)).1]) ∧ Below s.1.heap.size s.1 w'') := fun s => HF.out s.1 (nxt HW.out s.2)
          clear x0 x1 x2 x3 x4 y0 y1 y2 y3 y4 c0 c1 c2 HF
          generalize plc k1 ks its.length (q, key, idx) = r at *
          obtain ⟨er, at'⟩ := r
          simp only at HGG HPL CF
          by_cases he : er = 0
          · subst he
            have hat := HPL.out rfl
            have hat1 : (at' : Int) < (its.length : Int) := by omega
            obtain ⟨u1, hu1⟩ : ∃ s, its[at']? = some s := ⟨its[at'], by simp [hat]⟩
            have HGN : Hid (getV ps n v = getV (ps.drop (m + 1)) n' u1) := by show _ = _; rw [HGG.out, if_pos rfl, hu1]
            obtain ⟨gi, oi, d0, d1, d2, d3, d4, rfl, p0, p1, p2, p3, p4, l1⟩ := HI.out at' u1 hu1
            obtain ⟨k5, b5, t5, ka5, kl5, kc5, ia5, il5, ic5, rfl, rfl, rfl, rfl, rfl⟩ := Lay.five n' l1
            have HL5 : Hid (Lay w n' (mk k5 b5 t5 ka5 kl5 kc5 ia5 il5 ic5) u1) := l1
            have HOK5 : Hid (okV n' u1) := HOKS.out u1 (List.mem_of_getElem? hu1)
            have HIT : Hid (_ ∧ _ ∧ _ ∧ _ ∧ _) := ⟨p0, p1, p2, p3, p4⟩
            clear l1 hu1 HGG HPL p0 p1 p2 p3 p4
            have hrp : rplc (0, at') = (at' : Int) := by simp [rplc]
            rw [hrp] at CF
            go_wp2_with fail
            refine wp_region_cls (by kernel_rfl) (by kernel_rfl) ?_
            repeat (go_big_quiet_step ((go_at_call 16; exact Calls.cls (CF.out _))))
            refine wpQuiet_nil ?_
            intro _ hw'
            obtain ⟨s, hw''⟩ := hw'
            subst hw''
            have B2 := s.2
            obtain ⟨z0, z1, z2, z3, z4, f0, f1, f2, f3, f4⟩ := box_cells ((B2.block _ (lt_of_block HB.out)).trans HB.out)
            have i0 := keepc (nxt HW.out B2) _ _ HIT.out.1
            have i1 := keepc (nxt HW.out B2) _ _ HIT.out.2.1
            have i2 := keepc (nxt HW.out B2) _ _ HIT.out.2.2.1
            have i3 := keepc (nxt HW.out B2) _ _ HIT.out.2.2.2.1
            have i4 := keepc (nxt HW.out B2) _ _ HIT.out.2.2.2.2
            clear X0 X1 X2 X3 X4 Y0 Y1 Y2
            go_wp2_with fail
            have hX2 := (B2.block _ (lt_of_block HB.out)).trans HB.out
            have hZ2 := (B2.block _ (lt_of_block HZ.out)).trans HZ.out
            obtain ⟨s1, s2, -⟩ := five_sets hX2 (by simp) (.int .i64 k5) (.int .u64 b5) (.string t5) (.slice ka5 kl5 kc5) (.slice ia5 il5 ic5)
            have hX3 := five_all hX2 (.int .i64 k5) (.int .u64 b5) (.string t5) (.slice ka5 kl5 kc5) (.slice ia5 il5 ic5)
            have hZ3 := (s1 (w.heap.size + 1) (by omega)).trans hZ2
            have B3 := (((((nxt HW.out B2).setCell (p := ⟨w.heap.size, 0, none⟩) (Nat.le_refl _) (.int .i64 k5)).setCell (p := ⟨w.heap.size, 1, none⟩) (Nat.le_refl _) (.int .u64 b5)).setCell (p := ⟨w.heap.size, 2, none⟩) (Nat.le_refl _) (.string t5)).setCell (p := ⟨w.heap.size, 3, none⟩) (Nat.le_refl _) (.slice ka5 kl5 kc5)).setCell (p := ⟨w.heap.size, 4, none⟩) (Nat.le_refl _) (.slice ia5 il5 ic5)
            have GX : Hid _ := hX3
            have GZ : Hid _ := hZ3
            have GB : Hid _ := B3
            clear hX2 hZ2 s1 s2 hX3 hZ3 B3 z0 z1 z2 z3 z4 f0 f1 f2 f3 f4 i0 i1 i2 i3 i4 B2
            go_roundw
            case rel => exact ⟨m + 1, n', u1, k5, b5, t5, ka5, kl5, kc5, ia5, il5, ic5, by omega, by go_num, GX.out, GZ.out, HL5.out, HOK5.out, HGN.out, GB.out⟩
            case measure => simp [intOf]; omega
          · have he' : (er == 0) = false := by simpa using he
            have HGN : Hid (getV ps n v = (er, zeroT)) := by show _ = _; rw [HGG.out, if_neg he]
            clear HGG HPL he
            generalize rplc (er, at') = rp at *
            go_wp2_with fail
            refine wp_region_cls (by kernel_rfl) (by kernel_rfl) ?_
            repeat (go_big_quiet_step ((go_at_call 16; exact Calls.cls (CF.out _))))
            refine wpQuiet_nil ?_
            intro _ hw'
            obtain ⟨s, hw''⟩ := hw'
            subst hw''
            have B2 := s.2
            obtain ⟨z0, z1, z2, z3, z4, f0, f1, f2, f3, f4⟩ := box_cells ((B2.block _ (lt_of_block HZ.out)).trans HZ.out)
            clear X0 X1 X2 X3 X4 Y0 Y1 Y2
            go_wp2_with fail
            refine bodyPost_ret (v := .tuple #[mk 0 0 ⟨#[]⟩ none 0 0 none 0 0, .int .i64 er]) (by simp [results, Try.results6, go_sem, z0, z1, z2, z3, z4]) rfl ?_
            rw [HR.out, HGN.out]
            refine ⟨_, fun _ => False, rfl, own_zero _, fun b hb => hb.elim, ?_⟩
            exact (((((nxt HW.out B2).setCell (by simp) _).setCell (by simp) _).setCell (by simp) _).setCell (by simp) _).setCell (by simp) _
      · have hm' : m = ps.length := by omega
        have HGN : Hid (getV ps n v = (0, ⟨n', u'⟩)) := by show _ = _; rw [HG.out, List.drop_eq_nil_of_le (by omega)]; rfl
        go_wp2_with (go_at_call 17; refine (rown_any n' u' _ _ (Lay.below n' HL.out HW.out)).mono ?_; rintro e w2 ⟨y2, F, rfl, ho, hF, hb2⟩; obtain ⟨k5, b5, t5, ka5, kl5, kc5, ia5, il5, ic5, rfl⟩ := Lay.shape n' (Own.lay n' ho); obtain ⟨z0, z1, z2, z3, z4, f0, f1, f2, f3, f4⟩ := box_cells ((hb2.block _ (lt_of_block HZ.out)).trans HZ.out))
        refine bodyPost_ret (v := .tuple #[mk k5 b5 t5 ka5 kl5 kc5 ia5 il5 ic5, .int .i64 0]) (by simp [results, Try.results6, go_sem, z0, z1, z2, z3, z4]) rfl ?_
        rw [HR.out, HGN.out]
        have hsw := HW.out.size
        obtain ⟨s1, s2, -⟩ := five_sets ((hb2.block _ (lt_of_block HZ.out)).trans HZ.out) (by simp) (.int .i64 k5) (.int .u64 b5) (.string t5) (.slice ka5 kl5 kc5) (.slice ia5 il5 ic5)
        refine ⟨_, F, rfl, Own.same n' ho fun b hb => s1 b (by have := (hF b hb).1; omega), fun b hb => ⟨by have := (hF b hb).1; omega, by rw [s2]; exact (hF b hb).2⟩, ?_⟩
        exact (((((nxt HW.out hb2).setCell (by simp) _).setCell (by simp) _).setCell (by simp) _).setCell (by simp) _).setCell (by simp) _
  · have h0' : (chk v == 0) = false := by simpa using h0
    have HR : Hid (getR v ps = (chk v, zeroT)) := by show _ = _; unfold getR; rw [if_neg h0]
    generalize chk v = cv at *
    clear h0
    go_enter Try.func6, Try.ntmps6
    go_wp2_with fail
    refine (C1.out _ (below_two _ _ _)).mono ?_
    rintro e w1 ⟨rfl, hb1⟩
    have T1 : Two w w1 _ _ := Two.new w _ _ hb1
    have B1 : Hid (Below w.heap.size w w1) := nxt (below_two _ _ _) hb1
    obtain ⟨z0, z1, z2, z3, z4, f0, f1, f2, f3, f4⟩ := box_cells T1.2
    clear hb1 T1
    go_wp2_with fail
    refine bodyPost_ret (v := .tuple #[mk 0 0 ⟨#[]⟩ none 0 0 none 0 0, .int .i64 cv]) (by simp [results, Try.results6, go_sem, z0, z1, z2, z3, z4]) rfl ?_
    rw [HR.out]
    refine ⟨_, fun _ => False, rfl, own_zero _, fun b hb => hb.elim, ?_⟩
    exact ((((B1.out.setCell (by simp) _).setCell (by simp) _).setCell (by simp) _).setCell (by simp) _).setCell (by simp) _
end Go.Proofs.Ytkjiiggboblioaa
