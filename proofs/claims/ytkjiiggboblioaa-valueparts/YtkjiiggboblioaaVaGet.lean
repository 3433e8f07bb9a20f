/-
  Get: what lies where a path leads, in memory of its own.
-/
import Derived.Test.YtkjiiggboblioaaVaPlace
import Derived.Test.YtkjiiggboblioaaVaOwn
import Derived.Test.YtkjiiggboblioaaVaGetOne
namespace Go.Proofs.Ytkjiiggboblioaa
open Go.ChangeShapes Go.WideShapes Go.ChangeAt Go.RowKit
open Fl

/-- A slice of steps. -/
def LayP (w : World) (pa : Option Addr) (ps : List St) : Prop :=
  ∀ i s, ps[i]? = some s → ∃ b o, pa = some ⟨b, o, none⟩ ∧ w.cell? ⟨b, o + i * 3, none⟩ = some (.bool s.1) ∧ w.cell? ⟨b, o + i * 3 + 1, none⟩ = some (.string s.2.1) ∧ w.cell? ⟨b, o + i * 3 + 2, none⟩ = some (.int .i64 s.2.2) ∧
    s.2.1.size ≤ 140737488351232 ∧ (-9223372036854775808 ≤ s.2.2 ∧ s.2.2 ≤ 9223372036854775807)

theorem LayP.below {w w' : World} {pa : Option Addr} {ps : List St} (h : LayP w pa ps) (hb : Below w.heap.size w w') : LayP w' pa ps := by
  intro i s hi
  obtain ⟨b, o, e, c0, c1, c2, r⟩ := h i s hi
  exact ⟨b, o, e, keepc hb _ _ c0, keepc hb _ _ c1, keepc hb _ _ c2, r⟩

/-- A tree of whatever depth. -/
abbrev T := (m : Nat) × V m
def zeroT : T := ⟨1, ((0, 0, ⟨#[]⟩, [], []) : V 1)⟩

/-- Where a path leads: its error, and the part. -/
def getV : List St → (n : Nat) → V n → Int × T
  | [], n, v => (0, ⟨n, v⟩)
  | _ :: _, 0, v => v.elim
  | s :: p, n + 1, (k, _, _, ks, its) => if (plc k ks its.length s).1 = 0 then match its[(plc k ks its.length s).2]? with | some u => getV p n u | none => (0, zeroT) else ((plc k ks its.length s).1, zeroT)

/-- Get's answer. -/
def getR {n : Nat} (v : V n) (ps : List St) : Int × T := if chk v = 0 then getV ps n v else (chk v, zeroT)

theorem own_zero (w : World) : Own w zeroT.1 (mk 0 0 ⟨#[]⟩ none 0 0 none 0 0) zeroT.2 (fun _ => False) := by
  refine ⟨none, 0, none, 0, [], fun _ _ => False, rfl, ?_, by simp, World.ownsRow_nil _ _ _ _, World.ownsRow_nil _ _ _ _, by simp [Value.ownBlock], by simp [Value.ownBlock], fun i u hi => by simp at hi, fun i b hi => by simp at hi, fun i j b hi => by simp at hi⟩
  refine ⟨by omega, by omega, ?_, by simp, by simp, by simp, by simp, by simp, by simp⟩
  exact Nat.zero_le _

/-- A place that is one lies among the items. -/
theorem plc_lt {k b : Int} {t : ByteArray} {ks : List ByteArray} {il : Nat} {s : St} (hm : mayB k b t ks il = true) (h : (plc k ks il s).1 = 0) : (plc k ks il s).2 < il := by
  unfold plc at h ⊢
  by_cases h1 : s.1 = true
  · rw [if_pos h1] at h ⊢
    by_cases h2 : k = 5
    · rw [if_pos h2] at h ⊢
      by_cases h3 : ks[lb ks s.2.1]? = some s.2.1
      · rw [if_pos h3] at h ⊢
        subst h2
        have := (up_of_may hm).2
        have := (List.getElem?_eq_some_iff.1 h3).1
        simp only
        omega
      · rw [if_neg h3] at h; simp at h
    · rw [if_neg h2] at h; simp at h
  · rw [if_neg h1] at h ⊢
    by_cases h2 : k = 4
    · rw [if_pos h2] at h ⊢
      by_cases h3 : 0 ≤ s.2.2 ∧ s.2.2 < il
      · rw [if_pos h3] at h ⊢
        simp only
        omega
      · rw [if_neg h3] at h; simp at h
    · rw [if_neg h2] at h; simp at h

set_option maxRecDepth 100000 in
set_option maxHeartbeats 3200000 in
theorem get_any (n : Nat) (v : V n) (x : Value) (ps : List St) (pa : Option Addr) (pc : Nat) (w : World) (hx : Lay w n x v) (hp : LayP w pa ps) (hlen : ps.length * 32 ≤ 140737488351232) :
    Calls Try.prog 5 #[x, .slice pa ps.length pc] w fun e w' => ∃ y F, e = .returned (.tuple #[y, .int .i64 (getR v ps).1]) ∧ Own w' (getR v ps).2.1 y (getR v ps).2.2 F ∧ (∀ b, F b → w.heap.size ≤ b ∧ b < w'.heap.size) ∧ Below w.heap.size w w' := by
  obtain ⟨k, b, t, ka, kl, kc, ia, il, ic, rfl⟩ := Lay.shape n hx
  have HX : Hid (Lay w n (mk k b t ka kl kc ia il ic) v) := hx
  have HP : Hid (LayP w pa ps) := hp
  clear hx hp
  have C1 : Hid (∀ w', Below w.heap.size w w' → Calls Try.prog 12 #[mk k b t ka kl kc ia il ic] w' fun e w'' => e = .returned (.int .i64 (chk v)) ∧ Below w'.heap.size w' w'') := fun w' hb => check_any n _ _ _ (Lay.below n HX.out hb)
  by_cases h0 : chk v = 0
  · have HR : Hid (getR v ps = getV ps n v) := by show _ = _; unfold getR; rw [if_pos h0]
    have HOK : Hid (okV n v) := ok_of_chk h0
    rw [h0] at C1
    clear h0
    go_enter Try.func5, Try.ntmps5
    go_wp2_with fail
    refine (C1.out _ (below_two _ _ _)).mono ?_
    rintro e w1 ⟨rfl, hb1⟩
    have T1 : Hid (Two w w1 _ _) := Two.new w _ _ hb1
    have B1 : Hid (Below w.heap.size w w1) := nxt (below_two _ _ _) hb1
    clear hb1
    go_wp2_with fail
    go_loopw [19] (fun i wr => ∃ (m n' : Nat) (u' : V n') (k' b' : Int) (t' : ByteArray) (ka' : Option Addr) (kl' kc' : Nat) (ia' : Option Addr) (il' ic' : Nat), m ≤ ps.length ∧ i = .int .i64 m ∧
        Hid (wr.heap[w.heap.size]? = some (.cells #[.int .i64 k', .int .u64 b', .string t', .slice ka' kl' kc', .slice ia' il' ic'] 26 (0, 0))) ∧
        Hid (wr.heap[w.heap.size + 1]? = some (.cells #[.int .i64 0, .int .u64 0, .string ⟨#[]⟩, .slice none 0 0, .slice none 0 0] 26 (0, 0))) ∧
        Hid (Lay w n' (mk k' b' t' ka' kl' kc' ia' il' ic') u') ∧ Hid (okV n' u') ∧ Hid (getV ps n v = getV (ps.drop m) n' u') ∧ Hid (Below w.heap.size w wr)) (fun i _ => ps.length - (intOf i).toNat)
    case atStart => exact ⟨0, n, v, k, b, t, ka, kl, kc, ia, il, ic, Nat.zero_le _, rfl, T1.out.1, T1.out.2, HX.out, HOK.out, (by show _ = _; rw [List.drop_zero]), B1.out⟩
    case round =>
      obtain ⟨m, n', u', k1, b1, t1, ka1, kl1, kc1, ia1, il1, ic1, hm, rfl, HB, HZ, HL, HO, HG, HW⟩ := hrel
      obtain ⟨x0, x1, x2, x3, x4, y0, y1, y2, y3, y4⟩ := box_cells HB.out
      have hwz := lt_of_block HZ.out
      by_cases hlt : m < ps.length
      · obtain ⟨⟨q, key, idx⟩, hst⟩ : ∃ s, ps[m]? = some s := ⟨ps[m], by simp [hlt]⟩
        obtain ⟨gp, op, rfl, c0, c1, c2, hks, hidx⟩ := HP.out m _ hst
        simp only at c0 c1 c2 hks hidx
        replace c0 := keepc HW.out _ _ c0
        replace c1 := keepc HW.out _ _ c1
        replace c2 := keepc HW.out _ _ c2
        have hm1 : (m : Int) < (ps.length : Int) := by omega
        cases n' with
        | zero => exact u'.elim
        | succ n' =>
          obtain ⟨k2, b2, t2, ks, its⟩ := u'
          obtain ⟨ka2, kc2, ia2, ic2, heq, hfit, -, -, hS, hI⟩ := HL.out
          simp only [mk, Value.agg.injEq, Array.mk.injEq, List.cons.injEq, Value.int.injEq, Value.string.injEq, Value.slice.injEq, true_and, and_true] at heq
          obtain ⟨rfl, rfl, rfl, ⟨rfl, rfl, rfl⟩, ⟨rfl, rfl, rfl⟩⟩ := heq
          obtain ⟨hmay, hoks⟩ := HO.out
          have HMAY : Hid (mayB k1 b1 t1 ks its.length = true) := hmay
          have HOKS : Hid (∀ u ∈ its, okV n' u) := hoks
          have HI : Hid (LayI w (Lay w n') ia1 its) := hI
          have HF : Hid (∀ w', Below w.heap.size w w' → Calls Try.prog 13 #[mk k1 b1 t1 ka1 ks.length kc1 ia1 its.length ic1, .agg #[.bool q, .string key, .int .i64 idx]] w' fun e w'' => e = .returned (.tuple #[.int .i64 ((plc k1 ks its.length (q, key, idx)).2 : Int), .int .i64 (plc k1 ks its.length (q, key, idx)).1]) ∧ Below w'.heap.size w' w'') := fun w' hb =>
            find_any k1 b1 t1 ka1 kc1 ia1 its.length ic1 ks (q, key, idx) w' (fun h => by subst h; exact (up_of_may hmay).1) (LayS.below hS hb) hfit.2.2.2.2.2.1 hidx hfit.2.2.2.2.2.2.2.2
          have hd : ps.drop m = (q, key, idx) :: ps.drop (m + 1) := by
            rw [List.drop_eq_getElem_cons hlt]
            congr 1
            rw [List.getElem?_eq_getElem hlt] at hst
            exact Option.some.inj hst
          have HGG : Hid (getV ps n v = if (plc k1 ks its.length (q, key, idx)).1 = 0 then match its[(plc k1 ks its.length (q, key, idx)).2]? with | some u => getV (ps.drop (m + 1)) n' u | none => (0, zeroT) else ((plc k1 ks its.length (q, key, idx)).1, zeroT)) := by
            show _ = _
            rw [HG.out, hd]
            rfl
          have hir := hfit.2.2.2.2.2.2.2.2
          have HPL : Hid ((plc k1 ks its.length (q, key, idx)).1 = 0 → (plc k1 ks its.length (q, key, idx)).2 < its.length) := fun h => plc_lt hmay h
          clear hd hst hmay hoks hI hS hfit hks hidx HG HO HL
          have X0 : ∀ o, (wr.alloc o).cell? ⟨w.heap.size, 0, none⟩ = some (.int .i64 k1) := fun o => keepc (below_one _ _) _ _ x0
          have X1 : ∀ o, (wr.alloc o).cell? ⟨w.heap.size, 1, none⟩ = some (.int .u64 b1) := fun o => keepc (below_one _ _) _ _ x1
          have X2 : ∀ o, (wr.alloc o).cell? ⟨w.heap.size, 2, none⟩ = some (.string t1) := fun o => keepc (below_one _ _) _ _ x2
          have X3 : ∀ o, (wr.alloc o).cell? ⟨w.heap.size, 3, none⟩ = some (.slice ka1 ks.length kc1) := fun o => keepc (below_one _ _) _ _ x3
          have X4 : ∀ o, (wr.alloc o).cell? ⟨w.heap.size, 4, none⟩ = some (.slice ia1 its.length ic1) := fun o => keepc (below_one _ _) _ _ x4
          generalize plc k1 ks its.length (q, key, idx) = r at *
          obtain ⟨er, at'⟩ := r
          simp only at HGG HPL HF
          by_cases he : er = 0
          · subst he
            have hat := HPL.out rfl
            have hat1 : (at' : Int) < (its.length : Int) := by omega
            obtain ⟨u1, hu1⟩ : ∃ s, its[at']? = some s := ⟨its[at'], by simp [hat]⟩
            have HGN : Hid (getV ps n v = getV (ps.drop (m + 1)) n' u1) := by show _ = _; rw [HGG.out, if_pos rfl, hu1]
            obtain ⟨gi, oi, d0, d1, d2, d3, d4, rfl, p0, p1, p2, p3, p4, l1⟩ := HI.out at' u1 hu1
            obtain ⟨k5, b5, t5, ka5, kl5, kc5, ia5, il5, ic5, rfl, rfl, rfl, rfl, rfl⟩ := Lay.five n' l1
            have HL5 : Hid (Lay w n' (mk k5 b5 t5 ka5 kl5 kc5 ia5 il5 ic5) u1) := l1
            have HOK5 : Hid (okV n' u1) := HOKS.out u1 (List.mem_of_getElem? hu1)
            have HIT : Hid (_ ∧ _ ∧ _ ∧ _ ∧ _) := ⟨p0, p1, p2, p3, p4⟩
            clear l1 hu1 HGG HPL p0 p1 p2 p3 p4
            go_wp2_with (go_at_call 13; refine (HF.out _ (nxt HW.out (below_one _ _))).mono ?_; rintro e w2 ⟨rfl, hb2⟩; have B2 := nxt (below_one wr _) hb2; obtain ⟨z0, z1, z2, z3, z4, f0, f1, f2, f3, f4⟩ := box_cells ((B2.block _ (lt_of_block HB.out)).trans HB.out); have i0 := keepc (nxt HW.out B2) _ _ HIT.out.1; have i1 := keepc (nxt HW.out B2) _ _ HIT.out.2.1; have i2 := keepc (nxt HW.out B2) _ _ HIT.out.2.2.1; have i3 := keepc (nxt HW.out B2) _ _ HIT.out.2.2.2.1; have i4 := keepc (nxt HW.out B2) _ _ HIT.out.2.2.2.2)
            have hX2 := (B2.block _ (lt_of_block HB.out)).trans HB.out
            have hZ2 := (B2.block _ (lt_of_block HZ.out)).trans HZ.out
            obtain ⟨s1, s2, -⟩ := five_sets hX2 (by simp) (.int .i64 k5) (.int .u64 b5) (.string t5) (.slice ka5 kl5 kc5) (.slice ia5 il5 ic5)
            have hX3 := five_all hX2 (.int .i64 k5) (.int .u64 b5) (.string t5) (.slice ka5 kl5 kc5) (.slice ia5 il5 ic5)
            have hZ3 := (s1 (w.heap.size + 1) (by omega)).trans hZ2
            have B3 := (((((nxt HW.out B2).setCell (p := ⟨w.heap.size, 0, none⟩) (Nat.le_refl _) (.int .i64 k5)).setCell (p := ⟨w.heap.size, 1, none⟩) (Nat.le_refl _) (.int .u64 b5)).setCell (p := ⟨w.heap.size, 2, none⟩) (Nat.le_refl _) (.string t5)).setCell (p := ⟨w.heap.size, 3, none⟩) (Nat.le_refl _) (.slice ka5 kl5 kc5)).setCell (p := ⟨w.heap.size, 4, none⟩) (Nat.le_refl _) (.slice ia5 il5 ic5)
            have GX : Hid _ := hX3
            have GZ : Hid _ := hZ3
            have GB : Hid _ := B3
            clear hX2 hZ2 s1 s2 hX3 hZ3 B3 z0 z1 z2 z3 z4 f0 f1 f2 f3 f4 i0 i1 i2 i3 i4 hb2 B2
            go_roundw
            case rel => exact ⟨m + 1, n', u1, k5, b5, t5, ka5, kl5, kc5, ia5, il5, ic5, by omega, by go_num, GX.out, GZ.out, HL5.out, HOK5.out, HGN.out, GB.out⟩
            case measure => simp [intOf]; omega
          · have he' : (er == 0) = false := by simpa using he
            have HGN : Hid (getV ps n v = (er, zeroT)) := by show _ = _; rw [HGG.out, if_neg he]
            clear HGG HPL he
            go_wp2_with (go_at_call 13; refine (HF.out _ (nxt HW.out (below_one _ _))).mono ?_; rintro e w2 ⟨rfl, hb2⟩; have B2 := nxt (below_one wr _) hb2; obtain ⟨z0, z1, z2, z3, z4, f0, f1, f2, f3, f4⟩ := box_cells ((B2.block _ (lt_of_block HZ.out)).trans HZ.out))
            refine bodyPost_ret (v := .tuple #[mk 0 0 ⟨#[]⟩ none 0 0 none 0 0, .int .i64 er]) (by simp [results, Try.results5, go_sem, z0, z1, z2, z3, z4]) rfl ?_
            rw [HR.out, HGN.out]
            refine ⟨_, fun _ => False, rfl, own_zero _, fun b hb => hb.elim, ?_⟩
            exact (((((nxt HW.out B2).setCell (by simp) _).setCell (by simp) _).setCell (by simp) _).setCell (by simp) _).setCell (by simp) _
      · have hm' : m = ps.length := by omega
        have HGN : Hid (getV ps n v = (0, ⟨n', u'⟩)) := by show _ = _; rw [HG.out, List.drop_eq_nil_of_le (by omega)]; rfl
        go_wp2_with (go_at_call 14; refine (copyOf_any n' u' _ _ (Lay.below n' HL.out HW.out)).mono ?_; rintro e w2 ⟨y2, F, rfl, ho, hF, hb2⟩; obtain ⟨k5, b5, t5, ka5, kl5, kc5, ia5, il5, ic5, rfl⟩ := Lay.shape n' (Own.lay n' ho); obtain ⟨z0, z1, z2, z3, z4, f0, f1, f2, f3, f4⟩ := box_cells ((hb2.block _ (lt_of_block HZ.out)).trans HZ.out))
        refine bodyPost_ret (v := .tuple #[mk k5 b5 t5 ka5 kl5 kc5 ia5 il5 ic5, .int .i64 0]) (by simp [results, Try.results5, go_sem, z0, z1, z2, z3, z4]) rfl ?_
        rw [HR.out, HGN.out]
        have hsw := HW.out.size
        obtain ⟨s1, s2, -⟩ := five_sets ((hb2.block _ (lt_of_block HZ.out)).trans HZ.out) (by simp) (.int .i64 k5) (.int .u64 b5) (.string t5) (.slice ka5 kl5 kc5) (.slice ia5 il5 ic5)
        refine ⟨_, F, rfl, Own.same n' ho fun b hb => s1 b (by have := (hF b hb).1; omega), fun b hb => ⟨by have := (hF b hb).1; omega, by rw [s2]; exact (hF b hb).2⟩, ?_⟩
        exact (((((nxt HW.out hb2).setCell (by simp) _).setCell (by simp) _).setCell (by simp) _).setCell (by simp) _).setCell (by simp) _
  · have h0' : (chk v == 0) = false := by simpa using h0
    have HR : Hid (getR v ps = (chk v, zeroT)) := by show _ = _; unfold getR; rw [if_neg h0]
    generalize chk v = cv at *
    clear h0
    go_enter Try.func5, Try.ntmps5
    go_wp2_with fail
    refine (C1.out _ (below_two _ _ _)).mono ?_
    rintro e w1 ⟨rfl, hb1⟩
    have T1 : Two w w1 _ _ := Two.new w _ _ hb1
    have B1 : Hid (Below w.heap.size w w1) := nxt (below_two _ _ _) hb1
    obtain ⟨z0, z1, z2, z3, z4, f0, f1, f2, f3, f4⟩ := box_cells T1.2
    clear hb1 T1
    go_wp2_with fail
    refine bodyPost_ret (v := .tuple #[mk 0 0 ⟨#[]⟩ none 0 0 none 0 0, .int .i64 cv]) (by simp [results, Try.results5, go_sem, z0, z1, z2, z3, z4]) rfl ?_
    rw [HR.out]
    refine ⟨_, fun _ => False, rfl, own_zero _, fun b hb => hb.elim, ?_⟩
    exact ((((B1.out.setCell (by simp) _).setCell (by simp) _).setCell (by simp) _).setCell (by simp) _).setCell (by simp) _
end Go.Proofs.Ytkjiiggboblioaa
