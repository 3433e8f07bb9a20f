/-
  OutboxNumbers: for every two boxes and every list of effects: an effect's number hangs on its event's number and its place alone, whatever box it is added to. No condition.
-/
import Derived.Test.YtpeghhkhohnkiaaObSpoil
import Derived.Test.YtpeghhkhohnkiaaObArg
import Derived.Deep.CutRange
namespace Go.Proofs.Ytpeghhkhohnkiaa.outboxNumbers
open Go.ChangeShapes Go.WideShapes Go.ChangeAt Go.RowKit Go.Deep

theorem cells2 {w : World} {P : Nat} {x y : Value} {t : TypeId} (h : w.heap[P]? = some (.cells #[x, y] t (0, 0))) {W' : World} (hb : Below w.heap.size w W') : W'.cell? ⟨P, 0, none⟩ = some x ∧ W'.cell? ⟨P, 1, none⟩ = some y := by
  have h' := (hb.block _ (lt_of_block h)).trans h
  exact ⟨(cell_of h' 0).1, (cell_of h' 1).1⟩

theorem addR_bad {n : Nat} {L s : Int} {its : List (Tm n)} {l : List (Ef n)} (h : ¬ (addR L its s l).1 = 0) : (addR L its s l).2.2 = [] := by
  unfold addR at h ⊢
  split
  · rename_i h0
    rw [if_pos h0] at h
    split
    · rename_i h1
      rw [if_pos h1] at h
      split
      · rename_i h2
        rw [if_pos h2] at h
        exact absurd rfl h
      · rfl
    · rfl
  · rfl
theorem addR_good {n : Nat} {L s : Int} {its : List (Tm n)} {l : List (Ef n)} (h : (addR L its s l).1 = 0) : (addR L its s l).2.2 = its ++ nums s 0 l ∧ its.length + l.length ≤ 256 := by
  unfold addR at h ⊢
  by_cases h0 : chkB L its = 0
  · rw [if_pos h0] at h ⊢
    by_cases h1 : evE L s l = 0
    · rw [if_pos h1] at h ⊢
      by_cases h2 : its.length + l.length ≤ 256
      · rw [if_pos h2]; exact ⟨rfl, h2⟩
      · rw [if_neg h2] at h; simp at h
    · rw [if_neg h1] at h; exact absurd h h1
  · rw [if_neg h0] at h; simp at h

/-- The item of an effect that was added. -/
theorem added_at {n : Nat} {s : Int} {its : List (Tm n)} {l : List (Ef n)} {m : Nat} (h : m < l.length) (h2 : its.length + m < (its ++ nums s 0 l).length) : (its ++ nums s 0 l)[its.length + m] = (32 * s + m, l[m].1, l[m].2) := by
  have := nums_at s 0 l m
  rw [List.getElem?_eq_getElem h] at this
  have e : (its ++ nums s 0 l)[its.length + m]? = some (32 * s + m, l[m].1, l[m].2) := by
    rw [List.getElem?_append_right (by omega), Nat.add_sub_cancel_left, this]
    simp
  rw [List.getElem?_eq_getElem h2] at e
  exact Option.some.inj e

set_option maxRecDepth 100000 in
set_option maxHeartbeats 12800000 in
theorem walk (n : Nat) (ba : Int × List (Tm n)) (x0 : Value) (bb : Int × List (Tm n)) (x1 : Value) (l : List (Ef n)) (x2 : Value) (w : World) (hA : BoxArg w n x0 ba) (hB : BoxArg w n x1 bb) (hl : EffsArg w n x2 l) :
    Calls Try.prog 6 #[x0, x1, x2] w fun e w' => e = .returned (.bool true) ∧ Below w.heap.size w w' := by
  obtain ⟨La, ia⟩ := ba
  obtain ⟨Lb, ib⟩ := bb
  obtain ⟨aa, ca, rfl, hTA, la1, la2⟩ := hA
  obtain ⟨ab, cb, rfl, hTB, lb1, lb2⟩ := hB
  obtain ⟨ea, ec, rfl, hE⟩ := hl
  simp only at hTA hTB la1 la2 lb1 lb2 ⊢
  have TA : Hid (TIs w n aa ca ia) := hTA
  have TB : Hid (TIs w n ab cb ib) := hTB
  have HE : Hid (EIs w n ea ec l) := hE
  have KA : Hid ((∀ u ∈ ia, TmOk u) ∧ ia.length * 104 ≤ 140737488351232) := ⟨hTA.2.2.2.2.2.1, hTA.2.2.1⟩
  have KB : Hid ((∀ u ∈ ib, TmOk u) ∧ ib.length * 104 ≤ 140737488351232) := ⟨hTB.2.2.2.2.2.1, hTB.2.2.1⟩
  clear hTA hTB hE
  have T0 : Hid (Two w _ _ _) := Two.new w (.cells #[.int .i64 La, .slice aa ia.length ca] 24) (.cells #[.int .i64 Lb, .slice ab ib.length cb] 24) (Below.refl _ _)
  have B0 : Hid _ := below_two w (.cells #[.int .i64 La, .slice aa ia.length ca] 24) (.cells #[.int .i64 Lb, .slice ab ib.length cb] 24)
  go_enter Try.func6, Try.ntmps6
  go_upto_region 3 with (go_at_call 23; refine (alive_any _).mono ?_; rintro e w1 ⟨rfl, hb1⟩)
  have T1 : Hid (Two w w1 (.cells #[.int .i64 La, .slice aa ia.length ca] 24) (.cells #[.int .i64 Lb, .slice ab ib.length cb] 24)) := T0.out.below hb1
  have B1 : Hid (Below w.heap.size w w1) := nxt B0.out hb1
  clear hb1 T0 B0
  obtain ⟨p0, p1, p2, p3, -, -⟩ := two_cells2 T1.out
  go_cut [7] (fun v wc => ∃ S : Int, v = .int .i64 S ∧ 1 ≤ S ∧ S ≤ 549755813889 ∧ Hid (wc = w1))
  case first =>
    go_wp2_with fail
    all_goals
      go_meet
      exact ⟨_, rfl, by omega, by omega, rfl⟩
  case rest =>
    obtain ⟨S, rfl, hS1, hS2, HW⟩ := hcut
    obtain rfl := HW.out
    clear HW
    obtain ⟨W1, hW1⟩ : ∃ W, W = wc := ⟨_, rfl⟩
    subst hW1
    obtain ⟨⟨eA, LA, iA⟩, hRA⟩ : ∃ R, addR La ia S l = R := ⟨_, rfl⟩
    obtain ⟨⟨eB, LB, iB⟩, hRB⟩ : ∃ R, addR Lb ib S l = R := ⟨_, rfl⟩
    have OA : Hid ((∀ u ∈ iA, TmOk u) ∧ iA.length * 104 ≤ 140737488351232) := by have := addR_list La S ia l; rwa [hRA] at this
    have OB : Hid ((∀ u ∈ iB, TmOk u) ∧ iB.length * 104 ≤ 140737488351232) := by have := addR_list Lb S ib l; rwa [hRB] at this
    have BA : Hid (¬ eA = 0 → iA = []) := by have := addR_bad (L := La) (s := S) (its := ia) (l := l); rwa [hRA] at this
    have BB : Hid (¬ eB = 0 → iB = []) := by have := addR_bad (L := Lb) (s := S) (its := ib) (l := l); rwa [hRB] at this
    have GA : Hid (eA = 0 → iA = ia ++ nums S 0 l ∧ ia.length + l.length ≤ 256) := by have := addR_good (L := La) (s := S) (its := ia) (l := l); rwa [hRA] at this
    have GB : Hid (eB = 0 → iB = ib ++ nums S 0 l ∧ ib.length + l.length ≤ 256) := by have := addR_good (L := Lb) (s := S) (its := ib) (l := l); rwa [hRB] at this
    have CA : Hid (∀ W' a c, TIs W' n a c ia → EIs W' n ea ec l → Calls Try.prog 11 #[.agg #[.int .i64 La, .slice a ia.length c], .int .i64 S, .slice ea l.length ec] W' (BoxPost W' (eA, LA, iA))) := fun W' a c h1 h2 => by have := add_any La S ia a c l ea ec W' h1 h2; rwa [hRA] at this
    have CB : Hid (∀ W' a c, TIs W' n a c ib → EIs W' n ea ec l → Calls Try.prog 11 #[.agg #[.int .i64 Lb, .slice a ib.length c], .int .i64 S, .slice ea l.length ec] W' (BoxPost W' (eB, LB, iB))) := fun W' a c h1 h2 => by have := add_any Lb S ib a c l ea ec W' h1 h2; rwa [hRB] at this
    clear hRA hRB
    go_wp2_with fail
    refine (of_any La ia aa ca W1 (TA.out.below B1.out)).mono ?_
    rintro e w2 ⟨v2, H2, rfl, h2⟩
    obtain ⟨a2, c2, rfl, t2⟩ := CopyInv.tis h2 KA.out.2 KA.out.1
    have B12 : Hid (Below W1.heap.size W1 w2) := h2.2.2
    have T2 : Hid (TIs w2 n a2 c2 ia) := t2
    clear h2 t2
    go_wp2_with fail
    refine (CA.out w2 a2 c2 T2.out (HE.out.below (nxt B1.out B12.out))).mono ?_
    rintro e w3 ⟨v3, H3, rfl, h3⟩
    obtain ⟨a3, c3, rfl, t3⟩ := CopyInv.tis h3 OA.out.2 OA.out.1
    have Q4 : Hid ((w3.alloc (.cells #[.int .i64 LA, .slice a3 iA.length c3] 26)).heap[w3.heap.size]? = some (.cells #[.int .i64 LA, .slice a3 iA.length c3] 26 (0, 0))) := heap_alloc_new _ _
    have B14 : Hid (Below W1.heap.size W1 (w3.alloc (.cells #[.int .i64 LA, .slice a3 iA.length c3] 26))) := nxt B12.out (nxt h3.2.2 (below_one _ _))
    have T4 : Hid (TIs (w3.alloc (.cells #[.int .i64 LA, .slice a3 iA.length c3] 26)) n a3 c3 iA) := t3.below (below_one _ _)
    clear h3 t3 T2 B12 p0 p1 p2 p3
    obtain ⟨-, -, p2, p3, -, -⟩ := two_cells2 (T1.out.below B14.out)
    simp only
    go_wp2_with fail
    generalize w3.alloc (.cells #[.int .i64 LA, .slice a3 iA.length c3] 26) = W4 at *
    clear p2 p3
    refine (of_any Lb ib ab cb W4 (TB.out.below (nxt B1.out B14.out))).mono ?_
    rintro e w5 ⟨v5, H5, rfl, h5⟩
    obtain ⟨a5, c5, rfl, t5⟩ := CopyInv.tis h5 KB.out.2 KB.out.1
    have B45 : Hid (Below W4.heap.size W4 w5) := h5.2.2
    have T5 : Hid (TIs w5 n a5 c5 ib) := t5
    clear h5 t5
    go_wp2_with fail
    refine (CB.out w5 a5 c5 T5.out (HE.out.below (nxt B1.out (nxt B14.out B45.out)))).mono ?_
    rintro e w6 ⟨v6, H6, rfl, h6⟩
    obtain ⟨a6, c6, rfl, t6⟩ := CopyInv.tis h6 OB.out.2 OB.out.1
    have Q7 : Hid ((w6.alloc (.cells #[.int .i64 LB, .slice a6 iB.length c6] 26)).heap[w6.heap.size]? = some (.cells #[.int .i64 LB, .slice a6 iB.length c6] 26 (0, 0))) := heap_alloc_new _ _
    have B47 : Hid (Below W4.heap.size W4 (w6.alloc (.cells #[.int .i64 LB, .slice a6 iB.length c6] 26))) := nxt B45.out (nxt h6.2.2 (below_one _ _))
    have T7 : Hid (TIs (w6.alloc (.cells #[.int .i64 LB, .slice a6 iB.length c6] 26)) n a6 c6 iB) := t6.below (below_one _ _)
    clear h6 t6 T5 B45
    have N1 : Hid (_ ∧ _) := cells2 Q4.out B47.out
    obtain ⟨q0, q1⟩ := N1.out
    obtain ⟨r0, r1⟩ := cells2 Q7.out (Below.refl _ _)
    obtain ⟨p0, p1, p2, p3, -, -⟩ := two_cells2 (T1.out.below (nxt B14.out B47.out))
    simp only
    by_cases hA0 : eA = 0
    · by_cases hB0 : eB = 0
      · subst hA0 hB0
        obtain ⟨rfl, lA⟩ := GA.out rfl
        obtain ⟨rfl, lB⟩ := GB.out rfl
        have nA : (ia ++ nums S 0 l).length = ia.length + l.length := by rw [List.length_append, nums_length]
        have nB : (ib ++ nums S 0 l).length = ib.length + l.length := by rw [List.length_append, nums_length]
        have ATA : Hid (∀ m (h : m < l.length), ∀ h2, (ia ++ nums S 0 l)[ia.length + m]'h2 = (32 * S + m, l[m].1, l[m].2)) := fun m h h2 => added_at h h2
        have ATB : Hid (∀ m (h : m < l.length), ∀ h2, (ib ++ nums S 0 l)[ib.length + m]'h2 = (32 * S + m, l[m].1, l[m].2)) := fun m h h2 => added_at h h2
        have NA : Hid ((ia ++ nums S 0 l).length = ia.length + l.length) := nA
        have NB : Hid ((ib ++ nums S 0 l).length = ib.length + l.length) := nB
        clear nA nB BA BB GA GB CA CB OA OB N1
        generalize ia ++ nums S 0 l = iA at *
        generalize ib ++ nums S 0 l = iB at *
        have dA : ((iA.length : Int) != (ia.length : Int) + (l.length : Int)) = false := by have := NA.out; simp; omega
        have dB : ((iB.length : Int) != (ib.length : Int) + (l.length : Int)) = false := by have := NB.out; simp; omega
        go_wp2_with (go_at_call 18; refine (num_any _ _).mono ?_; rintro e w12 ⟨rfl, hw12⟩; subst w12)
        generalize w6.alloc (.cells #[.int .i64 LB, .slice a6 iB.length c6] 26) = W7 at *
        clear q0 q1 r0 r1 p0 p1 p2 p3
        go_loopw [13] (fun i wr => ∃ m : Nat, m ≤ l.length ∧ i = .int .i64 m ∧ Hid (Below W7.heap.size W7 wr)) (fun i _ => l.length - (intOf i).toNat)
        case atStart => exact ⟨0, Nat.zero_le _, rfl, Below.refl _ _⟩
        case round =>
          obtain ⟨m, hm, rfl, HW⟩ := hrel
          have K4 : Hid (Below W4.heap.size W4 wr) := nxt B47.out HW.out
          have K1 : Hid (Below W1.heap.size W1 wr) := nxt B14.out K4.out
          have K0 : Hid (Below w.heap.size w wr) := nxt B1.out K1.out
          by_cases hlt : m < l.length
          · have hm1 : (m : Int) < (l.length : Int) := by omega
            have hxa : ia.length + m < iA.length := by have := NA.out; omega
            have hxb : ib.length + m < iB.length := by have := NB.out; omega
            obtain ⟨xg, xo, xk, xb, xt, xka, xkl, xkc, xja, xjl, xjc, ex, x0, x1, x2, x3, x4, x5, x6, xl, -⟩ := (T4.out.below K4.out).at (ia.length + m) hxa
            obtain ⟨yg, yo, yk, yb, yt, yka, ykl, ykc, yja, yjl, yjc, ey, y0, y1, y2, y3, y4, y5, y6, -, -⟩ := (T7.out.below HW.out).at (ib.length + m) hxb
            obtain ⟨eg, eo, ek, eb, et, eka, ekl, ekc, eja, ejl, ejc, ee, f0, f1, f2, f3, f4, f5, fl, -⟩ := (HE.out.below K0.out).at m hlt
            rw [ATA.out m hlt hxa] at x0 x1 xl
            rw [ATB.out m hlt hxb] at y0 y1
            simp only at x0 x1 xl y0 y1
            obtain ⟨⟨nm, u⟩, hu⟩ : ∃ u : Ef n, l[m] = u := ⟨_, rfl⟩
            rw [hu] at x1 xl y1 f0 fl
            simp only at x1 xl y1 f0 fl
            obtain ⟨-, q1⟩ := cells2 Q4.out K4.out
            obtain ⟨-, r1⟩ := cells2 Q7.out HW.out
            obtain ⟨-, p1, -, p3, -, -⟩ := two_cells2 (T1.out.below K1.out)
            rw [ex] at q1
            rw [ey] at r1
            have HS : Hid (∀ W', Below wr.heap.size wr W' → (W'.cell? ⟨w3.heap.size, 1, none⟩ = some (.slice (some ⟨xg, xo, none⟩) iA.length c3) ∧ W'.cell? ⟨w.heap.size, 1, none⟩ = some (.slice aa ia.length ca) ∧ W'.cell? ⟨w6.heap.size, 1, none⟩ = some (.slice (some ⟨yg, yo, none⟩) iB.length c6) ∧ W'.cell? ⟨w.heap.size + 1, 1, none⟩ = some (.slice ab ib.length cb) ∧ W'.cell? ⟨xg, xo + (ia.length + m) * 7, none⟩ = some (.int .i64 (32 * S + (m : Int))) ∧ W'.cell? ⟨xg, xo + (ia.length + m) * 7 + 1, none⟩ = some (.string nm) ∧ W'.cell? ⟨xg, xo + (ia.length + m) * 7 + 2, none⟩ = some (.int .i64 xk) ∧ W'.cell? ⟨xg, xo + (ia.length + m) * 7 + 3, none⟩ = some (.int .u64 xb) ∧ W'.cell? ⟨xg, xo + (ia.length + m) * 7 + 4, none⟩ = some (.string xt) ∧ W'.cell? ⟨xg, xo + (ia.length + m) * 7 + 5, none⟩ = some (.slice xka xkl xkc) ∧ W'.cell? ⟨xg, xo + (ia.length + m) * 7 + 6, none⟩ = some (.slice xja xjl xjc) ∧ W'.cell? ⟨yg, yo + (ib.length + m) * 7, none⟩ = some (.int .i64 (32 * S + (m : Int))) ∧ W'.cell? ⟨yg, yo + (ib.length + m) * 7 + 1, none⟩ = some (.string nm) ∧ W'.cell? ⟨yg, yo + (ib.length + m) * 7 + 2, none⟩ = some (.int .i64 yk) ∧ W'.cell? ⟨yg, yo + (ib.length + m) * 7 + 3, none⟩ = some (.int .u64 yb) ∧ W'.cell? ⟨yg, yo + (ib.length + m) * 7 + 4, none⟩ = some (.string yt) ∧ W'.cell? ⟨yg, yo + (ib.length + m) * 7 + 5, none⟩ = some (.slice yka ykl ykc) ∧ W'.cell? ⟨yg, yo + (ib.length + m) * 7 + 6, none⟩ = some (.slice yja yjl yjc))) := fun W' h => ⟨keepc h _ _ q1, keepc h _ _ p1, keepc h _ _ r1, keepc h _ _ p3, keepc h _ _ x0, keepc h _ _ x1, keepc h _ _ x2, keepc h _ _ x3, keepc h _ _ x4, keepc h _ _ x5, keepc h _ _ x6, keepc h _ _ y0, keepc h _ _ y1, keepc h _ _ y2, keepc h _ _ y3, keepc h _ _ y4, keepc h _ _ y5, keepc h _ _ y6⟩
            have HXL : Hid (Lay wr n (mk xk xb xt xka xkl xkc xja xjl xjc) u) := xl
            have HFL : Hid (Lay wr n (mk ek eb et eka ekl ekc eja ejl ejc) u) := fl
            have HF : Hid (∀ W', Below wr.heap.size wr W' → (W'.cell? ⟨eg, eo + m * 6, none⟩ = some (.string nm) ∧ W'.cell? ⟨eg, eo + m * 6 + 1, none⟩ = some (.int .i64 ek) ∧ W'.cell? ⟨eg, eo + m * 6 + 2, none⟩ = some (.int .u64 eb) ∧ W'.cell? ⟨eg, eo + m * 6 + 3, none⟩ = some (.string et) ∧ W'.cell? ⟨eg, eo + m * 6 + 4, none⟩ = some (.slice eka ekl ekc) ∧ W'.cell? ⟨eg, eo + m * 6 + 5, none⟩ = some (.slice eja ejl ejc))) := fun W' h => ⟨keepc h _ _ f0, keepc h _ _ f1, keepc h _ _ f2, keepc h _ _ f3, keepc h _ _ f4, keepc h _ _ f5⟩
            have lA2 : ia.length ≤ 256 := by omega
            have lB2 : ib.length ≤ 256 := by omega
            have hm3 : m < 256 := by omega
            have hxa1 : (ia.length : Int) + (m : Int) < (iA.length : Int) := by omega
            have hxb1 : (ib.length : Int) + (m : Int) < (iB.length : Int) := by omega
            have j1 : IntKind.i64.wrap ((ia.length : Int) + (m : Int)) = (ia.length : Int) + (m : Int) := by rw [IntKind.wrap_i64]; omega
            have j2 : IntKind.i64.wrap ((ib.length : Int) + (m : Int)) = (ib.length : Int) + (m : Int) := by rw [IntKind.wrap_i64]; omega
            have j3 : ((ia.length : Int) + (m : Int)).toNat = ia.length + m := by omega
            have j4 : ((ib.length : Int) + (m : Int)).toNat = ib.length + m := by omega
            have j5 : 0 ≤ (ia.length : Int) + (m : Int) := by omega
            have j6 : 0 ≤ (ib.length : Int) + (m : Int) := by omega
            clear x0 x1 x2 x3 x4 x5 x6 xl y0 y1 y2 y3 y4 y5 y6 f0 f1 f2 f3 f4 f5 fl q1 r1 p1 p3 hu hxa hxb
            subst ex ey ee
            go_upto_region 14 with fail
            go_cut [14, 15] (fun v14 v15 wc => ∃ P Q, v14 = .pointer (some ⟨P, 0, none⟩) ∧ v15 = .pointer (some ⟨Q, 0, none⟩) ∧ Hid (wc.heap[P]? = some (.cells #[.int .i64 (32 * S + (m : Int)), .string nm, .int .i64 xk, .int .u64 xb, .string xt, .slice xka xkl xkc, .slice xja xjl xjc] 70 (0, 0))) ∧ Hid (wc.heap[Q]? = some (.cells #[.int .i64 (32 * S + (m : Int)), .string nm, .int .i64 yk, .int .u64 yb, .string yt, .slice yka ykl ykc, .slice yja yjl yjc] 70 (0, 0))) ∧ Hid (Below wr.heap.size wr wc))
            case first =>
              go_region_held3 (fun W' => W'.cell? ⟨w3.heap.size, 1, none⟩ = some (.slice (some ⟨xg, xo, none⟩) iA.length c3) ∧ W'.cell? ⟨w.heap.size, 1, none⟩ = some (.slice aa ia.length ca) ∧ W'.cell? ⟨w6.heap.size, 1, none⟩ = some (.slice (some ⟨yg, yo, none⟩) iB.length c6) ∧ W'.cell? ⟨w.heap.size + 1, 1, none⟩ = some (.slice ab ib.length cb) ∧ W'.cell? ⟨xg, xo + (ia.length + m) * 7, none⟩ = some (.int .i64 (32 * S + (m : Int))) ∧ W'.cell? ⟨xg, xo + (ia.length + m) * 7 + 1, none⟩ = some (.string nm) ∧ W'.cell? ⟨xg, xo + (ia.length + m) * 7 + 2, none⟩ = some (.int .i64 xk) ∧ W'.cell? ⟨xg, xo + (ia.length + m) * 7 + 3, none⟩ = some (.int .u64 xb) ∧ W'.cell? ⟨xg, xo + (ia.length + m) * 7 + 4, none⟩ = some (.string xt) ∧ W'.cell? ⟨xg, xo + (ia.length + m) * 7 + 5, none⟩ = some (.slice xka xkl xkc) ∧ W'.cell? ⟨xg, xo + (ia.length + m) * 7 + 6, none⟩ = some (.slice xja xjl xjc) ∧ W'.cell? ⟨yg, yo + (ib.length + m) * 7, none⟩ = some (.int .i64 (32 * S + (m : Int))) ∧ W'.cell? ⟨yg, yo + (ib.length + m) * 7 + 1, none⟩ = some (.string nm) ∧ W'.cell? ⟨yg, yo + (ib.length + m) * 7 + 2, none⟩ = some (.int .i64 yk) ∧ W'.cell? ⟨yg, yo + (ib.length + m) * 7 + 3, none⟩ = some (.int .u64 yb) ∧ W'.cell? ⟨yg, yo + (ib.length + m) * 7 + 4, none⟩ = some (.string yt) ∧ W'.cell? ⟨yg, yo + (ib.length + m) * 7 + 5, none⟩ = some (.slice yka ykl ykc) ∧ W'.cell? ⟨yg, yo + (ib.length + m) * 7 + 6, none⟩ = some (.slice yja yjl yjc)) ((first | exact HS.out _ (Below.refl _ _).drew | exact HS.out _ (below_one _ _).drew | exact HS.out _ (below_two _ _ _).drew)) (fail)
              all_goals
                go_wp2_with fail
                go_meet
                first
                  | exact ⟨wr.heap.size, wr.heap.size + 1, rfl, rfl, (Below.heap_alloc _ _ _ (by simp)).trans (heap_alloc_new _ _), heap_new2 _ _ _, (below_two _ _ _).drew⟩
                  | exact ⟨wr.heap.size + 1, wr.heap.size, rfl, rfl, heap_new2 _ _ _, (Below.heap_alloc _ _ _ (by simp)).trans (heap_alloc_new _ _), (below_two _ _ _).drew⟩
            case rest =>
              obtain ⟨P, Q, rfl, rfl, XP, XQ, BC⟩ := hcut
              have C1 : Hid (∀ s : Cls wc, Calls Try.prog 31 #[mk xk xb xt xka xkl xkc xja xjl xjc, mk ek eb et eka ekl ekc eja ejl ejc] s.1 fun e w' => e = .returned (.bool true) ∧ Below s.1.heap.size s.1 w') := fun s => by
                have := same_any n u u _ _ s.1 (Lay.below n HXL.out (nxt BC.out s.2)) (Lay.below n HFL.out (nxt BC.out s.2))
                rwa [one_true rfl] at this
              obtain ⟨z0, z1, z2, z3, z4, z5, z6⟩ := box7 XP.out
              obtain ⟨v0, -⟩ := box7 XQ.out
              have a0 : ∀ s : Cls wc, s.1.cell? ⟨P, 0, none⟩ = some (.int .i64 (32 * S + (m : Int))) := fun s => Cls.cell z0 s
              have a1 : ∀ s : Cls wc, s.1.cell? ⟨P, 1, none⟩ = some (.string nm) := fun s => Cls.cell z1 s
              have a2 : ∀ s : Cls wc, s.1.cell? ⟨P, 2, none⟩ = some (.int .i64 xk) := fun s => Cls.cell z2 s
              have a3 : ∀ s : Cls wc, s.1.cell? ⟨P, 3, none⟩ = some (.int .u64 xb) := fun s => Cls.cell z3 s
              have a4 : ∀ s : Cls wc, s.1.cell? ⟨P, 4, none⟩ = some (.string xt) := fun s => Cls.cell z4 s
              have a5 : ∀ s : Cls wc, s.1.cell? ⟨P, 5, none⟩ = some (.slice xka xkl xkc) := fun s => Cls.cell z5 s
              have a6 : ∀ s : Cls wc, s.1.cell? ⟨P, 6, none⟩ = some (.slice xja xjl xjc) := fun s => Cls.cell z6 s
              have b0 : ∀ s : Cls wc, s.1.cell? ⟨Q, 0, none⟩ = some (.int .i64 (32 * S + (m : Int))) := fun s => Cls.cell v0 s
              have e0 : ∀ s : Cls wc, s.1.cell? ⟨eg, eo + m * 6, none⟩ = some (.string nm) := fun s => (HF.out _ (nxt BC.out s.2)).1
              have e1 : ∀ s : Cls wc, s.1.cell? ⟨eg, eo + m * 6 + 1, none⟩ = some (.int .i64 ek) := fun s => (HF.out _ (nxt BC.out s.2)).2.1
              have e2 : ∀ s : Cls wc, s.1.cell? ⟨eg, eo + m * 6 + 2, none⟩ = some (.int .u64 eb) := fun s => (HF.out _ (nxt BC.out s.2)).2.2.1
              have e3 : ∀ s : Cls wc, s.1.cell? ⟨eg, eo + m * 6 + 3, none⟩ = some (.string et) := fun s => (HF.out _ (nxt BC.out s.2)).2.2.2.1
              have e4 : ∀ s : Cls wc, s.1.cell? ⟨eg, eo + m * 6 + 4, none⟩ = some (.slice eka ekl ekc) := fun s => (HF.out _ (nxt BC.out s.2)).2.2.2.2.1
              have e5 : ∀ s : Cls wc, s.1.cell? ⟨eg, eo + m * 6 + 5, none⟩ = some (.slice eja ejl ejc) := fun s => (HF.out _ (nxt BC.out s.2)).2.2.2.2.2
              have inst : Nonempty (Cls wc) := ⟨⟨_, Below.refl _ _⟩⟩
              have n1 : IntKind.i64.wrap (32 * S) = 32 * S := by rw [IntKind.wrap_i64]; omega
              have n2 : IntKind.i64.wrap (32 * S + (m : Int)) = 32 * S + (m : Int) := by rw [IntKind.wrap_i64]; omega
              clear z0 z1 z2 z3 z4 z5 z6 v0 j1 j2 j3 j4 j5 j6 hxa1 hxb1
              go_wp2_with fail
              refine wp_region_cls (by kernel_rfl) (by kernel_rfl) ?_
              repeat (go_big_quiet_step ((go_at_call 31; exact Calls.cls (C1.out _))))
              refine wpQuiet_nil ?_
              intro _ hw'
              obtain ⟨sx, hw''⟩ := hw'
              subst hw''
              have KS : Hid (Below W7.heap.size W7 sx.1) := nxt HW.out (nxt BC.out sx.2)
              go_wp2_with fail
              go_roundw
              case rel => exact ⟨m + 1, by omega, by go_num, KS.out⟩
              case measure => simp [intOf]; omega
          · go_wp2_with fail
            go_ret
            exact ⟨rfl, K0.out⟩
      · obtain rfl := BB.out hB0
        subst hA0
        have hd3 : (eB == 0) = false := by simpa using hB0
        have hd4 : (eB != 0) = true := by simpa using hB0
        have BF : Hid (Below w.heap.size w (w6.alloc (.cells #[.int .i64 LB, .slice a6 ([] : List (Tm n)).length c6] 26))) := nxt B1.out (nxt B14.out B47.out)
        simp only [List.length_nil] at q1 r1 BF ⊢
        clear hB0
        by_cases hz : iA.length = 0
        · have d0 : ((iA.length : Int) == 0) = true := by rw [hz]; rfl
          go_wp2_with (go_at_call 18; refine (num_any _ _).mono ?_; rintro e w12 ⟨rfl, hw12⟩; subst w12)
          go_ret
          exact ⟨ret_bool (by simp), BF.out⟩
        · have d0 : ((iA.length : Int) == 0) = false := beq_eq_false_iff_ne.2 (by omega)
          go_wp2_with (go_at_call 18; refine (num_any _ _).mono ?_; rintro e w12 ⟨rfl, hw12⟩; subst w12)
          go_ret
          exact ⟨ret_bool (by simp), BF.out⟩
    · obtain rfl := BA.out hA0
      have hd3 : (eA == 0) = false := by simpa using hA0
      have hd4 : (eA != 0) = true := by simpa using hA0
      have BF : Hid (Below w.heap.size w (w6.alloc (.cells #[.int .i64 LB, .slice a6 iB.length c6] 26))) := nxt B1.out (nxt B14.out B47.out)
      simp only [List.length_nil] at q1 ⊢
      clear hA0
      go_wp2_with (go_at_call 18; refine (num_any _ _).mono ?_; rintro e w12 ⟨rfl, hw12⟩; subst w12)
      go_ret
      exact ⟨ret_bool (by simp), BF.out⟩

set_option maxRecDepth 100000 in
set_option maxHeartbeats 1600000 in
theorem lifted (os : Os) (started : os.Started) (H : Type) (enc : TypeId × Value → H) :
    ReturnsInHanded {} Try.checked os 6 .any (Rows.outboxNumbersSpec.pre6 enc Try.prog Try.f6 Rows.outboxNumbersRow.domain false) (Rows.outboxNumbersSpec.post enc Try.prog Try.f6 false true false false) := by
  refine returnsInHanded_of_change_sized (C := Try.checked) Try.own started (by kernel_rfl) Try.func6
    (ChangeSpec.witness6 (enc := enc) (C := Try.checked) false ⟨#[], #[.agg #[.int .i64 0, .slice none 0 0], .agg #[.int .i64 0, .slice none 0 0], .slice none 0 0], []⟩ 8 (by kernel_rfl) (by kernel_rfl) (by kernel_rfl) (by kernel_rfl)) ?_
  intro W base args ds gs before hval0 hW _ hsz0 _
  have hsz : (DataW.weightsEach Try.prog (Try.f6.params.toList ++ Rows.outboxNumbersSpec.plain.varTypes Try.prog) (ds ++ gs)).all (· ≤ reachBytes) = true := hsz0
  have hval : ∀ (j : Nat) t v, Try.f6.params[j]? = some t → args[j]? = some v → Value.okWide Try.prog W .any base t v := hval0
  have hW' := hW
  obtain ⟨p, q, hA0, hV, rfl, hfz, hnd⟩ := hW
  have hA : DataW.TrodAll enc Try.prog W 0 (fun _ => true) true Try.f6.params.toList args.toList ds p := hA0
  rw [Try.params6] at hA hval hsz
  obtain ⟨v0, vs0, d0, ds0, p0, q0, hargs, rfl, rfl, h0, r0⟩ := trodAll_cons hA
  obtain ⟨v1, vs1, d1, ds1, p1, q1, rfl, rfl, rfl, h1, r1⟩ := trodAll_cons r0
  obtain ⟨v2, vs2, d2, ds2, p2, q2, rfl, rfl, rfl, h2, r2⟩ := trodAll_cons r1
  obtain ⟨rfl, rfl, rfl⟩ := trodAll_nil r2
  obtain rfl : args = #[v0, v1, v2] := by cases args; simp_all
  obtain ⟨rfl, rfl⟩ := trodVars_none hV
  clear hA0 hval0
  simp only [List.append_nil] at hW' hsz
  have hlt : ∀ x ∈ p0 ++ p1 ++ p2, x.block < W.heap.size := fun x hx => hW'.lt x (by simpa using hx)
  have hall : ∀ x ∈ DataW.weightsEach Try.prog [24, 24, 25] [d0, d1, d2], x ≤ reachBytes := fun x hx => of_decide_eq_true (List.all_eq_true.1 hsz x hx)
  have g0 : ∀ x ∈ d0.weights Try.prog 24, x ≤ reachBytes := fun x hx => hall x (DataW.weights_mem_each (j := 0) rfl rfl x hx)
  obtain ⟨u0, l0⟩ := box_of_arg (k := SizeOf.sizeOf d0 + SizeOf.sizeOf d1 + SizeOf.sizeOf d2) (hval 0 _ v0 rfl rfl) h0 (by omega) g0
  have g1 : ∀ x ∈ d1.weights Try.prog 24, x ≤ reachBytes := fun x hx => hall x (DataW.weights_mem_each (j := 1) rfl rfl x hx)
  obtain ⟨u1, l1⟩ := box_of_arg (k := SizeOf.sizeOf d0 + SizeOf.sizeOf d1 + SizeOf.sizeOf d2) (hval 1 _ v1 rfl rfl) h1 (by omega) g1
  have g2 : ∀ x ∈ d2.weights Try.prog 25, x ≤ reachBytes := fun x hx => hall x (DataW.weights_mem_each (j := 2) rfl rfl x hx)
  obtain ⟨u2, l2⟩ := effs_of_arg (k := SizeOf.sizeOf d0 + SizeOf.sizeOf d1 + SizeOf.sizeOf d2) (hval 2 _ v2 rfl rfl) h2 (by omega) g2
  refine (walk _ u0 v0 u1 v1 u2 v2 W l0 l1 l2).mono fun e W' ⟨he, bel⟩ => ?_
  subst he
  exact ⟨_, rfl, _, _, _, [], _, [], hW', trodAll_mk1 (shut_bool Try.underlying4 _), (trodAll_cons_mk (Below.trod Try.laidOut (by kernel_rfl) (of_decide_eq_true (by kernel_rfl)) h0 bel (fun x hx => hlt x (by simp [hx]))) (trodAll_cons_mk (Below.trod Try.laidOut (by kernel_rfl) (of_decide_eq_true (by kernel_rfl)) h1 bel (fun x hx => hlt x (by simp [hx]))) (trodAll_cons_mk (Below.trod Try.laidOut (by kernel_rfl) (of_decide_eq_true (by kernel_rfl)) h2 bel (fun x hx => hlt x (by simp [hx]))) trodAll_mk0))), rfl, bel.frame _, fun h => by cases h⟩

theorem over : Rows.outboxNumbersRow.holds Try.pinned (OpenSpec.ofChange Rows.outboxNumbersSpec) :=
  OpenClaim.holds_of_wide 6 Try.f6 rfl rfl rfl rfl rfl rfl rfl ⟨rfl, rfl, rfl, rfl, rfl⟩ rfl rfl rfl rfl rfl (by kernel_rfl) Try.func6 (by kernel_rfl)
    (of_decide_eq_true (by kernel_rfl)) (by unfold Func.isWrapper; first | (rw [if_pos (by decide +kernel)]; kernel_rfl) | (rw [if_neg (by decide +kernel)]; exact ⟨rfl, rfl⟩))
    (fun os started H enc _ => lifted os started H enc)

/-- THE STATEMENT. -/
theorem proved : Rows.OutboxNumbersSaid := over
#print axioms proved
end Go.Proofs.Ytpeghhkhohnkiaa.outboxNumbers
