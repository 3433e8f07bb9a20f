/-
  The page's walk, Check, Size.
-/
import Derived.Test.YtomhfndjnbhliaaTrSize
namespace Go.Proofs.Ytomhfndjnbhliaa
open Go.ChangeShapes Go.WideShapes Go.ChangeAt Go.RowKit

/-- Where the page's loop over the kids stands. -/
def RwInv {n : Nat} (w wr : World) (L c m : Nat) (its : List (T n)) (d' : Nat) (c' : Nat) (o : Obj) : Prop :=
  wkK (fun u c' => wk u (L + 1) c') (its.take m) (c + 1) L = (0, c', d') ∧ wr.heap[w.heap.size]? = some o ∧ Below w.heap.size w wr

theorem ret3 {a b c a' b' c' : Int} (h : (a, b, c) = (a', b', c')) : Ending.returned (.tuple #[.int .i64 a, .int .i64 b, .int .i64 c]) = .returned (.tuple #[.int .i64 a', .int .i64 b', .int .i64 c']) := by
  simp only [Prod.mk.injEq] at h
  obtain ⟨rfl, rfl, rfl⟩ := h
  rfl

set_option maxRecDepth 100000 in
set_option maxHeartbeats 6400000 in
theorem rwalk_any (n : Nat) : ∀ (v : T n) (x : Value) (c L : Nat) (w : World), LayT w n x v → c ≤ 256 → L ≤ 9 →
    Calls Try.prog 47 #[x, .int .i64 L, .int .i64 c] w fun e w' => e = .returned (.tuple #[.int .i64 ((wk v L c).2.1 : Int), .int .i64 ((wk v L c).2.2 : Int), .int .i64 (wk v L c).1]) ∧ Below w.heap.size w w' := by
  induction n with
  | zero => intro v; exact v.elim
  | succ n ih =>
    rintro ⟨g, k, t, ats, its⟩ x c L w ⟨aa, ac, ia, ic, rfl, hfit, nk, ni, hA, hI⟩ hc hL
    obtain ⟨hg1, hk1, ht1, -, -, ha1, -, -, hi1⟩ := hfit
    have HI : Hid (LayI w (LayT w n) ia its) := hI
    have C1 : Hid (∀ W, Below w.heap.size w W → Calls Try.prog 41 #[.string g, .string k, .string t, .slice aa ats.length ac] W fun e w' => e = .returned (.bool (plainB g k t ats)) ∧ Below W.heap.size W w') := fun W h => rplain_any g k t ats aa ac its.length W (hA.below h) ⟨hg1, hk1, ht1, ha1, hi1⟩
    have C2 : Hid (∀ W, Below w.heap.size w W → Calls Try.prog 70 #[.slice ia its.length ic] W fun e w' => e = .returned (.bool (twB (keysT its))) ∧ Below W.heap.size W w') := fun W h => rtwice_any its ia ic W (LayI.below hI h) hi1
    have IH : Hid (∀ (v : T n) (x : Value) (c L : Nat) (w : World), LayT w n x v → c ≤ 256 → L ≤ 9 →
      Calls Try.prog 47 #[x, .int .i64 L, .int .i64 c] w fun e w' => e = .returned (.tuple #[.int .i64 ((wk v L c).2.1 : Int), .int .i64 ((wk v L c).2.2 : Int), .int .i64 (wk v L c).1]) ∧ Below w.heap.size w w') := ih
    have HR : Hid (wk (n := n + 1) (g, k, t, ats, its) L c = _) := wk_node g k t ats its L c
    generalize wk (n := n + 1) (g, k, t, ats, its) L c = R at *
    clear ih hA hI nk ni
    by_cases h1 : 8 < L
    · have E : Hid (R = (10, c, L)) := by show _ = _; rw [HR.out, if_pos h1]
      rw [E.out]
      go_enter Try.func47, Try.ntmps47
      go_wp2_with fail
      go_ret3
      exact ⟨rfl, below_one _ _⟩
    · by_cases h2 : 256 ≤ c
      · have E : Hid (R = (3, c, L)) := by show _ = _; rw [HR.out, if_neg h1, if_pos h2]
        rw [E.out]
        go_enter Try.func47, Try.ntmps47
        go_wp2_with fail
        go_ret3
        exact ⟨rfl, below_one _ _⟩
      · have hR2 := HR.out
        rw [if_neg h1, if_neg h2] at hR2
        have HR2 : Hid (R = _) := hR2
        clear hR2 HR
        have B0 : Hid (Below w.heap.size w (w.alloc (.cells #[.string g, .string k, .string t, .slice aa ats.length ac, .slice ia its.length ic] 25))) := below_one _ _
        have HNT : Hid (g.size = 0 → nodeB g k t ats its.length = (plainB g k t ats && ((its.length : Int) == 0))) := nodeB_text'
        have HNE : Hid (¬ g.size = 0 → nodeB g k t ats its.length = (plainB g k t ats && decide ((its.length : Int) ≤ 16))) := nodeB_elem'
        generalize nodeB g k t ats its.length = nb at *
        generalize plainB g k t ats = pb at *
        have bad : nb = false → R = (9, c, L) := fun e => by rw [HR2.out, if_pos e]
        have HBAD : Hid (nb = false → R = (9, c, L)) := bad
        clear bad
        cases pb
        · have E : Hid (R = (9, c, L)) := HBAD.out (by
            by_cases h0 : g.size = 0
            · rw [HNT.out h0, Bool.false_and]
            · rw [HNE.out h0, Bool.false_and])
          rw [E.out]
          go_enter Try.func47, Try.ntmps47
          go_wp2_with (go_at_call 41; refine (C1.out _ B0.out).mono ?_; rintro e w3 ⟨rfl, hb3⟩; obtain ⟨y0, y1, y2, y3, y4, -⟩ := box_cells (boxed hb3))
          go_ret3
          exact ⟨rfl, nxt B0.out hb3⟩
        · by_cases h3 : 16 < its.length
          · have d3 : decide (16 < (its.length : Int)) = true := by simp; omega
            have E : Hid (R = (9, c, L)) := HBAD.out (by
              by_cases h0 : g.size = 0
              · rw [HNT.out h0, Bool.true_and, beq_eq_false_iff_ne]; omega
              · rw [HNE.out h0, Bool.true_and]; simp; omega)
            rw [E.out]
            go_enter Try.func47, Try.ntmps47
            go_wp2_with (go_at_call 41; refine (C1.out _ B0.out).mono ?_; rintro e w3 ⟨rfl, hb3⟩; obtain ⟨y0, y1, y2, y3, y4, -⟩ := box_cells (boxed hb3))
            go_ret3
            exact ⟨rfl, nxt B0.out hb3⟩
          · have d3 : decide (16 < (its.length : Int)) = false := by simp; omega
            by_cases h4 : g.size = 0 ∧ 0 < its.length
            · have d0 := empty_true h4.1
              have d4 : decide (0 < (its.length : Int)) = true := by simp; omega
              have E : Hid (R = (9, c, L)) := HBAD.out (by rw [HNT.out h4.1, Bool.true_and, beq_eq_false_iff_ne]; omega)
              rw [E.out]
              go_enter Try.func47, Try.ntmps47
              go_wp2_with (go_at_call 41; refine (C1.out _ B0.out).mono ?_; rintro e w3 ⟨rfl, hb3⟩; obtain ⟨y0, y1, y2, y3, y4, -⟩ := box_cells (boxed hb3))
              go_ret3
              exact ⟨rfl, nxt B0.out hb3⟩
            · have hnb : nb = true := by
                by_cases h0 : g.size = 0
                · rw [HNT.out h0, Bool.true_and, len_is, decide_eq_true (by omega)]
                · rw [HNE.out h0, Bool.true_and, decide_eq_true (by omega)]
              have hR3 := HR2.out
              rw [if_neg (by rw [hnb]; decide)] at hR3
              have HR3 : Hid (R = _) := hR3
              clear hR3 HR2 hnb HBAD HNT HNE
              generalize twB (keysT its) = tb at *
              go_enter Try.func47, Try.ntmps47
              go_upto_region 5 with fail
              go_cut [24] (fun v wc => v = .bool false ∧ Hid (wc.heap[w.heap.size]? = some (.cells #[.string g, .string k, .string t, .slice aa ats.length ac, .slice ia its.length ic] 25)) ∧ Hid (Below w.heap.size w wc))
              case first =>
                by_cases h0 : g.size = 0
                · have d0 := empty_true h0
                  have d4 : decide (0 < (its.length : Int)) = false := decide_eq_false (by omega)
                  go_wp2_with (go_at_call 41; refine (C1.out _ B0.out).mono ?_; rintro e w3 ⟨rfl, hb3⟩; obtain ⟨y0, y1, y2, y3, y4, -⟩ := box_cells (boxed hb3))
                  go_meet
                  exact ⟨by first | rfl | rw [decide_eq_false (by omega)], boxed hb3, nxt B0.out hb3⟩
                · have d0 := empty_false h0
                  go_wp2_with (go_at_call 41; refine (C1.out _ B0.out).mono ?_; rintro e w3 ⟨rfl, hb3⟩; obtain ⟨y0, y1, y2, y3, y4, -⟩ := box_cells (boxed hb3))
                  go_meet
                  exact ⟨rfl, boxed hb3, nxt B0.out hb3⟩
              case rest =>
                obtain ⟨rfl, HX, HB⟩ := hcut
                obtain ⟨y0, y1, y2, y3, y4, -⟩ := box_cells HX.out
                clear C1 B0 h4 d3
                cases tb
                · have E : Hid (R = wkK (fun u c' => wk u (L + 1) c') its (c + 1) L) := by show _ = _; rw [HR3.out, if_neg (by decide)]
                  go_wp2_with (go_at_call 70; refine (C2.out _ HB.out).mono ?_; rintro e w4 ⟨rfl, hb4⟩)
                  have HX4 : Hid (w4.heap[w.heap.size]? = some (.cells #[.string g, .string k, .string t, .slice aa ats.length ac, .slice ia its.length ic] 25)) := (hb4.block _ (lt_of_block HX.out)).trans HX.out
                  have HB4 : Hid (Below w.heap.size w w4) := nxt HB.out hb4
                  clear hb4 y0 y1 y2 y3 y4 HX HB HR3 C2
                  go_loopw [2, 9, 10] (fun u2 u9 u10 wr => ∃ m c' d' : Nat, m ≤ its.length ∧ u10 = .int .i64 m ∧ u2 = .int .i64 c' ∧ u9 = .int .i64 d' ∧ c' ≤ 256 ∧ d' ≤ 9 ∧ Hid (RwInv w wr L c m its d' c' (.cells #[.string g, .string k, .string t, .slice aa ats.length ac, .slice ia its.length ic] 25))) (fun _ _ i _ => its.length - (intOf i).toNat)
                  case atStart => exact ⟨0, c + 1, L, Nat.zero_le _, rfl, by go_num, rfl, by omega, by omega, rfl, HX4.out, HB4.out⟩
                  case round =>
                    obtain ⟨m, c', d', hm, rfl, rfl, rfl, hc', hd', HV⟩ := hrel
                    obtain ⟨y0, y1, y2, y3, y4, -⟩ := box_cells HV.out.2.1
                    by_cases hlt : m < its.length
                    · obtain ⟨b, o, g1, k1, t1, aa1, al1, ac1, ja, jl, jc, rfl, q0, q1, q2, q3, q4, hl, -, -, -⟩ := (LayI.below HI.out HV.out.2.2).at m hlt
                      have hm1 : (m : Int) < (its.length : Int) := by omega
                      have hck := IH.out its[m] _ c' (L + 1) wr hl hc' (by omega)
                      have hL1 : (((L + 1 : Nat) : Nat) : Int) = (L : Int) + 1 := by omega
                      rw [hL1] at hck
                      have CK : Hid (Calls Try.prog 47 #[mkT g1 k1 t1 aa1 al1 ac1 ja jl jc, .int .i64 ((L : Int) + 1), .int .i64 c'] wr _) := hck
                      have HWK : Hid (_ = _) := wkK_take (f := fun u c' => wk u (L + 1) c') its m (c + 1) L hlt (by rw [HV.out.1])
                      have HO : Hid (_ ∧ _) := wk_ok n its[m] (L + 1) c' (by omega) hc'
                      have HW2 := HWK.out
                      rw [HV.out.1] at HW2
                      have HW3 : Hid (wkK (fun u c' => wk u (L + 1) c') (its.take (m + 1)) (c + 1) L = if (wk its[m] (L + 1) c').1 = 0 then (0, (wk its[m] (L + 1) c').2.1, max d' (wk its[m] (L + 1) c').2.2) else wk its[m] (L + 1) c') := HW2
                      clear HW2 HWK hck hl hL1
                      generalize wk its[m] (L + 1) c' = Rm at *
                      obtain ⟨em, cm, dm⟩ := Rm
                      by_cases hem : em = 0
                      · subst hem
                        have hmax : Hid ((if d' < dm then (dm : Int) else (d' : Int)) = ((max d' dm : Nat) : Int)) := by show _ = _; split <;> omega
                        go_wp2_with (refine CK.out.mono ?_; rintro e w5 ⟨rfl, hb5⟩; simp only)
                        have ho := HO.out
                        go_roundw
                        case rel =>
                          refine ⟨m + 1, cm, max d' dm, by omega, by go_num, rfl, by rw [← hmax.out], ho.1, by have := ho.2.2.1; simp only at this; omega, ?_, (hb5.block _ (lt_of_block HV.out.2.1)).trans HV.out.2.1, nxt HV.out.2.2 hb5⟩
                          have := HW3.out; rwa [if_pos rfl] at this
                        case measure => simp [intOf]; omega
                      · have hd1 : (em == 0) = false := by simpa using hem
                        have hd2 : (em != 0) = true := by simpa using hem
                        have hfin : Hid (R = (em, cm, dm)) := by
                          show _ = _
                          have h3 := HW3.out
                          rw [if_neg hem] at h3
                          rw [E.out, wkK_err its (m + 1) (c + 1) L (by rw [h3]; exact hem), h3]
                        clear hem
                        go_wp2_with (refine CK.out.mono ?_; rintro e w5 ⟨rfl, hb5⟩; simp only)
                        go_ret3
                        exact ⟨by rw [hfin.out]; rfl, nxt HV.out.2.2 hb5⟩
                    · have hme : m = its.length := by omega
                      subst hme
                      have hfin : Hid (R = (0, c', d')) := by
                        show _ = _
                        have := HV.out.1
                        rw [List.take_length] at this
                        rw [E.out, this]
                      go_wp2_with fail
                      go_ret3
                      exact ⟨by rw [hfin.out]; rfl, HV.out.2.2⟩
                · have E : Hid (R = (6, c, L)) := by show _ = _; rw [HR3.out, if_pos rfl]
                  go_wp2_with (go_at_call 70; refine (C2.out _ HB.out).mono ?_; rintro e w4 ⟨rfl, hb4⟩)
                  go_ret3
                  exact ⟨by rw [E.out]; rfl, nxt HB.out hb4⟩

theorem sizeT_is {n : Nat} (v : T (n + 1)) : sizeT v = if v.1.size = 0 then (9, 0, 0) else if (wk v 1 0).1 = 0 then wk v 1 0 else ((wk v 1 0).1, 0, 0) := rfl

theorem size_check {n : Nat} (v : T (n + 1)) : (sizeT v).1 = if v.1.size = 0 then 9 else (wk v 1 0).1 := by
  rw [sizeT_is]
  by_cases h : v.1.size = 0
  · rw [if_pos h, if_pos h]
  · rw [if_neg h, if_neg h]
    by_cases h2 : (wk v 1 0).1 = 0
    · rw [if_pos h2]
    · rw [if_neg h2]

set_option maxRecDepth 100000 in
set_option maxHeartbeats 1600000 in
theorem rcheck_any (n : Nat) (v : T n) (x : Value) (w : World) (hv : LayT w n x v) :
    Calls Try.prog 23 #[x] w fun e w' => e = .returned (.int .i64 (sizeT v).1) ∧ Below w.heap.size w w' := by
  cases n with
  | zero => exact v.elim
  | succ n =>
    have HV : Hid (LayT w (n + 1) x v) := hv
    have HS : Hid ((sizeT v).1 = if v.1.size = 0 then 9 else (wk v 1 0).1) := size_check v
    have CW : Hid (∀ w1, Below w.heap.size w w1 → Calls Try.prog 47 #[x, .int .i64 1, .int .i64 0] w1 fun e w' => e = .returned (.tuple #[.int .i64 ((wk v 1 0).2.1 : Int), .int .i64 ((wk v 1 0).2.2 : Int), .int .i64 (wk v 1 0).1]) ∧ Below w1.heap.size w1 w') :=
      fun w1 h1 => rwalk_any (n + 1) v x 0 1 w1 (hv.below _ h1) (by omega) (by omega)
    generalize wk v 1 0 = R at *
    generalize (sizeT v).1 = S at *
    obtain ⟨g, k, t, ats, its⟩ := v
    obtain ⟨aa, ac, ia, ic, rfl, -⟩ := hv
    have HS2 : Hid (S = if g.size = 0 then 9 else R.1) := HS.out
    clear HS HV
    by_cases h0 : g.size = 0
    · have d0 := empty_true h0
      have E : Hid (S = 9) := by show _ = _; rw [HS2.out, if_pos h0]
      rw [E.out]
      go_enter Try.func23, Try.ntmps23
      go_wp2_with fail
      go_ret
      exact ⟨rfl, below_one _ _⟩
    · have d0 := empty_false h0
      have E : Hid (S = R.1) := by show _ = _; rw [HS2.out, if_neg h0]
      rw [E.out]
      clear E HS2 h0
      go_enter Try.func23, Try.ntmps23
      go_wp2_with (go_at_call 47; refine (CW.out _ (below_one _ _)).mono ?_; rintro e w1 ⟨rfl, hb1⟩)
      go_ret
      exact ⟨rfl, nxt (below_one _ _) hb1⟩

end Go.Proofs.Ytomhfndjnbhliaa
