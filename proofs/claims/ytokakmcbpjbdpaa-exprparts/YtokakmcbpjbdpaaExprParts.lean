/-
  ExprParts: for every expression: each part of one that may be, may be, and is less deep; they are as many together, with itself, as it has; of one that may not be no size is told. No condition.
-/
import Derived.Test.YtokakmcbpjbdpaaExSum
namespace Go.Proofs.Ytokakmcbpjbdpaa.exprParts
open Go.ChangeShapes Go.WideShapes Go.ChangeAt Go.RowKit Go.Deep

set_option maxRecDepth 100000 in
set_option maxHeartbeats 6400000 in
theorem walk (n : Nat) (v : X n) (x : Value) (w : World) (hv : LayX w n x v) :
    Calls Try.prog 6 #[x] w fun e w' => e = .returned (.bool true) ∧ Below w.heap.size w w' := by
  cases n with
  | zero => exact v.elim
  | succ n =>
    have HO : Hid (∀ W, Below w.heap.size w W → Calls Try.prog 9 #[x] W fun e w' => ∃ y F, e = .returned y ∧ OwnX 29 w' (n + 1) y v F ∧ (∀ b, F b → W.heap.size ≤ b ∧ b < w'.heap.size) ∧ Below W.heap.size W w') := fun W hb => ofX_any (n + 1) v x W (LayX.below _ hv hb)
    have HS : Hid (∀ W y, LayX W (n + 1) y v → Calls Try.prog 11 #[y] W fun e w' => e = .returned (.tuple #[.int .i64 (msrX (pre stM (n + 1) v 1 (0, 0))).1, .int .i64 (msrX (pre stM (n + 1) v 1 (0, 0))).2.1, .int .i64 (msrX (pre stM (n + 1) v 1 (0, 0))).2.2]) ∧ Below W.heap.size W w') := fun W y h => sizeX_any (n + 1) v y W h
    obtain ⟨k, b, t, its⟩ := v
    have HNX : Hid (∀ (c : Nat) (d : Int), pre stM (n + 1) (k, b, t, its) 1 (0, 0) = .ok (c, d) → ∀ (m : Nat) (hm : m < its.length) (sum : Nat) (e : Int), foldX (fun u s => pre stM n u 2 s) (its.take m) (1, 1) = .ok (sum, e) →
        ∃ c' e', pre stM n its[m] 1 (0, 0) = .ok (c', e') ∧ e' < d ∧ sum + c' ≤ 64 ∧ foldX (fun u s => pre stM n u 2 s) (its.take (m + 1)) (1, 1) = .ok (sum + c', max e (e' + 1))) := fun c d h m hm sum e hs => parts_next h hm hs
    have HAL : Hid (∀ (c : Nat) (d : Int), pre stM (n + 1) (k, b, t, its) 1 (0, 0) = .ok (c, d) → foldX (fun u s => pre stM n u 2 s) its (1, 1) = .ok (c, d)) := fun c d h => by
      obtain ⟨s1, h1, h2⟩ := pre_inv h
      obtain ⟨_, _, _, rfl⟩ := stM_ok h1
      exact h2
    have HER : Hid (∀ er, pre stM (n + 1) (k, b, t, its) 1 (0, 0) = .error er → er = 10 ∨ er = 3 ∨ er = 9) := fun er h => preM_err _ _ _ _ _ h
    obtain ⟨ia, ic, rfl, hfit, -, hI⟩ := hv
    have hi1 := hfit.2.2.2.1
    have hi2 := hfit.2.2.2.2.1
    have HI : Hid (LayJ w (LayX w n) ia its) := hI
    have X0 : Hid ((w.alloc (.cells #[.int .i64 k, .int .u64 b, .string t, .slice ia its.length ic] 25)).heap[w.heap.size]? = some (.cells #[.int .i64 k, .int .u64 b, .string t, .slice ia its.length ic] 25 (0, 0))) := heap_alloc_new _ _
    generalize pre stM (n + 1) (k, b, t, its) 1 (0, 0) = R at *
    clear hI hfit
    cases R with
    | error er =>
      have he := HER.out er rfl
      have hd2 : (er != 0) = true := by simp; omega
      simp only [msrX] at HS
      clear HNX HAL HER he
      go_enter Try.func6, Try.ntmps6
      go_wp2_with (first
        | (go_at_call 22; refine (aliveX_any _).mono ?_; rintro e w1 ⟨rfl, hb1⟩; have B1 := nxt (below_one w _) hb1; obtain ⟨y0, y1, y2, y3, -⟩ := box4 ((hb1.block _ (lt_of_block X0.out)).trans X0.out))
        | (go_at_call 9; refine (HO.out _ B1).mono ?_; rintro e w2 ⟨y, F, rfl, ho, hF, hb2⟩)
        | (go_at_call 11; refine (HS.out _ _ (OwnX.lay _ ho)).mono ?_; rintro e w3 ⟨rfl, hb3⟩)
        | (go_at_call 17; refine (num_any _ _).mono ?_; rintro e w4 ⟨rfl, hw4⟩; subst w4))
      go_ret
      exact ⟨rfl, nxt (nxt B1 hb2) hb3⟩
    | ok s =>
      obtain ⟨c, d⟩ := s
      simp only [msrX] at HS
      have HA : Hid (foldX (fun u s => pre stM n u 2 s) its (1, 1) = .ok (c, d)) := HAL.out c d rfl
      have HN : Hid (∀ (m : Nat) (hm : m < its.length) (sum : Nat) (e : Int), foldX (fun u s => pre stM n u 2 s) (its.take m) (1, 1) = .ok (sum, e) →
        ∃ c' e', pre stM n its[m] 1 (0, 0) = .ok (c', e') ∧ e' < d ∧ sum + c' ≤ 64 ∧ foldX (fun u s => pre stM n u 2 s) (its.take (m + 1)) (1, 1) = .ok (sum + c', max e (e' + 1))) := HNX.out c d rfl
      clear HNX HAL HER
      go_enter Try.func6, Try.ntmps6
      go_wp2_with (first
        | (go_at_call 22; refine (aliveX_any _).mono ?_; rintro e w1 ⟨rfl, hb1⟩; have B1 := nxt (below_one w _) hb1; have X1 := (hb1.block _ (lt_of_block X0.out)).trans X0.out; obtain ⟨y0, y1, y2, y3, -⟩ := box4 X1)
        | (go_at_call 9; refine (HO.out _ B1).mono ?_; rintro e w2 ⟨y, F, rfl, ho, hF, hb2⟩)
        | (go_at_call 11; refine (HS.out _ _ (OwnX.lay _ ho)).mono ?_; rintro e w3 ⟨rfl, hb3⟩)
        | (go_at_call 17; refine (num_any _ _).mono ?_; rintro e w4 ⟨rfl, hw4⟩; subst w4))
      have X3 : Hid (w3.heap[w.heap.size]? = _) := (hb3.block _ (lt_of_block ((hb2.block _ (lt_of_block X1)).trans X1))).trans ((hb2.block _ (lt_of_block X1)).trans X1)
      have B3 : Hid (Below w.heap.size w w3) := nxt (nxt B1 hb2) hb3
      clear X1 y0 y1 y2 y3 B1 hb1 hb2 hb3 ho hF HO HS X0
      go_loopw [6, 7] (fun u6 u7 wr => ∃ (m sum : Nat) (e : Int), m ≤ its.length ∧ u7 = .int .i64 m ∧ u6 = .int .i64 sum ∧ sum ≤ 64 ∧ Hid (foldX (fun u s => pre stM n u 2 s) (its.take m) (1, 1) = .ok (sum, e)) ∧ Hid (wr.heap[w.heap.size]? = some (.cells #[.int .i64 k, .int .u64 b, .string t, .slice ia its.length ic] 25 (0, 0))) ∧ Hid (Below w.heap.size w wr)) (fun _ i _ => its.length - (intOf i).toNat)
      case atStart => exact ⟨0, 1, 1, Nat.zero_le _, rfl, rfl, by omega, rfl, X3.out, B3.out⟩
      case round =>
        obtain ⟨m, sum, e, hm, rfl, rfl, hs64, HP, HX, HB⟩ := hrel
        clear X3 B3
        obtain ⟨y0, y1, y2, y3, -⟩ := box4 HX.out
        by_cases hlt : m < its.length
        · obtain ⟨g, o, k1, b1, t1, ja, jl, jc, rfl, q0, q1, q2, q3, hl⟩ := HI.out.at m hlt
          have hm1 : (m : Int) < (its.length : Int) := by omega
          have hm0 : (0 : Int) ≤ (m : Int) := by omega
          obtain ⟨c', e', hk, hlt1, hle, hk2⟩ := HN.out m hlt sum e HP.out
          have HK2 : Hid (foldX (fun u s => pre stM n u 2 s) (its.take (m + 1)) (1, 1) = .ok (sum + c', max e (e' + 1))) := hk2
          have CO : Hid (Calls Try.prog 9 #[mkX k1 b1 t1 ja jl jc] wr fun e w' => ∃ y F, e = .returned y ∧ OwnX 29 w' n y its[m] F ∧ (∀ b, F b → wr.heap.size ≤ b ∧ b < w'.heap.size) ∧ Below wr.heap.size wr w') := ofX_any n _ _ wr (LayX.below n hl HB.out)
          have CK : Hid (∀ W y, LayX W n y its[m] → Calls Try.prog 11 #[y] W fun e w' => e = .returned (.tuple #[.int .i64 (c' : Int), .int .i64 e', .int .i64 0]) ∧ Below W.heap.size W w') := fun W y h => by
            have := sizeX_any n its[m] y W h
            rw [hk] at this
            exact this
          replace q0 := keepc HB.out _ _ q0
          replace q1 := keepc HB.out _ _ q1
          replace q2 := keepc HB.out _ _ q2
          replace q3 := keepc HB.out _ _ q3
          have hdec : decide (d ≤ e') = false := by simp; omega
          clear hk hk2 hl HN
          generalize its[m] = u at *
          go_wp2_with (first
            | (go_at_call 9; refine CO.out.mono ?_; rintro e w5 ⟨y, F, rfl, ho, hF, hb5⟩)
            | (go_at_call 11; refine (CK.out _ _ (OwnX.lay _ ho)).mono ?_; rintro e w6 ⟨rfl, hb6⟩)
            | (go_at_call 17; refine (num_any _ _).mono ?_; rintro e w7 ⟨rfl, hw7⟩; subst w7))
          go_roundw
          case rel => exact ⟨m + 1, sum + c', _, by omega, by go_num, by go_num, by omega, HK2.out, (hb6.block _ (lt_of_block ((hb5.block _ (lt_of_block HX.out)).trans HX.out))).trans ((hb5.block _ (lt_of_block HX.out)).trans HX.out), nxt (nxt HB.out hb5) hb6⟩
          case measure => simp [intOf]; omega
        · have hme : m = its.length := by omega
          subst hme
          have h1 := HP.out
          rw [List.take_length, HA.out] at h1
          cases h1
          go_wp2_with fail
          go_ret
          exact ⟨ret_boolX (by simp), HB.out⟩

set_option maxRecDepth 100000 in
set_option maxHeartbeats 1600000 in
theorem lifted (os : Os) (started : os.Started) (H : Type) (enc : TypeId × Value → H) :
    ReturnsInHanded {} Try.checked os 6 .any (Rows.exprPartsSpec.pre6 enc Try.prog Try.f6 Rows.exprPartsRow.domain false) (Rows.exprPartsSpec.post enc Try.prog Try.f6 false true false false) := by
  refine returnsInHanded_of_change_sized (C := Try.checked) Try.own started (by kernel_rfl) Try.func6
    (ChangeSpec.witness6 (enc := enc) (C := Try.checked) false ⟨#[], #[.agg #[.int .i64 0, .int .u64 0, .string ⟨#[]⟩, .slice none 0 0]], []⟩ 8 (by kernel_rfl) (by kernel_rfl) (by kernel_rfl) (by kernel_rfl)) ?_
  intro W base args ds gs before hval0 hW _ hsz0 _
  have hsz : (DataW.weightsEach Try.prog (Try.f6.params.toList ++ Rows.exprPartsSpec.plain.varTypes Try.prog) (ds ++ gs)).all (· ≤ reachBytes) = true := hsz0
  have hval : ∀ (j : Nat) t v, Try.f6.params[j]? = some t → args[j]? = some v → Value.okWide Try.prog W .any base t v := hval0
  have hW' := hW
  obtain ⟨p, q, hA0, hV, rfl, hfz, hnd⟩ := hW
  have hA : DataW.TrodAll enc Try.prog W 0 (fun _ => true) true Try.f6.params.toList args.toList ds p := hA0
  rw [Try.params6] at hA hval hsz
  obtain ⟨v0, vs0, d0, ds0, p0, q0, hargs, rfl, rfl, h0, r0⟩ := trodAll_cons hA
  obtain ⟨rfl, rfl, rfl⟩ := trodAll_nil r0
  obtain rfl : args = #[v0] := by cases args; simp_all
  obtain ⟨rfl, rfl⟩ := trodVars_none hV
  clear hA0 hval0
  simp only [List.append_nil] at hW' hsz
  have hlt : ∀ x ∈ p0, x.block < W.heap.size := fun x hx => hW'.lt x (by simpa using hx)
  have hall : ∀ x ∈ DataW.weightsEach Try.prog [25] [d0], x ≤ reachBytes := fun x hx => of_decide_eq_true (List.all_eq_true.1 hsz x hx)
  have g0 : ∀ x ∈ d0.weights Try.prog 25, x ≤ reachBytes := fun x hx => hall x (DataW.weights_mem_each (j := 0) rfl rfl x hx)
  obtain ⟨u0, l0⟩ := ex_of_arg (k := SizeOf.sizeOf d0) (hval 0 _ v0 rfl rfl) h0 (by omega) g0
  refine (walk _ u0 v0 W l0).mono fun e W' ⟨he, bel⟩ => ?_
  subst he
  exact ⟨_, rfl, _, _, _, [], _, [], hW', trodAll_mk1 (shut_bool Try.underlying4 _), (trodAll_cons_mk (Below.trod Try.laidOut (by kernel_rfl) (of_decide_eq_true (by kernel_rfl)) h0 bel (fun x hx => hlt x (by simp [hx]))) trodAll_mk0), rfl, bel.frame _, fun h => by cases h⟩

theorem over : Rows.exprPartsRow.holds Try.pinned (OpenSpec.ofChange Rows.exprPartsSpec) :=
  OpenClaim.holds_of_wide 6 Try.f6 rfl rfl rfl rfl rfl rfl rfl ⟨rfl, rfl, rfl, rfl, rfl⟩ rfl rfl rfl rfl rfl (by kernel_rfl) Try.func6 (by kernel_rfl)
    (of_decide_eq_true (by kernel_rfl)) (by unfold Func.isWrapper; first | (rw [if_pos (by decide +kernel)]; kernel_rfl) | (rw [if_neg (by decide +kernel)]; exact ⟨rfl, rfl⟩))
    (fun os started H enc _ => lifted os started H enc)

/-- THE STATEMENT. -/
theorem proved : Rows.ExprPartsSaid := over
#print axioms proved
end Go.Proofs.Ytokakmcbpjbdpaa.exprParts
