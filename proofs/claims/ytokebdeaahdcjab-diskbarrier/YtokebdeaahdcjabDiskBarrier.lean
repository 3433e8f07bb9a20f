/-
  DiskBarrier holds for every state and whatever is kept: behind a barrier a crash changes nothing; a state that may not be is refused, as the page refuses it. No condition.
-/
import Derived.Test.YtokebdeaahdcjabDkFollow
namespace Go.Proofs.Ytokebdeaahdcjab.diskBarrier
open Go.ChangeShapes Go.WideShapes Go.ChangeAt Go.RowKit Go.Deep
open Dk (Wr St)

set_option maxRecDepth 100000 in
set_option maxHeartbeats 6400000 in
theorem walk (s : St) (x : Value) (ks : List Int) (xk : Value) (w : World) (hs : StArg w x s) (hk : IntsIs w xk ks) :
    Calls Try.prog 6 #[x, xk] w fun e w' => e = .returned (.bool true) ∧ Below w.heap.size w w' := by
  have HSA : Hid (StArg w x s) := hs
  obtain ⟨a, c, a', c', rfl, -, -, hn24, hm40⟩ := hs
  obtain ⟨ka, kc, rfl, hki⟩ := hk
  have HKI : Hid (LayI w ka ks) := hki
  clear hki
  have hDF := do_flush s
  have HDF : Hid ((Dk.doR s ⟨true, 0, []⟩).1 = Dk.chk s ∧ (Dk.chk s = 0 → (Dk.doR s ⟨true, 0, []⟩).2 = ⟨Dk.full s, []⟩)) := hDF
  clear hDF
  have hlen : s.secs.length ≤ 200000000000000 := by omega
  go_enter Try.func6, Try.ntmps6
  go_wp2_with fail
  refine (alive_any _).mono ?_
  rintro e w1 ⟨rfl, hb1⟩
  have X1 : Hid (w1.heap[w.heap.size]? = some (.cells #[.slice a s.secs.length c, .slice a' s.cache.length c'] 25 (0, 0))) := (hb1.block _ (by simp)).trans (heap_alloc_new _ _)
  have B1 : Hid (Below w.heap.size w w1) := nxt (below_one _ _) hb1
  clear hb1
  obtain ⟨x0, -⟩ := cell_of X1.out 0
  obtain ⟨x1, -⟩ := cell_of X1.out 1
  simp at x0 x1
  go_wp2_with fail
  refine (of_st s _ w1 (HSA.out.below B1.out)).mono ?_
  rintro e w2 ⟨y2, rfl, hs2, hb2⟩
  have X2 : Hid (w2.heap[w.heap.size]? = some (.cells #[.slice a s.secs.length c, .slice a' s.cache.length c'] 25 (0, 0))) := (hb2.block _ (lt_of_block X1.out)).trans X1.out
  have B2 : Hid (Below w.heap.size w w2) := nxt B1.out hb2
  obtain ⟨sa, sc, ta, tc, rfl⟩ := hs2.shape
  have S2 : Hid (StIs w2 (.agg #[.slice sa s.secs.length sc, .slice ta s.cache.length tc]) s) := hs2
  clear hs2 hb2 x0 x1 X1 B1
  go_wp2_with fail
  refine (do_st s ⟨true, 0, []⟩ _ _ w2 S2.out ⟨none, 0, rfl, Oct.nil _, by simp, by decide, by decide⟩).mono ?_
  rintro e w3 ⟨r3, rfl, hr3, hb3⟩
  rw [HDF.out.1]
  have X3 : Hid (w3.heap[w.heap.size]? = some (.cells #[.slice a s.secs.length c, .slice a' s.cache.length c'] 25 (0, 0))) := (hb3.block _ (lt_of_block X2.out)).trans X2.out
  have B3 : Hid (Below w.heap.size w w3) := nxt B2.out hb3
  clear hb3 X2 B2 S2
  by_cases hc : Dk.chk s = 0
  · have hok := Dk.chk_zero.1 hc
    rw [HDF.out.2 hc] at hr3
    obtain ⟨ta3, tc3, ua3, uc3, rfl⟩ := hr3.shape
    have S3 : Hid (StIs w3 (.agg #[.slice ta3 (Dk.full s).length tc3, .slice ua3 0 uc3]) ⟨Dk.full s, []⟩) := hr3.is
    have hcr := crash_ok (full_ok hok) ks
    have HCR : Hid (Dk.crashR ⟨Dk.full s, []⟩ ks = (0, ⟨Dk.full s, []⟩)) := hcr
    have HRA : Hid (Dk.readR s 0 s.secs.length = (0, (Dk.full s).flatten)) := read_all hok
    have hrb := read_all (full_ok hok)
    simp only [full_nil] at hrb
    rw [full_length] at hrb
    have HRB : Hid (Dk.readR ⟨Dk.full s, []⟩ 0 s.secs.length = (0, (Dk.full s).flatten)) := hrb
    have HFL : Hid ((Dk.full s).length = s.secs.length) := full_length s
    rw [hc]
    clear hr3 hcr hrb hok hc HDF
    generalize Dk.full s = FS at *
    generalize FS.flatten = FF at *
    go_wp2_with fail
    refine (num_any _ _).mono ?_
    rintro e w9 ⟨rfl, h9⟩
    subst w9
    have X4 : Hid ((w3.alloc (.cells #[.slice ta3 FS.length tc3, .slice ua3 0 uc3] 30)).heap[w.heap.size]? = some (.cells #[.slice a s.secs.length c, .slice a' s.cache.length c'] 25 (0, 0))) := (Below.heap_alloc _ _ _ (lt_of_block X3.out)).trans X3.out
    have S4 : Hid (StIs (w3.alloc (.cells #[.slice ta3 FS.length tc3, .slice ua3 0 uc3] 30)) (.agg #[.slice ta3 FS.length tc3, .slice ua3 0 uc3]) ⟨FS, []⟩) := S3.out.below (below_one _ _)
    have B4 : Hid (Below w.heap.size w (w3.alloc (.cells #[.slice ta3 FS.length tc3, .slice ua3 0 uc3] 30))) := nxt B3.out (below_one _ _)
    clear X3 S3 B3
    go_wp2_with fail
    refine (crash_st ⟨FS, []⟩ ks _ ka kc _ S4.out (HKI.out.below B4.out)).mono ?_
    rintro e w5 ⟨r5, rfl, hr5, hb5⟩
    rw [HCR.out] at hr5 ⊢
    obtain ⟨ta5, tc5, ua5, uc5, rfl⟩ := hr5.shape
    have X5 : Hid (w5.heap[w.heap.size]? = some (.cells #[.slice a s.secs.length c, .slice a' s.cache.length c'] 25 (0, 0))) := (hb5.block _ (lt_of_block X4.out)).trans X4.out
    have S5 : Hid (StIs w5 (.agg #[.slice ta5 FS.length tc5, .slice ua5 0 uc5]) ⟨FS, []⟩) := hr5.is
    have B5 : Hid (Below w.heap.size w w5) := nxt B4.out hb5
    clear hr5 hb5 X4 S4 B4
    go_wp2_with fail
    have X6 : Hid ((w5.alloc (.cells #[.slice ta5 FS.length tc5, .slice ua5 0 uc5] 30)).heap[w.heap.size]? = some (.cells #[.slice a s.secs.length c, .slice a' s.cache.length c'] 25 (0, 0))) := (Below.heap_alloc _ _ _ (lt_of_block X5.out)).trans X5.out
    have Y6 : Hid ((w5.alloc (.cells #[.slice ta5 FS.length tc5, .slice ua5 0 uc5] 30)).heap[w5.heap.size]? = some (.cells #[.slice ta5 FS.length tc5, .slice ua5 0 uc5] 30 (0, 0))) := heap_alloc_new _ _
    have S6 : Hid (StIs (w5.alloc (.cells #[.slice ta5 FS.length tc5, .slice ua5 0 uc5] 30)) (.agg #[.slice ta5 FS.length tc5, .slice ua5 0 uc5]) ⟨FS, []⟩) := S5.out.below (below_one _ _)
    have B6 : Hid (Below w.heap.size w (w5.alloc (.cells #[.slice ta5 FS.length tc5, .slice ua5 0 uc5] 30))) := nxt B5.out (below_one _ _)
    generalize w5.alloc (.cells #[.slice ta5 FS.length tc5, .slice ua5 0 uc5] 30) = W at *
    generalize w5.heap.size = Bu at *
    clear X5 S5 B5
    have p0 : W.drew.cell? ⟨w.heap.size, 0, none⟩ = some (.slice a s.secs.length c) := (cell_of X6.out 0).1
    have p1 : W.drew.cell? ⟨w.heap.size, 1, none⟩ = some (.slice a' s.cache.length c') := (cell_of X6.out 1).1
    have HBD : Hid (Below w.heap.size w W.drew) := B6.out.drew
    go_cut [9, 10] (fun v9 v10 wc => v10 = .int .i64 0 ∧ ∃ ra rc, v9 = .slice ra FF.length rc ∧ Hid (Oct wc ra rc FF) ∧ Hid (Below W.heap.size W wc))
    case first =>
      go_region_law (first
        | (refine step_call1 rfl 9 (by intros; go_simp) _ _ rfl (.agg #[.slice a s.secs.length c, .slice a' s.cache.length c']) (by first | (simp [Act.eval]; done) | simp [Act.eval, Act.put]) _ (of_st s _ W.drew (HSA.out.below HBD.out)) ?_; intro y7 w7 hR; obtain ⟨hs7, hb7⟩ := hR
           have q0 := keepc hb7 _ _ p0)
        | (refine step_call3 rfl 15 (by intros; go_simp) _ _ _ _ rfl y7 (.int .i64 0) (.int .i64 (s.secs.length : Nat)) (by first | (simp [Act.eval]; done) | simp [Act.eval, Act.put]) (by first | (simp [Act.eval]; done) | simp [Act.eval, Act.put]) (by first | (simp [Act.eval]; done) | simp [Act.eval, Act.put]) (fun y w' => ∃ ra rc, y = .tuple #[.slice ra FF.length rc, .int .i64 0] ∧ Oct w' ra rc FF ∧ Below w7.heap.size w7 w') ((read_st s 0 s.secs.length y7 w7 hs7 (by decide) (by omega)).mono (by rintro e w' ⟨ra, rc, k1, k2, k3⟩; rw [HRA.out] at k1 k2; exact ⟨_, k1, ra, rc, rfl, k2, k3⟩)) ?_; intro y8 w8 hR; obtain ⟨ra, rc, rfl, k2, k3⟩ := hR))
      all_goals
        go_wp2_with fail
        go_meet
        exact ⟨rfl, ra, rc, rfl, k2, (Below.refl _ W).drew.trans (nxt hb7 k3)⟩
    case rest =>
      obtain ⟨rfl, ra, rc, rfl, O7, B7⟩ := hcut
      have X7 := (B7.out.block _ (lt_of_block X6.out)).trans X6.out
      have Y7 := (B7.out.block _ (lt_of_block Y6.out)).trans Y6.out
      obtain ⟨x0, -⟩ := cell_of X7 0
      obtain ⟨t0, -⟩ := cell_of Y7 0
      obtain ⟨t1, -⟩ := cell_of Y7 1
      simp at x0 t0 t1
      have S7 : Hid (StIs wc (.agg #[.slice ta5 FS.length tc5, .slice ua5 0 uc5]) ⟨FS, []⟩) := S6.out.below B7.out
      have HY7 : Hid (_ = _) := Y7
      have B8 : Hid (Below w.heap.size w wc) := nxt B6.out B7.out
      clear p0 p1 X7 Y7
      go_wp2_with fail
      refine (read_st ⟨FS, []⟩ 0 s.secs.length _ wc S7.out (by decide) (by omega)).mono ?_
      rintro e w9 ⟨rb, rd, rfl, k2, k3⟩
      rw [HRB.out] at k2 ⊢
      have O8 : Hid (Oct w9 ra rc FF) := O7.out.below k3
      have O9 : Hid (Oct w9 rb rd FF) := k2
      have B9 : Hid (Below w.heap.size w w9) := nxt B8.out k3
      have Y9 := (k3.block _ (lt_of_block HY7.out)).trans HY7.out
      obtain ⟨t1', -⟩ := cell_of Y9 1
      simp at t1'
      clear k2 k3 x0 t0 t1 Y9
      go_wp2_with (first
        | (go_at_call 18; refine (num_any _ _).mono ?_; rintro e w10 ⟨rfl, h9⟩; subst w10)
        | (go_at_call 19; refine (sameB_any FF FF ra rb rc rd _ O8.out.1 O9.out.1).mono ?_; rintro e w10 ⟨rfl, h9⟩; subst w10))
      go_ret
      exact ⟨by simp, B9.out⟩
  · have hcb : (Dk.chk s != 0) = true := by simp [hc]
    obtain ⟨ta3, tc3, ua3, uc3, rfl⟩ := hr3.shape
    have HCK : Hid (∀ W, Below w.heap.size w W → Calls Try.prog 21 #[.agg #[.slice a s.secs.length c, .slice a' s.cache.length c']] W fun e w' => e = .returned (.int .i64 (Dk.chk s)) ∧ Below W.heap.size W w') := fun W hb => rcheck_st s _ W (HSA.out.below hb)
    have B4 : Hid (∀ o, Below w.heap.size w (w3.alloc o)) := fun o => nxt B3.out (below_one _ _)
    have y0 : ∀ o, (w3.alloc o).cell? ⟨w.heap.size, 0, none⟩ = some (.slice a s.secs.length c) := fun o => keepc (below_one _ _) _ _ (cell_of X3.out 0).1
    have y1 : ∀ o, (w3.alloc o).cell? ⟨w.heap.size, 1, none⟩ = some (.slice a' s.cache.length c') := fun o => keepc (below_one _ _) _ _ (cell_of X3.out 1).1
    generalize Dk.chk s = ck at *
    clear hc hr3 HDF
    go_wp2_with (first
        | (go_at_call 18; refine (num_any _ _).mono ?_; rintro e w10 ⟨rfl, h9⟩; subst w10)
        | (go_at_call 21; refine (HCK.out _ (B4.out _)).mono ?_; rintro e w10 ⟨rfl, hb10⟩; have B10 : Hid (Below w.heap.size w w10) := nxt (B4.out _) hb10; clear hb10))
    go_ret
    exact ⟨rfl, B10.out⟩

set_option maxRecDepth 100000 in
set_option maxHeartbeats 1600000 in
theorem lifted (os : Os) (started : os.Started) (H : Type) (enc : TypeId × Value → H) :
    ReturnsInHanded {} Try.checked os 6 .any (Rows.diskBarrierSpec.pre6 enc Try.prog Try.f6 Rows.diskBarrierRow.domain false) (Rows.diskBarrierSpec.post enc Try.prog Try.f6 false true false false) := by
  refine returnsInHanded_of_change_sized (C := Try.checked) Try.own started (by kernel_rfl) Try.func6
    (ChangeSpec.witness6 (enc := enc) (C := Try.checked) false ⟨#[], #[.agg #[.slice none 0 0, .slice none 0 0], .slice none 0 0], []⟩ 8 (by kernel_rfl) (by kernel_rfl) (by kernel_rfl) (by kernel_rfl)) ?_
  intro W base args ds gs before hval0 hW _ hsz0 _
  have hsz : (DataW.weightsEach Try.prog (Try.f6.params.toList ++ Rows.diskBarrierSpec.plain.varTypes Try.prog) (ds ++ gs)).all (· ≤ reachBytes) = true := hsz0
  have hval : ∀ (j : Nat) t v, Try.f6.params[j]? = some t → args[j]? = some v → Value.okWide Try.prog W .any base t v := hval0
  have hW' := hW
  obtain ⟨p, q, hA0, hV, rfl, hfz, hnd⟩ := hW
  have hA : DataW.TrodAll enc Try.prog W 0 (fun _ => true) true Try.f6.params.toList args.toList ds p := hA0
  rw [Try.params6] at hA hval hsz
  obtain ⟨v0, vs0, d0, ds0, p0, q0, hargs, rfl, rfl, h0, r0⟩ := trodAll_cons hA
  obtain ⟨v1, vs1, d1, ds1, p1, q1, rfl, rfl, rfl, h1, r1⟩ := trodAll_cons r0
  obtain ⟨rfl, rfl, rfl⟩ := trodAll_nil r1
  obtain rfl : args = #[v0, v1] := by cases args; simp_all
  obtain ⟨rfl, rfl⟩ := trodVars_none hV
  clear hA0 hval0
  simp only [List.append_nil] at hW' hsz
  have hlt : ∀ x ∈ p0 ++ p1, x.block < W.heap.size := fun x hx => hW'.lt x (by simpa using hx)
  have hall : ∀ x ∈ DataW.weightsEach Try.prog [25, 29] [d0, d1], x ≤ reachBytes := fun x hx => of_decide_eq_true (List.all_eq_true.1 hsz x hx)
  have g0 : ∀ x ∈ d0.weights Try.prog 25, x ≤ reachBytes := fun x hx => hall x (DataW.weights_mem_each (j := 0) rfl rfl x hx)
  obtain ⟨u0, l0⟩ := st_of_arg (hval 0 _ v0 rfl rfl) h0 g0
  have g1 : ∀ x ∈ d1.weights Try.prog 29, x ≤ reachBytes := fun x hx => hall x (DataW.weights_mem_each (j := 1) rfl rfl x hx)
  obtain ⟨u1, l1⟩ := ints_of_arg (hval 1 _ v1 rfl rfl) h1 g1
  refine (walk u0 v0 u1 v1 W l0 l1).mono fun e W' ⟨he, bel⟩ => ?_
  subst he
  exact ⟨_, rfl, _, _, _, [], _, [], hW', trodAll_mk1 (shut_bool Try.underlying4 _), (trodAll_cons_mk (Below.trod Try.laidOut (by kernel_rfl) (of_decide_eq_true (by kernel_rfl)) h0 bel (fun x hx => hlt x (by simp [hx]))) (trodAll_cons_mk (Below.trod Try.laidOut (by kernel_rfl) (of_decide_eq_true (by kernel_rfl)) h1 bel (fun x hx => hlt x (by simp [hx]))) trodAll_mk0)), rfl, bel.frame _, fun h => by cases h⟩

theorem over : Rows.diskBarrierRow.holds Try.pinned (OpenSpec.ofChange Rows.diskBarrierSpec) :=
  OpenClaim.holds_of_wide 6 Try.f6 rfl rfl rfl rfl rfl rfl rfl ⟨rfl, rfl, rfl, rfl, rfl⟩ rfl rfl rfl rfl rfl (by kernel_rfl) Try.func6 (by kernel_rfl)
    (of_decide_eq_true (by kernel_rfl)) (by unfold Func.isWrapper; first | (rw [if_pos (by decide +kernel)]; kernel_rfl) | (rw [if_neg (by decide +kernel)]; exact ⟨rfl, rfl⟩))
    (fun os started H enc _ => lifted os started H enc)

/-- THE STATEMENT. -/
theorem proved : Rows.DiskBarrierSaid := over
#print axioms proved
end Go.Proofs.Ytokebdeaahdcjab.diskBarrier
