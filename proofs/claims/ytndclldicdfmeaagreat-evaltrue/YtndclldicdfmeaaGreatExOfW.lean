/-
  Of, walked.
-/
import Derived.Test.YtndclldicdfmeaaGreatExOf
import Derived.OrdersHeld
namespace Go.Proofs.YtndclldicdfmeaaGreat.Xp
open Go.ChangeShapes Go.WideShapes Go.ChangeAt Go.RowKit Go.Deep

theorem three_new (w : World) (o1 o2 o3 : Obj) : (((w.alloc o1).alloc o2).alloc o3).heap[w.heap.size]? = some o1 ∧ (((w.alloc o1).alloc o2).alloc o3).heap[w.heap.size + 1]? = some o2 ∧ (((w.alloc o1).alloc o2).alloc o3).heap[w.heap.size + 2]? = some o3 := by
  refine ⟨?_, ?_, ?_⟩
  · exact (Below.heap_alloc _ _ _ (by simp; omega)).trans ((Below.heap_alloc _ _ _ (by simp)).trans (heap_alloc_new _ _))
  · exact (Below.heap_alloc _ _ _ (by simp)).trans (heap_new2 _ _ _)
  · have := heap_new2 (w.alloc o1) o2 o3
    simpa using this

set_option maxRecDepth 100000 in
set_option maxHeartbeats 3200000 in
theorem ofX_any (n : Nat) : ∀ (v : X n) (x : Value) (w : World), LayX w n x v →
    Calls Tryz.prog 9 #[x] w fun e w' => ∃ y F, e = .returned y ∧ OwnX 34 w' n y v F ∧ (∀ b, F b → w.heap.size ≤ b ∧ b < w'.heap.size) ∧ Below w.heap.size w w' := by
  induction n with
  | zero => intro v; exact v.elim
  | succ n ih =>
    rintro ⟨k, b, t, its⟩ x w ⟨ia, ic, rfl, hfit, hin, his⟩
    have HF : Hid (FitX k b t its.length ic) := hfit
    have hicc := hfit.2.2.2.1
    have hic := hfit.2.2.2.2.1
    have hil := hfit.2.2.2.2.2
    have HI : Hid (LayJ w (LayX w n) ia its) := his
    have IH : Hid (∀ (v : X n) (x : Value) (w : World), LayX w n x v → Calls Tryz.prog 9 #[x] w fun e w' => ∃ y F, e = .returned y ∧ OwnX 34 w' n y v F ∧ (∀ b, F b → w.heap.size ≤ b ∧ b < w'.heap.size) ∧ Below w.heap.size w w') := ih
    clear hfit his hin ih
    obtain ⟨K3, hK3⟩ : ∃ W : World, W = ((w.alloc (.cells #[.int .i64 k, .int .u64 b, .string t, .slice ia its.length ic] 25)).alloc (.cells #[.int .i64 0, .int .u64 0, .string ⟨#[]⟩, .slice none 0 0] 34)).alloc (.cells #[.int .i64 k, .int .u64 b, .string t, .slice none 0 0] 34) := ⟨_, rfl⟩
    have I3 : Hid (OfX k b t ia its.length ic w K3 n its 0 (.slice none 0 0) [] (fun _ _ => False)) := by
      rw [hK3]
      have h3 := three_new w (.cells #[.int .i64 k, .int .u64 b, .string t, .slice ia its.length ic] 25) (.cells #[.int .i64 0, .int .u64 0, .string ⟨#[]⟩, .slice none 0 0] 34) (.cells #[.int .i64 k, .int .u64 b, .string t, .slice none 0 0] 34)
      exact ⟨RowX.nil _ _ _ _, h3.2.2, h3.1, h3.2.1, nxt (nxt (below_one _ _) (below_one _ _)) (below_one _ _)⟩
    go_enter Tryz.func9, Tryz.ntmps9
    go_wp2_with fail
    rw [← hK3]
    clear hK3
    go_loopw [4] (fun v4 wr => ∃ (m : Nat) (v : Value) (xs : List Value) (G : Nat → Nat → Prop), m ≤ its.length ∧ v4 = .int .i64 (m : Int) ∧ Hid (OfX k b t ia its.length ic w wr n its m v xs G)) (fun v4 _ => its.length - (intOf v4).toNat)
    case atStart => exact ⟨0, _, _, _, Nat.zero_le _, rfl, I3.out⟩
    case round =>
      obtain ⟨m, v, xs, G, hm, rfl, HR⟩ := hrel
      clear I3
      obtain ⟨s0, s1, s2, s3, -⟩ := box4 HR.out.arg
      by_cases hlt : m < its.length
      · obtain ⟨g, o, k1, b1, t1, ja, jl, jc, rfl, q0, q1, q2, q3, hl⟩ := HI.out.at m hlt
        have HBW := HR.out.bel
        have hm0 : (0 : Int) ≤ (m : Int) := by omega
        have hm1 : (m : Int) < (its.length : Int) := by omega
        obtain ⟨va, vc, hva⟩ := slice_of_own HR.out.row.row
        subst hva
        obtain ⟨x0, x1, x2, x3, -⟩ := box4 HR.out.var
        have HS0 : (fun w' : World => w'.cell? ⟨w.heap.size, 3, none⟩ = some (.slice (some ⟨g, o, none⟩) its.length ic) ∧ w'.cell? ⟨w.heap.size + 1 + 1, 3, none⟩ = some (.slice va m vc) ∧ w'.cell? ⟨g, o + m * 4, none⟩ = some (.int .i64 k1) ∧ w'.cell? ⟨g, o + m * 4 + 1, none⟩ = some (.int .u64 b1) ∧ w'.cell? ⟨g, o + m * 4 + 2, none⟩ = some (.string t1) ∧ w'.cell? ⟨g, o + m * 4 + 3, none⟩ = some (.slice ja jl jc)) wr.drew := ⟨s3, x3, keepc HBW _ _ q0, keepc HBW _ _ q1, keepc HBW _ _ q2, keepc HBW _ _ q3⟩
        have HST : Hid (∀ W W', Below W.heap.size W W' → (fun w' : World => w'.cell? ⟨w.heap.size, 3, none⟩ = some (.slice (some ⟨g, o, none⟩) its.length ic) ∧ w'.cell? ⟨w.heap.size + 1 + 1, 3, none⟩ = some (.slice va m vc) ∧ w'.cell? ⟨g, o + m * 4, none⟩ = some (.int .i64 k1) ∧ w'.cell? ⟨g, o + m * 4 + 1, none⟩ = some (.int .u64 b1) ∧ w'.cell? ⟨g, o + m * 4 + 2, none⟩ = some (.string t1) ∧ w'.cell? ⟨g, o + m * 4 + 3, none⟩ = some (.slice ja jl jc)) W → (fun w' : World => w'.cell? ⟨w.heap.size, 3, none⟩ = some (.slice (some ⟨g, o, none⟩) its.length ic) ∧ w'.cell? ⟨w.heap.size + 1 + 1, 3, none⟩ = some (.slice va m vc) ∧ w'.cell? ⟨g, o + m * 4, none⟩ = some (.int .i64 k1) ∧ w'.cell? ⟨g, o + m * 4 + 1, none⟩ = some (.int .u64 b1) ∧ w'.cell? ⟨g, o + m * 4 + 2, none⟩ = some (.string t1) ∧ w'.cell? ⟨g, o + m * 4 + 3, none⟩ = some (.slice ja jl jc)) W') := fun W W' hb h => ⟨keepc hb _ _ h.1, keepc hb _ _ h.2.1, keepc hb _ _ h.2.2.1, keepc hb _ _ h.2.2.2.1, keepc hb _ _ h.2.2.2.2.1, keepc hb _ _ h.2.2.2.2.2⟩
        have HL : Hid (LayX w n (mkX k1 b1 t1 ja jl jc) its[m]) := hl
        have HU : Hid (its[m]? = some its[m]) := List.getElem?_eq_getElem hlt
        have HBD : Hid (Below w.heap.size w wr.drew) := HBW.drew
        have HQ : Hid (w.cell? ⟨g, o + m * 4, none⟩ = some (.int .i64 k1) ∧ w.cell? ⟨g, o + m * 4 + 1, none⟩ = some (.int .u64 b1) ∧ w.cell? ⟨g, o + m * 4 + 2, none⟩ = some (.string t1) ∧ w.cell? ⟨g, o + m * 4 + 3, none⟩ = some (.slice ja jl jc)) := ⟨q0, q1, q2, q3⟩
        clear hl q0 q1 q2 q3 x0 x1 x2 x3 HBW HI
        generalize its[m] = u at *
        go_wp2_with fail
        clear s0 s1 s2 s3
        refine Rg.Till.region (fun w' : World => w'.cell? ⟨w.heap.size, 3, none⟩ = some (.slice (some ⟨g, o, none⟩) its.length ic) ∧ w'.cell? ⟨w.heap.size + 1 + 1, 3, none⟩ = some (.slice va m vc) ∧ w'.cell? ⟨g, o + m * 4, none⟩ = some (.int .i64 k1) ∧ w'.cell? ⟨g, o + m * 4 + 1, none⟩ = some (.int .u64 b1) ∧ w'.cell? ⟨g, o + m * 4 + 2, none⟩ = some (.string t1) ∧ w'.cell? ⟨g, o + m * 4 + 3, none⟩ = some (.slice ja jl jc)) 11 (by kernel_rfl) ?_
        show Rg.Till _ _ _ _ _ 12 (Array.replicate 12 false) _ _
        refine Rg.Till.take (i := 0) (v := (.pointer (some ⟨w.heap.size + 1 + 1, 3, none⟩))) (some 19) rfl rfl (by kernel_rfl) (by kernel_rfl) (fun _ _ _ h => h) (by kernel_rfl) (by kernel_rfl) (Or.inl ⟨rfl, fun w' hS => ?_⟩) HS0 ?_
        · obtain ⟨y0, y1, y2, y3, y4, y5⟩ := hS; go_simp
        simp only [Act.put, List.setIfInBounds_toArray, List.set_cons_zero, List.set_cons_succ]
        refine Rg.Till.take (i := 1) (v := (.slice va m vc)) (some 20) rfl rfl (by kernel_rfl) (by kernel_rfl) (fun _ _ _ h => h) (by kernel_rfl) (by kernel_rfl) (Or.inl ⟨rfl, fun w' hS => ?_⟩) HS0 ?_
        · obtain ⟨y0, y1, y2, y3, y4, y5⟩ := hS; go_simp
        simp only [Act.put, List.setIfInBounds_toArray, List.set_cons_zero, List.set_cons_succ]
        refine Rg.Till.take (i := 2) (v := (.pointer (some ⟨w.heap.size, 3, none⟩))) (some 21) rfl rfl (by kernel_rfl) (by kernel_rfl) (fun _ _ _ h => h) (by kernel_rfl) (by kernel_rfl) (Or.inl ⟨rfl, fun w' hS => ?_⟩) HS0 ?_
        · obtain ⟨y0, y1, y2, y3, y4, y5⟩ := hS; go_simp
        simp only [Act.put, List.setIfInBounds_toArray, List.set_cons_zero, List.set_cons_succ]
        refine Rg.Till.take (i := 3) (v := (.slice (some ⟨g, o, none⟩) its.length ic)) (some 22) rfl rfl (by kernel_rfl) (by kernel_rfl) (fun _ _ _ h => h) (by kernel_rfl) (by kernel_rfl) (Or.inl ⟨rfl, fun w' hS => ?_⟩) HS0 ?_
        · obtain ⟨y0, y1, y2, y3, y4, y5⟩ := hS; go_simp
        simp only [Act.put, List.setIfInBounds_toArray, List.set_cons_zero, List.set_cons_succ]
        refine Rg.Till.take (i := 4) (v := (.int .i64 (m : Int))) (some 23) rfl rfl (by kernel_rfl) (by kernel_rfl) (fun _ _ _ h => h) (by kernel_rfl) (by kernel_rfl) (Or.inl ⟨rfl, fun w' hS => ?_⟩) HS0 ?_
        · obtain ⟨y0, y1, y2, y3, y4, y5⟩ := hS; go_simp
        simp only [Act.put, List.setIfInBounds_toArray, List.set_cons_zero, List.set_cons_succ]
        refine Rg.Till.take (i := 5) (v := (.pointer (some ⟨g, o + m * 4, none⟩))) (some 24) rfl rfl (by kernel_rfl) (by kernel_rfl) (fun _ _ _ h => h) (by kernel_rfl) (by kernel_rfl) (Or.inl ⟨rfl, fun w' hS => ?_⟩) HS0 ?_
        · obtain ⟨y0, y1, y2, y3, y4, y5⟩ := hS; go_simp
        simp only [Act.put, List.setIfInBounds_toArray, List.set_cons_zero, List.set_cons_succ]
        refine Rg.Till.take (i := 6) (v := (mkX k1 b1 t1 ja jl jc)) (some 25) rfl rfl (by kernel_rfl) (by kernel_rfl) (fun _ _ _ h => h) (by kernel_rfl) (by kernel_rfl) (Or.inl ⟨rfl, fun w' hS => ?_⟩) HS0 ?_
        · obtain ⟨y0, y1, y2, y3, y4, y5⟩ := hS; go_simp
        simp only [Act.put, List.setIfInBounds_toArray, List.set_cons_zero, List.set_cons_succ]
        refine Rg.Till.one (i := 7) (by kernel_rfl) rfl rfl ?_
        refine op_callX (d := some 26) rfl 9 (fun _ _ => rfl) _ _ rfl _ rfl ?_
        refine (IH.out u _ _ (LayX.below n HL.out HBD.out)).mono ?_
        rintro e w1 ⟨y, F, rfl, ho, hF, hb1⟩
        obtain ⟨k2, b2, t2, ka, kl, kc, rfl⟩ := LayX.shape n (OwnX.lay n ho)
        have HS1 := HST.out _ _ hb1 HS0
        refine ⟨_, rfl, fun _ => HS1, ?_⟩
        simp only [Act.put, List.setIfInBounds_toArray, List.set_cons_zero, List.set_cons_succ]
        have HS2 := HST.out w1 (w1.alloc (.cells #[.int .i64 k2, .int .u64 b2, .string t2, .slice ka kl kc] 34)) (below_one _ _) HS1
        refine Rg.Till.oneK (i := 8) (by kernel_rfl) rfl rfl fun K hK => ?_
        go_simp
        refine hK.out _ _ (fun _ => HS2) ?_
        clear hK K
        refine Rg.Till.one (i := 9) (by kernel_rfl) rfl rfl ?_
        have hbd : Below wr.heap.size wr w1 := nxt ((Below.refl _ wr).drew) hb1
        refine op_pushX (d := some 28) rfl rfl _ _ rfl (w.heap.size + 3) (.slice va m vc) m xs rfl (HR.out.row.below (nxt hbd (below_one w1 _))).row k2 b2 t2 ka kl kc ⟨w1.heap.size, 0, none⟩ 1 rfl (fun j u hj => newCells w1 _ _ j u (by rw [← Array.getElem?_toList]; exact hj)) (by omega) (by have := lt_of_block HR.out.var; have := hbd.size; simp; omega) ?_
        intro v' w5 q1 q2 q3
        obtain ⟨⟨b1a, b1v, b1w⟩, G', hO⟩ := HR.out.push HU.out hbd ho hF (below_one w1 _) q1 q2 q3
        have HO : Hid (OfX k b t (some ⟨g, o, none⟩) its.length ic w (w5.setCell ⟨w.heap.size + 2, 3, none⟩ v') n its (m + 1) v' (xs ++ [.int .i64 k2, .int .u64 b2, .string t2, .slice ka kl kc]) G') := hO
        obtain ⟨va', vc', hva'⟩ := slice_of_own hO.row.row
        subst hva'
        obtain ⟨-, -, -, y3, -⟩ := box4 b1a
        obtain ⟨-, -, -, z3, -, -, -, zf3⟩ := box4 b1v
        have HS0 : (fun w' : World => w'.cell? ⟨w.heap.size, 3, none⟩ = some (.slice (some ⟨g, o, none⟩) its.length ic) ∧ w'.cell? ⟨w.heap.size + 1 + 1, 3, none⟩ = some (.slice va m vc) ∧ w'.cell? ⟨g, o + m * 4, none⟩ = some (.int .i64 k1) ∧ w'.cell? ⟨g, o + m * 4 + 1, none⟩ = some (.int .u64 b1) ∧ w'.cell? ⟨g, o + m * 4 + 2, none⟩ = some (.string t1) ∧ w'.cell? ⟨g, o + m * 4 + 3, none⟩ = some (.slice ja jl jc)) w5 := ⟨y3, z3, keepc b1w _ _ HQ.out.1, keepc b1w _ _ HQ.out.2.1, keepc b1w _ _ HQ.out.2.2.1, keepc b1w _ _ HQ.out.2.2.2⟩
        clear b1a b1v b1w hO ho hF q1 q2 q3
        refine ⟨fun _ => HS0, ?_⟩
        simp only [Act.put, List.setIfInBounds_toArray, List.set_cons_zero, List.set_cons_succ]
        refine Rg.Till.take (i := 10) (v := (.pointer (some ⟨w.heap.size + 1 + 1, 3, none⟩))) (some 29) rfl rfl (by kernel_rfl) (by kernel_rfl) (fun _ _ _ h => h) (by kernel_rfl) (by kernel_rfl) (Or.inl ⟨rfl, fun w' hS => ?_⟩) HS0 ?_
        · obtain ⟨y0, y1, y2, y3, y4, y5⟩ := hS; go_simp
        simp only [Act.put, List.setIfInBounds_toArray, List.set_cons_zero, List.set_cons_succ]
        refine Rg.Till.oneK (i := 11) (by kernel_rfl) rfl rfl fun K hK => ?_
        go_simp
        refine hK.out _ _ (fun h => absurd rfl h) ?_
        clear hK K
        refine Rg.Till.done (by kernel_rfl) ?_
        clear HS0 HS1 HS2 HST
        go_wp2_with fail
        go_roundw
        case rel => exact ⟨m + 1, _, _, G', by omega, by go_num, HO⟩
        case measure => simp [intOf]; omega
      · have hme : m = its.length := by omega
        subst hme
        obtain ⟨va, vc, hva⟩ := slice_of_own HR.out.row.row
        subst hva
        obtain ⟨x0, x1, x2, x3, -⟩ := box4 HR.out.var
        obtain ⟨z0, z1, z2, z3, f0, f1, f2, f3⟩ := box4 HR.out.res
        go_wp2_with fail
        have H5 : ((((wr.setCell ⟨w.heap.size + 1, 0, none⟩ (.int .i64 k)).setCell ⟨w.heap.size + 1, 1, none⟩ (.int .u64 b)).setCell ⟨w.heap.size + 1, 2, none⟩ (.string t)).setCell ⟨w.heap.size + 1, 3, none⟩ (.slice va its.length vc)).heap[w.heap.size + 1]? = some (.cells #[.int .i64 k, .int .u64 b, .string t, .slice va its.length vc] 34 (0, 0)) := by
          simp [World.setCell, Array.getElem?_modify, HR.out.res]
        have B5 : Below w.heap.size w ((((wr.setCell ⟨w.heap.size + 1, 0, none⟩ (.int .i64 k)).setCell ⟨w.heap.size + 1, 1, none⟩ (.int .u64 b)).setCell ⟨w.heap.size + 1, 2, none⟩ (.string t)).setCell ⟨w.heap.size + 1, 3, none⟩ (.slice va its.length vc)) := (((HR.out.bel.setCell (by simp) _).setCell (by simp) _).setCell (by simp) _).setCell (by simp) _
        have O5 : ∀ j, j ≠ w.heap.size + 1 → ((((wr.setCell ⟨w.heap.size + 1, 0, none⟩ (.int .i64 k)).setCell ⟨w.heap.size + 1, 1, none⟩ (.int .u64 b)).setCell ⟨w.heap.size + 1, 2, none⟩ (.string t)).setCell ⟨w.heap.size + 1, 3, none⟩ (.slice va its.length vc)).heap[j]? = wr.heap[j]? := fun j hj => by
          rw [Below.heap_setCell _ _ _ _ hj, Below.heap_setCell _ _ _ _ hj, Below.heap_setCell _ _ _ _ hj, Below.heap_setCell _ _ _ _ hj]
        have S5 : ((((wr.setCell ⟨w.heap.size + 1, 0, none⟩ (.int .i64 k)).setCell ⟨w.heap.size + 1, 1, none⟩ (.int .u64 b)).setCell ⟨w.heap.size + 1, 2, none⟩ (.string t)).setCell ⟨w.heap.size + 1, 3, none⟩ (.slice va its.length vc)).heap.size = wr.heap.size := by simp [World.setCell]
        generalize (((wr.setCell ⟨w.heap.size + 1, 0, none⟩ (.int .i64 k)).setCell ⟨w.heap.size + 1, 1, none⟩ (.int .u64 b)).setCell ⟨w.heap.size + 1, 2, none⟩ (.string t)).setCell ⟨w.heap.size + 1, 3, none⟩ (.slice va its.length vc) = W5 at *
        clear z0 z1 z2 z3
        obtain ⟨z0, z1, z2, z3, -⟩ := box4 H5
        refine bodyPost_ret (v := mkX k b t va its.length vc) (by simp [results, Tryz.results9, go_sem, z0, z1, z2, z3]) rfl ?_
        exact ⟨_, _, rfl, HR.out.row.own HF.out.1 HF.out.2.1 HF.out.2.2.1 HF.out.2.2.2.2.2 (fun j hj _ => O5 j (by omega)), fun b hb => ⟨by omega, by rw [S5]; exact hb.2⟩, B5⟩

end Go.Proofs.YtndclldicdfmeaaGreat.Xp
