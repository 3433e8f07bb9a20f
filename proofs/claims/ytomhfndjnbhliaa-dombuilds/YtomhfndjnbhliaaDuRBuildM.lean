/-
  The page's Build. (Printed by wip/make/mkdurbuild.py.)
-/
import Derived.Test.YtomhfndjnbhliaaDuPgJ
import Derived.Test.YtomhfndjnbhliaaDuGrowJ
import Derived.Test.YtomhfndjnbhliaaTrRSize
namespace Go.Proofs.Ytomhfndjnbhliaa
open Go.ChangeShapes Go.WideShapes Go.ChangeAt Go.RowKit Go.Deep
open Do

theorem rnew_any (w : World) : Calls Try.prog 25 #[] w fun e w' => e = .returned (.agg #[.slice none 0 0, .int .i64 0, .int .i64 1]) ∧ Below w.heap.size w w' := by
  go_enter Try.func25, Try.ntmps25
  go_wp2_with fail
  refine bodyPost_ret (v := .agg #[.slice none 0 0, .int .i64 0, .int .i64 1]) (by simp [results, Try.results25, go_sem]) rfl ?_
  exact ⟨rfl, below_one _ _⟩

/-- A display that is read: what the page's Build answers. -/
def RdPost (w w' : World) (e : Ending) (r : Int × Ds) : Prop := ∃ a c, e = .returned (.tuple #[.agg #[.slice a r.2.nodes.length c, .int .i64 r.2.root, .int .i64 r.2.next], .int .i64 r.1]) ∧ DsIs w' r.2 a c ∧ Below w.heap.size w w'

/-- A call of no argument, at the operation itself. -/
theorem op_call0 {o : Oper} {d : Option Tmp} {a : Act} {w : World} {K : Act → World → Prop} {Q : Exit → Act → World → Prop} (hd : o.dst = d) (f : FuncId) (hf : ∀ w, Sem.run Try.prog (callFunc f #[]) w = .ok (.enter f #[]) w) (ts : Array TypeId)
    (ho : o.op = .call { callee := .value (.func f), args := #[], argTypes := ts }) (hc : Calls Try.prog f #[] w fun e w' => ∃ y, e = .returned y ∧ K (a.put d y) w') : Oper.wp Try.prog o a w K Q := by
  subst hd
  have hrun : (execOp a.eval o).run Try.prog w = .ok (.enter f #[]) w := by
    unfold execOp
    simp only [ho, resolve, invoke, List.map_toArray, List.map_nil]
    exact hf w
  unfold Oper.wp
  rw [hrun, Oper.upon_enter]
  refine hc.mono fun e w' he => ?_
  obtain ⟨y, rfl, hy⟩ := he
  exact hy

/-- What is left by built, called for nothing that there was. -/
theorem built_nil {n : Nat} {v : T n} {y : Value} {w W : World} (hv : LayT w n y v) (hb : Below w.heap.size w W) (hf : AllT few32 v) (hc : ct v ≤ 256) :
    Calls Try.prog 24 #[.agg #[.slice none 0 0, .int .i64 0, .int .i64 1], y, .int .i64 0] W fun e w' => ∃ a c, e = .returned (.agg #[.slice a (bl 0 1 v).length c, .int .i64 0, .int .i64 (1 + (ct v : Int))]) ∧ (∃ ab kb, Pg.OwnN w' W.heap.size (.slice a (bl 0 1 v).length c) (bl 0 1 v) ab kb) ∧ Below W.heap.size W w' := by
  refine (built_any w w.heap.size 0 (Nat.le_refl _) n v y [] 1 0 W (.slice none 0 0) (fun _ => .slice none 0 0) (fun _ => .slice none 0 0) hv hf hb hb.size (Pg.OwnN.nil _ _) (by simp; omega) (by decide) (by omega) (by decide)).mono ?_
  rintro e w' ⟨v', ab', kb', rfl, hd⟩
  rw [List.nil_append] at hd
  have hF : ∀ b, ¬ footN (.slice none 0 0) ([] : List Nd).length (fun _ => .slice none 0 0) (fun _ => .slice none 0 0) b := by
    rintro b (hb | ⟨i, hi, -⟩ | ⟨i, hi, -⟩)
    · cases hb
    · simp at hi
    · simp at hi
  obtain ⟨a, c, hs⟩ := hd.own.shape
  subst hs
  have hft : ∀ b, footN (.slice a (bl 0 1 v).length c) (bl 0 1 v).length ab' kb' b → W.heap.size ≤ b := fun b hb => (hd.foot b hb).elim (fun h => absurd h (hF b)) id
  refine ⟨a, c, rfl, ⟨ab', kb', ?_⟩, ⟨hd.kept.os, hd.kept.tape, hd.kept.output, hd.kept.size, fun b hb => hd.kept.block b hb (by
    rintro (e | e)
    · omega
    · exact hF b e)⟩⟩
  have raise : ∀ {e : TypeId} {sz m : Nat} {u : Value} {xs : List Value}, w'.ownsRow w.heap.size e sz u m xs → (∀ b, u.ownBlock = some b → W.heap.size ≤ b) → w'.ownsRow W.heap.size e sz u m xs := by
    rintro e sz m u xs ⟨h1, h2⟩ hr
    refine ⟨h1, h2.imp_right ?_⟩
    rintro ⟨g, cap, cur, h3, h4, h5⟩
    exact ⟨g, cap, cur, h3, hr g (by rw [h3]; rfl), h5⟩
  exact ⟨raise hd.own.row fun b hb => hft b (Or.inl hb), fun i m hm => raise (hd.own.ats i m hm) fun b hb => hft b (Or.inr (Or.inl ⟨i, (List.getElem?_eq_some_iff.1 hm).1, hb⟩)), fun i m hm => raise (hd.own.kids i m hm) fun b hb => hft b (Or.inr (Or.inr ⟨i, (List.getElem?_eq_some_iff.1 hm).1, hb⟩)), hd.own.apa, hd.own.apk, hd.own.fit⟩

set_option maxRecDepth 100000 in
set_option maxHeartbeats 3200000 in
theorem rbuild_any (n : Nat) (v : T n) (y : Value) (w : World) (hv : LayT w n y v) :
    Calls Try.prog 9 #[y] w fun e w' => RdPost w w' e (buildD v) := by
  obtain ⟨g, k, t, aa, al, ac, ia, il, ic, hy⟩ := lay_shape n hv
  subst hy
  have HV : Hid (LayT w n (mkT g k t aa al ac ia il ic) v) := hv
  have HCK : Hid (∀ W, Below w.heap.size w W → Calls Try.prog 23 #[mkT g k t aa al ac ia il ic] W fun e w' => e = .returned (.int .i64 (sizeT v).1) ∧ Below W.heap.size W w') := fun W hb => rcheck_any n v _ W (LayT.below n hv hb)
  clear hv
  obtain ⟨K3, hK3⟩ : ∃ W : World, W = (w.alloc (.cells #[.string g, .string k, .string t, .slice aa al ac, .slice ia il ic] 25)).alloc (.cells #[.slice none 0 0, .int .i64 0, .int .i64 0] 35) := ⟨_, rfl⟩
  have B3 : Hid (Below w.heap.size w K3) := by show Below _ _ _; rw [hK3]; exact two_new _ _ _
  have Y0 : Hid (K3.heap[w.heap.size]? = some (.cells #[.string g, .string k, .string t, .slice aa al ac, .slice ia il ic] 25 (0, 0))) := by show _ = _; rw [hK3]; exact ((below_one _ _).block _ (by simp)).trans (heap_alloc_new _ _)
  have Y1 : Hid (K3.heap[w.heap.size + 1]? = some (.cells #[.slice none 0 0, .int .i64 0, .int .i64 0] 35 (0, 0))) := by show _ = _; rw [hK3]; exact heap_new2 _ _ _
  obtain ⟨y0, y1, y2, y3, y4⟩ := (five Y0.out).1
  by_cases he : (sizeT v).1 = 0
  · have HR : Hid (buildD v = (0, ⟨bl 0 1 v, 1, 1 + (ct v : Int)⟩)) := if_pos he
    have HFW : Hid (AllT few32 v) := size_few he
    have HCT : Hid (ct v ≤ 256) := (built_ok he).2.1
    rw [he] at HCK
    clear he
    go_enter Try.func9, Try.ntmps9
    go_wp2_with fail
    rw [← hK3]
    clear hK3
    refine (HCK.out K3 B3.out).mono ?_
    rintro e w4 ⟨rfl, hb4⟩
    have B4 : Hid (Below w.heap.size w w4) := nxt B3.out hb4
    have Y04 : Hid (w4.heap[w.heap.size]? = _) := (hb4.block _ (lt_of_block Y0.out)).trans Y0.out
    have Y14 : Hid (w4.heap[w.heap.size + 1]? = _) := (hb4.block _ (lt_of_block Y1.out)).trans Y1.out
    clear y0 y1 y2 y3 y4 hb4 HCK
    go_wp2_with fail
    generalize hL : (bl 0 1 v).length = LL at *
    have HL : Hid ((bl 0 1 v).length = LL) := hL
    have hL2 : LL ≤ 256 := by rw [← hL, bl_len]; exact HCT.out
    clear hL
    go_cut [5] (fun v5 wc => ∃ g5 a c, v5 = .pointer (some ⟨g5, 0, none⟩) ∧ Hid (wc.heap[g5]? = some (.cells #[.slice a LL c, .int .i64 0, .int .i64 (1 + (ct v : Int))] 35 (0, 0))) ∧ Hid (LayN wc a (bl 0 1 v) ∧ LL ≤ c ∧ c ≤ 9223372036854775807) ∧ Hid (Below w4.heap.size w4 wc ∧ w4.heap.size ≤ g5 ∧ ∃ B ab kb, Pg.OwnN wc B (.slice a LL c) (bl 0 1 v) ab kb))
    case first =>
      have HST : Hid (∀ W W', Below W.heap.size W W' → (fun w' : World => w'.heap[w.heap.size]? = some (.cells #[.string g, .string k, .string t, .slice aa al ac, .slice ia il ic] 25 (0, 0)) ∧ Below w4.heap.size w4 w') W → (fun w' : World => w'.heap[w.heap.size]? = some (.cells #[.string g, .string k, .string t, .slice aa al ac, .slice ia il ic] 25 (0, 0)) ∧ Below w4.heap.size w4 w') W') := fun W W' hb ⟨y0, y1⟩ => ⟨(hb.block _ (lt_of_block y0)).trans y0, nxt y1 hb⟩
      have HS0 : (fun w' : World => w'.heap[w.heap.size]? = some (.cells #[.string g, .string k, .string t, .slice aa al ac, .slice ia il ic] 25 (0, 0)) ∧ Below w4.heap.size w4 w') w4.drew := ⟨Y04.out, (Below.refl _ w4).drew⟩
      have HBU : Hid (∀ W, Below w.heap.size w W → Calls Try.prog 24 #[.agg #[.slice none 0 0, .int .i64 0, .int .i64 1], mkT g k t aa al ac ia il ic, .int .i64 0] W fun e w' => ∃ a c, e = .returned (.agg #[.slice a LL c, .int .i64 0, .int .i64 (1 + (ct v : Int))]) ∧ (∃ ab kb, Pg.OwnN w' W.heap.size (.slice a LL c) (bl 0 1 v) ab kb) ∧ Below W.heap.size W w') := fun W hb => by
        have := built_nil HV.out hb HFW.out HCT.out
        rwa [HL.out] at this
      refine Rg.Till.region (fun w' : World => w'.heap[w.heap.size]? = some (.cells #[.string g, .string k, .string t, .slice aa al ac, .slice ia il ic] 25 (0, 0)) ∧ Below w4.heap.size w4 w') 4 (by kernel_rfl) ?_
      show Rg.Till _ _ _ _ _ 5 (Array.replicate 5 false) _ _
      refine Rg.Till.take (i := 1) (v := .agg #[.string g, .string k, .string t, .slice aa al ac, .slice ia il ic]) (some 13) rfl rfl (by kernel_rfl) (by kernel_rfl) (fun _ _ _ h => h) (by kernel_rfl) (by kernel_rfl) (Or.inl ⟨rfl, fun w' hS => ?_⟩) HS0 ?_
      · obtain ⟨y0, y1, y2, y3, y4⟩ := (five hS.1).1; go_simp
      simp only [Act.put, List.setIfInBounds_toArray, List.set_cons_zero, List.set_cons_succ]
      refine Rg.Till.twoK (i := 0) (j := 3) (by kernel_rfl) rfl rfl rfl rfl ?_ ?_
      · skip
        intro K hK
        refine op_call0 (d := some 12) rfl 25 (by intros; go_simp) _ rfl ((rnew_any _).mono ?_)
        rintro e w5_1 ⟨rfl, hb5_1⟩
        have HS1 := HST.out _ _ hb5_1 HS0
        refine ⟨_, rfl, hK.out _ _ (fun _ => HS1) ?_⟩
        clear hK K
        simp only [Act.put, List.setIfInBounds_toArray, List.set_cons_zero, List.set_cons_succ]
        refine Rg.Till.twoK (i := 2) (j := 3) (by kernel_rfl) rfl rfl rfl rfl ?_ ?_
        · skip
          intro K hK
          refine op_call3 (d := some 14) rfl 24 (by intros; go_simp) _ _ _ _ rfl _ _ _ rfl rfl rfl ((HBU.out _ (nxt B4.out HS1.2)).mono ?_)
          rintro e w6_2 ⟨a6, c6, rfl, ⟨ab6, kb6, o6_2⟩, hb6_2⟩
          have HS2 := HST.out _ _ hb6_2 HS1
          refine ⟨_, rfl, hK.out _ _ (fun _ => HS2) ?_⟩
          clear hK K
          simp only [Act.put, List.setIfInBounds_toArray, List.set_cons_zero, List.set_cons_succ]
          refine Rg.Till.oneK (i := 3) (by kernel_rfl) rfl rfl ?_
          intro K hK
          go_simp
          have hb3 : Below w6_2.heap.size w6_2 (w6_2.alloc (.cells #[.slice none 0 0, .int .i64 0, .int .i64 0] 35)) := below_one _ _
          have HS3 := HST.out _ _ hb3 HS2
          refine hK.out _ _ (fun _ => HS3) ?_
          clear hK K
          have HZ3 : (w6_2.alloc (.cells #[.slice none 0 0, .int .i64 0, .int .i64 0] 35)).heap[w6_2.heap.size]? = some (.cells #[.slice none 0 0, .int .i64 0, .int .i64 0] 35 (0, 0)) := heap_alloc_new _ _
          have hge3 : w4.heap.size ≤ w6_2.heap.size := HS2.2.size
          have ow3 := o6_2.below hb3
          refine Rg.Till.oneK (i := 4) (by kernel_rfl) rfl rfl ?_
          intro K hK
          refine Rg.op_storeF rfl 35 (.tmp 5) (.tmp 14) rfl w6_2.heap.size _ 35 [.slice a6 LL c6, .int .i64 0, .int .i64 (1 + (ct v : Int))] rfl rfl HZ3 rfl (by kernel_rfl) (by simp [Value.oneCell']) ?_
          intro w7 f1 f2 f3
          refine hK.out _ _ (fun h => absurd rfl h) ?_
          clear hK K
          refine Rg.Till.done (by kernel_rfl) ?_
          have o7 := ow3.same fun b hb => f2 b (ow3.notState HZ3 hb)
          have hcap := cap_of_own (w := w7) (show w7.ownsRow _ 57 7 (.slice a6 LL c6) LL _ from by have := o7.row; rwa [HL.out] at this)
          have hb7 := f3 w4.heap.size w4 hge3 HS3.2
          go_wp2_with fail
          go_meet
          exact ⟨_, a6, c6, rfl, f1, ⟨o7.lay, hcap⟩, hb7, hge3, _, _, _, o7⟩
        · skip
          intro K hK
          go_simp
          have hb5 : Below w5_1.heap.size w5_1 (w5_1.alloc (.cells #[.slice none 0 0, .int .i64 0, .int .i64 0] 35)) := below_one _ _
          have HS5 := HST.out _ _ hb5 HS1
          refine hK.out _ _ (fun _ => HS5) ?_
          clear hK K
          have HZ5 : (w5_1.alloc (.cells #[.slice none 0 0, .int .i64 0, .int .i64 0] 35)).heap[w5_1.heap.size]? = some (.cells #[.slice none 0 0, .int .i64 0, .int .i64 0] 35 (0, 0)) := heap_alloc_new _ _
          have hge5 : w4.heap.size ≤ w5_1.heap.size := HS1.2.size
          refine Rg.Till.oneK (i := 2) (by kernel_rfl) rfl rfl ?_
          intro K hK
          refine op_call3 (d := some 14) rfl 24 (by intros; go_simp) _ _ _ _ rfl _ _ _ rfl rfl rfl ((HBU.out _ (nxt B4.out HS5.2)).mono ?_)
          rintro e w6_6 ⟨a6, c6, rfl, ⟨ab6, kb6, o6_6⟩, hb6_6⟩
          have HS6 := HST.out _ _ hb6_6 HS5
          refine ⟨_, rfl, hK.out _ _ (fun _ => HS6) ?_⟩
          clear hK K
          simp only [Act.put, List.setIfInBounds_toArray, List.set_cons_zero, List.set_cons_succ]
          have HZ6 : w6_6.heap[w5_1.heap.size]? = _ := (hb6_6.block _ (lt_of_block HZ5)).trans HZ5
          refine Rg.Till.oneK (i := 4) (by kernel_rfl) rfl rfl ?_
          intro K hK
          refine Rg.op_storeF rfl 35 (.tmp 5) (.tmp 14) rfl w5_1.heap.size _ 35 [.slice a6 LL c6, .int .i64 0, .int .i64 (1 + (ct v : Int))] rfl rfl HZ6 rfl (by kernel_rfl) (by simp [Value.oneCell']) ?_
          intro w7 f1 f2 f3
          refine hK.out _ _ (fun h => absurd rfl h) ?_
          clear hK K
          refine Rg.Till.done (by kernel_rfl) ?_
          have o7 := o6_6.same fun b hb => f2 b (o6_6.notState HZ6 hb)
          have hcap := cap_of_own (w := w7) (show w7.ownsRow _ 57 7 (.slice a6 LL c6) LL _ from by have := o7.row; rwa [HL.out] at this)
          have hb7 := f3 w4.heap.size w4 hge5 HS6.2
          go_wp2_with fail
          go_meet
          exact ⟨_, a6, c6, rfl, f1, ⟨o7.lay, hcap⟩, hb7, hge5, _, _, _, o7⟩
      · skip
        intro K hK
        go_simp
        have hb8 : Below w4.drew.heap.size w4.drew (w4.drew.alloc (.cells #[.slice none 0 0, .int .i64 0, .int .i64 0] 35)) := below_one _ _
        have HS8 := HST.out _ _ hb8 HS0
        refine hK.out _ _ (fun _ => HS8) ?_
        clear hK K
        have HZ8 : (w4.drew.alloc (.cells #[.slice none 0 0, .int .i64 0, .int .i64 0] 35)).heap[w4.heap.size]? = some (.cells #[.slice none 0 0, .int .i64 0, .int .i64 0] 35 (0, 0)) := heap_alloc_new _ _
        have hge8 : w4.heap.size ≤ w4.heap.size := HS0.2.size
        refine Rg.Till.oneK (i := 0) (by kernel_rfl) rfl rfl ?_
        intro K hK
        refine op_call0 (d := some 12) rfl 25 (by intros; go_simp) _ rfl ((rnew_any _).mono ?_)
        rintro e w5_9 ⟨rfl, hb5_9⟩
        have HS9 := HST.out _ _ hb5_9 HS8
        refine ⟨_, rfl, hK.out _ _ (fun _ => HS9) ?_⟩
        clear hK K
        simp only [Act.put, List.setIfInBounds_toArray, List.set_cons_zero, List.set_cons_succ]
        have HZ9 : w5_9.heap[w4.heap.size]? = _ := (hb5_9.block _ (lt_of_block HZ8)).trans HZ8
        refine Rg.Till.oneK (i := 2) (by kernel_rfl) rfl rfl ?_
        intro K hK
        refine op_call3 (d := some 14) rfl 24 (by intros; go_simp) _ _ _ _ rfl _ _ _ rfl rfl rfl ((HBU.out _ (nxt B4.out HS9.2)).mono ?_)
        rintro e w6_10 ⟨a6, c6, rfl, ⟨ab6, kb6, o6_10⟩, hb6_10⟩
        have HS10 := HST.out _ _ hb6_10 HS9
        refine ⟨_, rfl, hK.out _ _ (fun _ => HS10) ?_⟩
        clear hK K
        simp only [Act.put, List.setIfInBounds_toArray, List.set_cons_zero, List.set_cons_succ]
        have HZ10 : w6_10.heap[w4.heap.size]? = _ := (hb6_10.block _ (lt_of_block HZ9)).trans HZ9
        refine Rg.Till.oneK (i := 4) (by kernel_rfl) rfl rfl ?_
        intro K hK
        refine Rg.op_storeF rfl 35 (.tmp 5) (.tmp 14) rfl w4.heap.size _ 35 [.slice a6 LL c6, .int .i64 0, .int .i64 (1 + (ct v : Int))] rfl rfl HZ10 rfl (by kernel_rfl) (by simp [Value.oneCell']) ?_
        intro w7 f1 f2 f3
        refine hK.out _ _ (fun h => absurd rfl h) ?_
        clear hK K
        refine Rg.Till.done (by kernel_rfl) ?_
        have o7 := o6_10.same fun b hb => f2 b (o6_10.notState HZ10 hb)
        have hcap := cap_of_own (w := w7) (show w7.ownsRow _ 57 7 (.slice a6 LL c6) LL _ from by have := o7.row; rwa [HL.out] at this)
        have hb7 := f3 w4.heap.size w4 hge8 HS10.2
        go_wp2_with fail
        go_meet
        exact ⟨_, a6, c6, rfl, f1, ⟨o7.lay, hcap⟩, hb7, hge8, _, _, _, o7⟩
    case rest =>
      obtain ⟨g5, a, c, rfl, HG, HLY, HBC⟩ := hcut
      have B5 : Hid (Below w.heap.size w wc) := nxt B4.out HBC.out.1
      have R5 : Hid (wc.heap[w.heap.size + 1]? = some (.cells #[.slice none 0 0, .int .i64 0, .int .i64 0] 35 (0, 0))) := (HBC.out.1.block _ (lt_of_block Y14.out)).trans Y14.out
      have hgr : g5 ≠ w.heap.size + 1 := by have h1 := lt_of_block Y14.out; have h2 := HBC.out.2.1; omega
      have HGW : Hid (w.heap.size ≤ g5) := by have h1 := lt_of_block Y14.out; have h2 := HBC.out.2.1; show _ ≤ _; omega
      have P6 : Hid ((wc.setCell ⟨g5, 1, none⟩ (.int .i64 1)).heap[g5]? = some (.cells #[.slice a LL c, .int .i64 1, .int .i64 (1 + (ct v : Int))] 35 (0, 0))) := by show _ = _; rw [set_one_cell HG.out]; simp
      have R6 : Hid ((wc.setCell ⟨g5, 1, none⟩ (.int .i64 1)).heap[w.heap.size + 1]? = some (.cells #[.slice none 0 0, .int .i64 0, .int .i64 0] 35 (0, 0))) := (heap_set_other _ (fun e => hgr e.symm)).trans R5.out
      have K6 : Hid (∀ b, b ≠ g5 → (wc.setCell ⟨g5, 1, none⟩ (.int .i64 1)).heap[b]? = wc.heap[b]?) := fun b hb => heap_set_other _ hb
      have B6 : Hid (Below w.heap.size w (wc.setCell ⟨g5, 1, none⟩ (.int .i64 1))) := ⟨B5.out.os, B5.out.tape, B5.out.output, by have := B5.out.size; simpa [World.setCell] using this, fun j hj => (heap_set_other _ (by have := HGW.out; omega)).trans (B5.out.block j hj)⟩
      obtain ⟨p0, p1, p2⟩ := three HG.out
      have pf1 := (cell_of HG.out 1).2
      obtain ⟨z0, z0f⟩ := cell_of R6.out 0
      obtain ⟨z1, z1f⟩ := cell_of R6.out 1
      obtain ⟨z2, z2f⟩ := cell_of R6.out 2
      simp at z0 z1 z2
      obtain ⟨t0, t1, t2⟩ := three P6.out
      generalize hW6 : wc.setCell ⟨g5, 1, none⟩ (.int .i64 1) = w6 at *
      go_wp2_with fail
      clear hW6 p0 p1 p2 pf1
      obtain ⟨f1, f2, f3⟩ := state_fin (v := .slice a LL c) (r := .int .i64 1) (n := .int .i64 (1 + (ct v : Int))) R6.out
      have f3 := f3 w.heap.size w (by omega) B6.out
      clear z0 z0f z1 z1f z2 z2f t0 t1 t2
      generalize ((w6.setCell ⟨w.heap.size + 1, 0, none⟩ (.slice a LL c)).setCell ⟨w.heap.size + 1, 1, none⟩ (.int .i64 1)).setCell ⟨w.heap.size + 1, 2, none⟩ (.int .i64 (1 + (ct v : Int))) = W9 at *
      obtain ⟨c0, c1, c2⟩ := three f1
      refine bodyPost_ret (v := .tuple #[.agg #[.slice a LL c, .int .i64 1, .int .i64 (1 + (ct v : Int))], .int .i64 0]) (by simp [results, Try.results9, go_sem, c0, c1, c2]) rfl ?_
      rw [HR.out]
      obtain ⟨-, -, Bo, ab, kb, ho⟩ := HBC.out
      have h9 := ho.same (w' := W9) fun b hb => (f2 b (fun e => ho.notState R5.out hb e)).trans (K6.out b (ho.notState HG.out hb))
      have hc := HCT.out
      refine ⟨a, c, by rw [HL.out], ⟨h9.lay, by show (bl 0 1 v).length * 112 ≤ _; rw [HL.out]; omega, by show (bl 0 1 v).length ≤ c ∧ _; rw [HL.out]; exact HLY.out.2, (show -9223372036854775808 ≤ (1 : Int) ∧ (1 : Int) ≤ 9223372036854775807 by decide), by show _ ≤ 1 + (ct v : Int) ∧ 1 + (ct v : Int) ≤ _; omega⟩, f3⟩
  · have HR : Hid (buildD v = ((sizeT v).1, noD)) := if_neg he
    have ge : ((sizeT v).1 != 0) = true := by simpa using he
    clear he
    generalize (sizeT v).1 = er at *
    go_enter Try.func9, Try.ntmps9
    go_wp2_with fail
    rw [← hK3]
    clear hK3
    refine (HCK.out K3 B3.out).mono ?_
    rintro e w4 ⟨rfl, hb4⟩
    have B4 : Hid (Below w.heap.size w w4) := nxt B3.out hb4
    have R4 : Hid (w4.heap[w.heap.size + 1]? = _) := (hb4.block _ (lt_of_block Y1.out)).trans Y1.out
    obtain ⟨z0, z0f⟩ := cell_of R4.out 0
    obtain ⟨z1, z1f⟩ := cell_of R4.out 1
    obtain ⟨z2, z2f⟩ := cell_of R4.out 2
    simp at z0 z1 z2
    clear hb4 y0 y1 y2 y3 y4
    go_wp2_with fail
    obtain ⟨f1, f2, f3⟩ := state_fin (v := .slice none 0 0) (r := .int .i64 0) (n := .int .i64 0) R4.out
    have f3 := f3 w.heap.size w (by omega) B4.out
    generalize ((w4.setCell ⟨w.heap.size + 1, 0, none⟩ (.slice none 0 0)).setCell ⟨w.heap.size + 1, 1, none⟩ (.int .i64 0)).setCell ⟨w.heap.size + 1, 2, none⟩ (.int .i64 0) = W8 at *
    obtain ⟨c0, c1, c2⟩ := three f1
    refine bodyPost_ret (v := .tuple #[.agg #[.slice none 0 0, .int .i64 0, .int .i64 0], .int .i64 er]) (by simp [results, Try.results9, go_sem, c0, c1, c2]) rfl ?_
    rw [HR.out]
    exact ⟨none, 0, rfl, ⟨fun i m hm => by simp [noD] at hm, (show 0 * 112 ≤ 140737488351232 by decide), (show 0 ≤ 0 ∧ 0 ≤ 9223372036854775807 by decide), (show -9223372036854775808 ≤ (0 : Int) ∧ (0 : Int) ≤ 9223372036854775807 by decide), (show -9223372036854775808 ≤ (0 : Int) ∧ (0 : Int) ≤ 9223372036854775807 by decide)⟩, f3⟩
end Go.Proofs.Ytomhfndjnbhliaa
