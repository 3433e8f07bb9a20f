/-
  The program's Add.
-/
import Derived.Test.YtfdbhojghkdlkaaJ13
namespace Go.Proofs.Ytfdbhojghkdlkaa
open Go.ChangeShapes Go.WideShapes Go.ChangeAt Go.RowKit

/-- A call of one argument, as one step. -/
theorem step_call1 {ops : Array Oper} {o : Oper} {a : Act} {w : World} {K : Act → World → Prop} {Q : Exit → Act → World → Prop} {E : Prop} (hg : o.guard = none) (f : FuncId) (hf : ∀ x1 w, Sem.run Try.prog (callFunc f #[x1]) w = .ok (.enter f #[x1]) w) (s1 : Operand) (ts : Array TypeId)
    (ho : o.op = .call { callee := .value (.func f), args := #[s1], argTypes := ts }) (x1 : Value) (h1 : a.eval s1 = x1) (R : Value → World → Prop)
    (hc : Calls Try.prog f #[x1] w fun e w' => ∃ y, e = .returned y ∧ R y w') (h : ∀ y w', R y w' → K (a.put o.dst y) w') :
    if Region.wanted o (yielded ops a.tmps) = true then Oper.wp Try.prog o a w K Q else E := by
  have hw : Region.wanted o (yielded ops a.tmps) = true := by simp [Region.wanted, hg]
  rw [if_pos hw]
  have hrun : (execOp a.eval o).run Try.prog w = .ok (.enter f #[x1]) w := by
    unfold execOp
    simp only [ho, resolve, invoke, List.map_toArray, List.map_cons, List.map_nil, h1]
    go_simp
  unfold Oper.wp
  rw [hrun, Oper.upon_enter]
  refine hc.mono fun e w' he => ?_
  obtain ⟨y, rfl, hy⟩ := he
  exact h y w' hy

/-- append of one item whose value is shared, as one step. -/
theorem step_pushSh {w0 : World} {ops : Array Oper} {o : Oper} {a : Act} {w : World} {K : Act → World → Prop} {Q : Exit → Act → World → Prop} {E : Prop} (hgd : o.guard = none) (s x : Operand)
    (hop : o.op = .call { callee := .builtin .append, args := #[s, x], argTypes := #[22, 22] })
    {n : Nat} (B : Nat) (v : Value) (its : List (Tm n)) (hs : a.eval s = v) (hL : ShRow w0 w B v its) (u : Tm n) (k b : Int) (t : ByteArray) (ka : Option Addr) (kl kc : Nat) (ja : Option Addr) (jl jc : Nat) (hl : Lay w0 n (mk k b t ka kl kc ja jl jc) u.2.2)
    (ad : Addr) (c : Nat) (hx : a.eval x = .slice (some ad) 1 c) (hnews : ∀ j y, ([.int .i64 u.1, .string u.2.1, .int .i64 k, .int .u64 b, .string t, .slice ka kl kc, .slice ja jl jc] : List Value)[j]? = some y → w.cell? (ad.add j) = some y) (hlen : (its.length + 1) * 104 ≤ 140737488355328) (hB : B ≤ w.heap.size)
    (h : ∀ v' w', ShRow w0 w' B v' (its ++ [u]) → w.grownBy w' v.ownBlock → K (a.put o.dst v') w') :
    if Region.wanted o (yielded ops a.tmps) = true then Oper.wp Try.prog o a w K Q else E := by
  obtain ⟨xs, h1, h2⟩ := hL
  obtain ⟨i0, hi, hz0, hz1, hz2⟩ := info_parts Try.infoItem
  refine step_append hgd s x 22 hop B 54 i0 _ 7 104 Try.underlying22 hi hz0 hz1 hz2 rfl (by decide) v its.length xs hs h1 ad 1 c [.int .i64 u.1, .string u.2.1, .int .i64 k, .int .u64 b, .string t, .slice ka kl kc, .slice ja jl jc] hx rfl hnews ?_ (by unfold maxLen; omega) hlen hB ?_
  · intro y hy
    simp at hy
    rcases hy with rfl | rfl | rfl | rfl | rfl | rfl | rfl <;> rfl
  · intro v' w' q1 q2 _
    have := ItemsR.snoc (S := shT n) (its := its) (u := u) (G := fun _ _ => False) (G' := fun _ _ => False) (c0 := .int .i64 k) (c1 := .int .u64 b) (c2 := .string t) (c3 := .slice ka kl kc) (c4 := .slice ja jl jc) (R := fun x u _ => Lay w0 n x u) rfl rfl h1.1 rfl h2 (fun _ _ _ _ hR => hR) hl
    exact h v' w' ⟨_, by rw [List.length_append]; exact q1, by rw [List.length_append]; exact this⟩ q2

theorem newCellsA (w : World) (cs : Array Value) (t : TypeId) (j : Nat) (u : Value) (hj : cs.toList[j]? = some u) : (w.alloc (.cells cs t)).cell? ((⟨w.heap.size, 0, none⟩ : Addr).add j) = some u := by
  have := heap_alloc_new w (.cells cs t)
  rw [add_plain]
  simp only [World.cell?, this]
  simpa using hj

theorem newCells2 (w : World) (o : Obj) (cs : Array Value) (t : TypeId) (j : Nat) (u : Value) (hj : cs.toList[j]? = some u) : ((w.alloc o).alloc (.cells cs t)).drew.cell? ((⟨w.heap.size + 1, 0, none⟩ : Addr).add j) = some u := by
  have h := newCellsA (w.alloc o) cs t j u hj
  rw [show (w.alloc o).heap.size = w.heap.size + 1 by simp] at h
  exact h

/-- What a call tells that answers a box. -/
def BoxPost {n : Nat} (w : World) (R : Int × Int × List (Tm n)) (e : Ending) (w' : World) : Prop := ∃ v H, e = .returned (.tuple #[.agg #[.int .i64 R.2.1, v], .int .i64 R.1]) ∧ CopyInv (shT n) w w' v R.2.2 H

/-- The two boxes of parameter and result: what was there stays, the result's cells are written. -/
theorem two_cells2 {w w1 : World} {x0 x1 y0 y1 : Value} {t t' : TypeId} (h : Two w w1 (.cells #[x0, x1] t) (.cells #[y0, y1] t')) :
    w1.cell? ⟨w.heap.size, 0, none⟩ = some x0 ∧ w1.cell? ⟨w.heap.size, 1, none⟩ = some x1 ∧ w1.cell? ⟨w.heap.size + 1, 0, none⟩ = some y0 ∧ w1.cell? ⟨w.heap.size + 1, 1, none⟩ = some y1 ∧ w1.frozen? ⟨w.heap.size + 1, 0, none⟩ = false ∧ w1.frozen? ⟨w.heap.size + 1, 1, none⟩ = false := by
  simp [World.cell?, World.frozen?, h.1, h.2]

theorem set2_other {w : World} {g : Nat} (v0 v1 : Value) {b : Nat} (h : b ≠ g) : ((w.setCell ⟨g, 0, none⟩ v0).setCell ⟨g, 1, none⟩ v1).heap[b]? = w.heap[b]? := by
  have h' : ¬ g = b := fun e => h e.symm
  simp [World.setCell, Array.getElem?_modify, h']

/-- A row of one's own stays where a box that is no part of it is written. -/
theorem CopyInv.set2 {α : Type} {n : Nat} {S : Sh α n} {w w1 w2 : World} {v : Value} {its : List α} {H : Nat → Prop} (h : CopyInv S w1 w2 v its H) (hb : Below w.heap.size w w1) {g : Nat} (hg : w.heap.size ≤ g) (hg1 : g < w1.heap.size) (v0 v1 : Value) :
    CopyInv S w ((w2.setCell ⟨g, 0, none⟩ v0).setCell ⟨g, 1, none⟩ v1) v its H := by
  obtain ⟨a1, a2, a3⟩ := h
  have hs := hb.size
  refine ⟨a1.same fun b hb => set2_other _ _ (by have := (a2 b hb).1; omega), fun b hb => ⟨by have := (a2 b hb).1; omega, by have := (a2 b hb).2; simpa [World.setCell] using this⟩, ?_⟩
  exact ((nxt hb a3).setCell (p := ⟨g, 0, none⟩) hg v0).setCell (p := ⟨g, 1, none⟩) hg v1

theorem CopyInv.none2 {α : Type} {n : Nat} (S : Sh α n) {w w1 : World} (hb : Below w.heap.size w w1) {g : Nat} (hg : w.heap.size ≤ g) (v0 v1 : Value) : CopyInv S w ((w1.setCell ⟨g, 0, none⟩ v0).setCell ⟨g, 1, none⟩ v1) (.slice none 0 0) [] (fun _ => False) :=
  ⟨OwnR.nil S _, fun _ hb => hb.elim, (hb.setCell (p := ⟨g, 0, none⟩) hg v0).setCell (p := ⟨g, 1, none⟩) hg v1⟩

set_option maxRecDepth 100000 in
set_option maxHeartbeats 6400000 in
theorem add_any {n : Nat} (L s : Int) (its : List (Tm n)) (ia : Option Addr) (ic : Nat) (l : List (Ef n)) (ea : Option Addr) (ec : Nat) (w : World) (hT : TIs w n ia ic its) (hE : EIs w n ea ec l) :
    Calls Try.prog 26 #[.agg #[.int .i64 L, .slice ia its.length ic], .int .i64 s, .slice ea l.length ec] w (BoxPost w (addR L its s l)) := by
  have HT : Hid (TIs w n ia ic its) := hT
  have HE : Hid (EIs w n ea ec l) := hE
  have hlT := hT.2.2.1
  have hlE := hE.2.2.1
  have C1 : Hid (∀ w', Below w.heap.size w w' → Calls Try.prog 15 #[.agg #[.int .i64 L, .slice ia its.length ic]] w' fun e w'' => e = .returned (.int .i64 (chkB L its)) ∧ Below w'.heap.size w' w'') := fun w' hb => bcheck_any L its ia ic w' (hT.below hb)
  have C2 : Hid (∀ w', Below w.heap.size w w' → Calls Try.prog 43 #[.int .i64 L, .int .i64 s, .slice ea l.length ec] w' fun e w'' => e = .returned (.int .i64 (evE L s l)) ∧ Below w'.heap.size w' w'') := fun w' hb => checkEvent_any L s l ea ec w' (hE.below hb)
  clear hT hE
  by_cases h0 : chkB L its = 0
  · by_cases h1 : evE L s l = 0
    · by_cases h2 : its.length + l.length ≤ 256
      · have E : Hid (addR L its s l = (0, s, its ++ nums s 0 l)) := by show _ = _; unfold addR; rw [if_pos h0, if_pos h1, if_pos h2]
        obtain ⟨e1, e2, e3, e4⟩ := chkB_ok h0
        obtain ⟨f1, f2, f3, f4⟩ := evE_ok h1
        have HC1 : Hid (∀ u ∈ its, chk u.2.2 = 0) := fun u hu => (effE_chk (okT_mem e4 u hu).2.2).1
        have HC2 : Hid (∀ u ∈ l, chk u.2 = 0) := fun u hu => (effE_chk (effsE_ok f4 u hu)).1
        rw [h0] at C1
        rw [h1] at C2
        clear h0 h1 e4 f4
        go_enter Try.func26, Try.ntmps26
        go_wp2_with fail
        refine (C1.out _ (below_two _ _ _)).mono ?_
        rintro e w1 ⟨rfl, hb1⟩
        have T1 : Hid (Two w w1 _ _) := Two.new w _ _ hb1
        have B1 : Hid (Below w.heap.size w w1) := nxt (below_two _ _ _) hb1
        clear hb1
        obtain ⟨x0, x1, y0, y1, z0, z1⟩ := two_cells2 T1.out
        go_wp2_with fail
        refine (C2.out _ B1.out).mono ?_
        rintro e w2 ⟨rfl, hb2⟩
        have T2 : Hid (Two w w2 _ _) := T1.out.below hb2
        have B2 : Hid (Below w.heap.size w w2) := nxt B1.out hb2
        clear hb2 x0 x1 y0 y1 z0 z1 T1 B1
        obtain ⟨x0, x1, y0, y1, z0, z1⟩ := two_cells2 T2.out
        go_wp2_with fail
        refine (cloneT_any its ia ic w2 (HT.out.below B2.out)).mono ?_
        rintro e w3 ⟨v3, rfl, hs3, hb3⟩
        have S3 : Hid (ShRow w2 w3 w2.heap.size v3 its) := hs3
        have B3 : Hid (Below w2.heap.size w2 w3) := hb3
        clear hs3 hb3 x0 x1 y0 y1 z0 z1
        go_wp2_with fail
        go_loopw [10, 41] (fun v i wr => ∃ (m : Nat), m ≤ l.length ∧ i = .int .i64 m ∧ Hid (ShRow w2 wr w2.heap.size v (its ++ nums s 0 (l.take m))) ∧ Hid (Below w2.heap.size w2 wr)) (fun _ i _ => l.length - (intOf i).toNat)
        case atStart => exact ⟨0, Nat.zero_le _, rfl, by simpa [nums] using S3, B3.out⟩
        case round =>
          obtain ⟨m, hm, rfl, HS, HW⟩ := hrel
          by_cases hlt : m < l.length
          · obtain ⟨b, o, k, bb, t, ka, kl, kc, ja, jl, jc, rfl, q0, q1, q2, q3, q4, q5, hl, hk⟩ := (HE.out.below B2.out).at m hlt
            replace q0 := keepc HW.out _ _ q0
            replace q1 := keepc HW.out _ _ q1
            replace q2 := keepc HW.out _ _ q2
            replace q3 := keepc HW.out _ _ q3
            replace q4 := keepc HW.out _ _ q4
            replace q5 := keepc HW.out _ _ q5
            have hm1 : (m : Int) < (l.length : Int) := by omega
            have HL : Hid (Lay w2 n (mk k bb t ka kl kc ja jl jc) l[m].2) := hl
            have HN : Hid (nums s 0 (l.take (m + 1)) = nums s 0 (l.take m) ++ [(32 * s + m, l[m].1, l[m].2)]) := nums_snoc s l m hlt
            have HLn : Hid ((its ++ nums s 0 (l.take m)).length ≤ 255) := by show _ ≤ _; rw [List.length_append, nums_length, List.length_take]; omega
            clear hl hk
            generalize l[m].1 = nm at *
            generalize l[m].2 = u at *
            have B4 : Hid (Below w2.heap.size w2 (wr.alloc (.cells #[.string nm, .int .i64 k, .int .u64 bb, .string t, .slice ka kl kc, .slice ja jl jc] 52))) := nxt HW.out (below_one _ _)
            have S4 : Hid (ShRow w2 (wr.alloc (.cells #[.string nm, .int .i64 k, .int .u64 bb, .string t, .slice ka kl kc, .slice ja jl jc] 52)) w2.heap.size u10 (its ++ nums s 0 (l.take m))) := HS.out.same (below_one _ _)
            have HA : Hid (∃ acc, its ++ nums s 0 (l.take m) = acc) := ⟨_, rfl⟩
            obtain ⟨acc, ha⟩ := HA.out
            clear HA
            rw [ha] at HLn S4
            have HA : Hid (its ++ nums s 0 (l.take m) = acc) := ha
            clear ha
            obtain ⟨r0, r1, r2, r3, r4, r5⟩ := box6 (heap_alloc_new wr (.cells #[.string nm, .int .i64 k, .int .u64 bb, .string t, .slice ka kl kc, .slice ja jl jc] 52))
            go_wp2_with fail
            go_region_law (first
              | (refine step_call2 rfl 31 (by intros; go_simp) _ _ _ rfl (.int .i64 s) (.int .i64 (m : Int)) (by first | (simp [Act.eval]; done) | simp [Act.eval, Act.put]) (by first | (simp [Act.eval]; done) | simp [Act.eval, Act.put]) (fun y w' => y = .int .i64 (32 * s + m) ∧ w' = (wr.alloc (.cells #[.string nm, .int .i64 k, .int .u64 bb, .string t, .slice ka kl kc, .slice ja jl jc] 52)).drew) ((idOf_any s m _ (by omega) (by omega) (by omega) (by omega)).mono fun e w' ⟨k1, k2⟩ => ⟨_, k1, rfl, k2⟩) ?_; intro y w4 hR; obtain ⟨rfl, hw4⟩ := hR; subst w4)
              | (refine step_pushSh (w0 := w2) rfl _ _ rfl w2.heap.size u10 acc (by first | (simp [Act.eval]; done) | simp [Act.eval, Act.put]) (S4.out.same (below_one _ _).drew) (32 * s + m, nm, u) k bb t ka kl kc ja jl jc HL.out ⟨wr.heap.size + 1, 0, none⟩ 1 (by first | (simp [Act.eval]; done) | simp [Act.eval, Act.put]) (fun j y hj => newCells2 wr _ _ _ j y (by simpa using hj)) (by have := HLn.out; omega) (by have := B4.out.size; simp at this ⊢; omega) ?_; intro v' w5 k1 k2))
            all_goals
              have S5 : Hid (ShRow w2 w5 w2.heap.size v' (its ++ nums s 0 (l.take (m + 1)))) := by
                rw [HN.out, ← List.append_assoc, HA.out]
                exact k1
              have B5 : Hid (Below w2.heap.size w2 w5) := (nxt B4.out (below_one _ _).drew).grown k2 (by have := B4.out.size; simp at this ⊢; omega) (fun g hg => by obtain ⟨xs, p1, _⟩ := HS.out; exact (p1.lt g hg).1)
              clear k1 k2 r0 r1 r2 r3 r4 r5 q0 q1 q2 q3 q4 q5
              go_wp2_with fail
              refine ⟨⟨m + 1, by omega, by go_num, S5.out, B5.out⟩, by simp [intOf]; omega⟩
          · have hme : m = l.length := by omega
            subst hme
            have S5 : Hid (ShRow w2 wr w2.heap.size u10 (its ++ nums s 0 l)) := by have := HS.out; rwa [List.take_length] at this
            have hlen5 : (its ++ nums s 0 l).length ≤ 256 := by rw [List.length_append, nums_length]; omega
            have hok5 : ∀ u ∈ its ++ nums s 0 l, TmOk u ∧ chk u.2.2 = 0 := by
              intro u hu
              rcases List.mem_append.1 hu with hu | hu
              · exact ⟨HT.out.2.2.2.2.2.1 u hu, HC1.out u hu⟩
              · obtain ⟨j, hj⟩ := List.getElem?_of_mem hu
                rw [nums_at] at hj
                cases hlj : l[j]? with
                | none => rw [hlj] at hj; simp at hj
                | some y =>
                  rw [hlj] at hj
                  simp only [Option.map_some, Option.some.injEq] at hj
                  have hy := List.mem_of_getElem? hlj
                  have hjl := (List.getElem?_eq_some_iff.1 hlj).1
                  rw [← hj]
                  exact ⟨⟨⟨by simp only; omega, by simp only; omega⟩, HE.out.2.2.2.2.2.1 y hy⟩, HC2.out y hy⟩
            obtain ⟨ia5, ic5, rfl, t5⟩ := S5.out.tis HW.out (by omega) (fun u hu => (hok5 u hu).1)
            have C5 : Hid (Calls Try.prog 45 #[.slice ia5 (its ++ nums s 0 l).length ic5] wr _) := bcopy_any _ ia5 ic5 wr t5 (fun u hu => (hok5 u hu).2)
            have T5 : Hid (Two w wr _ _) := T2.out.below HW.out
            have B5 : Hid (Below w.heap.size w wr) := nxt B2.out HW.out
            clear t5 hok5 hlen5 HS
            generalize its ++ nums s 0 l = acc at *
            go_wp2_with fail
            refine C5.out.mono ?_
            rintro e w6 ⟨v6, H6, rfl, h6⟩
            have T6 : Hid (Two w w6 _ _) := T5.out.below h6.2.2
            obtain ⟨a6, c6, rfl⟩ := h6.1.shape
            have H6' : Hid _ := h6
            clear h6
            obtain ⟨x0, x1, y0, y1, z0, z1⟩ := two_cells2 T6.out
            go_wp2_with fail
            refine bodyPost_ret (v := .tuple #[.agg #[.int .i64 s, .slice a6 acc.length c6], .int .i64 0]) (by simp [results, Try.results26, go_sem, y0, y1]) rfl ?_
            rw [E.out]
            exact ⟨_, H6, rfl, CopyInv.set2 H6'.out B5.out (by omega) (by have := lt_of_block T5.out.2; omega) _ _⟩
      · have E : Hid (addR L its s l = (51, 0, [])) := by show _ = _; unfold addR; rw [if_pos h0, if_pos h1, if_neg h2]
        obtain ⟨e1, e2, e3, e4⟩ := chkB_ok h0
        obtain ⟨f1, f2, f3, f4⟩ := evE_ok h1
        rw [h0] at C1
        rw [h1] at C2
        clear h0 h1 e4 f4
        go_enter Try.func26, Try.ntmps26
        go_wp2_with fail
        refine (C1.out _ (below_two _ _ _)).mono ?_
        rintro e w1 ⟨rfl, hb1⟩
        have T1 : Hid (Two w w1 _ _) := Two.new w _ _ hb1
        have B1 : Hid (Below w.heap.size w w1) := nxt (below_two _ _ _) hb1
        clear hb1
        obtain ⟨x0, x1, y0, y1, z0, z1⟩ := two_cells2 T1.out
        go_wp2_with fail
        refine (C2.out _ B1.out).mono ?_
        rintro e w2 ⟨rfl, hb2⟩
        have T2 : Hid (Two w w2 _ _) := T1.out.below hb2
        have B2 : Hid (Below w.heap.size w w2) := nxt B1.out hb2
        clear hb2 x0 x1 y0 y1 z0 z1 T1 B1
        obtain ⟨x0, x1, y0, y1, z0, z1⟩ := two_cells2 T2.out
        go_wp2_with fail
        refine bodyPost_ret (v := .tuple #[.agg #[.int .i64 0, .slice none 0 0], .int .i64 51]) (by simp [results, Try.results26, go_sem, y0, y1]) rfl ?_
        rw [E.out]
        exact ⟨_, _, rfl, CopyInv.none2 _ B2.out (by omega) _ _⟩
    · have E : Hid (addR L its s l = (evE L s l, 0, [])) := by show _ = _; unfold addR; rw [if_pos h0, if_neg h1]
      rw [h0] at C1
      generalize evE L s l = ee at *
      have hd3 : (ee == 0) = false := by simpa using h1
      have hd4 : (ee != 0) = true := by simpa using h1
      clear h0 h1
      go_enter Try.func26, Try.ntmps26
      go_wp2_with fail
      refine (C1.out _ (below_two _ _ _)).mono ?_
      rintro e w1 ⟨rfl, hb1⟩
      have T1 : Hid (Two w w1 _ _) := Two.new w _ _ hb1
      have B1 : Hid (Below w.heap.size w w1) := nxt (below_two _ _ _) hb1
      clear hb1
      obtain ⟨x0, x1, y0, y1, z0, z1⟩ := two_cells2 T1.out
      go_wp2_with fail
      refine (C2.out _ B1.out).mono ?_
      rintro e w2 ⟨rfl, hb2⟩
      have T2 : Hid (Two w w2 _ _) := T1.out.below hb2
      have B2 : Hid (Below w.heap.size w w2) := nxt B1.out hb2
      clear hb2 x0 x1 y0 y1 z0 z1 T1 B1
      obtain ⟨x0, x1, y0, y1, z0, z1⟩ := two_cells2 T2.out
      go_wp2_with fail
      refine bodyPost_ret (v := .tuple #[.agg #[.int .i64 0, .slice none 0 0], .int .i64 ee]) (by simp [results, Try.results26, go_sem, y0, y1]) rfl ?_
      rw [E.out]
      exact ⟨_, _, rfl, CopyInv.none2 _ B2.out (by omega) _ _⟩
  · have E : Hid (addR L its s l = (9, 0, [])) := by show _ = _; unfold addR; rw [if_neg h0]
    have h9 : chkB L its = 9 := (chkB_cases L its).resolve_left h0
    rw [h9] at C1
    clear h0 h9
    go_enter Try.func26, Try.ntmps26
    go_wp2_with fail
    refine (C1.out _ (below_two _ _ _)).mono ?_
    rintro e w1 ⟨rfl, hb1⟩
    have T1 : Hid (Two w w1 _ _) := Two.new w _ _ hb1
    have B1 : Hid (Below w.heap.size w w1) := nxt (below_two _ _ _) hb1
    clear hb1
    obtain ⟨x0, x1, y0, y1, z0, z1⟩ := two_cells2 T1.out
    go_wp2_with fail
    refine bodyPost_ret (v := .tuple #[.agg #[.int .i64 0, .slice none 0 0], .int .i64 9]) (by simp [results, Try.results26, go_sem, y0, y1]) rfl ?_
    rw [E.out]
    exact ⟨_, _, rfl, CopyInv.none2 _ B1.out (by omega) _ _⟩
end Go.Proofs.Ytfdbhojghkdlkaa
