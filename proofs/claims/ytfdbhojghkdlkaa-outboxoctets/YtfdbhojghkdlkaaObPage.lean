/-
  The page's Name and Check.
-/
import Derived.Test.YtfdbhojghkdlkaaJ16
import Derived.Test.YtfdbhojghkdlkaaVaRefWalk
namespace Go.Proofs.Ytfdbhojghkdlkaa
open Go.ChangeShapes Go.WideShapes Go.ChangeAt Go.RowKit

/-- May a text be a name? -/
def nmB (nm : ByteArray) : Bool := decide (1 ≤ nm.size) && decide (nm.size ≤ 16)

set_option maxRecDepth 100000 in
theorem name_any (nm : ByteArray) (w : World) (h : nm.size ≤ 140737488351232) : Calls Try.prog 35 #[.string nm] w fun e w' => e = .returned (.bool (nmB nm)) ∧ w' = w := by
  by_cases h1 : 1 ≤ nm.size
  · have h2 : (1 : Int) ≤ (nm.size : Int) := by omega
    have E : Hid (nmB nm = decide (nm.size ≤ 16)) := by show _ = _; simp [nmB, h1]
    go_enter Try.func35, Try.ntmps35
    go_wp2_with fail
    go_ret
    refine ⟨ret_bool ?_, rfl⟩
    rw [E.out]
    by_cases h3 : nm.size ≤ 16
    · rw [decide_eq_true h3]; simp; omega
    · rw [decide_eq_false h3]; simp; omega
  · have h2 : ¬ (1 : Int) ≤ (nm.size : Int) := by omega
    have h3 : decide ((1 : Int) ≤ (nm.size : Int)) = false := decide_eq_false h2
    have E : Hid (nmB nm = false) := by show _ = _; simp [nmB]; omega
    go_enter Try.func35, Try.ntmps35
    go_wp2_with fail
    go_ret
    exact ⟨ret_bool E.out.symm, rfl⟩

theorem effE_name {n : Nat} {nm : ByteArray} {u : V n} : effE nm u = 0 ↔ nmB nm = true ∧ chk u = 0 := by
  unfold effE nmB
  by_cases h : nm.size = 0 ∨ 16 < nm.size
  · rw [if_pos h]
    constructor
    · intro e; simp at e
    · intro e; simp at e; omega
  · rw [if_neg h]
    constructor
    · intro e; exact ⟨by simp; omega, e⟩
    · intro e; exact e.2

set_option maxRecDepth 100000 in
set_option maxHeartbeats 6400000 in
theorem rbcheck_any {n : Nat} (L : Int) (its : List (Tm n)) (ia : Option Addr) (ic : Nat) (w : World) (hT : TIs w n ia ic its) :
    Calls Try.prog 18 #[.agg #[.int .i64 L, .slice ia its.length ic]] w fun e w' => e = .returned (.int .i64 (chkB L its)) ∧ Below w.heap.size w w' := by
  have HT : Hid (TIs w n ia ic its) := hT
  have hlen := hT.2.2.1
  clear hT
  have X0 : Hid ((w.alloc (.cells #[.int .i64 L, .slice ia its.length ic] 24)).heap[w.heap.size]? = some (.cells #[.int .i64 L, .slice ia its.length ic] 24 (0, 0))) := heap_alloc_new _ _
  have B0 : Hid (Below w.heap.size w (w.alloc (.cells #[.int .i64 L, .slice ia its.length ic] 24))) := below_one _ _
  by_cases h0 : L < 0
  · have E : Hid (chkB L its = 9) := by show _ = _; unfold chkB; rw [if_neg (by omega)]
    go_enter Try.func18, Try.ntmps18
    go_wp2_with fail
    go_ret
    exact ⟨by rw [E.out]; rfl, B0.out⟩
  · by_cases h1 : 1099511627776 < L
    · have E : Hid (chkB L its = 9) := by show _ = _; unfold chkB; rw [if_neg (by omega)]
      go_enter Try.func18, Try.ntmps18
      go_wp2_with fail
      go_ret
      exact ⟨by rw [E.out]; rfl, B0.out⟩
    · by_cases h2 : 256 < its.length
      · have E : Hid (chkB L its = 9) := by show _ = _; unfold chkB; rw [if_neg (by omega)]
        go_enter Try.func18, Try.ntmps18
        go_wp2_with fail
        go_ret
        exact ⟨by rw [E.out]; rfl, B0.out⟩
      · have EC : Hid (chkB L its = if okT L 32 its = true then 0 else 9) := by
          show _ = _
          unfold chkB
          by_cases hk : okT L 32 its = true
          · rw [if_pos hk, if_pos (by refine ⟨by omega, by omega, by omega, hk⟩)]
          · rw [if_neg hk, if_neg (fun h => hk h.2.2.2)]
        have hL0 : 0 ≤ L := by omega
        have hL1 : L ≤ 1099511627776 := by omega
        have hn : its.length ≤ 256 := by omega
        clear h0 h1 h2
        go_enter Try.func18, Try.ntmps18
        go_wp2_with fail
        generalize w.alloc (.cells #[.int .i64 L, .slice ia its.length ic] 24) = W0 at *
        go_loopw [3] (fun i wr => ∃ (m : Nat) (lo : Int), m ≤ its.length ∧ i = .int .i64 m ∧ 32 ≤ lo ∧ lo ≤ 70368744177664 ∧ (m = 0 ∧ lo = 32 ∨ 0 < m ∧ (its[m - 1]?).map (fun u => u.1 + 1) = some lo) ∧ Hid (okT L 32 its = okT L lo (its.drop m)) ∧
            Hid (wr.heap[w.heap.size]? = some (.cells #[.int .i64 L, .slice ia its.length ic] 24 (0, 0))) ∧ Hid (Below w.heap.size w wr)) (fun i _ => its.length - (intOf i).toNat)
        case atStart => exact ⟨0, 32, Nat.zero_le _, rfl, by decide, by decide, Or.inl ⟨rfl, rfl⟩, (by show _ = _; rw [List.drop_zero]), X0.out, B0.out⟩
        case round =>
          obtain ⟨m, lo, hm, rfl, hlo, hlo2, hprev, HO, HB, HW⟩ := hrel
          have HPREV : Hid (m = 0 ∧ lo = 32 ∨ 0 < m ∧ (its[m - 1]?).map (fun u => u.1 + 1) = some lo) := hprev
          clear hprev
          obtain ⟨x0w, -⟩ := cell_of HB.out 0
          obtain ⟨x1w, -⟩ := cell_of HB.out 1
          simp only [List.getElem?_toArray, List.getElem?_cons_zero, List.getElem?_cons_succ] at x0w x1w
          by_cases hlt : m < its.length
          · have hTW := HT.out.below HW.out
            obtain ⟨b, o, k, bb, t, ka, kl, kc, ja, jl, jc, rfl, q0, q1, q2, q3, q4, q5, q6, hl, hk⟩ := hTW.at m hlt
            have hm1 : (m : Int) < (its.length : Int) := by omega
            have HD : Hid _ := okT_drop hlt lo HO.out
            have HLAST : Hid ((its[m + 1 - 1]?).map (fun u => u.1 + 1) = some (its[m].1 + 1)) := by show _ = _; simp [hlt]
            obtain ⟨⟨r1, r2⟩, r3⟩ := hk
            have C20 : ∀ w', Below wr.heap.size wr w' → Calls Try.prog 36 #[mk k bb t ka kl kc ja jl jc] w' fun e w'' => e = .returned (.int .i64 (chk its[m].2.2)) ∧ Below w'.heap.size w' w'' := fun w' hb => rcheck_any n _ _ w' (Lay.below n hl hb)
            have HEN : Hid (effE its[m].2.1 its[m].2.2 = 0 ↔ nmB its[m].2.1 = true ∧ chk its[m].2.2 = 0) := effE_name
            have NB0 : ∀ w', Calls Try.prog 35 #[.string its[m].2.1] w' fun e w'' => e = .returned (.bool (nmB its[m].2.1)) ∧ w'' = w' := fun w' => name_any _ _ r3
            have HPV : Hid (0 < m → ∃ pid, wr.cell? ⟨b, o + (m - 1) * 7, none⟩ = some (.int .i64 pid) ∧ lo = pid + 1) := by
              intro h0
              rcases HPREV.out with ⟨h, -⟩ | ⟨-, h⟩
              · omega
              · obtain ⟨b2, o2, -, -, -, -, -, -, -, -, -, e2, q, -⟩ := hTW.at (m - 1) (by omega)
                cases e2
                rw [List.getElem?_eq_getElem (by omega)] at h
                simp only [Option.map_some, Option.some.injEq] at h
                exact ⟨_, q, h.symm⟩
            clear hl hTW
            generalize effE its[m].2.1 its[m].2.2 = ef at *
            generalize chk its[m].2.2 = ee at *
            generalize nmB its[m].2.1 = nb at *
            generalize its[m].1 = id at *
            generalize its[m].2.1 = nm at *
            have B1 : Hid (Below wr.heap.size wr (wr.alloc (.cells #[.int .i64 id, .string nm, .int .i64 k, .int .u64 bb, .string t, .slice ka kl kc, .slice ja jl jc] 54))) := below_one _ _
            have X1 : Hid ((wr.alloc (.cells #[.int .i64 id, .string nm, .int .i64 k, .int .u64 bb, .string t, .slice ka kl kc, .slice ja jl jc] 54)).heap[wr.heap.size]? = some (.cells #[.int .i64 id, .string nm, .int .i64 k, .int .u64 bb, .string t, .slice ka kl kc, .slice ja jl jc] 54 (0, 0))) := heap_alloc_new _ _
            obtain ⟨z0, z1, z2, z3, z4, z5, z6⟩ := box7 X1.out
            have C2 : Hid (∀ s : Cls (wr.alloc (.cells #[.int .i64 id, .string nm, .int .i64 k, .int .u64 bb, .string t, .slice ka kl kc, .slice ja jl jc] 54)), Calls Try.prog 36 #[mk k bb t ka kl kc ja jl jc] s.1 fun e w'' => e = .returned (.int .i64 ee) ∧ Below s.1.heap.size s.1 w'') := fun s => C20 _ (nxt B1.out s.2)
            have NB : Hid (∀ s : Cls (wr.alloc (.cells #[.int .i64 id, .string nm, .int .i64 k, .int .u64 bb, .string t, .slice ka kl kc, .slice ja jl jc] 54)), Calls Try.prog 35 #[.string nm] s.1 fun e w'' => e = .returned (.bool nb) ∧ w'' = s.1) := fun s => NB0 _
            have x0 : ∀ s : Cls (wr.alloc (.cells #[.int .i64 id, .string nm, .int .i64 k, .int .u64 bb, .string t, .slice ka kl kc, .slice ja jl jc] 54)), s.1.cell? ⟨w.heap.size, 0, none⟩ = some (.int .i64 L) := fun s => Cls.cell (keepc B1.out _ _ x0w) s
            have x1 : ∀ s : Cls (wr.alloc (.cells #[.int .i64 id, .string nm, .int .i64 k, .int .u64 bb, .string t, .slice ka kl kc, .slice ja jl jc] 54)), s.1.cell? ⟨w.heap.size, 1, none⟩ = some (.slice (some ⟨b, o, none⟩) its.length ic) := fun s => Cls.cell (keepc B1.out _ _ x1w) s
            have y0 : ∀ s : Cls (wr.alloc (.cells #[.int .i64 id, .string nm, .int .i64 k, .int .u64 bb, .string t, .slice ka kl kc, .slice ja jl jc] 54)), s.1.cell? ⟨wr.heap.size, 0, none⟩ = some (.int .i64 id) := fun s => Cls.cell z0 s
            have y1 : ∀ s : Cls (wr.alloc (.cells #[.int .i64 id, .string nm, .int .i64 k, .int .u64 bb, .string t, .slice ka kl kc, .slice ja jl jc] 54)), s.1.cell? ⟨wr.heap.size, 1, none⟩ = some (.string nm) := fun s => Cls.cell z1 s
            have y2 : ∀ s : Cls (wr.alloc (.cells #[.int .i64 id, .string nm, .int .i64 k, .int .u64 bb, .string t, .slice ka kl kc, .slice ja jl jc] 54)), s.1.cell? ⟨wr.heap.size, 2, none⟩ = some (.int .i64 k) := fun s => Cls.cell z2 s
            have y3 : ∀ s : Cls (wr.alloc (.cells #[.int .i64 id, .string nm, .int .i64 k, .int .u64 bb, .string t, .slice ka kl kc, .slice ja jl jc] 54)), s.1.cell? ⟨wr.heap.size, 3, none⟩ = some (.int .u64 bb) := fun s => Cls.cell z3 s
            have y4 : ∀ s : Cls (wr.alloc (.cells #[.int .i64 id, .string nm, .int .i64 k, .int .u64 bb, .string t, .slice ka kl kc, .slice ja jl jc] 54)), s.1.cell? ⟨wr.heap.size, 4, none⟩ = some (.string t) := fun s => Cls.cell z4 s
            have y5 : ∀ s : Cls (wr.alloc (.cells #[.int .i64 id, .string nm, .int .i64 k, .int .u64 bb, .string t, .slice ka kl kc, .slice ja jl jc] 54)), s.1.cell? ⟨wr.heap.size, 5, none⟩ = some (.slice ka kl kc) := fun s => Cls.cell z5 s
            have y6 : ∀ s : Cls (wr.alloc (.cells #[.int .i64 id, .string nm, .int .i64 k, .int .u64 bb, .string t, .slice ka kl kc, .slice ja jl jc] 54)), s.1.cell? ⟨wr.heap.size, 6, none⟩ = some (.slice ja jl jc) := fun s => Cls.cell z6 s
            have inst : Nonempty (Cls (wr.alloc (.cells #[.int .i64 id, .string nm, .int .i64 k, .int .u64 bb, .string t, .slice ka kl kc, .slice ja jl jc] 54))) := ⟨⟨_, Below.refl _ _⟩⟩
            clear z0 z1 z2 z3 z4 z5 z6 C20 NB0
            have ha : IntKind.i64.wrap (L + 1) = L + 1 := by rw [IntKind.wrap_i64]; omega
            have hb : IntKind.i64.wrap (32 * (L + 1)) = 32 * (L + 1) := by rw [IntKind.wrap_i64]; omega
            by_cases c1 : id < 32
            · have hd1 : decide (id < 32) = true := by simpa using c1
              have E : Hid (chkB L its = 9) := by
                show _ = _
                rw [EC.out, HD.out, if_neg (by simp; omega)]
              go_wp2_with fail
              generalize (wr.alloc (.cells #[.int .i64 id, .string nm, .int .i64 k, .int .u64 bb, .string t, .slice ka kl kc, .slice ja jl jc] 54)) = W1 at *
              refine wp_region_cls (by kernel_rfl) (by kernel_rfl) ?_
              repeat (go_big_quiet_step (first | (go_at_call 35; exact Calls.cls_same (NB.out _)) | (go_at_call 36; exact Calls.cls (C2.out _))))
              refine wpQuiet_nil ?_
              intro _ hw'
              obtain ⟨s, hw''⟩ := hw'
              subst hw''
              have KS : Hid (Below wr.heap.size wr s.1) := nxt B1.out s.2
              go_wp2_with fail
              go_ret
              exact ⟨by rw [E.out]; rfl, nxt HW.out KS.out⟩
            · have hd1 : decide (id < 32) = false := by simpa using c1
              by_cases c2 : 32 * (L + 1) ≤ id
              · have hd2 : decide (32 * (L + 1) ≤ id) = true := by simpa using c2
                have E : Hid (chkB L its = 9) := by
                  show _ = _
                  rw [EC.out, HD.out, if_neg (by simp; omega)]
                go_wp2_with fail
                generalize (wr.alloc (.cells #[.int .i64 id, .string nm, .int .i64 k, .int .u64 bb, .string t, .slice ka kl kc, .slice ja jl jc] 54)) = W1 at *
                refine wp_region_cls (by kernel_rfl) (by kernel_rfl) ?_
                repeat (go_big_quiet_step (first | (go_at_call 35; exact Calls.cls_same (NB.out _)) | (go_at_call 36; exact Calls.cls (C2.out _))))
                refine wpQuiet_nil ?_
                intro _ hw'
                obtain ⟨s, hw''⟩ := hw'
                subst hw''
                have KS : Hid (Below wr.heap.size wr s.1) := nxt B1.out s.2
                go_wp2_with fail
                go_ret
                exact ⟨by rw [E.out]; rfl, nxt HW.out KS.out⟩
              · have hd2 : decide (32 * (L + 1) ≤ id) = false := by simpa using c2
                by_cases c0 : 0 < m
                · have hm0 : decide ((0 : Int) < (m : Int)) = true := by simp; omega
                  obtain ⟨pid, pq, rfl⟩ := HPV.out c0
                  have j1 : IntKind.i64.wrap ((m : Int) - 1) = (m : Int) - 1 := by rw [IntKind.wrap_i64]; omega
                  have j2 : ((m : Int) - 1).toNat = m - 1 := by omega
                  have j3 : 0 ≤ (m : Int) - 1 := by omega
                  have j4 : (m : Int) - 1 < (its.length : Int) := by omega
                  have p0 : ∀ s : Cls (wr.alloc (.cells #[.int .i64 id, .string nm, .int .i64 k, .int .u64 bb, .string t, .slice ka kl kc, .slice ja jl jc] 54)), s.1.cell? ⟨b, o + (m - 1) * 7, none⟩ = some (.int .i64 pid) := fun s => Cls.cell (keepc B1.out _ _ pq) s
                  by_cases c3 : id ≤ pid
                  · have hd3 : decide (id ≤ pid) = true := by simpa using c3
                    have E : Hid (chkB L its = 9) := by
                      show _ = _
                      rw [EC.out, HD.out, if_neg (by simp; omega)]
                    go_wp2_with fail
                    generalize (wr.alloc (.cells #[.int .i64 id, .string nm, .int .i64 k, .int .u64 bb, .string t, .slice ka kl kc, .slice ja jl jc] 54)) = W1 at *
                    refine wp_region_cls (by kernel_rfl) (by kernel_rfl) ?_
                    repeat (go_big_quiet_step (first | (go_at_call 35; exact Calls.cls_same (NB.out _)) | (go_at_call 36; exact Calls.cls (C2.out _))))
                    refine wpQuiet_nil ?_
                    intro _ hw'
                    obtain ⟨s, hw''⟩ := hw'
                    subst hw''
                    have KS : Hid (Below wr.heap.size wr s.1) := nxt B1.out s.2
                    go_wp2_with fail
                    go_ret
                    exact ⟨by rw [E.out]; rfl, nxt HW.out KS.out⟩
                  · have hd3 : decide (id ≤ pid) = false := by simpa using c3
                    cases nb
                    · have hef : ¬ ef = 0 := fun e => by have := (HEN.out.1 e).1; simp at this
                      have E : Hid (chkB L its = 9) := by
                        show _ = _
                        rw [EC.out, HD.out, if_neg (by simp [hef])]
                      go_wp2_with fail
                      generalize (wr.alloc (.cells #[.int .i64 id, .string nm, .int .i64 k, .int .u64 bb, .string t, .slice ka kl kc, .slice ja jl jc] 54)) = W1 at *
                      refine wp_region_cls (by kernel_rfl) (by kernel_rfl) ?_
                      repeat (go_big_quiet_step (first | (go_at_call 35; exact Calls.cls_same (NB.out _)) | (go_at_call 36; exact Calls.cls (C2.out _))))
                      refine wpQuiet_nil ?_
                      intro _ hw'
                      obtain ⟨s, hw''⟩ := hw'
                      subst hw''
                      have KS : Hid (Below wr.heap.size wr s.1) := nxt B1.out s.2
                      go_wp2_with fail
                      go_ret
                      exact ⟨by rw [E.out]; rfl, nxt HW.out KS.out⟩
                    · by_cases c5 : ee = 0
                      · subst c5
                        have hef : ef = 0 := HEN.out.2 ⟨rfl, rfl⟩
                        have EN : Hid (okT L 32 its = okT L (id + 1) (its.drop (m + 1))) := by
                          show _ = _
                          rw [HD.out, decide_eq_true (show pid + 1 ≤ id by omega), decide_eq_true (show id < 32 * (L + 1) by omega), decide_eq_true hef]
                          simp
                        go_wp2_with fail
                        generalize (wr.alloc (.cells #[.int .i64 id, .string nm, .int .i64 k, .int .u64 bb, .string t, .slice ka kl kc, .slice ja jl jc] 54)) = W1 at *
                        refine wp_region_cls (by kernel_rfl) (by kernel_rfl) ?_
                        repeat (go_big_quiet_step (first | (go_at_call 35; exact Calls.cls_same (NB.out _)) | (go_at_call 36; exact Calls.cls (C2.out _))))
                        refine wpQuiet_nil ?_
                        intro _ hw'
                        obtain ⟨s, hw''⟩ := hw'
                        subst hw''
                        have KS : Hid (Below wr.heap.size wr s.1) := nxt B1.out s.2
                        go_wp2_with fail
                        go_roundw
                        case rel => exact ⟨m + 1, id + 1, by omega, by go_num, by omega, by omega, (by show m + 1 = 0 ∧ _ ∨ 0 < m + 1 ∧ _; exact Or.inr ⟨by omega, HLAST.out⟩), EN.out, (KS.out.block _ (lt_of_block HB.out)).trans HB.out, nxt HW.out KS.out⟩
                        case measure => simp [intOf]; omega
                      · have hef : ¬ ef = 0 := fun e => c5 (HEN.out.1 e).2
                        have hd5 : (ee == 0) = false := by simpa using c5
                        have hd6 : (ee != 0) = true := by simpa using c5
                        have E : Hid (chkB L its = 9) := by
                          show _ = _
                          rw [EC.out, HD.out, if_neg (by simp [hef])]
                        go_wp2_with fail
                        generalize (wr.alloc (.cells #[.int .i64 id, .string nm, .int .i64 k, .int .u64 bb, .string t, .slice ka kl kc, .slice ja jl jc] 54)) = W1 at *
                        refine wp_region_cls (by kernel_rfl) (by kernel_rfl) ?_
                        repeat (go_big_quiet_step (first | (go_at_call 35; exact Calls.cls_same (NB.out _)) | (go_at_call 36; exact Calls.cls (C2.out _))))
                        refine wpQuiet_nil ?_
                        intro _ hw'
                        obtain ⟨s, hw''⟩ := hw'
                        subst hw''
                        have KS : Hid (Below wr.heap.size wr s.1) := nxt B1.out s.2
                        go_wp2_with fail
                        go_ret
                        exact ⟨by rw [E.out]; rfl, nxt HW.out KS.out⟩
                · have hm0 : decide ((0 : Int) < (m : Int)) = false := by simp; omega
                  have hlo3 : lo = 32 := by rcases HPREV.out with ⟨-, h⟩ | ⟨h, -⟩ <;> omega
                  subst hlo3
                  cases nb
                  · have hef : ¬ ef = 0 := fun e => by have := (HEN.out.1 e).1; simp at this
                    have E : Hid (chkB L its = 9) := by
                      show _ = _
                      rw [EC.out, HD.out, if_neg (by simp [hef])]
                    go_wp2_with fail
                    generalize (wr.alloc (.cells #[.int .i64 id, .string nm, .int .i64 k, .int .u64 bb, .string t, .slice ka kl kc, .slice ja jl jc] 54)) = W1 at *
                    refine wp_region_cls (by kernel_rfl) (by kernel_rfl) ?_
                    repeat (go_big_quiet_step (first | (go_at_call 35; exact Calls.cls_same (NB.out _)) | (go_at_call 36; exact Calls.cls (C2.out _))))
                    refine wpQuiet_nil ?_
                    intro _ hw'
                    obtain ⟨s, hw''⟩ := hw'
                    subst hw''
                    have KS : Hid (Below wr.heap.size wr s.1) := nxt B1.out s.2
                    go_wp2_with fail
                    go_ret
                    exact ⟨by rw [E.out]; rfl, nxt HW.out KS.out⟩
                  · by_cases c5 : ee = 0
                    · subst c5
                      have hef : ef = 0 := HEN.out.2 ⟨rfl, rfl⟩
                      have EN : Hid (okT L 32 its = okT L (id + 1) (its.drop (m + 1))) := by
                        show _ = _
                        rw [HD.out, decide_eq_true (show 32 ≤ id by omega), decide_eq_true (show id < 32 * (L + 1) by omega), decide_eq_true hef]
                        simp
                      go_wp2_with fail
                      generalize (wr.alloc (.cells #[.int .i64 id, .string nm, .int .i64 k, .int .u64 bb, .string t, .slice ka kl kc, .slice ja jl jc] 54)) = W1 at *
                      refine wp_region_cls (by kernel_rfl) (by kernel_rfl) ?_
                      repeat (go_big_quiet_step (first | (go_at_call 35; exact Calls.cls_same (NB.out _)) | (go_at_call 36; exact Calls.cls (C2.out _))))
                      refine wpQuiet_nil ?_
                      intro _ hw'
                      obtain ⟨s, hw''⟩ := hw'
                      subst hw''
                      have KS : Hid (Below wr.heap.size wr s.1) := nxt B1.out s.2
                      go_wp2_with fail
                      go_roundw
                      case rel => exact ⟨m + 1, id + 1, by omega, by go_num, by omega, by omega, (by show m + 1 = 0 ∧ _ ∨ 0 < m + 1 ∧ _; exact Or.inr ⟨by omega, HLAST.out⟩), EN.out, (KS.out.block _ (lt_of_block HB.out)).trans HB.out, nxt HW.out KS.out⟩
                      case measure => simp [intOf]; omega
                    · have hef : ¬ ef = 0 := fun e => c5 (HEN.out.1 e).2
                      have hd5 : (ee == 0) = false := by simpa using c5
                      have hd6 : (ee != 0) = true := by simpa using c5
                      have E : Hid (chkB L its = 9) := by
                        show _ = _
                        rw [EC.out, HD.out, if_neg (by simp [hef])]
                      go_wp2_with fail
                      generalize (wr.alloc (.cells #[.int .i64 id, .string nm, .int .i64 k, .int .u64 bb, .string t, .slice ka kl kc, .slice ja jl jc] 54)) = W1 at *
                      refine wp_region_cls (by kernel_rfl) (by kernel_rfl) ?_
                      repeat (go_big_quiet_step (first | (go_at_call 35; exact Calls.cls_same (NB.out _)) | (go_at_call 36; exact Calls.cls (C2.out _))))
                      refine wpQuiet_nil ?_
                      intro _ hw'
                      obtain ⟨s, hw''⟩ := hw'
                      subst hw''
                      have KS : Hid (Below wr.heap.size wr s.1) := nxt B1.out s.2
                      go_wp2_with fail
                      go_ret
                      exact ⟨by rw [E.out]; rfl, nxt HW.out KS.out⟩
          · have E : Hid (chkB L its = 0) := by
              show _ = _
              rw [EC.out, HO.out, List.drop_eq_nil_of_le (by omega)]
              rfl
            go_wp2_with fail
            go_ret
            exact ⟨by rw [E.out]; rfl, HW.out⟩
end Go.Proofs.Ytfdbhojghkdlkaa
