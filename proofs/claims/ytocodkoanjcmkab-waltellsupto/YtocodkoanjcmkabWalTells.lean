/-
  WalTells (Upto) holds for every log, all octets and every number up to the bound: what a record more makes of a log, its records, what is left behind a drop, are the page's; the log that was handed in stays.
-/
import Derived.Test.YtocodkoanjcmkabWlArgU
import Derived.Test.YtocodkoanjcmkabWlPApp
import Derived.Test.YtocodkoanjcmkabWlOf
import Derived.Test.YtocodkoanjcmkabWlPRec
import Derived.Deep.CondSized
import Derived.Deep.RegionHeld3
namespace Go.Proofs.Ytocodkoanjcmkab.walTells
open Go.ChangeShapes Go.WideShapes Go.ChangeAt Go.RowKit Go.Deep
open Se

theorem appR_len (ss : List (List UInt8)) (nx : Int) (d : List UInt8) : (appR ss nx d).2.2.length ≤ ss.length + 1 := by
  unfold appR
  split
  · simp
  · split
    · simp
    · split
      · simp
      · simp only [addS]
        split
        · split
          · simp
          · simp
        · simp
theorem drR_len (q : Int) : ∀ (ss : List (List UInt8)) (d : Int), (drR ss d q).length ≤ ss.length
  | [], _ => by simp [drR]
  | s :: ss, d => by
    simp only [drR]
    split
    · simp
    · have := drR_len q ss (wrap64 (d + (scR s d).1.length))
      simp
      omega
theorem dropR_len (ss : List (List UInt8)) (nx q : Int) : (dropR ss nx q).2.1.length ≤ ss.length := by
  unfold dropR
  split
  · simp
  · exact drR_len q ss _
theorem allR_len : ∀ (ss : List (List UInt8)) (d : Int), (∀ l ∈ ss, l.length ≤ 2000000) → (allR ss d).length ≤ ss.length * 2000000
  | [], _, _ => by simp [allR]
  | s :: ss, d, h => by
    have h1 := allR_len ss (wrap64 (d + (scR s d).1.length)) fun l hl => h l (List.mem_cons_of_mem _ hl)
    have h2 := scR_le s d
    have h3 := h s List.mem_cons_self
    simp only [allR, List.length_append, List.length_cons]
    omega
theorem recR_len (ss : List (List UInt8)) (nx : Int) (h : ∀ l ∈ ss, l.length ≤ 2000000) : (recR ss nx).2.length ≤ ss.length * 2000000 := by
  unfold recR
  split
  · simp
  · exact allR_len ss _ h

set_option maxRecDepth 100000 in
set_option maxHeartbeats 2400000 in
theorem walk (s : List (List UInt8) × Int) (x : Value) (d : List UInt8) (xd : Value) (sq : Int) (w : World) (hs : LgIs w x s) (hd : BytesIs w xd d) (_hq : (Lit.int .i64 sq).wf = true) (hsm : ∀ l ∈ s.1, l.length ≤ 2000000) (hsl : s.1.length ≤ 2000000) :
    Calls Try.prog 3 #[x, xd, .int .i64 sq] w fun e w' => e = .returned (.bool true) ∧ Below w.heap.size w w' := by
  obtain ⟨ss, nx⟩ := s
  obtain ⟨a, c, rfl, hS, hn, h1, h2⟩ := hs
  obtain ⟨ad, cd, rfl, hO, hdl⟩ := hd
  simp only at hS hn h1 h2 hsm hsl ⊢
  have HS : Hid (LayS w a ss) := hS
  have HD : Hid (Oct w ad cd d) := hO
  have HSM : Hid (∀ l ∈ ss, l.length ≤ 2000000) := hsm
  clear hS hO hsm
  obtain ⟨⟨er, pl, rs⟩, hR⟩ : ∃ R, appR ss nx d = R := ⟨_, rfl⟩
  obtain ⟨ny, hny⟩ : ∃ ny, nxtR ss nx d = ny := ⟨_, rfl⟩
  obtain ⟨⟨eq, qs⟩, hQ⟩ : ∃ Q, recR ss nx = Q := ⟨_, rfl⟩
  obtain ⟨⟨ed, zs, nz⟩, hZ⟩ : ∃ Z, dropR ss nx sq = Z := ⟨_, rfl⟩
  have HRL : Hid (rs.length ≤ 2000001) := by have := appR_len ss nx d; rw [hR] at this; show rs.length ≤ _; simp only at this; omega
  have HZL : Hid (zs.length ≤ 2000001) := by have := dropR_len ss nx sq; rw [hZ] at this; show zs.length ≤ _; simp only at this; omega
  have HQL : Hid (qs.length ≤ 200000000000000) := by
    show qs.length ≤ _
    have := recR_len ss nx HSM.out
    rw [hQ] at this
    simp only at this
    omega
  have HOF : Hid (∀ W, Below w.heap.size w W → Calls Try.prog 9 #[.agg #[.slice a ss.length c, .int .i64 nx]] W fun e w' => ∃ v, e = .returned (.agg #[v, .int .i64 nx]) ∧ OwnS w' W.heap.size v ss ∧ Below W.heap.size W w') := fun W hb => of_any ss nx a c W (HS.out.below hb) (by omega)
  have HAP : Hid (∀ W oa oc sa sc, LayS W oa ss → Oct W sa sc d → Calls Try.prog 11 #[.agg #[.slice oa ss.length oc, .int .i64 nx], .slice sa d.length sc] W fun e w' => ∃ va vc, e = .returned (.tuple #[.agg #[.slice va rs.length vc, .int .i64 ny], .int .i64 pl, .int .i64 er]) ∧ LayS w' va rs ∧ Below W.heap.size W w') := fun W oa oc sa sc k1 k2 => by
    have := append_any ss nx oa oc d sa sc W k1 (by omega) h1 h2 k2
    rw [hR, hny] at this
    refine this.mono ?_
    rintro e w' ⟨v, rfl, ho, hb⟩
    obtain ⟨va, vc, rfl⟩ := ho.shape
    exact ⟨va, vc, rfl, ho.lay, hb⟩
  have HRA : Hid (∀ W, Below w.heap.size w W → Calls Try.prog 12 #[.agg #[.slice a ss.length c, .int .i64 nx], .slice ad d.length cd] W fun e w' => ∃ va vc, e = .returned (.tuple #[.agg #[.slice va rs.length vc, .int .i64 ny], .int .i64 pl, .int .i64 er]) ∧ LayS w' va rs ∧ Below W.heap.size W w') := fun W hb => by
    have := rappend_any ss nx a c d ad cd W (HS.out.below hb) (by omega) HSM.out h1 h2 (HD.out.below hb)
    rw [hR, hny] at this
    refine this.mono ?_
    rintro e w' ⟨v, rfl, ho, hb⟩
    obtain ⟨va, vc, rfl⟩ := ho.shape
    exact ⟨va, vc, rfl, ho.lay, hb⟩
  have HRC : Hid (∀ W oa oc, LayS W oa ss → Calls Try.prog 13 #[.agg #[.slice oa ss.length oc, .int .i64 nx]] W fun e w' => ∃ va vc, e = .returned (.tuple #[.slice va qs.length vc, .int .i64 eq]) ∧ LayR w' va qs ∧ Below W.heap.size W w') := fun W oa oc k => by
    have := records_any ss nx oa oc W k (by omega) h1 h2
    rw [hQ] at this
    refine this.mono ?_
    rintro e w' ⟨v, rfl, ho, hb⟩
    obtain ⟨va, vc, rfl⟩ := ho.shape
    exact ⟨va, vc, rfl, ho.lay, hb⟩
  have HRR : Hid (∀ W, Below w.heap.size w W → Calls Try.prog 14 #[.agg #[.slice a ss.length c, .int .i64 nx]] W fun e w' => ∃ va vc, e = .returned (.tuple #[.slice va qs.length vc, .int .i64 eq]) ∧ LayR w' va qs ∧ Below W.heap.size W w') := fun W hb => by
    have := rrecords_any ss nx a c W (HS.out.below hb) (by omega) HSM.out h1 h2
    rw [hQ] at this
    refine this.mono ?_
    rintro e w' ⟨v, rfl, ho, hb⟩
    obtain ⟨va, vc, rfl⟩ := ho.shape
    exact ⟨va, vc, rfl, ho.lay, hb⟩
  have HDP : Hid (∀ W oa oc, LayS W oa ss → ss.length ≤ oc → oc ≤ 9223372036854775807 → Calls Try.prog 15 #[.agg #[.slice oa ss.length oc, .int .i64 nx], .int .i64 sq] W fun e w' => ∃ va vc, e = .returned (.tuple #[.agg #[.slice va zs.length vc, .int .i64 nz], .int .i64 ed]) ∧ LayS w' va zs ∧ Below W.heap.size W w') := fun W oa oc k k1 k2 => by
    have := drop_any ss nx sq oa oc W k (by omega) h1 h2 k1 k2
    rw [hZ] at this
    refine this.mono ?_
    rintro e w' ⟨v, rfl, ho, hb⟩
    obtain ⟨va, vc, rfl⟩ := ho.shape
    exact ⟨va, vc, rfl, ho.lay, hb⟩
  have HDR : Hid (∀ W, Below w.heap.size w W → Calls Try.prog 16 #[.agg #[.slice a ss.length c, .int .i64 nx], .int .i64 sq] W fun e w' => ∃ va vc, e = .returned (.tuple #[.agg #[.slice va zs.length vc, .int .i64 nz], .int .i64 ed]) ∧ LayS w' va zs ∧ Below W.heap.size W w') := fun W hb => by
    have := rdrop_any ss nx sq a c W (HS.out.below hb) (by omega) HSM.out h1 h2
    rw [hZ] at this
    exact this
  have HC1 : Hid (∀ W oa oc, LayS W oa ss → Calls Try.prog 20 #[.agg #[.slice oa ss.length oc, .int .i64 nx]] W fun e w' => e = .returned (.int .i64 (chkW ss nx)) ∧ Below W.heap.size W w') := fun W oa oc k => check_any ss nx oa oc W k (by omega) h1 h2
  have HC2 : Hid (∀ W, Below w.heap.size w W → Calls Try.prog 21 #[.agg #[.slice a ss.length c, .int .i64 nx]] W fun e w' => e = .returned (.int .i64 (chkW ss nx)) ∧ Below W.heap.size W w') := fun W hb => rcheck_any ss nx a c W (HS.out.below hb) (by omega) HSM.out h1 h2
  clear hR hny hQ hZ HSM
  generalize chkW ss nx = ck at *
  have X0 : Hid ((w.alloc (.cells #[.slice a ss.length c, .int .i64 nx] 24)).heap[w.heap.size]? = some (.cells #[.slice a ss.length c, .int .i64 nx] 24 (0, 0))) := heap_alloc_new _ _
  have B0 : Hid (Below w.heap.size w (w.alloc (.cells #[.slice a ss.length c, .int .i64 nx] 24))) := below_one _ _
  go_enter Try.func3, Try.ntmps3
  go_wp2_with fail
  refine (HOF.out _ B0.out).mono ?_
  rintro e w1 ⟨v1, rfl, ho1, hb1⟩
  obtain ⟨oa, oc, rfl⟩ := ho1.shape
  have hoc : ss.length ≤ oc ∧ oc ≤ 9223372036854775807 := by obtain ⟨xs, hr, -⟩ := ho1; exact cap_of_own hr
  have X1 : Hid (w1.heap[w.heap.size]? = some (.cells #[.slice a ss.length c, .int .i64 nx] 24 (0, 0))) := ((hb1).block _ (lt_of_block X0.out)).trans X0.out
  have B1 : Hid (Below w.heap.size w w1) := nxt B0.out hb1
  clear X0 B0
  have LO1 : Hid (LayS w1 oa ss) := ho1.lay
  clear ho1 hb1
  go_wp2_with fail
  refine (copyB_any ad cd d w1 (HD.out.below B1.out) hdl).mono ?_
  rintro e w2 ⟨s2, rfl, hs2, hb2⟩
  obtain ⟨sa, sc, rfl⟩ := hs2.shape
  have X2 : Hid (w2.heap[w.heap.size]? = some (.cells #[.slice a ss.length c, .int .i64 nx] 24 (0, 0))) := ((hb2).block _ (lt_of_block X1.out)).trans X1.out
  have B2 : Hid (Below w.heap.size w w2) := nxt B1.out hb2
  have LO2 : Hid (LayS w2 oa ss) := LO1.out.below hb2
  clear X1 B1 LO1
  have OI2 : Hid (Oct w2 sa sc d) := hs2.oct (by omega)
  clear hs2 hb2
  have X3 : Hid ((w2.alloc (.cells #[.slice oa ss.length oc, .int .i64 nx] 26)).heap[w.heap.size]? = some (.cells #[.slice a ss.length c, .int .i64 nx] 24 (0, 0))) := (((below_one _ _)).block _ (lt_of_block X2.out)).trans X2.out
  have B3 : Hid (Below w.heap.size w (w2.alloc (.cells #[.slice oa ss.length oc, .int .i64 nx] 26))) := nxt B2.out (below_one _ _)
  have LO3 : Hid (LayS (w2.alloc (.cells #[.slice oa ss.length oc, .int .i64 nx] 26)) oa ss) := LO2.out.below (below_one _ _)
  have OI3 : Hid (Oct (w2.alloc (.cells #[.slice oa ss.length oc, .int .i64 nx] 26)) sa sc d) := OI2.out.below (below_one _ _)
  clear X2 B2 LO2 OI2
  have KO3 : Hid ((w2.alloc (.cells #[.slice oa ss.length oc, .int .i64 nx] 26)).heap[w2.heap.size]? = some (.cells #[.slice oa ss.length oc, .int .i64 nx] 26 (0, 0))) := heap_alloc_new _ _
  go_upto_region 2 with fail
  generalize w2.alloc (.cells #[.slice oa ss.length oc, .int .i64 nx] 26) = w3 at *
  generalize w2.heap.size = gKO at *
  obtain ⟨x0, -⟩ := cell_of KO3.out 0
  obtain ⟨x1, -⟩ := cell_of KO3.out 1
  simp at x0 x1
  go_wp2_with fail
  refine (HAP.out _ oa oc sa sc LO3.out OI3.out).mono ?_
  rintro e w4 ⟨pa, pc, rfl, ho, hb4⟩
  clear x0 x1
  have X4 : Hid (w4.heap[w.heap.size]? = some (.cells #[.slice a ss.length c, .int .i64 nx] 24 (0, 0))) := ((hb4).block _ (lt_of_block X3.out)).trans X3.out
  have B4 : Hid (Below w.heap.size w w4) := nxt B3.out hb4
  have LO4 : Hid (LayS w4 oa ss) := LO3.out.below hb4
  have OI4 : Hid (Oct w4 sa sc d) := OI3.out.below hb4
  have KO4 : Hid (w4.heap[gKO]? = some (.cells #[.slice oa ss.length oc, .int .i64 nx] 26 (0, 0))) := ((hb4).block _ (lt_of_block KO3.out)).trans KO3.out
  clear X3 B3 LO3 OI3 KO3
  have LA4 : Hid (LayS w4 pa rs) := ho
  clear ho hb4
  have X5 : Hid ((w4.alloc (.cells #[.slice pa rs.length pc, .int .i64 ny] 26)).heap[w.heap.size]? = some (.cells #[.slice a ss.length c, .int .i64 nx] 24 (0, 0))) := (((below_one _ _)).block _ (lt_of_block X4.out)).trans X4.out
  have B5 : Hid (Below w.heap.size w (w4.alloc (.cells #[.slice pa rs.length pc, .int .i64 ny] 26))) := nxt B4.out (below_one _ _)
  have LO5 : Hid (LayS (w4.alloc (.cells #[.slice pa rs.length pc, .int .i64 ny] 26)) oa ss) := LO4.out.below (below_one _ _)
  have OI5 : Hid (Oct (w4.alloc (.cells #[.slice pa rs.length pc, .int .i64 ny] 26)) sa sc d) := OI4.out.below (below_one _ _)
  have KO5 : Hid ((w4.alloc (.cells #[.slice pa rs.length pc, .int .i64 ny] 26)).heap[gKO]? = some (.cells #[.slice oa ss.length oc, .int .i64 nx] 26 (0, 0))) := (((below_one _ _)).block _ (lt_of_block KO4.out)).trans KO4.out
  have LA5 : Hid (LayS (w4.alloc (.cells #[.slice pa rs.length pc, .int .i64 ny] 26)) pa rs) := LA4.out.below (below_one _ _)
  clear X4 B4 LO4 OI4 KO4 LA4
  have KA5 : Hid ((w4.alloc (.cells #[.slice pa rs.length pc, .int .i64 ny] 26)).heap[w4.heap.size]? = some (.cells #[.slice pa rs.length pc, .int .i64 ny] 26 (0, 0))) := heap_alloc_new _ _
  go_upto_region 3 with fail
  generalize w4.alloc (.cells #[.slice pa rs.length pc, .int .i64 ny] 26) = w5 at *
  generalize w4.heap.size = gKA at *
  obtain ⟨x0, -⟩ := cell_of X5.out 0
  obtain ⟨x1, -⟩ := cell_of X5.out 1
  simp at x0 x1
  go_wp2_with fail
  refine (HRA.out _ B5.out).mono ?_
  rintro e w6 ⟨qa, qc, rfl, ho, hb6⟩
  clear x0 x1
  have X6 : Hid (w6.heap[w.heap.size]? = some (.cells #[.slice a ss.length c, .int .i64 nx] 24 (0, 0))) := ((hb6).block _ (lt_of_block X5.out)).trans X5.out
  have B6 : Hid (Below w.heap.size w w6) := nxt B5.out hb6
  have LO6 : Hid (LayS w6 oa ss) := LO5.out.below hb6
  have OI6 : Hid (Oct w6 sa sc d) := OI5.out.below hb6
  have KO6 : Hid (w6.heap[gKO]? = some (.cells #[.slice oa ss.length oc, .int .i64 nx] 26 (0, 0))) := ((hb6).block _ (lt_of_block KO5.out)).trans KO5.out
  have LA6 : Hid (LayS w6 pa rs) := LA5.out.below hb6
  have KA6 : Hid (w6.heap[gKA]? = some (.cells #[.slice pa rs.length pc, .int .i64 ny] 26 (0, 0))) := ((hb6).block _ (lt_of_block KA5.out)).trans KA5.out
  clear X5 B5 LO5 OI5 KO5 LA5 KA5
  have LB6 : Hid (LayS w6 qa rs) := ho
  clear ho hb6
  have X7 : Hid ((w6.alloc (.cells #[.slice qa rs.length qc, .int .i64 ny] 24)).heap[w.heap.size]? = some (.cells #[.slice a ss.length c, .int .i64 nx] 24 (0, 0))) := (((below_one _ _)).block _ (lt_of_block X6.out)).trans X6.out
  have B7 : Hid (Below w.heap.size w (w6.alloc (.cells #[.slice qa rs.length qc, .int .i64 ny] 24))) := nxt B6.out (below_one _ _)
  have LO7 : Hid (LayS (w6.alloc (.cells #[.slice qa rs.length qc, .int .i64 ny] 24)) oa ss) := LO6.out.below (below_one _ _)
  have OI7 : Hid (Oct (w6.alloc (.cells #[.slice qa rs.length qc, .int .i64 ny] 24)) sa sc d) := OI6.out.below (below_one _ _)
  have KO7 : Hid ((w6.alloc (.cells #[.slice qa rs.length qc, .int .i64 ny] 24)).heap[gKO]? = some (.cells #[.slice oa ss.length oc, .int .i64 nx] 26 (0, 0))) := (((below_one _ _)).block _ (lt_of_block KO6.out)).trans KO6.out
  have LA7 : Hid (LayS (w6.alloc (.cells #[.slice qa rs.length qc, .int .i64 ny] 24)) pa rs) := LA6.out.below (below_one _ _)
  have KA7 : Hid ((w6.alloc (.cells #[.slice qa rs.length qc, .int .i64 ny] 24)).heap[gKA]? = some (.cells #[.slice pa rs.length pc, .int .i64 ny] 26 (0, 0))) := (((below_one _ _)).block _ (lt_of_block KA6.out)).trans KA6.out
  have LB7 : Hid (LayS (w6.alloc (.cells #[.slice qa rs.length qc, .int .i64 ny] 24)) qa rs) := LB6.out.below (below_one _ _)
  clear X6 B6 LO6 OI6 KO6 LA6 KA6 LB6
  have KB7 : Hid ((w6.alloc (.cells #[.slice qa rs.length qc, .int .i64 ny] 24)).heap[w6.heap.size]? = some (.cells #[.slice qa rs.length qc, .int .i64 ny] 24 (0, 0))) := heap_alloc_new _ _
  go_upto_region 4 with fail
  generalize w6.alloc (.cells #[.slice qa rs.length qc, .int .i64 ny] 24) = w7 at *
  generalize w6.heap.size = gKB at *
  obtain ⟨x0, -⟩ := cell_of KO7.out 0
  obtain ⟨x1, -⟩ := cell_of KO7.out 1
  simp at x0 x1
  go_wp2_with fail
  refine (HRC.out _ oa oc LO7.out).mono ?_
  rintro e w8 ⟨ra, rc, rfl, ho, hb8⟩
  clear x0 x1
  have X8 : Hid (w8.heap[w.heap.size]? = some (.cells #[.slice a ss.length c, .int .i64 nx] 24 (0, 0))) := ((hb8).block _ (lt_of_block X7.out)).trans X7.out
  have B8 : Hid (Below w.heap.size w w8) := nxt B7.out hb8
  have LO8 : Hid (LayS w8 oa ss) := LO7.out.below hb8
  have OI8 : Hid (Oct w8 sa sc d) := OI7.out.below hb8
  have KO8 : Hid (w8.heap[gKO]? = some (.cells #[.slice oa ss.length oc, .int .i64 nx] 26 (0, 0))) := ((hb8).block _ (lt_of_block KO7.out)).trans KO7.out
  have LA8 : Hid (LayS w8 pa rs) := LA7.out.below hb8
  have KA8 : Hid (w8.heap[gKA]? = some (.cells #[.slice pa rs.length pc, .int .i64 ny] 26 (0, 0))) := ((hb8).block _ (lt_of_block KA7.out)).trans KA7.out
  have LB8 : Hid (LayS w8 qa rs) := LB7.out.below hb8
  have KB8 : Hid (w8.heap[gKB]? = some (.cells #[.slice qa rs.length qc, .int .i64 ny] 24 (0, 0))) := ((hb8).block _ (lt_of_block KB7.out)).trans KB7.out
  clear X7 B7 LO7 OI7 KO7 LA7 KA7 LB7 KB7
  have LC8 : Hid (LayR w8 ra qs) := ho
  clear ho hb8
  obtain ⟨x0, -⟩ := cell_of X8.out 0
  obtain ⟨x1, -⟩ := cell_of X8.out 1
  simp at x0 x1
  go_wp2_with fail
  refine (HRR.out _ B8.out).mono ?_
  rintro e w9 ⟨ua, uc, rfl, ho, hb9⟩
  clear x0 x1
  have X9 : Hid (w9.heap[w.heap.size]? = some (.cells #[.slice a ss.length c, .int .i64 nx] 24 (0, 0))) := ((hb9).block _ (lt_of_block X8.out)).trans X8.out
  have B9 : Hid (Below w.heap.size w w9) := nxt B8.out hb9
  have LO9 : Hid (LayS w9 oa ss) := LO8.out.below hb9
  have OI9 : Hid (Oct w9 sa sc d) := OI8.out.below hb9
  have KO9 : Hid (w9.heap[gKO]? = some (.cells #[.slice oa ss.length oc, .int .i64 nx] 26 (0, 0))) := ((hb9).block _ (lt_of_block KO8.out)).trans KO8.out
  have LA9 : Hid (LayS w9 pa rs) := LA8.out.below hb9
  have KA9 : Hid (w9.heap[gKA]? = some (.cells #[.slice pa rs.length pc, .int .i64 ny] 26 (0, 0))) := ((hb9).block _ (lt_of_block KA8.out)).trans KA8.out
  have LB9 : Hid (LayS w9 qa rs) := LB8.out.below hb9
  have KB9 : Hid (w9.heap[gKB]? = some (.cells #[.slice qa rs.length qc, .int .i64 ny] 24 (0, 0))) := ((hb9).block _ (lt_of_block KB8.out)).trans KB8.out
  have LC9 : Hid (LayR w9 ra qs) := LC8.out.below hb9
  clear X8 B8 LO8 OI8 KO8 LA8 KA8 LB8 KB8 LC8
  have LD9 : Hid (LayR w9 ua qs) := ho
  clear ho hb9
  obtain ⟨x0, -⟩ := cell_of KO9.out 0
  obtain ⟨x1, -⟩ := cell_of KO9.out 1
  simp at x0 x1
  go_wp2_with fail
  refine (HDP.out _ oa oc LO9.out hoc.1 hoc.2).mono ?_
  rintro e w10 ⟨ya, yc, rfl, ho, hb10⟩
  clear x0 x1
  have X10 : Hid (w10.heap[w.heap.size]? = some (.cells #[.slice a ss.length c, .int .i64 nx] 24 (0, 0))) := ((hb10).block _ (lt_of_block X9.out)).trans X9.out
  have B10 : Hid (Below w.heap.size w w10) := nxt B9.out hb10
  have LO10 : Hid (LayS w10 oa ss) := LO9.out.below hb10
  have OI10 : Hid (Oct w10 sa sc d) := OI9.out.below hb10
  have KO10 : Hid (w10.heap[gKO]? = some (.cells #[.slice oa ss.length oc, .int .i64 nx] 26 (0, 0))) := ((hb10).block _ (lt_of_block KO9.out)).trans KO9.out
  have LA10 : Hid (LayS w10 pa rs) := LA9.out.below hb10
  have KA10 : Hid (w10.heap[gKA]? = some (.cells #[.slice pa rs.length pc, .int .i64 ny] 26 (0, 0))) := ((hb10).block _ (lt_of_block KA9.out)).trans KA9.out
  have LB10 : Hid (LayS w10 qa rs) := LB9.out.below hb10
  have KB10 : Hid (w10.heap[gKB]? = some (.cells #[.slice qa rs.length qc, .int .i64 ny] 24 (0, 0))) := ((hb10).block _ (lt_of_block KB9.out)).trans KB9.out
  have LC10 : Hid (LayR w10 ra qs) := LC9.out.below hb10
  have LD10 : Hid (LayR w10 ua qs) := LD9.out.below hb10
  clear X9 B9 LO9 OI9 KO9 LA9 KA9 LB9 KB9 LC9 LD9
  have LP10 : Hid (LayS w10 ya zs) := ho
  clear ho hb10
  have X11 : Hid ((w10.alloc (.cells #[.slice ya zs.length yc, .int .i64 nz] 26)).heap[w.heap.size]? = some (.cells #[.slice a ss.length c, .int .i64 nx] 24 (0, 0))) := (((below_one _ _)).block _ (lt_of_block X10.out)).trans X10.out
  have B11 : Hid (Below w.heap.size w (w10.alloc (.cells #[.slice ya zs.length yc, .int .i64 nz] 26))) := nxt B10.out (below_one _ _)
  have LO11 : Hid (LayS (w10.alloc (.cells #[.slice ya zs.length yc, .int .i64 nz] 26)) oa ss) := LO10.out.below (below_one _ _)
  have OI11 : Hid (Oct (w10.alloc (.cells #[.slice ya zs.length yc, .int .i64 nz] 26)) sa sc d) := OI10.out.below (below_one _ _)
  have KO11 : Hid ((w10.alloc (.cells #[.slice ya zs.length yc, .int .i64 nz] 26)).heap[gKO]? = some (.cells #[.slice oa ss.length oc, .int .i64 nx] 26 (0, 0))) := (((below_one _ _)).block _ (lt_of_block KO10.out)).trans KO10.out
  have LA11 : Hid (LayS (w10.alloc (.cells #[.slice ya zs.length yc, .int .i64 nz] 26)) pa rs) := LA10.out.below (below_one _ _)
  have KA11 : Hid ((w10.alloc (.cells #[.slice ya zs.length yc, .int .i64 nz] 26)).heap[gKA]? = some (.cells #[.slice pa rs.length pc, .int .i64 ny] 26 (0, 0))) := (((below_one _ _)).block _ (lt_of_block KA10.out)).trans KA10.out
  have LB11 : Hid (LayS (w10.alloc (.cells #[.slice ya zs.length yc, .int .i64 nz] 26)) qa rs) := LB10.out.below (below_one _ _)
  have KB11 : Hid ((w10.alloc (.cells #[.slice ya zs.length yc, .int .i64 nz] 26)).heap[gKB]? = some (.cells #[.slice qa rs.length qc, .int .i64 ny] 24 (0, 0))) := (((below_one _ _)).block _ (lt_of_block KB10.out)).trans KB10.out
  have LC11 : Hid (LayR (w10.alloc (.cells #[.slice ya zs.length yc, .int .i64 nz] 26)) ra qs) := LC10.out.below (below_one _ _)
  have LD11 : Hid (LayR (w10.alloc (.cells #[.slice ya zs.length yc, .int .i64 nz] 26)) ua qs) := LD10.out.below (below_one _ _)
  have LP11 : Hid (LayS (w10.alloc (.cells #[.slice ya zs.length yc, .int .i64 nz] 26)) ya zs) := LP10.out.below (below_one _ _)
  clear X10 B10 LO10 OI10 KO10 LA10 KA10 LB10 KB10 LC10 LD10 LP10
  have KP11 : Hid ((w10.alloc (.cells #[.slice ya zs.length yc, .int .i64 nz] 26)).heap[w10.heap.size]? = some (.cells #[.slice ya zs.length yc, .int .i64 nz] 26 (0, 0))) := heap_alloc_new _ _
  go_upto_region 7 with fail
  generalize w10.alloc (.cells #[.slice ya zs.length yc, .int .i64 nz] 26) = w11 at *
  generalize w10.heap.size = gKP at *
  obtain ⟨x0, -⟩ := cell_of X11.out 0
  obtain ⟨x1, -⟩ := cell_of X11.out 1
  simp at x0 x1
  go_wp2_with fail
  refine (HDR.out _ B11.out).mono ?_
  rintro e w12 ⟨za, zc, rfl, ho, hb12⟩
  clear x0 x1
  have X12 : Hid (w12.heap[w.heap.size]? = some (.cells #[.slice a ss.length c, .int .i64 nx] 24 (0, 0))) := ((hb12).block _ (lt_of_block X11.out)).trans X11.out
  have B12 : Hid (Below w.heap.size w w12) := nxt B11.out hb12
  have LO12 : Hid (LayS w12 oa ss) := LO11.out.below hb12
  have OI12 : Hid (Oct w12 sa sc d) := OI11.out.below hb12
  have KO12 : Hid (w12.heap[gKO]? = some (.cells #[.slice oa ss.length oc, .int .i64 nx] 26 (0, 0))) := ((hb12).block _ (lt_of_block KO11.out)).trans KO11.out
  have LA12 : Hid (LayS w12 pa rs) := LA11.out.below hb12
  have KA12 : Hid (w12.heap[gKA]? = some (.cells #[.slice pa rs.length pc, .int .i64 ny] 26 (0, 0))) := ((hb12).block _ (lt_of_block KA11.out)).trans KA11.out
  have LB12 : Hid (LayS w12 qa rs) := LB11.out.below hb12
  have KB12 : Hid (w12.heap[gKB]? = some (.cells #[.slice qa rs.length qc, .int .i64 ny] 24 (0, 0))) := ((hb12).block _ (lt_of_block KB11.out)).trans KB11.out
  have LC12 : Hid (LayR w12 ra qs) := LC11.out.below hb12
  have LD12 : Hid (LayR w12 ua qs) := LD11.out.below hb12
  have LP12 : Hid (LayS w12 ya zs) := LP11.out.below hb12
  have KP12 : Hid (w12.heap[gKP]? = some (.cells #[.slice ya zs.length yc, .int .i64 nz] 26 (0, 0))) := ((hb12).block _ (lt_of_block KP11.out)).trans KP11.out
  clear X11 B11 LO11 OI11 KO11 LA11 KA11 LB11 KB11 LC11 LD11 LP11 KP11
  have LQ12 : Hid (LayS w12 za zs) := ho
  clear ho hb12
  have X13 : Hid ((w12.alloc (.cells #[.slice za zs.length zc, .int .i64 nz] 24)).heap[w.heap.size]? = some (.cells #[.slice a ss.length c, .int .i64 nx] 24 (0, 0))) := (((below_one _ _)).block _ (lt_of_block X12.out)).trans X12.out
  have B13 : Hid (Below w.heap.size w (w12.alloc (.cells #[.slice za zs.length zc, .int .i64 nz] 24))) := nxt B12.out (below_one _ _)
  have LO13 : Hid (LayS (w12.alloc (.cells #[.slice za zs.length zc, .int .i64 nz] 24)) oa ss) := LO12.out.below (below_one _ _)
  have OI13 : Hid (Oct (w12.alloc (.cells #[.slice za zs.length zc, .int .i64 nz] 24)) sa sc d) := OI12.out.below (below_one _ _)
  have KO13 : Hid ((w12.alloc (.cells #[.slice za zs.length zc, .int .i64 nz] 24)).heap[gKO]? = some (.cells #[.slice oa ss.length oc, .int .i64 nx] 26 (0, 0))) := (((below_one _ _)).block _ (lt_of_block KO12.out)).trans KO12.out
  have LA13 : Hid (LayS (w12.alloc (.cells #[.slice za zs.length zc, .int .i64 nz] 24)) pa rs) := LA12.out.below (below_one _ _)
  have KA13 : Hid ((w12.alloc (.cells #[.slice za zs.length zc, .int .i64 nz] 24)).heap[gKA]? = some (.cells #[.slice pa rs.length pc, .int .i64 ny] 26 (0, 0))) := (((below_one _ _)).block _ (lt_of_block KA12.out)).trans KA12.out
  have LB13 : Hid (LayS (w12.alloc (.cells #[.slice za zs.length zc, .int .i64 nz] 24)) qa rs) := LB12.out.below (below_one _ _)
  have KB13 : Hid ((w12.alloc (.cells #[.slice za zs.length zc, .int .i64 nz] 24)).heap[gKB]? = some (.cells #[.slice qa rs.length qc, .int .i64 ny] 24 (0, 0))) := (((below_one _ _)).block _ (lt_of_block KB12.out)).trans KB12.out
  have LC13 : Hid (LayR (w12.alloc (.cells #[.slice za zs.length zc, .int .i64 nz] 24)) ra qs) := LC12.out.below (below_one _ _)
  have LD13 : Hid (LayR (w12.alloc (.cells #[.slice za zs.length zc, .int .i64 nz] 24)) ua qs) := LD12.out.below (below_one _ _)
  have LP13 : Hid (LayS (w12.alloc (.cells #[.slice za zs.length zc, .int .i64 nz] 24)) ya zs) := LP12.out.below (below_one _ _)
  have KP13 : Hid ((w12.alloc (.cells #[.slice za zs.length zc, .int .i64 nz] 24)).heap[gKP]? = some (.cells #[.slice ya zs.length yc, .int .i64 nz] 26 (0, 0))) := (((below_one _ _)).block _ (lt_of_block KP12.out)).trans KP12.out
  have LQ13 : Hid (LayS (w12.alloc (.cells #[.slice za zs.length zc, .int .i64 nz] 24)) za zs) := LQ12.out.below (below_one _ _)
  clear X12 B12 LO12 OI12 KO12 LA12 KA12 LB12 KB12 LC12 LD12 LP12 KP12 LQ12
  have KQ13 : Hid ((w12.alloc (.cells #[.slice za zs.length zc, .int .i64 nz] 24)).heap[w12.heap.size]? = some (.cells #[.slice za zs.length zc, .int .i64 nz] 24 (0, 0))) := heap_alloc_new _ _
  go_upto_region 8 with fail
  generalize w12.alloc (.cells #[.slice za zs.length zc, .int .i64 nz] 24) = w13 at *
  generalize w12.heap.size = gKQ at *
  clear HOF HAP HRA HRC HRR HDP HDR
  obtain ⟨x0, -⟩ := cell_of KA13.out 0
  obtain ⟨x1, -⟩ := cell_of KA13.out 1
  simp at x0 x1
  obtain ⟨y0, -⟩ := cell_of KB13.out 0
  obtain ⟨y1, -⟩ := cell_of KB13.out 1
  simp at y0 y1
  go_wp2_with fail
  have HAK := alike_any rs rs ny ny pa qa pc qc w13 LA13.out LB13.out (by have h : rs.length ≤ 2000001 := HRL.out; omega)
  rw [if_pos ⟨rfl, rfl⟩] at HAK
  refine HAK.mono ?_
  rintro e w14 ⟨rfl, hb14⟩
  clear HAK x0 x1 y0 y1
  have X14 : Hid (w14.heap[w.heap.size]? = some (.cells #[.slice a ss.length c, .int .i64 nx] 24 (0, 0))) := ((hb14).block _ (lt_of_block X13.out)).trans X13.out
  have B14 : Hid (Below w.heap.size w w14) := nxt B13.out hb14
  have LO14 : Hid (LayS w14 oa ss) := LO13.out.below hb14
  have OI14 : Hid (Oct w14 sa sc d) := OI13.out.below hb14
  have KO14 : Hid (w14.heap[gKO]? = some (.cells #[.slice oa ss.length oc, .int .i64 nx] 26 (0, 0))) := ((hb14).block _ (lt_of_block KO13.out)).trans KO13.out
  have LA14 : Hid (LayS w14 pa rs) := LA13.out.below hb14
  have KA14 : Hid (w14.heap[gKA]? = some (.cells #[.slice pa rs.length pc, .int .i64 ny] 26 (0, 0))) := ((hb14).block _ (lt_of_block KA13.out)).trans KA13.out
  have LB14 : Hid (LayS w14 qa rs) := LB13.out.below hb14
  have KB14 : Hid (w14.heap[gKB]? = some (.cells #[.slice qa rs.length qc, .int .i64 ny] 24 (0, 0))) := ((hb14).block _ (lt_of_block KB13.out)).trans KB13.out
  have LC14 : Hid (LayR w14 ra qs) := LC13.out.below hb14
  have LD14 : Hid (LayR w14 ua qs) := LD13.out.below hb14
  have LP14 : Hid (LayS w14 ya zs) := LP13.out.below hb14
  have KP14 : Hid (w14.heap[gKP]? = some (.cells #[.slice ya zs.length yc, .int .i64 nz] 26 (0, 0))) := ((hb14).block _ (lt_of_block KP13.out)).trans KP13.out
  have LQ14 : Hid (LayS w14 za zs) := LQ13.out.below hb14
  have KQ14 : Hid (w14.heap[gKQ]? = some (.cells #[.slice za zs.length zc, .int .i64 nz] 24 (0, 0))) := ((hb14).block _ (lt_of_block KQ13.out)).trans KQ13.out
  clear X13 B13 LO13 OI13 KO13 LA13 KA13 LB13 KB13 LC13 LD13 LP13 KP13 LQ13 KQ13
  clear hb14
  clear KA14
  clear KB14
  clear LA14
  clear LB14
  go_wp2_with (go_at_call 18; refine (num_any _ _).mono ?_; rintro e wz ⟨rfl, hwz⟩; subst wz)
  have HSA := same_any qs qs ra ua rc uc w14 LC14.out LD14.out (by have h : qs.length ≤ 200000000000000 := HQL.out; omega)
  simp only [decide_true] at HSA
  refine HSA.mono ?_
  rintro e w15 ⟨rfl, hb15⟩
  clear HSA
  have X15 : Hid (w15.heap[w.heap.size]? = some (.cells #[.slice a ss.length c, .int .i64 nx] 24 (0, 0))) := ((hb15).block _ (lt_of_block X14.out)).trans X14.out
  have B15 : Hid (Below w.heap.size w w15) := nxt B14.out hb15
  have LO15 : Hid (LayS w15 oa ss) := LO14.out.below hb15
  have OI15 : Hid (Oct w15 sa sc d) := OI14.out.below hb15
  have KO15 : Hid (w15.heap[gKO]? = some (.cells #[.slice oa ss.length oc, .int .i64 nx] 26 (0, 0))) := ((hb15).block _ (lt_of_block KO14.out)).trans KO14.out
  have LC15 : Hid (LayR w15 ra qs) := LC14.out.below hb15
  have LD15 : Hid (LayR w15 ua qs) := LD14.out.below hb15
  have LP15 : Hid (LayS w15 ya zs) := LP14.out.below hb15
  have KP15 : Hid (w15.heap[gKP]? = some (.cells #[.slice ya zs.length yc, .int .i64 nz] 26 (0, 0))) := ((hb15).block _ (lt_of_block KP14.out)).trans KP14.out
  have LQ15 : Hid (LayS w15 za zs) := LQ14.out.below hb15
  have KQ15 : Hid (w15.heap[gKQ]? = some (.cells #[.slice za zs.length zc, .int .i64 nz] 24 (0, 0))) := ((hb15).block _ (lt_of_block KQ14.out)).trans KQ14.out
  clear X14 B14 LO14 OI14 KO14 LC14 LD14 LP14 KP14 LQ14 KQ14
  clear hb15
  clear LC15
  clear LD15
  obtain ⟨x0, -⟩ := cell_of KP15.out 0
  obtain ⟨x1, -⟩ := cell_of KP15.out 1
  simp at x0 x1
  obtain ⟨y0, -⟩ := cell_of KQ15.out 0
  obtain ⟨y1, -⟩ := cell_of KQ15.out 1
  simp at y0 y1
  go_wp2_with (go_at_call 18; refine (num_any _ _).mono ?_; rintro e wz ⟨rfl, hwz⟩; subst wz)
  have HAK := alike_any zs zs nz nz ya za yc zc w15 LP15.out LQ15.out (by have h : zs.length ≤ 2000001 := HZL.out; omega)
  rw [if_pos ⟨rfl, rfl⟩] at HAK
  refine HAK.mono ?_
  rintro e w16 ⟨rfl, hb16⟩
  clear HAK x0 x1 y0 y1
  have X16 : Hid (w16.heap[w.heap.size]? = some (.cells #[.slice a ss.length c, .int .i64 nx] 24 (0, 0))) := ((hb16).block _ (lt_of_block X15.out)).trans X15.out
  have B16 : Hid (Below w.heap.size w w16) := nxt B15.out hb16
  have LO16 : Hid (LayS w16 oa ss) := LO15.out.below hb16
  have OI16 : Hid (Oct w16 sa sc d) := OI15.out.below hb16
  have KO16 : Hid (w16.heap[gKO]? = some (.cells #[.slice oa ss.length oc, .int .i64 nx] 26 (0, 0))) := ((hb16).block _ (lt_of_block KO15.out)).trans KO15.out
  have LP16 : Hid (LayS w16 ya zs) := LP15.out.below hb16
  have KP16 : Hid (w16.heap[gKP]? = some (.cells #[.slice ya zs.length yc, .int .i64 nz] 26 (0, 0))) := ((hb16).block _ (lt_of_block KP15.out)).trans KP15.out
  have LQ16 : Hid (LayS w16 za zs) := LQ15.out.below hb16
  have KQ16 : Hid (w16.heap[gKQ]? = some (.cells #[.slice za zs.length zc, .int .i64 nz] 24 (0, 0))) := ((hb16).block _ (lt_of_block KQ15.out)).trans KQ15.out
  clear X15 B15 LO15 OI15 KO15 LP15 KP15 LQ15 KQ15
  clear hb16
  clear KP16
  clear KQ16
  clear LP16
  clear LQ16
  go_wp2_with (go_at_call 18; refine (num_any _ _).mono ?_; rintro e wz ⟨rfl, hwz⟩; subst wz)
  have HKS : Hid (∀ W', Below w16.heap.size w16 W' → W'.cell? ⟨gKO, 0, none⟩ = some (.slice oa ss.length oc) ∧ W'.cell? ⟨gKO, 1, none⟩ = some (.int .i64 nx) ∧ W'.cell? ⟨w.heap.size, 0, none⟩ = some (.slice a ss.length c) ∧ W'.cell? ⟨w.heap.size, 1, none⟩ = some (.int .i64 nx)) := fun W' hb => ⟨keepc hb _ _ (cell_of KO16.out 0).1, keepc hb _ _ (cell_of KO16.out 1).1, keepc hb _ _ (cell_of X16.out 0).1, keepc hb _ _ (cell_of X16.out 1).1⟩
  have HK1 : Hid (∀ W', Below w16.heap.size w16 W' → Calls Try.prog 20 #[.agg #[.slice oa ss.length oc, .int .i64 nx]] W' fun e w' => e = .returned (.int .i64 ck) ∧ Below W'.heap.size W' w') := fun W' hb => HC1.out W' oa oc (LO16.out.below hb)
  have HK2 : Hid (∀ W', Below w16.heap.size w16 W' → Calls Try.prog 21 #[.agg #[.slice a ss.length c, .int .i64 nx]] W' fun e w' => e = .returned (.int .i64 ck) ∧ Below W'.heap.size W' w') := fun W' hb => HC2.out W' (nxt B16.out hb)
  have HK3 : Hid (∀ W', Below w16.heap.size w16 W' → Calls Try.prog 17 #[.agg #[.slice oa ss.length oc, .int .i64 nx], .agg #[.slice a ss.length c, .int .i64 nx]] W' fun e w' => e = .returned (.int .i64 0) ∧ Below W'.heap.size W' w') := fun W' hb => by
    have := alike_any ss ss nx nx oa a oc c W' (LO16.out.below hb) (HS.out.below (nxt B16.out hb)) (by omega)
    rw [if_pos ⟨rfl, rfl⟩] at this
    exact this
  have HK4 : Hid (∀ W', Below w16.heap.size w16 W' → Calls Try.prog 22 #[.slice sa d.length sc, .slice ad d.length cd] W' fun e w' => e = .returned (.bool true) ∧ w' = W') := fun W' hb => by
    have := sameB_any d d sa ad sc cd W' (OI16.out.below hb).1 (HD.out.below (nxt B16.out hb)).1
    simp only [beq_self_eq_true] at this
    exact this
  clear HC1 HC2 HS HD HRL HZL HQL hn hsl hdl hoc h1 h2 LO16 OI16 KO16 X16
  have hcur : Below w16.heap.size w16 w16.drew := (Below.refl _ _).drew
  have hN := HKS.out _ hcur
  go_region_held3 (fun W' => W'.cell? ⟨gKO, 0, none⟩ = some (.slice oa ss.length oc) ∧ W'.cell? ⟨gKO, 1, none⟩ = some (.int .i64 nx) ∧ W'.cell? ⟨w.heap.size, 0, none⟩ = some (.slice a ss.length c) ∧ W'.cell? ⟨w.heap.size, 1, none⟩ = some (.int .i64 nx)) (exact hN) (first
    | (go_at_call 20; refine (HK1.out _ hcur).mono ?_; rintro e wn ⟨rfl, hbn⟩; replace hcur := nxt hcur hbn; replace hN := HKS.out _ hcur)
    | (go_at_call 18; refine (num_any _ _).mono ?_; rintro e wz ⟨rfl, hwz⟩; subst wz)
    | (go_at_call 21; refine (HK2.out _ hcur).mono ?_; rintro e wn ⟨rfl, hbn⟩; replace hcur := nxt hcur hbn; replace hN := HKS.out _ hcur)
    | (go_at_call 17; refine (HK3.out _ hcur).mono ?_; rintro e wn ⟨rfl, hbn⟩; replace hcur := nxt hcur hbn; replace hN := HKS.out _ hcur)
    | (go_at_call 22; refine (HK4.out _ hcur).mono ?_; rintro e wz ⟨rfl, hwz⟩; subst wz)
    | (go_at_call 23; refine (alive_any _).mono ?_; rintro e wn ⟨rfl, hbn⟩; replace hcur := nxt hcur hbn; replace hN := HKS.out _ hcur))
  all_goals
    have BF : Hid (Below w.heap.size w wn) := nxt B16.out hcur
    clear hcur hN HKS
    go_wp2_with fail
    go_ret
    exact ⟨rfl, BF.out⟩

set_option maxRecDepth 100000 in
set_option maxHeartbeats 1600000 in
theorem lifted (os : Os) (started : os.Started) (H : Type) (enc : TypeId × Value → H) (F : Stop.Interp) :
    ReturnsInHanded {} Try.checked os 3 .any ((Rows.OpenSpec.upto Rows.walTellsSpec).pre6 enc Try.prog Try.f3 Rows.walTellsUptoRow.domain false) (((Rows.OpenSpec.upto Rows.walTellsSpec).at F).post enc Try.prog Try.f3 false true false false) := by
  refine returnsInHanded_of_cond_sized (C := Try.checked) (s := Rows.OpenSpec.upto Rows.walTellsSpec) (k := Rows.uptoSmall) rfl Try.own started (by kernel_rfl) Try.func3
    (OpenSpec.witness (enc := enc) (C := Try.checked) (s := Rows.OpenSpec.upto Rows.walTellsSpec) (k := Rows.uptoSmall) rfl false ⟨#[], #[.agg #[.slice none 0 0, .int .i64 0], .slice none 0 0, .int .i64 0], []⟩ 8 (by kernel_rfl) (by kernel_rfl) (by kernel_rfl)
      (x := ([.agg [.nil, .lit (.int .i64 0)], .nil, .lit (.int .i64 0)], [], [])) (by kernel_rfl) rfl (by kernel_rfl)) ?_
  intro W base args ds gs before hval0 hW _ hk hsz0 _
  have hsz : (DataW.weightsEach Try.prog (Try.f3.params.toList ++ Rows.walTellsSpec.plain.varTypes Try.prog) (ds ++ gs)).all (· ≤ reachBytes) = true := hsz0
  have hval : ∀ (j : Nat) t v, Try.f3.params[j]? = some t → args[j]? = some v → Value.okWide Try.prog W .any base t v := hval0
  have hW' := hW
  obtain ⟨p, q, hA0, hV, rfl, hfz, hnd⟩ := hW'
  have hA : DataW.TrodAll enc Try.prog W 0 (fun _ => true) true Try.f3.params.toList args.toList ds p := hA0
  rw [Try.params3] at hA hval hsz
  obtain ⟨v0, vs0, d0, ds0, p0, q0, hargs, rfl, rfl, h0, r0⟩ := trodAll_cons hA
  obtain ⟨v1, vs1, d1, ds1, p1, q1, rfl, rfl, rfl, h1, r1⟩ := trodAll_cons r0
  obtain ⟨v2, vs2, d2, ds2, p2, q2, rfl, rfl, rfl, h2, r2⟩ := trodAll_cons r1
  obtain ⟨rfl, rfl, rfl⟩ := trodAll_nil r2
  obtain rfl : args = #[v0, v1, v2] := by cases args; simp_all
  obtain ⟨rfl, rfl⟩ := trodVars_none hV
  clear hA0 hval0
  have hW' := hW
  simp only [List.append_nil] at hW' hsz hk
  have hlt : ∀ x ∈ p0 ++ p1 ++ p2, x.block < W.heap.size := fun x hx => hW'.lt x (by simpa using hx)
  have hall : ∀ x ∈ DataW.weightsEach Try.prog [24, 25, 3] [d0, d1, d2], x ≤ reachBytes := fun x hx => of_decide_eq_true (List.all_eq_true.1 hsz x hx)
  have hb := of_decide_eq_true hk
  simp only [Rows.uptoBulkAll] at hb
  have g0 : ∀ x ∈ d0.weights Try.prog 24, x ≤ reachBytes := fun x hx => hall x (DataW.weights_mem_each (j := 0) rfl rfl x hx)
  obtain ⟨u0, l0, m0, m0'⟩ := lg_bulk_arg (hval 0 _ v0 rfl rfl) h0 g0
  have g1 : ∀ x ∈ d1.weights Try.prog 25, x ≤ reachBytes := fun x hx => hall x (DataW.weights_mem_each (j := 1) rfl rfl x hx)
  obtain ⟨u1, l1⟩ := bytes_of_arg (hval 1 _ v1 rfl rfl) h1 g1
  obtain ⟨a2, rfl, rfl, rfl, w2⟩ := open_int Try.underlying3 (hval 2 3 v2 rfl rfl) h2
  refine (walk u0 v0 u1 v1 a2 W l0 l1 w2 (fun l hl => by have := m0 l hl; omega) (by omega)).mono fun e W' ⟨he, bel⟩ => ?_
  subst he
  exact ⟨_, rfl, _, _, _, [], _, [], hW', trodAll_mk1 (shut_bool Try.underlying4 _), (trodAll_cons_mk (Below.trod Try.laidOut (by kernel_rfl) (of_decide_eq_true (by kernel_rfl)) h0 bel (fun x hx => hlt x (by simp [hx]))) (trodAll_cons_mk (Below.trod Try.laidOut (by kernel_rfl) (of_decide_eq_true (by kernel_rfl)) h1 bel (fun x hx => hlt x (by simp [hx]))) (trodAll_cons_mk (shut_int Try.underlying3 w2) trodAll_mk0))), rfl, bel.frame _, fun h => by cases h⟩

/-- THE STATEMENT. -/
theorem proved : Rows.WalTellsUptoSaid :=
  OpenClaim.holds_of_cond 3 Try.f3 rfl rfl rfl rfl rfl rfl rfl ⟨rfl, rfl, rfl, rfl, rfl⟩ rfl rfl rfl rfl rfl (by kernel_rfl) Try.func3 (by kernel_rfl)
    (of_decide_eq_true (by kernel_rfl)) (by unfold Func.isWrapper; first | (rw [if_pos (by decide +kernel)]; kernel_rfl) | (rw [if_neg (by decide +kernel)]; exact ⟨rfl, rfl⟩))
    (fun os started H enc _ F => lifted os started H enc F)
#print axioms proved
end Go.Proofs.Ytocodkoanjcmkab.walTells
