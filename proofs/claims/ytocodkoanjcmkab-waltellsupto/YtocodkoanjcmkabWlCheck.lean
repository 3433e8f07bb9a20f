/-
  Logs that lie in memory; the program's oldest and Check.
-/
import Derived.Test.YtocodkoanjcmkabWlScan
namespace Go.Proofs.Ytocodkoanjcmkab
open Go.ChangeShapes Go.WideShapes Go.ChangeAt Go.RowKit Go.Deep
open Se

/-- Segments that lie somewhere. -/
def LayS (w : World) (a : Option Addr) (ss : List (List UInt8)) : Prop :=
  ∀ i l, ss[i]? = some l → ∃ b off a' c', a = some ⟨b, off, none⟩ ∧ w.cell? ⟨b, off + i, none⟩ = some (.slice a' l.length c') ∧ Oct w a' c' l ∧ l.length ≤ 140737488351232
theorem LayS.below {w w' : World} {a : Option Addr} {ss : List (List UInt8)} (h : LayS w a ss) (hb : Below w.heap.size w w') : LayS w' a ss := by
  intro i l hi
  obtain ⟨b, off, a', c', h1, h2, h3, h4⟩ := h i l hi
  exact ⟨b, off, a', c', h1, keepc hb _ _ h2, h3.below hb, h4⟩
theorem LayS.nil (w : World) (a : Option Addr) : LayS w a [] := fun i l h => by simp at h

/-- The number of the first record. -/
def oldR : List (List UInt8) → Int → Int
  | [], nx => nx
  | s :: _, _ => (tkR s).1
/-- The numbers rise throughout: the next one. -/
def runS : List (List UInt8) → Int → Option Int
  | [], d => some d
  | s :: ss, d => if s.length = 0 ∨ 480 < s.length then none else if (scR s d).2 < s.length then none else runS ss (wrap64 (d + (scR s d).1.length))
def chkW (ss : List (List UInt8)) (nx : Int) : Int :=
  if nx < 1 ∨ 1099511627776 < nx ∨ 64 < ss.length then 9 else if oldR ss nx < 1 then 9 else if runS ss (oldR ss nx) = some nx then 0 else 9

theorem oldR_le {ss : List (List UInt8)} {nx : Int} (h1 : -9223372036854775808 ≤ nx) (h2 : nx ≤ 9223372036854775807) : -9223372036854775808 ≤ oldR ss nx ∧ oldR ss nx ≤ 9223372036854775807 := by
  cases ss with
  | nil => exact ⟨h1, h2⟩
  | cons s ss =>
    simp only [oldR]
    by_cases h : (tkR s).2.2.2 = true
    · have := tkR_facts h
      omega
    · have e : (tkR s).1 = 0 := by
        unfold tkR at h ⊢
        repeat' split at h
        all_goals simp_all
      omega

set_option maxRecDepth 100000 in
set_option maxHeartbeats 1600000 in
theorem oldest_any (ss : List (List UInt8)) (nx : Int) (a : Option Addr) (c : Nat) (w : World) (hS : LayS w a ss) :
    Calls Try.prog 35 #[.agg #[.slice a ss.length c, .int .i64 nx]] w fun e w' => e = .returned (.int .i64 (oldR ss nx)) ∧ Below w.heap.size w w' := by
  cases ss with
  | nil =>
    have h0 : (((List.length ([] : List (List UInt8)) : Nat) : Int) == 0) = true := rfl
    go_enter Try.func35, Try.ntmps35
    go_wp2_with fail
    go_ret
    exact ⟨rfl, below_one _ _⟩
  | cons s ss =>
    have HO : Hid (oldR (s :: ss) nx = (tkR s).1) := rfl
    generalize oldR (s :: ss) nx = R at *
    obtain ⟨b, off, a1, c1, rfl, q1, q2, q3⟩ := hS 0 s rfl
    have HT : Hid (Calls Try.prog 41 #[.slice a1 s.length c1] (w.alloc (.cells #[.slice (some ⟨b, off, none⟩) (s :: ss).length c, .int .i64 nx] 26)) (TkPost (w.alloc (.cells #[.slice (some ⟨b, off, none⟩) (s :: ss).length c, .int .i64 nx] 26)) (tkR s))) := take_any a1 c1 s _ (q2.below (below_one _ _))
    have q1' : ∀ o, (w.alloc o).cell? ⟨b, off, none⟩ = some (.slice a1 s.length c1) := fun o => keepc (below_one _ _) _ _ q1
    have hlen : 0 < (s :: ss).length := by simp
    have h0 : (((s :: ss).length : Int) == 0) = false := by simp; omega
    clear hS q1 q2
    generalize (s :: ss).length = L at *
    generalize tkR s = T at *
    obtain ⟨sq, dd, n, ok⟩ := T
    have hl2 : (0 : Int) < L := by omega
    go_enter Try.func35, Try.ntmps35
    go_wp2_with (go_at_call 41; refine HT.out.mono ?_; rintro e w1 ⟨a2, c2, rfl, -, hb1⟩; have HB1 : Hid (Below w.heap.size w w1) := nxt (below_one _ _) hb1; clear hb1)
    go_ret
    exact ⟨by rw [HO.out]; rfl, nxt HB1.out (below_one _ _)⟩

set_option maxRecDepth 100000 in
set_option maxHeartbeats 3200000 in
theorem check_any (ss : List (List UInt8)) (nx : Int) (a : Option Addr) (c : Nat) (w : World) (hS : LayS w a ss) (hn : ss.length ≤ 200000000000000) (h1 : -9223372036854775808 ≤ nx) (h2 : nx ≤ 9223372036854775807) :
    Calls Try.prog 20 #[.agg #[.slice a ss.length c, .int .i64 nx]] w fun e w' => e = .returned (.int .i64 (chkW ss nx)) ∧ Below w.heap.size w w' := by
  have HS : Hid (LayS w a ss) := hS
  clear hS
  unfold chkW
  have B0 : Hid (Below w.heap.size w (w.alloc (.cells #[.slice a ss.length c, .int .i64 nx] 26))) := below_one _ _
  by_cases hA : nx < 1 ∨ 1099511627776 < nx ∨ 64 < ss.length
  · rw [if_pos hA]
    have hb : (nx < 1) ∨ (¬ nx < 1 ∧ 1099511627776 < nx) ∨ (¬ nx < 1 ∧ ¬ 1099511627776 < nx ∧ (64 : Int) < ss.length) := by omega
    clear hA
    rcases hb with q | ⟨q, q'⟩ | ⟨q, q', q''⟩
    all_goals
      go_enter Try.func20, Try.ntmps20
      go_wp2_with fail
      go_ret
      exact ⟨rfl, B0.out⟩
  rw [if_neg hA]
  have hA1 : ¬ nx < 1 := by omega
  have hA2 : ¬ 1099511627776 < nx := by omega
  have hA3 : ¬ (64 : Int) < ss.length := by omega
  clear hA
  have HOL : Hid (∀ w', Below w.heap.size w w' → Calls Try.prog 35 #[.agg #[.slice a ss.length c, .int .i64 nx]] w' fun e w'' => e = .returned (.int .i64 (oldR ss nx)) ∧ Below w'.heap.size w' w'') := fun w' hb => oldest_any ss nx a c w' (HS.out.below hb)
  obtain ⟨hd1, hd2⟩ := oldR_le (ss := ss) h1 h2
  generalize oldR ss nx = d0 at *
  by_cases hB : d0 < 1
  · rw [if_pos hB]
    go_enter Try.func20, Try.ntmps20
    go_wp2_with (go_at_call 35; refine (HOL.out _ B0.out).mono ?_; rintro e w1 ⟨rfl, hb1⟩; have HB1 : Hid (Below w.heap.size w w1) := nxt B0.out hb1; clear hb1)
    go_ret
    exact ⟨rfl, HB1.out⟩
  rw [if_neg hB]
  have HR1 : Hid (runS ss d0 = some nx → (if runS ss d0 = some nx then 0 else 9 : Int) = 0) := fun h => if_pos h
  have HR2 : Hid ((runS ss d0 = some nx → False) → (if runS ss d0 = some nx then 0 else 9 : Int) = 9) := fun h => if_neg h
  generalize (if runS ss d0 = some nx then 0 else 9 : Int) = R at *
  go_enter Try.func20, Try.ntmps20
  go_wp2_with (go_at_call 35; refine (HOL.out _ B0.out).mono ?_; rintro e w1 ⟨rfl, hb1⟩; have HB1 : Hid (Below w.heap.size w w1) := nxt B0.out hb1; have HX1 : Hid (w1.heap[w.heap.size]? = some (.cells #[.slice a ss.length c, .int .i64 nx] 26 (0, 0))) := (hb1.block _ (by simp)).trans (heap_alloc_new _ _); obtain ⟨x0, -⟩ := cell_of HX1.out 0; obtain ⟨x1, -⟩ := cell_of HX1.out 1; simp at x0 x1; clear hb1)
  clear x0 x1 HOL B0
  go_loopw [3, 29] (fun y i wr => ∃ (z : Int) (m : Nat), y = .int .i64 z ∧ i = .int .i64 m ∧ m ≤ ss.length ∧ -9223372036854775808 ≤ z ∧ z ≤ 9223372036854775807 ∧ Hid (runS ss d0 = runS (ss.drop m) z) ∧ Hid (Below w1.heap.size w1 wr)) (fun _ i _ => ss.length - (intOf i).toNat)
  case atStart => exact ⟨d0, 0, rfl, rfl, by omega, hd1, hd2, rfl, Below.refl _ _⟩
  case round =>
    obtain ⟨z, m, rfl, rfl, hm, hz1, hz2, HE, HB⟩ := hrel
    have HBW : Hid (Below w.heap.size w wr) := nxt HB1.out HB.out
    by_cases hlt : m < ss.length
    · have hltb : (m : Int) < (ss.length : Int) := by omega
      obtain ⟨l, hl⟩ : ∃ l, ss[m]? = some l := ⟨_, List.getElem?_eq_getElem hlt⟩
      have HDR : Hid (ss.drop m = l :: ss.drop (m + 1)) := by
        show _ = _
        rw [List.drop_eq_getElem_cons hlt]
        rw [List.getElem?_eq_getElem hlt] at hl
        simp only [Option.some.injEq] at hl
        rw [hl]
      obtain ⟨b, off, a1, c1, rfl, q1, q2, q3⟩ := (HS.out.below HBW.out) m l hl
      have HRN : Hid (runS (ss.drop m) z = if l.length = 0 ∨ 480 < l.length then none else if (scR l z).2 < l.length then none else runS (ss.drop (m + 1)) (wrap64 (z + (scR l z).1.length))) := by
        show _ = _
        rw [HDR.out]
        rfl
      have HQ : Hid (Oct wr a1 c1 l) := q2
      clear hl q2 HDR
      by_cases hC : l.length = 0 ∨ 480 < l.length
      · have HR : Hid (R = 9) := HR2.out (by rw [HE.out, HRN.out, if_pos hC]; simp)
        have hbb : ((l.length : Int) == 0) = true ∨ (((l.length : Int) == 0) = false ∧ (480 : Int) < l.length) := by
          rcases hC with h | h
          · exact Or.inl (by simp [h])
          · exact Or.inr ⟨beq_eq_false_iff_ne.2 (by omega), by omega⟩
        clear HR1 HR2 HRN HE
        rcases hbb with h | ⟨h, h'⟩
        all_goals
          go_wp2_with fail
          go_ret
          exact ⟨by rw [HR.out]; rfl, HBW.out⟩
      · have hC1 : ((l.length : Int) == 0) = false := beq_eq_false_iff_ne.2 (by omega)
        have hC2 : ¬ (480 : Int) < l.length := by omega
        have HSC : Hid (Calls Try.prog 26 #[.slice a1 l.length c1, .int .i64 z] wr _) := scan_any a1 c1 l z wr HQ.out (by omega) hz1 hz2
        have hle := scR_le l z
        rw [if_neg hC] at HRN
        generalize scR l z = T at *
        obtain ⟨rs, n⟩ := T
        simp only at HRN HSC hle
        by_cases hD : n < l.length
        · have HR : Hid (R = 9) := HR2.out (by rw [HE.out, HRN.out, if_pos hD]; simp)
          have hDb : (n : Int) < (l.length : Int) := by omega
          clear HR1 HR2 HRN HE
          go_wp2_with (go_at_call 26; refine HSC.out.mono ?_; rintro e w2 ⟨v, rfl, hor, hb2⟩; have HB2 : Hid (Below w.heap.size w w2) := nxt HBW.out hb2; clear hor hb2)
          go_ret
          exact ⟨by rw [HR.out]; rfl, HB2.out⟩
        · have hDb : ¬ (n : Int) < (l.length : Int) := by omega
          rw [if_neg hD] at HRN
          have hwr : -9223372036854775808 ≤ wrap64 (z + rs.length) ∧ wrap64 (z + rs.length) ≤ 9223372036854775807 := by unfold wrap64; omega
          have HWR : Hid (-9223372036854775808 ≤ wrap64 (z + rs.length) ∧ wrap64 (z + rs.length) ≤ 9223372036854775807) := hwr
          clear hwr
          go_wp2_with (go_at_call 26; refine HSC.out.mono ?_; rintro e w2 ⟨v, rfl, hor, hb2⟩; obtain ⟨va, vc, rfl⟩ := hor.shape; have HB2 : Hid (Below w1.heap.size w1 w2) := nxt HB.out hb2; clear hor hb2)
          refine ⟨⟨_, m + 1, rfl, by go_num, by omega, HWR.out.1, HWR.out.2, ?_, HB2.out⟩, by simp [intOf]; omega⟩
          exact HE.out.trans HRN.out
    · have hme : m = ss.length := by omega
      subst hme
      have hx := (HB.out.block _ (lt_of_block HX1.out)).trans HX1.out
      obtain ⟨x1, -⟩ := cell_of hx 1
      simp at x1
      have HFE : Hid (runS ss d0 = some z) := by
        show _ = _
        rw [HE.out, List.drop_length]
        rfl
      clear hx HE
      by_cases hze : z = nx
      · have HR : Hid (R = 0) := HR1.out (by rw [HFE.out, hze])
        have hneb : (z != nx) = false := by simp [hze]
        clear HR1 HR2 HFE
        go_wp2_with fail
        go_ret
        exact ⟨by rw [HR.out]; rfl, HBW.out⟩
      · have HR : Hid (R = 9) := HR2.out (by rw [HFE.out]; simpa using hze)
        have hneb : (z != nx) = true := by simp [hze]
        clear HR1 HR2 HFE
        go_wp2_with fail
        go_ret
        exact ⟨by rw [HR.out]; rfl, HBW.out⟩
end Go.Proofs.Ytocodkoanjcmkab
