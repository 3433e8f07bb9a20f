/-
  The page's Records and Drop.
-/
import Derived.Test.YtocodkoanjcmkabWlPOwn
import Derived.Test.YtocodkoanjcmkabWlRecs
import Derived.Test.YtocodkoanjcmkabWlDrop
namespace Go.Proofs.Ytocodkoanjcmkab
open Go.ChangeShapes Go.WideShapes Go.ChangeAt Go.RowKit Go.Deep
open Se

theorem fst_tk {s : List UInt8} (h : (tkR s).2.2.2 = true) (h2 : (tkR s).1 ≤ 1099511627776) : fstR s = (tkR s).1 := by
  obtain ⟨a1, a2, a3, a4, a5, a6⟩ := tkR_ok h
  have e : (tkR s).1 = numO ((getR s).2.2.1.take 8) := by rw [a6]
  unfold fstR
  rw [if_neg (by omega), if_neg (by omega), if_neg (by omega), e]
/-- A segment's first record has the due number; behind it the next one is due. -/
theorem run_fst {s : List UInt8} {ss : List (List UInt8)} {d e : Int} (hd : 1 ≤ d) (hd2 : d ≤ 9223372036854775807) (he : 1 ≤ e) (he2 : e ≤ 1099511627776) (h : runS (s :: ss) d = some e) :
    fstR s = d ∧ wrap64 (d + (scR s d).1.length) = d + (scR s d).1.length ∧ 1 ≤ d + ((scR s d).1.length : Int) ∧ d + ((scR s d).1.length : Int) ≤ 9223372036854775807 ∧ runS ss (d + (scR s d).1.length) = some e := by
  have hde := (runP_of hd hd2 he h).2
  simp only [runS] at h
  split at h
  · simp at h
  · rename_i h1
    split at h
    · simp at h
    · rename_i h2
      have h3 := scR_le s d
      have h4 := sc_some (l := s) (nx := d) (by omega)
      have hk : (scR s d).1.length ≤ 30 := by omega
      obtain ⟨u1, u2⟩ := run_up hd hd2 hk h he
      rw [u2] at h u1
      refine ⟨?_, u2, u1, by rw [← u2]; unfold wrap64; omega, h⟩
      rw [fst_tk h4.2.1 (by rw [h4.2.2]; omega), h4.2.2]

/-- All records, as the page has them. -/
def allQ : List (List UInt8) → List Rc
  | [] => []
  | s :: ss => (scR s (fstR s)).1 ++ allQ ss
theorem all_eq : ∀ {ss : List (List UInt8)} {d e : Int}, 1 ≤ d → d ≤ 9223372036854775807 → 1 ≤ e → e ≤ 1099511627776 → runS ss d = some e → allQ ss = allR ss d
  | [], _, _, _, _, _, _, _ => rfl
  | s :: ss, d, e, hd, hd2, he, he2, h => by
    obtain ⟨k1, k2, k3, k4, k5⟩ := run_fst hd hd2 he he2 h
    have ih := all_eq k3 k4 he he2 k5
    simp only [allQ, allR]
    rw [k1, k2, ih]
/-- The end of the first segment, as the page has it. -/
def endQ (nx : Int) : List (List UInt8) → Int
  | [] => nx - 1
  | s :: _ => fstR s - 1
/-- The segments that are left, as the page has them. -/
def drQ (nx q : Int) : List (List UInt8) → List (List UInt8)
  | [] => []
  | s :: ss => if q < endQ nx ss then s :: ss else drQ nx q ss
theorem dr_eq (nx q : Int) (he : 1 ≤ nx) (he2 : nx ≤ 1099511627776) : ∀ {ss : List (List UInt8)} {d : Int}, 1 ≤ d → d ≤ 9223372036854775807 → runS ss d = some nx → drQ nx q ss = drR ss d q
  | [], _, _, _, _ => rfl
  | s :: ss, d, hd, hd2, h => by
    obtain ⟨k1, k2, k3, k4, k5⟩ := run_fst hd hd2 he he2 h
    have ih := dr_eq nx q he he2 k3 k4 k5
    have e1 : endQ nx ss = wrap64 (d + (scR s d).1.length - 1) := by
      cases ss with
      | nil =>
        simp only [runS, Option.some.injEq] at k5
        simp only [endQ]
        rw [k5]
        unfold wrap64
        omega
      | cons s' ss' =>
        obtain ⟨j1, -⟩ := run_fst k3 k4 he he2 k5
        simp only [endQ]
        rw [j1]
        unfold wrap64
        omega
    simp only [drQ, drR]
    rw [k2, e1, ih]

/-- append of many of the page's records. -/
theorem wpList_appQ (w : World) {ops : Array Oper} {rest : List Oper} {o : Oper} {a : Act} {Q : Exit → Act → World → Prop} (hgd : o.guard = none) (sl x : Operand)
    (ho : o.op = .call { callee := .builtin .append, args := #[sl, x], argTypes := #[37, 37] })
    (B : Nat) (s : Value) (l m : List Rc) (hs : a.eval sl = s) (hown : OwnQ w B s l) (ua : Option Addr) (uc : Nat) (hx : a.eval x = .slice ua m.length uc) (hm : OwnQ w B (.slice ua m.length uc) m) (hlen : l.length + m.length ≤ 1000000000) (hbase : B ≤ w.heap.size)
    (h : ∀ s' w', OwnQ w' B s' (l ++ m) → w.grownBy w' s.ownBlock → wpList Try.prog ops Q rest (a.put o.dst s') w') : wpList Try.prog ops Q (o :: rest) a w := by
  obtain ⟨i0, hi, hz0, hz1, hz2⟩ := info_parts Try.infoPq
  have hrow := hown.row
  obtain ⟨xs, hr, hit⟩ := hown
  obtain ⟨ys, hr2, hit2⟩ := hm
  have hyl : ys.length = 2 * m.length := by have := hr2.1; omega
  have hxl : xs.length = 2 * l.length := by have := hr.1; omega
  refine wpList_append_apart w hgd sl x 37 ho B 62 i0 _ 2 32 Try.underlying37 hi hz0 hz1 hz2 rfl (by decide) s l.length xs hs hr ua m.length uc ys hx ?_ (by omega) ?_ (hit2.one hyl) (by unfold maxLen; omega) (by omega) hbase ?_
  · intro e
    rcases hr2.2 with ⟨h3, h4⟩ | ⟨g, cap, cur, h4, -⟩
    · simp only [Value.slice.injEq] at h3
      omega
    · rw [e] at h4; simp at h4
  · intro ad' e j u hj
    subst e
    rcases hr2.2 with ⟨h4, -⟩ | ⟨g, cap, cur, h4, -⟩
    · simp at h4
    · simp only [Value.slice.injEq, Option.some.injEq] at h4
      obtain ⟨rfl, -, rfl⟩ := h4
      exact hr2.cells (g := g) rfl _ _ hj
  · intro v' w' h1 h2 h3
    refine h v' w' ?_ h2
    have kp : KpB w w' := KpB.grown h2 (by
      intro g hg
      obtain ⟨-, -, cur, h5⟩ := hrow g hg
      exact ⟨cur, _, _, h5, by decide⟩)
    exact ⟨_, by rw [List.length_append]; exact h1, ((hit.kpb kp).append hxl (hit2.kpb kp))⟩


theorem OwnQ.same {W W' : World} {B : Nat} {v : Value} {rs : List Rc} (h : OwnQ W B v rs) (k : KpB W W') (hg : ∀ g, v.ownBlock = some g → W'.heap[g]? = W.heap[g]?) : OwnQ W' B v rs := by
  obtain ⟨xs, h1, h2⟩ := h
  exact ⟨xs, ownsRow_same h1 hg, h2.kpb k⟩

set_option maxRecDepth 100000 in
set_option maxHeartbeats 1600000 in
theorem rrecords_any (ss : List (List UInt8)) (nx : Int) (a : Option Addr) (c : Nat) (w : World) (hS : LayS w a ss) (hn : ss.length ≤ 200000000000000) (hsm : ∀ l ∈ ss, l.length ≤ 2000000) (h1 : -9223372036854775808 ≤ nx) (h2 : nx ≤ 9223372036854775807) :
    Calls Try.prog 14 #[.agg #[.slice a ss.length c, .int .i64 nx]] w fun e w' => ∃ v, e = .returned (.tuple #[v, .int .i64 (recR ss nx).1]) ∧ OwnQ w' w.heap.size v (recR ss nx).2 ∧ Below w.heap.size w w' := by
  have HS : Hid (LayS w a ss) := hS
  have HC : Hid (∀ W, Below w.heap.size w W → Calls Try.prog 21 #[.agg #[.slice a ss.length c, .int .i64 nx]] W fun e w' => e = .returned (.int .i64 (chkW ss nx)) ∧ Below W.heap.size W w') := fun W hb => rcheck_any ss nx a c W (HS.out.below hb) hn hsm h1 h2
  clear hS hsm
  have B0 : Hid (Below w.heap.size w (w.alloc (.cells #[.slice a ss.length c, .int .i64 nx] 24))) := below_one _ _
  have X0 : Hid ((w.alloc (.cells #[.slice a ss.length c, .int .i64 nx] 24)).heap[w.heap.size]? = some (.cells #[.slice a ss.length c, .int .i64 nx] 24 (0, 0))) := heap_alloc_new _ _
  have HOK := chkW_ok (ss := ss) (nx := nx)
  have HCV : Hid (chkW ss nx = 0 ∨ chkW ss nx = 9) := by
    show _ ∨ _
    unfold chkW
    split
    · exact Or.inr rfl
    · split
      · exact Or.inr rfl
      · split
        · exact Or.inl rfl
        · exact Or.inr rfl
  unfold recR
  generalize chkW ss nx = ck at *
  by_cases hck : ck ≠ 0
  · have hck9 : ck = 9 := by rcases HCV.out with h | h; exact absurd h hck; exact h
    subst hck9
    rw [if_pos hck]
    clear HOK hck
    go_enter Try.func14, Try.ntmps14
    go_wp2_with (go_at_call 21; refine (HC.out _ B0.out).mono ?_; rintro e w1 ⟨rfl, hb1⟩; have B1 : Hid (Below w.heap.size w w1) := nxt B0.out hb1; clear hb1)
    refine bodyPost_ret (v := .tuple #[.slice none 0 0, .int .i64 9]) (by simp [results, Try.results14, go_sem]) rfl ?_
    exact ⟨_, rfl, OwnQ.nil _ _, B1.out⟩
  obtain rfl : ck = 0 := by omega
  clear hck
  obtain ⟨hn1, hn2, hn3, hold, hrun⟩ := HOK rfl
  have HLN : Hid (∀ l ∈ ss, l.length ≤ 480 ∧ 0 < l.length) := runS_len hrun
  have HAL : Hid (allQ ss = allR ss (oldR ss nx)) := all_eq hold (oldR_le h1 h2).2 hn1 hn2 hrun
  clear HOK hrun
  have e00 : ((0 : Int) != 0) = false := by decide
  rw [if_neg (by simp), ← HAL.out]
  go_enter Try.func14, Try.ntmps14
  go_wp2_with (go_at_call 21; refine (HC.out _ B0.out).mono ?_; rintro e w1 ⟨rfl, hb1⟩; have B1 : Hid (Below w.heap.size w w1) := nxt B0.out hb1; have X1 : Hid (w1.heap[w.heap.size]? = some (.cells #[.slice a ss.length c, .int .i64 nx] 24 (0, 0))) := (hb1.block _ (lt_of_block X0.out)).trans X0.out; clear hb1)
  have hb11 : Below w1.heap.size w1 w1 := Below.refl _ _
  clear HCV HC B0 X0
  go_loopw [4, 5] (fun v i wr => ∃ (m : Nat) (rs : List Rc), i = .int .i64 m ∧ m ≤ ss.length ∧ Hid (rs.length ≤ m * 30) ∧ Hid (allQ ss = rs ++ allQ (ss.drop m)) ∧ Hid (OwnQ wr w1.heap.size v rs) ∧ Hid (Below w1.heap.size w1 wr)) (fun _ i _ => ss.length - (intOf i).toNat)
  case atStart => exact ⟨0, [], rfl, by omega, Nat.zero_le _, rfl, OwnQ.nil _ _, hb11⟩
  case round =>
    obtain ⟨m, rs, rfl, hm, HRL, HE, HO, HB⟩ := hrel
    have HBW : Hid (Below w.heap.size w wr) := nxt B1.out HB.out
    have hxr := (HB.out.block _ (lt_of_block X1.out)).trans X1.out
    obtain ⟨x0, -⟩ := cell_of hxr 0
    obtain ⟨x1, -⟩ := cell_of hxr 1
    simp at x0 x1
    clear hxr
    by_cases hlt : m < ss.length
    · have hltb : (m : Int) < (ss.length : Int) := by omega
      obtain ⟨l, hl⟩ : ∃ l, ss[m]? = some l := ⟨_, List.getElem?_eq_getElem hlt⟩
      have HDR : Hid (ss.drop m = l :: ss.drop (m + 1)) := by
        show _ = _
        rw [List.drop_eq_getElem_cons hlt]
        rw [List.getElem?_eq_getElem hlt] at hl
        simp only [Option.some.injEq] at hl
        rw [hl]
      obtain ⟨b, off, a1, c1, rfl, q1, q2, q3⟩ := (HS.out.below HBW.out) m l hl
      have hl480 := (HLN.out l (List.mem_of_getElem? hl)).1
      have HFI : Hid (Calls Try.prog 36 #[.slice a1 l.length c1] wr.drew fun e w' => e = .returned (.int .i64 (fstR l)) ∧ Below wr.heap.size wr.drew w') := first_any a1 c1 l wr.drew (q2.below (Below.refl _ _).drew)
      have HQ2 : Hid (Oct wr.drew a1 c1 l) := q2.below (Below.refl _ _).drew
      obtain ⟨hf1, hf2⟩ := fst_le l
      have HSC : Hid (∀ W, Below wr.heap.size wr.drew W → Calls Try.prog 27 #[.slice a1 l.length c1, .int .i64 (fstR l)] W fun e w' => ∃ v, e = .returned (.tuple #[v, .int .i64 (scR l (fstR l)).2]) ∧ OwnQ w' W.heap.size v (scR l (fstR l)).1 ∧ Below W.heap.size W w') := fun W hb => rscan_any a1 c1 l (fstR l) W (HQ2.out.below hb) (by omega) hf1 hf2
      have hle := scR_le l (fstR l)
      have HRN : Hid (allQ ss = (rs ++ (scR l (fstR l)).1) ++ allQ (ss.drop (m + 1))) := by
        show _ = _
        rw [HE.out, HDR.out, List.append_assoc]
        rfl
      clear hl q2 HDR HE
      generalize fstR l = fl at *
      generalize scR l fl = T at *
      obtain ⟨qs, n⟩ := T
      simp only at HRN HSC hle
      have hql : qs.length ≤ 30 := by omega
      have hrl := HRL.out
      obtain ⟨va, vc, rfl⟩ := HO.out.shape
      have x0d : wr.drew.cell? ⟨w.heap.size, 0, none⟩ = some (.slice (some ⟨b, off, none⟩) ss.length c) := x0
      have q1d : wr.drew.cell? ⟨b, off + m, none⟩ = some (.slice a1 l.length c1) := q1
      go_wp2_with fail
      go_region_held3 (fun w' => w'.cell? ⟨w.heap.size, 0, none⟩ = some (.slice (some ⟨b, off, none⟩) ss.length c) ∧ w'.cell? ⟨b, off + m, none⟩ = some (.slice a1 l.length c1)) (go_keep) (first
        | (go_at_call 36; refine HFI.out.mono ?_; rintro e w2 ⟨rfl, hb2⟩; have y0 := keepc hb2 _ _ x0d; have y1 := keepc hb2 _ _ q1d)
        | (go_at_call 27; refine (HSC.out w2 hb2).mono ?_; rintro e w3 ⟨v3, rfl, hor3, hb3⟩; have z0 := keepc hb3 _ _ y0; have z1 := keepc hb3 _ _ y1; obtain ⟨ua, uc, rfl⟩ := hor3.shape))
      all_goals
        have HB3 : Hid (Below w1.heap.size w1 w3) := nxt HB.out (nxt ((Below.refl _ wr).drew.trans hb2) hb3)
        have hsz2 : wr.heap.size ≤ w2.heap.size := hb2.size
        have HO3 : Hid (OwnQ w3 w1.heap.size (.slice va rs.length vc) rs) := HO.out.below (nxt ((Below.refl _ wr).drew.trans hb2) hb3)
        have HU3 : Hid (OwnQ w3 w1.heap.size (.slice ua qs.length uc) qs) := hor3.base (by have := HB.out.size; omega)
        clear hor3 hb2 hb3 y0 y1 z0 z1 x0 x1 x0d q1d q1 HFI HSC
        go_wp2_with (at_builtin; refine wpList_appQ _ rfl _ _ rfl w1.heap.size _ rs qs rfl HO3.out ua uc rfl HU3.out ?d0 ?d1 ?_)
        case d0 => omega
        case d1 => exact HB3.out.size
        intro s4 w4 ho4 hg4
        have HO4 : Hid (OwnQ w4 w1.heap.size s4 (rs ++ qs)) := ho4
        have HB4 : Hid (Below w1.heap.size w1 w4) := HB3.out.grown hg4 HB3.out.size (fun j e => (HO3.out.row j e).1)
        clear ho4 hg4
        go_wp2_with fail
        refine ⟨⟨m + 1, rs ++ qs, by go_num, by omega, ?_, HRN.out, HO4.out, HB4.out⟩, by simp [intOf]; omega⟩
        show _ ≤ _
        rw [List.length_append]
        omega
    · have hme : m = ss.length := by omega
      subst hme
      have HFE : Hid (allQ ss = rs) := by
        show _ = _
        rw [HE.out, List.drop_length]
        simp [allQ]
      go_wp2_with fail
      refine bodyPost_ret (v := .tuple #[_, .int .i64 0]) (by simp [results, Try.results14, go_sem]; rfl) rfl ?_
      rw [HFE.out]
      exact ⟨_, rfl, HO.out.base B1.out.size, HBW.out⟩

theorem fst_nonneg (l : List UInt8) : 0 ≤ fstR l ∧ fstR l ≤ 1099511627776 := by
  unfold fstR
  by_cases h1 : (getR l).1 ≠ 0
  · rw [if_pos h1]; omega
  · rw [if_neg h1]
    by_cases h2 : (getR l).2.2.1.length < 8
    · rw [if_pos h2]; omega
    · rw [if_neg h2]
      have NB := numO_bound 8 ((getR l).2.2.1.take 8) (by rw [List.length_take]; omega)
      by_cases h3 : 1099511627776 < numO ((getR l).2.2.1.take 8)
      · rw [if_pos h3]; omega
      · rw [if_neg h3]; omega
/-- Segments stay where only older blocks are written over. -/
theorem OwnS.upper {W W' : World} {B : Nat} {v : Value} {ss : List (List UInt8)} (h : OwnS W B v ss) (hb : ∀ b, B ≤ b → b < W.heap.size → W'.heap[b]? = W.heap[b]?) : OwnS W' B v ss := by
  obtain ⟨xs, h1, h2, h3⟩ := h
  refine ⟨xs, ownsRow_same h1 fun g hg => hb g (h1.lt g hg).1 (h1.lt g hg).2, fun j l hj => ?_, h3⟩
  obtain ⟨a, c, k1, k2, k3⟩ := h2 j l hj
  exact ⟨a, c, k1, ownsRow_same k2 fun g hg => hb g (k2.base g hg).1 (k2.base g hg).2, k3⟩
/-- How long the slice in a box's first cell is. -/
def boxLen (W : World) (g : Nat) : Nat := match W.cell? ⟨g, 0, none⟩ with | some (.slice _ n _) => n | _ => 0
theorem boxLen_of {W : World} {g n c : Nat} {a : Option Addr} (h : W.cell? ⟨g, 0, none⟩ = some (.slice a n c)) : boxLen W g = n := by unfold boxLen; rw [h]

/-- What the page's Drop leaves. -/
def RDropPost (w : World) (R : Int × List (List UInt8) × Int) (e : Ending) (w' : World) : Prop :=
  ∃ va vc, e = .returned (.tuple #[.agg #[.slice va R.2.1.length vc, .int .i64 R.2.2], .int .i64 R.1]) ∧ LayS w' va R.2.1 ∧ Below w.heap.size w w'

set_option maxRecDepth 100000 in
set_option maxHeartbeats 1600000 in
theorem rdrop_any (ss : List (List UInt8)) (nx q : Int) (a : Option Addr) (c : Nat) (w : World) (hS : LayS w a ss) (hn : ss.length ≤ 1000000000) (hsm : ∀ l ∈ ss, l.length ≤ 2000000) (h1 : -9223372036854775808 ≤ nx) (h2 : nx ≤ 9223372036854775807) :
    Calls Try.prog 16 #[.agg #[.slice a ss.length c, .int .i64 nx], .int .i64 q] w (RDropPost w (dropR ss nx q)) := by
  have HS : Hid (LayS w a ss) := hS
  have HC : Hid (∀ W, Below w.heap.size w W → Calls Try.prog 21 #[.agg #[.slice a ss.length c, .int .i64 nx]] W fun e w' => e = .returned (.int .i64 (chkW ss nx)) ∧ Below W.heap.size W w') := fun W hb => rcheck_any ss nx a c W (HS.out.below hb) (by omega) hsm h1 h2
  have HOW : Hid (∀ W, Below w.heap.size w W → Calls Try.prog 33 #[.agg #[.slice a ss.length c, .int .i64 nx]] W fun e w' => ∃ v, e = .returned (.agg #[v, .int .i64 nx]) ∧ OwnS w' W.heap.size v ss ∧ Below W.heap.size W w') := fun W hb => rown_any ss nx a c W (HS.out.below hb) (by omega)
  clear hS hsm
  have HOK := chkW_ok (ss := ss) (nx := nx)
  have HCV : Hid (chkW ss nx = 0 ∨ chkW ss nx = 9) := by
    show _ ∨ _
    unfold chkW
    split
    · exact Or.inr rfl
    · split
      · exact Or.inr rfl
      · split
        · exact Or.inl rfl
        · exact Or.inr rfl
  have X0 : Hid (((w.alloc (.cells #[.slice a ss.length c, .int .i64 nx] 24)).alloc (.cells #[.slice none 0 0, .int .i64 0] 24)).heap[w.heap.size]? = some (.cells #[.slice a ss.length c, .int .i64 nx] 24 (0, 0))) := (Below.heap_alloc _ _ _ (by simp)).trans (heap_alloc_new _ _)
  have Y0 : Hid (((w.alloc (.cells #[.slice a ss.length c, .int .i64 nx] 24)).alloc (.cells #[.slice none 0 0, .int .i64 0] 24)).heap[w.heap.size + 1]? = some (.cells #[.slice none 0 0, .int .i64 0] 24 (0, 0))) := heap_new2 _ _ _
  have B0 : Hid (Below w.heap.size w ((w.alloc (.cells #[.slice a ss.length c, .int .i64 nx] 24)).alloc (.cells #[.slice none 0 0, .int .i64 0] 24))) := nxt (below_one _ _) (below_one _ _)
  unfold dropR
  have HDE : Hid (chkW ss nx = 0 → drQ nx q ss = drR ss (oldR ss nx) q ∧ 1 ≤ nx) := fun h => by
    obtain ⟨k1, k2, k3, k4, k5⟩ := HOK h
    exact ⟨dr_eq nx q k1 k2 k4 (oldR_le h1 h2).2 k5, k1⟩
  clear HOK
  generalize chkW ss nx = ck at *
  by_cases hck : ck ≠ 0
  · have hck9 : ck = 9 := by rcases HCV.out with h | h; exact absurd h hck; exact h
    subst hck9
    rw [if_pos hck]
    clear hck HDE HOW
    go_enter Try.func16, Try.ntmps16
    go_wp2_with fail
    refine (HC.out _ B0.out).mono ?_
    rintro e w1 ⟨rfl, hb1⟩
    have hy1 := (hb1.block _ (lt_of_block Y0.out)).trans Y0.out
    obtain ⟨r0, f0⟩ := cell_of hy1 0
    obtain ⟨r1, f1⟩ := cell_of hy1 1
    simp at r0 r1
    have B1 : Hid (Below w.heap.size w w1) := nxt B0.out hb1
    have hs2 := boxed2 hy1 (.slice none 0 0) (.int .i64 0)
    have s0 := (cell_of hs2 0).1
    have s1 := (cell_of hs2 1).1
    simp at s0 s1
    clear hb1 hy1
    go_wp2_with fail
    refine bodyPost_ret (v := .tuple #[.agg #[.slice none 0 0, .int .i64 0], .int .i64 9]) (by simp [results, Try.results16, go_sem, s0, s1]) rfl ?_
    exact ⟨none, 0, rfl, LayS.nil _ _, (B1.out.setCell (by show w.heap.size ≤ w.heap.size + 1; omega) _).setCell (by show w.heap.size ≤ w.heap.size + 1; omega) _⟩
  obtain rfl : ck = 0 := by omega
  clear hck HCV
  rw [if_neg (by simp)]
  obtain ⟨hde, hnx⟩ := HDE.out rfl
  rw [← hde]
  clear hde HDE
  have e00 : ((0 : Int) != 0) = false := by decide
  go_enter Try.func16, Try.ntmps16
  go_wp2_with fail
  refine (HC.out _ B0.out).mono ?_
  rintro e w1 ⟨rfl, hb1⟩
  have X1 : Hid (w1.heap[w.heap.size]? = some (.cells #[.slice a ss.length c, .int .i64 nx] 24 (0, 0))) := (hb1.block _ (lt_of_block X0.out)).trans X0.out
  have Y1 : Hid (w1.heap[w.heap.size + 1]? = some (.cells #[.slice none 0 0, .int .i64 0] 24 (0, 0))) := (hb1.block _ (lt_of_block Y0.out)).trans Y0.out
  have B1 : Hid (Below w.heap.size w w1) := nxt B0.out hb1
  clear hb1 X0 Y0 B0 HC
  obtain ⟨x0, -⟩ := cell_of X1.out 0
  obtain ⟨x1, -⟩ := cell_of X1.out 1
  simp at x0 x1
  go_wp2_with fail
  refine (HOW.out _ B1.out).mono ?_
  rintro e w3 ⟨v3, rfl, ho3, hb3⟩
  obtain ⟨oa, oc, rfl⟩ := ho3.shape
  have L3 : Hid (LayS w3 oa ss) := ho3.lay
  have HOS : Hid (OwnS w3 w1.heap.size (.slice oa ss.length oc) ss) := ho3
  have hw1 : w.heap.size + 1 < w1.heap.size := lt_of_block Y1.out
  have hoc : ss.length ≤ oc ∧ oc ≤ 9223372036854775807 := by obtain ⟨xs, hr, -⟩ := ho3; exact cap_of_own hr
  have Y3 : Hid (w3.heap[w.heap.size + 1]? = some (.cells #[.slice none 0 0, .int .i64 0] 24 (0, 0))) := (hb3.block _ (lt_of_block Y1.out)).trans Y1.out
  have B3 : Hid (Below w.heap.size w w3) := nxt B1.out hb3
  have hw3 : w.heap.size + 1 < w3.heap.size := lt_of_block Y3.out
  clear ho3 hb3 X1 Y1 B1 x0 x1 HOW
  go_upto_region 4 with fail
  have T4 : Hid ((w3.alloc (.cells #[.slice oa ss.length oc, .int .i64 nx] 24)).heap[w3.heap.size]? = some (.cells #[.slice oa ss.length oc, .int .i64 nx] 24 (0, 0))) := heap_alloc_new _ _
  have B34 : Hid (Below w3.heap.size w3 (w3.alloc (.cells #[.slice oa ss.length oc, .int .i64 nx] 24))) := below_one _ _
  generalize w3.alloc (.cells #[.slice oa ss.length oc, .int .i64 nx] 24) = w4 at *
  go_loopw [] (fun wr => ∃ (m : Nat) (ka : Option Addr) (kc : Nat), m ≤ ss.length ∧ ss.length - m ≤ kc ∧ kc ≤ 9223372036854775807 ∧ Hid (∀ W, LayS W oa ss → LayS W ka (ss.drop m)) ∧ Hid (drQ nx q ss = drQ nx q (ss.drop m)) ∧ Hid (wr.heap[w3.heap.size]? = some (.cells #[.slice ka (ss.length - m) kc, .int .i64 nx] 24 (0, 0))) ∧ Hid (Below w3.heap.size w3 wr)) (fun wr => boxLen wr w3.heap.size)
  case atStart => exact ⟨0, oa, oc, by omega, by omega, hoc.2, (fun W h => h), rfl, T4.out, B34.out⟩
  case round =>
    obtain ⟨m, ka, kc, hm, hkc, hkc2, HK, HE, HT, HBB⟩ := hrel
    obtain ⟨t0, g0⟩ := cell_of HT.out 0
    obtain ⟨t1, g1⟩ := cell_of HT.out 1
    simp at t0 t1
    by_cases hlt : m < ss.length
    · have hltb : (0 : Int) < ((ss.length - m : Nat) : Int) := by omega
      obtain ⟨l, hl⟩ : ∃ l, ss[m]? = some l := ⟨_, List.getElem?_eq_getElem hlt⟩
      have hdr : ss.drop m = l :: ss.drop (m + 1) := by
        rw [List.drop_eq_getElem_cons hlt]
        rw [List.getElem?_eq_getElem hlt] at hl
        simp only [Option.some.injEq] at hl
        rw [hl]
      have HRN : Hid (drQ nx q ss = if q < endQ nx (ss.drop (m + 1)) then ss.drop m else drQ nx q (ss.drop (m + 1))) := by
        show _ = _
        rw [HE.out, hdr]
        rfl
      obtain ⟨b, off, a1, c1, rfl, -⟩ := HK.out _ L3.out 0 l (by rw [hdr]; rfl)
      clear hl
      by_cases hlast : ss.length - m = 1
      · have hend : endQ nx (ss.drop (m + 1)) = nx - 1 := by
          have : ss.drop (m + 1) = [] := List.eq_nil_of_length_eq_zero (by rw [List.length_drop]; omega)
          rw [this]; rfl
        rw [hend] at HRN
        have hgt : ¬ (1 : Int) < ((ss.length - m : Nat) : Int) := by omega
        have HTX : Hid (wr.heap[w3.heap.size]? = some (.cells #[.slice (some ⟨b, off, none⟩) (ss.length - m) kc, .int .i64 nx] 24 (0, 0))) := HT.out
        have HBX : Hid (Below w3.heap.size w3 wr) := HBB.out
        have HBW : Hid (Below w.heap.size w wr) := nxt B3.out HBB.out
        clear hend hdr hlast
        by_cases hbr : q < nx - 1
        · rw [if_pos hbr] at HRN
          have HRS : Hid (drQ nx q ss = ss.drop m) := HRN.out
          clear HRN
          have hzr := (HBX.out.block _ (lt_of_block Y3.out)).trans Y3.out
          have HFI : Hid (∀ x y, LayS ((wr.setCell ⟨w.heap.size + 1, 0, none⟩ x).setCell ⟨w.heap.size + 1, 1, none⟩ y) (some ⟨b, off, none⟩) (ss.drop m)) := fun x y => HK.out _ (HOS.out.upper fun b k1 k2 => by
            rw [Below.heap_setCell _ _ _ _ (by show b ≠ w.heap.size + 1; omega), Below.heap_setCell _ _ _ _ (by show b ≠ w.heap.size + 1; omega)]
            exact HBX.out.block b k2).lay
          obtain ⟨r0, f0⟩ := cell_of hzr 0
          obtain ⟨r1, f1⟩ := cell_of hzr 1
          simp at r0 r1
          have hs2 := boxed2 hzr (.slice (some ⟨b, off, none⟩) (ss.length - m) kc) (.int .i64 nx)
          have s0 := (cell_of hs2 0).1
          have s1 := (cell_of hs2 1).1
          simp at s0 s1
          clear hzr hs2
          go_wp2_with fail
          refine bodyPost_ret (v := .tuple #[.agg #[.slice (some ⟨b, off, none⟩) (ss.length - m) kc, .int .i64 nx], .int .i64 0]) (by simp [results, Try.results16, go_sem, s0, s1]) rfl ?_
          rw [HRS.out]
          refine ⟨_, kc, ?_, HFI.out _ _, (HBW.out.setCell (by show w.heap.size ≤ w.heap.size + 1; omega) _).setCell (by show w.heap.size ≤ w.heap.size + 1; omega) _⟩
          rw [List.length_drop]
        · rw [if_neg hbr] at HRN
          have ebl : boxLen wr w3.heap.size = ss.length - m := boxLen_of t0
          have HEB : Hid (boxLen wr w3.heap.size = ss.length - m) := ebl
          clear ebl
          by_cases hk1 : kc = 1
          · have HKN : Hid (∀ W, LayS W oa ss → LayS W (some ⟨b, off, none⟩) (ss.drop (m + 1))) := fun W _ => by
              have : ss.drop (m + 1) = [] := List.eq_nil_of_length_eq_zero (by rw [List.length_drop]; omega)
              rw [this]
              exact LayS.nil _ _
            have hl1 : ss.length - m = 1 := by omega
            have HL1 : Hid (ss.length - m = 1 ∧ ss.length - (m + 1) = 0) := ⟨hl1, by omega⟩
            have HTN : Hid (∀ v, (wr.setCell ⟨w3.heap.size, 0, none⟩ v).heap[w3.heap.size]? = some (.cells #[v, .int .i64 nx] 24 (0, 0))) := fun v => by have := set_one_cell (o := 0) HTX.out v; simpa using this
            have HBN : Hid (∀ v, Below w3.heap.size w3 (wr.setCell ⟨w3.heap.size, 0, none⟩ v)) := fun v => HBX.out.setCell (Nat.le_refl _) v
            subst hk1
            clear hl1
            go_wp2_with fail
            refine ⟨⟨m + 1, (some ⟨b, off, none⟩), 0, by omega, by have := HL1.out; omega, by omega, HKN.out, HRN.out, ?_, HBN.out _⟩, ?_⟩
            · have h := HTN.out (.slice (some ⟨b, off, none⟩) 0 0)
              rw [HL1.out.2]
              exact h
            · rw [HEB.out]
              have h := (cell_of (HTN.out (.slice (some ⟨b, off, none⟩) 0 0)) 0).1
              simp at h
              rw [boxLen_of h, HL1.out.1]
              omega
          · have hk1' : ¬ (1 : Nat) = kc := fun e => hk1 e.symm
            have HKN : Hid (∀ W, LayS W oa ss → LayS W (some ⟨b, off + 1, none⟩) (ss.drop (m + 1))) := fun W h => by
              have := (HK.out W h).drop 1
              rw [List.drop_drop] at this
              exact this
            have HTN : Hid (∀ v, (wr.setCell ⟨w3.heap.size, 0, none⟩ v).heap[w3.heap.size]? = some (.cells #[v, .int .i64 nx] 24 (0, 0))) := fun v => by have := set_one_cell (o := 0) HTX.out v; simpa using this
            have HBN : Hid (∀ v, Below w3.heap.size w3 (wr.setCell ⟨w3.heap.size, 0, none⟩ v)) := fun v => HBX.out.setCell (Nat.le_refl _) v
            go_wp2_with fail
            refine ⟨⟨m + 1, some ⟨b, off + 1, none⟩, kc - 1, by omega, by omega, by omega, HKN.out, HRN.out, ?_, HBN.out _⟩, ?_⟩
            · have h := HTN.out (.slice (some ⟨b, off + 1, none⟩) (ss.length - m - 1) (kc - 1))
              rw [show ss.length - (m + 1) = ss.length - m - 1 by omega]
              exact h
            · rw [HEB.out]
              have h := (cell_of (HTN.out (.slice (some ⟨b, off + 1, none⟩) (ss.length - m - 1) (kc - 1))) 0).1
              simp at h
              rw [boxLen_of h]
              omega
      · have hgt : (1 : Int) < ((ss.length - m : Nat) : Int) := by omega
        obtain ⟨l2, hl2⟩ : ∃ l2, ss[m + 1]? = some l2 := ⟨_, List.getElem?_eq_getElem (by omega)⟩
        have hend : endQ nx (ss.drop (m + 1)) = fstR l2 - 1 := by
          rw [List.drop_eq_getElem_cons (by omega)]
          rw [List.getElem?_eq_getElem (by omega)] at hl2
          simp only [Option.some.injEq] at hl2
          rw [← hl2]; rfl
        rw [hend] at HRN
        obtain ⟨b2, off2, a2, c2, e2, q1, q2, q3⟩ := (HK.out _ (L3.out.below HBB.out)) 1 l2 (by rw [List.getElem?_drop]; exact hl2)
        cases e2
        have HFS : Hid (Calls Try.prog 36 #[.slice a2 l2.length c2] wr fun e w' => e = .returned (.int .i64 (fstR l2)) ∧ Below wr.heap.size wr w') := first_any a2 c2 l2 wr q2
        obtain ⟨hf1, hf2⟩ := fst_nonneg l2
        clear hend hdr hlast hl2 q2
        generalize fstR l2 = fl at *
        go_wp2_with fail
        refine HFS.out.mono ?_
        rintro e w5 ⟨rfl, hb5⟩
        have HTX : Hid (w5.heap[w3.heap.size]? = some (.cells #[.slice (some ⟨b, off, none⟩) (ss.length - m) kc, .int .i64 nx] 24 (0, 0))) := (hb5.block _ (lt_of_block HT.out)).trans HT.out
        have HBX : Hid (Below w3.heap.size w3 w5) := nxt HBB.out hb5
        have HBW : Hid (Below w.heap.size w w5) := nxt (nxt B3.out HBB.out) hb5
        obtain ⟨n0, k0⟩ := cell_of HTX.out 0
        obtain ⟨n1, k1⟩ := cell_of HTX.out 1
        simp at n0 n1
        clear hb5 q1 HFS
        by_cases hbr : q < fl - 1
        · rw [if_pos hbr] at HRN
          have HRS : Hid (drQ nx q ss = ss.drop m) := HRN.out
          clear HRN
          have hzr := (HBX.out.block _ (lt_of_block Y3.out)).trans Y3.out
          have HFI : Hid (∀ x y, LayS ((w5.setCell ⟨w.heap.size + 1, 0, none⟩ x).setCell ⟨w.heap.size + 1, 1, none⟩ y) (some ⟨b, off, none⟩) (ss.drop m)) := fun x y => HK.out _ (HOS.out.upper fun b k1 k2 => by
            rw [Below.heap_setCell _ _ _ _ (by show b ≠ w.heap.size + 1; omega), Below.heap_setCell _ _ _ _ (by show b ≠ w.heap.size + 1; omega)]
            exact HBX.out.block b k2).lay
          obtain ⟨r0, f0⟩ := cell_of hzr 0
          obtain ⟨r1, f1⟩ := cell_of hzr 1
          simp at r0 r1
          have hs2 := boxed2 hzr (.slice (some ⟨b, off, none⟩) (ss.length - m) kc) (.int .i64 nx)
          have s0 := (cell_of hs2 0).1
          have s1 := (cell_of hs2 1).1
          simp at s0 s1
          clear hzr hs2
          go_wp2_with fail
          refine bodyPost_ret (v := .tuple #[.agg #[.slice (some ⟨b, off, none⟩) (ss.length - m) kc, .int .i64 nx], .int .i64 0]) (by simp [results, Try.results16, go_sem, s0, s1]) rfl ?_
          rw [HRS.out]
          refine ⟨_, kc, ?_, HFI.out _ _, (HBW.out.setCell (by show w.heap.size ≤ w.heap.size + 1; omega) _).setCell (by show w.heap.size ≤ w.heap.size + 1; omega) _⟩
          rw [List.length_drop]
        · rw [if_neg hbr] at HRN
          have ebl : boxLen wr w3.heap.size = ss.length - m := boxLen_of t0
          have HEB : Hid (boxLen wr w3.heap.size = ss.length - m) := ebl
          clear ebl
          have hk1 : ¬ kc = 1 := by omega
          skip
          · have hk1' : ¬ (1 : Nat) = kc := fun e => hk1 e.symm
            have HKN : Hid (∀ W, LayS W oa ss → LayS W (some ⟨b, off + 1, none⟩) (ss.drop (m + 1))) := fun W h => by
              have := (HK.out W h).drop 1
              rw [List.drop_drop] at this
              exact this
            have HTN : Hid (∀ v, (w5.setCell ⟨w3.heap.size, 0, none⟩ v).heap[w3.heap.size]? = some (.cells #[v, .int .i64 nx] 24 (0, 0))) := fun v => by have := set_one_cell (o := 0) HTX.out v; simpa using this
            have HBN : Hid (∀ v, Below w3.heap.size w3 (w5.setCell ⟨w3.heap.size, 0, none⟩ v)) := fun v => HBX.out.setCell (Nat.le_refl _) v
            go_wp2_with fail
            refine ⟨⟨m + 1, some ⟨b, off + 1, none⟩, kc - 1, by omega, by omega, by omega, HKN.out, HRN.out, ?_, HBN.out _⟩, ?_⟩
            · have h := HTN.out (.slice (some ⟨b, off + 1, none⟩) (ss.length - m - 1) (kc - 1))
              rw [show ss.length - (m + 1) = ss.length - m - 1 by omega]
              exact h
            · rw [HEB.out]
              have h := (cell_of (HTN.out (.slice (some ⟨b, off + 1, none⟩) (ss.length - m - 1) (kc - 1))) 0).1
              simp at h
              rw [boxLen_of h]
              omega
    · have hme : m = ss.length := by omega
      have HRS : Hid (drQ nx q ss = ss.drop m) := by
        show _ = _
        rw [HE.out, hme, List.drop_length]
        rfl
      have hn0 : ss.length - m = 0 := by omega
      have HN0 : Hid (ss.length - m = 0) := hn0
      rw [hn0] at HT t0
      clear hme hlt hn0
      have HBX : Hid (Below w3.heap.size w3 wr) := HBB.out
      have HBW : Hid (Below w.heap.size w wr) := nxt B3.out HBB.out
      have hzr := (HBX.out.block _ (lt_of_block Y3.out)).trans Y3.out
      have HFI : Hid (∀ x y, LayS ((wr.setCell ⟨w.heap.size + 1, 0, none⟩ x).setCell ⟨w.heap.size + 1, 1, none⟩ y) ka (ss.drop m)) := fun x y => HK.out _ (HOS.out.upper fun b k1 k2 => by
        rw [Below.heap_setCell _ _ _ _ (by show b ≠ w.heap.size + 1; omega), Below.heap_setCell _ _ _ _ (by show b ≠ w.heap.size + 1; omega)]
        exact HBX.out.block b k2).lay
      obtain ⟨r0, f0⟩ := cell_of hzr 0
      obtain ⟨r1, f1⟩ := cell_of hzr 1
      simp at r0 r1
      have hs2 := boxed2 hzr (.slice ka 0 kc) (.int .i64 nx)
      have s0 := (cell_of hs2 0).1
      have s1 := (cell_of hs2 1).1
      simp at s0 s1
      clear hzr hs2
      go_wp2_with fail
      refine bodyPost_ret (v := .tuple #[.agg #[.slice ka 0 kc, .int .i64 nx], .int .i64 0]) (by simp [results, Try.results16, go_sem, s0, s1]) rfl ?_
      rw [HRS.out]
      refine ⟨_, kc, ?_, HFI.out _ _, (HBW.out.setCell (by show w.heap.size ≤ w.heap.size + 1; omega) _).setCell (by show w.heap.size ≤ w.heap.size + 1; omega) _⟩
      rw [List.length_drop, HN0.out]
end Go.Proofs.Ytocodkoanjcmkab
