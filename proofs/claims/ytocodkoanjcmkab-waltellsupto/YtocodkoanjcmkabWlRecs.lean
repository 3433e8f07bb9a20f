/-
  The program's Records.
-/
import Derived.Test.YtocodkoanjcmkabWlApp
namespace Go.Proofs.Ytocodkoanjcmkab
open Go.ChangeShapes Go.WideShapes Go.ChangeAt Go.RowKit Go.Deep
open Se

/-- All records of segments, from a number on. -/
def allR : List (List UInt8) → Int → List Rc
  | [], _ => []
  | s :: ss, d => (scR s d).1 ++ allR ss (wrap64 (d + (scR s d).1.length))
/-- Records' answer. -/
def recR (ss : List (List UInt8)) (nx : Int) : Int × List Rc := if chkW ss nx ≠ 0 then (chkW ss nx, []) else (0, allR ss (oldR ss nx))

theorem RItems.one {W : World} {B : Nat} {rs : List Rc} {xs : List Value} (h : RItems W B rs xs) (hl : xs.length = 2 * rs.length) : ∀ u ∈ xs, u.oneCell' = true := by
  intro u hu
  obtain ⟨j, hj, e⟩ := List.mem_iff_getElem.1 hu
  obtain ⟨a, c, h1, h2, -⟩ := h (j / 2) _ (List.getElem?_eq_getElem (by omega))
  have hj2 : xs[j]? = some u := by rw [List.getElem?_eq_getElem hj, e]
  by_cases hp : j % 2 = 0
  · rw [show 2 * (j / 2) = j by omega, hj2] at h1
    cases h1
    rfl
  · rw [show 2 * (j / 2) + 1 = j by omega, hj2] at h2
    cases h2
    rfl
theorem RItems.append {W : World} {B : Nat} {rs qs : List Rc} {xs ys : List Value} (h : RItems W B rs xs) (hl : xs.length = 2 * rs.length) (k : RItems W B qs ys) : RItems W B (rs ++ qs) (xs ++ ys) := by
  intro j r hj
  by_cases hlt : j < rs.length
  · rw [List.getElem?_append_left hlt] at hj
    obtain ⟨a', c', h1, h2, h3⟩ := h j r hj
    exact ⟨a', c', by rw [List.getElem?_append_left (by omega)]; exact h1, by rw [List.getElem?_append_left (by omega)]; exact h2, h3⟩
  · rw [List.getElem?_append_right (by omega)] at hj
    obtain ⟨a', c', h1, h2, h3⟩ := k _ r hj
    refine ⟨a', c', ?_, ?_, h3⟩
    · rw [List.getElem?_append_right (by omega), show 2 * j - xs.length = 2 * (j - rs.length) by omega]; exact h1
    · rw [List.getElem?_append_right (by omega), show 2 * j + 1 - xs.length = 2 * (j - rs.length) + 1 by omega]; exact h2

/-- append of many records. -/
theorem wpList_appR (w : World) {ops : Array Oper} {rest : List Oper} {o : Oper} {a : Act} {Q : Exit → Act → World → Prop} (hgd : o.guard = none) (sl x : Operand)
    (ho : o.op = .call { callee := .builtin .append, args := #[sl, x], argTypes := #[34, 34] })
    (B : Nat) (s : Value) (l m : List Rc) (hs : a.eval sl = s) (hown : OwnR w B s l) (ua : Option Addr) (uc : Nat) (hx : a.eval x = .slice ua m.length uc) (hm : OwnR w B (.slice ua m.length uc) m) (hlen : l.length + m.length ≤ 1000000000) (hbase : B ≤ w.heap.size)
    (h : ∀ s' w', OwnR w' B s' (l ++ m) → w.grownBy w' s.ownBlock → wpList Try.prog ops Q rest (a.put o.dst s') w') : wpList Try.prog ops Q (o :: rest) a w := by
  obtain ⟨i0, hi, hz0, hz1, hz2⟩ := info_parts Try.infoRc
  have hrow := hown.row
  obtain ⟨xs, hr, hit⟩ := hown
  obtain ⟨ys, hr2, hit2⟩ := hm
  have hyl : ys.length = 2 * m.length := by have := hr2.1; omega
  have hxl : xs.length = 2 * l.length := by have := hr.1; omega
  refine wpList_append_apart w hgd sl x 34 ho B 66 i0 _ 2 32 Try.underlying34 hi hz0 hz1 hz2 rfl (by decide) s l.length xs hs hr ua m.length uc ys hx ?_ (by omega) ?_ (hit2.one hyl) (by unfold maxLen; omega) (by omega) hbase ?_
  · intro e
    rcases hr2.2 with ⟨h3, h4⟩ | ⟨g, cap, cur, h4, -⟩
    · simp only [Value.slice.injEq] at h3
      omega
    · rw [e] at h4; simp at h4
  · intro ad' e j u hj
    subst e
    rcases hr2.2 with ⟨h4, -⟩ | ⟨g, cap, cur, h4, -⟩
    · simp at h4
    · simp only [Value.slice.injEq, Option.some.injEq] at h4
      obtain ⟨rfl, -, rfl⟩ := h4
      exact hr2.cells (g := g) rfl _ _ hj
  · intro v' w' h1 h2 h3
    refine h v' w' ?_ h2
    have kp : KpB w w' := KpB.grown h2 (by
      intro g hg
      obtain ⟨-, -, cur, h5⟩ := hrow g hg
      exact ⟨cur, _, _, h5, by decide⟩)
    exact ⟨_, by rw [List.length_append]; exact h1, ((hit.kpb kp).append hxl (hit2.kpb kp))⟩

theorem OwnR.same {W W' : World} {B : Nat} {v : Value} {rs : List Rc} (h : OwnR W B v rs) (k : KpB W W') (hg : ∀ g, v.ownBlock = some g → W'.heap[g]? = W.heap[g]?) : OwnR W' B v rs := by
  obtain ⟨xs, h1, h2⟩ := h
  exact ⟨xs, ownsRow_same h1 hg, h2.kpb k⟩

set_option maxRecDepth 100000 in
set_option maxHeartbeats 6400000 in
theorem records_any (ss : List (List UInt8)) (nx : Int) (a : Option Addr) (c : Nat) (w : World) (hS : LayS w a ss) (hn : ss.length ≤ 200000000000000) (h1 : -9223372036854775808 ≤ nx) (h2 : nx ≤ 9223372036854775807) :
    Calls Try.prog 13 #[.agg #[.slice a ss.length c, .int .i64 nx]] w fun e w' => ∃ v, e = .returned (.tuple #[v, .int .i64 (recR ss nx).1]) ∧ OwnR w' w.heap.size v (recR ss nx).2 ∧ Below w.heap.size w w' := by
  have HS : Hid (LayS w a ss) := hS
  clear hS
  have B0 : Hid (Below w.heap.size w (w.alloc (.cells #[.slice a ss.length c, .int .i64 nx] 26))) := below_one _ _
  have HC : Hid (∀ W, Below w.heap.size w W → Calls Try.prog 20 #[.agg #[.slice a ss.length c, .int .i64 nx]] W fun e w' => e = .returned (.int .i64 (chkW ss nx)) ∧ Below W.heap.size W w') := fun W hb => check_any ss nx a c W (HS.out.below hb) hn h1 h2
  have HOK := chkW_ok (ss := ss) (nx := nx)
  unfold recR
  generalize chkW ss nx = ck at *
  by_cases hck : ck ≠ 0
  · have hckb : (ck != 0) = true := by simpa using hck
    rw [if_pos hck]
    clear HOK
    go_enter Try.func13, Try.ntmps13
    go_wp2_with (go_at_call 20; refine (HC.out _ B0.out).mono ?_; rintro e w1 ⟨rfl, hb1⟩; have B1 : Hid (Below w.heap.size w w1) := nxt B0.out hb1; clear hb1)
    refine bodyPost_ret (v := .tuple #[.slice none 0 0, .int .i64 ck]) (by simp [results, Try.results13, go_sem]) rfl ?_
    exact ⟨_, rfl, OwnR.nil _ _, B1.out⟩
  obtain rfl : ck = 0 := by omega
  clear hck
  obtain ⟨hn1, hn2, hn3, hold, hrun⟩ := HOK rfl
  have HLN : Hid (∀ l ∈ ss, l.length ≤ 480 ∧ 0 < l.length) := runS_len hrun
  clear HOK hrun
  have e00 : ((0 : Int) != 0) = false := by decide
  rw [if_neg (by simp)]
  have HOL : Hid (∀ W, Below w.heap.size w W → Calls Try.prog 35 #[.agg #[.slice a ss.length c, .int .i64 nx]] W fun e w'' => e = .returned (.int .i64 (oldR ss nx)) ∧ Below W.heap.size W w'') := fun w' hb => oldest_any ss nx a c w' (HS.out.below hb)
  obtain ⟨hd1, hd2⟩ := oldR_le (ss := ss) h1 h2
  generalize oldR ss nx = d0 at *
  have X0 : Hid ((w.alloc (.cells #[.slice a ss.length c, .int .i64 nx] 26)).heap[w.heap.size]? = some (.cells #[.slice a ss.length c, .int .i64 nx] 26 (0, 0))) := heap_alloc_new _ _
  go_enter Try.func13, Try.ntmps13
  go_wp2_with (first
    | (go_at_call 20; refine (HC.out _ B0.out).mono ?_; rintro e w1 ⟨rfl, hb1⟩; have B1 : Hid (Below w.heap.size w w1) := nxt B0.out hb1; have X1 : Hid (w1.heap[w.heap.size]? = some (.cells #[.slice a ss.length c, .int .i64 nx] 26 (0, 0))) := (hb1.block _ (lt_of_block X0.out)).trans X0.out; obtain ⟨x0, -⟩ := cell_of X1.out 0; obtain ⟨x1, -⟩ := cell_of X1.out 1; simp at x0 x1; clear hb1)
    | (go_at_call 35; refine (HOL.out _ B1.out).mono ?_; rintro e w2 ⟨rfl, hb2⟩; have B2 : Hid (Below w.heap.size w w2) := nxt B1.out hb2; have X2 : Hid (w2.heap[w.heap.size]? = some (.cells #[.slice a ss.length c, .int .i64 nx] 26 (0, 0))) := (hb2.block _ (lt_of_block X1.out)).trans X1.out; clear x0 x1; obtain ⟨x0, -⟩ := cell_of X2.out 0; obtain ⟨x1, -⟩ := cell_of X2.out 1; simp at x0 x1; clear hb2))
  clear x0 x1 HOL HC B0 B1 X0 X1
  go_loopw [5, 6, 21] (fun v y i wr => ∃ (z : Int) (m : Nat) (rs : List Rc), y = .int .i64 z ∧ i = .int .i64 m ∧ m ≤ ss.length ∧ -9223372036854775808 ≤ z ∧ z ≤ 9223372036854775807 ∧ Hid (rs.length ≤ m * 30) ∧ Hid (allR ss d0 = rs ++ allR (ss.drop m) z) ∧ Hid (OwnR wr w2.heap.size v rs) ∧ Hid (Below w2.heap.size w2 wr)) (fun _ _ i _ => ss.length - (intOf i).toNat)
  case atStart => exact ⟨d0, 0, [], rfl, rfl, by omega, hd1, hd2, Nat.zero_le _, rfl, OwnR.nil _ _, Below.refl _ _⟩
  case round =>
    obtain ⟨z, m, rs, rfl, rfl, hm, hz1, hz2, HRL, HE, HO, HB⟩ := hrel
    have HBW : Hid (Below w.heap.size w wr) := nxt B2.out HB.out
    by_cases hlt : m < ss.length
    · have hltb : (m : Int) < (ss.length : Int) := by omega
      obtain ⟨l, hl⟩ : ∃ l, ss[m]? = some l := ⟨_, List.getElem?_eq_getElem hlt⟩
      have HDR : Hid (ss.drop m = l :: ss.drop (m + 1)) := by
        show _ = _
        rw [List.drop_eq_getElem_cons hlt]
        rw [List.getElem?_eq_getElem hlt] at hl
        simp only [Option.some.injEq] at hl
        rw [hl]
      obtain ⟨b, off, a1, c1, rfl, q1, q2, q3⟩ := (HS.out.below HBW.out) m l hl
      have hl480 := (HLN.out l (List.mem_of_getElem? hl)).1
      have HSC : Hid (Calls Try.prog 26 #[.slice a1 l.length c1, .int .i64 z] wr _) := scan_any a1 c1 l z wr q2 hl480 hz1 hz2
      have hle := scR_le l z
      have HRN : Hid (allR ss d0 = (rs ++ (scR l z).1) ++ allR (ss.drop (m + 1)) (wrap64 (z + (scR l z).1.length))) := by
        show _ = _
        rw [HE.out, HDR.out, List.append_assoc]
        rfl
      clear hl q2 HDR HE
      generalize scR l z = T at *
      obtain ⟨qs, n⟩ := T
      simp only at HRN HSC hle
      have hql : qs.length ≤ 30 := by omega
      have HWR : Hid (-9223372036854775808 ≤ wrap64 (z + qs.length) ∧ wrap64 (z + qs.length) ≤ 9223372036854775807) := by show _ ∧ _; unfold wrap64; omega
      have hrl := HRL.out
      obtain ⟨va, vc, rfl⟩ := HO.out.shape
      go_wp2_with (first
        | (go_at_call 26; refine HSC.out.mono ?_; rintro e w3 ⟨v3, rfl, hor3, hb3⟩; obtain ⟨ua, uc, rfl⟩ := hor3.shape; have HB3 : Hid (Below w2.heap.size w2 w3) := nxt HB.out hb3; have HO3 : Hid (OwnR w3 w2.heap.size (.slice va rs.length vc) rs) := HO.out.below hb3; have HU3 : Hid (OwnR w3 w2.heap.size (.slice ua qs.length uc) qs) := hor3.base HB.out.size; clear hor3 hb3)
        | (at_builtin; refine wpList_appR _ rfl _ _ rfl w2.heap.size _ rs qs rfl HO3.out ua uc rfl HU3.out ?d0 ?d1 ?_))
      case d0 => omega
      case d1 => exact HB3.out.size
      intro s4 w4 ho4 hg4
      have HO4 : Hid (OwnR w4 w2.heap.size s4 (rs ++ qs)) := ho4
      have HB4 : Hid (Below w2.heap.size w2 w4) := HB3.out.grown hg4 HB3.out.size (fun j e => (HO3.out.row j e).1)
      clear ho4 hg4
      go_wp2_with fail
      refine ⟨⟨_, m + 1, rs ++ qs, rfl, by go_num, by omega, HWR.out.1, HWR.out.2, ?_, HRN.out, HO4.out, HB4.out⟩, by simp [intOf]; omega⟩
      show _ ≤ _
      rw [List.length_append]
      omega
    · have hme : m = ss.length := by omega
      subst hme
      have HFE : Hid (allR ss d0 = rs) := by
        show _ = _
        rw [HE.out, List.drop_length]
        simp [allR]
      go_wp2_with fail
      refine bodyPost_ret (v := .tuple #[_, .int .i64 0]) (by simp [results, Try.results13, go_sem]; rfl) rfl ?_
      rw [HFE.out]
      exact ⟨_, rfl, HO.out.base B2.out.size, HBW.out⟩
end Go.Proofs.Ytocodkoanjcmkab
