/-
  The program's Drop.
-/
import Derived.Test.YtocodkoanjcmkabWlFill
namespace Go.Proofs.Ytocodkoanjcmkab
open Go.ChangeShapes Go.WideShapes Go.ChangeAt Go.RowKit Go.Deep
open Se

theorem step_call1 {ops : Array Oper} {o : Oper} {a : Act} {w : World} {K : Act → World → Prop} {Q : Exit → Act → World → Prop} {E : Prop} (hg : o.guard = none) (f : FuncId) (hf : ∀ x1 w, Sem.run Try.prog (callFunc f #[x1]) w = .ok (.enter f #[x1]) w) (s1 : Operand) (ts : Array TypeId)
    (ho : o.op = .call { callee := .value (.func f), args := #[s1], argTypes := ts }) (x1 : Value) (h1 : a.eval s1 = x1) (R : Value → World → Prop)
    (hc : Calls Try.prog f #[x1] w fun e w' => ∃ y, e = .returned y ∧ R y w') (h : ∀ y w', R y w' → K (a.put o.dst y) w') :
    if Region.wanted o (yielded ops a.tmps) = true then Oper.wp Try.prog o a w K Q else E := by
  have hw : Region.wanted o (yielded ops a.tmps) = true := by simp [Region.wanted, hg]
  rw [if_pos hw]
  have hrun : (execOp a.eval o).run Try.prog w = .ok (.enter f #[x1]) w := by
    unfold execOp
    simp only [ho, resolve, invoke, List.map_toArray, List.map_cons, List.map_nil, h1]
    go_simp
  unfold Oper.wp
  rw [hrun, Oper.upon_enter]
  refine hc.mono fun e w' he => ?_
  obtain ⟨y, rfl, hy⟩ := he
  exact h y w' hy

theorem Num.le : ∀ {rs : List Rc} {d : Int}, Num d rs → ∀ r ∈ rs, d ≤ r.1 ∧ r.1 ≤ d + rs.length - 1
  | [], _, _, r, hr => by simp at hr
  | x :: rs, d, h, r, hr => by
    simp only [List.length_cons]
    rcases List.mem_cons.1 hr with rfl | hr
    · have := h.1
      omega
    · have := Num.le h.2.2 r hr
      omega

/-- The segments that are left. -/
def drR : List (List UInt8) → Int → Int → List (List UInt8)
  | [], _, _ => []
  | s :: ss, d, q => if q < wrap64 (wrap64 (d + (scR s d).1.length) - 1) then s :: ss else drR ss (wrap64 (d + (scR s d).1.length)) q
/-- Drop's answer: the error, the segments, the next number. -/
def dropR (ss : List (List UInt8)) (nx q : Int) : Int × List (List UInt8) × Int := if chkW ss nx ≠ 0 then (chkW ss nx, [], 0) else (0, drR ss (oldR ss nx) q, nx)
def slen : Value → Nat
  | .slice _ n _ => n
  | _ => 0
theorem LayS.drop {w : World} {b off : Nat} {ss : List (List UInt8)} (h : LayS w (some ⟨b, off, none⟩) ss) (k : Nat) : LayS w (some ⟨b, off + k, none⟩) (ss.drop k) := by
  intro i l hi
  rw [List.getElem?_drop] at hi
  obtain ⟨b', off', a', c', h1, h2, h3⟩ := h (k + i) l hi
  simp only [Option.some.injEq, Addr.mk.injEq, and_true] at h1
  obtain ⟨rfl, rfl⟩ := h1
  exact ⟨b, off + k, a', c', rfl, by rw [Nat.add_assoc]; exact h2, h3⟩

set_option maxRecDepth 100000 in
set_option maxHeartbeats 6400000 in
theorem drop_any (ss : List (List UInt8)) (nx q : Int) (a : Option Addr) (c : Nat) (w : World) (hS : LayS w a ss) (hn : ss.length ≤ 200000000000000) (h1 : -9223372036854775808 ≤ nx) (h2 : nx ≤ 9223372036854775807) (hc : ss.length ≤ c) (hc2 : c ≤ 9223372036854775807) :
    Calls Try.prog 15 #[.agg #[.slice a ss.length c, .int .i64 nx], .int .i64 q] w fun e w' => ∃ v, e = .returned (.tuple #[.agg #[v, .int .i64 (dropR ss nx q).2.2], .int .i64 (dropR ss nx q).1]) ∧ OwnS w' w.heap.size v (dropR ss nx q).2.1 ∧ Below w.heap.size w w' := by
  have HS : Hid (LayS w a ss) := hS
  clear hS
  have T0 : Hid (Two w ((w.alloc (.cells #[.slice a ss.length c, .int .i64 nx] 26)).alloc (.cells #[.slice none 0 0, .int .i64 0] 26)) (.slice a ss.length c) (.int .i64 nx)) := Two.new _ _ _
  have HC : Hid (∀ W, Below w.heap.size w W → Calls Try.prog 20 #[.agg #[.slice a ss.length c, .int .i64 nx]] W fun e w' => e = .returned (.int .i64 (chkW ss nx)) ∧ Below W.heap.size W w') := fun W hb => check_any ss nx a c W (HS.out.below hb) hn h1 h2
  have HOK := chkW_ok (ss := ss) (nx := nx)
  unfold dropR
  generalize chkW ss nx = ck at *
  by_cases hck : ck ≠ 0
  · have hckb : (ck != 0) = true := by simpa using hck
    rw [if_pos hck]
    clear HOK
    go_enter Try.func15, Try.ntmps15
    go_wp2_with (go_at_call 20; refine (HC.out _ T0.out.bel).mono ?_; rintro e w1 ⟨rfl, hb1⟩; have T1 : Hid (Two w w1 (.slice a ss.length c) (.int .i64 nx)) := T0.out.below hb1; obtain ⟨r0, r1, z0, z1, f0, f1⟩ := T1.out.ret (.slice none 0 0) (.int .i64 0); clear hb1)
    refine bodyPost_ret (v := .tuple #[.agg #[.slice none 0 0, .int .i64 0], .int .i64 ck]) (by simp [results, Try.results15, go_sem, z0, z1]) rfl ?_
    exact ⟨_, rfl, OwnS.nil _ _, T1.out.fin _ _⟩
  obtain rfl : ck = 0 := by omega
  clear hck
  obtain ⟨hn1, hn2, hn3, hold, hrun⟩ := HOK rfl
  have HLN : Hid (∀ l ∈ ss, l.length ≤ 480 ∧ 0 < l.length) := runS_len hrun
  clear HOK hrun
  have e00 : ((0 : Int) != 0) = false := by decide
  rw [if_neg (by simp)]
  have HOL : Hid (∀ W, Below w.heap.size w W → Calls Try.prog 35 #[.agg #[.slice a ss.length c, .int .i64 nx]] W fun e w'' => e = .returned (.int .i64 (oldR ss nx)) ∧ Below W.heap.size W w'') := fun w' hb => oldest_any ss nx a c w' (HS.out.below hb)
  obtain ⟨hd1, hd2⟩ := oldR_le (ss := ss) h1 h2
  generalize oldR ss nx = d0 at *
  go_enter Try.func15, Try.ntmps15
  go_wp2_with (first
    | (go_at_call 20; refine (HC.out _ T0.out.bel).mono ?_; rintro e w1 ⟨rfl, hb1⟩; have T1 : Hid (Two w w1 (.slice a ss.length c) (.int .i64 nx)) := T0.out.below hb1; obtain ⟨x0, x1⟩ := T1.out.cells; clear hb1)
    | (go_at_call 35; refine (HOL.out _ T1.out.bel).mono ?_; rintro e w2 ⟨rfl, hb2⟩; have T2 : Hid (Two w w2 (.slice a ss.length c) (.int .i64 nx)) := T1.out.below hb2; clear hb2))
  clear x0 x1 HOL HC T0 T1
  go_loopw [7, 8] (fun v7 v8 wr => ∃ (m : Nat) (z : Int) (ka : Option Addr) (kc : Nat), v7 = .slice ka (ss.length - m) kc ∧ v8 = .int .i64 z ∧ m ≤ ss.length ∧ ss.length - m ≤ kc ∧ kc ≤ 9223372036854775807 ∧ -9223372036854775808 ≤ z ∧ z ≤ 9223372036854775807 ∧ Hid (LayS w ka (ss.drop m)) ∧ Hid (drR ss d0 q = drR (ss.drop m) z q) ∧ Hid (Two w wr (.slice a ss.length c) (.int .i64 nx))) (fun v7 _ _ => slen v7)
  case atStart => exact ⟨0, d0, a, c, rfl, rfl, by omega, by omega, hc2, hd1, hd2, HS.out, rfl, T2.out⟩
  case round =>
    obtain ⟨m, z, ka, kc, rfl, rfl, hm, hkc, hkc2, hz1, hz2, HK, HE, T3⟩ := hrel
    have HCO : Hid (∀ W, Below w.heap.size w W → Calls Try.prog 32 #[.slice ka (ss.length - m) kc] W fun e w' => ∃ v, e = .returned v ∧ OwnS w' W.heap.size v (ss.drop m) ∧ Below W.heap.size W w') := by
      intro W hb
      have := copyOf_any ka kc (ss.drop m) W (HK.out.below hb) (by rw [List.length_drop]; omega)
      rw [List.length_drop] at this
      exact this
    by_cases hlt : m < ss.length
    · have hltb : (0 : Int) < ((ss.length - m : Nat) : Int) := by omega
      obtain ⟨l, hl⟩ : ∃ l, ss[m]? = some l := ⟨_, List.getElem?_eq_getElem hlt⟩
      have hdr : ss.drop m = l :: ss.drop (m + 1) := by
        rw [List.drop_eq_getElem_cons hlt]
        rw [List.getElem?_eq_getElem hlt] at hl
        simp only [Option.some.injEq] at hl
        rw [hl]
      have HKB := HK.out.below T3.out.bel
      obtain ⟨b, off, a1, c1, rfl, q1, q2, q3⟩ := HKB 0 l (by rw [hdr]; rfl)
      have hl480 := (HLN.out l (List.mem_of_getElem? hl)).1
      have HSC : Hid (Calls Try.prog 26 #[.slice a1 l.length c1, .int .i64 z] wr _) := scan_any a1 c1 l z wr q2 hl480 hz1 hz2
      have hle := scR_le l z
      have HRN : Hid (drR ss d0 q = if q < wrap64 (wrap64 (z + (scR l z).1.length) - 1) then ss.drop m else drR (ss.drop (m + 1)) (wrap64 (z + (scR l z).1.length)) q) := by
        show _ = _
        rw [HE.out, hdr]
        rfl
      have HK2 : Hid (LayS w (some ⟨b, off + 1, none⟩) (ss.drop (m + 1))) := by
        have := HK.out.drop 1
        rw [List.drop_drop] at this
        exact this
      have q1' : wr.cell? ⟨b, off, none⟩ = some (.slice a1 l.length c1) := q1
      clear hl q2 hdr HE HKB q1
      generalize scR l z = T at *
      obtain ⟨qs, n⟩ := T
      simp only at HRN HSC hle
      have hql : qs.length ≤ 30 := by omega
      have HWR : Hid (-9223372036854775808 ≤ wrap64 (z + qs.length) ∧ wrap64 (z + qs.length) ≤ 9223372036854775807) := by show _ ∧ _; unfold wrap64; omega
      obtain ⟨zz, hzz⟩ : ∃ zz, wrap64 (z + qs.length) = zz := ⟨_, rfl⟩
      rw [hzz] at HRN HWR
      obtain ⟨z3, hz3⟩ : ∃ z3, wrap64 (zz - 1) = z3 := ⟨_, rfl⟩
      rw [hz3] at HRN
      by_cases hbr : q < z3
      · rw [if_pos hbr] at HRN
        have HFE := HRN
        go_wp2_with (go_at_call 26; refine HSC.out.mono ?_; rintro e w3 ⟨v3, rfl, hor3, hb3⟩; obtain ⟨ra, rc, rfl⟩ := hor3.shape; have T5 : Hid (Two w w3 (.slice a ss.length c) (.int .i64 nx)) := T3.out.below hb3; clear hor3 hb3)
        obtain ⟨p0, p1⟩ := T5.out.cells
        have p0d : w3.drew.cell? ⟨w.heap.size, 0, none⟩ = _ := p0
        have p1d : w3.drew.cell? ⟨w.heap.size, 1, none⟩ = _ := p1
        have hbT := T5.out.bel.size
        go_wp2_with fail
        go_region_law (refine step_call1 rfl 32 (by intros; go_simp) _ _ rfl (.slice (some ⟨b, off, none⟩) (ss.length - m) kc) (by first | (simp [Act.eval]; done) | simp [Act.eval, Act.put]) (fun y w' => OwnS w' w3.heap.size y (ss.drop m) ∧ Below w3.heap.size w3.drew w') ((HCO.out _ T5.out.bel.drew).mono fun e w' ⟨s, k1, k2, k3⟩ => ⟨s, k1, k2, k3⟩) ?_; intro y w4 hR; obtain ⟨h5, h6⟩ := hR; have hsh := h5.shape; rw [List.length_drop] at hsh; obtain ⟨ua, uc, rfl⟩ := hsh; have T4 : Two w w4 (.slice a ss.length c) (.int .i64 nx) := T5.out.below ((Below.refl _ _).drew.trans h6); obtain ⟨g0, g1⟩ := T4.cells; obtain ⟨r0, r1, z0, z1, f0, f1⟩ := T4.ret (.slice ua (ss.length - m) uc) (.int .i64 nx))
        all_goals
          go_wp2_with fail
          refine bodyPost_ret (v := .tuple #[.agg #[.slice ua (ss.length - m) uc, .int .i64 nx], .int .i64 0]) (by simp [results, Try.results15, go_sem, r0, r1]) rfl ?_
          rw [HFE.out]
          exact ⟨_, rfl, (h5.ret T4 _ _).base hbT, T4.fin _ _⟩
      · rw [if_neg hbr] at HRN
        by_cases hk1 : kc = 1
        · have hl1 : ss.length - m = 1 := by omega
          have HKN : Hid (LayS w (some ⟨b, off, none⟩) (ss.drop (m + 1))) := by
            have : ss.drop (m + 1) = [] := List.eq_nil_of_length_eq_zero (by rw [List.length_drop]; omega)
            rw [this]
            exact LayS.nil _ _
          have hl2 : ss.length - (m + 1) = ss.length - m - 1 := by omega
          subst hk1
          go_wp2_with (go_at_call 26; refine HSC.out.mono ?_; rintro e w3 ⟨v3, rfl, hor3, hb3⟩; obtain ⟨ra, rc, rfl⟩ := hor3.shape; have T5 : Hid (Two w w3 (.slice a ss.length c) (.int .i64 nx)) := T3.out.below hb3; clear hor3 hb3)
          refine ⟨⟨m + 1, zz, some ⟨b, off, none⟩, 0, ?_, by rw [hzz], by omega, by omega, by omega, HWR.out.1, HWR.out.2, HKN.out, HRN.out, T5.out⟩, ?_⟩
          · rw [hl2, hl1]
          · simp [slen]
            omega
        · have hl2 : ss.length - (m + 1) = ss.length - m - 1 := by omega
          go_wp2_with (go_at_call 26; refine HSC.out.mono ?_; rintro e w3 ⟨v3, rfl, hor3, hb3⟩; obtain ⟨ra, rc, rfl⟩ := hor3.shape; have T5 : Hid (Two w w3 (.slice a ss.length c) (.int .i64 nx)) := T3.out.below hb3; clear hor3 hb3)
          refine ⟨⟨m + 1, zz, some ⟨b, off + 1, none⟩, kc - 1, ?_, by rw [hzz], by omega, by omega, by omega, HWR.out.1, HWR.out.2, HK2.out, HRN.out, T5.out⟩, ?_⟩
          · rw [hl2]
          · simp [slen]
            omega
    · have hme : m = ss.length := by omega
      subst hme
      have HFE : Hid (drR ss d0 q = ss.drop ss.length) := by
        show _ = _
        rw [HE.out, List.drop_length]
        rfl
      have h00 : ¬ (0 : Int) < ((ss.length - ss.length : Nat) : Int) := by omega
      obtain ⟨p0, p1⟩ := T3.out.cells
      have p0d : wr.drew.cell? ⟨w.heap.size, 0, none⟩ = _ := p0
      have p1d : wr.drew.cell? ⟨w.heap.size, 1, none⟩ = _ := p1
      have hbT := T3.out.bel.size
      go_wp2_with fail
      go_region_law (refine step_call1 rfl 32 (by intros; go_simp) _ _ rfl (.slice ka (ss.length - ss.length) kc) (by first | (simp [Act.eval]; done) | simp [Act.eval, Act.put]) (fun y w' => OwnS w' wr.heap.size y (ss.drop ss.length) ∧ Below wr.heap.size wr.drew w') ((HCO.out _ T3.out.bel.drew).mono fun e w' ⟨s, k1, k2, k3⟩ => ⟨s, k1, k2, k3⟩) ?_; intro y w4 hR; obtain ⟨h5, h6⟩ := hR; have hsh := h5.shape; rw [List.length_drop, Nat.sub_self] at hsh; obtain ⟨ua, uc, rfl⟩ := hsh; have T4 : Two w w4 (.slice a ss.length c) (.int .i64 nx) := T3.out.below ((Below.refl _ _).drew.trans h6); obtain ⟨g0, g1⟩ := T4.cells; obtain ⟨r0, r1, z0, z1, f0, f1⟩ := T4.ret (.slice ua 0 uc) (.int .i64 nx))
      all_goals
        go_wp2_with fail
        refine bodyPost_ret (v := .tuple #[.agg #[.slice ua 0 uc, .int .i64 nx], .int .i64 0]) (by simp [results, Try.results15, go_sem, r0, r1]) rfl ?_
        rw [HFE.out]
        exact ⟨_, rfl, (h5.ret T4 _ _).base hbT, T4.fin _ _⟩

theorem drop_built (q : Int) : ∀ (gs : List (List Rc)) (d : Int), (∀ g ∈ gs, g ≠ []) → (∀ g ∈ gs, (frs g).length ≤ 480) → Num d gs.flatten → 1 ≤ d → d + gs.flatten.length ≤ 1099511627776 →
    ∃ k, k ≤ gs.length ∧ drR (gs.map frs) d q = (gs.drop k).map frs ∧ ∀ r ∈ (gs.take k).flatten, r.1 ≤ q
  | [], d, _, _, _, _, _ => ⟨0, by simp, by simp [drR], by simp⟩
  | g :: gs, d, hne, hl, hn, h0, h1 => by
    rw [List.flatten_cons, Num.app] at hn
    simp only [List.flatten_cons, List.length_append] at h1
    have hg := sc_all hn.1 (by omega) (by omega)
    simp only [List.map_cons, drR, hg]
    rw [wrap_id (n := d + g.length) (by omega) (by omega), wrap_id (n := d + g.length - 1) (by omega) (by omega)]
    by_cases hq : q < d + g.length - 1
    · rw [if_pos hq]
      exact ⟨0, by simp, by simp, by simp⟩
    · rw [if_neg hq]
      obtain ⟨k, h2, h3, h4⟩ := drop_built q gs (d + g.length) (fun x hx => hne x (by simp [hx])) (fun x hx => hl x (by simp [hx])) hn.2 (by omega) (by omega)
      refine ⟨k + 1, by simpa using h2, by simpa using h3, ?_⟩
      intro r hr
      simp only [List.take_succ_cons, List.flatten_cons, List.mem_append] at hr
      rcases hr with hr | hr
      · have := Num.le hn.1 r hr
        omega
      · exact h4 r hr

/-- What Drop makes of a log that was built. -/
theorem Lg.drop {f nx : Int} {gs : List (List Rc)} {ss : List (List UInt8)} (h : Lg f gs ss nx) (q : Int) : ∃ k, k ≤ gs.length ∧ dropR ss nx q = (0, (gs.drop k).map frs, nx) ∧ (∀ r ∈ (gs.take k).flatten, r.1 ≤ q) ∧ Lg (f + (gs.take k).flatten.length) (gs.drop k) ((gs.drop k).map frs) nx := by
  have h1 := h.lo
  have h2 := h.hi
  have h3 := h.next
  obtain ⟨k, k1, k2, k3⟩ := drop_built q gs f h.ne h.len h.num h1 (by omega)
  have hsplit : gs.flatten = (gs.take k).flatten ++ (gs.drop k).flatten := by rw [← List.flatten_append, List.take_append_drop]
  have hn := h.num
  rw [hsplit, Num.app] at hn
  have hlen : gs.flatten.length = (gs.take k).flatten.length + (gs.drop k).flatten.length := by rw [hsplit, List.length_append]
  refine ⟨k, k1, ?_, k3, ⟨rfl, fun g hg => h.ne g (List.mem_of_mem_drop hg), fun g hg => h.len g (List.mem_of_mem_drop hg), hn.2, by omega, by omega, h2, ?_⟩⟩
  · unfold dropR
    rw [h.chk, if_neg (by simp), h.old, h.segs, k2]
  · have := h.few
    rw [List.length_drop]
    omega
end Go.Proofs.Ytocodkoanjcmkab
