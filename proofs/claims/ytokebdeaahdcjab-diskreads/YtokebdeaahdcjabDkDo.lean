/-
  The program's Do.
-/
import Derived.Test.YtokebdeaahdcjabDkTakeW
namespace Go.Proofs.Ytokebdeaahdcjab
open Go.ChangeShapes Go.WideShapes Go.ChangeAt Go.RowKit Go.Deep
open Dk (Wr St)

theorem below_via {W w0 w1 w5 : World} (h1 : Below W.heap.size W w1) (h2 : Below w0.heap.size w0 w1) (h3 : Below w0.heap.size w0 w5) (hs : W.heap.size ≤ w0.heap.size) : Below W.heap.size W w5 :=
  ⟨(h3.os.trans h2.os.symm).trans h1.os, (h3.tape.trans h2.tape.symm).trans h1.tape, (h3.output.trans h2.output.symm).trans h1.output, Nat.le_trans hs h3.size, fun j hj => ((h3.block j (by omega)).trans (h2.block j (by omega)).symm).trans (h1.block j hj)⟩

/-- A state that the program has made. -/
def StOwn (w : World) (v : Value) (s : St) : Prop := ∃ T wins c v', v = .agg #[.slice (some ⟨T, 0, none⟩) s.secs.length c, v'] ∧ Wn w T wins s.secs ∧ OwnW w 0 v' s.cache

theorem StOwn.is {w : World} {v : Value} {s : St} (h : StOwn w v s) (h1 : s.secs.length ≤ 4096) (h2 : s.cache.length ≤ 5000) : StIs w v s := by
  obtain ⟨T, wins, c, v', rfl, hw, ho⟩ := h
  obtain ⟨a, c', rfl⟩ := ho.shape
  exact ⟨_, c, a, c', rfl, hw.lays, ho.lay, by omega, by omega⟩

theorem StOwn.set {w : World} {v : Value} {s : St} (h : StOwn w v s) {g o : Nat} {cs : Array Value} {t : TypeId} {r : Nat × Nat} (hg : w.heap[g]? = some (.cells cs t r)) (h1 : t ≠ 5) (h2 : t ≠ 26) (h3 : t ≠ 28) (u : Value) : StOwn (w.setCell ⟨g, o, none⟩ u) v s := by
  obtain ⟨T, wins, c, v', rfl, hw, ho⟩ := h
  exact ⟨T, wins, c, v', rfl, hw.set hg h1 h2 u, ho.set hg h1 h3 u⟩

theorem StIs.empty (w : World) : StIs w (.agg #[.slice none 0 0, .slice none 0 0]) ⟨[], []⟩ := ⟨none, 0, none, 0, rfl, LayS.nil _ _, LayW.nil _ _, by simp, by simp⟩

/-- What the program answers: a state that it has made, or none. -/
def StRes (w : World) (v : Value) (s : St) : Prop := (StOwn w v s ∧ s.secs.length ≤ 4096 ∧ s.cache.length ≤ 5000) ∨ (v = .agg #[.slice none 0 0, .slice none 0 0] ∧ s = ⟨[], []⟩)

theorem StRes.is {w : World} {v : Value} {s : St} (h : StRes w v s) : StIs w v s := by
  rcases h with ⟨h1, h2, h3⟩ | ⟨rfl, rfl⟩
  · exact h1.is h2 h3
  · exact StIs.empty _

theorem StRes.set {w : World} {v : Value} {s : St} (h : StRes w v s) {g o : Nat} {cs : Array Value} {t : TypeId} {r : Nat × Nat} (hg : w.heap[g]? = some (.cells cs t r)) (h1 : t ≠ 5) (h2 : t ≠ 26) (h3 : t ≠ 28) (u : Value) : StRes (w.setCell ⟨g, o, none⟩ u) v s := by
  rcases h with ⟨h4, h5⟩ | h4
  · exact Or.inl ⟨h4.set hg h1 h2 h3 u, h5⟩
  · exact Or.inr h4

theorem StRes.shape {w : World} {v : Value} {s : St} (h : StRes w v s) : ∃ a c a' c', v = .agg #[.slice a s.secs.length c, .slice a' s.cache.length c'] := by
  obtain ⟨a, c, a', c', e, -⟩ := h.is
  exact ⟨a, c, a', c', e⟩

/-- Take, behind a copy. -/
theorem take_any (s : St) (x : Wr) (T c cw : Nat) (wins : List (Option (Nat × Nat))) (aw xa : Option Addr) (xc : Nat) (W w0 w1 : World) (hok : Dk.Ok s) (hr : Dk.refusal s x = 0)
    (hwn : Wn w1 T wins s.secs) (hap : Apart wins) (hup : WinsUp w0.heap.size wins) (how : OwnW w1 W.heap.size (.slice aw s.cache.length cw) s.cache) (hlw : LayW w0 aw s.cache) (hb0 : Below w0.heap.size w0 w1) (hb1 : Below W.heap.size W w1) (hs0 : W.heap.size ≤ w0.heap.size)
    (hx : Oct w1 xa xc x.d) (hd : x.d.length ≤ 140737488351232) (h1 : -9223372036854775808 ≤ x.sec) (h2 : x.sec ≤ 9223372036854775807) :
    Calls Try.prog 30 #[.agg #[.slice (some ⟨T, 0, none⟩) s.secs.length c, .slice aw s.cache.length cw], .agg #[.bool x.fl, .int .i64 x.sec, .slice xa x.d.length xc]] w1 fun e w' => ∃ y, e = .returned y ∧ StOwn w' y (Dk.doR s x).2 ∧ Below W.heap.size W w' := by
  have hD : Dk.doR s x = (0, if x.fl then ⟨Dk.full s, []⟩ else ⟨s.secs, s.cache ++ [⟨false, x.sec, x.d⟩]⟩) := by
    unfold Dk.doR
    rw [if_neg (by rw [Dk.chk_zero.2 hok]; simp), if_neg (by rw [hr]; simp)]
  rw [hD]
  obtain ⟨ss, ws⟩ := s
  obtain ⟨fl, sec, d⟩ := x
  have e1 := hok.hi
  have e2 := hok.few
  have e3 := hok.fits
  simp only at *
  cases fl with
  | true =>
    refine (take_flush ss ws T c cw wins aw xa xc d.length sec w0 w1 hb0 hwn hap hup hlw e3 e1 e2).mono ?_
    rintro e w' ⟨rfl, q1, q2⟩
    refine ⟨_, rfl, ⟨T, wins, c, .slice none 0 0, ?_, q1, OwnW.nil _ _⟩, below_via hb1 hb0 q2 hs0⟩
    simp only [if_true, Dk.full, Dk.layA_length]
  | false =>
    refine (take_write ss ws T c cw W.heap.size wins aw xa xc sec d w1 hwn how hb1.size hx ⟨hd, h1, h2⟩ e2).mono ?_
    rintro e w' ⟨aw', cw', rfl, q1, q2, q3⟩
    refine ⟨_, rfl, ⟨T, wins, c, .slice aw' (ws.length + 1) cw', rfl, q1, q2.base (Nat.zero_le _)⟩, hb1.trans q3⟩

set_option maxRecDepth 100000 in
set_option maxHeartbeats 6400000 in
theorem do_any (s : St) (x : Wr) (a a' b : Option Addr) (c c' xc : Nat) (w : World) (hS : LayS w a s.secs) (hW : LayW w a' s.cache) (hn : s.secs.length ≤ 200000000000000) (hm : s.cache.length ≤ 200000000000000)
    (hx : Oct w b xc x.d) (hd : x.d.length ≤ 140737488351232) (h1 : -9223372036854775808 ≤ x.sec) (h2 : x.sec ≤ 9223372036854775807) :
    Calls Try.prog 11 #[.agg #[.slice a s.secs.length c, .slice a' s.cache.length c'], .agg #[.bool x.fl, .int .i64 x.sec, .slice b x.d.length xc]] w fun e w' => ∃ r, e = .returned (.tuple #[r, .int .i64 (Dk.doR s x).1]) ∧ StRes w' r (Dk.doR s x).2 ∧ Below w.heap.size w w' := by
  have HS : Hid (LayS w a s.secs) := hS
  have HW : Hid (LayW w a' s.cache) := hW
  have HX : Hid (Oct w b xc x.d) := hx
  clear hS hW hx
  have HB : Hid (Below w.heap.size w (((w.alloc (.cells #[.slice a s.secs.length c, .slice a' s.cache.length c'] 30)).alloc (.cells #[.bool x.fl, .int .i64 x.sec, .slice b x.d.length xc] 28)).alloc (.cells #[.slice none 0 0, .slice none 0 0] 30))) := nxt (nxt (below_one _ _) (below_one _ _)) (below_one _ _)
  have X0 : Hid ((((w.alloc (.cells #[.slice a s.secs.length c, .slice a' s.cache.length c'] 30)).alloc (.cells #[.bool x.fl, .int .i64 x.sec, .slice b x.d.length xc] 28)).alloc (.cells #[.slice none 0 0, .slice none 0 0] 30)).heap[w.heap.size]? = some (.cells #[.slice a s.secs.length c, .slice a' s.cache.length c'] 30 (0, 0))) :=
    ((nxt (below_one _ _) (below_one _ _)).block _ (by simp)).trans (heap_alloc_new _ _)
  have V0 : Hid ((((w.alloc (.cells #[.slice a s.secs.length c, .slice a' s.cache.length c'] 30)).alloc (.cells #[.bool x.fl, .int .i64 x.sec, .slice b x.d.length xc] 28)).alloc (.cells #[.slice none 0 0, .slice none 0 0] 30)).heap[w.heap.size + 1]? = some (.cells #[.bool x.fl, .int .i64 x.sec, .slice b x.d.length xc] 28 (0, 0))) :=
    (Below.heap_alloc _ _ _ (by simp)).trans (heap_new2 _ _ _)
  have Y0 : Hid ((((w.alloc (.cells #[.slice a s.secs.length c, .slice a' s.cache.length c'] 30)).alloc (.cells #[.bool x.fl, .int .i64 x.sec, .slice b x.d.length xc] 28)).alloc (.cells #[.slice none 0 0, .slice none 0 0] 30)).heap[w.heap.size + 1 + 1]? = some (.cells #[.slice none 0 0, .slice none 0 0] 30 (0, 0))) := by
    have h := heap_alloc_new ((w.alloc (.cells #[.slice a s.secs.length c, .slice a' s.cache.length c'] 30)).alloc (.cells #[.bool x.fl, .int .i64 x.sec, .slice b x.d.length xc] 28)) (.cells #[.slice none 0 0, .slice none 0 0] 30)
    simp only [World.size_alloc] at h
    exact h
  have HCK : Hid (∀ W, Below w.heap.size w W → Calls Try.prog 20 #[.agg #[.slice a s.secs.length c, .slice a' s.cache.length c']] W fun e w' => e = .returned (.int .i64 (Dk.chk s)) ∧ Below W.heap.size W w') :=
    fun W hb => check_any s a a' c c' W (HS.out.below hb) (HW.out.below hb) hn hm
  by_cases hc : Dk.chk s = 0
  · have hok := Dk.chk_zero.1 hc
    have HRF : Hid (∀ W, Calls Try.prog 29 #[.agg #[.slice a s.secs.length c, .slice a' s.cache.length c'], .agg #[.bool x.fl, .int .i64 x.sec, .slice b x.d.length xc]] W fun e w' => e = .returned (.int .i64 (Dk.refusal s x)) ∧ Below W.heap.size W w') :=
      fun W => refusal_any s x a a' b c c' xc W hn hok.few hd h1 h2
    rw [hc] at HCK
    by_cases hr : Dk.refusal s x = 0
    · rw [hr] at HRF
      have HCO : Hid (∀ W, Below w.heap.size w W → Calls Try.prog 31 #[.agg #[.slice a s.secs.length c, .slice a' s.cache.length c']] W _) := fun W hb => copyOf_any s a a' c c' W (HS.out.below hb) (HW.out.below hb) hok
      have HTK : Hid (∀ (T c2 cw : Nat) (wins : List (Option (Nat × Nat))) (aw : Option Addr) (W w0 w1 : World), Below w.heap.size w W → Wn w1 T wins s.secs → Apart wins → WinsUp w0.heap.size wins → OwnW w1 W.heap.size (.slice aw s.cache.length cw) s.cache → LayW w0 aw s.cache → Below w0.heap.size w0 w1 → Below W.heap.size W w1 → W.heap.size ≤ w0.heap.size →
          Calls Try.prog 30 #[.agg #[.slice (some ⟨T, 0, none⟩) s.secs.length c2, .slice aw s.cache.length cw], .agg #[.bool x.fl, .int .i64 x.sec, .slice b x.d.length xc]] w1 fun e w' => ∃ y, e = .returned y ∧ StOwn w' y (Dk.doR s x).2 ∧ Below W.heap.size W w') :=
        fun T c2 cw wins aw W w0 w1 hb q1 q2 q3 q4 q5 q6 q7 q8 => take_any s x T c2 cw wins aw b xc W w0 w1 hok hr q1 q2 q3 q4 q5 q6 q7 q8 (HX.out.below (nxt hb q7)) hd h1 h2
      have HD0 : Hid ((Dk.doR s x).1 = 0) := by
        show _ = _
        unfold Dk.doR
        rw [if_neg (by rw [hc]; simp), if_neg (by rw [hr]; simp)]
      have HLEN : Hid ((Dk.doR s x).2.secs.length ≤ 4096 ∧ (Dk.doR s x).2.cache.length ≤ 5000) := by
        show _ ∧ _
        have e1 := hok.hi
        have e2 := hok.few
        unfold Dk.doR
        rw [if_neg (by rw [hc]; simp), if_neg (by rw [hr]; simp)]
        cases x.fl
        · simp; omega
        · simp [Dk.full, Dk.layA_length]; omega
      generalize Dk.doR s x = R at *
      obtain ⟨R1, R2⟩ := R
      obtain ⟨ss, ws⟩ := s
      obtain ⟨fl, sec, d⟩ := x
      simp only at *
      rw [HD0.out]
      clear hok hc hr
      go_enter Try.func11, Try.ntmps11
      go_wp2_with (first
        | (go_at_call 20; refine (HCK.out _ HB.out).mono ?_; rintro e w1 ⟨rfl, hb1⟩; have HB1 : Hid (Below w.heap.size w w1) := nxt HB.out hb1; have X1 : Hid (_ = _) := (hb1.block _ (lt_of_block X0.out)).trans X0.out; have V1 : Hid (_ = _) := (hb1.block _ (lt_of_block V0.out)).trans V0.out; have Y1 : Hid (_ = _) := (hb1.block _ (lt_of_block Y0.out)).trans Y0.out; clear hb1 X0 V0 Y0; have c0 := (cell_of X1.out 0).1; have c1 := (cell_of X1.out 1).1; have d0 := (cell_of V1.out 0).1; have d1 := (cell_of V1.out 1).1; have d2 := (cell_of V1.out 2).1; simp at c0 c1 d0 d1 d2)
        | (go_at_call 29; refine (HRF.out _).mono ?_; rintro e w2 ⟨rfl, hb2⟩; have HB2 : Hid (Below w.heap.size w w2) := nxt HB1.out hb2; have X2 : Hid (_ = _) := (hb2.block _ (lt_of_block X1.out)).trans X1.out; have V2 : Hid (_ = _) := (hb2.block _ (lt_of_block V1.out)).trans V1.out; have Y2 : Hid (_ = _) := (hb2.block _ (lt_of_block Y1.out)).trans Y1.out; clear hb2 X1 V1 Y1 c0 c1 d0 d1 d2))
      have c0 : w2.drew.cell? ⟨w.heap.size, 0, none⟩ = some (.slice a ss.length c) := (cell_of X2.out 0).1
      have c1 : w2.drew.cell? ⟨w.heap.size, 1, none⟩ = some (.slice a' ws.length c') := (cell_of X2.out 1).1
      have d0 : w2.drew.cell? ⟨w.heap.size + 1, 0, none⟩ = some (.bool fl) := (cell_of V2.out 0).1
      have d1 : w2.drew.cell? ⟨w.heap.size + 1, 1, none⟩ = some (.int .i64 sec) := (cell_of V2.out 1).1
      have d2 : w2.drew.cell? ⟨w.heap.size + 1, 2, none⟩ = some (.slice b d.length xc) := (cell_of V2.out 2).1
      have HBD : Hid (Below w.heap.size w w2.drew) := HB2.out.drew
      go_region_law (first
        | (refine step_call1 rfl 31 (by intros; go_simp) _ _ rfl (.agg #[.slice a ss.length c, .slice a' ws.length c']) (by first | (simp [Act.eval]; done) | simp [Act.eval, Act.put])
             (fun y w' => ∃ T wins aw cw w0, y = .agg #[.slice (some ⟨T, 0, none⟩) ss.length ss.length, .slice aw ws.length cw] ∧ Wn w' T wins ss ∧ Apart wins ∧ WinsUp w0.heap.size wins ∧ OwnW w' w2.heap.size (.slice aw ws.length cw) ws ∧ LayW w0 aw ws ∧ Below w0.heap.size w0 w' ∧ Below w2.heap.size w2.drew w' ∧ w2.heap.size ≤ w0.heap.size)
             ((HCO.out _ HBD.out).mono fun e w' ⟨T, wins, aw, cw, w0, q1, q2⟩ => ⟨_, q1, T, wins, aw, cw, w0, rfl, q2⟩) ?_; intro y w3 hR; obtain ⟨T, wins, aw, cw, w0, rfl, k1, k2, k3, k4, k5, k6, k7, k8⟩ := hR
           have e0 := keepc k7 _ _ d0
           have e1 := keepc k7 _ _ d1
           have e2 := keepc k7 _ _ d2)
        | (refine step_call2 rfl 30 (by intros; go_simp) _ _ _ rfl (.agg #[.slice (some ⟨T, 0, none⟩) ss.length ss.length, .slice aw ws.length cw]) (.agg #[.bool fl, .int .i64 sec, .slice b d.length xc]) (by first | (simp [Act.eval]; done) | simp [Act.eval, Act.put]) (by first | (simp [Act.eval]; done) | simp [Act.eval, Act.put]) _ (HTK.out T ss.length cw wins aw w2.drew w0 w3 HBD.out k1 k2 k3 k4 k5 k6 k7 k8) ?_; intro y w4 hR; obtain ⟨hso, hb4⟩ := hR
           obtain ⟨T4, wins4, c4, v4, rfl, q1, q2⟩ := hso
           obtain ⟨a4, c4', rfl⟩ := q2.shape
           have hy4 := (hb4.block _ (lt_of_block Y2.out)).trans Y2.out
           have g0 := (cell_of hy4 0).1
           have g1 := (cell_of hy4 1).1
           have f0 := (cell_of hy4 0).2
           have f1 := (cell_of hy4 1).2
           simp at g0 g1))
      all_goals
        have H4 : Hid (StOwn w4 (.agg #[.slice (some ⟨T4, 0, none⟩) R2.secs.length c4, .slice a4 R2.cache.length c4']) R2) := ⟨T4, wins4, c4, _, rfl, q1, q2⟩
        have HY4 : Hid (w4.heap[w.heap.size + 1 + 1]? = some (.cells #[.slice none 0 0, .slice none 0 0] 30 (0, 0))) := hy4
        have HB4 : Hid (Below w.heap.size w w4) := HBD.out.trans (hb4.mono HBD.out.size)
        clear q1 q2 hy4 hb4 k1 k2 k3 k4 k5 k6 k7 k8
        go_wp2_with fail
        have hset1 := set_one_cell (o := 0) HY4.out (.slice (some ⟨T4, 0, none⟩) R2.secs.length c4)
        have hset2 := set_one_cell (o := 1) hset1 (.slice a4 R2.cache.length c4')
        have r0 := (cell_of hset2 0).1
        have r1 := (cell_of hset2 1).1
        simp at r0 r1
        refine bodyPost_ret (v := .tuple #[.agg #[.slice (some ⟨T4, 0, none⟩) R2.secs.length c4, .slice a4 R2.cache.length c4'], .int .i64 0]) (by simp [results, Try.results11, go_sem, r0, r1]) rfl ?_
        refine ⟨_, rfl, Or.inl ⟨(H4.out.set HY4.out (by decide) (by decide) (by decide) _).set hset1 (by decide) (by decide) (by decide) _, HLEN.out.1, HLEN.out.2⟩, ?_⟩
        exact (HB4.out.setCell (by show w.heap.size ≤ w.heap.size + 1 + 1; omega) _).setCell (by show w.heap.size ≤ w.heap.size + 1 + 1; omega) _
    · have HDR : Hid (Dk.doR s x = (Dk.refusal s x, ⟨[], []⟩)) := by
        show _ = _
        unfold Dk.doR
        rw [if_neg (by rw [hc]; simp), if_pos hr]
      rw [HDR.out]
      have hrb : (Dk.refusal s x != 0) = true := by simp [hr]
      generalize Dk.refusal s x = rf at *
      obtain ⟨ss, ws⟩ := s
      obtain ⟨fl, sec, d⟩ := x
      simp only at *
      clear hok hc hr
      go_enter Try.func11, Try.ntmps11
      go_wp2_with (first
        | (go_at_call 20; refine (HCK.out _ HB.out).mono ?_; rintro e w1 ⟨rfl, hb1⟩; have HB1 : Hid (Below w.heap.size w w1) := nxt HB.out hb1; have X1 : Hid (_ = _) := (hb1.block _ (lt_of_block X0.out)).trans X0.out; have V1 : Hid (_ = _) := (hb1.block _ (lt_of_block V0.out)).trans V0.out; have Y1 : Hid (_ = _) := (hb1.block _ (lt_of_block Y0.out)).trans Y0.out; clear hb1 X0 V0 Y0; have c0 := (cell_of X1.out 0).1; have c1 := (cell_of X1.out 1).1; have d0 := (cell_of V1.out 0).1; have d1 := (cell_of V1.out 1).1; have d2 := (cell_of V1.out 2).1; simp at c0 c1 d0 d1 d2)
        | (go_at_call 29; refine (HRF.out _).mono ?_; rintro e w2 ⟨rfl, hb2⟩; have HB2 : Hid (Below w.heap.size w w2) := nxt HB1.out hb2; have Y2 : Hid (w2.heap[w.heap.size + 1 + 1]? = some (.cells #[.slice none 0 0, .slice none 0 0] 30 (0, 0))) := (hb2.block _ (lt_of_block Y1.out)).trans Y1.out; clear hb2 X1 V1 Y1 c0 c1 d0 d1 d2; have g0 := (cell_of Y2.out 0).1; have g1 := (cell_of Y2.out 1).1; have f0 := (cell_of Y2.out 0).2; have f1 := (cell_of Y2.out 1).2; simp at g0 g1))
      have hset1 := set_one_cell (o := 0) Y2.out (.slice none 0 0)
      have hset2 := set_one_cell (o := 1) hset1 (.slice none 0 0)
      have r0 := (cell_of hset2 0).1
      have r1 := (cell_of hset2 1).1
      simp at r0 r1
      refine bodyPost_ret (v := .tuple #[.agg #[.slice none 0 0, .slice none 0 0], .int .i64 rf]) (by simp [results, Try.results11, go_sem, r0, r1]) rfl ?_
      exact ⟨_, rfl, Or.inr ⟨rfl, rfl⟩, (HB2.out.setCell (by show w.heap.size ≤ w.heap.size + 1 + 1; omega) _).setCell (by show w.heap.size ≤ w.heap.size + 1 + 1; omega) _⟩
  · have HDR : Hid (Dk.doR s x = (Dk.chk s, ⟨[], []⟩)) := by
      show _ = _
      unfold Dk.doR
      rw [if_pos hc]
    rw [HDR.out]
    have hcb : (Dk.chk s != 0) = true := by simp [hc]
    generalize Dk.chk s = ck at *
    obtain ⟨ss, ws⟩ := s
    obtain ⟨fl, sec, d⟩ := x
    simp only at *
    clear hc
    go_enter Try.func11, Try.ntmps11
    go_wp2_with (first
      | (go_at_call 20; refine (HCK.out _ HB.out).mono ?_; rintro e w1 ⟨rfl, hb1⟩; have HB1 : Hid (Below w.heap.size w w1) := nxt HB.out hb1; have Y1 : Hid (w1.heap[w.heap.size + 1 + 1]? = some (.cells #[.slice none 0 0, .slice none 0 0] 30 (0, 0))) := (hb1.block _ (lt_of_block Y0.out)).trans Y0.out; clear hb1 X0 V0 Y0; have g0 := (cell_of Y1.out 0).1; have g1 := (cell_of Y1.out 1).1; have f0 := (cell_of Y1.out 0).2; have f1 := (cell_of Y1.out 1).2; simp at g0 g1))
    have hset1 := set_one_cell (o := 0) Y1.out (.slice none 0 0)
    have hset2 := set_one_cell (o := 1) hset1 (.slice none 0 0)
    have r0 := (cell_of hset2 0).1
    have r1 := (cell_of hset2 1).1
    simp at r0 r1
    refine bodyPost_ret (v := .tuple #[.agg #[.slice none 0 0, .slice none 0 0], .int .i64 ck]) (by simp [results, Try.results11, go_sem, r0, r1]) rfl ?_
    exact ⟨_, rfl, Or.inr ⟨rfl, rfl⟩, (HB1.out.setCell (by show w.heap.size ≤ w.heap.size + 1 + 1; omega) _).setCell (by show w.heap.size ≤ w.heap.size + 1 + 1; omega) _⟩
end Go.Proofs.Ytokebdeaahdcjab
