/-
  The page's Scan.
-/
import Derived.Test.YtocodkoanjcmkabWlFill
import Derived.Test.YtocodkoanjcmkabSeRfG
import Derived.Test.YtocodkoanjcmkabSeRfP
namespace Go.Proofs.Ytocodkoanjcmkab
open Go.ChangeShapes Go.WideShapes Go.ChangeAt Go.RowKit Go.Deep
open Se

/-- The page's records in a row of one's own. -/
def OwnQ (W : World) (B : Nat) (v : Value) (rs : List Rc) : Prop := ∃ xs, W.ownsRow B 62 2 v rs.length xs ∧ RItems W B rs xs
theorem OwnQ.nil (W : World) (B : Nat) : OwnQ W B (.slice none 0 0) [] := ⟨[], World.ownsRow_nil _ _ _ _, fun j x h => by simp at h⟩
theorem OwnQ.below {W W' : World} {B : Nat} {v : Value} {rs : List Rc} (h : OwnQ W B v rs) (hb : Below W.heap.size W W') : OwnQ W' B v rs := by
  obtain ⟨xs, h1, h2⟩ := h
  exact ⟨xs, ownsRow_same h1 fun g hg => hb.block g (h1.lt g hg).2, h2.kpb (KpB.below hb)⟩
theorem OwnQ.shape {W : World} {B : Nat} {v : Value} {rs : List Rc} (h : OwnQ W B v rs) : ∃ a c, v = .slice a rs.length c := by
  obtain ⟨xs, h1, -⟩ := h
  exact slice_of_own h1
theorem OwnQ.base {W : World} {B B' : Nat} {v : Value} {rs : List Rc} (h : OwnQ W B v rs) (hB : B' ≤ B) : OwnQ W B' v rs := by
  obtain ⟨xs, ⟨h1, h2⟩, h3⟩ := h
  refine ⟨xs, ⟨h1, ?_⟩, fun j r hj => ?_⟩
  · rcases h2 with h2 | ⟨g, cap, cur, hv, hg, r⟩
    · exact Or.inl h2
    · exact Or.inr ⟨g, cap, cur, hv, by omega, r⟩
  · obtain ⟨a, c, h4, h5, h6⟩ := h3 j r hj
    exact ⟨a, c, h4, h5, h6.base hB⟩
theorem OwnQ.row {W : World} {B : Nat} {v : Value} {rs : List Rc} (h : OwnQ W B v rs) : ∀ g, v.ownBlock = some g → B ≤ g ∧ g < W.heap.size ∧ ∃ cur, W.heap[g]? = some (.cells cur 62 (0, 0)) := by
  intro g hg
  obtain ⟨xs, h1, -⟩ := h
  have h3 := h1.lt g hg
  refine ⟨h3.1, h3.2, ?_⟩
  rcases h1.2 with ⟨h4, -⟩ | ⟨g', cap, cur, h4, h5, h6, -⟩
  · rw [h4] at hg; simp [Value.ownBlock] at hg
  · rw [h4] at hg
    simp only [Value.ownBlock, Option.some.injEq] at hg
    subst hg
    exact ⟨cur, h6⟩
/-- What an append of one of the page's records makes. -/
theorem OwnQ.pushed {W W' : World} {B : Nat} {v v' : Value} {rs : List Rc} {xs : List Value} {r : Rc} {a : Option Addr} {c : Nat} (hr : W.ownsRow B 62 2 v rs.length xs) (hit : RItems W B rs xs)
    (hr' : W'.ownsRow B 62 2 v' (rs.length + 1) (xs ++ [.int .i64 r.1, .slice a r.2.length c])) (hg : W.grownBy W' v.ownBlock) (hb : LayU W B a r.2) : OwnQ W' B v' (rs ++ [r]) := by
  have kp : KpB W W' := KpB.grown hg (by
    intro g hg
    obtain ⟨-, -, cur, h5⟩ := OwnQ.row (rs := rs) ⟨xs, hr, hit⟩ g hg
    exact ⟨cur, _, _, h5, by decide⟩)
  refine ⟨_, by rw [List.length_append]; exact hr', (hit.kpb kp).push ?_ (hb.kpb kp)⟩
  have := hr.1
  omega
theorem Try.infoPq : (Try.prog.info? 62).map (fun i => (i.zero, i.size, i.bytes)) = some (some (.agg #[.int .i64 0, .slice none 0 0]), 2, 32) := by kernel_rfl

theorem OwnQ.lay {w : World} {B : Nat} {a : Option Addr} {n c : Nat} {rs : List Rc} (h : OwnQ w B (.slice a n c) rs) : LayR w a rs := by
  obtain ⟨xs, hr, hi⟩ := h
  intro j f hj
  obtain ⟨a', c', h1, h2, h3⟩ := hi j f hj
  have hlt : j < rs.length := (List.getElem?_eq_some_iff.1 hj).1
  have hown := hr
  obtain ⟨l0, hc⟩ := hr
  rcases hc with ⟨h4, h5⟩ | ⟨g, cap, cur, h4, h5, h6⟩
  · omega
  · simp only [Value.slice.injEq] at h4
    obtain ⟨rfl, rfl, rfl⟩ := h4
    have e1 := hown.cells (g := g) rfl _ _ h1
    have e2 := hown.cells (g := g) rfl _ _ h2
    rw [add_plain] at e1 e2
    refine ⟨g, 0, a', c', rfl, ?_, ?_, h3.lay⟩
    · rw [Nat.mul_comm]; exact e1
    · rw [Nat.mul_comm]; exact e2


/-- When a record is told: as Get tells it. -/
theorem tk_iff {l : List UInt8} {nx : Int} (h0 : -9223372036854775808 ≤ nx) (h1 : nx ≤ 9223372036854775807) :
    ((tkR l).2.2.2 = true ∧ (tkR l).1 = nx) ↔ ((getR l).1 = 0 ∧ (getR l).2.1 = 2 ∧ 8 ≤ (getR l).2.2.1.length ∧ (getR l).2.2.1.length ≤ 408 ∧ 0 ≤ nx ∧ numO ((getR l).2.2.1.take 8) = nx) := by
  constructor
  · rintro ⟨h, e⟩
    obtain ⟨a1, a2, a3, a4, a5, a6⟩ := tkR_ok h
    have := tkR_facts h
    rw [a6] at e
    simp only at e
    refine ⟨a1, a2, a3, a4, by rw [← e, ← (show (tkR l).1 = numO ((getR l).2.2.1.take 8) by rw [a6])]; omega, e⟩
  · rintro ⟨a1, a2, a3, a4, a5, a6⟩
    unfold tkR
    rw [if_neg (by omega), if_neg (by omega), if_neg (by omega), if_neg (by omega), if_neg (by omega)]
    exact ⟨rfl, a6⟩

set_option maxRecDepth 100000 in
set_option maxHeartbeats 6400000 in
theorem rscan_any (a : Option Addr) (c : Nat) (l : List UInt8) (nx : Int) (w : World) (ho : Oct w a c l) (hl : l.length ≤ 2000000) (hn1 : -9223372036854775808 ≤ nx) (hn2 : nx ≤ 9223372036854775807) :
    Calls Try.prog 27 #[.slice a l.length c, .int .i64 nx] w fun e w' => ∃ v, e = .returned (.tuple #[v, .int .i64 (scR l nx).2]) ∧ OwnQ w' w.heap.size v (scR l nx).1 ∧ Below w.heap.size w w' := by
  have HO : Hid (Oct w a c l) := ho
  clear ho
  obtain ⟨i0, hi0, hz0, hz1, hz2⟩ := info_parts Try.infoPq
  go_enter Try.func27, Try.ntmps27
  go_wp2_with fail
  go_loopw [1, 6, 7] (fun y v o wr => ∃ (z : Int) (j : Nat) (rs : List Rc), y = .int .i64 z ∧ o = .int .i64 j ∧ j ≤ l.length ∧ -9223372036854775808 ≤ z ∧ z ≤ 9223372036854775807 ∧ Hid (rs.length * 16 ≤ j) ∧ Hid (OwnQ wr w.heap.size v rs) ∧ Hid (Below w.heap.size w wr) ∧ Hid (scR l nx = (rs ++ (scR (l.drop j) z).1, j + (scR (l.drop j) z).2))) (fun _ _ o _ => l.length - (intOf o).toNat)
  case atStart => exact ⟨nx, 0, [], rfl, rfl, by omega, hn1, hn2, by show _ ≤ _; simp, OwnQ.nil _ _, Below.refl _ _, by show _ = _; simp⟩
  case round =>
    obtain ⟨z, j, rs, rfl, rfl, hj, hzl, hzu, HRL, HOR, HB, HS⟩ := hrel
    have hdl : (l.drop j).length = l.length - j := List.length_drop
    have hoc : l.length ≤ c ∧ c ≤ 9223372036854775807 := ⟨HO.out.2.1, HO.out.2.2.1⟩
    obtain ⟨hoc1, hoc2⟩ := hoc
    have hsl : (j = c ∧ Hid (Calls Try.prog 42 #[.slice a 0 0] wr fun e w' => ∃ s, e = .returned (.tuple #[.agg #[.int .i64 (getR (l.drop j)).2.1, s], .int .i64 (getR (l.drop j)).2.2.2, .int .i64 (getR (l.drop j)).1]) ∧ Bs w' wr.heap.size s (getR (l.drop j)).2.2.1 ∧ Below wr.heap.size wr w')) ∨ (j < c ∧ ∃ b off, a = some ⟨b, off, none⟩ ∧ Hid (Calls Try.prog 42 #[.slice (some ⟨b, off + j, none⟩) (l.length - j) (c - j)] wr fun e w' => ∃ s, e = .returned (.tuple #[.agg #[.int .i64 (getR (l.drop j)).2.1, s], .int .i64 (getR (l.drop j)).2.2.2, .int .i64 (getR (l.drop j)).1]) ∧ Bs w' wr.heap.size s (getR (l.drop j)).2.2.1 ∧ Below wr.heap.size wr w')) := by
      by_cases hjc : j < c
      · refine Or.inr ⟨hjc, ?_⟩
        cases a with
        | none => exact absurd (HO.out.2.2.2.2.1 rfl) (by omega)
        | some ad =>
          have hpl := HO.out.2.2.2.2.2 ad rfl (by omega)
          refine ⟨ad.block, ad.off, by rw [← hpl], ?_⟩
          have hO : Oct wr (some ⟨ad.block, ad.off, none⟩) c l := by rw [← hpl]; exact HO.out.below HB.out
          have hp := Oct.part hO j l.length hj (Nat.le_refl _)
          rw [List.take_length] at hp
          have := rget_any _ _ (l.drop j) wr hp
          rw [hdl] at this
          exact this
      · refine Or.inl ⟨by omega, ?_⟩
        have hd0 : l.drop j = [] := List.eq_nil_of_length_eq_zero (by omega)
        rw [hd0]
        exact rget_any a 0 [] wr ⟨fun i o h => by simp at h, by simp, by omega, by simp, fun _ => rfl, fun ad _ h => by omega⟩
    have HF := tkR_facts (l := l.drop j)
    have HN : Hid (∀ h : ¬ ((tkR (l.drop j)).2.2.2 = true ∧ (tkR (l.drop j)).1 = z), scR (l.drop j) z = ([], 0)) := fun h => scR_no h
    have HY : Hid (∀ h : (tkR (l.drop j)).2.2.2 = true ∧ (tkR (l.drop j)).1 = z, scR (l.drop j) z = _) := fun h => scR_yes h
    have HTI := tk_iff (l := l.drop j) hzl hzu
    have HTE : Hid ((tkR (l.drop j)).2.2.2 = true → tkR (l.drop j) = (numO ((getR (l.drop j)).2.2.1.take 8), (getR (l.drop j)).2.2.1.drop 8, (getR (l.drop j)).2.2.2, true)) := fun h => (tkR_ok h).2.2.2.2.2
    have HDD : Hid (∀ n, (l.drop j).drop n = l.drop (j + n)) := fun n => List.drop_drop
    rw [hdl] at HF
    clear hdl
    generalize tkR (l.drop j) = T at *
    generalize getR (l.drop j) = G at *
    obtain ⟨er, kd, d, gn⟩ := G
    simp only at hsl HTI HTE
    have hz0b : (z < 0) ∨ ¬ z < 0 := by omega
    by_cases hok : T.2.2.2 = true ∧ T.1 = z
    · obtain ⟨rfl, rfl, k3, k4, k5, k6⟩ := HTI.1 hok
      have hT := HTE.out hok.1
      obtain ⟨f1, f2, f3, f4, f5⟩ := HF hok.1
      have HY2 : Hid (scR (l.drop j) z = ((z, d.drop 8) :: (scR (l.drop (j + gn)) (wrap64 (z + 1))).1, gn + (scR (l.drop (j + gn)) (wrap64 (z + 1))).2)) := by
        have h := HY.out hok
        rw [HDD.out, hok.2, hT] at h
        exact h
      rw [hT] at f1 f2 f3
      simp only at f1 f2 f3
      have HF1 : Hid (gn = 16 + (d.drop 8).length) := f1
      have hn16 : 16 ≤ gn := by omega
      have hdd : (d.drop 8).length = d.length - 8 := List.length_drop
      have HDD8 : Hid ((d.drop 8).length = d.length - 8) := hdd
      clear HN HY HF HDD f1 hT HTE HTI hok f4 f5 hz0b T
      have h3b : ¬ (d.length : Int) < 8 := by omega
      have h4b : ¬ (408 : Int) < d.length := by omega
      have h5b : ¬ z < 0 := by omega
      have e0 : ((0 : Int) != 0) = false := by decide
      have e2 : ((2 : Int) != 2) = false := by decide
      have hw : IntKind.u64.wrap z = z := by rw [IntKind.wrap_u64]; omega
      have hne : (z != z) = false := by simp
      have hd8 : (d.take 8).length = 8 := by rw [List.length_take]; omega
      have HNU : Hid (∀ W a1 c1, LayB W a1 (d.take 8) → Calls Try.prog 43 #[.slice a1 8 c1] W fun e w' => e = .returned (.int .u64 z) ∧ w' = W) := by
        intro W a1 c1 h
        have := rnumber_any a1 c1 (d.take 8) W h (by omega)
        rw [hd8, k6] at this
        exact this
      have hdl8 : d.length ≤ 408 ∧ 8 ≤ d.length := ⟨by omega, by omega⟩
      have HDL : Hid (d.length ≤ 408 ∧ 8 ≤ d.length) := hdl8
      have HCP : Hid (∀ W a1 c1, Oct W a1 c1 (d.drop 8) → Calls Try.prog 39 #[.slice a1 (d.length - 8) c1] W fun e w' => ∃ s, e = .returned s ∧ Bs w' W.heap.size s (d.drop 8) ∧ Below W.heap.size W w') := by
        intro W a1 c1 h
        have := copied_any a1 c1 (d.drop 8) W h (by omega)
        rw [hdd] at this
        exact this
      have HOD : Hid (∀ (W : World) b1 o1 c1, Oct W (some ⟨b1, o1, none⟩) c1 d → Oct W (some ⟨b1, o1 + 8, none⟩) (c1 - 8) (d.drop 8)) := by
        intro W b1 o1 c1 h
        have := Oct.part h 8 d.length (by omega) (Nat.le_refl _)
        rw [List.take_length] at this
        exact this
      have HON : Hid (∀ (W : World) a1, d.length = 8 → Oct W a1 0 (d.drop 8)) := by
        intro W a1 h
        have e : d.drop 8 = [] := List.eq_nil_of_length_eq_zero (by omega)
        rw [e]
        exact ⟨fun i o h => by simp at h, by simp, by omega, by simp, fun _ => rfl, fun ad _ h => by omega⟩
      have hdd400 : (d.drop 8).length ≤ 400 := by omega
      clear hd8 hdl8 k6 hdd
      obtain ⟨dd, hdde⟩ : ∃ dd, d.drop 8 = dd := ⟨_, rfl⟩
      rw [hdde] at HCP HOD HON HF1 HDD8 HY2 f3 hdd400
      clear hdde
      obtain ⟨va, vc, rfl⟩ := HOR.out.shape
      obtain ⟨xs, hr, hit⟩ := HOR.out
      have HRW : Hid (wr.ownsRow w.heap.size 62 2 (.slice va rs.length vc) rs.length xs) := hr
      have HIT : Hid (RItems wr w.heap.size rs xs) := hit
      have hrl : rs.length ≤ 200000 := by have := HRL.out; omega
      clear hr hit HOR
      rcases hsl with ⟨rfl, HT⟩ | ⟨hjc, b, off, rfl, HT⟩
      · exfalso
        omega
      have hcase : ∀ c1 : Nat, d.length ≤ c1 → (c1 = 8 ∧ d.length = 8) ∨ c1 ≠ 8 := fun c1 h => by omega
      go_wp2_with (first
        | (go_at_call 42; refine HT.out.mono ?_; rintro e w1 ⟨s1, rfl, hs1, hb1⟩; obtain ⟨a1, c1, rfl⟩ := hs1.shape; have HB1 : Hid (Below wr.heap.size wr w1) := hb1; have HLT : Hid (LayB w1 a1 (d.take 8)) := (fun i o hi => by rw [List.getElem?_take] at hi; split at hi; exact hs1.lay i o hi; cases hi); have HO1 : Hid (Oct w1 a1 c1 d) := hs1.oct (by have := HDL.out; omega); have hcc : d.length ≤ c1 := HO1.out.2.1; have hcc2 : c1 ≤ 9223372036854775807 := HO1.out.2.2.1; obtain ⟨b1, o1, rfl, -⟩ := layB_get HO1.out.1 (show 0 < d.length by have := HDL.out; omega); clear hb1 hs1))
      refine (HNU.out _ _ _ (HLT.out.below (below_one _ _))).mono ?_
      rintro e w2 ⟨rfl, hw2⟩
      subst w2
      have HB2 : Hid (Below wr.heap.size wr (w1.alloc (.cells #[.int .i64 2, .slice (some ⟨b1, o1, none⟩) d.length c1] 77))) := nxt HB1.out (below_one _ _)
      have HO2 : Hid (Oct (w1.alloc (.cells #[.int .i64 2, .slice (some ⟨b1, o1, none⟩) d.length c1] 77)) (some ⟨b1, o1, none⟩) c1 d) := HO1.out.below (below_one _ _)
      rcases hcase c1 hcc with ⟨hc8, hd8⟩ | hc8
      all_goals clear hcase
      · subst hc8
        simp only [hd8] at HB2 HO2 HCP
        simp only [Nat.sub_self] at HCP
        go_wp2_with (first
          | (go_at_call 39; refine (HCP.out _ _ _ (HON.out _ _ hd8)).mono ?_; rintro e w3 ⟨s3, rfl, hs3, hb3⟩; obtain ⟨a3, c3, rfl⟩ := hs3.shape; have HB3 : Hid (Below wr.heap.size wr w3) := nxt HB2.out hb3; have HU3 : Hid (LayU w3 w.heap.size a3 dd) := hs3.layu.base (by have h1 := HB.out.size; have h2 := HB1.out.size; simp; omega); clear hs3 hb3)
          | (at_builtin; refine wpList_append_apart _ rfl _ _ 37 rfl w.heap.size 62 i0 _ 2 32 Try.underlying37 hi0 hz0 hz1 hz2 rfl (by decide) (.slice va rs.length vc) rs.length xs rfl ?ha0 (some ⟨w3.heap.size, 0, none⟩) 1 1 [.int .i64 z, .slice a3 dd.length c3] rfl (by simp) rfl ?ha1 ?ha2 ?ha3 ?ha4 ?ha5 ?_))
        case ha0 => exact ownsRow_same HRW.out fun g hg => (nxt HB3.out (below_one w3 _)).block g (HRW.out.lt g hg).2
        case ha1 =>
          intro ad e k u hk
          cases e
          exact newCells w3 _ _ k u (by rw [← Array.getElem?_toList]; exact hk)
        case ha2 => simp [Value.oneCell']
        case ha3 => unfold maxLen; omega
        case ha4 => omega
        case ha5 => have := HB.out.size; have := HB3.out.size; simp; omega
        intro v' w4 hrow hgr _
        have bX := nxt HB3.out (below_one w3 (.cells #[.int .i64 z, .slice a3 dd.length c3] 62))
        have H4 : Hid (OwnQ w4 w.heap.size v' (rs ++ [(z, dd)])) := by
          show OwnQ _ _ _ _
          refine OwnQ.pushed (r := (z, dd)) (a := a3) (c := c3) (ownsRow_same HRW.out fun g hg => bX.block g (HRW.out.lt g hg).2) (HIT.out.kpb (KpB.below bX)) hrow hgr ?_
          exact HU3.out.below (below_one _ _)
        have HB4 : Hid (Below w.heap.size w w4) := (nxt HB.out bX).grown hgr (by have := HB.out.size; have := bX.size; omega) (fun j e => (HRW.out.lt j e).1)
        have HFN : Hid (scR l nx = ((rs ++ [(z, dd)]) ++ (scR (l.drop (j + gn)) (wrap64 (z + 1))).1, (j + gn) + (scR (l.drop (j + gn)) (wrap64 (z + 1))).2)) := by
          show _ = _
          rw [HS.out, HY2.out]
          simp [Nat.add_assoc]
        have hwr : -9223372036854775808 ≤ wrap64 (z + 1) ∧ wrap64 (z + 1) ≤ 9223372036854775807 := by unfold wrap64; omega
        clear hrow hgr bX HS HY2 HRW HIT
        go_wp2_with fail
        refine ⟨⟨_, j + gn, rs ++ [(z, dd)], rfl, by go_num, by omega, hwr.1, hwr.2, ?_, H4.out, HB4.out, HFN.out⟩, by simp [intOf]; omega⟩
        show _ ≤ _
        have := HRL.out
        rw [List.length_append]
        simp
        omega
      · go_wp2_with (first
          | (go_at_call 39; refine (HCP.out _ _ _ (HOD.out _ _ _ _ HO2.out)).mono ?_; rintro e w3 ⟨s3, rfl, hs3, hb3⟩; obtain ⟨a3, c3, rfl⟩ := hs3.shape; have HB3 : Hid (Below wr.heap.size wr w3) := nxt HB2.out hb3; have HU3 : Hid (LayU w3 w.heap.size a3 dd) := hs3.layu.base (by have h1 := HB.out.size; have h2 := HB1.out.size; simp; omega); clear hs3 hb3)
          | (at_builtin; refine wpList_append_apart _ rfl _ _ 37 rfl w.heap.size 62 i0 _ 2 32 Try.underlying37 hi0 hz0 hz1 hz2 rfl (by decide) (.slice va rs.length vc) rs.length xs rfl ?hb0 (some ⟨w3.heap.size, 0, none⟩) 1 1 [.int .i64 z, .slice a3 dd.length c3] rfl (by simp) rfl ?hb1 ?hb2 ?hb3 ?hb4 ?hb5 ?_))
        case hb0 => exact ownsRow_same HRW.out fun g hg => (nxt HB3.out (below_one w3 _)).block g (HRW.out.lt g hg).2
        case hb1 =>
          intro ad e k u hk
          cases e
          exact newCells w3 _ _ k u (by rw [← Array.getElem?_toList]; exact hk)
        case hb2 => simp [Value.oneCell']
        case hb3 => unfold maxLen; omega
        case hb4 => omega
        case hb5 => have := HB.out.size; have := HB3.out.size; simp; omega
        intro v' w4 hrow hgr _
        have bX := nxt HB3.out (below_one w3 (.cells #[.int .i64 z, .slice a3 dd.length c3] 62))
        have H4 : Hid (OwnQ w4 w.heap.size v' (rs ++ [(z, dd)])) := by
          show OwnQ _ _ _ _
          refine OwnQ.pushed (r := (z, dd)) (a := a3) (c := c3) (ownsRow_same HRW.out fun g hg => bX.block g (HRW.out.lt g hg).2) (HIT.out.kpb (KpB.below bX)) hrow hgr ?_
          exact HU3.out.below (below_one _ _)
        have HB4 : Hid (Below w.heap.size w w4) := (nxt HB.out bX).grown hgr (by have := HB.out.size; have := bX.size; omega) (fun j e => (HRW.out.lt j e).1)
        have HFN : Hid (scR l nx = ((rs ++ [(z, dd)]) ++ (scR (l.drop (j + gn)) (wrap64 (z + 1))).1, (j + gn) + (scR (l.drop (j + gn)) (wrap64 (z + 1))).2)) := by
          show _ = _
          rw [HS.out, HY2.out]
          simp [Nat.add_assoc]
        have hwr : -9223372036854775808 ≤ wrap64 (z + 1) ∧ wrap64 (z + 1) ≤ 9223372036854775807 := by unfold wrap64; omega
        clear hrow hgr bX HS HY2 HRW HIT
        go_wp2_with fail
        refine ⟨⟨_, j + gn, rs ++ [(z, dd)], rfl, by go_num, by omega, hwr.1, hwr.2, ?_, H4.out, HB4.out, HFN.out⟩, by simp [intOf]; omega⟩
        show _ ≤ _
        have := HRL.out
        rw [List.length_append]
        simp
        omega
    · have HNN : Hid (scR (l.drop j) z = ([], 0)) := HN.out hok
      rw [HTI] at hok
      have HFIN : Hid (scR l nx = (rs, j)) := by
        show _ = _
        rw [HS.out, HNN.out]
        simp
      clear HN HY HF HDD HTI HTE HNN
      have hcs : ((er != 0) = true) ∨ ((er != 0) = false ∧ (kd != 2) = true) ∨ ((er != 0) = false ∧ (kd != 2) = false ∧ (d.length : Int) < 8) ∨ ((er != 0) = false ∧ (kd != 2) = false ∧ ¬ (d.length : Int) < 8 ∧ (408 : Int) < d.length)
          ∨ ((er != 0) = false ∧ (kd != 2) = false ∧ ¬ (d.length : Int) < 8 ∧ ¬ (408 : Int) < d.length ∧ z < 0) ∨ ((er != 0) = false ∧ (kd != 2) = false ∧ ¬ (d.length : Int) < 8 ∧ ¬ (408 : Int) < d.length ∧ ¬ z < 0 ∧ Hid (numO (d.take 8) ≠ z)) := by
        by_cases h1 : er = 0
        · by_cases h2 : kd = 2
          · by_cases h3 : d.length < 8
            · exact Or.inr (Or.inr (Or.inl ⟨by simpa using h1, by simpa using h2, by omega⟩))
            · by_cases h4 : 408 < d.length
              · exact Or.inr (Or.inr (Or.inr (Or.inl ⟨by simpa using h1, by simpa using h2, by omega, by omega⟩)))
              · by_cases h5 : z < 0
                · exact Or.inr (Or.inr (Or.inr (Or.inr (Or.inl ⟨by simpa using h1, by simpa using h2, by omega, by omega, h5⟩))))
                · exact Or.inr (Or.inr (Or.inr (Or.inr (Or.inr ⟨by simpa using h1, by simpa using h2, by omega, by omega, h5, fun e => hok ⟨h1, h2, by omega, by omega, by omega, e⟩⟩))))
          · exact Or.inr (Or.inl ⟨by simpa using h1, by simpa using h2⟩)
        · exact Or.inl (by simpa using h1)
      clear hok
      rcases hcs with h1 | ⟨h1, h2⟩ | ⟨h1, h2, h3⟩ | ⟨h1, h2, h3, h4⟩ | ⟨h1, h2, h3, h4, h5⟩ | ⟨h1, h2, h3, h4, h5, HNE⟩
      case inr.inr.inr.inr.inr =>
        have hw : IntKind.u64.wrap z = z := by rw [IntKind.wrap_u64]; omega
        have hne : (numO (d.take 8) != z) = true := by simpa using HNE.out
        have hd8 : (d.take 8).length = 8 := by rw [List.length_take]; omega
        have HNU : Hid (∀ W a1 c1, LayB W a1 (d.take 8) → Calls Try.prog 43 #[.slice a1 8 c1] W fun e w' => e = .returned (.int .u64 (numO (d.take 8))) ∧ w' = W) := by
          intro W a1 c1 h
          have := rnumber_any a1 c1 (d.take 8) W h (by omega)
          rw [hd8] at this
          exact this
        have HDL : Hid (d.length ≤ 408 ∧ 8 ≤ d.length) := ⟨by omega, by omega⟩
        clear hd8 HNE
        obtain ⟨nb, hnb⟩ : ∃ nb, numO (d.take 8) = nb := ⟨_, rfl⟩
        rw [hnb] at HNU hne
        clear hnb
        rcases hsl with ⟨rfl, HT⟩ | ⟨hjc, b, off, rfl, HT⟩
        all_goals
          go_wp2_with (first
            | (go_at_call 42; refine HT.out.mono ?_; rintro e w1 ⟨s1, rfl, hs1, hb1⟩; obtain ⟨a1, c1, rfl⟩ := hs1.shape; have HB1 : Hid (Below wr.heap.size wr w1) := hb1; have HLT : Hid (LayB w1 a1 (d.take 8)) := (fun i o hi => by rw [List.getElem?_take] at hi; split at hi; exact hs1.lay i o hi; cases hi); have hcc : d.length ≤ c1 := (hs1.oct (by have := HDL.out; omega)).2.1; clear hb1 hs1)
            | (go_at_call 43; refine (HNU.out _ _ _ (HLT.out.below (below_one _ _))).mono ?_; rintro e w2 ⟨rfl, hw2⟩; subst w2))
          refine bodyPost_ret (v := .tuple #[_, .int .i64 j]) (by simp [results, Try.results27, go_sem]; rfl) rfl ?_
          rw [HFIN.out]
          exact ⟨_, rfl, (HOR.out.below HB1.out).below (below_one _ _), nxt (nxt HB.out HB1.out) (below_one _ _)⟩
      all_goals
        rcases hsl with ⟨rfl, HT⟩ | ⟨hjc, b, off, rfl, HT⟩
        all_goals
          go_wp2_with (go_at_call 42; refine HT.out.mono ?_; rintro e w1 ⟨s1, rfl, hs1, hb1⟩; obtain ⟨a1, c1, rfl⟩ := hs1.shape; have HB1 : Hid (Below wr.heap.size wr w1) := hb1; clear hb1 hs1)
          refine bodyPost_ret (v := .tuple #[_, .int .i64 j]) (by simp [results, Try.results27, go_sem]; rfl) rfl ?_
          rw [HFIN.out]
          exact ⟨_, rfl, (HOR.out.below HB1.out).below (below_one _ _), nxt (nxt HB.out HB1.out) (below_one _ _)⟩
end Go.Proofs.Ytocodkoanjcmkab
