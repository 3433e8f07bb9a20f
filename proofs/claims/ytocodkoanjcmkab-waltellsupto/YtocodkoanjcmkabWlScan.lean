/-
  Scan as mathematics; records in a row of one's own; the program's Scan.
-/
import Derived.Test.YtocodkoanjcmkabWlTake
import Derived.Test.YtocodkoanjcmkabOcStep
namespace Go.Proofs.Ytocodkoanjcmkab
open Go.ChangeShapes Go.WideShapes Go.ChangeAt Go.RowKit Go.Deep
open Se

/-- A record: its number, its octets. -/
abbrev Rc := Int × List UInt8

theorem tkR_ok {l : List UInt8} (h : (tkR l).2.2.2 = true) : (getR l).1 = 0 ∧ (getR l).2.1 = 2 ∧ 8 ≤ (getR l).2.2.1.length ∧ (getR l).2.2.1.length ≤ 408 ∧ numO ((getR l).2.2.1.take 8) ≤ 9223372036854775807 ∧ tkR l = (numO ((getR l).2.2.1.take 8), (getR l).2.2.1.drop 8, (getR l).2.2.2, true) := by
  unfold tkR at h ⊢
  split at h
  · simp at h
  · rename_i h1
    rw [if_neg h1]
    split at h
    · simp at h
    · rename_i h2
      rw [if_neg h2]
      split at h
      · simp at h
      · rename_i h3
        rw [if_neg h3]
        split at h
        · simp at h
        · rename_i h4
          rw [if_neg h4]
          split at h
          · simp at h
          · rename_i h5
            rw [if_neg h5]
            exact ⟨by omega, by omega, by omega, by omega, by omega, rfl⟩

theorem getR_len {l : List UInt8} (h : (getR l).1 = 0) : (getR l).2.2.2 = 8 + (getR l).2.2.1.length ∧ (getR l).2.2.2 ≤ l.length := by
  unfold getR at h ⊢
  split at h
  · simp at h
  · rename_i h8
    rw [if_neg h8]
    split at h
    · simp at h
    · rename_i hk
      rw [if_neg hk]
      split at h
      · simp at h
      · rename_i h5
        rw [if_neg h5]
        split at h
        · simp at h
        · rename_i hs
          rw [if_neg hs]
          split at h
          · rename_i he
            rw [if_pos he]
            simp
            omega
          · simp at h

theorem tkR_facts {l : List UInt8} (h : (tkR l).2.2.2 = true) : (tkR l).2.2.1 = 16 + (tkR l).2.1.length ∧ (tkR l).2.2.1 ≤ l.length ∧ (tkR l).2.1.length ≤ 400 ∧ 0 ≤ (tkR l).1 ∧ (tkR l).1 ≤ 9223372036854775807 := by
  obtain ⟨h1, h2, h3, h4, h5, h6⟩ := tkR_ok h
  obtain ⟨g1, g2⟩ := getR_len h1
  have hb := numO_bound 8 ((getR l).2.2.1.take 8) (by rw [List.length_take]; omega)
  rw [h6]
  simp only [List.length_drop]
  omega

/-- The records with which octets begin, from a number on, and how many octets they are. -/
def scN : Nat → List UInt8 → Int → List Rc × Nat
  | 0, _, _ => ([], 0)
  | m + 1, l, nx => if (tkR l).2.2.2 = true ∧ (tkR l).1 = nx then (((tkR l).1, (tkR l).2.1) :: (scN m (l.drop (tkR l).2.2.1) (wrap64 (nx + 1))).1, (tkR l).2.2.1 + (scN m (l.drop (tkR l).2.2.1) (wrap64 (nx + 1))).2) else ([], 0)
def scR (l : List UInt8) (nx : Int) : List Rc × Nat := scN (l.length + 1) l nx

theorem scN_more : ∀ (m k : Nat) (l : List UInt8) (nx : Int), l.length < m → l.length < k → scN m l nx = scN k l nx
  | 0, _, _, _, h, _ => by omega
  | _, 0, _, _, _, h => by omega
  | m + 1, k + 1, l, nx, h1, h2 => by
    simp only [scN]
    by_cases h : (tkR l).2.2.2 = true ∧ (tkR l).1 = nx
    · have h3 := tkR_facts h.1
      have hd : (l.drop (tkR l).2.2.1).length = l.length - (tkR l).2.2.1 := List.length_drop
      rw [if_pos h, if_pos h, scN_more m k _ _ (by omega) (by omega)]
    · rw [if_neg h, if_neg h]
theorem scR_no {l : List UInt8} {nx : Int} (h : ¬ ((tkR l).2.2.2 = true ∧ (tkR l).1 = nx)) : scR l nx = ([], 0) := by
  unfold scR
  simp only [scN]
  rw [if_neg h]
theorem scR_yes {l : List UInt8} {nx : Int} (h : (tkR l).2.2.2 = true ∧ (tkR l).1 = nx) : scR l nx = (((tkR l).1, (tkR l).2.1) :: (scR (l.drop (tkR l).2.2.1) (wrap64 (nx + 1))).1, (tkR l).2.2.1 + (scR (l.drop (tkR l).2.2.1) (wrap64 (nx + 1))).2) := by
  have h3 := tkR_facts h.1
  have hd : (l.drop (tkR l).2.2.1).length = l.length - (tkR l).2.2.1 := List.length_drop
  have e : scR l nx = scN (l.length + 1) l nx := rfl
  rw [e]
  simp only [scN]
  rw [if_pos h, scN_more l.length ((l.drop (tkR l).2.2.1).length + 1) _ _ (by omega) (by omega)]
  rfl
theorem scN_le : ∀ (m : Nat) (l : List UInt8) (nx : Int), (scN m l nx).2 ≤ l.length ∧ (scN m l nx).1.length * 16 ≤ (scN m l nx).2
  | 0, l, nx => by simp [scN]
  | m + 1, l, nx => by
    simp only [scN]
    by_cases h : (tkR l).2.2.2 = true ∧ (tkR l).1 = nx
    · have h3 := tkR_facts h.1
      have hd : (l.drop (tkR l).2.2.1).length = l.length - (tkR l).2.2.1 := List.length_drop
      have ih := scN_le m (l.drop (tkR l).2.2.1) (wrap64 (nx + 1))
      rw [if_pos h]
      simp only [List.length_cons]
      omega
    · rw [if_neg h]
      simp
theorem scR_le (l : List UInt8) (nx : Int) : (scR l nx).2 ≤ l.length ∧ (scR l nx).1.length * 16 ≤ (scR l nx).2 := scN_le _ l nx

/-- Records in a row, each with its octets. -/
def RItems (W : World) (B : Nat) (rs : List Rc) (xs : List Value) : Prop :=
  ∀ j r, rs[j]? = some r → ∃ a c, xs[2 * j]? = some (.int .i64 r.1) ∧ xs[2 * j + 1]? = some (.slice a r.2.length c) ∧ LayU W B a r.2
theorem RItems.kpb {W W' : World} {B : Nat} {rs : List Rc} {xs : List Value} (h : RItems W B rs xs) (k : KpB W W') : RItems W' B rs xs := by
  intro j r hj
  obtain ⟨a, c, h1, h2, h3⟩ := h j r hj
  exact ⟨a, c, h1, h2, h3.kpb k⟩
theorem RItems.push {W : World} {B : Nat} {rs : List Rc} {xs : List Value} (h : RItems W B rs xs) (hl : xs.length = 2 * rs.length) {r : Rc} {a : Option Addr} {c : Nat} (hb : LayU W B a r.2) :
    RItems W B (rs ++ [r]) (xs ++ [.int .i64 r.1, .slice a r.2.length c]) := by
  intro j g hj
  by_cases hlt : j < rs.length
  · rw [List.getElem?_append_left hlt] at hj
    obtain ⟨a', c', h1, h2, h3⟩ := h j g hj
    exact ⟨a', c', by rw [List.getElem?_append_left (by omega)]; exact h1, by rw [List.getElem?_append_left (by omega)]; exact h2, h3⟩
  · rw [List.getElem?_append_right (by omega)] at hj
    have hj0 : j = rs.length := by
      have := (List.getElem?_eq_some_iff.1 hj).1
      simp at this
      omega
    subst hj0
    simp only [Nat.sub_self, List.getElem?_cons_zero, Option.some.injEq] at hj
    subst hj
    refine ⟨a, c, ?_, ?_, hb⟩
    · rw [List.getElem?_append_right (by omega), show 2 * rs.length - xs.length = 0 by omega]; rfl
    · rw [List.getElem?_append_right (by omega), show 2 * rs.length + 1 - xs.length = 1 by omega]; rfl

/-- Records in a row of one's own. -/
def OwnR (W : World) (B : Nat) (v : Value) (rs : List Rc) : Prop := ∃ xs, W.ownsRow B 66 2 v rs.length xs ∧ RItems W B rs xs
theorem OwnR.nil (W : World) (B : Nat) : OwnR W B (.slice none 0 0) [] := ⟨[], World.ownsRow_nil _ _ _ _, fun j x h => by simp at h⟩
theorem OwnR.below {W W' : World} {B : Nat} {v : Value} {rs : List Rc} (h : OwnR W B v rs) (hb : Below W.heap.size W W') : OwnR W' B v rs := by
  obtain ⟨xs, h1, h2⟩ := h
  exact ⟨xs, ownsRow_same h1 fun g hg => hb.block g (h1.lt g hg).2, h2.kpb (KpB.below hb)⟩
theorem OwnR.shape {W : World} {B : Nat} {v : Value} {rs : List Rc} (h : OwnR W B v rs) : ∃ a c, v = .slice a rs.length c := by
  obtain ⟨xs, h1, -⟩ := h
  exact slice_of_own h1
theorem OwnR.base {W : World} {B B' : Nat} {v : Value} {rs : List Rc} (h : OwnR W B v rs) (hB : B' ≤ B) : OwnR W B' v rs := by
  obtain ⟨xs, ⟨h1, h2⟩, h3⟩ := h
  refine ⟨xs, ⟨h1, ?_⟩, fun j r hj => ?_⟩
  · rcases h2 with h2 | ⟨g, cap, cur, hv, hg, r⟩
    · exact Or.inl h2
    · exact Or.inr ⟨g, cap, cur, hv, by omega, r⟩
  · obtain ⟨a, c, h4, h5, h6⟩ := h3 j r hj
    exact ⟨a, c, h4, h5, h6.base hB⟩
theorem OwnR.row {W : World} {B : Nat} {v : Value} {rs : List Rc} (h : OwnR W B v rs) : ∀ g, v.ownBlock = some g → B ≤ g ∧ g < W.heap.size ∧ ∃ cur, W.heap[g]? = some (.cells cur 66 (0, 0)) := by
  intro g hg
  obtain ⟨xs, h1, -⟩ := h
  have h3 := h1.lt g hg
  refine ⟨h3.1, h3.2, ?_⟩
  rcases h1.2 with ⟨h4, -⟩ | ⟨g', cap, cur, h4, h5, h6, -⟩
  · rw [h4] at hg; simp [Value.ownBlock] at hg
  · rw [h4] at hg
    simp only [Value.ownBlock, Option.some.injEq] at hg
    subst hg
    exact ⟨cur, h6⟩
/-- What an append of one record makes. -/
theorem OwnR.pushed {W W' : World} {B : Nat} {v v' : Value} {rs : List Rc} {xs : List Value} {r : Rc} {a : Option Addr} {c : Nat} (hr : W.ownsRow B 66 2 v rs.length xs) (hit : RItems W B rs xs)
    (hr' : W'.ownsRow B 66 2 v' (rs.length + 1) (xs ++ [.int .i64 r.1, .slice a r.2.length c])) (hg : W.grownBy W' v.ownBlock) (hb : LayU W B a r.2) : OwnR W' B v' (rs ++ [r]) := by
  have kp : KpB W W' := KpB.grown hg (by
    intro g hg
    obtain ⟨-, -, cur, h5⟩ := OwnR.row (rs := rs) ⟨xs, hr, hit⟩ g hg
    exact ⟨cur, _, _, h5, by decide⟩)
  refine ⟨_, by rw [List.length_append]; exact hr', (hit.kpb kp).push ?_ (hb.kpb kp)⟩
  have := hr.1
  omega
theorem Try.infoRc : (Try.prog.info? 66).map (fun i => (i.zero, i.size, i.bytes)) = some (some (.agg #[.int .i64 0, .slice none 0 0]), 2, 32) := by kernel_rfl

/-- Records that lie in a row. -/
def LayR (w : World) (a : Option Addr) (rs : List Rc) : Prop :=
  ∀ i f, rs[i]? = some f → ∃ g off a' c', a = some ⟨g, off, none⟩ ∧ w.cell? ⟨g, off + i * 2, none⟩ = some (.int .i64 f.1) ∧ w.cell? ⟨g, off + i * 2 + 1, none⟩ = some (.slice a' f.2.length c') ∧ LayB w a' f.2
theorem LayR.below {w w' : World} {a : Option Addr} {rs : List Rc} (h : LayR w a rs) (hb : Below w.heap.size w w') : LayR w' a rs := by
  intro i f hi
  obtain ⟨g, off, a', c', h1, h2, h3, h4⟩ := h i f hi
  exact ⟨g, off, a', c', h1, keepc hb _ _ h2, keepc hb _ _ h3, h4.below hb⟩
theorem OwnR.lay {w : World} {B : Nat} {a : Option Addr} {n c : Nat} {rs : List Rc} (h : OwnR w B (.slice a n c) rs) : LayR w a rs := by
  obtain ⟨xs, hr, hi⟩ := h
  intro j f hj
  obtain ⟨a', c', h1, h2, h3⟩ := hi j f hj
  have hlt : j < rs.length := (List.getElem?_eq_some_iff.1 hj).1
  have hown := hr
  obtain ⟨l0, hc⟩ := hr
  rcases hc with ⟨h4, h5⟩ | ⟨g, cap, cur, h4, h5, h6⟩
  · omega
  · simp only [Value.slice.injEq] at h4
    obtain ⟨rfl, rfl, rfl⟩ := h4
    have e1 := hown.cells (g := g) rfl _ _ h1
    have e2 := hown.cells (g := g) rfl _ _ h2
    rw [add_plain] at e1 e2
    refine ⟨g, 0, a', c', rfl, ?_, ?_, h3.lay⟩
    · rw [Nat.mul_comm]; exact e1
    · rw [Nat.mul_comm]; exact e2

set_option maxRecDepth 100000 in
set_option maxHeartbeats 3200000 in
theorem scan_any (a : Option Addr) (c : Nat) (l : List UInt8) (nx : Int) (w : World) (ho : Oct w a c l) (hl : l.length ≤ 480) (hn1 : -9223372036854775808 ≤ nx) (hn2 : nx ≤ 9223372036854775807) :
    Calls Try.prog 26 #[.slice a l.length c, .int .i64 nx] w fun e w' => ∃ v, e = .returned (.tuple #[v, .int .i64 (scR l nx).2]) ∧ OwnR w' w.heap.size v (scR l nx).1 ∧ Below w.heap.size w w' := by
  have HO : Hid (Oct w a c l) := ho
  clear ho
  obtain ⟨i0, hi0, hz0, hz1, hz2⟩ := info_parts Try.infoRc
  go_enter Try.func26, Try.ntmps26
  go_wp2_with fail
  go_loopw [1, 6, 7] (fun y v o wr => ∃ (z : Int) (j : Nat) (rs : List Rc), y = .int .i64 z ∧ o = .int .i64 j ∧ j ≤ l.length ∧ -9223372036854775808 ≤ z ∧ z ≤ 9223372036854775807 ∧ Hid (rs.length * 16 ≤ j) ∧ Hid (OwnR wr w.heap.size v rs) ∧ Hid (Below w.heap.size w wr) ∧ Hid (scR l nx = (rs ++ (scR (l.drop j) z).1, j + (scR (l.drop j) z).2))) (fun _ _ o _ => l.length - (intOf o).toNat)
  case atStart => exact ⟨nx, 0, [], rfl, rfl, by omega, hn1, hn2, by show _ ≤ _; simp, OwnR.nil _ _, Below.refl _ _, by show _ = _; simp⟩
  case round =>
    obtain ⟨z, j, rs, rfl, rfl, hj, hzl, hzu, HRL, HOR, HB, HS⟩ := hrel
    have hdl : (l.drop j).length = l.length - j := List.length_drop
    have hoc : l.length ≤ c ∧ c ≤ 9223372036854775807 := ⟨HO.out.2.1, HO.out.2.2.1⟩
    obtain ⟨hoc1, hoc2⟩ := hoc
    have hsl : (j = c ∧ Hid (Calls Try.prog 41 #[.slice a 0 0] wr (TkPost wr (tkR (l.drop j))))) ∨ (j < c ∧ ∃ b off, a = some ⟨b, off, none⟩ ∧ Hid (Calls Try.prog 41 #[.slice (some ⟨b, off + j, none⟩) (l.length - j) (c - j)] wr (TkPost wr (tkR (l.drop j))))) := by
      by_cases hjc : j < c
      · refine Or.inr ⟨hjc, ?_⟩
        cases a with
        | none => exact absurd (HO.out.2.2.2.2.1 rfl) (by omega)
        | some ad =>
          have hpl := HO.out.2.2.2.2.2 ad rfl (by omega)
          refine ⟨ad.block, ad.off, by rw [← hpl], ?_⟩
          have hO : Oct wr (some ⟨ad.block, ad.off, none⟩) c l := by rw [← hpl]; exact HO.out.below HB.out
          have hp := Oct.part hO j l.length hj (Nat.le_refl _)
          rw [List.take_length] at hp
          have := take_any _ _ (l.drop j) wr hp
          rw [hdl] at this
          exact this
      · refine Or.inl ⟨by omega, ?_⟩
        have hd0 : l.drop j = [] := List.eq_nil_of_length_eq_zero (by omega)
        rw [hd0]
        exact take_any a 0 [] wr ⟨fun i o h => by simp at h, by simp, by omega, by simp, fun _ => rfl, fun ad _ h => by omega⟩
    have HF := tkR_facts (l := l.drop j)
    have HN : Hid (∀ h : ¬ ((tkR (l.drop j)).2.2.2 = true ∧ (tkR (l.drop j)).1 = z), scR (l.drop j) z = ([], 0)) := fun h => scR_no h
    have HY : Hid (∀ h : (tkR (l.drop j)).2.2.2 = true ∧ (tkR (l.drop j)).1 = z, scR (l.drop j) z = _) := fun h => scR_yes h
    have HDD : Hid (∀ n, (l.drop j).drop n = l.drop (j + n)) := fun n => List.drop_drop
    rw [hdl] at HF
    clear hdl
    generalize tkR (l.drop j) = T at *
    obtain ⟨sq, dd, n, ok⟩ := T
    simp only at HF HN HY hsl
    by_cases hok : ok = true ∧ sq = z
    · obtain ⟨rfl, rfl⟩ := hok
      obtain ⟨f1, f2, f3, f4, f5⟩ := HF rfl
      have hne : (sq != sq) = false := by simp
      have HYY := HY.out ⟨rfl, rfl⟩
      rw [HDD.out] at HYY
      have HY2 : Hid (scR (l.drop j) sq = _) := HYY
      have HF1 : Hid (n = 16 + dd.length) := f1
      have hn16 : 16 ≤ n := by omega
      clear HN HY HYY HF HDD f1
      obtain ⟨va, vc, rfl⟩ := HOR.out.shape
      obtain ⟨xs, hr, hit⟩ := HOR.out
      have HRW : Hid (wr.ownsRow w.heap.size 66 2 (.slice va rs.length vc) rs.length xs) := hr
      have HIT : Hid (RItems wr w.heap.size rs xs) := hit
      have hrl : rs.length ≤ 30 := by have := HRL.out; omega
      clear hr hit HOR
      rcases hsl with ⟨rfl, HT⟩ | ⟨hjc, b, off, rfl, HT⟩
      · exfalso
        omega
      go_wp2_with (first
          | (go_at_call 41; refine HT.out.mono ?_; rintro e w1 ⟨a1, c1, rfl, hu, hb1⟩; have HB1 : Hid (Below wr.heap.size wr w1) := hb1; have HU1 : Hid (LayU w1 w.heap.size a1 dd) := hu.base HB.out.size; clear hb1 hu)
          | (at_builtin; refine wpList_append_apart _ rfl _ _ 34 rfl w.heap.size 66 i0 _ 2 32 Try.underlying34 hi0 hz0 hz1 hz2 rfl (by decide) (.slice va rs.length vc) rs.length xs rfl ?d0 (some ⟨w1.heap.size + 1, 0, none⟩) 1 1 [.int .i64 sq, .slice a1 dd.length c1] rfl (by simp) rfl ?d1 ?d2 ?d3 ?d4 ?d5 ?_))
      case d0 => exact ownsRow_same HRW.out fun g hg => (nxt (nxt HB1.out (below_one w1 _)) (below_one _ _)).block g (HRW.out.lt g hg).2
      case d1 =>
        intro ad e k u hk
        cases e
        have := newCells (w1.alloc (.cells #[.int .i64 sq, .slice a1 dd.length c1] 66)) #[.int .i64 sq, .slice a1 dd.length c1] 66 k u (by rw [← Array.getElem?_toList]; exact hk)
        simpa using this
      case d2 => simp [Value.oneCell']
      case d3 => unfold maxLen; omega
      case d4 => omega
      case d5 => have := HB.out.size; have := HB1.out.size; simp; omega
      intro v' w4 hrow hgr _
      have bX := nxt (nxt HB1.out (below_one w1 (.cells #[.int .i64 sq, .slice a1 dd.length c1] 66))) (below_one _ (.cells #[.int .i64 sq, .slice a1 dd.length c1] 66))
      have H4 : Hid (OwnR w4 w.heap.size v' (rs ++ [(sq, dd)])) := by
        show OwnR _ _ _ _
        refine OwnR.pushed (r := (sq, dd)) (a := a1) (c := c1) (ownsRow_same HRW.out fun g hg => bX.block g (HRW.out.lt g hg).2) (HIT.out.kpb (KpB.below bX)) hrow hgr ?_
        exact (HU1.out.below (below_one _ _)).below (below_one _ _)
      have HB4 : Hid (Below w.heap.size w w4) := (nxt HB.out bX).grown hgr (by have := HB.out.size; have := bX.size; omega) (fun j e => (HRW.out.lt j e).1)
      have HFN : Hid (scR l nx = ((rs ++ [(sq, dd)]) ++ (scR (l.drop (j + n)) (wrap64 (sq + 1))).1, (j + n) + (scR (l.drop (j + n)) (wrap64 (sq + 1))).2)) := by
        show _ = _
        rw [HS.out, HY2.out]
        simp [Nat.add_assoc]
      have hwr : -9223372036854775808 ≤ wrap64 (sq + 1) ∧ wrap64 (sq + 1) ≤ 9223372036854775807 := by unfold wrap64; omega
      clear hrow hgr bX HS HY2 HRW HIT
      go_wp2_with fail
      refine ⟨⟨_, j + n, rs ++ [(sq, dd)], rfl, by go_num, by omega, hwr.1, hwr.2, ?_, H4.out, HB4.out, HFN.out⟩, by simp [intOf]; omega⟩
      show _ ≤ _
      have := HRL.out
      rw [List.length_append]
      simp
      omega
    · have HNN : Hid (scR (l.drop j) z = ([], 0)) := HN.out hok
      have hbb : ok = false ∨ (ok = true ∧ (sq != z) = true) := by
        cases ok with
        | false => exact Or.inl rfl
        | true => exact Or.inr ⟨rfl, by simpa using hok⟩
      clear HN HY HF HDD hok
      have HFIN : Hid (scR l nx = (rs, j)) := by
        show _ = _
        rw [HS.out, HNN.out]
        simp
      rcases hbb with rfl | ⟨rfl, hne⟩ <;> rcases hsl with ⟨rfl, HT⟩ | ⟨hjc, b, off, rfl, HT⟩
      all_goals
        go_wp2_with (go_at_call 41; refine HT.out.mono ?_; rintro e w1 ⟨a1, c1, rfl, -, hb1⟩; have HB1 : Hid (Below wr.heap.size wr w1) := hb1; clear hb1)
        refine bodyPost_ret (v := .tuple #[_, .int .i64 j]) (by simp [results, Try.results26, go_sem]; rfl) rfl ?_
        rw [HFIN.out]
        exact ⟨_, rfl, (HOR.out.below HB1.out).below (below_one _ _), nxt (nxt HB.out HB1.out) (below_one _ _)⟩
end Go.Proofs.Ytocodkoanjcmkab
