/-
  Segments in a row of one's own; the program's copyOf.
-/
import Derived.Test.YtocodkoanjcmkabWlFrame
namespace Go.Proofs.Ytocodkoanjcmkab
open Go.ChangeShapes Go.WideShapes Go.ChangeAt Go.RowKit Go.Deep
open Se

/-- Segments in a row, each with its octets. -/
def SItems (W : World) (B : Nat) (ss : List (List UInt8)) (xs : List Value) : Prop :=
  ∀ (j : Nat) (l : List UInt8), ss[j]? = some l → ∃ a c, xs[j]? = some (Value.slice a l.length c) ∧ Bs W B (.slice a l.length c) l ∧ l.length ≤ 140737488351232
/-- No two share a row. -/
def ApartV (xs : List Value) : Prop := ∀ (i j : Nat) (x y : Value) (g : Nat), i ≠ j → xs[i]? = some x → xs[j]? = some y → x.ownBlock = some g → y.ownBlock ≠ some g
/-- Segments in a row of one's own. -/
def OwnS (W : World) (B : Nat) (v : Value) (ss : List (List UInt8)) : Prop := ∃ xs, W.ownsRow B 25 1 v ss.length xs ∧ SItems W B ss xs ∧ ApartV xs
theorem OwnS.nil (W : World) (B : Nat) : OwnS W B (.slice none 0 0) [] := ⟨[], World.ownsRow_nil _ _ _ _, (fun j x h => by simp at h), (fun i j x y g _ h => by simp at h)⟩
theorem SItems.kpb {W W' : World} {B : Nat} {ss : List (List UInt8)} {xs : List Value} (h : SItems W B ss xs) (k : KpB W W') : SItems W' B ss xs := by
  intro j x hj
  obtain ⟨a, c, h1, h2, h3⟩ := h j x hj
  exact ⟨a, c, h1, h2.kpb k, h3⟩
theorem OwnS.below {W W' : World} {B : Nat} {v : Value} {ss : List (List UInt8)} (h : OwnS W B v ss) (hb : Below W.heap.size W W') : OwnS W' B v ss := by
  obtain ⟨xs, h1, h2, h3⟩ := h
  exact ⟨xs, ownsRow_same h1 fun g hg => hb.block g (h1.lt g hg).2, h2.kpb (KpB.below hb), h3⟩
theorem OwnS.shape {W : World} {B : Nat} {v : Value} {ss : List (List UInt8)} (h : OwnS W B v ss) : ∃ a c, v = .slice a ss.length c := by
  obtain ⟨xs, h1, -⟩ := h
  exact slice_of_own h1
theorem OwnS.row {W : World} {B : Nat} {v : Value} {ss : List (List UInt8)} (h : OwnS W B v ss) : ∀ g, v.ownBlock = some g → B ≤ g ∧ g < W.heap.size ∧ ∃ cur, W.heap[g]? = some (.cells cur 25 (0, 0)) := by
  intro g hg
  obtain ⟨xs, h1, -⟩ := h
  have h3 := h1.lt g hg
  refine ⟨h3.1, h3.2, ?_⟩
  rcases h1.2 with ⟨h4, -⟩ | ⟨g', cap, cur, h4, h5, h6, -⟩
  · rw [h4] at hg; simp [Value.ownBlock] at hg
  · rw [h4] at hg
    simp only [Value.ownBlock, Option.some.injEq] at hg
    subst hg
    exact ⟨cur, h6⟩
theorem OwnS.set {W : World} {B : Nat} {v : Value} {ss : List (List UInt8)} (h : OwnS W B v ss) {g o : Nat} {cs : Array Value} {t : TypeId} {r : Nat × Nat} (hg : W.heap[g]? = some (.cells cs t r)) (h1 : t ≠ 5) (h2 : t ≠ 25) (u : Value) : OwnS (W.setCell ⟨g, o, none⟩ u) B v ss := by
  have hrow := h.row
  obtain ⟨xs, q1, q2, q3⟩ := h
  refine ⟨xs, ownsRow_same q1 fun k hk => ?_, q2.kpb (KpB.set hg h1 u), q3⟩
  refine Below.heap_setCell _ _ _ _ ?_
  rintro rfl
  obtain ⟨-, -, cur, h5⟩ := hrow _ hk
  rw [h5] at hg
  simp only [Option.some.injEq, Obj.cells.injEq] at hg
  exact h2 hg.2.1.symm
theorem OwnS.lay {W : World} {B : Nat} {a : Option Addr} {n c : Nat} {ss : List (List UInt8)} (h : OwnS W B (.slice a n c) ss) : LayS W a ss := by
  obtain ⟨xs, hr, hi, -⟩ := h
  intro j l hj
  obtain ⟨a', c', h1, h2, h3⟩ := hi j l hj
  have hlt : j < ss.length := (List.getElem?_eq_some_iff.1 hj).1
  have hown := hr
  obtain ⟨l0, hc⟩ := hr
  rcases hc with ⟨h8, h9⟩ | ⟨g, cap, cur, h8, h9, h10⟩
  · omega
  · simp only [Value.slice.injEq] at h8
    obtain ⟨rfl, rfl, rfl⟩ := h8
    have e1 := hown.cells (g := g) rfl _ _ h1
    rw [add_plain] at e1
    exact ⟨g, 0, a', c', rfl, e1, h2.oct (by omega), h3⟩
theorem SItems.lt {W : World} {B : Nat} {ss : List (List UInt8)} {xs : List Value} (h : SItems W B ss xs) (hl : xs.length = ss.length) {j : Nat} {x : Value} {g : Nat} (hx : xs[j]? = some x) (hg : x.ownBlock = some g) : B ≤ g ∧ g < W.heap.size ∧ ∃ cur, W.heap[g]? = some (.cells cur 5 (0, 0)) := by
  have hj := (List.getElem?_eq_some_iff.1 hx).1
  obtain ⟨a, c, h1, h2, -⟩ := h j _ (List.getElem?_eq_getElem (by omega))
  rw [hx] at h1
  cases h1
  have h3 := h2.base g hg
  refine ⟨h3.1, h3.2, ?_⟩
  rcases h2.2 with ⟨h4, -⟩ | ⟨g', cap, cur, h4, h5, h6, -⟩
  · rw [h4] at hg; simp [Value.ownBlock] at hg
  · rw [h4] at hg
    simp only [Value.ownBlock, Option.some.injEq] at hg
    subst hg
    exact ⟨cur, h6⟩
theorem SItems.push {W : World} {B : Nat} {ss : List (List UInt8)} {xs : List Value} (h : SItems W B ss xs) (hl : xs.length = ss.length) {l : List UInt8} {a : Option Addr} {c : Nat} (hb : Bs W B (.slice a l.length c) l) (hx : l.length ≤ 140737488351232) :
    SItems W B (ss ++ [l]) (xs ++ [.slice a l.length c]) := by
  intro j y hj
  by_cases hlt : j < ss.length
  · rw [List.getElem?_append_left hlt] at hj
    obtain ⟨a', c', h1, h2⟩ := h j y hj
    exact ⟨a', c', by rw [List.getElem?_append_left (by omega)]; exact h1, h2⟩
  · rw [List.getElem?_append_right (by omega)] at hj
    have hj0 : j = ss.length := by
      have := (List.getElem?_eq_some_iff.1 hj).1
      simp at this
      omega
    subst hj0
    simp only [Nat.sub_self, List.getElem?_cons_zero, Option.some.injEq] at hj
    subst hj
    exact ⟨a, c, by rw [List.getElem?_append_right (by omega), show ss.length - xs.length = 0 by omega]; rfl, hb, hx⟩
theorem ApartV.push {xs : List Value} (h : ApartV xs) {y : Value} (hy : ∀ (j : Nat) (x : Value) (g : Nat), xs[j]? = some x → x.ownBlock = some g → y.ownBlock ≠ some g) : ApartV (xs ++ [y]) := by
  intro i j x z g hij hi hj hg
  have hcase : ∀ (k : Nat) (u : Value), (xs ++ [y])[k]? = some u → (k < xs.length ∧ xs[k]? = some u) ∨ (k = xs.length ∧ u = y) := by
    intro k u hk
    by_cases hlt : k < xs.length
    · rw [List.getElem?_append_left hlt] at hk
      exact Or.inl ⟨hlt, hk⟩
    · rw [List.getElem?_append_right (by omega)] at hk
      have := (List.getElem?_eq_some_iff.1 hk).1
      simp at this
      have hk0 : k - xs.length = 0 := by omega
      rw [hk0] at hk
      simp at hk
      exact Or.inr ⟨by omega, hk.symm⟩
  rcases hcase i x hi with ⟨-, h1⟩ | ⟨h1, rfl⟩ <;> rcases hcase j z hj with ⟨-, h2⟩ | ⟨h2, rfl⟩
  · exact h i j x z g hij h1 h2 hg
  · exact hy i x g h1 hg
  · intro e
    exact hy j z g h2 e hg
  · omega
/-- What an append of one segment makes, whose row nobody else has. -/
theorem OwnS.pushed {W W' : World} {B : Nat} {v v' : Value} {ss : List (List UInt8)} {xs : List Value} {l : List UInt8} {a : Option Addr} {c : Nat} (hr : W.ownsRow B 25 1 v ss.length xs) (hit : SItems W B ss xs) (hap : ApartV xs)
    (hr' : W'.ownsRow B 25 1 v' (ss.length + 1) (xs ++ [.slice a l.length c])) (hg : W.grownBy W' v.ownBlock) (hb : Bs W B (.slice a l.length c) l) (hl : l.length ≤ 140737488351232)
    (hy : ∀ (j : Nat) (x : Value) (g : Nat), xs[j]? = some x → x.ownBlock = some g → (Value.slice a l.length c).ownBlock ≠ some g) : OwnS W' B v' (ss ++ [l]) := by
  have kp : KpB W W' := KpB.grown hg (by
    intro g hg
    obtain ⟨-, -, cur, h5⟩ := OwnS.row (ss := ss) ⟨xs, hr, hit, hap⟩ g hg
    exact ⟨cur, _, _, h5, by decide⟩)
  refine ⟨_, by rw [List.length_append]; exact hr', (hit.kpb kp).push ?_ (hb.kpb kp) hl, hap.push hy⟩
  have := hr.1
  omega

set_option maxRecDepth 100000 in
set_option maxHeartbeats 3200000 in
theorem copyOf_any (a : Option Addr) (c : Nat) (ss : List (List UInt8)) (w : World) (hS : LayS w a ss) (hn : ss.length ≤ 1000000000000) :
    Calls Try.prog 32 #[.slice a ss.length c] w fun e w' => ∃ v, e = .returned v ∧ OwnS w' w.heap.size v ss ∧ Below w.heap.size w w' := by
  have HS : Hid (LayS w a ss) := hS
  clear hS
  obtain ⟨i0, hi0, hz0, hz1, hz2⟩ := info_parts Try.infoBs
  go_enter Try.func32, Try.ntmps32
  go_wp2_with fail
  go_loopw [3, 8] (fun v i wr => ∃ m : Nat, m ≤ ss.length ∧ i = .int .i64 m ∧ Hid (OwnS wr w.heap.size v (ss.take m)) ∧ Hid (Below w.heap.size w wr)) (fun _ i _ => ss.length - (intOf i).toNat)
  case atStart => exact ⟨0, by omega, rfl, by show OwnS _ _ _ _; simpa using OwnS.nil _ _, Below.refl _ _⟩
  case round =>
    obtain ⟨m, hm, rfl, HO, HB⟩ := hrel
    by_cases hlt : m < ss.length
    · have hlt1 : (m : Int) < (ss.length : Int) := by omega
      obtain ⟨l, hl⟩ : ∃ l, ss[m]? = some l := ⟨_, List.getElem?_eq_getElem hlt⟩
      have HX : Hid (ss.take (m + 1) = ss.take m ++ [l]) := by
        show _ = _
        rw [List.take_succ_eq_append_getElem hlt]
        rw [List.getElem?_eq_getElem hlt] at hl
        simp only [Option.some.injEq] at hl
        rw [hl]
      obtain ⟨b, off, a1, c1, rfl, q1, q2, q3⟩ := (HS.out.below HB.out) m l hl
      have HQ : Hid (Oct wr a1 c1 l) := q2
      have hlen : (ss.take m).length = m := by rw [List.length_take]; omega
      obtain ⟨va, vc, rfl⟩ := HO.out.shape
      have HL : Hid ((ss.take m).length = m) := hlen
      obtain ⟨xs, hr, hit, hap⟩ := HO.out
      rw [hlen] at hr
      have HRW : Hid (wr.ownsRow w.heap.size 25 1 (.slice va m vc) m xs) := hr
      have HIT : Hid (SItems wr w.heap.size (ss.take m) xs) := hit
      have HAP : Hid (ApartV xs) := hap
      rw [hlen]
      clear hl q2 hr hit hap HO hlen
      go_wp2_with (first
        | (go_at_call 37; refine (clone_any a1 c1 l _ HQ.out q3).mono ?_; rintro e w1 ⟨s1, rfl, hs1, hb1⟩; obtain ⟨a2, c2, rfl⟩ := hs1.shape; have HS1 : Hid (Bs w1 wr.heap.size (.slice a2 l.length c2) l) := hs1; have HB1 : Hid (Below wr.heap.size wr w1) := hb1; clear hs1 hb1)
        | (at_builtin; refine wpList_append_apart _ rfl _ _ 22 rfl w.heap.size 25 i0 _ 1 24 Try.underlying22 hi0 hz0 hz1 hz2 rfl (by decide) (.slice va m vc) m xs rfl ?d0 (some ⟨w1.heap.size, 0, none⟩) 1 1 [.slice a2 l.length c2] rfl (by simp) rfl ?d1 ?d2 ?d3 ?d4 ?d5 ?_))
      case d0 => exact ownsRow_same HRW.out fun g hg => (nxt HB1.out (below_one w1 _)).block g (HRW.out.lt g hg).2
      case d1 =>
        intro ad e k u hk
        cases e
        exact newCells w1 _ _ k u (by rw [← Array.getElem?_toList]; exact hk)
      case d2 => simp [Value.oneCell']
      case d3 => unfold maxLen; omega
      case d4 => omega
      case d5 => have := HB.out.size; have := HB1.out.size; simp; omega
      intro v' w4 hrow hgr _
      have bX := nxt HB1.out (below_one w1 (.cells #[.slice a2 l.length c2] 25))
      have H4 : Hid (OwnS w4 w.heap.size v' (ss.take (m + 1))) := by
        show OwnS _ _ _ _
        rw [HX.out]
        have hr2 : (w1.alloc (.cells #[.slice a2 l.length c2] 25)).ownsRow w.heap.size 25 1 (.slice va m vc) (ss.take m).length xs := by
          rw [HL.out]
          exact ownsRow_same HRW.out fun g hg => bX.block g (HRW.out.lt g hg).2
        refine OwnS.pushed hr2 (HIT.out.kpb (KpB.below bX)) HAP.out (by rw [HL.out]; exact hrow) hgr (Bs.up (HS1.out.below (below_one _ _)) ?_) q3 ?_
        · intro g hg
          have h1 := (HS1.out.base g hg).1
          have h2 := HB.out.size
          omega
        · intro j x g hx hg hg2
          have h1 := (HIT.out.lt (by have := HRW.out.1; rw [HL.out]; omega) hx hg).2.1
          have h2 := (HS1.out.base g hg2).1
          omega
      have HB4 : Hid (Below w.heap.size w w4) := (nxt HB.out bX).grown hgr (by have := HB.out.size; have := bX.size; omega) (fun j e => (HRW.out.lt j e).1)
      clear hrow hgr bX
      go_wp2_with fail
      exact ⟨⟨m + 1, by omega, by go_num, H4.out, HB4.out⟩, by simp [intOf]; omega⟩
    · have hme : m = ss.length := by omega
      subst hme
      have h := HO.out
      rw [List.take_length] at h
      have HO2 : Hid (OwnS wr w.heap.size _ ss) := h
      go_wp2_with fail
      go_ret
      exact ⟨_, rfl, HO2.out, HB.out⟩
end Go.Proofs.Ytocodkoanjcmkab
