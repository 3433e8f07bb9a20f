/-
  The program's checkEvent; parts of a slice of items; slices.Clone of items.
-/
import Derived.Test.YtfdbhojghkdlkaaJ12
import Derived.Lib.SliceRun
namespace Go.Proofs.Ytfdbhojghkdlkaa
open Go.ChangeShapes Go.WideShapes Go.ChangeAt Go.RowKit

theorem effsE_drop {n : Nat} {l : List (Ef n)} {m : Nat} (h : m < l.length) (e : effsE l = effsE (l.drop m)) : effsE l = if effE l[m].1 l[m].2 = 0 then effsE (l.drop (m + 1)) else effE l[m].1 l[m].2 := by
  rw [e, List.drop_eq_getElem_cons h]
  rfl

set_option maxRecDepth 100000 in
set_option maxHeartbeats 3200000 in
theorem checkEvent_any {n : Nat} (L s : Int) (l : List (Ef n)) (ea : Option Addr) (ec : Nat) (w : World) (hE : EIs w n ea ec l) :
    Calls Try.prog 43 #[.int .i64 L, .int .i64 s, .slice ea l.length ec] w fun e w' => e = .returned (.int .i64 (evE L s l)) ∧ Below w.heap.size w w' := by
  have HE : Hid (EIs w n ea ec l) := hE
  have hlen := hE.2.2.1
  clear hE
  by_cases h0 : s ≤ L
  · have E : Hid (evE L s l = 32) := by show _ = _; unfold evE; rw [if_pos h0]
    go_enter Try.func43, Try.ntmps43
    go_wp2_with fail
    go_ret
    exact ⟨by rw [E.out]; rfl, Below.refl _ _⟩
  · by_cases h1 : 1099511627776 < s
    · have E : Hid (evE L s l = 4) := by show _ = _; unfold evE; rw [if_neg h0, if_pos h1]
      go_enter Try.func43, Try.ntmps43
      go_wp2_with fail
      go_ret
      exact ⟨by rw [E.out]; rfl, Below.refl _ _⟩
    · by_cases h2 : 32 < l.length
      · have E : Hid (evE L s l = 3) := by show _ = _; unfold evE; rw [if_neg h0, if_neg h1, if_pos h2]
        go_enter Try.func43, Try.ntmps43
        go_wp2_with fail
        go_ret
        exact ⟨by rw [E.out]; rfl, Below.refl _ _⟩
      · have E : Hid (evE L s l = effsE l) := by show _ = _; unfold evE; rw [if_neg h0, if_neg h1, if_neg h2]
        go_enter Try.func43, Try.ntmps43
        go_wp2_with fail
        go_loopw [23] (fun i wr => ∃ (m : Nat), m ≤ l.length ∧ i = .int .i64 m ∧ Hid (effsE l = effsE (l.drop m)) ∧ Hid (Below w.heap.size w wr)) (fun i _ => l.length - (intOf i).toNat)
        case atStart => exact ⟨0, Nat.zero_le _, rfl, (by show _ = _; rw [List.drop_zero]), Below.refl _ _⟩
        case round =>
          obtain ⟨m, hm, rfl, HO, HW⟩ := hrel
          by_cases hlt : m < l.length
          · obtain ⟨b, o, k, bb, t, ka, kl, kc, ja, jl, jc, rfl, q0, q1, q2, q3, q4, q5, hl, hk⟩ := (HE.out.below HW.out).at m hlt
            have hm1 : (m : Int) < (l.length : Int) := by omega
            have HD : Hid _ := effsE_drop hlt HO.out
            have C2 : Hid (∀ w', Below wr.heap.size wr w' → Calls Try.prog 32 #[.agg #[.string l[m].1, .int .i64 k, .int .u64 bb, .string t, .slice ka kl kc, .slice ja jl jc]] w' fun e w'' => e = .returned (.int .i64 (effE l[m].1 l[m].2)) ∧ Below w'.heap.size w' w'') :=
              fun w' hb => checkEffect_any _ _ k bb t ka kl kc ja jl jc w' (Lay.below n hl hb) hk
            clear hl hk
            generalize effE l[m].1 l[m].2 = ee at *
            generalize l[m].1 = nm at *
            have B1 : Hid (Below wr.heap.size wr (wr.alloc (.cells #[.string nm, .int .i64 k, .int .u64 bb, .string t, .slice ka kl kc, .slice ja jl jc] 52))) := below_one _ _
            by_cases c3 : ee = 0
            · subst c3
              have EN : Hid (effsE l = effsE (l.drop (m + 1))) := by show _ = _; rw [HD.out, if_pos rfl]
              go_wp2_with (go_at_call 32; refine (C2.out _ B1.out).mono ?_; rintro e w2 ⟨rfl, hb2⟩)
              have K2 : Hid (Below w.heap.size w w2) := nxt HW.out (nxt B1.out hb2)
              go_roundw
              case rel => exact ⟨m + 1, by omega, by go_num, EN.out, K2.out⟩
              case measure => simp [intOf]; omega
            · have EN : Hid (effsE l = ee) := by show _ = _; rw [HD.out, if_neg c3]
              have hd3 : (ee == 0) = false := by simpa using c3
              have hd4 : (ee != 0) = true := by simpa using c3
              go_wp2_with (go_at_call 32; refine (C2.out _ B1.out).mono ?_; rintro e w2 ⟨rfl, hb2⟩)
              go_ret
              exact ⟨by rw [E.out, EN.out]; rfl, nxt HW.out (nxt B1.out hb2)⟩
          · have EN : Hid (effsE l = 0) := by show _ = _; rw [HO.out, List.drop_eq_nil_of_le (by omega)]; rfl
            go_wp2_with fail
            go_ret
            exact ⟨by rw [E.out, EN.out]; rfl, HW.out⟩

/-- A row in memory of its own is a slice of items. -/
theorem CopyInv.tis {n : Nat} {w wr : World} {v : Value} {its : List (Tm n)} {H : Nat → Prop} (h : CopyInv (shT n) w wr v its H) (hb : its.length * 104 ≤ 140737488351232) (hok : ∀ u ∈ its, TmOk u) : ∃ ia ic, v = .slice ia its.length ic ∧ TIs wr n ia ic its := by
  obtain ⟨a1, -, -⟩ := h
  obtain ⟨ia, ic, rfl⟩ := a1.shape
  refine ⟨ia, ic, rfl, ?_⟩
  have hl := a1.lay
  obtain ⟨xs, G, q1, _⟩ := a1
  have hc := cap_of_own q1
  refine ⟨hc.1, hc.2, hb, none_of_own q1, ?_, hok, hl⟩
  intro ad e _
  rcases q1.2 with ⟨e1, -⟩ | ⟨g, cap, cur, e1, -⟩
  · rw [e] at e1; simp at e1
  · rw [e] at e1; simp only [Value.slice.injEq, Option.some.injEq] at e1; rw [e1.1]

theorem LayR.take {α : Type} {n : Nat} {S : Sh α n} {w : World} {ia : Option Addr} {its : List α} (h : LayR S w ia its) (k : Nat) : LayR S w ia (its.take k) := fun i u hu => by
  rw [List.getElem?_take] at hu
  split at hu
  · exact h i u hu
  · cases hu

theorem LayR.drop {α : Type} {n : Nat} {S : Sh α n} {w : World} {b o : Nat} {its : List α} (h : LayR S w (some ⟨b, o, none⟩) its) (k : Nat) : LayR S w (some ⟨b, o + k * S.s, none⟩) (its.drop k) := fun i u hu => by
  rw [List.getElem?_drop] at hu
  obtain ⟨b', o', c0, c1, c2, c3, c4, e, q, q0, q1, q2, q3, q4, hl⟩ := h (k + i) u hu
  cases e
  have ha : o + (k + i) * S.s = o + k * S.s + i * S.s := by rw [Nat.add_mul, Nat.add_assoc]
  rw [ha] at q q0 q1 q2 q3 q4
  exact ⟨b, o + k * S.s, c0, c1, c2, c3, c4, rfl, q, q0, q1, q2, q3, q4, hl⟩

theorem TIs.take {w : World} {n : Nat} {ia : Option Addr} {ic : Nat} {its : List (Tm n)} (h : TIs w n ia ic its) (k : Nat) : TIs w n ia ic (its.take k) := by
  obtain ⟨h1, h2, h3, h4, h5, h6, h7⟩ := h
  have : (its.take k).length ≤ its.length := by simp; omega
  exact ⟨by omega, h2, by omega, (fun e => ⟨by have := (h4 e).1; omega, (h4 e).2⟩), h5, fun u hu => h6 u (List.mem_of_mem_take hu), h7.take k⟩

/-- The cells of a slice of items. -/
theorem TIs.cells {w : World} {n : Nat} {ia : Option Addr} {ic : Nat} {its : List (Tm n)} (h : TIs w n ia ic its) : ∃ xs : List Value, xs.length = its.length * 7 ∧ (∀ ad, ia = some ad → ∀ j u, xs[j]? = some u → w.cell? (ad.add j) = some u) ∧ (∀ u ∈ xs, u.oneCell' = true) ∧
    ItemsR (shT n) (fun x u _ => Lay w n x u) its its.length xs (fun _ _ => False) := by
  have hat : ∀ m, m < its.length → ∃ y : List Value, (y.length = 7 ∧ ∀ ad, ia = some ad → ∀ j u, y[j]? = some u → w.cell? (ad.add (m * 7 + j)) = some u) ∧ (∀ u ∈ y, u.oneCell' = true) ∧ ∃ c0 c1 c2 c3 c4, its[m]?.map (fun u => [.int .i64 u.1, .string u.2.1, c0, c1, c2, c3, c4]) = some y ∧ ∀ u, its[m]? = some u → Lay w n (.agg #[c0, c1, c2, c3, c4]) u.2.2 := by
    intro m hm
    obtain ⟨b, o, k, bb, t, ka, kl, kc, ja, jl, jc, e, q0, q1, q2, q3, q4, q5, q6, hl, hk⟩ := h.at m hm
    refine ⟨[.int .i64 its[m].1, .string its[m].2.1, .int .i64 k, .int .u64 bb, .string t, .slice ka kl kc, .slice ja jl jc], ⟨rfl, ?_⟩, ?_, .int .i64 k, .int .u64 bb, .string t, .slice ka kl kc, .slice ja jl jc, by simp [hm], ?_⟩
    · intro ad e' j u hj
      rw [e] at e'
      cases e'
      rw [add_plain, ← Nat.add_assoc]
      match j, hj with
      | 0, hj => cases hj; exact q0
      | 1, hj => cases hj; exact q1
      | 2, hj => cases hj; exact q2
      | 3, hj => cases hj; exact q3
      | 4, hj => cases hj; exact q4
      | 5, hj => cases hj; exact q5
      | 6, hj => cases hj; exact q6
      | j + 7, hj => simp at hj
    · intro u hu
      simp at hu
      rcases hu with rfl | rfl | rfl | rfl | rfl | rfl | rfl <;> rfl
    · intro u hu
      rw [List.getElem?_eq_getElem hm] at hu
      cases hu
      exact hl
  have all : ∀ m, m ≤ its.length → ∃ xs : List Value, xs.length = m * 7 ∧ (∀ ad, ia = some ad → ∀ j u, xs[j]? = some u → w.cell? (ad.add j) = some u) ∧ (∀ u ∈ xs, u.oneCell' = true) ∧ ItemsR (shT n) (fun x u _ => Lay w n x u) (its.take m) m xs (fun _ _ => False) := by
    intro m
    induction m with
    | zero => exact fun _ => ⟨[], rfl, fun ad _ j u hj => by simp at hj, fun u hu => by simp at hu, fun i u hi => by omega⟩
    | succ m ih =>
      intro hm
      obtain ⟨xs, z1, z2, z3, z4⟩ := ih (by omega)
      obtain ⟨y, ⟨y1, y2⟩, y3, c0, c1, c2, c3, c4, y4, y5⟩ := hat m (by omega)
      rw [List.getElem?_eq_getElem (by omega)] at y4
      simp only [Option.map_some, Option.some.injEq] at y4
      have hlt : (its.take m).length = m := by rw [List.length_take]; omega
      refine ⟨xs ++ y, by rw [List.length_append, z1, y1]; omega, ?_, ?_, ?_⟩
      · intro ad e j u hj
        by_cases hjl : j < xs.length
        · rw [List.getElem?_append_left hjl] at hj; exact z2 ad e j u hj
        · rw [List.getElem?_append_right (by omega)] at hj
          have := y2 ad e _ u hj
          rwa [z1, show m * 7 + (j - m * 7) = j by omega] at this
      · intro u hu
        rcases List.mem_append.1 hu with hu | hu
        · exact z3 u hu
        · exact y3 u hu
      · rw [List.take_succ_eq_append_getElem (by omega)]
        have := ItemsR.snoc (S := shT n) (its := its.take m) (u := its[m]) (G := fun _ _ => False) (G' := fun _ _ => False) (c0 := c0) (c1 := c1) (c2 := c2) (c3 := c3) (c4 := c4) (news := y) (R := fun x u _ => Lay w n x u) rfl rfl (by rw [hlt, z1]; rfl) y4.symm (by rw [hlt]; exact z4) (fun _ _ _ _ hR => hR) (y5 _ (List.getElem?_eq_getElem (by omega)))
        rwa [hlt] at this
  obtain ⟨xs, z1, z2, z3, z4⟩ := all its.length (Nat.le_refl _)
  rw [List.take_length] at z4
  exact ⟨xs, z1, z2, z3, z4⟩

/-- A row of one's own that holds items whose values lie in the world w. -/
def ShRow {n : Nat} (w wr : World) (B : Nat) (v : Value) (its : List (Tm n)) : Prop := ∃ xs, wr.ownsRow B 54 7 v its.length xs ∧ ItemsR (shT n) (fun x u _ => Lay w n x u) its its.length xs (fun _ _ => False)

theorem ShRow.tis {n : Nat} {w wr : World} {B : Nat} {v : Value} {its : List (Tm n)} (h : ShRow w wr B v its) (hw : Below w.heap.size w wr) (hb : its.length * 104 ≤ 140737488351232) (hok : ∀ u ∈ its, TmOk u) : ∃ ia ic, v = .slice ia its.length ic ∧ TIs wr n ia ic its := by
  obtain ⟨xs, q1, q2⟩ := h
  obtain ⟨ia, ic, rfl⟩ := slice_of_own q1
  refine ⟨ia, ic, rfl, ?_⟩
  have hc := cap_of_own q1
  refine ⟨hc.1, hc.2, hb, none_of_own q1, ?_, hok, ItemsR.lay (S := shT n) q1 q2 fun x u _ hl => Lay.below n hl hw⟩
  intro ad e _
  rcases q1.2 with ⟨e1, -⟩ | ⟨g, cap, cur, e1, -⟩
  · rw [e] at e1; simp at e1
  · rw [e] at e1; simp only [Value.slice.injEq, Option.some.injEq] at e1; rw [e1.1]

theorem ShRow.same {n : Nat} {w wr wr' : World} {B : Nat} {v : Value} {its : List (Tm n)} (h : ShRow w wr B v its) (hb : Below wr.heap.size wr wr') : ShRow w wr' B v its := by
  obtain ⟨xs, q1, q2⟩ := h
  exact ⟨xs, ownsRow_same q1 fun g hg => hb.block g (q1.lt g hg).2, q2⟩
end Go.Proofs.Ytfdbhojghkdlkaa

/-
  slices.Clone, slices.Grow and slices.Concat of items: rows of one's own whose values are shared.
-/
namespace Go.Proofs.Ytfdbhojghkdlkaa
open Go.ChangeShapes Go.WideShapes Go.ChangeAt Go.RowKit

theorem layX_append {n : Nat} {w : World} {its its' : List (Tm n)} {xs ys : List Value} (h1 : ItemsR (shT n) (fun x u _ => Lay w n x u) its its.length xs (fun _ _ => False)) (hx : xs.length = its.length * 7) (h2 : ItemsR (shT n) (fun x u _ => Lay w n x u) its' its'.length ys (fun _ _ => False)) :
    ItemsR (shT n) (fun x u _ => Lay w n x u) (its ++ its') (its ++ its').length (xs ++ ys) (fun _ _ => False) := by
  intro i u hi hu
  have lt : ∀ j z, xs[j]? = some z → (xs ++ ys)[j]? = some z := fun j z hz => by
    rw [List.getElem?_append_left (List.getElem?_eq_some_iff.1 hz).1]; exact hz
  by_cases him : i < its.length
  · rw [List.getElem?_append_left him] at hu
    obtain ⟨q, d0, d1, d2, d3, d4, e0, e1, e2, e3, e4, ho⟩ := h1 i u him hu
    exact ⟨fun j c hj => lt _ _ (q j c hj), d0, d1, d2, d3, d4, lt _ _ e0, lt _ _ e1, lt _ _ e2, lt _ _ e3, lt _ _ e4, ho⟩
  · rw [List.getElem?_append_right (by omega)] at hu
    obtain ⟨q, d0, d1, d2, d3, d4, e0, e1, e2, e3, e4, ho⟩ := h2 (i - its.length) u (List.getElem?_eq_some_iff.1 hu).1 hu
    have up : ∀ j z, ys[(i - its.length) * 7 + j]? = some z → (xs ++ ys)[i * 7 + j]? = some z := fun j z hz => by
      rw [List.getElem?_append_right (by omega), hx, show i * 7 + j - its.length * 7 = (i - its.length) * 7 + j by omega]; exact hz
    exact ⟨fun j c hj => up _ _ (q j c hj), d0, d1, d2, d3, d4, up 2 _ e0, up 3 _ e1, up 4 _ e2, up 5 _ e3, up 6 _ e4, ho⟩

/-- append of a slice of items to a row that shares values. -/
theorem wpList_appSh {w0 : World} (w : World) {ops : Array Oper} {rest : List Oper} {o : Oper} {a : Act} {Q : Exit → Act → World → Prop} (hgd : o.guard = none) (s x : Operand)
    (hop : o.op = .call { callee := .builtin .append, args := #[s, x], argTypes := #[22, 22] })
    {n : Nat} (B : Nat) (v : Value) (its its' : List (Tm n)) (hs : a.eval s = v) (hL : ShRow w0 w B v its) (hw : Below w0.heap.size w0 w) (ia : Option Addr) (ic : Nat) (hx : a.eval x = .slice ia its'.length ic) (hT : TIs w0 n ia ic its') (hlen : (its.length + its'.length) * 104 ≤ 140737488355328) (hB : B ≤ w.heap.size)
    (h : ∀ v' w', ShRow w0 w' B v' (its ++ its') → w.grownBy w' v.ownBlock → wpList Try.prog ops Q rest (a.put o.dst v') w') : wpList Try.prog ops Q (o :: rest) a w := by
  obtain ⟨xs, h1, h2⟩ := hL
  obtain ⟨ys, y1, y2, y3, y4⟩ := hT.cells
  obtain ⟨i0, hi, hz0, hz1, hz2⟩ := info_parts Try.infoItem
  refine wpList_append_apart w hgd s x 22 hop B 54 i0 _ 7 104 Try.underlying22 hi hz0 hz1 hz2 rfl (by decide) v its.length xs hs h1 ia its'.length ic ys hx hT.2.2.2.1 y1 (fun ad e j u hj => ?_) y3 (by unfold maxLen; omega) hlen hB ?_
  · have := y2 ad e j u hj
    rw [hw.cell (lt_of_cell this)]
    exact this
  · intro v' w' q1 q2 _
    exact h v' w' ⟨_, by rw [List.length_append]; exact q1, layX_append h2 h1.1 y4⟩ q2

theorem ShRow.made {n : Nat} (w0 w : World) : ShRow (n := n) w0 (w.alloc (.cells #[] 54)) w.heap.size (.slice (some ⟨w.heap.size, 0, none⟩) 0 0) [] :=
  ⟨[], ⟨rfl, Or.inr ⟨w.heap.size, 0, #[], rfl, Nat.le_refl _, heap_alloc_new _ _, Nat.le_refl _, by decide, rfl, rfl⟩⟩, fun i u hi => by simp at hi⟩

theorem ShRow.nil {n : Nat} (w0 w : World) (B : Nat) : ShRow (n := n) w0 w B (.slice none 0 0) [] := ⟨[], World.ownsRow_nil _ _ _ _, fun i u hi => by simp at hi⟩

theorem eql_nilT (w : World) (a : Option Addr) (l c : Nat) : Sem.run Try.prog (binOp .eql 22 (.slice a l c) (.slice none 0 0)) w = .ok (.bool a.isNone) w := by
  exact Lib.run_eql_slice_nil w 22 54 a l c 0 0 Try.underlying22

/-- What Clone, Concat answer. -/
def ShPost {n : Nat} (w : World) (its : List (Tm n)) (e : Ending) (w' : World) : Prop := ∃ v, e = .returned v ∧ ShRow w w' w.heap.size v its ∧ Below w.heap.size w w'

set_option maxRecDepth 100000 in
theorem cloneT_any {n : Nat} (its : List (Tm n)) (ia : Option Addr) (ic : Nat) (w : World) (hT : TIs w n ia ic its) : Calls Try.prog 44 #[.slice ia its.length ic] w (ShPost w its) := by
  have HT : Hid (TIs w n ia ic its) := hT
  cases ia with
  | none =>
    obtain ⟨hl0, hc⟩ := hT.2.2.2.1 rfl
    have hnil : its = [] := List.eq_nil_of_length_eq_zero hl0
    subst hnil hc
    clear hT hl0
    have hn := fun w l c => eql_nilT w none l c
    simp only [Option.isNone_none] at hn
    go_enter Try.func44, Try.ntmps44
    go_wp2_with fail
    go_ret
    exact ⟨_, rfl, ShRow.nil _ _ _, Below.refl _ _⟩
  | some ad =>
    have hlen := hT.2.2.1
    clear hT
    have B0 : Hid (ShRow (n := n) w (w.alloc (.cells #[] 54)) w.heap.size (.slice (some ⟨w.heap.size, 0, none⟩) 0 0) []) := ShRow.made w w
    have hn := fun w l c => eql_nilT w (some ad) l c
    simp only [Option.isNone_some] at hn
    go_enter Try.func44, Try.ntmps44
    go_wp2_with (at_builtin; refine wpList_appSh (w0 := w) _ rfl _ _ rfl w.heap.size _ [] its rfl B0.out (below_one _ _) (some ad) ic rfl HT.out ?d0 ?d1 ?_)
    case d0 => simp; omega
    case d1 => simp
    intro s w1 h1 h2
    have H1 : Hid (ShRow w w1 w.heap.size s its) := by show ShRow _ _ _ _ _; simpa using h1
    have B1 : Hid (Below w.heap.size w w1) := (below_one w _).grown h2 (by simp) (fun g hg => by simp [Value.ownBlock] at hg; omega)
    clear h1 h2
    go_wp2_with fail
    go_ret
    exact ⟨s, rfl, H1.out, B1.out⟩
end Go.Proofs.Ytfdbhojghkdlkaa
