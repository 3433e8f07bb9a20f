/-
  The program's Print; the page's example (alive).
-/
import Derived.Test.YtoheppocolbjkaaTrPNode
namespace Go.Proofs.Ytoheppocolbjkaa
open Go.ChangeShapes Go.WideShapes Go.ChangeAt Go.RowKit

/-- Print's text. -/
def prB {n : Nat} (v : T n) : ByteArray := if (sizeT v).1 = 0 then ⟨(prt v).toArray⟩ else ⟨#[]⟩

theorem size_ok : ∀ {n : Nat} {v : T n}, (sizeT v).1 = 0 → ¬ (tagT v).size = 0 ∧ (wk v 1 0).1 = 0 ∧ sizeT v = wk v 1 0
  | 0, v, _ => v.elim
  | n + 1, v, h => by
    obtain ⟨g, k, t, ats, its⟩ := v
    rw [sizeT_node] at h ⊢
    by_cases h0 : g.size = 0
    · rw [if_pos h0] at h; simp at h
    · rw [if_neg h0] at h ⊢
      by_cases h1 : (wk (n := n + 1) (g, k, t, ats, its) 1 0).1 = 0
      · rw [if_pos h1]; exact ⟨h0, h1, rfl⟩
      · rw [if_neg h1] at h; exact absurd h h1

theorem print_ok {n : Nat} {v : T n} (h : (sizeT v).1 = 0) : okN v ∧ (prt v).length ≤ 3328000 := by
  have h1 := size_ok h
  have h2 := wk_each n v 1 0 (by omega) (by omega) h1.2.1
  have h3 := wk_ok n v 1 0 (by omega) (by omega)
  exact ⟨h2.1, by have := h2.2; have := h3.1; omega⟩

set_option maxRecDepth 100000 in
set_option maxHeartbeats 1600000 in
theorem print_any (n : Nat) (v : T n) (x : Value) (w : World) (hv : LayT w n x v) :
    Calls Try.prog 12 #[x] w fun e w' => e = .returned (.tuple #[.string (prB v), .int .i64 (sizeT v).1]) ∧ Below w.heap.size w w' := by
  have HV : Hid (LayT w n x v) := hv
  obtain ⟨g, k, t, aa, al, ac, ia, il, ic, rfl⟩ := LayT.shape n hv
  clear hv
  have CC : Hid (∀ W, Below w.heap.size w W → Calls Try.prog 17 #[mkT g k t aa al ac ia il ic] W fun e w' => e = .returned (.int .i64 (sizeT v).1) ∧ Below W.heap.size W w') := fun W h => check_any n v _ W (HV.out.below n h)
  by_cases he : (sizeT v).1 = 0
  · have HO : Hid (okN v ∧ (prt v).length ≤ 3328000) := print_ok he
    have HP : Hid (prB v = ⟨(prt v).toArray⟩) := by show _ = _; unfold prB; rw [if_pos he]
    rw [he] at CC
    rw [he]
    clear he
    have CN : Hid (∀ W B P q, Below w.heap.size w W → w.heap.size ≤ B → B ≤ W.heap.size → Pr W B P q [] → Calls Try.prog 28 #[.pointer (some ⟨P, 0, none⟩), mkT g k t aa al ac ia il ic] W (PrPost W B P q (prt v))) := fun W B P q h1 h2 h3 h4 => by
      have := pnode_any n v _ B P q [] w W HV.out h1 h2 h3 h4 HO.out.1 (by have := HO.out.2; simp; omega)
      rwa [List.nil_append] at this
    generalize prB v = R at *
    go_enter Try.func12, Try.ntmps12
    go_wp2_with fail
    refine (CC.out _ (below_one _ _)).mono ?_
    rintro e w1 ⟨rfl, hb1⟩
    have X1 := boxed hb1
    have B1 : Below w.heap.size w w1 := nxt (below_one _ _) hb1
    go_wp2_with fail
    refine (newPrinter_any w1).mono ?_
    rintro e w2 ⟨P, q, rfl, hp2, hb2⟩
    obtain ⟨y0, y1, y2, y3, y4, -⟩ := box_cells ((hb2.block _ (lt_of_block X1)).trans X1)
    have hp2' := hp2
    obtain ⟨p, vv, -, hpv⟩ := hp2
    obtain ⟨c0, c1, c2, -⟩ := three_cells hpv.2.2.1
    have CNN : Hid (Calls Try.prog 28 #[.pointer (some ⟨P, 0, none⟩), mkT g k t aa al ac ia il ic] w2 _) := CN.out w2 w1.heap.size P q (nxt B1 hb2) B1.size hb2.size hp2'
    clear hpv c0 c1 c2
    go_wp2_with fail
    refine CNN.out.mono ?_
    rintro e w3 ⟨rfl, hp3, hk3, hb3⟩
    have B3 : Below w.heap.size w w3 := (nxt B1 hb2).trans (hb3.mono B1.size)
    have hs3 : w1.heap.size ≤ w3.heap.size := Nat.le_trans hb2.size hb3.size
    have CS : Hid (Calls Try.prog 29 #[.pointer (some ⟨P, 0, none⟩)] w3 _) := string_any w1.heap.size P q (prt v) w3 hp3 hs3
    obtain ⟨p3, v3, -, hpv3⟩ := hp3
    obtain ⟨c0, c1, c2, -⟩ := three_cells hpv3.2.2.1
    clear hpv3 y0 y1 y2 y3 y4
    go_wp2_with (refine CS.out.mono ?_; rintro e w4 ⟨rfl, hb4, -⟩)
    go_ret2
    exact ⟨by rw [HP.out]; rfl, B3.trans (hb4.mono B1.size)⟩
  · have HP : Hid (prB v = ⟨#[]⟩) := by show _ = _; unfold prB; rw [if_neg he]
    have hd1 : ((sizeT v).1 == 0) = false := by simpa using he
    have hd2 : ((sizeT v).1 != 0) = true := by simpa using he
    rw [HP.out]
    clear he HP
    generalize (sizeT v).1 = er at *
    go_enter Try.func12, Try.ntmps12
    go_wp2_with fail
    refine (CC.out _ (below_one _ _)).mono ?_
    rintro e w1 ⟨rfl, hb1⟩
    go_wp2_with fail
    go_ret2
    exact ⟨rfl, nxt (below_one _ _) hb1⟩

/-- An element p with one text. -/
def tx (s : ByteArray) : T 1 := (⟨#[]⟩, ⟨#[]⟩, s, [], [])
def pv (s : ByteArray) : T 2 := (⟨#[112]⟩, ⟨#[]⟩, ⟨#[]⟩, [], [tx s])
theorem pv_size {s : ByteArray} (h : s.size ≤ 128) : sizeT (pv s) = (0, 2, 2) := by
  have hn : nodeB ⟨#[]⟩ ⟨#[]⟩ s [] ([] : List (T 0)).length = true := by
    unfold nodeB
    rw [if_pos (by decide), decide_eq_true h]; decide
  have hp : nodeB ⟨#[112]⟩ ⟨#[]⟩ ⟨#[]⟩ [] 1 = true := by decide
  have ht : twB [(⟨#[]⟩ : ByteArray)] = false := by decide
  have ht0 : twB ([] : List ByteArray) = false := by decide
  have hk : wk (tx s) 2 1 = (0, 2, 2) := by
    unfold tx
    rw [wk_node, if_neg (by omega), if_neg (by omega), if_neg (by rw [hn]; decide), if_neg (by show ¬ twB [] = true; rw [ht0]; decide)]
    rfl
  have hw : wk (pv s) 1 0 = (0, 2, 2) := by
    unfold pv
    rw [wk_node, if_neg (by omega), if_neg (by omega), if_neg (by show ¬ nodeB ⟨#[112]⟩ ⟨#[]⟩ ⟨#[]⟩ [] 1 = false; rw [hp]; decide), if_neg (by show ¬ twB [⟨#[]⟩] = true; rw [ht]; decide)]
    unfold wkK
    simp only [hk]
    rfl
  have : sizeT (pv s) = if (⟨#[112]⟩ : ByteArray).size = 0 then (9, 0, 0) else if (wk (pv s) 1 0).1 = 0 then wk (pv s) 1 0 else ((wk (pv s) 1 0).1, 0, 0) := rfl
  rw [this, if_neg (by decide), hw]
  rfl
theorem pv_prt (s : ByteArray) : prt (pv s) = [60, 112, 62] ++ (esc s.toList ++ [60, 47, 112, 62]) := by
  unfold pv
  rw [prt_node, if_neg (by decide)]
  have e1 : prtK ⟨#[]⟩ = [] := by unfold prtK; rw [if_pos (by decide)]
  have e2 : cat prt [tx s] = esc s.toList := by
    show prt (tx s) ++ [] = _
    rw [List.append_nil]
    unfold tx
    rw [prt_node, if_pos (by decide)]
  have e3 : (⟨#[112]⟩ : ByteArray).toList = [112] := by rw [ByteArray.toList_eq]
  rw [e1, e2, e3]
  simp [prtAs]
theorem pv_lay {w : World} {b : Nat} {s : ByteArray} (hs : s.size ≤ 1000) (h : w.heap[b]? = some (.cells #[.string ⟨#[]⟩, .string ⟨#[]⟩, .string s, .slice none 0 0, .slice none 0 0] 25 (0, 0))) :
    LayT w 2 (mkT ⟨#[112]⟩ ⟨#[]⟩ ⟨#[]⟩ none 0 0 (some ⟨b, 0, none⟩) 1 1) (pv s) := by
  have l1 : [tx s].length = 1 := rfl
  refine ⟨none, 0, some ⟨b, 0, none⟩, 1, rfl, ⟨by decide, by decide, by decide, by decide, by decide, by decide, by rw [l1]; decide, by decide, by rw [l1]; decide⟩, fun _ => ⟨rfl, rfl⟩, fun e => (by cases e), fun i s hi => (by simp at hi), ?_⟩
  intro i u hi
  match i, hi with
  | 0, hi =>
    simp only [List.getElem?_cons_zero, Option.some.injEq] at hi
    subst hi
    obtain ⟨x0, x1, x2, x3, x4, -⟩ := box_cells h
    have l0 : ([] : List (T 0)).length = 0 := rfl
    exact ⟨b, 0, _, _, _, _, _, rfl, x0, x1, x2, x3, x4, none, 0, none, 0, rfl, ⟨by decide, by decide, by omega, by decide, by decide, by decide, by rw [l0]; decide, by decide, by rw [l0]; decide⟩, fun _ => ⟨rfl, rfl⟩, fun _ => ⟨rfl, rfl⟩, fun i s hi => (by simp at hi), fun i u hu => (by simp at hu)⟩
  | i + 1, hi => simp at hi

set_option maxRecDepth 100000 in
set_option maxHeartbeats 1600000 in
theorem alive_any (w : World) : Calls Try.prog 20 #[] w fun e w' => e = .returned (.bool true) ∧ Below w.heap.size w w' := by
  have hs : (⟨#[97, 60, 98]⟩ : ByteArray).size ≤ 128 := by decide
  have hp : prB (pv ⟨#[97, 60, 98]⟩) = ⟨#[60, 112, 62, 97, 38, 108, 116, 59, 98, 60, 47, 112, 62]⟩ := by
    unfold prB
    rw [pv_size hs, if_pos rfl, pv_prt]
    have : (⟨#[97, 60, 98]⟩ : ByteArray).toList = [97, 60, 98] := by rw [ByteArray.toList_eq]
    rw [this]
    rfl
  have CP : Hid (Calls Try.prog 12 #[mkT ⟨#[112]⟩ ⟨#[]⟩ ⟨#[]⟩ none 0 0 (some ⟨w.heap.size, 0, none⟩) 1 1] (w.alloc (.cells #[.string ⟨#[]⟩, .string ⟨#[]⟩, .string ⟨#[97, 60, 98]⟩, .slice none 0 0, .slice none 0 0] 25)) fun e w' => e = .returned (.tuple #[.string ⟨#[60, 112, 62, 97, 38, 108, 116, 59, 98, 60, 47, 112, 62]⟩, .int .i64 0]) ∧ Below (w.alloc (.cells #[.string ⟨#[]⟩, .string ⟨#[]⟩, .string ⟨#[97, 60, 98]⟩, .slice none 0 0, .slice none 0 0] 25)).heap.size (w.alloc (.cells #[.string ⟨#[]⟩, .string ⟨#[]⟩, .string ⟨#[97, 60, 98]⟩, .slice none 0 0, .slice none 0 0] 25)) w') := by
    have := print_any 2 (pv ⟨#[97, 60, 98]⟩) _ (w.alloc (.cells #[.string ⟨#[]⟩, .string ⟨#[]⟩, .string ⟨#[97, 60, 98]⟩, .slice none 0 0, .slice none 0 0] 25)) (pv_lay (by decide) (heap_alloc_new _ _))
    rw [hp, pv_size hs] at this
    exact this
  clear hp hs
  go_enter Try.func20, Try.ntmps20
  go_wp2_with (first
    | (go_at_call 12; refine CP.out.mono ?_; rintro e w1 ⟨rfl, hb1⟩)
    | (go_at_call 16; refine (num_any _ _).mono ?_; rintro e w2 ⟨rfl, hw2⟩; subst w2))
  go_ret
  exact ⟨rfl, nxt (below_one _ _) hb1⟩
end Go.Proofs.Ytoheppocolbjkaa
