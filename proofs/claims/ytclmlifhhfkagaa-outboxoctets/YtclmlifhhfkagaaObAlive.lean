/-
  The page's example: alive answers true.
-/
import Derived.Test.YtclmlifhhfkagaaObAck
namespace Go.Proofs.Ytclmlifhhfkagaa
open Go.ChangeShapes Go.WideShapes Go.ChangeAt Go.RowKit

def obZ : V 1 := (0, 0, ⟨#[]⟩, [], [])
def obE : List (Ef 1) := [(⟨#[97]⟩, obZ), (⟨#[98]⟩, obZ)]
def obI : List (Tm 1) := [(96, ⟨#[97]⟩, obZ), (97, ⟨#[98]⟩, obZ)]

theorem obZ_chk : chk obZ = 0 := by
  have hm : mayB 0 0 ⟨#[]⟩ [] ([] : List (V 0)).length = true := by
    unfold mayB
    rw [if_pos rfl, (empty_of (nm := ⟨#[]⟩) rfl).2]
    rfl
  have h : wk 1 obZ 1 (0, 0) = .ok (1, 1) := by
    simp only [obZ, wk]
    rw [if_neg (by decide), if_neg (by decide), if_pos hm]
    rfl
  unfold chk
  rw [h]
  rfl
theorem obE_a : effE (⟨#[97]⟩ : ByteArray) obZ = 0 := effE_mk obZ_chk (by decide) (by decide)
theorem obE_b : effE (⟨#[98]⟩ : ByteArray) obZ = 0 := effE_mk obZ_chk (by decide) (by decide)
theorem ob_new : chkB 0 ([] : List (Tm 1)) = 0 := by simp [chkB, okT]
theorem ob_ev : evE 0 3 obE = 0 := by simp [evE, obE, effsE, obE_a, obE_b]
theorem ob_add : addR 0 ([] : List (Tm 1)) 3 obE = (0, 3, obI) := by
  unfold addR
  rw [if_pos ob_new, if_pos ob_ev, if_pos (by decide)]
  simp [obE, obI, nums]
theorem ob_box : chkB 3 obI = 0 := by simp [chkB, obI, okT, obE_a, obE_b]
theorem ob_next : nextR 3 obI 9 = (0, obI) := by
  unfold nextR
  rw [if_pos ob_box, if_pos (by decide)]
  rfl
theorem ob_ack : ackR 3 obI 96 = (0, true, 3, [(97, ⟨#[98]⟩, obZ)]) := by
  unfold ackR
  rw [if_pos ob_box, if_pos (by decide)]
  simp [obI, rem]

theorem OwnR.tis {n : Nat} {wr : World} {v : Value} {its : List (Tm n)} {H : Nat → Prop} (h : OwnR (shT n) wr v its H) (hb : its.length * 104 ≤ 140737488351232) (hok : ∀ u ∈ its, TmOk u) : ∃ ia ic, v = .slice ia its.length ic ∧ TIs wr n ia ic its := by
  obtain ⟨ia, ic, rfl⟩ := h.shape
  refine ⟨ia, ic, rfl, ?_⟩
  have hl := h.lay
  obtain ⟨xs, G, q1, _⟩ := h
  have hc := cap_of_own q1
  refine ⟨hc.1, hc.2, hb, none_of_own q1, ?_, hok, hl⟩
  intro ad e _
  rcases q1.2 with ⟨e1, -⟩ | ⟨g, cap, cur, e1, -⟩
  · rw [e] at e1; simp at e1
  · rw [e] at e1; simp only [Value.slice.injEq, Option.some.injEq] at e1; rw [e1.1]

theorem CopyInv.keep {α : Type} {n : Nat} {S : Sh α n} {w1 w2 w3 : World} {v : Value} {its : List α} {H : Nat → Prop} (h : CopyInv S w1 w2 v its H) (hk : ∀ b, w1.heap.size ≤ b → b < w2.heap.size → w3.heap[b]? = w2.heap[b]?) : OwnR S w3 v its H :=
  h.1.same fun b hb => hk b (h.2.1 b hb).1 (h.2.1 b hb).2

theorem TIs.none (w : World) (n : Nat) : TIs w n .none 0 ([] : List (Tm n)) := ⟨by simp, by simp, by simp, by simp, by simp, by simp, LayR.nil _ _ _⟩

theorem obI_ok : ∀ u ∈ obI, TmOk u := by
  intro u hu
  simp only [obI, List.mem_cons, List.not_mem_nil, or_false] at hu
  rcases hu with rfl | rfl <;> exact ⟨⟨by decide, by decide⟩, by decide⟩

theorem ob_lay (w : World) : Lay w 1 (mk 0 0 ⟨#[]⟩ none 0 0 none 0 0) obZ :=
  ⟨.none, 0, .none, 0, rfl, ⟨by decide, by decide, by decide, by simp, by simp, by simp, by simp, by simp, by simp⟩, by simp, by simp, fun i s hi => by simp at hi, fun i u hi => by simp at hi⟩

theorem ob_eis (w : World) (g : Nat) (h : w.heap[g]? = some (.cells #[.string ⟨#[97]⟩, .int .i64 0, .int .u64 0, .string ⟨#[]⟩, .slice none 0 0, .slice none 0 0, .string ⟨#[98]⟩, .int .i64 0, .int .u64 0, .string ⟨#[]⟩, .slice none 0 0, .slice none 0 0] 52 (0, 0))) : EIs w 1 (some ⟨g, 0, .none⟩) 2 obE := by
  have hc : ∀ j, w.cell? ⟨g, j, .none⟩ = _ := fun j => (cell_of h j).1
  refine ⟨by decide, by decide, by decide, by simp, ?_, ?_, ?_⟩
  · intro ad e _
    cases e
    rfl
  · intro u hu
    simp only [obE, List.mem_cons, List.not_mem_nil, or_false] at hu
    rcases hu with rfl | rfl <;> (show _ ≤ _; decide)
  · intro i u hi
    match i, hi with
    | 0, hi =>
      cases hi
      refine ⟨g, 0, _, _, _, _, _, rfl, ?_, (hc _).trans rfl, (hc _).trans rfl, (hc _).trans rfl, (hc _).trans rfl, (hc _).trans rfl, ob_lay w⟩
      intro j c hj
      match j, hj with
      | 0, hj => cases hj; exact (hc _).trans rfl
      | j + 1, hj => simp [shE] at hj
    | 1, hi =>
      cases hi
      refine ⟨g, 0, _, _, _, _, _, rfl, ?_, (hc _).trans rfl, (hc _).trans rfl, (hc _).trans rfl, (hc _).trans rfl, (hc _).trans rfl, ob_lay w⟩
      intro j c hj
      match j, hj with
      | 0, hj => cases hj; exact (hc _).trans rfl
      | j + 1, hj => simp [shE] at hj
    | i + 2, hi => cases hi

set_option maxRecDepth 100000 in
set_option maxHeartbeats 6400000 in
theorem alive_any (w : World) : Calls Try.prog 13 #[] w fun e w' => e = .returned (.bool true) ∧ Below w.heap.size w w' := by
  have CA : Hid (∀ W g, EIs W 1 (some ⟨g, 0, none⟩) 2 obE → Calls Try.prog 26 #[.agg #[.int .i64 0, .slice none 0 0], .int .i64 3, .slice (some ⟨g, 0, none⟩) 2 2] W (BoxPost W (0, 3, obI))) := fun W g h => by
    have := add_any 0 3 ([] : List (Tm 1)) none 0 obE (some ⟨g, 0, none⟩) 2 W (TIs.none W 1) h
    rw [ob_add] at this
    exact this
  have CN : Hid (∀ W a c, TIs W 1 a c obI → Calls Try.prog 28 #[.agg #[.int .i64 3, .slice a 2 c], .int .i64 9] W (ListPost W (0, obI))) := fun W a c h => by
    have := next_box 3 9 obI a c W h (by decide)
    rw [ob_next] at this
    exact this
  have CK : Hid (∀ W a c, TIs W 1 a c obI → Calls Try.prog 29 #[.agg #[.int .i64 3, .slice a 2 c], .int .i64 96] W (AckPost W (0, true, 3, [((97 : Int), (⟨#[98]⟩ : ByteArray), obZ)]))) := fun W a c h => by
    have := ack_any 3 96 obI a c W h
    rw [ob_ack] at this
    exact this
  go_enter Try.func13, Try.ntmps13
  go_wp2_with fail
  refine (new_any _).mono ?_
  rintro e w1 ⟨rfl, hb1⟩
  have B1 : Hid (Below w.heap.size w w1) := hb1
  clear hb1
  go_wp2_with fail
  refine (CA.out _ w1.heap.size (ob_eis _ _ (heap_alloc_new _ _))).mono ?_
  rintro e w2 ⟨v2, H2, rfl, h2⟩
  obtain ⟨a2, c2, rfl, t2⟩ := CopyInv.tis h2 (by decide) obI_ok
  have B2 : Hid (Below w.heap.size w w2) := nxt B1.out (nxt (below_one _ _) h2.2.2)
  clear h2
  have X3 : Hid ((w2.alloc (.cells #[.int .i64 3, .slice a2 2 c2] 26)).heap[w2.heap.size]? = some (.cells #[.int .i64 3, .slice a2 2 c2] 26 (0, 0))) := heap_alloc_new _ _
  have B3 : Hid (Below w.heap.size w (w2.alloc (.cells #[.int .i64 3, .slice a2 2 c2] 26))) := nxt B2.out (below_one _ _)
  have T3 : Hid (TIs (w2.alloc (.cells #[.int .i64 3, .slice a2 2 c2] 26)) 1 a2 c2 obI) := t2.below (below_one _ _)
  have hl2 : obI.length = 2 := rfl
  rw [hl2]
  clear t2 hl2
  go_wp2_with fail
  generalize w2.alloc (.cells #[.int .i64 3, .slice a2 2 c2] 26) = w3 at *
  refine (CN.out _ _ _ T3.out).mono ?_
  rintro e w4 ⟨v4, H4, rfl, h4⟩
  obtain ⟨a4, c4, rfl, t4⟩ := CopyInv.tis h4 (by decide) obI_ok
  have B4 : Hid (Below w.heap.size w w4) := nxt B3.out h4.2.2
  have X4 : Hid (w4.heap[w2.heap.size]? = some (.cells #[.int .i64 3, .slice a2 2 c2] 26 (0, 0))) := (h4.2.2.block _ (lt_of_block X3.out)).trans X3.out
  have T4 : Hid (TIs w4 1 a2 c2 obI) := T3.out.below h4.2.2
  have H4' : Hid (CopyInv (shT 1) w3 w4 (.slice a4 obI.length c4) obI H4) := h4
  have hl2 : obI.length = 2 := rfl
  rw [hl2] at H4'
  rw [hl2]
  clear t4 h4 hl2
  obtain ⟨x0, -⟩ := cell_of X4.out 0
  obtain ⟨x1, -⟩ := cell_of X4.out 1
  simp only [List.getElem?_toArray, List.getElem?_cons_zero, List.getElem?_cons_succ] at x0 x1
  go_wp2_with fail
  refine (CK.out _ _ _ T4.out).mono ?_
  rintro e w5 ⟨v5, H5, rfl, h5⟩
  obtain ⟨a5, c5, rfl⟩ := h5.1.shape
  have B5 : Hid (Below w.heap.size w w5) := nxt B4.out h5.2.2
  have X5 : Hid (w5.heap[w2.heap.size]? = some (.cells #[.int .i64 3, .slice a2 2 c2] 26 (0, 0))) := (h5.2.2.block _ (lt_of_block X4.out)).trans X4.out
  have K5 : Hid (Below w4.heap.size w4 w5) := h5.2.2
  clear h5 x0 x1
  obtain ⟨x0, z0⟩ := cell_of X5.out 0
  obtain ⟨x1, z1⟩ := cell_of X5.out 1
  simp only [List.getElem?_toArray, List.getElem?_cons_zero, List.getElem?_cons_succ] at x0 x1
  have O6 : OwnR (shT 1) ((w5.setCell ⟨w2.heap.size, 0, none⟩ (.int .i64 3)).setCell ⟨w2.heap.size, 1, none⟩ (.slice a5 1 c5)) (.slice a4 2 c4) obI H4 :=
    CopyInv.keep H4'.out fun b hb1 hb2 => (set2_other _ _ (by have := lt_of_block X3.out; omega)).trans (K5.out.block b hb2)
  obtain ⟨a6, c6, e6, t6⟩ := O6.tis (by decide) obI_ok
  simp only [Value.slice.injEq] at e6
  obtain ⟨rfl, -, rfl⟩ := e6
  obtain ⟨g, o, -, -, -, -, -, -, -, -, -, rfl, q0, -⟩ := t6.at 0 (by decide)
  obtain ⟨g', o', -, -, -, -, -, -, -, -, -, e', q1, -⟩ := t6.at 1 (by decide)
  cases e'
  simp only [obI, List.getElem_cons_zero, List.getElem_cons_succ, Nat.zero_mul, Nat.one_mul, Nat.add_zero] at q0 q1
  clear O6 t6
  go_wp2_with (go_at_call 11; refine (num_any _ _).mono ?_; rintro e w7 ⟨rfl, hw7⟩; subst w7)
  go_ret
  refine ⟨rfl, ?_⟩
  exact (B5.out.setCell (p := ⟨w2.heap.size, 0, none⟩) (by have := B2.out.size; exact this) _).setCell (p := ⟨w2.heap.size, 1, none⟩) (by have := B2.out.size; exact this) _
end Go.Proofs.Ytclmlifhhfkagaa
