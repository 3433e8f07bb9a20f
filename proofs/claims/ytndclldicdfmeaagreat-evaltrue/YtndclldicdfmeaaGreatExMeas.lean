/-
  The program's count of all parts: measure, Check, Size.
-/
import Derived.Test.YtndclldicdfmeaaGreatExTake
import Derived.Defers
import Derived.Recover
import Derived.Laws.Pointers
namespace Go.Proofs.YtndclldicdfmeaaGreat.Xp
open Go.ChangeShapes Go.WideShapes Go.ChangeAt Go.RowKit Go.Deep
open Fl

attribute [local go_sem] Oper.semAt_some

/-- All but tallies. -/
def frT : Obj → Bool
  | .cells _ ty _ => !(ty == 84)
  | _ => true

/-- What the count keeps: its tally, its result's box, all that was there. -/
def MeasI (w : World) (s : Nat × Int) (W : World) : Prop :=
  TallyX W (w.heap.size + 1) s ∧ MetX s ∧ W.heap[w.heap.size]? = some (.cells #[.int .i64 0, .int .i64 0] 84 (0, 0)) ∧ Below w.heap.size w W

theorem MeasI.stay {w : World} {s : Nat × Int} {W W' : World} (h : MeasI w s W) (k : StayX (w.heap.size + 2) W W') : MeasI w s W' :=
  ⟨k.kp _ _ _ _ h.1, h.2.1, k.kp _ _ _ _ h.2.2.1, ⟨k.os.trans h.2.2.2.os, k.tape.trans h.2.2.2.tape, k.output.trans h.2.2.2.output, Nat.le_trans h.2.2.2.size k.size, fun j hj => (k.old j (by omega)).trans (h.2.2.2.block j hj)⟩⟩

/-- What the count leaves. -/
def MeasPost (r : Except Int (Nat × Int)) (w : World) (e : Ending) (w' : World) : Prop :=
  Below w.heap.size w w' ∧ ((∃ s, r = .ok s ∧ e = .returned (.agg #[.int .i64 (s.1 : Int), .int .i64 s.2])) ∨ (∃ er, r = .error er ∧ e = panX er))

theorem below_put {w W : World} {D : Nat} {o : Obj} (h : Below w.heap.size w W) (hD : w.heap.size ≤ D) : Below w.heap.size w (W.putObj D o) :=
  ⟨h.os, h.tape, h.output, by have := h.size; simp [World.putObj]; omega, fun j hj => (World.putObj_heap_other (by omega)).trans (h.block j hj)⟩

theorem MeasI.take {w W W' : World} {s s' : Nat × Int} (h : MeasI w s W) (hg : W.grownBy W' (some (w.heap.size + 1))) (ht : TallyX W' (w.heap.size + 1) s') (hm : MetX s') : MeasI w s' W' := by
  have := lt_of_block h.2.2.1
  refine ⟨ht, hm, (hg.block _ this (by simp)).trans h.2.2.1, ⟨hg.os.trans h.2.2.2.os, hg.tape.trans h.2.2.2.tape, hg.output.trans h.2.2.2.output, Nat.le_trans h.2.2.2.size hg.size, fun j hj => ?_⟩⟩
  exact (hg.block j (by have := h.2.2.2.size; omega) (by simp; omega)).trans (h.2.2.2.block j hj)

theorem two_set {W : World} {q : Nat} {x y : Value} {t : TypeId} (h : W.heap[q]? = some (.cells #[x, y] t (0, 0))) (u v : Value) : ((W.setCell ⟨q, 0, none⟩ u).setCell ⟨q, 1, none⟩ v).heap[q]? = some (.cells #[u, v] t (0, 0)) := by
  simp [World.setCell, Array.getElem?_modify, h]

theorem MeasI.grown {w W W' : World} {s : Nat × Int} (h : MeasI w s W) (hg : W.grownBy W' (some (w.heap.size + 1))) : Below w.heap.size w W' :=
  ⟨hg.os.trans h.2.2.2.os, hg.tape.trans h.2.2.2.tape, hg.output.trans h.2.2.2.output, Nat.le_trans h.2.2.2.size hg.size, fun j hj => (hg.block j (by have := h.2.2.2.size; omega) (by simp; omega)).trans (h.2.2.2.block j hj)⟩

theorem KpX.grownT {W W' : World} {p : Nat} {s : Nat × Int} (h : TallyX W p s) (hg : W.grownBy W' (some p)) : KpX frT W W' := by
  intro j o hf hj
  by_cases e : j = p
  · subst e
    unfold TallyX at h
    rw [h] at hj
    cases hj
    simp [frT] at hf
  · exact (hg.block j (lt_of_block hj) (fun h => e (Option.some.inj h))).trans hj

set_option maxRecDepth 100000 in
set_option maxHeartbeats 3200000 in
theorem measure1_any (n : Nat) (v : X n) (k b : Int) (t : ByteArray) (ia : Option Addr) (il ic : Nat) (Pt : Nat) (w : World) (hp : w.heap[Pt]? = some (.cells #[.int .i64 k, .int .u64 b, .string t, .slice ia il ic] 34 (0, 0))) (hl : LayX w n (mkX k b t ia il ic) v) :
    Calls Tryz.prog 66 #[.pointer (some ⟨Pt, 0, none⟩)] w (MeasPost (pre stM n v 1 (0, 0)) w) := by
  have HL : Hid (LayX w n (mkX k b t ia il ic) v) := hl
  have HP : Hid (w.heap[Pt]? = some (.cells #[.int .i64 k, .int .u64 b, .string t, .slice ia il ic] 34 (0, 0))) := hp
  clear hl hp
  obtain ⟨Z, hZ⟩ : ∃ Z : Obj, Z = .cells #[.int .i64 0, .int .i64 0] 84 (0, 0) := ⟨_, rfl⟩
  have HB2 : Hid (Below w.heap.size w ((w.alloc (.cells #[.int .i64 0, .int .i64 0] 84)).alloc (.cells #[.int .i64 0, .int .i64 0] 84))) := nxt (below_one _ _) (below_one _ _)
  have HP2 : Hid (((w.alloc (.cells #[.int .i64 0, .int .i64 0] 84)).alloc (.cells #[.int .i64 0, .int .i64 0] 84)).heap[Pt]? = some (.cells #[.int .i64 k, .int .u64 b, .string t, .slice ia il ic] 34 (0, 0))) := (HB2.out.block _ (lt_of_block HP.out)).trans HP.out
  obtain ⟨x0, x1, x2, x3, -⟩ := box4 HP2.out
  refine calls_of_wpAt (n := 9) Tryz.func66 rfl ?_
  simp only [Tryz.ntmps66, List.size_toArray, List.length_cons, List.length_nil, Nat.reduceAdd, Nat.reduceSub, Array.replicate_succ, Array.replicate_zero, List.push_toArray, List.append_toArray, List.nil_append, List.cons_append]
  refine wpAt_seq (wpAt_of (n := 9) ?_)
  gi_wp2
  refine wpAt_seq (wpAt_of (n := 9) ?_)
  gi_wp2
  refine wpAt_seq (wpAt_seq (wpAt_of (n := 9) ?_))
  gi_wp2
  refine ⟨trivial, (callsIn_wide.2 (parts_fn k b t ia il ic _)).mono ?_⟩
  rintro e w3 ⟨rfl, hw3⟩
  have hsz2 : ((w.alloc (.cells #[.int .i64 0, .int .i64 0] 84)).alloc (.cells #[.int .i64 0, .int .i64 0] 84)).heap.size = w.heap.size + 2 := by simp
  have HR2 : Hid (((w.alloc (.cells #[.int .i64 0, .int .i64 0] 84)).alloc (.cells #[.int .i64 0, .int .i64 0] 84)).heap[w.heap.size]? = some (.cells #[.int .i64 0, .int .i64 0] 84 (0, 0))) := (Below.heap_alloc _ _ _ (by simp)).trans (heap_alloc_new _ _)
  have HT2 : Hid (((w.alloc (.cells #[.int .i64 0, .int .i64 0] 84)).alloc (.cells #[.int .i64 0, .int .i64 0] 84)).heap[w.heap.size + 1]? = some (.cells #[.int .i64 0, .int .i64 0] 84 (0, 0))) := heap_new2 _ _ _
  rw [hsz2]
  generalize (w.alloc (.cells #[.int .i64 0, .int .i64 0] 84)).alloc (.cells #[.int .i64 0, .int .i64 0] 84) = w2 at *
  have HB : Hid (Below w2.heap.size w2 w3) := by
    show Below _ _ _
    rw [hw3]
    exact below_one _ _
  have H3 : Hid (MeasI w (0, 0) w3) := by
    have hb := HB.out
    exact ⟨(hb.block _ (lt_of_block HT2.out)).trans HT2.out, ⟨by decide, by decide, by decide⟩, (hb.block _ (lt_of_block HR2.out)).trans HR2.out, nxt HB2.out hb⟩
  have HP3 : Hid (w3.heap[w.heap.size + 2]? = some (.cells #[.int .i64 k, .int .u64 b, .string t, .slice ia il ic] 34 (0, 0))) := by
    show _ = _
    rw [hw3, ← hsz2]
    exact heap_alloc_new _ _
  have hsz3 : w3.heap.size = w.heap.size + 3 := by rw [hw3]; simp [hsz2]
  clear hw3 x0 x1 x2 x3 HB2 HP2 HR2 HT2 HB
  gi_wp2
  refine wpAt_block ?_
  refine range_hand (fn0 := Tryz.f66) (fr := frT) (by intro cs; rfl) (by intro r; rfl) (by intro d; rfl) Tryz.func66 rfl (w.heap.size + 2) rfl w n v k b t ia il ic HL.out HP3.out stM true
    stM_deep (MeasI w) (fun W => Below w.heap.size w W) (0, 0) (w.heap.size + 2) (by omega) (fun s W W' h k => h.stay k) (fun s W h => h.2.2.2) H3.out (fun h => by cases h)
    (fun d k' b' t' ia' il' ic' q => { tmps := #[.pointer (some ⟨Pt, 0, none⟩), .pointer (some ⟨w.heap.size, 0, none⟩), .pointer (some ⟨w.heap.size + 1, 0, none⟩), .int .i64 d, .pointer (some ⟨q, 0, none⟩), mkX k b t ia il ic, .func (.func 102) #[] #[.pointer (some ⟨w.heap.size + 2, 0, none⟩)], .int .i64 d, mkX k' b' t' ia' il' ic', undef, undef, undef, undef], defers := [] }) ?hassign ?hbody ?hdone ?hpan
  case hassign =>
    intro rl d k' b' t' ia' il' ic' W K hK
    gi_wp2
    exact hK
  case hbody =>
    intro rl s d m k' b' t' its ia' ic' q W hI hk hs hl hq hqs hce
    obtain ⟨c, dp⟩ := s
    obtain ⟨x0, x1, x2, x3, -⟩ := box4 hq
    obtain ⟨ja, jc, ex, hfit, -⟩ := hl
    simp only [mkX, Value.agg.injEq, Array.mk.injEq, List.cons.injEq, and_true, Value.slice.injEq, true_and] at ex
    obtain ⟨rfl, rfl⟩ := ex
    have HI : Hid (MeasI w (c, dp) W) := hI
    have HM : Hid (∀ s', stM d (k', b', t', its.length) (c, dp) = .ok s' → MetX s') := fun s' h => (stM_met hI.2.1 h).1
    have CC : Hid (Calls Tryz.prog 68 #[.pointer (some ⟨w.heap.size + 1, 0, none⟩), mkX k' b' t' ia' its.length ic', .int .i64 d] W (TakePost (stM d (k', b', t', its.length) (c, dp)) (w.heap.size + 1) W)) := takeX_any _ _ _ _ _ _ hfit d c dp _ W hI.1 hI.2.1
    clear hI hk hq hce hfit
    cases hr : stM d (k', b', t', its.length) (c, dp) with
    | ok s' =>
      rw [hr] at CC HM
      clear hr
      gi_wp2
      refine ⟨trivial, (callsIn_wide.2 CC.out).mono ?_⟩
      rintro e W' ⟨hg, hp⟩
      rcases hp with ⟨s2, h2, rfl, ht⟩ | ⟨er, s2, h2, -⟩
      · cases h2
        have HO : Hid (MeasI w s' W') := HI.out.take hg ht (HM.out _ rfl)
        have HK : Hid (KpX frT W W' ∧ W.heap.size ≤ W'.heap.size) := ⟨KpX.grownT HI.out.1 hg, hg.size⟩
        clear hg ht
        gi_wp2
        exact ⟨HK.out.1, HK.out.2, s', rfl, HO.out⟩
      · cases h2
    | error er =>
      rw [hr] at CC
      clear hr
      gi_wp2
      refine ⟨trivial, (callsIn_wide.2 CC.out).mono ?_⟩
      rintro e W' ⟨hg, hp⟩
      rcases hp with ⟨s2, h2, -⟩ | ⟨er', s2, h2, rfl, ht⟩
      · cases h2
      · cases h2
        exact ⟨rfl, KpX.grownT HI.out.1 hg, hg.size, er, rfl, rfl, HI.out.grown hg⟩
  case hdone =>
    intro W s' hr hI hd hk hs
    have HI : Hid (MeasI w s' W) := hI
    have HD : Hid (W.heap[w3.heap.size]? = some (.deferred (some []))) := hd
    have HR : Hid (pre stM n v 1 (0, 0) = .ok s') := hr
    obtain ⟨y0, y1, -⟩ := hI.1.cells
    obtain ⟨z0, zf0⟩ := cell_of hI.2.2.1 0
    obtain ⟨z1, zf1⟩ := cell_of hI.2.2.1 1
    simp at z0 z1
    clear hI hd hk hr
    refine wpAt_of (n := 9) ?_
    gi_wp2
    have t1 := two_set HI.out.2.2.1 (.int .i64 (s'.1 : Int)) (.int .i64 s'.2)
    have b1 : Below w.heap.size w ((W.setCell ⟨w.heap.size, 0, none⟩ (.int .i64 (s'.1 : Int))).setCell ⟨w.heap.size, 1, none⟩ (.int .i64 s'.2)) := (HI.out.2.2.2.setCell (Nat.le_refl _) _).setCell (Nat.le_refl _) _
    have hd1 : ((W.setCell ⟨w.heap.size, 0, none⟩ (.int .i64 (s'.1 : Int))).setCell ⟨w.heap.size, 1, none⟩ (.int .i64 s'.2)).heap[w.heap.size + 3]? = some (.deferred (some [])) := by
      rw [Below.heap_setCell _ _ _ _ (show w.heap.size + 3 ≠ w.heap.size by omega), Below.heap_setCell _ _ _ _ (show w.heap.size + 3 ≠ w.heap.size by omega), ← hsz3]
      exact HD.out
    generalize (W.setCell ⟨w.heap.size, 0, none⟩ (.int .i64 (s'.1 : Int))).setCell ⟨w.heap.size, 1, none⟩ (.int .i64 s'.2) = W5 at *
    refine leaves_one (by simp) hd1 ?_
    have t2 : (W5.putObj (w.heap.size + 3) (.deferred none)).heap[w.heap.size]? = _ := (World.putObj_heap_other (by omega)).trans t1
    obtain ⟨v0, -⟩ := cell_of t2 0
    obtain ⟨v1, -⟩ := cell_of t2 1
    simp at v0 v1
    exact ⟨.agg #[.int .i64 (s'.1 : Int), .int .i64 s'.2], by simp [results, Tryz.results66, go_sem, v0, v1], below_put b1 (by omega), Or.inl ⟨s', HR.out, rfl⟩⟩
  case hpan =>
    intro W er hr hI hd hk hs
    refine leaves_one (by simp) hd ?_
    exact ⟨below_put hI (by omega), Or.inr ⟨er, hr, rfl⟩⟩

end Go.Proofs.YtndclldicdfmeaaGreat.Xp
