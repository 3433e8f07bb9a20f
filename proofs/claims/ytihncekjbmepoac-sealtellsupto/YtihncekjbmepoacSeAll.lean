/-
  Frames that lie in a row; sameAll; frames put one behind the other, and cut off, as mathematics.
-/
import Derived.Test.YtihncekjbmepoacSeScan
namespace Go.Proofs.Ytihncekjbmepoac
open Go.ChangeShapes Go.WideShapes Go.ChangeAt Go.RowKit Go.Deep
open Se

/-- Frames that lie in a row. -/
def LayF (w : World) (a : Option Addr) (fs : List (Int × List UInt8)) : Prop :=
  ∀ i f, fs[i]? = some f → ∃ g off a' c', a = some ⟨g, off, none⟩ ∧ w.cell? ⟨g, off + i * 2, none⟩ = some (.int .i64 f.1) ∧ w.cell? ⟨g, off + i * 2 + 1, none⟩ = some (.slice a' f.2.length c') ∧ LayB w a' f.2
theorem LayF.below {w w' : World} {a : Option Addr} {fs : List (Int × List UInt8)} (h : LayF w a fs) (hb : Below w.heap.size w w') : LayF w' a fs := by
  intro i f hi
  obtain ⟨g, off, a', c', h1, h2, h3, h4⟩ := h i f hi
  exact ⟨g, off, a', c', h1, keepc hb _ _ h2, keepc hb _ _ h3, h4.below hb⟩
theorem LayF.take {w : World} {a : Option Addr} {fs : List (Int × List UInt8)} (h : LayF w a fs) (k : Nat) : LayF w a (fs.take k) := by
  intro i f hi
  rw [List.getElem?_take] at hi
  split at hi
  · exact h i f hi
  · cases hi

/-- A row of frames of one's own lies somewhere. -/
theorem layF_own {w : World} {B : Nat} {t : TypeId} {a : Option Addr} {n c : Nat} {fs : List (Int × List UInt8)} {xs : List Value} (hr : w.ownsRow B t 2 (.slice a n c) fs.length xs)
    (hi : ∀ j f, fs[j]? = some f → ∃ a c, xs[2 * j]? = some (.int .i64 f.1) ∧ xs[2 * j + 1]? = some (.slice a f.2.length c) ∧ LayB w a f.2) : LayF w a fs := by
  intro j f hj
  obtain ⟨a', c', h1, h2, h3⟩ := hi j f hj
  have hlt : j < fs.length := (List.getElem?_eq_some_iff.1 hj).1
  obtain ⟨l0, hc⟩ := hr
  rcases hc with ⟨h4, h5⟩ | ⟨g, cap, cur, h4, h5, h6⟩
  · omega
  · have hown : w.ownsRow B t 2 (.slice a n c) fs.length xs := ⟨l0, Or.inr ⟨g, cap, cur, h4, h5, h6⟩⟩
    simp only [Value.slice.injEq] at h4
    obtain ⟨rfl, rfl, rfl⟩ := h4
    have e1 := hown.cells (g := g) rfl _ _ h1
    have e2 := hown.cells (g := g) rfl _ _ h2
    rw [add_plain] at e1 e2
    refine ⟨g, 0, a', c', rfl, ?_, ?_, h3⟩
    · rw [Nat.mul_comm]; exact e1
    · rw [Nat.mul_comm]; exact e2

set_option maxRecDepth 100000 in
set_option maxHeartbeats 1600000 in
theorem sameAll_any (fs gs : List (Int × List UInt8)) (a b : Option Addr) (c d : Nat) (w : World) (hl : LayF w a fs) (hm : LayF w b gs) (hn : fs.length ≤ 200000000000000) :
    Calls Try.prog 19 #[.slice a fs.length c, .slice b gs.length d] w fun e w' => e = .returned (.bool (decide (fs = gs))) ∧ Below w.heap.size w w' := by
  have HL : Hid (LayF w a fs) := hl
  have HM : Hid (LayF w b gs) := hm
  clear hl hm
  by_cases hne : fs.length = gs.length
  · have hne' : ((fs.length : Int) != (gs.length : Int)) = false := by simp [hne]
    go_enter Try.func19, Try.ntmps19
    go_wp2_with fail
    go_loopw [5] (fun i wr => ∃ m : Nat, m ≤ fs.length ∧ i = .int .i64 m ∧ Hid (fs.take m = gs.take m) ∧ Hid (Below w.heap.size w wr)) (fun i _ => fs.length - (intOf i).toNat)
    case atStart => exact ⟨0, by omega, rfl, by show _ = _; simp, Below.refl _ _⟩
    case round =>
      obtain ⟨m, hm, rfl, HT, HB⟩ := hrel
      by_cases hlt : m < fs.length
      · have hm1 : (m : Int) < fs.length := by omega
        obtain ⟨⟨k, da⟩, hf⟩ : ∃ f, fs[m]? = some f := ⟨_, List.getElem?_eq_getElem hlt⟩
        obtain ⟨⟨k', db⟩, hg⟩ : ∃ f, gs[m]? = some f := ⟨_, List.getElem?_eq_getElem (by omega)⟩
        obtain ⟨g, off, a1, c1, rfl, p0, p1, p2⟩ := (HL.out.below HB.out) m _ hf
        obtain ⟨g', off', a2, c2, rfl, q0, q1, q2⟩ := (HM.out.below HB.out) m _ hg
        simp only at p0 p1 p2 q0 q1 q2
        have inst : Nonempty (Cls wr) := ⟨⟨wr, Below.refl _ _⟩⟩
        have P0 : ∀ s : Cls wr, s.1.cell? ⟨g, off + m * 2, none⟩ = some (.int .i64 k) := fun s => Cls.cell p0 s
        have P1 : ∀ s : Cls wr, s.1.cell? ⟨g, off + m * 2 + 1, none⟩ = some (.slice a1 da.length c1) := fun s => Cls.cell p1 s
        have Q0 : ∀ s : Cls wr, s.1.cell? ⟨g', off' + m * 2, none⟩ = some (.int .i64 k') := fun s => Cls.cell q0 s
        have Q1 : ∀ s : Cls wr, s.1.cell? ⟨g', off' + m * 2 + 1, none⟩ = some (.slice a2 db.length c2) := fun s => Cls.cell q1 s
        have D1 : Hid (∀ s : Cls wr, Calls Try.prog 18 #[.agg #[.int .i64 k, .slice a1 da.length c1], .agg #[.int .i64 k', .slice a2 db.length c2]] s.1 fun e w' => e = .returned (.bool (k == k' && da == db)) ∧ Below s.1.heap.size s.1 w') := fun s => same_any k k' a1 a2 c1 c2 da db s.1 (p2.below s.2) (q2.below s.2)
        have HE : Hid ((k == k' && da == db) = decide ((k, da) = (k', db))) := by
          show _ = _
          by_cases h1 : k = k' <;> by_cases h2 : da = db <;> simp [h1, h2]
        have HTF : Hid (fs.take (m + 1) = fs.take m ++ [(k, da)] ∧ gs.take (m + 1) = gs.take m ++ [(k', db)]) := by
          show _ ∧ _
          rw [List.take_succ_eq_append_getElem hlt, List.take_succ_eq_append_getElem (show m < gs.length by omega)]
          rw [List.getElem?_eq_getElem hlt] at hf
          rw [List.getElem?_eq_getElem (show m < gs.length by omega)] at hg
          simp only [Option.some.injEq] at hf hg
          rw [hf, hg]
          exact ⟨rfl, rfl⟩
        clear p0 p1 p2 q0 q1 q2 hf hg
        cases hbb : (k == k' && da == db) with
        | true =>
          have hD2 := D1.out
          rw [hbb] at hD2
          have D2 : Hid (∀ s : Cls wr, Calls Try.prog 18 #[.agg #[.int .i64 k, .slice a1 da.length c1], .agg #[.int .i64 k', .slice a2 db.length c2]] s.1 fun e w' => e = .returned (.bool true) ∧ Below s.1.heap.size s.1 w') := hD2
          have HQ : Hid ((k, da) = (k', db)) := by
            show (k, da) = (k', db)
            have := HE.out
            rw [hbb] at this
            exact of_decide_eq_true this.symm
          clear D1 hD2 hbb HE
          go_wp2_with fail
          refine wp_region_cls (by kernel_rfl) (by kernel_rfl) ?_
          repeat (go_big_quiet_step (first | (go_at_call 18; exact Calls.cls (D2.out _))))
          refine wpQuiet_nil ?_
          intro _ hw'
          obtain ⟨s, hw''⟩ := hw'
          subst hw''
          have HB2 : Hid (Below w.heap.size w s.1) := nxt HB.out s.2
          clear P0 P1 Q0 Q1 D2 inst
          generalize s.1 = W2 at *
          go_wp2_with fail
          refine ⟨⟨m + 1, by omega, by go_num, ?_, HB2.out⟩, by simp [intOf]; omega⟩
          show _ = _
          rw [HTF.out.1, HTF.out.2, HT.out, HQ.out]
        | false =>
          have hD2 := D1.out
          rw [hbb] at hD2
          have D2 : Hid (∀ s : Cls wr, Calls Try.prog 18 #[.agg #[.int .i64 k, .slice a1 da.length c1], .agg #[.int .i64 k', .slice a2 db.length c2]] s.1 fun e w' => e = .returned (.bool false) ∧ Below s.1.heap.size s.1 w') := hD2
          have HQ : Hid (¬ fs = gs) := by
            have h1 := HE.out
            rw [hbb] at h1
            have h2 := of_decide_eq_false h1.symm
            intro e
            subst e
            have := HTF.out.1.symm.trans HTF.out.2
            simp only [List.append_cancel_left_eq, List.cons.injEq, and_true] at this
            exact h2 this
          clear D1 hD2 hbb HE
          go_wp2_with fail
          refine wp_region_cls (by kernel_rfl) (by kernel_rfl) ?_
          repeat (go_big_quiet_step (first | (go_at_call 18; exact Calls.cls (D2.out _))))
          refine wpQuiet_nil ?_
          intro _ hw'
          obtain ⟨s, hw''⟩ := hw'
          subst hw''
          have HB2 : Hid (Below w.heap.size w s.1) := nxt HB.out s.2
          clear P0 P1 Q0 Q1 D2 inst
          generalize s.1 = W2 at *
          go_wp2_with fail
          go_ret
          exact ⟨by rw [decide_eq_false HQ.out]; rfl, HB2.out⟩
      · have hme : m = fs.length := by omega
        subst hme
        go_wp2_with fail
        go_ret
        refine ⟨?_, HB.out⟩
        have h1 := HT.out
        rw [List.take_of_length_le (Nat.le_refl _), List.take_of_length_le (by omega)] at h1
        rw [decide_eq_true h1]
        rfl
  · have hne' : ((fs.length : Int) != (gs.length : Int)) = true := by simp; omega
    have HQ : Hid (¬ fs = gs) := fun e => hne (by rw [e])
    go_enter Try.func19, Try.ntmps19
    go_wp2_with fail
    go_ret
    exact ⟨by rw [decide_eq_false HQ.out]; rfl, Below.refl _ _⟩
end Go.Proofs.Ytihncekjbmepoac
