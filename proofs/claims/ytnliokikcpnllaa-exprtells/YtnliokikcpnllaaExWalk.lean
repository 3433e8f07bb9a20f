/-
  The page's walk through an expression's parts, its Check and its Size.
-/
import Derived.Test.YtnliokikcpnllaaExPage
import Derived.Test.YtnliokikcpnllaaExSum
namespace Go.Proofs.Ytnliokikcpnllaa
open Go.ChangeShapes Go.WideShapes Go.ChangeAt Go.RowKit
open Fl

/-- A walk with a depth met ahead of it. -/
def deepX (d : Int) : Except Int (Nat × Int) → Except Int (Nat × Int)
  | .error e => .error e
  | .ok (c, d') => .ok (c, max d d')

theorem stM_deepX (l : Int) (p : Nd4) (c : Nat) (d d' : Int) : stM l p (c, max d d') = deepX d (stM l p (c, d')) := by
  unfold stM
  by_cases h8 : 8 < l
  · rw [if_pos h8, if_pos h8]; rfl
  · rw [if_neg h8, if_neg h8]
    by_cases h5 : 64 ≤ c
    · rw [if_pos (show 64 ≤ (c, max d d').1 from h5), if_pos (show 64 ≤ (c, d').1 from h5)]; rfl
    · rw [if_neg (show ¬ 64 ≤ (c, max d d').1 from h5), if_neg (show ¬ 64 ≤ (c, d').1 from h5)]
      by_cases hm : mayX p.1 p.2.1 p.2.2.1 p.2.2.2 = true
      · rw [if_pos hm, if_pos hm]
        have e : max l (max d d') = max d (max l d') := by omega
        show Except.ok (c + 1, max l (max d d')) = .ok (c + 1, max d (max l d'))
        rw [e]
      · rw [if_neg hm, if_neg hm]; rfl

theorem foldX_deepX {α : Type} {f : α → Nat × Int → Except Int (Nat × Int)} (hf : ∀ a c d d', f a (c, max d d') = deepX d (f a (c, d'))) :
    ∀ (l : List α) (c : Nat) (d d' : Int), foldX f l (c, max d d') = deepX d (foldX f l (c, d'))
  | [], c, d, d' => rfl
  | a :: l, c, d, d' => by
    simp only [foldX]
    rw [hf a c d d']
    cases hfa : f a (c, d') with
    | error e => rfl
    | ok s =>
      obtain ⟨c1, d1⟩ := s
      exact foldX_deepX hf l c1 d d1

theorem pre_deepX (n : Nat) : ∀ (v : X n) (l : Int) (c : Nat) (d d' : Int), pre stM n v l (c, max d d') = deepX d (pre stM n v l (c, d')) := by
  induction n with
  | zero => intro v; exact v.elim
  | succ n ih =>
    rintro ⟨k, b, t, its⟩ l c d d'
    have h := stM_deepX l (k, b, t, its.length) c d d'
    cases h1 : stM l (k, b, t, its.length) (c, d') with
    | error e =>
      rw [h1] at h
      rw [pre_err h1, pre_err h]; rfl
    | ok s =>
      obtain ⟨c1, d1⟩ := s
      rw [h1] at h
      rw [pre_ok h1, pre_ok h]
      exact foldX_deepX (fun u c d d' => ih u (l + 1) c d d') its c1 d d1

theorem foldX_err {α : Type} {f : α → Nat × Int → Except Int (Nat × Int)} {q : Int → Prop} (hf : ∀ a s e, f a s = .error e → q e) : ∀ (l : List α) (s : Nat × Int) (e : Int), foldX f l s = .error e → q e
  | [], s, e, h => by simp only [foldX] at h; cases h
  | a :: l, s, e, h => by
    simp only [foldX] at h
    cases hfa : f a s with
    | error e' => rw [hfa] at h; cases h; exact hf a s e hfa
    | ok s1 => rw [hfa] at h; exact foldX_err hf l s1 e h

theorem preX_err (n : Nat) : ∀ (v : X n) (l : Int) (s : Nat × Int) (e : Int), pre stM n v l s = .error e → e = 10 ∨ e = 3 ∨ e = 9 := by
  induction n with
  | zero => intro v; exact v.elim
  | succ n ih =>
    rintro ⟨k, b, t, its⟩ l s e h
    cases h1 : stM l (k, b, t, its.length) s with
    | error e' =>
      rw [pre_err h1] at h
      cases h
      unfold stM at h1
      split at h1
      · cases h1; exact Or.inl rfl
      · split at h1
        · cases h1; exact Or.inr (Or.inl rfl)
        · split at h1
          · cases h1
          · cases h1; exact Or.inr (Or.inr rfl)
    | ok s1 =>
      rw [pre_ok h1] at h
      exact foldX_err (q := fun e => e = 10 ∨ e = 3 ∨ e = 9) (fun u s e hu => ih u (l + 1) s e hu) its _ e h

theorem foldX_met {α : Type} {f : α → Nat × Int → Except Int (Nat × Int)} (hf : ∀ a s s', MetX s → f a s = .ok s' → MetX s') : ∀ (l : List α) (s s' : Nat × Int), MetX s → foldX f l s = .ok s' → MetX s'
  | [], s, s', hm, h => by simp only [foldX] at h; cases h; exact hm
  | a :: l, s, s', hm, h => by
    simp only [foldX] at h
    cases hfa : f a s with
    | error e' => rw [hfa] at h; cases h
    | ok s1 => rw [hfa] at h; exact foldX_met hf l s1 s' (hf a s s1 hm hfa) h

theorem preX_met (n : Nat) : ∀ (v : X n) (l : Int) (s s' : Nat × Int), MetX s → pre stM n v l s = .ok s' → MetX s' := by
  induction n with
  | zero => intro v; exact v.elim
  | succ n ih =>
    rintro ⟨k, b, t, its⟩ l s s' hm h
    obtain ⟨s1, h1, h2⟩ := pre_inv h
    exact foldX_met (fun u s s' hm hu => ih u (l + 1) s s' hm hu) its s1 s' (stM_met hm h1).1 h2

/-- What the page's walk answers. -/
def RWPostX (r : Except Int (Nat × Int)) (w : World) (e : Ending) (w' : World) : Prop :=
  Below w.heap.size w w' ∧ ((∃ (c : Nat) (d : Int), r = .ok (c, d) ∧ e = .returned (.tuple #[.int .i64 c, .int .i64 d, .int .i64 0])) ∨ (∃ (er : Int) (c : Nat) (d : Int), r = .error er ∧ e = .returned (.tuple #[.int .i64 c, .int .i64 d, .int .i64 er])))

theorem RWPostX.ok {c : Nat} {d : Int} {w w' : World} {e : Ending} (h : RWPostX (.ok (c, d)) w e w') : e = .returned (.tuple #[.int .i64 c, .int .i64 d, .int .i64 0]) ∧ Below w.heap.size w w' := by
  obtain ⟨hg, h⟩ := h
  rcases h with ⟨c', d', h1, h2⟩ | ⟨er, c', d', h1, _⟩
  · cases h1; exact ⟨h2, hg⟩
  · cases h1

theorem RWPostX.err {er : Int} {w w' : World} {e : Ending} (h : RWPostX (.error er) w e w') : ∃ (c : Nat) (d : Int), e = .returned (.tuple #[.int .i64 c, .int .i64 d, .int .i64 er]) ∧ Below w.heap.size w w' := by
  obtain ⟨hg, h⟩ := h
  rcases h with ⟨c', d', h1, _⟩ | ⟨er', c', d', h1, h2⟩
  · cases h1
  · cases h1; exact ⟨c', d', h2, hg⟩

set_option maxRecDepth 100000 in
set_option maxHeartbeats 3200000 in
theorem rwalkX_any (n : Nat) : ∀ (v : X n) (x : Value) (l : Int) (c : Nat) (w : World), LayX w n x v → c ≤ 64 → 1 ≤ l → l ≤ 9 →
    Calls Try.prog 27 #[x, .int .i64 l, .int .i64 (c : Int)] w (RWPostX (pre stM n v l (c, 0)) w) := by
  induction n with
  | zero => intro v; exact v.elim
  | succ n ih =>
    rintro ⟨k, b, t, its⟩ x l c w ⟨ia, ic, rfl, hfit, ni, his⟩ hc hl1 hl9
    have HI : Hid (LayJ w (LayX w n) ia its) := his
    have HF : Hid (FitX k b t its.length ic) := hfit
    have bi := hfit.2.2.2.2.2
    clear hfit his ni
    by_cases h8 : 8 < l
    · have HW : Hid (pre stM (n + 1) (k, b, t, its) l (c, 0) = .error 10) := pre_err (by unfold stM; rw [if_pos h8])
      go_enter Try.func27, Try.ntmps27
      go_wp2_with fail
      go_ret3
      exact ⟨below_one _ _, Or.inr ⟨10, _, _, HW.out, rfl⟩⟩
    by_cases h5 : 64 ≤ c
    · have h5' : (64 : Int) ≤ (c : Int) := by omega
      have HW : Hid (pre stM (n + 1) (k, b, t, its) l (c, 0) = .error 3) := pre_err (by unfold stM; rw [if_neg h8, if_pos (show 64 ≤ ((c, 0) : Nat × Int).1 from h5)])
      go_enter Try.func27, Try.ntmps27
      go_wp2_with fail
      go_ret3
      exact ⟨below_one _ _, Or.inr ⟨3, _, _, HW.out, rfl⟩⟩
    have h5' : (c : Int) < 64 := by omega
    cases hmay : mayX k b t its.length with
    | false =>
      have HW : Hid (pre stM (n + 1) (k, b, t, its) l (c, 0) = .error 9) := pre_err (by unfold stM; rw [if_neg h8, if_neg (show ¬ 64 ≤ ((c, 0) : Nat × Int).1 from h5), if_neg (by simp [hmay])])
      go_enter Try.func27, Try.ntmps27
      go_wp2_with (go_at_call 40; refine (rpart_may _ _ _ _ _ _ HF.out _).mono ?_; rw [hmay]; rintro e w1 ⟨rfl, hb1⟩)
      go_ret3
      exact ⟨nxt (below_one _ _) hb1, Or.inr ⟨9, _, _, HW.out, rfl⟩⟩
    | true =>
      have HW : Hid (pre stM (n + 1) (k, b, t, its) l (c, 0) = foldX (fun u s => pre stM n u (l + 1) s) its (c + 1, l)) := by
        refine pre_ok ?_
        unfold stM
        rw [if_neg h8, if_neg (show ¬ 64 ≤ ((c, 0) : Nat × Int).1 from h5), if_pos hmay]
        have e : max l 0 = l := by omega
        show Except.ok (c + 1, max l 0) = _
        rw [e]
      go_enter Try.func27, Try.ntmps27
      go_wp2_with (go_at_call 40; refine (rpart_may _ _ _ _ _ _ HF.out _).mono ?_; rw [hmay]; rintro e w1 ⟨rfl, hb1⟩)
      have B1 : Hid (Below w.heap.size w w1) := nxt (below_one _ _) hb1
      have C1 : Hid (w1.cell? ⟨w.heap.size, 3, none⟩ = some (.slice ia its.length ic)) := keepc hb1 _ _ (box4 (heap_alloc_new _ _)).2.2.2.1
      clear hb1
      go_loopw [2, 9, 10] (fun c' d' i wr => ∃ (m cc : Nat) (dd : Int), m ≤ its.length ∧ i = .int .i64 m ∧ c' = .int .i64 cc ∧ d' = .int .i64 dd ∧ Hid (foldX (fun u s => pre stM n u (l + 1) s) (its.take m) (c + 1, l) = .ok (cc, dd)) ∧ Hid (MetX (cc, dd)) ∧ Hid (Below w1.heap.size w1 wr)) (fun _ _ i _ => its.length - (intOf i).toNat)
      case atStart => exact ⟨0, c + 1, l, Nat.zero_le _, rfl, by go_num, rfl, rfl, ⟨by show c + 1 ≤ 64; omega, by show (0 : Int) ≤ l; omega, by show l ≤ 8; omega⟩, Below.refl _ _⟩
      case round =>
        obtain ⟨m, cc, dd, hm, rfl, rfl, rfl, HE, HM, HG⟩ := hrel
        have a4 := keepc HG.out _ _ C1.out
        obtain ⟨m1, m2, m3⟩ := HM.out
        simp only at m1 m2 m3
        by_cases hlt : m < its.length
        · obtain ⟨g1, o1, k1, b1, t1, ja, jl, jc, rfl, p0, p1, p2, p3, l1⟩ := (LayJ.below HI.out (nxt B1.out HG.out)).at m hlt
          have L1 : Hid (LayX wr n (mkX k1 b1 t1 ja jl jc) its[m]) := l1
          clear l1
          cases hw : pre stM n its[m] (l + 1) (cc, 0) with
          | error er =>
            have HX : Hid (pre stM n its[m] (l + 1) (cc, 0) = .error er) := hw
            have hne : (er == 0) = false := by rcases preX_err n _ _ _ _ hw with h | h | h <;> rw [h] <;> rfl
            clear hw
            go_wp2_with (go_at_call 27; refine (ih _ _ _ _ _ L1.out m1 (by omega) (by omega)).mono ?_; rw [HX.out]; intro e w2 hp2; obtain ⟨c2', d2', rfl, hg2⟩ := RWPostX.err hp2)
            go_ret3
            refine ⟨nxt (nxt B1.out HG.out) hg2, Or.inr ⟨er, _, _, ?_, rfl⟩⟩
            rw [HW.out]
            refine foldX_stop (m := m + 1) ((foldX_next hlt HE.out).trans ?_)
            have := pre_deepX n its[m] (l + 1) cc dd 0
            rw [HX.out] at this
            have e : max dd 0 = dd := by omega
            rw [e] at this
            exact this
          | ok s2 =>
            obtain ⟨c2', d2'⟩ := s2
            have HX : Hid (pre stM n its[m] (l + 1) (cc, 0) = .ok (c2', d2')) := hw
            have HY : Hid (foldX (fun u s => pre stM n u (l + 1) s) (its.take (m + 1)) (c + 1, l) = .ok (c2', max dd d2')) := by
              refine (foldX_next hlt HE.out).trans ?_
              have := pre_deepX n its[m] (l + 1) cc dd 0
              rw [hw] at this
              have e : max dd 0 = dd := by omega
              rw [e] at this
              exact this
            have HM2 : Hid (MetX (c2', max dd d2')) := by
              have h1 := preX_met n its[m] (l + 1) (cc, 0) (c2', d2') ⟨m1, by show (0 : Int) ≤ 0; omega, by show (0 : Int) ≤ 8; omega⟩ hw
              obtain ⟨h1, h2, h3⟩ := h1
              simp only at h1 h2 h3
              exact ⟨h1, by show 0 ≤ max dd d2'; omega, by show max dd d2' ≤ 8; omega⟩
            clear hw
            by_cases hd : dd < d2'
            · have e1 : max dd d2' = d2' := by omega
              rw [e1] at HY HM2
              go_wp2_with (go_at_call 27; refine (ih _ _ _ _ _ L1.out m1 (by omega) (by omega)).mono ?_; rw [HX.out]; intro e w2 hp2; obtain ⟨rfl, hg2⟩ := RWPostX.ok hp2)
              go_roundw
              case rel => exact ⟨m + 1, c2', d2', by omega, by go_num, rfl, rfl, HY.out, HM2.out, nxt HG.out hg2⟩
              case measure => simp [intOf]; omega
            · have e1 : max dd d2' = dd := by omega
              rw [e1] at HY HM2
              go_wp2_with (go_at_call 27; refine (ih _ _ _ _ _ L1.out m1 (by omega) (by omega)).mono ?_; rw [HX.out]; intro e w2 hp2; obtain ⟨rfl, hg2⟩ := RWPostX.ok hp2)
              go_roundw
              case rel => exact ⟨m + 1, c2', dd, by omega, by go_num, rfl, rfl, HY.out, HM2.out, nxt HG.out hg2⟩
              case measure => simp [intOf]; omega
        · go_wp2_with fail
          go_ret3
          exact ⟨nxt B1.out HG.out, Or.inl ⟨cc, dd, by rw [HW.out, ← foldX_all (m := m) (by omega)]; exact HE.out, rfl⟩⟩

set_option maxRecDepth 100000 in
theorem rcheckX_any (n : Nat) (v : X n) (x : Value) (w : World) (h : LayX w n x v) :
    Calls Try.prog 19 #[x] w fun e w' => e = .returned (.int .i64 (msrX (pre stM n v 1 (0, 0))).2.2) ∧ Below w.heap.size w w' := by
  obtain ⟨k, b, t, ia, il, ic, rfl⟩ := LayX.shape n h
  have HL : Hid (LayX w n (mkX k b t ia il ic) v) := h
  clear h
  cases hw : pre stM n v 1 (0, 0) with
  | error er =>
    have HX : Hid (pre stM n v 1 (((0 : Nat)), 0) = .error er) := hw
    clear hw
    go_enter Try.func19, Try.ntmps19
    go_wp2_with (go_at_call 27; refine (rwalkX_any n _ _ 1 0 _ (LayX.below n HL.out (below_one _ _)) (by omega) (by omega) (by omega)).mono ?_; rw [HX.out]; intro e w1 hp1; obtain ⟨c1, d1, rfl, hb1⟩ := RWPostX.err hp1)
    go_ret
    exact ⟨rfl, nxt (below_one _ _) hb1⟩
  | ok s =>
    obtain ⟨c, d⟩ := s
    have HX : Hid (pre stM n v 1 (((0 : Nat)), 0) = .ok (c, d)) := hw
    clear hw
    go_enter Try.func19, Try.ntmps19
    go_wp2_with (go_at_call 27; refine (rwalkX_any n _ _ 1 0 _ (LayX.below n HL.out (below_one _ _)) (by omega) (by omega) (by omega)).mono ?_; rw [HX.out]; intro e w1 hp1; obtain ⟨rfl, hb1⟩ := RWPostX.ok hp1)
    go_ret
    exact ⟨rfl, nxt (below_one _ _) hb1⟩

set_option maxRecDepth 100000 in
theorem rsizeX_any (n : Nat) (v : X n) (x : Value) (w : World) (h : LayX w n x v) :
    Calls Try.prog 12 #[x] w fun e w' => e = .returned (.tuple #[.int .i64 (msrX (pre stM n v 1 (0, 0))).1, .int .i64 (msrX (pre stM n v 1 (0, 0))).2.1, .int .i64 (msrX (pre stM n v 1 (0, 0))).2.2]) ∧ Below w.heap.size w w' := by
  obtain ⟨k, b, t, ia, il, ic, rfl⟩ := LayX.shape n h
  have HL : Hid (LayX w n (mkX k b t ia il ic) v) := h
  clear h
  cases hw : pre stM n v 1 (0, 0) with
  | error er =>
    have HX : Hid (pre stM n v 1 (((0 : Nat)), 0) = .error er) := hw
    have hne : (er == 0) = false := by rcases preX_err n _ _ _ _ hw with h | h | h <;> rw [h] <;> rfl
    clear hw
    go_enter Try.func12, Try.ntmps12
    go_wp2_with (go_at_call 27; refine (rwalkX_any n _ _ 1 0 _ (LayX.below n HL.out (below_one _ _)) (by omega) (by omega) (by omega)).mono ?_; rw [HX.out]; intro e w1 hp1; obtain ⟨c1, d1, rfl, hb1⟩ := RWPostX.err hp1)
    go_ret3
    exact ⟨rfl, nxt (below_one _ _) hb1⟩
  | ok s =>
    obtain ⟨c, d⟩ := s
    have HX : Hid (pre stM n v 1 (((0 : Nat)), 0) = .ok (c, d)) := hw
    clear hw
    go_enter Try.func12, Try.ntmps12
    go_wp2_with (go_at_call 27; refine (rwalkX_any n _ _ 1 0 _ (LayX.below n HL.out (below_one _ _)) (by omega) (by omega) (by omega)).mono ?_; rw [HX.out]; intro e w1 hp1; obtain ⟨rfl, hb1⟩ := RWPostX.ok hp1)
    go_ret3
    exact ⟨rfl, nxt (below_one _ _) hb1⟩
end Go.Proofs.Ytnliokikcpnllaa
