/-
  The page's walk through a value's parts, its Check and its Size.
-/
import Derived.Test.YtndclldicdfmeaaGreatVaSmall
import Derived.Test.YtndclldicdfmeaaGreatVaRefPart
namespace Go.Proofs.YtndclldicdfmeaaGreat
open Go.ChangeShapes Go.WideShapes Go.ChangeAt Go.RowKit
open Fl

/-- A walk with a depth met ahead of it. -/
def deeper (d : Int) : Except Int (Nat × Int) → Except Int (Nat × Int)
  | .error e => .error e
  | .ok (c, d') => .ok (c, max d d')

theorem foldE_deeper {α : Type} {f : α → Nat × Int → Except Int (Nat × Int)} {p : Nat × Int → Prop} (hf : ∀ a c d d', 0 ≤ d → 0 ≤ d' → f a (c, max d d') = deeper d (f a (c, d'))) (hp : ∀ a c d c' d', 0 ≤ d → f a (c, d) = .ok (c', d') → 0 ≤ d') :
    ∀ (l : List α) (c : Nat) (d d' : Int), 0 ≤ d → 0 ≤ d' → foldE f l (c, max d d') = deeper d (foldE f l (c, d'))
  | [], c, d, d', _, _ => rfl
  | a :: l, c, d, d', h, h' => by
    simp only [foldE]
    rw [hf a c d d' h h']
    cases hfa : f a (c, d') with
    | error e => rfl
    | ok s =>
      obtain ⟨c1, d1⟩ := s
      exact foldE_deeper (p := p) hf hp l c1 d d1 h (hp a c d' c1 d1 h' hfa)

theorem wk_pos (n : Nat) : ∀ (v : V n) (l : Int) (c : Nat) (d : Int) (c' : Nat) (d' : Int), 0 ≤ l → 0 ≤ d → wk n v l (c, d) = .ok (c', d') → 0 ≤ d' := by
  induction n with
  | zero => intro v; exact v.elim
  | succ n ih =>
    rintro ⟨k, b, t, ks, its⟩ l c d c' d' hl hd h
    simp only [wk] at h
    split at h
    · cases h
    · split at h
      · cases h
      · split at h
        · exact foldE_keeps (p := fun s => 0 ≤ s.2) (fun u s s' hs hu => ih u (l + 1) s.1 s.2 s'.1 s'.2 (by omega) hs hu) its _ (c', d') (by simp only; omega) h
        · cases h

theorem wk_deeper (n : Nat) : ∀ (v : V n) (l : Int) (c : Nat) (d d' : Int), 0 ≤ l → 0 ≤ d → 0 ≤ d' → wk n v l (c, max d d') = deeper d (wk n v l (c, d')) := by
  induction n with
  | zero => intro v; exact v.elim
  | succ n ih =>
    rintro ⟨k, b, t, ks, its⟩ l c d d' hl hd hd'
    simp only [wk]
    split
    · rfl
    · split
      · rfl
      · split
        · have e : max (max d d') l = max d (max d' l) := by omega
          rw [e]
          exact foldE_deeper (p := fun _ => True) (fun u c d d' h h' => ih u (l + 1) c d d' (by omega) h h') (fun u c d c' d' h hu => wk_pos n u (l + 1) c d c' d' (by omega) h hu) its (c + 1) d (max d' l) hd (by omega)
        · rfl

theorem foldE_err {α S : Type} {f : α → S → Except Int S} {q : Int → Prop} (hf : ∀ a s e, f a s = .error e → q e) : ∀ (l : List α) (s : S) (e : Int), foldE f l s = .error e → q e
  | [], s, e, h => by simp [foldE] at h
  | a :: l, s, e, h => by
    simp only [foldE] at h
    cases hfa : f a s with
    | error e' => rw [hfa] at h; cases h; exact hf a s e hfa
    | ok s1 => rw [hfa] at h; exact foldE_err hf l s1 e h

theorem wk_err (n : Nat) : ∀ (v : V n) (l : Int) (s : Nat × Int) (e : Int), wk n v l s = .error e → e = 10 ∨ e = 3 ∨ e = 9 := by
  induction n with
  | zero => intro v; exact v.elim
  | succ n ih =>
    rintro ⟨k, b, t, ks, its⟩ l ⟨c, d⟩ e h
    simp only [wk] at h
    split at h
    · cases h; exact Or.inl rfl
    · split at h
      · cases h; exact Or.inr (Or.inl rfl)
      · split at h
        · exact foldE_err (q := fun e => e = 10 ∨ e = 3 ∨ e = 9) (fun u s e hu => ih u (l + 1) s e hu) its _ e h
        · cases h; exact Or.inr (Or.inr rfl)

/-- What the page's walk answers. -/
def RWPost (r : Except Int (Nat × Int)) (w : World) (e : Ending) (w' : World) : Prop :=
  Below w.heap.size w w' ∧ ((∃ (c : Nat) (d : Int), r = .ok (c, d) ∧ e = .returned (.tuple #[.int .i64 c, .int .i64 d, .int .i64 0])) ∨ (∃ (er : Int) (c : Nat) (d : Int), r = .error er ∧ e = .returned (.tuple #[.int .i64 c, .int .i64 d, .int .i64 er])))

theorem RWPost.ok {c : Nat} {d : Int} {w w' : World} {e : Ending} (h : RWPost (.ok (c, d)) w e w') : e = .returned (.tuple #[.int .i64 c, .int .i64 d, .int .i64 0]) ∧ Below w.heap.size w w' := by
  obtain ⟨hg, h⟩ := h
  rcases h with ⟨c', d', h1, h2⟩ | ⟨er, c', d', h1, _⟩
  · cases h1; exact ⟨h2, hg⟩
  · cases h1

theorem RWPost.err {er : Int} {w w' : World} {e : Ending} (h : RWPost (.error er) w e w') : ∃ (c : Nat) (d : Int), e = .returned (.tuple #[.int .i64 c, .int .i64 d, .int .i64 er]) ∧ Below w.heap.size w w' := by
  obtain ⟨hg, h⟩ := h
  rcases h with ⟨c', d', h1, _⟩ | ⟨er', c', d', h1, h2⟩
  · cases h1
  · cases h1; exact ⟨c', d', h2, hg⟩

theorem box4 (w : World) (a0 a1 a2 a3 a4 : Value) (t : TypeId) : (w.alloc (.cells #[a0, a1, a2, a3, a4] t)).cell? ⟨w.heap.size, 4, none⟩ = some a4 := by
  simp only [World.cell?, heap_alloc_new]
  rfl

set_option maxRecDepth 100000 in
set_option maxHeartbeats 3200000 in
theorem rwalk_any (n : Nat) : ∀ (v : V n) (x : Value) (l : Int) (c : Nat) (w : World), Lay w n x v → c ≤ 512 → 1 ≤ l → l ≤ 9 →
    Calls Tryz.prog 32 #[x, .int .i64 l, .int .i64 (c : Int)] w (RWPost (wk n v l (c, 0)) w) := by
  induction n with
  | zero => intro v; exact v.elim
  | succ n ih =>
    rintro ⟨k, b, t, ks, its⟩ x l c w ⟨ka, kc, ia, ic, rfl, hfit, nk, ni, hks, his⟩ hc hl1 hl9
    have HS : Hid (LayS w ka ks) := hks
    have HI : Hid (LayI w (Lay w n) ia its) := his
    have HF : Hid (Fit k b t ks.length kc its.length ic) := hfit
    obtain ⟨-, -, -, -, -, -, -, -, bi⟩ := hfit
    clear hks his nk ni
    by_cases h8 : 8 < l
    · have HW : Hid (wk (n + 1) (k, b, t, ks, its) l (c, 0) = .error 10) := by show _ = _; simp only [wk]; rw [if_pos h8]
      go_enter Tryz.func32, Tryz.ntmps32
      go_wp2_with fail
      go_ret3
      exact ⟨below_one _ _, Or.inr ⟨10, _, _, HW.out, rfl⟩⟩
    by_cases h5 : 512 ≤ c
    · have h5' : (512 : Int) ≤ (c : Int) := by omega
      have HW : Hid (wk (n + 1) (k, b, t, ks, its) l (c, 0) = .error 3) := by show _ = _; simp only [wk]; rw [if_neg h8, if_pos h5]
      go_enter Tryz.func32, Tryz.ntmps32
      go_wp2_with fail
      go_ret3
      exact ⟨below_one _ _, Or.inr ⟨3, _, _, HW.out, rfl⟩⟩
    have h5' : (c : Int) < 512 := by omega
    cases hmay : mayB k b t ks its.length with
    | false =>
      have HW : Hid (wk (n + 1) (k, b, t, ks, its) l (c, 0) = .error 9) := by show _ = _; simp only [wk]; rw [if_neg h8, if_neg h5, if_neg (by simp [hmay])]
      go_enter Tryz.func32, Tryz.ntmps32
      go_wp2_with (go_at_call 41; refine (rpart_any _ _ _ _ _ _ _ _ _ _ (LayS.below HS.out (below_one _ _)) HF.out).mono ?_; rw [hmay]; rintro e w1 ⟨rfl, hb1⟩)
      go_ret3
      exact ⟨nxt (below_one _ _) hb1, Or.inr ⟨9, _, _, HW.out, rfl⟩⟩
    | true =>
      have HW : Hid (wk (n + 1) (k, b, t, ks, its) l (c, 0) = foldE (fun u s => wk n u (l + 1) s) its (c + 1, l)) := by
        show _ = _
        simp only [wk]
        rw [if_neg h8, if_neg h5, if_pos hmay]
        have e : max 0 l = l := by omega
        rw [e]
      go_enter Tryz.func32, Tryz.ntmps32
      go_wp2_with (go_at_call 41; refine (rpart_any _ _ _ _ _ _ _ _ _ _ (LayS.below HS.out (below_one _ _)) HF.out).mono ?_; rw [hmay]; rintro e w1 ⟨rfl, hb1⟩)
      have B1 : Hid (Below w.heap.size w w1) := nxt (below_one _ _) hb1
      have C1 : Hid (w1.cell? ⟨w.heap.size, 4, none⟩ = some (.slice ia its.length ic)) := keepc hb1 _ _ (box4 _ _ _ _ _ _ _)
      clear hb1
      go_loopw [2, 9, 10] (fun c' d' i wr => ∃ (m cc : Nat) (dd : Int), m ≤ its.length ∧ i = .int .i64 m ∧ c' = .int .i64 cc ∧ d' = .int .i64 dd ∧ Hid (foldE (fun u s => wk n u (l + 1) s) (its.take m) (c + 1, l) = .ok (cc, dd)) ∧ Hid (Met (cc, dd)) ∧ Hid (Below w1.heap.size w1 wr)) (fun _ _ i _ => its.length - (intOf i).toNat)
      case atStart => exact ⟨0, c + 1, l, Nat.zero_le _, rfl, by go_num, rfl, rfl, ⟨by show c + 1 ≤ 512; omega, by show (0 : Int) ≤ l; omega, by show l ≤ 8; omega⟩, Below.refl _ _⟩
      case round =>
        obtain ⟨m, cc, dd, hm, rfl, rfl, rfl, HE, HM, HG⟩ := hrel
        have a4 := keepc HG.out _ _ C1.out
        obtain ⟨m1, m2, m3⟩ := HM.out
        simp only at m1 m2 m3
        by_cases hlt : m < its.length
        · obtain ⟨g1, o1, c0, c1, c2, c3, c4, rfl, p0, p1, p2, p3, p4, l1⟩ := (LayI.below HI.out (nxt B1.out HG.out)) m its[m] (by simp [hlt])
          have L1 : Hid (Lay wr n (.agg #[c0, c1, c2, c3, c4]) its[m]) := l1
          clear l1
          cases hw : wk n its[m] (l + 1) (cc, 0) with
          | error er =>
            have HX : Hid (wk n its[m] (l + 1) (cc, 0) = .error er) := hw
            have hne : (er == 0) = false := by rcases wk_err n _ _ _ _ hw with h | h | h <;> rw [h] <;> rfl
            clear hw
            go_wp2_with (go_at_call 32; refine (ih _ _ _ _ _ L1.out m1 (by omega) (by omega)).mono ?_; rw [HX.out]; intro e w2 hp2; obtain ⟨c2', d2', rfl, hg2⟩ := RWPost.err hp2)
            go_ret3
            refine ⟨nxt (nxt B1.out HG.out) hg2, Or.inr ⟨er, _, _, ?_, rfl⟩⟩
            rw [HW.out]
            refine foldE_stop (m := m + 1) ((foldE_next hlt HE.out).trans ?_)
            have := wk_deeper n its[m] (l + 1) cc dd 0 (by omega) m2 (by omega)
            rw [HX.out] at this
            have e : max dd 0 = dd := by omega
            rw [e] at this
            exact this
          | ok s2 =>
            obtain ⟨c2', d2'⟩ := s2
            have HX : Hid (wk n its[m] (l + 1) (cc, 0) = .ok (c2', d2')) := hw
            have HY : Hid (foldE (fun u s => wk n u (l + 1) s) (its.take (m + 1)) (c + 1, l) = .ok (c2', max dd d2')) := by
              refine (foldE_next hlt HE.out).trans ?_
              have := wk_deeper n its[m] (l + 1) cc dd 0 (by omega) m2 (by omega)
              rw [hw] at this
              have e : max dd 0 = dd := by omega
              rw [e] at this
              exact this
            have HM2 : Hid (Met (c2', max dd d2')) := by
              have h1 := wk_met n its[m] (l + 1) (cc, 0) (c2', d2') (by omega) ⟨m1, by show (0 : Int) ≤ 0; omega, by show (0 : Int) ≤ 8; omega⟩ hw
              obtain ⟨h1, h2, h3⟩ := h1
              simp only at h1 h2 h3
              exact ⟨h1, by show 0 ≤ max dd d2'; omega, by show max dd d2' ≤ 8; omega⟩
            clear hw
            by_cases hd : dd < d2'
            · have e1 : max dd d2' = d2' := by omega
              rw [e1] at HY HM2
              go_wp2_with (go_at_call 32; refine (ih _ _ _ _ _ L1.out m1 (by omega) (by omega)).mono ?_; rw [HX.out]; intro e w2 hp2; obtain ⟨rfl, hg2⟩ := RWPost.ok hp2)
              go_roundw
              case rel => exact ⟨m + 1, c2', d2', by omega, by go_num, rfl, rfl, HY.out, HM2.out, nxt HG.out hg2⟩
              case measure => simp [intOf]; omega
            · have e1 : max dd d2' = dd := by omega
              rw [e1] at HY HM2
              go_wp2_with (go_at_call 32; refine (ih _ _ _ _ _ L1.out m1 (by omega) (by omega)).mono ?_; rw [HX.out]; intro e w2 hp2; obtain ⟨rfl, hg2⟩ := RWPost.ok hp2)
              go_roundw
              case rel => exact ⟨m + 1, c2', dd, by omega, by go_num, rfl, rfl, HY.out, HM2.out, nxt HG.out hg2⟩
              case measure => simp [intOf]; omega
        · go_wp2_with fail
          go_ret3
          exact ⟨nxt B1.out HG.out, Or.inl ⟨cc, dd, by rw [HW.out, ← foldE_all (m := m) (by omega)]; exact HE.out, rfl⟩⟩

set_option maxRecDepth 100000 in
theorem rcheck_any (n : Nat) (v : V n) (x : Value) (w : World) (h : Lay w n x v) :
    Calls Tryz.prog 23 #[x] w fun e w' => e = .returned (.int .i64 (msr (wk n v 1 (0, 0))).2.2) ∧ Below w.heap.size w w' := by
  obtain ⟨k, b, t, ka, kl, kc, ia, il, ic, rfl⟩ := Lay.shape n h
  have HL : Hid (Lay w n (mk k b t ka kl kc ia il ic) v) := h
  clear h
  cases hw : wk n v 1 (0, 0) with
  | error er =>
    have HX : Hid (wk n v 1 (((0 : Nat)), 0) = .error er) := hw
    clear hw
    go_enter Tryz.func23, Tryz.ntmps23
    go_wp2_with (go_at_call 32; refine (rwalk_any n _ _ 1 0 _ (Lay.below n HL.out (below_one _ _)) (by omega) (by omega) (by omega)).mono ?_; rw [HX.out]; intro e w1 hp1; obtain ⟨c1, d1, rfl, hb1⟩ := RWPost.err hp1)
    go_ret
    exact ⟨rfl, nxt (below_one _ _) hb1⟩
  | ok s =>
    obtain ⟨c, d⟩ := s
    have HX : Hid (wk n v 1 (((0 : Nat)), 0) = .ok (c, d)) := hw
    clear hw
    go_enter Tryz.func23, Tryz.ntmps23
    go_wp2_with (go_at_call 32; refine (rwalk_any n _ _ 1 0 _ (Lay.below n HL.out (below_one _ _)) (by omega) (by omega) (by omega)).mono ?_; rw [HX.out]; intro e w1 hp1; obtain ⟨rfl, hb1⟩ := RWPost.ok hp1)
    go_ret
    exact ⟨rfl, nxt (below_one _ _) hb1⟩

end Go.Proofs.YtndclldicdfmeaaGreat
