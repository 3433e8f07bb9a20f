/-
  The function that hands an expression's parts out, for every loop body that keeps its word, or panics.
-/
import Derived.Test.YtndclldicdfmeaaGreatExRound
import Derived.Test.YtndclldicdfmeaaGreatExMath
namespace Go.Proofs.YtndclldicdfmeaaGreat.Xp
open Go.ChangeShapes Go.WideShapes Go.ChangeAt Go.RowKit Go.Deep

attribute [local go_sem] Oper.semAt_some

/-- A panic with an error's number. -/
abbrev panX (er : Int) : Ending := .panicked [{ v := .iface 38 (.int .i64 er), recovered := false }]

/-- What a body's round leaves, by the step's answer. -/
def HandPost {S : Type} (fr : Obj → Bool) (Inv : S → World → Prop) (EI : World → Prop) (r : Except Int S) (W : World) (v : Value) (e : Ending) (W' : World) : Prop :=
  (∃ s', r = .ok s' ∧ e = .returned v ∧ KpX fr W W' ∧ W.heap.size ≤ W'.heap.size ∧ Inv s' W') ∨ (∃ er, r = .error er ∧ e = panX er ∧ EI W')

theorem HandPost.ok {S : Type} {fr : Obj → Bool} {Inv : S → World → Prop} {EI : World → Prop} {s : S} {W W' : World} {v : Value} {e : Ending} (h : HandPost fr Inv EI (.ok s) W v e W') : e = .returned v ∧ KpX fr W W' ∧ W.heap.size ≤ W'.heap.size ∧ Inv s W' := by
  rcases h with ⟨s', e1, e2⟩ | ⟨er, e1, _⟩
  · cases e1; exact e2
  · cases e1
theorem HandPost.err {S : Type} {fr : Obj → Bool} {Inv : S → World → Prop} {EI : World → Prop} {er : Int} {W W' : World} {v : Value} {e : Ending} (h : HandPost fr Inv EI (.error er) W v e W') : e = panX er ∧ EI W' := by
  rcases h with ⟨s', e1, _⟩ | ⟨er', e1, e2⟩
  · cases e1
  · cases e1; exact e2

/-- What a body must keep: at each part, by a step. -/
structure Hands {S : Type} (fr : Obj → Bool) (w0 : World) (L : Nat) (st : Int → Nd4 → S → Except Int S) (ce : Bool) (Inv : S → World → Prop) (EI : World → Prop) : Prop where
  bel : ∀ s W W', Inv s W → Below W.heap.size W W' → Inv s W'
  base : ∀ s W, Inv s W → Below w0.heap.size w0 W
  deep : ∀ d p s s', st d p s = .ok s' → d ≤ 1000
  round : ∀ s d n (k b : Int) (t : ByteArray) (its : List (X n)) (y : Value) (W : World), Inv s W → LayX w0 (n + 1) y (k, b, t, its) → (ce = false → ∃ s', st d (k, b, t, its.length) s = .ok s') →
    ∀ m, YieldAt Fence.wide m Tryz.prog L #[.int .i64 d, y] W (HandPost fr Inv EI (st d (k, b, t, its.length) s) W (.bool true))

theorem fold_ok {S : Type} {α : Type} {f : α → S → Except Int S} {l : List α} {s s1 s2 : S} {m : Nat} (hm : m < l.length) (h : foldX f l s = .ok s2) (h1 : foldX f (l.take m) s = .ok s1) : ∃ s3, f l[m] s1 = .ok s3 := by
  cases h3 : f l[m] s1 with
  | ok s3 => exact ⟨s3, rfl⟩
  | error e =>
    rw [foldX_stop (m := m + 1) ((foldX_next hm h1).trans h3)] at h
    cases h

set_option maxRecDepth 100000 in
set_option maxHeartbeats 3200000 in
theorem hand_any {S : Type} {fr : Obj → Bool} (hfe : ∀ cs, fr (.cells cs 34 (0, 0)) = true) {w0 : World} {L : Nat} {st : Int → Nd4 → S → Except Int S} {ce : Bool} {Inv : S → World → Prop} {EI : World → Prop} (H : Hands fr w0 L st ce Inv EI) (n : Nat) :
    ∀ (v : X n) (x : Value) (d : Int) (s : S) (W : World), LayX w0 n x v → Inv s W → -1000 ≤ d → (ce = false → ∃ s', pre st n v d s = .ok s') →
      Calls Tryz.prog 103 #[x, .int .i64 d, .func (.yield L) #[] #[]] W (HandPost fr Inv EI (pre st n v d s) W (.bool true)) := by
  induction n with
  | zero => intro v; exact v.elim
  | succ n ih =>
    rintro ⟨k, b, t, its⟩ x d s W hlay h0 hd hce
    have hlay0 := hlay
    obtain ⟨ia, ic, rfl, hfit, hin, hI⟩ := hlay
    have hicc := hfit.2.2.2.1
    have hic := hfit.2.2.2.2.1
    have HLI : Hid (LayJ w0 (LayX w0 n) ia its) := hI
    have HH : Hid (Hands fr w0 L st ce Inv EI) := H
    have IH : Hid (∀ (v : X n) (x : Value) (d : Int) (s : S) (W : World), LayX w0 n x v → Inv s W → -1000 ≤ d → (ce = false → ∃ s', pre st n v d s = .ok s') →
      Calls Tryz.prog 103 #[x, .int .i64 d, .func (.yield L) #[] #[]] W (HandPost fr Inv EI (pre st n v d s) W (.bool true))) := ih
    have HFE : Hid (∀ cs, fr (.cells cs 34 (0, 0)) = true) := hfe
    have HI1 : Hid (Inv s (W.alloc (.cells #[.int .i64 k, .int .u64 b, .string t, .slice ia its.length ic] 34))) := H.bel _ _ _ h0 (below_one _ _)
    have HB1 : Hid ((W.alloc (.cells #[.int .i64 k, .int .u64 b, .string t, .slice ia its.length ic] 34)).heap[W.heap.size]? = some (.cells #[.int .i64 k, .int .u64 b, .string t, .slice ia its.length ic] 34 (0, 0))) := heap_alloc_new _ _
    have HK1 : Hid (KpX fr W (W.alloc (.cells #[.int .i64 k, .int .u64 b, .string t, .slice ia its.length ic] 34)) ∧ W.heap.size + 1 ≤ (W.alloc (.cells #[.int .i64 k, .int .u64 b, .string t, .slice ia its.length ic] 34)).heap.size) := ⟨KpX.of_below (below_one _ _), by simp⟩
    have hst : ce = false → ∃ s', st d (k, b, t, its.length) s = .ok s' := fun e => by
      obtain ⟨s', h⟩ := hce e
      cases h1 : st d (k, b, t, its.length) s with
      | ok s1 => exact ⟨s1, rfl⟩
      | error er => rw [pre_err h1] at h; cases h
    have HCE : Hid (ce = false → ∃ s', pre st (n + 1) (k, b, t, its) d s = .ok s') := hce
    have HY : Hid (∀ m, YieldAt Fence.wide m Tryz.prog L #[.int .i64 d, mkX k b t ia its.length ic] (W.alloc (.cells #[.int .i64 k, .int .u64 b, .string t, .slice ia its.length ic] 34)) (HandPost fr Inv EI (st d (k, b, t, its.length) s) (W.alloc (.cells #[.int .i64 k, .int .u64 b, .string t, .slice ia its.length ic] 34)) (.bool true))) :=
      H.round s d n k b t its _ _ HI1.out hlay0 hst
    clear hfit hI H ih hfe h0 hce hst hlay0 hin
    refine (callsIn_wide (n := 9)).1 (callsIn_of_wp_marks Tryz.func103 rfl trivial ?_ rfl)
    simp only [Tryz.ntmps103, List.size_toArray, List.length_cons, List.length_nil, Nat.reduceAdd, Nat.reduceSub, Array.replicate_succ, Array.replicate_zero, List.push_toArray, List.append_toArray, List.nil_append, List.cons_append]
    cases hs1 : st d (k, b, t, its.length) s with
    | error er =>
      have HE : Hid (pre st (n + 1) (k, b, t, its) d s = .error er) := pre_err hs1
      rw [hs1] at HY
      clear hs1
      obtain ⟨fn, tmps, assign, body, hy, hR⟩ := HY.out 8
      have HR : Hid (RoundIn Fence.wide 8 Tryz.prog L fn tmps assign body _ _) := hR
      clear hR HY
      gi_wp2
      refine HR.out.mono ?_
      intro e w3 hp
      obtain ⟨rfl, h3⟩ := HandPost.err hp
      clear hp
      exact Or.inr ⟨er, HE.out, rfl, h3⟩
    | ok s1 =>
      have HE : Hid (pre st (n + 1) (k, b, t, its) d s = foldX (fun u s => pre st n u (d + 1) s) its s1) := pre_ok hs1
      have hd8 := HH.out.deep _ _ _ _ hs1
      rw [hs1] at HY
      clear hs1
      obtain ⟨fn, tmps, assign, body, hy, hR⟩ := HY.out 8
      have HR : Hid (RoundIn Fence.wide 8 Tryz.prog L fn tmps assign body _ _) := hR
      clear hR HY
      gi_wp2
      refine HR.out.mono ?_
      intro e w3 hp
      obtain ⟨rfl, k3, s3, h3⟩ := HandPost.ok hp
      have H3 : Hid (Inv s1 w3) := h3
      have K3 : Hid (KpX fr W w3) := HK1.out.1.trans k3
      have S3 : Hid (W.heap.size + 1 ≤ w3.heap.size) := Nat.le_trans HK1.out.2 s3
      have B3 : Hid (w3.heap[W.heap.size]? = some (.cells #[.int .i64 k, .int .u64 b, .string t, .slice ia its.length ic] 34 (0, 0))) := k3 _ _ (HFE.out _) HB1.out
      clear hp h3 k3 s3 HR hy
      obtain ⟨x0, x1, x2, x3, -⟩ := box4 B3.out
      gi_wp2
      clear x0 x1 x2 x3
      gi_loopw [16] (fun v wr => ∃ (m : Nat) (s2 : S), m ≤ its.length ∧ v = .int .i64 (m : Nat) ∧ Hid (foldX (fun u s => pre st n u (d + 1) s) (its.take m) s1 = .ok s2) ∧ Hid (Inv s2 wr) ∧ Hid (KpX fr W wr) ∧ Hid (W.heap.size + 1 ≤ wr.heap.size) ∧
          Hid (wr.heap[W.heap.size]? = some (.cells #[.int .i64 k, .int .u64 b, .string t, .slice ia its.length ic] 34 (0, 0)))) (fun v _ => its.length - (intOf v).toNat)
      case atStart => exact ⟨0, s1, Nat.zero_le _, rfl, rfl, H3.out, K3.out, S3.out, B3.out⟩
      case round =>
        obtain ⟨m, s2, hm, rfl, HF, HI2, HK2, HS2, HB2⟩ := hrel
        clear H3 K3 S3 B3 HB1 HK1 HI1
        by_cases hlt : m < its.length
        · have hm1 : (m : Int) < (its.length : Int) := by omega
          have hm0 : (0 : Int) ≤ (m : Int) := by omega
          obtain ⟨g, o, k1, b1, t1, ja, jl, jc, rfl, q0, q1, q2, q3, hl⟩ := HLI.out.at m hlt
          have HBW := HH.out.base _ _ HI2.out
          replace q0 := keepc HBW _ _ q0
          replace q1 := keepc HBW _ _ q1
          replace q2 := keepc HBW _ _ q2
          replace q3 := keepc HBW _ _ q3
          obtain ⟨x0, x1, x2, x3, -⟩ := box4 HB2.out
          have HT : Hid (foldX (fun u s => pre st n u (d + 1) s) (its.take (m + 1)) s1 = pre st n its[m] (d + 1) s2) := foldX_next hlt HF.out
          have HC : Hid (ce = false → ∃ s', pre st n its[m] (d + 1) s2 = .ok s') := fun e => by
            obtain ⟨s', h⟩ := HCE.out e
            rw [HE.out] at h
            exact fold_ok hlt h HF.out
          have CC : Hid (Calls Tryz.prog 103 #[mkX k1 b1 t1 ja jl jc, .int .i64 (d + 1), .func (.yield L) #[] #[]] wr (HandPost fr Inv EI (pre st n its[m] (d + 1) s2) wr (.bool true))) := IH.out _ _ _ _ _ hl HI2.out (by omega) HC.out
          have HX : Hid (∀ er, foldX (fun u s => pre st n u (d + 1) s) (its.take (m + 1)) s1 = .error er → pre st (n + 1) (k, b, t, its) d s = .error er) := fun er h => by rw [HE.out]; exact foldX_stop h
          clear hl HBW HC
          cases hp1 : pre st n its[m] (d + 1) s2 with
          | error er =>
            rw [hp1] at HT CC
            clear hp1
            gi_wp2
            refine ⟨trivial, (callsIn_wide.2 CC.out).mono ?_⟩
            intro e w4 hp
            obtain ⟨rfl, h4⟩ := HandPost.err hp
            clear hp
            gi_wp2
            exact Or.inr ⟨er, HX.out _ HT.out, rfl, h4⟩
          | ok s3 =>
            rw [hp1] at HT CC
            clear hp1
            gi_wp2
            refine ⟨trivial, (callsIn_wide.2 CC.out).mono ?_⟩
            intro e w4 hp
            obtain ⟨rfl, k4, s4, h4⟩ := HandPost.ok hp
            clear hp
            have B4 : Hid (w4.heap[W.heap.size]? = some (.cells #[.int .i64 k, .int .u64 b, .string t, .slice (some ⟨g, o, none⟩) its.length ic] 34 (0, 0))) := k4 _ _ (HFE.out _) HB2.out
            have K4 : Hid (KpX fr W w4) := HK2.out.trans k4
            have S4 : Hid (W.heap.size + 1 ≤ w4.heap.size) := Nat.le_trans HS2.out s4
            have H4 : Hid (Inv s3 w4) := h4
            clear k4 s4 h4 q0 q1 q2 q3 x0 x1 x2 x3
            gi_wp2
            go_roundw
            case rel => exact ⟨m + 1, s3, by omega, by go_num, HT.out, H4.out, K4.out, S4.out, B4.out⟩
            case measure => simp [intOf]; omega
        · gi_wp2
          refine ⟨.bool true, by simp [results, Tryz.results103, go_sem], Or.inl ⟨s2, ?_, rfl, HK2.out, by have := HS2.out; omega, HI2.out⟩⟩
          rw [HE.out, ← foldX_all (m := m) (by omega)]
          exact HF.out

/-- The parts of an expression, as a function. -/
theorem parts_fn (k b : Int) (t : ByteArray) (ia : Option Addr) (il ic : Nat) (w : World) :
    Calls Tryz.prog 67 #[mkX k b t ia il ic] w fun e w' => e = .returned (.func (.func 102) #[] #[.pointer (some ⟨w.heap.size, 0, none⟩)]) ∧ w' = w.alloc (.cells #[.int .i64 k, .int .u64 b, .string t, .slice ia il ic] 34) := by
  go_enter Tryz.func67, Tryz.ntmps67
  go_wp2_with fail
  go_ret
  exact ⟨rfl, rfl⟩

theorem parts_any {S : Type} {fr : Obj → Bool} (hfe : ∀ cs, fr (.cells cs 34 (0, 0)) = true) {w0 : World} {L : Nat} {st : Int → Nd4 → S → Except Int S} {ce : Bool} {Inv : S → World → Prop} {EI : World → Prop} (H : Hands fr w0 L st ce Inv EI) (n : Nat)
    (v : X n) (k b : Int) (t : ByteArray) (ia : Option Addr) (il ic : Nat) (s : S) (W : World) (Pt : Nat) (hp : W.heap[Pt]? = some (.cells #[.int .i64 k, .int .u64 b, .string t, .slice ia il ic] 34 (0, 0))) (hl : LayX w0 n (mkX k b t ia il ic) v) (h0 : Inv s W) (hce : ce = false → ∃ s', pre st n v 1 s = .ok s') :
    Calls Tryz.prog 102 #[.func (.yield L) #[] #[], .pointer (some ⟨Pt, 0, none⟩)] W (HandPost fr Inv EI (pre st n v 1 s) W (.tuple #[])) := by
  have HC : Hid (Calls Tryz.prog 103 #[mkX k b t ia il ic, .int .i64 1, .func (.yield L) #[] #[]] W (HandPost fr Inv EI (pre st n v 1 s) W (.bool true))) := hand_any hfe H n v _ _ s W hl h0 (by omega) hce
  obtain ⟨x0, x1, x2, x3, -⟩ := box4 hp
  clear hp hl h0 hce H
  cases hr : pre st n v 1 s with
  | error er =>
    rw [hr] at HC
    clear hr
    go_enter Tryz.func102, Tryz.ntmps102
    go_wp2_with (go_at_call 103; refine HC.out.mono ?_; intro e w1 hp; obtain ⟨rfl, h4⟩ := HandPost.err hp; clear hp)
    exact ⟨rfl, Or.inr ⟨er, rfl, rfl, h4⟩⟩
  | ok s' =>
    rw [hr] at HC
    clear hr
    go_enter Tryz.func102, Tryz.ntmps102
    go_wp2_with (go_at_call 103; refine HC.out.mono ?_; intro e w1 hp; obtain ⟨rfl, h4⟩ := HandPost.ok hp; clear hp)
    go_end0
    exact Or.inl ⟨s', rfl, rfl, h4⟩

end Go.Proofs.YtndclldicdfmeaaGreat.Xp
