/-
  The program's attrPlace: the library's binary search by a function.
-/
import Derived.Test.YtbadehbnpneepaaDoCmp
namespace Go.Proofs.Ytbadehbnpneepaa
open Go.ChangeShapes Go.WideShapes Go.ChangeAt Go.RowKit Go.Deep
open Do

/-- How many attributes, from the first on, have a name below t. -/
def lwA : List Atr → ByteArray → Nat
  | [], _ => 0
  | s :: l, t => if cmB s.1 t < 0 then lwA l t + 1 else 0

/-- Attributes whose names rise. -/
def UpA (l : List Atr) : Prop := ∀ (i j : Nat) (a b : Atr), i < j → l[i]? = some a → l[j]? = some b → cmB a.1 b.1 < 0

/-- Is there one of that name. -/
def hasA (l : List Atr) (t : ByteArray) : Bool := match l[lwA l t]? with
  | none => false
  | some s => cmB s.1 t == 0

theorem lwA_le (l : List Atr) (t : ByteArray) : lwA l t ≤ l.length := by
  induction l with
  | nil => exact Nat.le_refl _
  | cons s l ih => simp only [lwA, List.length_cons]; split <;> omega

theorem lwA_eq : ∀ (l : List Atr) (t : ByteArray) (i : Nat), i ≤ l.length → (∀ (m : Nat) (s : Atr), m < i → l[m]? = some s → cmB s.1 t < 0) → (∀ s : Atr, l[i]? = some s → ¬ cmB s.1 t < 0) → lwA l t = i
  | [], _, i, h, _, _ => by simp at h; simp [lwA, h]
  | s :: l, t, 0, _, _, h2 => by
    have := h2 s (by simp)
    simp [lwA, this]
  | s :: l, t, i + 1, h, h1, h2 => by
    have e := h1 0 s (by omega) (by simp)
    have := lwA_eq l t i (by simpa using h) (fun m s' hm hs => h1 (m + 1) s' (by omega) (by simpa using hs)) (fun s' hs => h2 s' (by simpa using hs))
    simp [lwA, e, this]

set_option maxRecDepth 100000 in
set_option maxHeartbeats 1600000 in
theorem bsA_any (ats : List Atr) (t : ByteArray) (aa : Option Addr) (ac : Nat) (w : World) (hL : LayA w aa ats) (hu : UpA ats) (hn : ats.length ≤ 16) :
    Calls Try.prog 93 #[.slice aa ats.length ac, .string t, .func (.func 94) #[] #[]] w fun e w' => e = .returned (.tuple #[.int .i64 (lwA ats t : Int), .bool (hasA ats t)]) ∧ Below w.heap.size w w' := by
  have HF : Hid (UpA ats) := hu
  have HL : Hid (LayA w aa ats) := hL
  have HC : Hid (∀ (W : World) (a v : ByteArray), Calls Try.prog 94 #[.agg #[.string a, .string v], .string t] W fun e w' => e = .returned (.int .i64 (cmB a t)) ∧ Below W.heap.size W w') := fun W a v => attrCmp_any a v t W
  clear hL hu
  go_enter Try.func93, Try.ntmps93
  go_wp2_with fail
  go_loopw [9, 10] (fun v9 v10 wr => ∃ i j : Nat, i ≤ j ∧ j ≤ ats.length ∧ v9 = .int .i64 i ∧ v10 = .int .i64 j ∧ Hid (∀ (m : Nat) (s : Atr), m < i → ats[m]? = some s → cmB s.1 t < 0) ∧ Hid (∀ s : Atr, ats[j]? = some s → 0 ≤ cmB s.1 t) ∧ Hid (Below w.heap.size w wr)) (fun v9 v10 _ => (intOf v10).toNat - (intOf v9).toNat)
  case atStart => exact ⟨0, ats.length, Nat.zero_le _, Nat.le_refl _, rfl, rfl, (show ∀ (m : Nat) (s : Atr), m < 0 → ats[m]? = some s → cmB s.1 t < 0 from fun m n h => by omega), (show ∀ s : Atr, ats[ats.length]? = some s → 0 ≤ cmB s.1 t from fun n hn' => by simp at hn'), Below.refl _ _⟩
  case round =>
    obtain ⟨i, j, hij, hj, rfl, rfl, H1, H2, HB⟩ := hrel
    by_cases hlt : i < j
    · have hh : (i + j) / 2 < ats.length := by omega
      have HG : Hid (ats[(i + j) / 2]? = some ats[(i + j) / 2]) := List.getElem?_eq_getElem hh
      obtain ⟨b, o, rfl, r0, r1, -, -⟩ := HL.out.below HB.out ((i + j) / 2) _ HG.out
      generalize ats[(i + j) / 2] = s0 at *
      have HCC := HC.out wr s0.1 s0.2
      generalize hcv : cmB s0.1 t = cv at *
      have HCC' : Hid (Calls Try.prog 94 #[.agg #[.string s0.1, .string s0.2], .string t] wr fun e w' => e = .returned (.int .i64 cv) ∧ Below wr.heap.size wr w') := HCC
      clear HCC
      by_cases hl : cv < 0
      · have HL1 : Hid (cmB s0.1 t < 0) := by show _ < _; omega
        have g1 : decide (cv < 0) = true := decide_eq_true hl
        clear hl hcv
        go_wp2_with (go_at_call 94; refine HCC'.out.mono ?_; rintro e w' ⟨rfl, hb1⟩; have HB1 : Hid (Below wr.heap.size wr w') := hb1; clear hb1)
        go_roundw
        case rel =>
          refine ⟨(i + j) / 2 + 1, j, by omega, hj, by go_num, rfl, ?_, H2.out, nxt HB.out HB1.out⟩
          intro m s hm hs'
          by_cases e : m = (i + j) / 2
          · subst e
            rw [HG.out] at hs'
            cases hs'
            exact HL1.out
          · exact cmB_trans (HF.out m ((i + j) / 2) s _ (by omega) hs' HG.out) HL1.out
        case measure => simp [intOf]; omega
      · have HL1 : Hid (0 ≤ cmB s0.1 t) := by show _ ≤ _; omega
        have g1 : decide (cv < 0) = false := decide_eq_false hl
        clear hl hcv
        go_wp2_with (go_at_call 94; refine HCC'.out.mono ?_; rintro e w' ⟨rfl, hb1⟩; have HB1 : Hid (Below wr.heap.size wr w') := hb1; clear hb1)
        go_roundw
        case rel =>
          refine ⟨i, (i + j) / 2, by omega, by omega, rfl, by go_num, H1.out, ?_, nxt HB.out HB1.out⟩
          intro s hs'
          rw [HG.out] at hs'
          cases hs'
          exact HL1.out
        case measure => simp [intOf]; omega
    · have e : i = j := by omega
      subst e
      have HS : Hid (lwA ats t = i) := lwA_eq ats t i hj (fun m s hm hs' => H1.out m s hm hs') (fun s hs' => Int.not_lt.2 (H2.out s hs'))
      clear H1 H2
      by_cases hlt2 : i < ats.length
      · have HG : Hid (ats[i]? = some ats[i]) := List.getElem?_eq_getElem hlt2
        obtain ⟨b, o, rfl, r0, r1, -, -⟩ := HL.out.below HB.out i _ HG.out
        generalize ats[i] = s0 at *
        have HCC := HC.out wr s0.1 s0.2
        generalize hcv : cmB s0.1 t = cv at *
        have HCC' : Hid (Calls Try.prog 94 #[.agg #[.string s0.1, .string s0.2], .string t] wr fun e w' => e = .returned (.int .i64 cv) ∧ Below wr.heap.size wr w') := HCC
        have HH : Hid (hasA ats t = (cv == 0)) := by show _ = _; unfold hasA; rw [HS.out, HG.out]; simp only; rw [hcv]
        clear HCC hcv
        go_wp2_with (go_at_call 94; refine HCC'.out.mono ?_; rintro e w' ⟨rfl, hb1⟩; have HB1 : Hid (Below wr.heap.size wr w') := hb1; clear hb1)
        go_ret2
        exact ⟨by rw [HS.out, HH.out]; rfl, nxt HB.out HB1.out⟩
      · have HH : Hid (hasA ats t = false) := by show _ = _; unfold hasA; rw [HS.out, List.getElem?_eq_none (by omega)]
        go_wp2_with fail
        go_ret2
        exact ⟨by rw [HS.out, HH.out]; rfl, HB.out⟩

set_option maxRecDepth 100000 in
theorem attrPlace_any (ats : List Atr) (t : ByteArray) (aa : Option Addr) (ac : Nat) (w : World) (hL : LayA w aa ats) (hu : UpA ats) (hn : ats.length ≤ 16) :
    Calls Try.prog 82 #[.slice aa ats.length ac, .string t] w fun e w' => e = .returned (.tuple #[.int .i64 (lwA ats t : Int), .bool (hasA ats t)]) ∧ Below w.heap.size w w' := by
  have HC : Hid (Calls Try.prog 93 #[.slice aa ats.length ac, .string t, .func (.func 94) #[] #[]] w _) := bsA_any ats t aa ac w hL hu hn
  go_enter Try.func82, Try.ntmps82
  go_wp2_with fail
  refine HC.out.mono ?_
  rintro e w2 ⟨rfl, hb2⟩
  have HB2 : Hid (Below w.heap.size w w2) := hb2
  clear hb2 HC hL hu
  go_wp2_with fail
  go_ret2
  exact ⟨rfl, HB2.out⟩
end Go.Proofs.Ytbadehbnpneepaa
