/-
  Where a number's place is among the heads: the closure, the library's Search.
-/
import Derived.Test.YteceljjmandnmaaLiMath
import Derived.Test.YteceljjmandnmaaLiBase
namespace Go.Proofs.Yteceljjmandnmaa
open Go.ChangeShapes Go.WideShapes Go.ChangeAt Go.RowKit Go.Deep
open Li

set_option maxRecDepth 100000 in
theorem notGreater_any (hs : List Int) (x : Int) (ha : Option Addr) (hc P5 P7 i : Nat) (w : World) (hL : LayI w ha hs) (h5 : w.cell? ⟨P5, 0, none⟩ = some (.slice ha hs.length hc)) (h7 : w.cell? ⟨P7, 0, none⟩ = some (.int .i64 x)) (hi : i < hs.length) :
    Calls Try.prog 23 #[.int .i64 (i : Int), .pointer (some ⟨P5, 0, none⟩), .pointer (some ⟨P7, 0, none⟩)] w fun e w' => e = .returned (.bool (decide (hs[i] ≤ x))) ∧ Below w.heap.size w w' := by
  obtain ⟨b1, o1, rfl, r1, _⟩ := hL i hs[i] (List.getElem?_eq_getElem hi)
  clear hL
  go_enter Try.func23, Try.ntmps23
  go_wp2_with fail
  go_quiet (fail)
  go_wp2_with fail
  go_ret
  exact ⟨rfl, Below_drewN _ _ _⟩

set_option maxRecDepth 100000 in
set_option maxHeartbeats 1600000 in
theorem search_any (hs : List Int) (x : Int) (ha : Option Addr) (hc P5 P7 : Nat) (w : World) (hL : LayI w ha hs) (hf : Falls hs) (hn : hs.length ≤ 1000) (h5 : w.cell? ⟨P5, 0, none⟩ = some (.slice ha hs.length hc)) (h7 : w.cell? ⟨P7, 0, none⟩ = some (.int .i64 x)) :
    Calls Try.prog 24 #[.int .i64 (hs.length : Int), .func (.func 23) #[] #[.pointer (some ⟨P5, 0, none⟩), .pointer (some ⟨P7, 0, none⟩)]] w fun e w' => e = .returned (.int .i64 (srch hs x : Int)) ∧ Below w.heap.size w w' := by
  have HF : Hid (Falls hs) := hf
  have HC : Hid (∀ (W : World) (i : Nat) (hi : i < hs.length), Below w.heap.size w W → Calls Try.prog 23 #[.int .i64 (i : Int), .pointer (some ⟨P5, 0, none⟩), .pointer (some ⟨P7, 0, none⟩)] W fun e w' => e = .returned (.bool (decide (hs[i] ≤ x))) ∧ Below W.heap.size W w') :=
    fun W i hi hb => notGreater_any hs x ha hc P5 P7 i W (hL.below hb) (keepc hb _ _ h5) (keepc hb _ _ h7) hi
  clear hL hf h5 h7
  go_enter Try.func24, Try.ntmps24
  go_wp2_with fail
  go_loopw [5, 6] (fun v5 v6 wr => ∃ i j : Nat, i ≤ j ∧ j ≤ hs.length ∧ v5 = .int .i64 i ∧ v6 = .int .i64 j ∧ Hid (∀ m s, m < i → hs[m]? = some s → x < s) ∧ Hid (∀ s, hs[j]? = some s → s ≤ x) ∧ Hid (Below w.heap.size w wr)) (fun v5 v6 _ => (intOf v6).toNat - (intOf v5).toNat)
  case atStart => exact ⟨0, hs.length, Nat.zero_le _, Nat.le_refl _, rfl, rfl, (show ∀ m s, m < 0 → hs[m]? = some s → x < s from fun m s h => by omega), (show ∀ s, hs[hs.length]? = some s → s ≤ x from fun s hs' => by simp at hs'), Below.refl _ _⟩
  case round =>
    obtain ⟨i, j, hij, hj, rfl, rfl, H1, H2, HB⟩ := hrel
    by_cases hlt : i < j
    · have hh : (i + j) / 2 < hs.length := by omega
      have HG : Hid (hs[(i + j) / 2]? = some hs[(i + j) / 2]) := List.getElem?_eq_getElem hh
      have HCC : Hid (Calls Try.prog 23 #[.int .i64 (((i + j) / 2 : Nat) : Int), .pointer (some ⟨P5, 0, none⟩), .pointer (some ⟨P7, 0, none⟩)] wr fun e w' => e = .returned (.bool (decide (hs[(i + j) / 2] ≤ x))) ∧ Below wr.heap.size wr w') := HC.out wr _ hh HB.out
      by_cases hl : hs[(i + j) / 2] ≤ x
      · have HL : Hid (hs[(i + j) / 2] ≤ x) := hl
        rw [decide_eq_true hl] at HCC
        clear hl
        go_wp2_with (go_at_call 23; refine HCC.out.mono ?_; rintro e w' ⟨rfl, hb1⟩; have HB1 : Hid (Below wr.heap.size wr w') := hb1; clear hb1)
        go_roundw
        case rel =>
          refine ⟨i, (i + j) / 2, by omega, by omega, rfl, by go_num, H1.out, ?_, nxt HB.out HB1.out⟩
          intro s hs'
          rw [HG.out] at hs'
          cases hs'
          exact HL.out
        case measure => simp [intOf]; omega
      · have HL : Hid (x < hs[(i + j) / 2]) := by show _ < _; omega
        rw [decide_eq_false hl] at HCC
        clear hl
        go_wp2_with (go_at_call 23; refine HCC.out.mono ?_; rintro e w' ⟨rfl, hb1⟩; have HB1 : Hid (Below wr.heap.size wr w') := hb1; clear hb1)
        go_roundw
        case rel =>
          refine ⟨(i + j) / 2 + 1, j, by omega, hj, by go_num, rfl, ?_, H2.out, nxt HB.out HB1.out⟩
          intro m s hm hs'
          by_cases e : m = (i + j) / 2
          · subst e
            rw [HG.out] at hs'
            cases hs'
            exact HL.out
          · have h1 := HF.out m ((i + j) / 2) s _ (by omega) hs' HG.out
            have h2 := HL.out
            omega
        case measure => simp [intOf]; omega
    · have e : i = j := by omega
      subst e
      have HS : Hid (srch hs x = i) := srch_eq hs x i hj (fun m s hm hs' => H1.out m s hm hs') (fun s hs' => H2.out s hs')
      clear H1 H2
      go_wp2_with fail
      go_ret
      exact ⟨by rw [HS.out]; rfl, HB.out⟩
end Go.Proofs.Yteceljjmandnmaa
