/-
  The function that hands places and numbers out, the last first; a loop over it.
-/
import Derived.Test.YteceljjmandnmaaLiSearch
namespace Go.Proofs.Yteceljjmandnmaa
open Go.ChangeShapes Go.WideShapes Go.ChangeAt Go.RowKit Go.Deep
open Li

attribute [local go_sem] Oper.semAt_some

theorem fromEnd_any (a : Option Addr) (n c : Nat) (w : World) :
    Calls Try.prog 22 #[.slice a n c] w fun e w' => e = .returned (.func (.func 25) #[] #[.pointer (some ⟨w.heap.size, 0, none⟩)]) ∧ w' = w.alloc (.cells #[.slice a n c] 22) := by
  go_enter Try.func22, Try.ntmps22
  go_wp2_with fail
  go_ret
  exact ⟨rfl, rfl⟩

set_option maxRecDepth 100000 in
set_option maxHeartbeats 3200000 in
theorem from_iter (m : Nat) (h1 : 1 ≤ m) (L P c : Nat) (ks : List Int) (hk : ks.length ≤ 1000) (a : Option Addr) (Inv : World → Nat → Prop)
    (hR : ∀ W i, Inv W i → W.cell? ⟨P, 0, none⟩ = some (.slice a ks.length c) ∧ LayI W a ks)
    (hY : ∀ (W : World) (p : Nat) (hp : p < ks.length), Inv W (p + 1) → YieldAt Fence.wide (m - 1) Try.prog L #[.int .i64 (p : Int), .int .i64 ks[p]] W fun e W' => e = .returned (.bool true) ∧ Inv W' p)
    (W : World) (h0 : Inv W ks.length) :
    CallsIn Fence.wide m Try.prog 25 #[.func (.yield L) #[] #[], .pointer (some ⟨P, 0, none⟩)] W fun e W' => (∃ v, e = .returned v) ∧ Inv W' 0 := by
  have H0 : Hid (Inv W ks.length) := h0
  have HR : Hid (∀ W i, Inv W i → W.cell? ⟨P, 0, none⟩ = some (.slice a ks.length c) ∧ LayI W a ks) := hR
  have HYY : Hid (∀ (W : World) (p : Nat) (hp : p < ks.length), Inv W (p + 1) → YieldAt Fence.wide (m - 1) Try.prog L #[.int .i64 (p : Int), .int .i64 ks[p]] W fun e W' => e = .returned (.bool true) ∧ Inv W' p) := hY
  have y0 := (hR W _ h0).1
  clear h0 hR hY
  refine callsIn_of_wp Try.func25 rfl trivial ?_ rfl
  simp only [Try.ntmps25, List.size_toArray, List.length_cons, List.length_nil, Nat.reduceAdd, Nat.reduceSub, Array.replicate_succ, Array.replicate_zero, List.push_toArray, List.append_toArray, List.nil_append, List.cons_append]
  gi_wp2
  gi_loopw [3] (fun s wr => ∃ p : Nat, p ≤ ks.length ∧ s = .int .i64 ((p : Int) - 1) ∧ Hid (Inv wr p)) (fun s _ => (intOf s + 1).toNat)
  case atStart => exact ⟨ks.length, Nat.le_refl _, by go_num, H0.out⟩
  case round =>
    clear y0 H0
    obtain ⟨p, hp, rfl, HI⟩ := hrel
    cases p with
    | zero =>
      have e : ((0 : Nat) : Int) - 1 = -1 := by omega
      rw [e]
      gi_wp2
      go_end0
      exact ⟨⟨_, rfl⟩, HI.out⟩
    | succ p =>
      have e : ((p + 1 : Nat) : Int) - 1 = (p : Int) := by omega
      rw [e]
      have hlt : p < ks.length := by omega
      obtain ⟨y0, hl⟩ := HR.out _ _ HI.out
      obtain ⟨b1, o1, rfl, r1, _⟩ := hl p ks[p] (List.getElem?_eq_getElem hlt)
      obtain ⟨fn, tmps, assign, body, hy, hRR⟩ := HYY.out _ p hlt HI.out
      have HRR : Hid (RoundIn Fence.wide (m - 1) Try.prog L fn tmps assign body wr _) := hRR
      clear hRR HI hl e
      gi_wp2
      refine HRR.out.mono ?_
      rintro e w2 ⟨rfl, hI2⟩
      have I2 : Hid (Inv w2 p) := hI2
      clear hI2 HRR hy r1 y0
      gi_wp2
      refine ⟨⟨p, by omega, by go_num, I2.out⟩, ?_⟩
      simp [intOf]
end Go.Proofs.Yteceljjmandnmaa
