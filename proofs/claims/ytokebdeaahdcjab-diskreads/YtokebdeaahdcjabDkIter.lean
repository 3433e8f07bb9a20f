/-
  The function that hands sectors out, for every loop body that keeps its word.
-/
import Derived.Test.YtokebdeaahdcjabDkWin
namespace Go.Proofs.Ytokebdeaahdcjab
open Go.ChangeShapes Go.WideShapes Go.ChangeAt Go.RowKit Go.Deep
open Dk (Wr St)

attribute [local go_sem] Oper.semAt_some

/-- How long a slice is. -/
def slLen : Value → Nat
  | .slice _ n _ => n
  | _ => 0

theorem cut_any (f : Int) (a : Option Addr) (n c : Nat) (w : World) :
    Calls Try.prog 39 #[.int .i64 f, .slice a n c] w fun e w' => e = .returned (.func (.func 47) #[] #[.pointer (some ⟨w.heap.size, 0, none⟩), .pointer (some ⟨w.heap.size + 1, 0, none⟩)]) ∧ w' = (w.alloc (.cells #[.int .i64 f] 3)).alloc (.cells #[.slice a n c] 26) := by
  go_enter Try.func39, Try.ntmps39
  go_wp2_with fail
  go_ret
  exact ⟨rfl, rfl⟩

/-- A loop over a function is entered: the record is laid, the function is called. -/
theorem range_enter {P : Program} {g : Operand} {ps : Array Tmp} {assign body : Code} {Q : Exit → Act → World → Prop} {a : Act} {w : World} {n : Nat} (h1 : 1 ≤ n) {gf : Nat} {lb : Array Value} (hg : a.eval g = .func (.func gf) #[] lb)
    (eg : ∀ args w, (callFunc gf args).run P w = .ok (.enter gf args) w)
    (h : ∀ (fn : FuncId) (rec : Loop), rec = { state := .ready, pending := none, fn := fn, tmps := a.tmps, params := ps, assign := assign, body := body, defers := w.heap.size } →
      CallsIn Fence.wide (n - 1) P gf (#[.func (.yield (w.heap.size + 1)) #[] #[]] ++ lb) ((w.alloc (.deferred (some []))).alloc (.loop rec)) (rangePost Fence.wide n P (w.heap.size + 1) Q { a with defers := [{ target := .collected w.heap.size, args := #[] }] ++ a.defers })) :
    (Code.rangeFunc g ps assign body).wpIn Fence.wide n P Q a w := by
  refine wpIn_rangeFunc ?_
  intro fn _
  have he := run_enterLoop_outer (P := P) (w := w) fn a.tmps ps assign body
  have hc := h fn _ rfl
  generalize (w.alloc (.deferred (some []))).alloc (.loop { state := .ready, pending := none, fn := fn, tmps := a.tmps, params := ps, assign := assign, body := body, defers := w.heap.size }) = W1 at he hc
  refine ⟨w.heap.size + 1, [{ target := .collected w.heap.size, args := #[] }], W1, { target := .fn (.func gf) lb, args := #[.func (.yield (w.heap.size + 1)) #[] #[]] }, W1, gf, #[.func (.yield (w.heap.size + 1)) #[] #[]] ++ lb, W1, ?_, ?_, ?_, ?_, ?_, ?_⟩
  · exact he
  · simp only [resolve, hg]
    simp [go_sem]
  · intro _ _
    trivial
  · simp [invoke, go_sem, eg]
  · intro _
    exact h1
  · exact hc

set_option maxRecDepth 100000 in
set_option maxHeartbeats 3200000 in
theorem cut_iter (m : Nat) (h1 : 1 ≤ m) (L : Nat) (first b off c k : Nat) (a : Option Addr) (ha : 0 < k → a = some ⟨b, off, none⟩) (hc : 48 * k ≤ c) (hf : first + k ≤ 1000000000) (Inv : World → Nat → Prop) (Fin : World → Prop)
    (hD : ∀ W i q, Inv W i → Inv (W.drewN q) i)
    (hY : ∀ W i, i < k → Inv W i → YieldAt Fence.wide (m - 1) Try.prog L #[.int .i64 ((first + i : Nat) : Int), .slice (some ⟨b, off + 48 * i, none⟩) 48 (c - 48 * i)] W fun e W' =>
      (e = .returned (.bool true) ∧ Inv W' (i + 1)) ∨ (e = .returned (.bool false) ∧ Fin W'))
    (W : World) (P1 P2 : Nat) (hp1 : W.cell? ⟨P1, 0, none⟩ = some (.int .i64 (first : Nat))) (hp2 : W.cell? ⟨P2, 0, none⟩ = some (.slice a (48 * k) c)) (h0 : Inv W 0) :
    CallsIn Fence.wide m Try.prog 47 #[.func (.yield L) #[] #[], .pointer (some ⟨P1, 0, none⟩), .pointer (some ⟨P2, 0, none⟩)] W fun e W' => (∃ v, e = .returned v) ∧ (Inv W' k ∨ Fin W') := by
  have H0 : Hid (Inv W 0) := h0
  have HD : Hid (∀ W i q, Inv W i → Inv (W.drewN q) i) := hD
  have HA : Hid (0 < k → a = some ⟨b, off, none⟩) := ha
  have HYY : Hid (∀ W i, i < k → Inv W i → YieldAt Fence.wide (m - 1) Try.prog L #[.int .i64 ((first + i : Nat) : Int), .slice (some ⟨b, off + 48 * i, none⟩) 48 (c - 48 * i)] W fun e W' =>
      (e = .returned (.bool true) ∧ Inv W' (i + 1)) ∨ (e = .returned (.bool false) ∧ Fin W')) := hY
  clear h0 hD ha hY
  refine callsIn_of_wp Try.func47 rfl trivial ?_ rfl
  simp only [Try.ntmps47, List.size_toArray, List.length_cons, List.length_nil, Nat.reduceAdd, Nat.reduceSub, Array.replicate_succ, Array.replicate_zero, List.push_toArray, List.append_toArray, List.nil_append, List.cons_append]
  gi_wp2
  refine wpIn_wide.2 ?_
  go_quiet (fail)
  go_wp2_with fail
  gi_wp2
  gi_loopw [4, 5] (fun s r wr => ∃ (i : Nat) (a' : Option Addr), i ≤ k ∧ s = .int .i64 ((first + i : Nat) : Int) ∧ r = .slice a' (48 * (k - i)) (c - 48 * i) ∧ Hid (i < k → a' = some ⟨b, off + 48 * i, none⟩) ∧ Hid (Inv wr i)) (fun _ r _ => slLen r)
  case atStart => exact ⟨0, a, by omega, by simp, by simp, by simpa [Hid] using HA.out, HD.out _ _ _ H0.out⟩
  case round =>
    obtain ⟨i, a', hi, rfl, rfl, HA', HI⟩ := hrel
    by_cases hlt : i < k
    · obtain rfl := HA'.out hlt
      have hpos : (0 : Int) < ((48 * (k - i) : Nat) : Int) := by omega
      have hp48 : (48 : Int) ≤ ((48 * (k - i) : Nat) : Int) := by omega
      have hp2 : ((48 * (k - i) : Nat) : Int) ≤ ((c - 48 * i : Nat) : Int) := by omega
      have hc3 : (48 : Int) ≤ ((c - 48 * i : Nat) : Int) := by omega
      obtain ⟨fn, tmps, assign, body, hy, hR⟩ := HYY.out _ i hlt HI.out
      have HR : Hid (RoundIn Fence.wide (m - 1) Try.prog L fn tmps assign body wr _) := hR
      clear hR HYY HA' HA H0 HI
      have HFI : Hid (first + k ≤ 1000000000) := hf
      have hfi : first + i ≤ 1000000000 := by omega
      have HKI : Hid (48 * (k - i) - 48 = 48 * (k - (i + 1)) ∧ c - 48 * i - 48 = c - 48 * (i + 1)) := by show _ ∧ _; omega
      have HKJ : Hid (first + i + 1 = first + (i + 1) ∧ off + 48 * i + 48 = off + 48 * (i + 1) ∧ (c - 48 * i = 48 → ¬ i + 1 < k)) := by show _ ∧ _ ∧ _; omega
      clear hf
      generalize hN : 48 * (k - i) = N at *
      generalize hC : c - 48 * i = C at *
      generalize hF : first + i = FI at *
      generalize hO : off + 48 * i = O at *
      gi_wp2
      refine HR.out.mono ?_
      rintro e w2 (⟨rfl, hI2⟩ | ⟨rfl, hF2⟩)
      · have I2 : Hid (Inv w2 (i + 1)) := hI2
        clear hI2 HR hy
        gi_wp2
        refine wpIn_wide.2 ?_
        go_quiet (fail)
        go_wp2_with fail
        gi_wp2
        refine ⟨⟨i + 1, _, by omega, ?_, by rw [HKI.out.1, HKI.out.2], ?_, HD.out _ _ _ I2.out⟩, ?_⟩
        · rw [← HKJ.out.1]
          simp
        · intro h
          rw [← HKJ.out.2.1]
          by_cases hc48 : C = 48
          · exact absurd h (HKJ.out.2.2 hc48)
          · rw [if_neg hc48]
        · show N - 48 < N
          omega
      · have F2 : Hid (Fin w2) := hF2
        clear hF2 HR hy
        gi_wp2
        refine bodyPost_ret (results_none rfl _ _ _) rfl ?_
        exact ⟨⟨_, rfl⟩, Or.inr F2.out⟩
    · have hik : i = k := by omega
      subst hik
      have hz : 48 * (i - i) = 0 := by omega
      rw [hz]
      gi_wp2
      go_end0
      exact ⟨⟨_, rfl⟩, Or.inl HI.out⟩
end Go.Proofs.Ytokebdeaahdcjab
