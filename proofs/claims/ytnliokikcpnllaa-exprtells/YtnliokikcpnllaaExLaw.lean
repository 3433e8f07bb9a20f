/-
  What follows for the laws of expressions.
-/
import Derived.Test.YtnliokikcpnllaaExBack
import Derived.Test.YtnliokikcpnllaaExArg
namespace Go.Proofs.Ytnliokikcpnllaa
open Go.ChangeShapes Go.WideShapes Go.ChangeAt Go.RowKit
open Fl

theorem preM_met : ∀ (n : Nat) (u : X n) (d : Int) (s s' : Nat × Int), MetX s → pre stM n u d s = .ok s' → MetX s' := by
  intro n
  induction n with
  | zero => intro u; exact u.elim
  | succ n ih =>
    rintro ⟨k, b, t, its⟩ d s s' hm h
    obtain ⟨s1, h1, h2⟩ := pre_inv h
    have hm1 := (stM_met hm h1).1
    clear h h1 hm
    revert s1
    induction its with
    | nil => intro s1 h2 hm1; simp only [foldX] at h2; cases h2; exact hm1
    | cons a r ihr =>
      intro s1 h2 hm1
      simp only [foldX] at h2
      cases h3 : pre stM n a (d + 1) s1 with
      | error er => rw [h3] at h2; cases h2
      | ok s2 => rw [h3] at h2; exact ihr s2 h2 (ih a _ _ _ hm1 h3)

theorem encX_len {n : Nat} {v : X n} {s' : Nat × Int} (h : pre stM n v 1 (0, 0) = .ok s') : (encX n v).length ≤ 12800 ∧ 0 < (encX n v).length := by
  have h1 := (preM_met n v 1 (0, 0) s' ⟨by decide, by decide, by decide⟩ h).1
  have h2 := (enc_pre n v 1 (0, 0) s' [] h (by simp)).2
  rw [List.nil_append] at h2
  refine ⟨by omega, ?_⟩
  cases n with
  | zero => exact v.elim
  | succ n =>
    obtain ⟨k, b, t, its⟩ := v
    simp only [encX, octP]
    simp

theorem Oct.x {w : World} {a : Option Addr} {c : Nat} {l : List UInt8} (h : Oct w a c l) : OctX w a c l := ⟨h.1, ⟨h.2.1, h.2.2.1⟩, h.2.2.2.1, h.2.2.2.2.1, h.2.2.2.2.2⟩

theorem dec_err {a : Option Addr} {c : Nat} {l : List UInt8} {w : World} (ho : OctX w a c l) {er : Int} (h : decR (l, 0) = .error er) :
    Calls Try.prog 15 #[.slice a l.length c] w fun e w' => e = .returned (.tuple #[mkX 0 0 ⟨#[]⟩ none 0 0, .int .i64 er]) ∧ Below w.heap.size w w' := by
  refine (decodeX_any a c l w ho).mono ?_
  rintro e w' ⟨h1, h2⟩
  rcases h1 with ⟨er', h3, h4⟩ | ⟨v, k, b, t, ia, il, ic, F, h3, -⟩
  · rw [h] at h3
    cases h3
    exact ⟨h4, h2⟩
  · rw [h] at h3
    cases h3

theorem dec_ok {a : Option Addr} {c : Nat} {l : List UInt8} {w : World} (ho : OctX w a c l) {v : X 8} (h : decR (l, 0) = .ok v) :
    Calls Try.prog 15 #[.slice a l.length c] w fun e w' => ∃ k b t ia il ic F, e = .returned (.tuple #[mkX k b t ia il ic, .int .i64 0]) ∧ OwnX 29 w' 8 (mkX k b t ia il ic) v F ∧ (∀ b, F b → w.heap.size ≤ b ∧ b < w'.heap.size) ∧ Below w.heap.size w w' := by
  refine (decodeX_any a c l w ho).mono ?_
  rintro e w' ⟨h1, h2⟩
  rcases h1 with ⟨er', h3, -⟩ | ⟨v', k, b, t, ia, il, ic, F, h3, h4, h5, h6⟩
  · rw [h] at h3
    cases h3
  · rw [h] at h3
    cases h3
    exact ⟨k, b, t, ia, il, ic, F, h4, h5, h6, h2⟩

theorem enc_err {n : Nat} {v : X n} {x : Value} {w : World} (hl : LayX w n x v) {er : Int} (h : pre stM n v 1 (0, 0) = .error er) : Calls Try.prog 13 #[x] w fun e w' => e = .returned (.tuple #[.slice none 0 0, .int .i64 er]) ∧ Below w.heap.size w w' := by
  refine (encodeX_any n v x w hl).mono ?_
  rintro e w' ⟨h2, h1⟩
  rcases h1 with ⟨er', h3, h4⟩ | ⟨s', s, h3, -⟩
  · rw [h] at h3
    cases h3
    exact ⟨h4, h2⟩
  · rw [h] at h3
    cases h3

theorem enc_ok {n : Nat} {v : X n} {x : Value} {w : World} (hl : LayX w n x v) {s : Nat × Int} (h : pre stM n v 1 (0, 0) = .ok s) : Calls Try.prog 13 #[x] w fun e w' => ∃ a c, e = .returned (.tuple #[.slice a (encX n v).length c, .int .i64 0]) ∧ Bs w' w.heap.size (.slice a (encX n v).length c) (encX n v) ∧ Below w.heap.size w w' := by
  refine (encodeX_any n v x w hl).mono ?_
  rintro e w' ⟨h2, h1⟩
  rcases h1 with ⟨er', h3, -⟩ | ⟨s', s, h3, h4, h5⟩
  · rw [h] at h3
    cases h3
  · obtain ⟨a, c, rfl⟩ := h5.shape
    exact ⟨a, c, h4, h5, h2⟩

theorem octet_of {mo : Int} (h : (Lit.int .u8 mo).wf = true) : ∃ o : UInt8, mo = (o.toNat : Int) := by
  have hb : 0 ≤ mo ∧ mo ≤ 255 := by
    have h0 : IntKind.u8.min = 0 := by decide
    have h1 : IntKind.u8.max = 255 := by decide
    simp [Lit.wf] at h
    omega
  exact ⟨UInt8.ofNat mo.toNat, by rw [byte_nat (by omega)]; omega⟩
end Go.Proofs.Ytnliokikcpnllaa
