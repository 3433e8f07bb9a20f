/-
  What both programs answer, in one form: Encode's octets and error, Decode's expression and error.
-/
import Derived.Test.YtnliokikcpnllaaExLaw
import Derived.Test.YtnliokikcpnllaaExROct
import Derived.Test.YtnliokikcpnllaaExRDecB
namespace Go.Proofs.Ytnliokikcpnllaa
open Go.ChangeShapes Go.WideShapes Go.ChangeAt Go.RowKit
open Fl

theorem oneX_refl (n : Nat) : ∀ u : X n, sameX n n u u := by
  induction n with
  | zero => intro u; exact u.elim
  | succ n ih =>
    rintro ⟨k, b, t, its⟩
    refine ⟨rfl, rfl, rfl, rfl, fun i u u' h1 h2 => ?_⟩
    rw [h1] at h2
    cases h2
    exact ih u

/-- Encode's octets and error. -/
def encT (n : Nat) (v : X n) : List UInt8 × Int := match pre stM n v 1 (0, 0) with
  | .error er => ([], er)
  | .ok _ => (encX n v, 0)

theorem nil_layB (w : World) : LayB w none [] := fun i o h => by simp at h

theorem encT_any {n : Nat} {v : X n} {x : Value} {w : World} (hl : LayX w n x v) :
    Calls Try.prog 13 #[x] w fun e w' => ∃ a c, e = .returned (.tuple #[.slice a (encT n v).1.length c, .int .i64 (encT n v).2]) ∧ LayB w' a (encT n v).1 ∧ Below w.heap.size w w' := by
  unfold encT
  cases h : pre stM n v 1 (0, 0) with
  | error er =>
    refine (enc_err hl h).mono ?_
    rintro e w' ⟨rfl, hb⟩
    exact ⟨none, 0, rfl, nil_layB _, hb⟩
  | ok s =>
    refine (enc_ok hl h).mono ?_
    rintro e w' ⟨a, c, rfl, hs, hb⟩
    exact ⟨a, c, rfl, hs.lay, hb⟩

theorem rencT_any {n : Nat} {v : X n} {x : Value} {w : World} (hl : LayX w n x v) :
    Calls Try.prog 14 #[x] w fun e w' => ∃ a c, e = .returned (.tuple #[.slice a (encT n v).1.length c, .int .i64 (encT n v).2]) ∧ LayB w' a (encT n v).1 ∧ Below w.heap.size w w' := by
  unfold encT
  cases h : pre stM n v 1 (0, 0) with
  | error er =>
    refine (rencX_err hl h).mono ?_
    rintro e w' ⟨rfl, hb⟩
    exact ⟨none, 0, rfl, nil_layB _, hb⟩
  | ok s =>
    obtain ⟨hlen, -⟩ := encX_len h
    refine (rencX_ok hl h (by omega)).mono ?_
    rintro e w' ⟨a, c, rfl, hs, hb⟩
    exact ⟨a, c, rfl, hs.lay, hb⟩

/-- No expression. -/
def zeroX : X 8 := ((0 : Int), (0 : Int), (⟨#[]⟩ : ByteArray), [])

theorem zeroX_lay (w : World) : LayX w 8 (mkX 0 0 ⟨#[]⟩ none 0 0) zeroX :=
  ⟨none, 0, rfl, ⟨by decide, by decide, by decide, by decide, by decide, by decide⟩, fun _ => ⟨rfl, rfl⟩, fun i u h => by simp at h⟩

/-- Decode's expression and error. -/
def decT (l : List UInt8) : X 8 × Int := match decR (l, 0) with
  | .error er => (zeroX, er)
  | .ok v => (v, 0)

theorem decT_any (a : Option Addr) (c : Nat) (l : List UInt8) (w : World) (ho : Oct w a c l) :
    Calls Try.prog 15 #[.slice a l.length c] w fun e w' => ∃ k b t ia il ic, e = .returned (.tuple #[mkX k b t ia il ic, .int .i64 (decT l).2]) ∧ LayX w' 8 (mkX k b t ia il ic) (decT l).1 ∧ Below w.heap.size w w' := by
  unfold decT
  cases h : decR (l, 0) with
  | error er =>
    refine (dec_err ho.x h).mono ?_
    rintro e w' ⟨rfl, hb⟩
    exact ⟨_, _, _, _, _, _, rfl, zeroX_lay _, hb⟩
  | ok v =>
    refine (dec_ok ho.x h).mono ?_
    rintro e w' ⟨k, b, t, ia, il, ic, F, rfl, hs, -, hb⟩
    exact ⟨_, _, _, _, _, _, rfl, OwnX.lay 8 hs, hb⟩

theorem rdecT_any (a : Option Addr) (c : Nat) (l : List UInt8) (w : World) (ho : Oct w a c l) :
    Calls Try.prog 16 #[.slice a l.length c] w fun e w' => ∃ k b t ia il ic, e = .returned (.tuple #[mkX k b t ia il ic, .int .i64 (decT l).2]) ∧ LayX w' 8 (mkX k b t ia il ic) (decT l).1 ∧ Below w.heap.size w w' := by
  refine (rdecX_any a c l w ho).mono ?_
  rintro e w' ⟨hb, ⟨er, h, rfl⟩ | ⟨v, k, b, t, ia, il, ic, h, rfl, hl⟩⟩
  · unfold decT
    rw [h]
    exact ⟨_, _, _, _, _, _, rfl, zeroX_lay _, hb⟩
  · unfold decT
    rw [h]
    exact ⟨_, _, _, _, _, _, rfl, hl, hb⟩
end Go.Proofs.Ytnliokikcpnllaa
