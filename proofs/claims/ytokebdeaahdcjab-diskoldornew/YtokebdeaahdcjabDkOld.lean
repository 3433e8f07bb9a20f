/-
  Behind a crash each sector is what it was, or what a write that waited had for it: as mathematics.
-/
import Derived.Test.YtokebdeaahdcjabDkFollow
namespace Go.Proofs.Ytokebdeaahdcjab
open Go.ChangeShapes Go.WideShapes Go.ChangeAt Go.RowKit Go.Deep
open Dk (Wr St)

/-- A write has octets for a sector. -/
def hasB (x : Wr) (i : Nat) : Bool := decide (0 ≤ (i : Int) - x.sec) && decide ((i : Int) - x.sec < (x.d.length : Int) / 48)
/-- What it has there. -/
def pieceOf (x : Wr) (i : Nat) : List UInt8 := (x.d.drop (48 * (i - x.sec.toNat))).take 48

/-- Is a row what it was, or what one of these writes had? -/
def isB (ws : List Wr) (i : Nat) (row old : List UInt8) : Bool := (row == old) || ws.any fun x => hasB x i && (row == pieceOf x i)

theorem isB_snoc (ws : List Wr) (x : Wr) (i : Nat) (row old : List UInt8) : isB (ws ++ [x]) i row old = (isB ws i row old || (hasB x i && (row == pieceOf x i))) := by
  unfold isB
  rw [List.any_append, Bool.or_assoc]
  simp

theorem lay1_old (q : Nat) {ss : List (List UInt8)} {x : Wr} {n : Nat} (hx : Dk.OkW n x) (hr : ∀ l ∈ ss, l.length = 48) {i : Nat} {row : List UInt8} (h : (Dk.lay1 q ss x.sec.toNat x.d)[i]? = some row) : ss[i]? = some row ∨ (hasB x i = true ∧ row = pieceOf x i) := by
  obtain ⟨-, h1, h2, h3, h4⟩ := hx
  have hi : i < ss.length := by
    have := (List.getElem?_eq_some_iff.1 h).1
    rw [Dk.lay1_length] at this
    exact this
  rw [Dk.lay1_get q (x.d.length / 48) ss x.sec.toNat x.d hr (by omega) i hi] at h
  split at h
  · rename_i hc
    simp only [Option.some.injEq] at h
    refine Or.inr ⟨?_, h.symm⟩
    unfold hasB
    simp only [Bool.and_eq_true, decide_eq_true_eq]
    omega
  · exact Or.inl h

theorem layA_old (kp : Nat → Int) (i : Nat) (row old : List UInt8) : ∀ (ws : List Wr) (j : Nat) (ss : List (List UInt8)), (∀ x ∈ ws, Dk.OkW ss.length x) → (∀ l ∈ ss, l.length = 48) → (Dk.layA kp j ss ws)[i]? = some row → ss[i]? = some old → isB ws i row old = true
  | [], _, ss, _, _, h, ho => by
    have h' : ss[i]? = some row := h
    rw [ho] at h'
    simp only [Option.some.injEq] at h'
    subst h'
    simp [isB]
  | x :: xs, j, ss, hw, hr, h, ho => by
    have hx := hw x List.mem_cons_self
    have h48 : x.d.length = 48 * (x.d.length / 48) := by
      have := hx.2.2.2.1
      omega
    have hl1 := Dk.lay1_length (kp j).toNat ss x.sec.toNat x.d
    have hi : i < (Dk.lay1 (kp j).toNat ss x.sec.toNat x.d).length := by
      rw [hl1]
      exact (List.getElem?_eq_some_iff.1 ho).1
    have ih := layA_old kp i row _ xs (j + 1) (Dk.lay1 (kp j).toNat ss x.sec.toNat x.d) (by rw [hl1]; exact fun y hy => hw y (List.mem_cons_of_mem _ hy)) (Dk.lay1_rows _ _ _ _ _ hr h48) h (List.getElem?_eq_getElem hi)
    have hmid := lay1_old (kp j).toNat hx hr (List.getElem?_eq_getElem hi)
    unfold isB at ih ⊢
    simp only [Bool.or_eq_true, beq_iff_eq, List.any_eq_true, Bool.and_eq_true] at ih ⊢
    rcases ih with h1 | ⟨y, hy, h1⟩
    · rcases hmid with h2 | ⟨h2, h3⟩
      · rw [ho] at h2
        simp only [Option.some.injEq] at h2
        exact Or.inl (h1.trans h2.symm)
      · exact Or.inr ⟨x, List.mem_cons_self, h2, h1.trans h3⟩
    · exact Or.inr ⟨y, List.mem_cons_of_mem _ hy, h1⟩

theorem crash_old {s : St} (h : Dk.Ok s) (ks : List Int) {i : Nat} {row old : List UInt8} (h1 : (Dk.layA (fun i => ks.getD i 0) 0 s.secs s.cache)[i]? = some row) (h2 : s.secs[i]? = some old) : isB s.cache i row old = true :=
  layA_old _ i row old s.cache 0 s.secs h.fits h.rows h1 h2
end Go.Proofs.Ytokebdeaahdcjab
