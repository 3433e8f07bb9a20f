/-
  The page's put, whatever the step.
-/
import Derived.Test.YtkjiiggboblioaaVaRPutE
import Derived.Test.YtkjiiggboblioaaVaRPutK
namespace Go.Proofs.Ytkjiiggboblioaa
open Go.ChangeShapes Go.WideShapes Go.ChangeAt Go.RowKit
open Fl

theorem il_of_may {k b : Int} {t : ByteArray} {ks : List ByteArray} {il : Nat} (h : mayB k b t ks il = true) (hk : k = 4 ∨ k = 5) : il ≤ 32 := by
  rcases hk with rfl | rfl
  · simp [mayB] at h
    omega
  · simp [mayB] at h
    omega

theorem plc_82 {k : Int} {ks : List ByteArray} {il : Nat} {s : St} (h : (plc k ks il s).1 = 82) : s.1 = false ∧ k = 4 := by
  unfold plc at h
  by_cases h1 : s.1 = true
  · rw [if_pos h1] at h
    split at h
    · split at h <;> simp at h
    · simp at h
  · rw [if_neg h1] at h
    by_cases h4 : k = 4
    · exact ⟨by simpa using h1, h4⟩
    · rw [if_neg h4] at h
      simp at h

theorem plc_71 {k : Int} {ks : List ByteArray} {il : Nat} {s : St} (h : (plc k ks il s).1 = 71) : s.1 = true ∧ k = 5 ∧ ks[lb ks s.2.1]? ≠ some s.2.1 := by
  unfold plc at h
  by_cases h1 : s.1 = true
  · rw [if_pos h1] at h
    by_cases h5 : k = 5
    · rw [if_pos h5] at h
      by_cases h6 : ks[lb ks s.2.1]? = some s.2.1
      · rw [if_pos h6] at h
        simp at h
      · exact ⟨h1, h5, h6⟩
    · rw [if_neg h5] at h
      simp at h
  · rw [if_neg h1] at h
    split at h
    · split at h <;> simp at h
    · simp at h

theorem plc_all (k : Int) (ks : List ByteArray) (il : Nat) (s : St) : (plc k ks il s).1 = 0 ∨ (plc k ks il s).1 = 71 ∨ (plc k ks il s).1 = 82 ∨ (plc k ks il s).1 = 81 := by
  unfold plc
  split <;> split <;> (try split) <;> simp

/-- put: the answer is the tree's. -/
theorem rput_any {n : Nat} (k b : Int) (t : ByteArray) (ks : List ByteArray) (its : List (V n)) (s : St) (x : V n) (xv yv : Value) (F Fx : Nat → Prop) (w : World) (hm : mayB k b t ks its.length = true) (ho : Own w (n + 1) xv (k, b, t, ks, its) F) (hx : Own w n yv x Fx) (hF : ∀ b, F b → b < w.heap.size) (hFx : ∀ b, Fx b → b < w.heap.size ∧ ¬ F b)
    (hsx : -9223372036854775808 ≤ s.2.2 ∧ s.2.2 ≤ 9223372036854775807) (hz : s.2.1.size ≤ 140737488351232) :
    Calls Try.prog 30 #[xv, .agg #[.bool s.1, .string s.2.1, .int .i64 s.2.2], yv] w (PutPost (n := n) w F Fx (setV x [s] ((k, b, t, ks, its) : V (n + 1)))) := by
  have hup : k = 5 → Up ks := fun e => by subst e; exact (up_of_may hm).1
  have err : ∀ (e : Int) (r : V (n + 1)) (y : Ending) (w' : World), (setV x [s] ((k, b, t, ks, its) : V (n + 1))).1 = e → PutPost (n := n) w F Fx (e, r) y w' → e ≠ 0 → PutPost (n := n) w F Fx (setV x [s] ((k, b, t, ks, its) : V (n + 1))) y w' := by
    rintro e r y w' h1 ⟨z, q1, q2, q3, q4⟩ h0
    exact ⟨z, by rw [h1]; exact q1, q2, fun h => absurd (h1.symm.trans h) h0, fun _ => q4 h0⟩
  rcases plc_all k ks its.length s with h0 | h71 | h82 | h81
  · have hi := plc_lt hm h0
    have e : setV x [s] ((k, b, t, ks, its) : V (n + 1)) = (0, ((k, b, t, ks, its.set (plc k ks its.length s).2 x) : V (n + 1))) := by
      simp only [setV, h0, if_true]
      rfl
    rw [e]
    exact rput_here k b t ks its s x xv yv F Fx w ho hx hF hFx hup hsx h0 hi
  · obtain ⟨hq, rfl, hn⟩ := plc_71 h71
    have hil := il_of_may hm (Or.inr rfl)
    by_cases hk : keyB s.2.1 = true
    · by_cases hl : its.length = 32
      · exact (rput_many 5 b t ks its s x xv yv F Fx w ho hx hup hsx (5, b, t, ks, its) h71 hk hz hl).mono fun y w' h => err 3 _ y w' (by rw [setV_full (Or.inl h71) (by simp [roomE, hq, hk, hl])]; simp [roomE, hq, hk, hl]) h (by decide)
      · rw [setV_room (Or.inl h71) (by simp [roomE, hq, hk, hl])]
        obtain ⟨q, key, ix⟩ := s
        simp only at hq
        subst hq
        have h := rput_key b t ks its key ix x xv yv F Fx w ho hx hF hFx (hup rfl) (up_of_may hm).2.symm hsx hn hk hz (by omega)
        exact h
    · have hk' : keyB s.2.1 = false := by simpa using hk
      exact (rput_name 5 b t ks its s x xv yv F Fx w ho hx hup hsx (5, b, t, ks, its) h71 hk' hz).mono fun y w' h => err 31 _ y w' (by rw [setV_full (Or.inl h71) (by simp [roomE, hq, hk'])]; simp [roomE, hq, hk']) h (by decide)
  · obtain ⟨hq, rfl⟩ := plc_82 h82
    have hil := il_of_may hm (Or.inl rfl)
    by_cases hx2 : s.2.2 = its.length
    · by_cases hl : its.length = 32
      · exact (rput_full 4 b t ks its s x xv yv F Fx w ho hx hup hsx (4, b, t, ks, its) h82 hx2 hl).mono fun y w' h => err 3 _ y w' (by rw [setV_full (Or.inr h82) (by simp [roomE, hq, hx2, hl])]; simp [roomE, hq, hx2, hl]) h (by decide)
      · rw [setV_room (Or.inr h82) (by simp [roomE, hq, hx2, hl])]
        have h := rput_more 4 b t ks its s x xv yv F Fx w ho hx hF hFx hup hsx h82 hx2 (by omega)
        have e : ins its (roomAt ks its.length s) x = its ++ [x] := by simp [roomAt, hq, ins]
        have e2 : (if s.1 = true then ins ks (roomAt ks its.length s) s.2.1 else ks) = ks := by rw [hq]; rfl
        rw [e, e2]
        exact h
    · exact (rput_far 4 b t ks its s x xv yv F Fx w ho hx hup hsx (4, b, t, ks, its) h82 hx2).mono fun y w' h => err 82 _ y w' (by rw [setV_full (Or.inr h82) (by simp [roomE, hq, hx2])]; simp [roomE, hq, hx2]) h (by decide)
  · exact (rput_kind k b t ks its s x xv yv F Fx w ho hx hup hsx (k, b, t, ks, its) h81).mono fun y w' h => err 81 _ y w' (by rw [setV_err (p := []) (by omega) (Or.inr (by omega))]; exact h81) h (by decide)
end Go.Proofs.Ytkjiiggboblioaa
