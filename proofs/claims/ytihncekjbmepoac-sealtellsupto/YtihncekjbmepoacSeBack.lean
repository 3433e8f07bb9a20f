/-
  Get of Put, as mathematics.
-/
import Derived.Test.YtihncekjbmepoacSeLaw
namespace Go.Proofs.Ytihncekjbmepoac
open Go.ChangeShapes Go.WideShapes Go.ChangeAt Go.RowKit Go.Deep
open Se

theorem hdr_length (k : Int) (d : List UInt8) : (hdr k d).length = 4 + d.length := by simp [hdr]; omega
theorem frame_length (k : Int) (d : List UInt8) : (frame k d).length = 4 + d.length + 4 := by simp [frame, hdr_length, le4_length]

theorem lenO_hdr (k : Int) (d m : List UInt8) (hd : d.length ≤ 65536) : lenO (hdr k d ++ m) = d.length := by
  simp only [lenO, hdr, List.cons_append, List.nil_append, List.getD_cons_succ, List.getD_cons_zero, UInt8.toNat_ofNat']
  omega
theorem kind_hdr (k : Int) (d m : List UInt8) (hk : 1 ≤ k ∧ k ≤ 255) : ((hdr k d ++ m).getD 0 0).toNat = k.toNat := by
  simp only [hdr, List.cons_append, List.getD_cons_zero, UInt8.toNat_ofNat']
  omega

theorem get_put {k : Int} {d : List UInt8} (hk : 1 ≤ k ∧ k ≤ 255) (hd : d.length ≤ 65536) (more : List UInt8) : getR (frame k d ++ more) = (0, k, d, (frame k d).length) := by
  have e : frame k d ++ more = hdr k d ++ (le4 (sum (hdr k d)) ++ more) := by simp [frame]
  have hl : (frame k d ++ more).length = 4 + d.length + 4 + more.length := by rw [List.length_append, frame_length]
  have hn : lenO (frame k d ++ more) = d.length := by rw [e]; exact lenO_hdr k d _ hd
  have ho : ((frame k d ++ more).getD 0 0).toNat = k.toNat := by rw [e]; exact kind_hdr k d _ hk
  have ht : (frame k d ++ more).take (4 + d.length) = hdr k d := by rw [e, ← hdr_length k d]; exact List.take_left
  have hdp : (frame k d ++ more).drop (4 + d.length) = le4 (sum (hdr k d)) ++ more := by rw [e, ← hdr_length k d]; exact List.drop_left
  have h4 : (le4 (sum (hdr k d)) ++ more).take 4 = le4 (sum (hdr k d)) := by
    have := List.take_left (l₁ := le4 (sum (hdr k d))) (l₂ := more)
    rwa [le4_length] at this
  unfold getR
  rw [if_neg (by omega), if_neg (by omega), hn, if_neg (by omega), if_neg (by omega), ht, hdp, h4, if_pos rfl, ho, frame_length]
  have h5 : (hdr k d).drop 4 = d := by simp [hdr]
  rw [h5]
  simp only [Prod.mk.injEq, true_and, and_true]
  omega
theorem put_ok {k : Int} {d : List UInt8} (hk : 1 ≤ k ∧ k ≤ 255) (hd : d.length ≤ 65536) : putR k d = (0, frame k d) := by
  unfold putR
  rw [if_neg (by omega), if_neg (by omega)]
theorem put_bad {k : Int} {d : List UInt8} (h : ¬ ((1 ≤ k ∧ k ≤ 255) ∧ d.length ≤ 65536)) : (putR k d).1 ≠ 0 ∧ (putR k d).2 = [] := by
  unfold putR
  by_cases h1 : k < 1 ∨ 255 < k
  · rw [if_pos h1]; simp
  · rw [if_neg h1, if_pos (by omega)]; simp
end Go.Proofs.Ytihncekjbmepoac
