/-
  What was written is read, as mathematics.
-/
import Derived.Test.YtokebdeaahdcjabDkFollow
namespace Go.Proofs.Ytokebdeaahdcjab
open Go.ChangeShapes Go.WideShapes Go.ChangeAt Go.RowKit Go.Deep
open Dk (Wr St)

/-- A write that is taken. -/
theorem do_write {s : St} {x : Wr} (h0 : (Dk.doR s x).1 = 0) (hf : x.fl = false) : Dk.Ok s ∧ (Dk.doR s x).2 = ⟨s.secs, s.cache ++ [⟨false, x.sec, x.d⟩]⟩ ∧ Dk.OkW s.secs.length ⟨false, x.sec, x.d⟩ ∧ Dk.Ok ⟨s.secs, s.cache ++ [⟨false, x.sec, x.d⟩]⟩ := by
  have hc : Dk.chk s = 0 := by
    by_cases h : Dk.chk s = 0
    · exact h
    · unfold Dk.doR at h0
      rw [if_pos h] at h0
      exact h0
  have hok := Dk.chk_zero.1 hc
  have hr : Dk.refusal s x = 0 := by
    by_cases h : Dk.refusal s x = 0
    · exact h
    · unfold Dk.doR at h0
      rw [if_neg (by rw [hc]; simp), if_pos h] at h0
      exact h0
  have hd : Dk.doR s x = (0, ⟨s.secs, s.cache ++ [⟨false, x.sec, x.d⟩]⟩) := by
    unfold Dk.doR
    rw [if_neg (by rw [hc]; simp), if_neg (by rw [hr]; simp), hf]
    rfl
  have hmis : Dk.misfit x s.secs.length = 0 ∧ s.cache.length ≠ 4096 := by
    unfold Dk.refusal at hr
    rw [hf] at hr
    by_cases h : Dk.misfit x s.secs.length = 0
    · refine ⟨h, fun h4 => ?_⟩
      simp [h, h4] at hr
    · simp [h] at hr
  have hw : Dk.OkW s.secs.length ⟨false, x.sec, x.d⟩ := ⟨rfl, Dk.misfit_zero.1 hmis.1⟩
  refine ⟨hok, by rw [hd], hw, hok.lo, hok.hi, ?_, hok.rows, ?_⟩
  · have := hok.few
    simp only [List.length_append, List.length_singleton]
    omega
  · intro y hy
    rcases List.mem_append.1 hy with h | h
    · exact hok.fits y h
    · simp at h
      subst h
      exact hw

/-- Errors tell no state. -/
theorem do_err {s : St} {x : Wr} (h0 : (Dk.doR s x).1 ≠ 0) : (Dk.doR s x).2 = ⟨[], []⟩ := by
  unfold Dk.doR at h0 ⊢
  split
  · rfl
  · rename_i h1
    rw [if_neg h1] at h0
    split
    · rfl
    · rename_i h2
      rw [if_neg h2] at h0
      exact absurd rfl h0

theorem full_snoc (s : St) (x : Wr) : Dk.full ⟨s.secs, s.cache ++ [x]⟩ = Dk.lay1 4096 (Dk.full s) x.sec.toNat x.d := by
  show Dk.layA _ 0 s.secs (s.cache ++ [x]) = _
  rw [Dk.layA_snoc]
  rfl

theorem lay_read {F : List (List UInt8)} (hr : ∀ l ∈ F, l.length = 48) {a k : Nat} {d : List UInt8} (hd : d.length = 48 * k) (hk : a + k ≤ F.length) (h4 : F.length ≤ 4096) : (((Dk.lay1 4096 F a d).drop a).take k).flatten = d := by
  have hrows := Dk.lay1_rows 4096 k F a d hr hd
  have hL : ∀ l ∈ ((Dk.lay1 4096 F a d).drop a).take k, l.length = 48 := fun l hl => hrows l (List.mem_of_mem_drop (List.mem_of_mem_take hl))
  refine List.ext_getElem? fun p => ?_
  rw [flat_get _ hL]
  by_cases hp : p < 48 * k
  · rw [List.getElem?_take_of_lt (by omega), List.getElem?_drop, Dk.lay1_get 4096 k F a d hr hd _ (by omega), if_pos (by omega)]
    simp only [Option.bind_some]
    rw [List.getElem?_take_of_lt (by omega), List.getElem?_drop]
    congr 1
    omega
  · rw [List.getElem?_eq_none (by rw [List.length_take]; omega), List.getElem?_eq_none (by omega)]
    rfl

theorem lay_other {F : List (List UInt8)} (hr : ∀ l ∈ F, l.length = 48) {a k lo n : Nat} {d : List UInt8} (hd : d.length = 48 * k) (h : lo + n ≤ a ∨ a + k ≤ lo) (hl : lo + n ≤ F.length) : ((Dk.lay1 4096 F a d).drop lo).take n = (F.drop lo).take n := by
  refine List.ext_getElem? fun p => ?_
  by_cases hp : p < n
  · rw [List.getElem?_take_of_lt hp, List.getElem?_take_of_lt hp, List.getElem?_drop, List.getElem?_drop, Dk.lay1_get 4096 k F a d hr hd _ (by omega), if_neg (by omega)]
  · rw [List.getElem?_eq_none (by rw [List.length_take]; omega), List.getElem?_eq_none (by rw [List.length_take]; omega)]

/-- All that the statement reads. -/
theorem reads_all {s : St} {x : Wr} (h0 : (Dk.doR s x).1 = 0) (hf : x.fl = false) : ∃ (a k : Nat) (P Q : List UInt8), x.sec = (a : Int) ∧ x.d.length / 48 = k ∧ a + k ≤ s.secs.length ∧ s.secs.length ≤ 4096 ∧
    Dk.readR (Dk.doR s x).2 a k = (0, x.d) ∧ Dk.readR s 0 a = (0, P) ∧ Dk.readR (Dk.doR s x).2 0 a = (0, P) ∧ Dk.readR s ((a + k : Nat) : Int) ((s.secs.length - a - k : Nat) : Int) = (0, Q) ∧ Dk.readR (Dk.doR s x).2 ((a + k : Nat) : Int) ((s.secs.length - a - k : Nat) : Int) = (0, Q) := by
  obtain ⟨hok, hd, hw, hok2⟩ := do_write h0 hf
  obtain ⟨-, h2, h3, h4, h5⟩ := hw
  simp only at h2 h3 h4 h5
  have hrows := full_rows hok
  have hlen := full_length s
  have hhi := hok.hi
  have hdl : x.d.length = 48 * (x.d.length / 48) := by omega
  have hfu : Dk.full ⟨s.secs, s.cache ++ [⟨false, x.sec, x.d⟩]⟩ = Dk.lay1 4096 (Dk.full s) x.sec.toNat x.d := full_snoc s ⟨false, x.sec, x.d⟩
  rw [hd]
  have r1 := read_ok hok2 x.sec.toNat (x.d.length / 48) h5
  have r2 := read_ok hok 0 x.sec.toNat (by omega)
  have r3 := read_ok hok2 0 x.sec.toNat (by show 0 + x.sec.toNat ≤ s.secs.length; omega)
  have r4 := read_ok hok (x.sec.toNat + x.d.length / 48) (s.secs.length - x.sec.toNat - x.d.length / 48) (by omega)
  have r5 := read_ok hok2 (x.sec.toNat + x.d.length / 48) (s.secs.length - x.sec.toNat - x.d.length / 48) (by show x.sec.toNat + x.d.length / 48 + (s.secs.length - x.sec.toNat - x.d.length / 48) ≤ s.secs.length; omega)
  rw [hfu] at r1 r3 r5
  rw [lay_read hrows hdl (by omega) (by omega)] at r1
  rw [lay_other hrows hdl (Or.inl (by omega)) (by omega)] at r3
  rw [lay_other hrows hdl (Or.inr (by omega)) (by omega)] at r5
  exact ⟨x.sec.toNat, x.d.length / 48, _, _, by omega, rfl, h5, hhi, r1, r2, r3, r4, r5⟩
end Go.Proofs.Ytokebdeaahdcjab
