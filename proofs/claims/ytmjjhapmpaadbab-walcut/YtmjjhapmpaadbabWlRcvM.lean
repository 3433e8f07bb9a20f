/-
  What Recover makes of built segments, with zeros behind them, or cut off, as mathematics.
-/
import Derived.Test.YtmjjhapmpaadbabWlRcv
namespace Go.Proofs.Ytmjjhapmpaadbab
open Go.ChangeShapes Go.WideShapes Go.ChangeAt Go.RowKit Go.Deep
open Se

theorem tk_bad {l : List UInt8} (h : (getR l).1 ≠ 0) : (tkR l).2.2.2 = false := by
  unfold tkR
  rw [if_pos h]
theorem tk_zeros (k : Nat) : (tkR (List.replicate k 0)).2.2.2 = false := by
  apply tk_bad
  unfold getR
  by_cases h : (List.replicate k (0 : UInt8)).length < 8
  · rw [if_pos h]; simp
  · rw [if_neg h, if_pos (by
      simp only [List.length_replicate] at h
      rw [List.getD_eq_getElem?_getD, List.getElem?_replicate, if_pos (by omega)]
      rfl)]
    simp
theorem allZ_replicate (k : Nat) : allZ (List.replicate k 0) := fun _ h => (List.mem_replicate.1 h).2

/-- A segment with some zeros behind it. -/
def padZ (Z : Nat) (s : List UInt8) : List UInt8 := s ++ List.replicate (min Z (480 - s.length)) 0
theorem rcv_pad (Z : Nat) : ∀ (gs : List (List Rc)) (d : Int), (∀ g ∈ gs, g ≠ []) → (∀ g ∈ gs, (frs g).length ≤ 480) → Num d gs.flatten → 0 ≤ d → d + gs.flatten.length ≤ 1099511627776 →
    rcv (gs.map fun g => padZ Z (frs g)) d = (gs.map frs, d + gs.flatten.length)
  | [], d, _, _, _, _, _ => by simp [rcv]
  | g :: gs, d, hne, hl, hn, h0, h1 => by
    rw [List.flatten_cons, Num.app] at hn
    simp only [List.flatten_cons, List.length_append] at h1
    have h16 := frs_pos (hne g (by simp))
    have hl1 := hl g (by simp)
    have hsc := sc_frs g d (List.replicate (min Z (480 - (frs g).length)) 0) hn.1 h0 (by omega)
    rw [sc_stop (tk_zeros _)] at hsc
    simp only [List.append_nil, Nat.add_zero] at hsc
    have ht : (padZ Z (frs g)).take 480 = padZ Z (frs g) := List.take_of_length_le (by unfold padZ; rw [List.length_append, List.length_replicate]; omega)
    have ih := rcv_pad Z gs (d + g.length) (fun x hx => hne x (by simp [hx])) (fun x hx => hl x (by simp [hx])) hn.2 (by omega) (by omega)
    have hsc' : scR (padZ Z (frs g)) d = (g, (frs g).length) := hsc
    have hdr : (padZ Z (frs g)).drop (frs g).length = List.replicate (min Z (480 - (frs g).length)) 0 := List.drop_left
    have htk : (padZ Z (frs g)).take (frs g).length = frs g := List.take_left
    simp only [List.map_cons, rcv, ht, hsc', hdr, htk]
    rw [if_neg (by omega), if_pos (allZ_replicate _), wrap_id (by omega) (by omega), ih]
    simp only [List.flatten_cons, List.length_append]
    rw [show d + ((g.length + gs.flatten.length : Nat) : Int) = d + g.length + gs.flatten.length by omega]

/-- How many records lie whole ahead of a cut. -/
def cutN : List Rc → Nat → Nat
  | [], _ => 0
  | r :: rs, n => if 16 + r.2.length ≤ n then 1 + cutN rs (n - (16 + r.2.length)) else 0
theorem cutN_le : ∀ (rs : List Rc) (n : Nat), cutN rs n ≤ rs.length
  | [], n => by simp [cutN]
  | r :: rs, n => by
    have := cutN_le rs (n - (16 + r.2.length))
    simp only [cutN, List.length_cons]
    split <;> omega
theorem cutN_append : ∀ (rs qs : List Rc) (n : Nat), cutN (rs ++ qs) ((frs rs).length + n) = rs.length + cutN qs n
  | [], qs, n => by simp [frs]
  | r :: rs, qs, n => by
    have ih := cutN_append rs qs n
    simp only [List.cons_append, cutN, List.length_cons, frs_cons, List.length_append, rfr_length]
    rw [if_pos (by omega), show 16 + r.2.length + (frs rs).length + n - (16 + r.2.length) = (frs rs).length + n by omega, ih]
    omega
theorem tk_cut {d : Int} {x : List UInt8} {n : Nat} (hx : x.length ≤ 400) (hn : n < (rfr d x).length) : (tkR ((rfr d x).take n)).2.2.2 = false := by
  apply tk_bad
  exact get_cut (g := (2, octs d ++ x)) ⟨⟨show (1 : Int) ≤ 2 by decide, show (2 : Int) ≤ 255 by decide⟩, by simp only [List.length_append, octs_length]; omega⟩ hn
theorem sc_cut : ∀ (rs : List Rc) (d : Int) (n : Nat), Num d rs → 0 ≤ d → d + rs.length ≤ 9223372036854775807 →
    scR ((frs rs).take n) d = (rs.take (cutN rs n), (frs (rs.take (cutN rs n))).length) ∧ ((frs rs).take n).take (frs (rs.take (cutN rs n))).length = frs (rs.take (cutN rs n))
  | [], d, n, _, _, _ => by
    have e : (frs []).take n = [] := by simp [frs]
    rw [e, sc_stop tk_nil]
    simp [cutN, frs]
  | r :: rs, d, n, hn, h0, h1 => by
    obtain ⟨e, hx, hn'⟩ := hn
    simp only [List.length_cons] at h1
    simp only [cutN]
    have hfl := rfr_length r.1 r.2
    by_cases hle : 16 + r.2.length ≤ n
    · rw [if_pos hle, frs_cons, List.take_append, List.take_of_length_le (by omega), hfl]
      obtain ⟨i1, i2⟩ := sc_cut rs (d + 1) (n - (16 + r.2.length)) hn' (by omega) (by omega)
      have hone := sc_frs [r] d ((frs rs).take (n - (16 + r.2.length))) ⟨e, hx, trivial⟩ h0 (by simp; omega)
      rw [frs_one] at hone
      simp only [List.length_singleton, List.singleton_append] at hone
      rw [show d + ((1 : Nat) : Int) = d + 1 by omega, i1] at hone
      rw [hone, Nat.add_comm 1, List.take_succ_cons, frs_cons, List.length_append]
      refine ⟨rfl, ?_⟩
      rw [List.take_append, List.take_of_length_le (by omega), show (rfr r.1 r.2).length + (frs (rs.take (cutN rs (n - (16 + r.2.length))))).length - (rfr r.1 r.2).length = (frs (rs.take (cutN rs (n - (16 + r.2.length))))).length by omega, i2]
    · rw [if_neg hle, frs_cons, List.take_append_of_le_length (by omega), sc_stop (tk_cut hx (by omega))]
      simp [frs]

/-- Recover of built segments, the last of which is cut off. -/
theorem rcv_cut (g : List Rc) (n : Nat) : ∀ (is : List (List Rc)) (d : Int), (∀ x ∈ is, x ≠ []) → (∀ x ∈ is, (frs x).length ≤ 480) → (frs g).length ≤ 480 → Num d (is.flatten ++ g) → 0 ≤ d → d + is.flatten.length + g.length ≤ 1099511627776 →
    rcv (is.map frs ++ [(frs g).take n]) d = ((is ++ if cutN g n = 0 then [] else [g.take (cutN g n)]).map frs, d + (is.flatten ++ g.take (cutN g n)).length)
  | [], d, _, _, hg, hn, h0, h1 => by
    simp only [List.flatten_nil, List.nil_append, List.length_nil, Int.natCast_zero, Int.add_zero] at hn h1
    obtain ⟨s1, s2⟩ := sc_cut g d n hn h0 (by omega)
    have ht : ((frs g).take n).take 480 = (frs g).take n := List.take_of_length_le (by rw [List.length_take]; omega)
    have hcl := cutN_le g n
    have htl : (g.take (cutN g n)).length = cutN g n := by rw [List.length_take]; omega
    simp only [List.map_nil, List.nil_append, rcv, ht, s1, s2, List.flatten_nil, htl]
    by_cases hz : cutN g n = 0
    · rw [hz]
      simp [frs]
    · have h16 := frs_pos (rs := g.take (cutN g n)) (fun e => hz (by rw [← htl, e]; rfl))
      rw [if_neg (by omega), if_neg hz, wrap_id (by omega) (by omega)]
      split <;> simp
  | i :: is, d, hne, hl, hg, hn, h0, h1 => by
    rw [List.flatten_cons, List.append_assoc, Num.app] at hn
    simp only [List.flatten_cons, List.length_append] at h1
    have h16 := frs_pos (hne i (by simp))
    have hl1 := hl i (by simp)
    have hsc := sc_all hn.1 h0 (by omega)
    have ht : (frs i).take 480 = frs i := List.take_of_length_le hl1
    have ih := rcv_cut g n is (d + i.length) (fun x hx => hne x (by simp [hx])) (fun x hx => hl x (by simp [hx])) hg hn.2 (by omega) (by omega)
    simp only [List.map_cons, List.cons_append, rcv, ht, hsc, List.drop_length, List.take_length]
    rw [if_neg (by omega), if_pos (show allZ [] from fun o h => by simp at h), wrap_id (by omega) (by omega), ih]
    simp only [List.flatten_cons, List.append_assoc, List.length_append]
    rw [show d + ((i.length + (is.flatten.length + (g.take (cutN g n)).length) : Nat) : Int) = d + i.length + ((is.flatten.length + (g.take (cutN g n)).length : Nat) : Int) by omega]

theorem Lg.pad {f nx : Int} {gs : List (List Rc)} {ss : List (List UInt8)} (h : Lg f gs ss nx) (Z : Nat) : rcv (ss.map (padZ Z)) f = (ss, nx) := by
  have h1 := h.lo
  have h2 := h.hi
  have h3 := h.next
  have := rcv_pad Z gs f h.ne h.len h.num (by omega) (by omega)
  rw [h.segs, List.map_map]
  rw [h3]
  exact this
theorem Lg.cut {f nx : Int} {is : List (List Rc)} {g : List Rc} {ss : List (List UInt8)} (h : Lg f (is ++ [g]) ss nx) (n : Nat) :
    ∃ gs', rcv (is.map frs ++ [(frs g).take n]) f = (gs'.map frs, f + gs'.flatten.length) ∧ Lg f gs' (gs'.map frs) (f + gs'.flatten.length) ∧ gs'.flatten = (is ++ [g]).flatten.take (cutN (is ++ [g]).flatten ((frs is.flatten).length + n)) := by
  have h1 := h.lo
  have h2 := h.hi
  have h3 := h.next
  have h4 := h.few
  have hfl : (is ++ [g]).flatten = is.flatten ++ g := by simp
  have hn := h.num
  rw [hfl] at hn h3
  rw [List.length_append] at h3
  have hcl := cutN_le g n
  have htl : (g.take (cutN g n)).length = cutN g n := by rw [List.length_take]; omega
  have hrc := rcv_cut g n is f (fun x hx => h.ne x (by simp [hx])) (fun x hx => h.len x (by simp [hx])) (h.len g (by simp)) hn (by omega) (by omega)
  have hgf : (is ++ if cutN g n = 0 then [] else [g.take (cutN g n)]).flatten = is.flatten ++ g.take (cutN g n) := by
    by_cases hz : cutN g n = 0
    · rw [if_pos hz, hz]; simp
    · rw [if_neg hz]; simp
  refine ⟨is ++ if cutN g n = 0 then [] else [g.take (cutN g n)], ?_, ⟨rfl, ?_, ?_, ?_, rfl, h1, ?_, ?_⟩, ?_⟩
  · rw [hrc, hgf]
  · intro x hx
    rcases List.mem_append.1 hx with q | q
    · exact h.ne x (by simp [q])
    · by_cases hz : cutN g n = 0
      · rw [if_pos hz] at q; simp at q
      · rw [if_neg hz] at q
        simp at q
        subst q
        intro e
        exact hz (by rw [← htl, e]; rfl)
  · intro x hx
    rcases List.mem_append.1 hx with q | q
    · exact h.len x (by simp [q])
    · by_cases hz : cutN g n = 0
      · rw [if_pos hz] at q; simp at q
      · rw [if_neg hz] at q
        simp at q
        subst q
        have hg := h.len g (by simp)
        have e : frs g = frs (g.take (cutN g n)) ++ frs (g.drop (cutN g n)) := by rw [← frs_append, List.take_append_drop]
        rw [e, List.length_append] at hg
        omega
  · rw [hgf]
    rw [Num.app] at hn ⊢
    refine ⟨hn.1, ?_⟩
    have := hn.2
    rw [← List.take_append_drop (cutN g n) g, Num.app] at this
    exact this.1
  · rw [hgf, List.length_append]
    omega
  · rw [List.length_append] at h4 ⊢
    by_cases hz : cutN g n = 0
    · rw [if_pos hz]; simp at h4 ⊢; omega
    · rw [if_neg hz]; simp at h4 ⊢; omega
  · rw [hgf, hfl, cutN_append, List.take_append, List.take_of_length_le (l := is.flatten) (by omega), Nat.add_sub_cancel_left]
end Go.Proofs.Ytmjjhapmpaadbab
