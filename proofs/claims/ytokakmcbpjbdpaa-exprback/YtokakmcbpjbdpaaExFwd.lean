/-
  What is read of octets is built again of them: as plain mathematics.
-/
import Derived.Test.YtokakmcbpjbdpaaExLaw
namespace Go.Proofs.Ytokakmcbpjbdpaa
open Go.ChangeShapes Go.WideShapes Go.ChangeAt Go.RowKit
open Fl

theorem ofNat_toNatX (o : UInt8) : UInt8.ofNat o.toNat = o := by
  apply UInt8.toNat_inj.1
  rw [UInt8.toNat_ofNat']
  have := o.toNat_lt
  omega

theorem octetX_fwd {s s' : SX} {k : Int} (h : octetX s = .ok (k, s')) : s.1 = UInt8.ofNat k.toNat :: s'.1 ∧ s'.2 = s.2 ∧ 0 ≤ k ∧ k ≤ 255 := by
  have hb := octetX_bd h
  obtain ⟨l, q⟩ := s
  cases l with
  | nil => cases h
  | cons o r =>
    simp only [octetX] at h
    cases h
    exact ⟨by simp only [Int.toNat_natCast, ofNat_toNatX], rfl, hb⟩

theorem toList_arr (l : List UInt8) : (⟨l.toArray⟩ : ByteArray).toList = l := by rw [ByteArray.toList_eq]

theorem head_fwd {l : List UInt8} {q : Nat} {k b m : Int} {t : ByteArray} {s1 s2 s3 : SX} (h1 : opR (l, q) = .ok (k, s1)) (h2 : headR k s1 = .ok (b, t, s2)) (h3 : countR k s2 = .ok (m, s3)) :
    l = octP (k, b, t, m.toNat) ++ s3.1 ∧ mayX k b t m.toNat = true ∧ s3.2 = q ∧ 0 ≤ m := by
  have hk := (opR_ok h1).1
  have hl : l = UInt8.ofNat k.toNat :: s1.1 ∧ s1.2 = q := by
    unfold opR at h1
    cases h4 : octetX (l, q) with
    | error e => rw [h4] at h1; cases h1
    | ok ks =>
      obtain ⟨k1, s4⟩ := ks
      rw [h4] at h1
      simp only at h1
      by_cases h5 : withinB k1 0 29 = true
      · rw [if_pos h5] at h1
        cases h1
        have := octetX_fwd h4
        exact ⟨this.1, this.2.1⟩
      · rw [if_neg h5] at h1
        cases h1
  obtain ⟨hl, hq1⟩ := hl
  have hm := (countR_ok h3).1
  unfold headR at h2
  by_cases k3 : k = 3
  · subst k3
    rw [if_pos rfl] at h2
    unfold bitsR at h2
    by_cases h8 : s1.1.length < 8
    · rw [if_pos h8] at h2; cases h2
    rw [if_neg h8] at h2
    by_cases hc : can (numO (s1.1.take 8)) = numO (s1.1.take 8)
    · rw [if_pos hc] at h2
      simp only at h2
      cases h2
      unfold countR at h3
      rw [if_pos (by decide)] at h3
      cases h3
      have ho := (octs_numO (a := s1.1.take 8) (by rw [List.length_take]; omega)).1
      refine ⟨?_, ?_, hq1, by decide⟩
      · rw [hl]
        have e : octP (3, numO (s1.1.take 8), ⟨#[]⟩, (argB 3).1.toNat) = UInt8.ofNat 3 :: octs (numO (s1.1.take 8)) := rfl
        rw [e, ho]
        simp
      · refine mayX_iff.2 ⟨hk, ?_, by decide, by decide⟩
        unfold bitB
        rw [if_pos rfl]
        simpa using hc
    · rw [if_neg hc] at h2; cases h2
  · rw [if_neg k3] at h2
    by_cases k4 : k = 4 ∨ k = 8 ∨ k = 25
    · rw [if_pos k4] at h2
      unfold textR at h2
      cases h4 : octetX s1 with
      | error e => rw [h4] at h2; cases h2
      | ok ks =>
        obtain ⟨n, s4⟩ := ks
        rw [h4] at h2
        simp only at h2
        obtain ⟨f1, f2, f3, f4⟩ := octetX_fwd h4
        by_cases h5 : withinB n (texB k).1 (texB k).2 = true
        · rw [if_pos h5] at h2
          by_cases h6 : s4.1.length < n.toNat
          · rw [if_pos h6] at h2; cases h2
          · rw [if_neg h6] at h2
            simp only at h2
            cases h2
            unfold countR at h3
            have ha := argB_eq (k := k) (by omega)
            rw [if_pos ha.1] at h3
            cases h3
            have hsz : (⟨(s4.1.take n.toNat).toArray⟩ : ByteArray).size = n.toNat := by
              show (s4.1.take n.toNat).toArray.size = _
              rw [List.size_toArray, List.length_take]
              omega
            refine ⟨?_, ?_, by simp only; omega, ha.2⟩
            · rw [hl, f1]
              have e : octP (k, 0, ⟨(s4.1.take n.toNat).toArray⟩, (argB k).1.toNat) = UInt8.ofNat k.toNat :: UInt8.ofNat n.toNat :: s4.1.take n.toNat := by
                unfold octP
                simp only
                rw [if_neg k3, if_pos k4, hsz, toList_arr]
              rw [e]
              simp
            · refine mayX_iff.2 ⟨hk, ?_, ?_, by omega, by omega⟩
              · unfold bitB
                rw [if_neg k3]
                rfl
              · rw [hsz]
                have := within_iff.1 h5
                omega
        · rw [if_neg h5] at h2; cases h2
    · rw [if_neg k4] at h2
      cases h2
      have htx := texB_other k4
      have hbt : bitB k 0 = true := by
        unfold bitB
        rw [if_neg k3]
        rfl
      by_cases k23 : k = 23
      · subst k23
        unfold countR at h3
        rw [if_neg (by decide)] at h3
        cases h4 : octetX s1 with
        | error e => rw [h4] at h3; cases h3
        | ok ks =>
          obtain ⟨n, s4⟩ := ks
          rw [h4] at h3
          simp only at h3
          obtain ⟨f1, f2, f3, f4⟩ := octetX_fwd h4
          by_cases h6 : (argB 23).2 < n
          · rw [if_pos h6] at h3; cases h3
          · rw [if_neg h6] at h3
            cases h3
            have h8 : (argB 23).2 = 8 := by decide
            refine ⟨?_, ?_, by omega, f3⟩
            · rw [hl, f1]
              have e : octP (23, 0, ⟨#[]⟩, m.toNat) = [UInt8.ofNat 23, UInt8.ofNat m.toNat] := rfl
              rw [e]
              rfl
            · refine mayX_iff.2 ⟨hk, hbt, by rw [htx]; decide, ?_, ?_⟩
              · have : (argB 23).1 = 0 := by decide
                omega
              · have : (argB 23).2 = 8 := by decide
                omega
      · unfold countR at h3
        have ha := argB_eq k23
        rw [if_pos ha.1] at h3
        cases h3
        refine ⟨?_, ?_, hq1, ha.2⟩
        · rw [hl]
          have e : octP (k, 0, ⟨#[]⟩, (argB k).1.toNat) = [UInt8.ofNat k.toNat] := by
            unfold octP
            simp only
            rw [if_neg k3, if_neg k4, if_neg k23]
          rw [e]
          rfl
        · exact mayX_iff.2 ⟨hk, hbt, by rw [htx]; decide, by omega, by omega⟩

theorem rd_fwd (N : Nat) : ∀ (l : List UInt8) (q : Nat) (p : X N) (c : List UInt8) (q' : Nat), rdX N (l, q) = .ok (p, (c, q')) →
    l = encX N p ++ c ∧ q ≤ q' ∧ ∀ (d : Int) (s : Nat × Int), d + (N : Int) = 9 → s.1 + (q' - q) ≤ 64 → ∃ e', pre stM N p d s = .ok (s.1 + (q' - q), e') := by
  induction N with
  | zero => intro l q p; exact p.elim
  | succ N ih =>
    intro l q p c q' h
    obtain ⟨k, b, t, m, its, s1, s2, s3, h1, h2, h3, h4, rfl⟩ := rdX_inv h
    obtain ⟨g1, g2, g3, g4⟩ := head_fwd h1 h2 h3
    obtain ⟨c3, q3⟩ := s3
    simp only at g1 g3
    subst g3
    obtain ⟨M, rfl⟩ : ∃ M : Nat, m = (M : Int) := ⟨m.toNat, by omega⟩
    simp only [Int.toNat_natCast] at h4 g1 g2
    have key : ∀ (M : Nat) (l : List UInt8) (q : Nat) (its : List (X N)), iterX (rdX N) M (l, q) = .ok (its, (c, q')) →
        l = (its.map (encX N)).flatten ++ c ∧ its.length = M ∧ q ≤ q' ∧ ∀ (d : Int) (s : Nat × Int), d + (N : Int) = 9 → s.1 + (q' - q) ≤ 64 → ∃ e', foldX (fun u s => pre stM N u d s) its s = .ok (s.1 + (q' - q), e') := by
      intro M
      induction M with
      | zero =>
        intro l q its h
        simp only [iterX] at h
        cases h
        exact ⟨by simp, rfl, Nat.le_refl _, fun d s _ _ => ⟨s.2, by simp [foldX]⟩⟩
      | succ M ihM =>
        intro l q its h
        rw [iterX_cons] at h
        cases h5 : rdX N (l, q) with
        | error e => rw [h5] at h; cases h
        | ok ua =>
          obtain ⟨a, c1, q1⟩ := ua
          rw [h5] at h
          simp only at h
          cases h6 : iterX (rdX N) M (c1, q1) with
          | error e => rw [h6] at h; cases h
          | ok ls =>
            obtain ⟨r, c2, q2⟩ := ls
            rw [h6] at h
            cases h
            obtain ⟨f1, f2, f3⟩ := ih l q a c1 q1 h5
            obtain ⟨f4, f5, f6, f7⟩ := ihM c1 q1 r h6
            refine ⟨?_, by simp [f5], by omega, ?_⟩
            · rw [f1]
              simp only [List.map_cons, List.flatten_cons, List.append_assoc]
              rw [← f4]
            · intro d s hd hs
              obtain ⟨e1, g1⟩ := f3 d s hd (by omega)
              obtain ⟨e2, g2⟩ := f7 d (s.1 + (q1 - q), e1) hd (by simp only; omega)
              refine ⟨e2, ?_⟩
              simp only [foldX]
              rw [g1]
              simp only at g2 ⊢
              rw [g2]
              congr 2
              omega
    obtain ⟨f1, f2, f3, f4⟩ := key M c3 (q + 1) its h4
    refine ⟨?_, by omega, ?_⟩
    · rw [g1, f1]
      simp only [encX, f2, List.append_assoc]
    · intro d s hd hs
      have hst : stM d (k, b, t, its.length) s = .ok (s.1 + 1, max d s.2) := by
        unfold stM
        simp only [f2]
        rw [if_neg (by omega), if_neg (by omega), if_pos g2]
      obtain ⟨e', g5⟩ := f4 (d + 1) (s.1 + 1, max d s.2) (by omega) (by simp only; omega)
      refine ⟨e', ?_⟩
      rw [pre_ok hst, g5]
      congr 2
      simp only
      omega

/-- What is read, is built again. -/
theorem dec_fwd {l : List UInt8} {p : X 8} (h : decR (l, 0) = .ok p) : encX 8 p = l ∧ ∃ s, pre stM 8 p 1 (0, 0) = .ok s := by
  unfold decR at h
  cases h1 : rdX 8 (l, 0) with
  | error e => rw [h1] at h; cases h
  | ok ps =>
    obtain ⟨p', c, q'⟩ := ps
    rw [h1] at h
    simp only at h
    by_cases h2 : 0 < c.length
    · rw [if_pos h2] at h; cases h
    · rw [if_neg h2] at h
      by_cases h3 : 64 < q'
      · rw [if_pos h3] at h; cases h
      · rw [if_neg h3] at h
        cases h
        obtain ⟨f1, -, f3⟩ := rd_fwd 8 l 0 p c q' h1
        have hc : c = [] := List.eq_nil_of_length_eq_zero (by omega)
        subst hc
        obtain ⟨e', g⟩ := f3 1 (0, 0) (by decide) (by simp only; omega)
        exact ⟨by rw [f1, List.append_nil], _, g⟩
end Go.Proofs.Ytokakmcbpjbdpaa
