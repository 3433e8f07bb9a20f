/-
  An expression comes back from its octets; octets that are cut off are too short: as plain mathematics.
-/
import Derived.Test.YtnliokikcpnllaaExDecW
import Derived.Test.YtnliokikcpnllaaExAlike
namespace Go.Proofs.Ytnliokikcpnllaa
open Go.ChangeShapes Go.WideShapes Go.ChangeAt Go.RowKit
open Fl

/-- What memory gives of a tree: 64 bits, texts that are no greater than memory. -/
def fitX : (n : Nat) → X n → Prop
  | 0, _ => False
  | n + 1, (_, b, _, its) => U b ∧ ∀ (i : Nat) (u : X n), its[i]? = some u → fitX n u

theorem LayX.fit (n : Nat) : ∀ {w : World} {x : Value} {v : X n}, LayX w n x v → fitX n v := by
  induction n with
  | zero => intro w x v; exact v.elim
  | succ n ih =>
    rintro w x ⟨k, b, t, its⟩ ⟨ia, ic, rfl, hfit, -, hI⟩
    refine ⟨hfit.2.1, fun i u hi => ?_⟩
    obtain ⟨g, o, c0, c1, c2, c3, -, -, -, -, -, hl⟩ := hI i u hi
    exact ih hl

theorem iterX_cons {α : Type} {f : SX → Except Int (α × SX)} : ∀ (m : Nat) (s : SX), iterX f (m + 1) s = match f s with | .error e => .error e | .ok (a, s1) => match iterX f m s1 with | .error e => .error e | .ok (l, s2) => .ok (a :: l, s2)
  | 0, s => by
    simp only [iterX]
    cases f s with
    | error e => rfl
    | ok ua => rfl
  | m + 1, s => by
    have h := iterX_cons (f := f) m s
    show (match iterX f (m + 1) s with | .error e => Except.error e | .ok (l, s1) => match f s1 with | .error e => .error e | .ok (a, s2) => .ok (l ++ [a], s2)) = _
    rw [h]
    cases h1 : f s with
    | error e => rfl
    | ok ua =>
      obtain ⟨a, s1⟩ := ua
      simp only
      show _ = (match iterX f (m + 1) s1 with | .error e => Except.error e | .ok (l, s2) => .ok (a :: l, s2))
      simp only [iterX]
      cases h2 : iterX f m s1 with
      | error e => rfl
      | ok ls =>
        obtain ⟨l, s2⟩ := ls
        simp only
        cases h3 : f s2 with
        | error e => rfl
        | ok ub => rfl

theorem arr_toList (t : ByteArray) : (⟨t.toList.toArray⟩ : ByteArray) = t := by
  cases t with
  | mk d => rw [ByteArray.toList_eq]

theorem byte_nat {n : Nat} (h : n ≤ 255) : (UInt8.ofNat n).toNat = n := by
  rw [UInt8.toNat_ofNat']
  omega

theorem octet_byte {n : Nat} (h : n ≤ 255) (r : List UInt8) (q : Nat) : octetX (UInt8.ofNat n :: r, q) = .ok ((n : Int), (r, q)) := by
  simp only [octetX, byte_nat h]

theorem argB_eq {k : Int} (h : k ≠ 23) : (argB k).1 = (argB k).2 ∧ 0 ≤ (argB k).1 := by
  unfold argB
  by_cases h1 : k = 8 ∨ k = 10 ∨ k = 15 ∨ k = 20 ∨ k = 26
  · rw [if_pos h1]; exact ⟨rfl, by decide⟩
  · rw [if_neg h1]
    by_cases h2 : k = 9 ∨ k = 11 ∨ k = 12 ∨ k = 13 ∨ k = 14 ∨ k = 16 ∨ k = 17 ∨ k = 18 ∨ k = 19 ∨ k = 22 ∨ k = 24 ∨ k = 25 ∨ k = 27 ∨ k = 28 ∨ k = 29
    · rw [if_pos h2]; exact ⟨rfl, by decide⟩
    · rw [if_neg h2]
      by_cases h3 : k = 21
      · rw [if_pos h3]; exact ⟨rfl, by decide⟩
      · rw [if_neg h3, if_neg h]; exact ⟨rfl, by decide⟩

theorem texB_other {k : Int} (h4 : ¬ (k = 4 ∨ k = 8 ∨ k = 25)) : texB k = (0, 0) := by
  unfold texB
  rw [if_neg (by omega), if_neg (by omega)]

/-- A part's own octets, read. -/
theorem head_back {k b : Int} {t : ByteArray} {n : Nat} (hm : mayX k b t n = true) (hU : U b) (r : List UInt8) (q : Nat) :
    ∃ s1 s2, opR (octP (k, b, t, n) ++ r, q) = .ok (k, s1) ∧ headR k s1 = .ok (b, t, s2) ∧ countR k s2 = .ok ((n : Int), (r, q)) := by
  obtain ⟨⟨hk0, hk29⟩, hbit, ⟨ht0, ht1⟩, ⟨hn0, hn1⟩⟩ := mayX_iff.1 hm
  have ht2 := texB_le k
  have hn2 := argB_le k
  obtain ⟨kn, hkn, rfl⟩ : ∃ kn : Nat, kn ≤ 29 ∧ k = (kn : Int) := ⟨k.toNat, by omega, by omega⟩
  have hop : ∀ R, opR (UInt8.ofNat kn :: R, q) = .ok ((kn : Int), (R, q)) := fun R => by
    unfold opR
    rw [octet_byte (by omega)]
    simp only
    rw [if_pos (within_iff.2 ⟨by omega, by omega⟩)]
  by_cases h3 : (kn : Int) = 3
  · have e : octP ((kn : Int), b, t, n) ++ r = UInt8.ofNat kn :: (octs b ++ r) := by
      unfold octP
      simp only [Int.toNat_natCast]
      rw [if_pos h3]
      rfl
    rw [e]
    refine ⟨_, (r, q), hop _, ?_, ?_⟩
    · unfold headR
      rw [if_pos h3]
      unfold bitsR
      have e1 : (octs b ++ r).take 8 = octs b := by rw [List.take_append_of_le_length (by rw [octs_length]; omega), List.take_of_length_le (by rw [octs_length]; omega)]
      have e2 : (octs b ++ r).drop 8 = r := by rw [List.drop_append_of_le_length (by rw [octs_length]; omega), List.drop_of_length_le (by rw [octs_length]; omega)]; rfl
      have e3 : ¬ (octs b ++ r).length < 8 := by rw [List.length_append, octs_length]; omega
      have hc : can b = b := by
        unfold bitB at hbit
        rw [if_pos h3] at hbit
        simpa using hbit
      simp only
      rw [if_neg e3, e1, e2, numO_octs hU.1 hU.2, if_pos hc]
      have : t.size = 0 := by
        have : texB (kn : Int) = (0, 0) := texB_other (by omega)
        rw [this] at ht1
        simp only at ht1
        omega
      have ht : t = ⟨#[]⟩ := by cases t with | mk d => congr 1; exact Array.eq_empty_of_size_eq_zero this
      rw [ht]
    · unfold countR
      have ha := argB_eq (k := (kn : Int)) (by omega)
      rw [if_pos ha.1]
      congr 2
      omega
  · by_cases h4 : (kn : Int) = 4 ∨ (kn : Int) = 8 ∨ (kn : Int) = 25
    · have e : octP ((kn : Int), b, t, n) ++ r = UInt8.ofNat kn :: (UInt8.ofNat t.size :: (t.toList ++ r)) := by
        unfold octP
        simp only [Int.toNat_natCast]
        rw [if_neg h3, if_pos h4]
        rfl
      rw [e]
      refine ⟨_, (r, q), hop _, ?_, ?_⟩
      · unfold headR
        rw [if_neg h3, if_pos h4]
        unfold textR
        rw [octet_byte (by omega)]
        simp only [Int.toNat_natCast]
        rw [if_pos (within_iff.2 ⟨ht0, ht1⟩)]
        have e3 : ¬ (t.toList ++ r).length < t.size := by rw [List.length_append, toList_length]; omega
        have e1 : (t.toList ++ r).take t.size = t.toList := by rw [List.take_append_of_le_length (by rw [toList_length]; omega), List.take_of_length_le (by rw [toList_length]; omega)]
        have e2 : (t.toList ++ r).drop t.size = r := by rw [List.drop_append_of_le_length (by rw [toList_length]; omega), List.drop_of_length_le (by rw [toList_length]; omega)]; rfl
        rw [if_neg e3, e1, e2, arr_toList]
        have hb0 : b = 0 := by
          unfold bitB at hbit
          rw [if_neg h3] at hbit
          simpa using hbit
        rw [hb0]
      · unfold countR
        have ha := argB_eq (k := (kn : Int)) (by omega)
        rw [if_pos ha.1]
        congr 2
        omega
    · have hb0 : b = 0 := by
        unfold bitB at hbit
        rw [if_neg h3] at hbit
        simpa using hbit
      have ht : t = ⟨#[]⟩ := by
        have h0 : texB (kn : Int) = (0, 0) := texB_other h4
        rw [h0] at ht1
        simp only at ht1
        have h1 : t.size = 0 := by omega
        cases t with | mk d => congr 1; exact Array.eq_empty_of_size_eq_zero h1
      by_cases h23 : (kn : Int) = 23
      · have e : octP ((kn : Int), b, t, n) ++ r = UInt8.ofNat kn :: (UInt8.ofNat n :: r) := by
          unfold octP
          simp only [Int.toNat_natCast]
          rw [if_neg h3, if_neg h4, if_pos h23]
          rfl
        rw [e]
        refine ⟨_, (UInt8.ofNat n :: r, q), hop _, ?_, ?_⟩
        · unfold headR
          rw [if_neg h3, if_neg h4, hb0, ht]
        · unfold countR
          have hne : ¬ (argB (kn : Int)).1 = (argB (kn : Int)).2 := by rw [h23]; decide
          rw [if_neg hne, octet_byte (by omega)]
          simp only
          rw [if_neg (by omega)]
      · have e : octP ((kn : Int), b, t, n) ++ r = UInt8.ofNat kn :: r := by
          unfold octP
          simp only [Int.toNat_natCast]
          rw [if_neg h3, if_neg h4, if_neg h23]
          rfl
        rw [e]
        refine ⟨_, (r, q), hop _, ?_, ?_⟩
        · unfold headR
          rw [if_neg h3, if_neg h4, hb0, ht]
        · unfold countR
          have ha := argB_eq h23
          rw [if_pos ha.1]
          congr 2
          omega

theorem rd_back (n : Nat) : ∀ (N : Nat) (v : X n) (d : Int) (s s' : Nat × Int) (r : List UInt8) (q : Nat), d + (N : Int) = 9 → fitX n v → pre stM n v d s = .ok s' →
    ∃ p : X N, rdX N (encX n v ++ r, q) = .ok (p, (r, q + (s'.1 - s.1))) ∧ sameX N n p v ∧ s.1 ≤ s'.1 := by
  induction n with
  | zero => intro N v; exact v.elim
  | succ n ih =>
    rintro N ⟨k, b, t, its⟩ d s s' r q hdN ⟨hU, hfi⟩ h
    obtain ⟨s1, h1, h2⟩ := pre_inv h
    obtain ⟨hd, hc, hmay, rfl⟩ := stM_ok h1
    obtain ⟨N', rfl⟩ : ∃ N', N = N' + 1 := ⟨N - 1, by omega⟩
    have key : ∀ (l : List (X n)) (s1 s' : Nat × Int) (q : Nat), (∀ u ∈ l, fitX n u) → foldX (fun u s => pre stM n u (d + 1) s) l s1 = .ok s' →
        ∃ ps : List (X N'), iterX (rdX N') l.length ((l.map (encX n)).flatten ++ r, q) = .ok (ps, (r, q + (s'.1 - s1.1))) ∧ ps.length = l.length ∧ (∀ (i : Nat) (p : X N') (u : X n), ps[i]? = some p → l[i]? = some u → sameX N' n p u) ∧ s1.1 ≤ s'.1 := by
      intro l
      induction l with
      | nil =>
        intro s1 s' q _ h
        simp only [foldX] at h
        cases h
        refine ⟨[], by simp [iterX], rfl, fun i p u hp => by simp at hp, Nat.le_refl _⟩
      | cons a l ihl =>
        intro s1 s' q hf h
        simp only [foldX] at h
        cases h3 : pre stM n a (d + 1) s1 with
        | error e => rw [h3] at h; cases h
        | ok s2 =>
          rw [h3] at h
          obtain ⟨p, hp1, hp2, hp3⟩ := ih N' a (d + 1) s1 s2 ((l.map (encX n)).flatten ++ r) q (by omega) (hf a List.mem_cons_self) h3
          obtain ⟨ps, hq1, hq2, hq3, hq4⟩ := ihl s2 s' (q + (s2.1 - s1.1)) (fun u hu => hf u (List.mem_cons_of_mem _ hu)) h
          refine ⟨p :: ps, ?_, by simp [hq2], ?_, by omega⟩
          · simp only [List.length_cons, List.map_cons, List.flatten_cons, List.append_assoc]
            rw [iterX_cons, hp1]
            simp only
            rw [hq1]
            simp only
            congr 3
            omega
          · intro i p' u hp' hu'
            cases i with
            | zero => simp at hp' hu'; subst hp'; subst hu'; exact hp2
            | succ i => exact hq3 i p' u (by simpa using hp') (by simpa using hu')
    obtain ⟨ps, hq1, hq2, hq3, hq4⟩ := key its _ s' (q + 1) (fun u hu => by obtain ⟨i, hi⟩ := List.getElem?_of_mem hu; exact hfi i u hi) h2
    simp only at hq1 hq4
    obtain ⟨sa, sb, ha, hb, hcn⟩ := head_back hmay hU ((its.map (encX n)).flatten ++ r) (q + 1)
    refine ⟨(k, b, t, ps), ?_, ⟨rfl, rfl, rfl, hq2, hq3⟩, by omega⟩
    have e : encX (n + 1) (k, b, t, its) ++ r = octP (k, b, t, its.length) ++ ((its.map (encX n)).flatten ++ r) := by simp only [encX, List.append_assoc]
    rw [e]
    simp only [rdX]
    rw [ha]
    simp only
    rw [hb]
    simp only
    rw [hcn]
    simp only [Int.toNat_natCast]
    rw [hq1]
    simp only
    congr 3
    omega

/-- An expression that may be comes back. -/
theorem dec_enc {n : Nat} {v : X n} {s' : Nat × Int} (hf : fitX n v) (h : pre stM n v 1 (0, 0) = .ok s') : ∃ p : X 8, decR (encX n v, 0) = .ok p ∧ sameX 8 n p v ∧ ∀ o, decR (encX n v ++ [o], 0) = .error 23 := by
  have hm : s'.1 ≤ 64 := by
    have hp : ∀ (n : Nat) (u : X n) (d : Int) (s s' : Nat × Int), MetX s → pre stM n u d s = .ok s' → MetX s' := by
      intro n
      induction n with
      | zero => intro u; exact u.elim
      | succ n ih =>
        rintro ⟨k, b, t, its⟩ d s s' hm h
        obtain ⟨s1, h1, h2⟩ := pre_inv h
        have hm1 := (stM_met hm h1).1
        clear h h1 hm
        revert s1
        induction its with
        | nil => intro s1 h2 hm1; simp only [foldX] at h2; cases h2; exact hm1
        | cons a r ihr =>
          intro s1 h2 hm1
          simp only [foldX] at h2
          cases h3 : pre stM n a (d + 1) s1 with
          | error er => rw [h3] at h2; cases h2
          | ok s2 => rw [h3] at h2; exact ihr s2 h2 (ih a _ _ _ hm1 h3)
    exact (hp n v 1 (0, 0) s' ⟨by decide, by decide, by decide⟩ h).1
  obtain ⟨p, h1, h2, -⟩ := rd_back n 8 v 1 (0, 0) s' [] 0 (by decide) hf h
  refine ⟨p, ?_, h2, fun o => ?_⟩
  · unfold decR
    rw [List.append_nil] at h1
    rw [h1]
    simp only [List.length_nil, Nat.lt_irrefl, if_false]
    rw [if_neg (by omega)]
  · obtain ⟨p', h1', -, -⟩ := rd_back n 8 v 1 (0, 0) s' [o] 0 (by decide) hf h
    unfold decR
    rw [h1']
    simp

/-- A reader that is handed a beginning: too short, or the same with less left. -/
def Pfx {α : Type} (f : SX → Except Int (α × SX)) : Prop := ∀ (l z : List UInt8) (q : Nat) (v : α) (c : List UInt8) (q' : Nat), f (l ++ z, q) = .ok (v, (c, q')) → f (l, q) = .error 8 ∨ ∃ c', c = c' ++ z ∧ f (l, q) = .ok (v, (c', q'))

theorem pfx_octet : Pfx octetX := by
  intro l z q v c q' h
  cases l with
  | nil => exact Or.inl rfl
  | cons o r =>
    simp only [List.cons_append, octetX] at h
    cases h
    exact Or.inr ⟨r, rfl, rfl⟩

theorem pfx_op : Pfx opR := by
  intro l z q v c q' h
  unfold opR at h ⊢
  cases h1 : octetX (l ++ z, q) with
  | error e => rw [h1] at h; cases h
  | ok ks =>
    obtain ⟨k, s1⟩ := ks
    obtain ⟨c1, q1⟩ := s1
    rw [h1] at h
    simp only at h
    by_cases h2 : withinB k 0 29 = true
    · rw [if_pos h2] at h
      cases h
      rcases pfx_octet l z q _ c q' h1 with h3 | ⟨c', h3, h4⟩
      · rw [h3]; exact Or.inl rfl
      · rw [h4]
        simp only
        rw [if_pos h2]
        exact Or.inr ⟨c', h3, rfl⟩
    · rw [if_neg h2] at h
      cases h

theorem pfx_bits : Pfx bitsR := by
  intro l z q v c q' h
  unfold bitsR at h ⊢
  simp only at h ⊢
  by_cases h8 : l.length < 8
  · rw [if_pos h8]; exact Or.inl rfl
  · have e1 : (l ++ z).take 8 = l.take 8 := List.take_append_of_le_length (by omega)
    have e2 : (l ++ z).drop 8 = l.drop 8 ++ z := List.drop_append_of_le_length (by omega)
    have h9 : ¬ (l ++ z).length < 8 := by rw [List.length_append]; omega
    rw [if_neg h9, e1, e2] at h
    rw [if_neg h8]
    by_cases hc : can (numO (l.take 8)) = numO (l.take 8)
    · rw [if_pos hc] at h ⊢
      cases h
      exact Or.inr ⟨l.drop 8, rfl, rfl⟩
    · rw [if_neg hc] at h
      cases h

theorem pfx_text (lo hi : Int) : Pfx (textR lo hi) := by
  intro l z q v c q' h
  unfold textR at h ⊢
  cases h1 : octetX (l ++ z, q) with
  | error e => rw [h1] at h; cases h
  | ok ks =>
    obtain ⟨k, s1⟩ := ks
    obtain ⟨c1, q1⟩ := s1
    rw [h1] at h
    simp only at h
    by_cases h2 : withinB k lo hi = true
    · rw [if_pos h2] at h
      rcases pfx_octet l z q k c1 q1 h1 with h3 | ⟨c', rfl, h4⟩
      · rw [h3]; exact Or.inl rfl
      · rw [h4]
        simp only
        rw [if_pos h2]
        by_cases h5 : c'.length < k.toNat
        · rw [if_pos h5]; exact Or.inl rfl
        · have h6 : ¬ (c' ++ z).length < k.toNat := by rw [List.length_append]; omega
          rw [if_neg h6, List.take_append_of_le_length (by omega), List.drop_append_of_le_length (by omega)] at h
          rw [if_neg h5]
          cases h
          exact Or.inr ⟨_, rfl, rfl⟩
    · rw [if_neg h2] at h
      cases h

theorem pfx_count (k : Int) : Pfx (countR k) := by
  intro l z q v c q' h
  unfold countR at h ⊢
  by_cases h0 : (argB k).1 = (argB k).2
  · rw [if_pos h0] at h ⊢
    cases h
    exact Or.inr ⟨l, rfl, rfl⟩
  · rw [if_neg h0] at h ⊢
    cases h1 : octetX (l ++ z, q) with
    | error e => rw [h1] at h; cases h
    | ok ks =>
      obtain ⟨m, s1⟩ := ks
      obtain ⟨c1, q1⟩ := s1
      rw [h1] at h
      simp only at h
      by_cases h2 : (argB k).2 < m
      · rw [if_pos h2] at h; cases h
      · rw [if_neg h2] at h
        cases h
        rcases pfx_octet l z q _ c q' h1 with h3 | ⟨c', h3, h4⟩
        · rw [h3]; exact Or.inl rfl
        · rw [h4]
          simp only
          rw [if_neg h2]
          exact Or.inr ⟨c', h3, rfl⟩

theorem pfx_head (k : Int) (l z : List UInt8) (q : Nat) (b : Int) (t : ByteArray) (c : List UInt8) (q' : Nat) (h : headR k (l ++ z, q) = .ok (b, t, (c, q'))) : headR k (l, q) = .error 8 ∨ ∃ c', c = c' ++ z ∧ headR k (l, q) = .ok (b, t, (c', q')) := by
  unfold headR at h ⊢
  by_cases h3 : k = 3
  · rw [if_pos h3] at h ⊢
    cases h1 : bitsR (l ++ z, q) with
    | error e => rw [h1] at h; cases h
    | ok bs =>
      obtain ⟨b1, c1, q1⟩ := bs
      rw [h1] at h
      cases h
      rcases pfx_bits l z q b c q' h1 with h4 | ⟨c', h4, h5⟩
      · rw [h4]; exact Or.inl rfl
      · rw [h5]; exact Or.inr ⟨c', h4, rfl⟩
  · rw [if_neg h3] at h ⊢
    by_cases h4 : k = 4 ∨ k = 8 ∨ k = 25
    · rw [if_pos h4] at h ⊢
      cases h1 : textR (texB k).1 (texB k).2 (l ++ z, q) with
      | error e => rw [h1] at h; cases h
      | ok bs =>
        obtain ⟨t1, c1, q1⟩ := bs
        rw [h1] at h
        cases h
        rcases pfx_text _ _ l z q t c q' h1 with h4 | ⟨c', h4, h5⟩
        · rw [h4]; exact Or.inl rfl
        · rw [h5]; exact Or.inr ⟨c', h4, rfl⟩
    · rw [if_neg h4] at h ⊢
      cases h
      exact Or.inr ⟨l, rfl, rfl⟩

theorem pfx_iter {α : Type} {f : SX → Except Int (α × SX)} (hf : Pfx f) : ∀ m, Pfx (iterX f m)
  | 0 => by
    intro l z q v c q' h
    simp only [iterX] at h ⊢
    cases h
    exact Or.inr ⟨l, rfl, rfl⟩
  | m + 1 => by
    intro l z q v c q' h
    rw [iterX_cons] at h ⊢
    cases h1 : f (l ++ z, q) with
    | error e => rw [h1] at h; cases h
    | ok ua =>
      obtain ⟨a, c1, q1⟩ := ua
      rw [h1] at h
      simp only at h
      rcases hf l z q a c1 q1 h1 with h3 | ⟨c', rfl, h4⟩
      · rw [h3]; exact Or.inl rfl
      · rw [h4]
        simp only
        cases h5 : iterX f m (c' ++ z, q1) with
        | error e => rw [h5] at h; cases h
        | ok ls =>
          obtain ⟨r, c2, q2⟩ := ls
          rw [h5] at h
          cases h
          rcases pfx_iter hf m c' z q1 r c q' h5 with h6 | ⟨c3, h6, h7⟩
          · rw [h6]; exact Or.inl rfl
          · rw [h7]; exact Or.inr ⟨c3, h6, rfl⟩

theorem pfx_rd : ∀ n, Pfx (rdX n)
  | 0 => by intro l z q v; exact v.elim
  | n + 1 => by
    intro l z q v c q' h
    obtain ⟨k, b, t, m, its, s1, s2, s3, h1, h2, h3, h4, rfl⟩ := rdX_inv h
    obtain ⟨c1, q1⟩ := s1
    obtain ⟨c2, q2⟩ := s2
    obtain ⟨c3, q3⟩ := s3
    simp only [rdX]
    rcases pfx_op l z (q + 1) k c1 q1 h1 with g1 | ⟨d1, rfl, g1⟩
    · rw [g1]; exact Or.inl rfl
    rw [g1]
    simp only
    rcases pfx_head k d1 z q1 b t c2 q2 h2 with g2 | ⟨d2, rfl, g2⟩
    · rw [g2]; exact Or.inl rfl
    rw [g2]
    simp only
    rcases pfx_count k d2 z q2 m c3 q3 h3 with g3 | ⟨d3, rfl, g3⟩
    · rw [g3]; exact Or.inl rfl
    rw [g3]
    simp only
    rcases pfx_iter (pfx_rd n) m.toNat d3 z q3 its c q' h4 with g4 | ⟨d4, g4, g5⟩
    · rw [g4]; exact Or.inl rfl
    · rw [g5]; exact Or.inr ⟨d4, g4, rfl⟩

/-- Octets that are cut off are too short. -/
theorem dec_cut {n : Nat} {v : X n} {s' : Nat × Int} (hf : fitX n v) (h : pre stM n v 1 (0, 0) = .ok s') {at_ : Nat} (hat : at_ < (encX n v).length) : decR ((encX n v).take at_, 0) = .error 8 := by
  obtain ⟨p, h1, -, -⟩ := rd_back n 8 v 1 (0, 0) s' [] 0 (by decide) hf h
  rw [List.append_nil] at h1
  have e : (encX n v).take at_ ++ (encX n v).drop at_ = encX n v := List.take_append_drop _ _
  rw [← e] at h1
  rcases pfx_rd 8 _ _ _ _ _ _ h1 with h2 | ⟨c', h2, -⟩
  · unfold decR
    rw [h2]
  · have := congrArg List.length h2
    simp only [List.length_nil, List.length_append, List.length_drop] at this
    omega
end Go.Proofs.Ytnliokikcpnllaa
