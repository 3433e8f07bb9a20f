/-
  Pack's answers: plain mathematics.
-/
import Derived.Test.YtclmlifhhfkagaaPkBytes
namespace Go.Proofs.Ytclmlifhhfkagaa
open Go.ChangeShapes Go.WideShapes Go.ChangeAt Go.RowKit
open Fl

theorem Bs.oct {w : World} {B : Nat} {a : Option Addr} {n c : Nat} {l : List UInt8} (h : Bs w B (.slice a n c) l) (hl : l.length ≤ 200000000000000) : Oct w a c l := by
  refine ⟨h.lay, ?_⟩
  obtain ⟨h1, h2⟩ := h
  rcases h2 with ⟨h3, h4⟩ | ⟨g, cap, cur, h3, h4, h5, h6, h7, _⟩
  · simp only [Value.slice.injEq] at h3
    obtain ⟨rfl, rfl, rfl⟩ := h3
    exact ⟨by omega, by omega, hl, fun _ => rfl, fun ad h => by cases h⟩
  · simp only [Value.slice.injEq] at h3
    obtain ⟨rfl, rfl, rfl⟩ := h3
    unfold maxLen at h7
    exact ⟨h6, by omega, hl, by simp, fun ad h _ => by cases h; rfl⟩

theorem take_enc {v : V 8} (hv : chk v = 0) (hb : bitsV 8 v) (r : List UInt8) : takeR (enc 8 v ++ r) = (0, ⟨8, v⟩, (enc 8 v).length) := by
  have h := cnt_of_chk hv
  unfold takeR
  rw [rd_enc 8 v (ok_of_chk hv) hb r 0]
  simp only [Nat.zero_add]
  rw [if_neg (by omega), List.length_append, Nat.add_sub_cancel]

theorem dec_enc {v : V 8} (hv : chk v = 0) (hb : bitsV 8 v) : decR (enc 8 v) = (0, ⟨8, v⟩) := by
  have h := take_enc hv hb []
  rw [List.append_nil] at h
  unfold decR
  rw [h]
  simp

theorem take_cut {v : V 8} (hv : chk v = 0) (hb : bitsV 8 v) {j : Nat} (hj : j < (enc 8 v).length) : takeR ((enc 8 v).take j) = (8, zeroPT, 0) := by
  unfold takeR
  rw [rd_cut 8 v (ok_of_chk hv) hb ((enc 8 v).take j) ((enc 8 v).drop j) (List.take_append_drop j _).symm (by
    intro e
    have := congrArg List.length e
    simp at this
    omega) 0]

theorem iterE_pos {S : Type} {f : S → Except Int S} (hf : ∀ s e, f s = .error e → 0 < e) : ∀ (m : Nat) (s : S) (e : Int), iterE f m s = .error e → 0 < e
  | 0, s, e, h => by cases h
  | m + 1, s, e, h => by
    simp only [iterE] at h
    cases h1 : f s with
    | error e' => rw [h1] at h; simp only [Except.error.injEq] at h; subst h; exact hf s _ h1
    | ok s' => rw [h1] at h; exact iterE_pos hf m s' e h

theorem nxtN_pos {m : Nat} {l : List UInt8} {e : Int} (h : nxtN m l = .error e) : 0 < e := by
  unfold nxtN at h
  split at h
  · simp only [Except.error.injEq] at h; omega
  · cases h

theorem rdText_pos {lo hi : Nat} {l : List UInt8} {e : Int} (h : rdText lo hi l = .error e) : 0 < e := by
  cases l with
  | nil => simp only [rdText, Except.error.injEq] at h; omega
  | cons o l =>
    simp only [rdText] at h
    split at h
    · simp only [Except.error.injEq] at h; omega
    · cases h1 : nxtN o.toNat l with
      | error e' => rw [h1] at h; simp only [Except.error.injEq] at h; subst h; exact nxtN_pos h1
      | ok p => rw [h1] at h; cases h

theorem rdBits_pos {l : List UInt8} {e : Int} (h : rdBits l = .error e) : 0 < e := by
  unfold rdBits at h
  cases h1 : nxtN 8 l with
  | error e' => rw [h1] at h; simp only [Except.error.injEq] at h; subst h; exact nxtN_pos h1
  | ok p =>
    rw [h1] at h
    simp only at h
    split at h
    · cases h
    · simp only [Except.error.injEq] at h; omega

theorem rdCount_pos {l : List UInt8} {e : Int} (h : rdCount l = .error e) : 0 < e := by
  cases l with
  | nil => simp only [rdCount, Except.error.injEq] at h; omega
  | cons o l =>
    simp only [rdCount] at h
    split at h
    · simp only [Except.error.injEq] at h; omega
    · cases h

theorem rd_pos : ∀ (n : Nat) (s : RS) (e : Int), rd n s = .error e → 0 < e
  | 0, s, e, h => by simp only [rd, Except.error.injEq] at h; omega
  | n + 1, (l, p), e, h => by
    cases l with
    | nil => simp only [rd, Except.error.injEq] at h; omega
    | cons o l =>
      have hI : ∀ s e, stepI (rd n) s = .error e → 0 < e := by
        intro s e h
        unfold stepI at h
        cases h1 : rd n s.2 with
        | error e' => rw [h1] at h; simp only [Except.error.injEq] at h; subst h; exact rd_pos n _ _ h1
        | ok q => rw [h1] at h; cases h
      have hF : ∀ s e, stepF (rd n) s = .error e → 0 < e := by
        intro s e h
        unfold stepF at h
        cases h1 : rdText 1 16 s.2.2.1 with
        | error e' => rw [h1] at h; simp only [Except.error.injEq] at h; subst h; exact rdText_pos h1
        | ok q =>
          rw [h1] at h
          simp only at h
          split at h
          · simp only [Except.error.injEq] at h; omega
          · cases h2 : rd n (q.2, s.2.2.2) with
            | error e' => rw [h2] at h; simp only [Except.error.injEq] at h; subst h; exact rd_pos n _ _ h2
            | ok q' => rw [h2] at h; cases h
      simp only [rd] at h
      split at h
      · cases h
      · split at h
        · cases h
        · split at h
          · cases h1 : rdBits l with
            | error e' => rw [h1] at h; simp only [Except.error.injEq] at h; subst h; exact rdBits_pos h1
            | ok q => rw [h1] at h; cases h
          · split at h
            · cases h1 : rdText 0 128 l with
              | error e' => rw [h1] at h; simp only [Except.error.injEq] at h; subst h; exact rdText_pos h1
              | ok q => rw [h1] at h; cases h
            · split at h
              · cases h1 : rdCount l with
                | error e' => rw [h1] at h; simp only [Except.error.injEq] at h; subst h; exact rdCount_pos h1
                | ok q =>
                  rw [h1] at h
                  simp only at h
                  cases h2 : iterE (stepI (rd n)) q.1 ([], (q.2, p + 1)) with
                  | error e' => rw [h2] at h; simp only [Except.error.injEq] at h; subst h; exact iterE_pos hI _ _ _ h2
                  | ok q' => rw [h2] at h; cases h
              · split at h
                · cases h1 : rdCount l with
                  | error e' => rw [h1] at h; simp only [Except.error.injEq] at h; subst h; exact rdCount_pos h1
                  | ok q =>
                    rw [h1] at h
                    simp only at h
                    cases h2 : iterE (stepF (rd n)) q.1 ([], [], (q.2, p + 1)) with
                    | error e' => rw [h2] at h; simp only [Except.error.injEq] at h; subst h; exact iterE_pos hF _ _ _ h2
                    | ok q' => rw [h2] at h; cases h
                · simp only [Except.error.injEq] at h; omega

/-- What is taken is a value's octets. -/
theorem take_back {b : List UInt8} (h : (takeR b).1 = 0) : ∃ (v : V 8) (r : List UInt8), takeR b = (0, ⟨8, v⟩, b.length - r.length) ∧ b = enc 8 v ++ r ∧ chk v = 0 ∧ bitsV 8 v := by
  unfold takeR at h ⊢
  cases h1 : rd 8 (b, 0) with
  | error e => rw [h1] at h; simp only at h; have := rd_pos 8 _ _ h1; omega
  | ok q =>
    obtain ⟨v, r, p⟩ := q
    rw [h1] at h
    simp only at h ⊢
    obtain ⟨e1, e2, e3, e4⟩ := enc_rd 8 _ _ _ _ _ h1
    by_cases h5 : 512 < p
    · rw [if_pos h5] at h; simp at h
    · rw [if_neg h5]
      exact ⟨v, r, rfl, e1, chk_of_ok e2 (by omega), e3⟩

theorem dec_back {b : List UInt8} (h : (decR b).1 = 0) : ∃ v : V 8, decR b = (0, ⟨8, v⟩) ∧ b = enc 8 v ∧ chk v = 0 ∧ bitsV 8 v := by
  unfold decR at h ⊢
  by_cases h0 : (takeR b).1 = 0
  · rw [if_pos h0] at h ⊢
    obtain ⟨v, r, e1, e2, e3, e4⟩ := take_back h0
    rw [e1] at h ⊢
    simp only at h ⊢
    by_cases h1 : b.length - r.length < b.length
    · rw [if_pos h1] at h; simp at h
    · rw [if_neg h1]
      have hr : r = [] := by
        apply List.eq_nil_of_length_eq_zero
        have := congrArg List.length e2
        rw [List.length_append] at this
        omega
      subst hr
      exact ⟨v, rfl, by simpa using e2, e3, e4⟩
  · rw [if_neg h0] at h
    exact absurd h h0

theorem dec_err {b : List UInt8} (h : (decR b).1 ≠ 0) : (decR b).2 = zeroPT := by
  unfold decR at h ⊢
  split
  · split
    · rfl
    · rename_i h1 h2
      rw [if_pos h1, if_neg h2] at h
      exact absurd rfl h
  · rfl

theorem enc_pos {n : Nat} (v : V n) : 0 < (enc n v).length := by
  cases n with
  | zero => exact v.elim
  | succ n =>
    obtain ⟨k, b, t, ks, its⟩ := v
    simp only [enc]
    split
    · simp
    · split
      · simp
      · split
        · simp
        · split <;> simp
end Go.Proofs.Ytclmlifhhfkagaa
