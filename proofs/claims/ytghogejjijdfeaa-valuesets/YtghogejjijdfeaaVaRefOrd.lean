/-
  The page's order of two values that may be is the program's.
-/
import Derived.Test.YtghogejjijdfeaaVaComp
import Derived.Test.YtghogejjijdfeaaVaRefFl
namespace Go.Proofs.Ytghogejjijdfeaa
open Go.ChangeShapes Go.WideShapes Go.ChangeAt Go.RowKit
open Fl

def nmb (p q : Bool) : Int := if p = true then -1 else if q = true then 0 else 1

theorem number_any (p q : Bool) (w : World) : Calls Try.prog 48 #[.bool p, .bool q] w fun e w' => e = .returned (.int .i64 (nmb p q)) ∧ w' = w := by
  cases p <;> cases q <;> (go_enter Try.func48, Try.ntmps48; go_wp2_with fail; go_ret; exact ⟨rfl, rfl⟩)

theorem num_icmp (a b : Int) : nmb (decide (a < b)) (a == b) = icmp a b := by
  unfold icmp nmb
  simp only [decide_eq_true_eq, beq_iff_eq]
  split
  · rfl
  · split <;> (try split) <;> omega

theorem num_icmp' {a b : Int} (h : ¬ a = b) : nmb (decide (a < b)) false = icmp a b := by
  unfold icmp nmb
  simp only [decide_eq_true_eq]
  split
  · rfl
  · rw [if_neg (show ¬ false = true by decide), if_pos (by omega)]

theorem num_scmp (s t : ByteArray) : nmb (Op.bytesLess s.toList t.toList) (s.toList == t.toList) = scmp s t := by
  unfold scmp nmb
  have H := less_turn t.toList s.toList
  cases h1 : Op.bytesLess s.toList t.toList with
  | true => simp
  | false =>
    rw [h1] at H
    cases h2 : Op.bytesLess t.toList s.toList with
    | true => rw [h2] at H; simp at H; simp [H]
    | false => rw [h2] at H; simp at H; simp [H]

theorem num_scmp' {s t : ByteArray} (h : ¬ s = t) : nmb (Op.bytesLess s.toList t.toList) false = scmp s t := by
  have := num_scmp s t
  rw [toList_beq_false h] at this
  exact this

theorem bs_of_empty {s : ByteArray} (h : s.toList.isEmpty = true) : s = ByteArray.empty := bytes_ext (by simpa using h)

theorem scmp_self (s : ByteArray) : scmp s s = 0 := by have := scmp_good.1 s s; omega
theorem icmp_self (a : Int) : icmp a a = 0 := by have := icmp_good.1 a a; omega

/-- Of two parts that may be and are of one kind. -/
theorem vcmp_kind {n : Nat} {k b b' : Int} {t t' : ByteArray} {ks ks' : List ByteArray} {its its' : List (V n)} (h : mayB k b t ks its.length = true) (h' : mayB k b' t' ks' its'.length = true) :
    (k = 1 ∧ vcmp (n + 1) (k, b, t, ks, its) (k, b', t', ks', its') = icmp b b') ∨ (k = 2 ∧ vcmp (n + 1) (k, b, t, ks, its) (k, b', t', ks', its') = icmp (ord b) (ord b')) ∨
    (k = 3 ∧ vcmp (n + 1) (k, b, t, ks, its) (k, b', t', ks', its') = scmp t t') ∨
    (((k == 1) = false ∧ (k == 2) = false ∧ (k == 3) = false) ∧ vcmp (n + 1) (k, b, t, ks, its) (k, b', t', ks', its') = if lcmp scmp ks ks' = 0 then lcmp (vcmp n) its its' else lcmp scmp ks ks') := by
  unfold mayB at h h'
  simp only [vcmp]
  have nil : ∀ {α : Type} {l : List α}, ((l.length : Int) == 0) = true → l = [] := fun {α l} q => List.eq_nil_of_length_eq_zero (by simpa using q)
  by_cases k0 : k = 0
  · subst k0
    simp only [if_true, Bool.and_eq_true] at h h'
    obtain ⟨a1, a2, a3, a4⟩ := h
    obtain ⟨b1, b2, b3, b4⟩ := h'
    have c1 : b = 0 := by simpa using a1
    have d1 : b' = 0 := by simpa using b1
    subst c1 d1
    rw [bs_of_empty a2, bs_of_empty b2, nil a3, nil b3, nil a4, nil b4]
    right; right; right
    refine ⟨by decide, ?_⟩
    simp [or5, icmp_self, scmp_self, lcmp]
  · rw [if_neg k0] at h h'
    by_cases k1 : k = 1
    · subst k1
      simp only [if_true, Bool.and_eq_true] at h h'
      obtain ⟨a1, a2, a3, a4⟩ := h
      obtain ⟨b1, b2, b3, b4⟩ := h'
      rw [bs_of_empty a2, bs_of_empty b2, nil a3, nil b3, nil a4, nil b4]
      left
      refine ⟨rfl, ?_⟩
      have e12 : ¬ (1 : Int) = 2 := by decide
      simp only [or5, icmp_self, scmp_self, lcmp, rnk, if_true, if_neg e12]
      split
      · omega
      · rfl
    · rw [if_neg k1] at h h'
      by_cases k2 : k = 2
      · subst k2
        simp only [if_true, Bool.and_eq_true] at h h'
        obtain ⟨a1, a2, a3, a4⟩ := h
        obtain ⟨b1, b2, b3, b4⟩ := h'
        rw [bs_of_empty a2, bs_of_empty b2, nil a3, nil b3, nil a4, nil b4]
        right; left
        refine ⟨rfl, ?_⟩
        simp only [or5, icmp_self, scmp_self, lcmp, rnk, if_true]
        split
        · omega
        · rfl
      · rw [if_neg k2] at h h'
        by_cases k3 : k = 3
        · subst k3
          simp only [if_true, Bool.and_eq_true] at h h'
          obtain ⟨a1, a2, a3, a4⟩ := h
          obtain ⟨b1, b2, b3, b4⟩ := h'
          have c1 : b = 0 := by simpa using a1
          have d1 : b' = 0 := by simpa using b1
          subst c1 d1
          rw [nil a3, nil b3, nil a4, nil b4]
          right; right; left
          refine ⟨rfl, ?_⟩
          simp only [or5, icmp_self, lcmp, if_true]
          split
          · omega
          · rfl
        · rw [if_neg k3] at h h'
          right; right; right
          refine ⟨⟨by simpa using k1, by simpa using k2, by simpa using k3⟩, ?_⟩
          have hb : b = 0 ∧ t = ByteArray.empty := by
            split at h
            · simp only [Bool.and_eq_true] at h; exact ⟨by simpa using h.1, bs_of_empty h.2.1⟩
            · split at h
              · simp only [Bool.and_eq_true] at h; exact ⟨by simpa using h.1, bs_of_empty h.2.1⟩
              · cases h
          have hb' : b' = 0 ∧ t' = ByteArray.empty := by
            split at h'
            · simp only [Bool.and_eq_true] at h'; exact ⟨by simpa using h'.1, bs_of_empty h'.2.1⟩
            · split at h'
              · simp only [Bool.and_eq_true] at h'; exact ⟨by simpa using h'.1, bs_of_empty h'.2.1⟩
              · cases h'
          rw [hb.1, hb.2, hb'.1, hb'.2]
          simp only [or5, icmp_self, scmp_self, if_true]

theorem vcmp_other {n : Nat} {k b k' b' : Int} {t t' : ByteArray} {ks ks' : List ByteArray} {its its' : List (V n)} (h : ¬ k = k') : vcmp (n + 1) (k, b, t, ks, its) (k', b', t', ks', its') = icmp k k' := by
  simp only [vcmp, or5]
  rw [if_neg (fun e => h (icmp_zero e))]
end Go.Proofs.Ytghogejjijdfeaa
