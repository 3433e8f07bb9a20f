/-
  What was set is got; elsewhere all stays: plain mathematics.
-/
import Derived.Test.YtkjiiggboblioaaVaSet
namespace Go.Proofs.Ytkjiiggboblioaa
open Go.ChangeShapes Go.WideShapes Go.ChangeAt Go.RowKit
open Fl

theorem lb_low : ∀ (ks : List ByteArray) (t : ByteArray) (m : Nat) (s : ByteArray), m < lb ks t → ks[m]? = some s → Op.bytesLess s.toList t.toList = true
  | [], _, m, s, h, _ => by simp [lb] at h
  | a :: l, t, m, s, h, hs => by
    unfold lb at h
    split at h
    · rename_i h1
      cases m with
      | zero => simp at hs; subst hs; exact h1
      | succ m => exact lb_low l t m s (by omega) (by simpa using hs)
    · omega

theorem lb_at : ∀ (ks : List ByteArray) (t : ByteArray) (s : ByteArray), ks[lb ks t]? = some s → Op.bytesLess s.toList t.toList = false
  | [], _, s, h => by simp [lb] at h
  | a :: l, t, s, h => by
    unfold lb at h
    split at h
    · exact lb_at l t s (by simpa using h)
    · rename_i h1
      simp at h
      subst h
      simpa using h1

theorem ins_lo {α : Type} {l : List α} {i : Nat} {a : α} {m : Nat} (hi : i ≤ l.length) (h : m < i) : (ins l i a)[m]? = l[m]? := by
  unfold ins
  have hA : (l.take i).length = i := by rw [List.length_take]; omega
  rw [List.getElem?_append_left (by omega), List.getElem?_take_of_lt h]
theorem ins_at {α : Type} {l : List α} {i : Nat} {a : α} (hi : i ≤ l.length) : (ins l i a)[i]? = some a := by
  unfold ins
  have hA : (l.take i).length = i := by rw [List.length_take]; omega
  rw [List.getElem?_append_right (by omega), hA, Nat.sub_self]
  rfl
theorem ins_hi {α : Type} {l : List α} {i : Nat} {a : α} {m : Nat} (hi : i ≤ l.length) (h : i ≤ m) : (ins l i a)[m + 1]? = l[m]? := by
  unfold ins
  have hA : (l.take i).length = i := by rw [List.length_take]; omega
  rw [List.getElem?_append_right (by omega), hA, show m + 1 - i = (m - i) + 1 by omega, List.getElem?_cons_succ, List.getElem?_drop]
  congr 1
  omega

/-- The place of a key that was put in. -/
theorem lb_ins_self {ks : List ByteArray} {t : ByteArray} : lb (ins ks (lb ks t) t) t = lb ks t := by
  have hle := lb_le ks t
  refine lb_eq _ _ _ ?_ ?_ ?_
  · rw [ins_length _ _ _ hle]; omega
  · intro m s hm hs
    rw [ins_lo hle hm] at hs
    exact lb_low ks t m s hm hs
  · intro s hs
    rw [ins_at hle] at hs
    cases hs
    exact less_self _

/-- The place of another key: as it was, or one behind. -/
theorem lb_ins_other {ks : List ByteArray} {t s : ByteArray} (hup : Up ks) (hs : ks[lb ks s]? = some s) (hn : ks[lb ks t]? ≠ some t) :
    lb (ins ks (lb ks t) t) s = if lb ks s < lb ks t then lb ks s else lb ks s + 1 := by
  have hle := lb_le ks t
  have hls := (List.getElem?_eq_some_iff.1 hs).1
  split
  · rename_i hlt
    refine lb_eq _ _ _ ?_ ?_ ?_
    · rw [ins_length _ _ _ hle]; omega
    · intro m a hm ha
      rw [ins_lo hle (by omega)] at ha
      exact lb_low ks s m a hm ha
    · intro a ha
      rw [ins_lo hle hlt] at ha
      exact lb_at ks s a ha
  · rename_i hge
    refine lb_eq _ _ _ ?_ ?_ ?_
    · rw [ins_length _ _ _ hle]; omega
    · intro m a hm ha
      by_cases h1 : m < lb ks t
      · rw [ins_lo hle h1] at ha
        exact lb_low ks s m a (by omega) ha
      · by_cases h2 : m = lb ks t
        · subst h2
          rw [ins_at hle] at ha
          cases ha
          -- t comes ahead of s
          cases h3 : Op.bytesLess t.toList s.toList with
          | true => rfl
          | false =>
            exfalso
            have h4 : Op.bytesLess s.toList t.toList = false := by
              by_cases h5 : lb ks t < lb ks s
              · obtain ⟨c, hc⟩ : ∃ c, ks[lb ks t]? = some c := ⟨ks[lb ks t]'(by omega), by simp⟩
                have h6 := lb_at ks t c hc
                have h7 := hup _ _ c s h5 hc hs
                cases h8 : Op.bytesLess s.toList t.toList with
                | false => rfl
                | true => rw [less_trans _ _ _ h7 h8] at h6; cases h6
              · have h9 : lb ks t = lb ks s := by omega
                have := lb_at ks t s (by rw [h9]; exact hs)
                exact this
            have := bytes_ext (less_eq h3 h4)
            subst this
            exact hn hs
        · obtain ⟨m', rfl⟩ : ∃ m', m = m' + 1 := ⟨m - 1, by omega⟩
          rw [ins_hi hle (by omega)] at ha
          exact lb_low ks s m' a (by omega) ha
    · intro a ha
      rw [ins_hi hle (by omega)] at ha
      exact lb_at ks s a ha

/-- Two steps lead the same way. -/
def sameSt (s r : St) : Bool := (s.1 == r.1) && ((s.1 && (s.2.1.toList == r.2.1.toList)) || (!s.1 && (s.2.2 == r.2.2)))

theorem plc_same {s r : St} (h : sameSt s r = true) (k : Int) (ks : List ByteArray) (il : Nat) : plc k ks il s = plc k ks il r := by
  obtain ⟨q, a, i⟩ := s
  obtain ⟨q', a', i'⟩ := r
  simp only [sameSt, Bool.and_eq_true, Bool.or_eq_true, beq_iff_eq, Bool.not_eq_true'] at h
  obtain ⟨rfl, h⟩ := h
  rcases h with ⟨rfl, h⟩ | ⟨rfl, rfl⟩
  · have := bytes_ext h
    subst this
    simp [plc]
  · simp [plc]

theorem plc_differ {s r : St} {k : Int} {ks : List ByteArray} {il : Nat} (h : sameSt s r = false) (hs : (plc k ks il s).1 = 0) (hr : (plc k ks il r).1 = 0) : (plc k ks il s).2 ≠ (plc k ks il r).2 := by
  obtain ⟨q, a, i⟩ := s
  obtain ⟨q', a', i'⟩ := r
  intro e
  cases q <;> cases q'
  · simp only [plc, Bool.false_eq_true, if_false] at hs hr e
    split at hs
    · rename_i h4
      rw [if_pos h4] at hr
      rw [if_pos h4, if_pos h4] at e
      split at hs
      · rename_i h5
        split at hr
        · rename_i h6
          rw [if_pos h5, if_pos h6] at e
          simp only at e
          have : i = i' := by omega
          subst this
          simp [sameSt] at h
        · simp at hr
      · simp at hs
    · simp at hs
  · simp only [plc, Bool.false_eq_true, if_false, if_true] at hs hr
    split at hs
    · rename_i h4
      rw [if_neg (by omega)] at hr
      simp at hr
    · simp at hs
  · simp only [plc, Bool.false_eq_true, if_false, if_true] at hs hr
    split at hr
    · rename_i h4
      rw [if_neg (by omega)] at hs
      simp at hs
    · simp at hr
  · simp only [plc, if_true] at hs hr e
    split at hs
    · rename_i h4
      rw [if_pos h4] at hr
      rw [if_pos h4, if_pos h4] at e
      split at hs
      · rename_i h5
        split at hr
        · rename_i h6
          rw [if_pos h5, if_pos h6] at e
          simp only at e
          rw [e, h6] at h5
          cases h5
          simp [sameSt] at h
        · simp at hr
      · simp at hs
    · simp at hs

/-- Where room was made: what is got there. -/
theorem plc_room {k b : Int} {t : ByteArray} {ks : List ByteArray} {il : Nat} {s : St} (hm : mayB k b t ks il = true) (h : (plc k ks il s).1 = 71 ∨ (plc k ks il s).1 = 82) (hr : roomE il s = 0) :
    plc k (if s.1 = true then ins ks (roomAt ks il s) s.2.1 else ks) (il + 1) s = (0, roomAt ks il s) := by
  obtain ⟨q, a, i⟩ := s
  cases q
  · have hk : k = 4 := by rcases plc_kind h with q | q; cases q.1; exact q.2
    subst hk
    have hi : i = (il : Int) := by
      unfold roomE at hr
      simp only [Bool.false_eq_true, if_false] at hr
      split at hr
      · assumption
      · omega
    subst hi
    simp [plc, roomAt]
    omega
  · have hk : k = 5 := by rcases plc_kind h with q | q; exact q.2; cases q.1
    subst hk
    simp only [roomAt, plc, if_true]
    rw [lb_ins_self, ins_at (lb_le ks a), if_pos rfl]

/-- Where room was made: what is got elsewhere. -/
theorem plc_room_other {α : Type} {k b : Int} {t : ByteArray} {ks : List ByteArray} {its : List α} {s r : St} (x : α) (hm : mayB k b t ks its.length = true) (h : (plc k ks its.length s).1 = 71 ∨ (plc k ks its.length s).1 = 82) (hr : (plc k ks its.length r).1 = 0) :
    (plc k (if s.1 = true then ins ks (roomAt ks its.length s) s.2.1 else ks) (its.length + 1) r).1 = 0 ∧
    (ins its (roomAt ks its.length s) x)[(plc k (if s.1 = true then ins ks (roomAt ks its.length s) s.2.1 else ks) (its.length + 1) r).2]? = its[(plc k ks its.length r).2]? := by
  obtain ⟨q, a, i⟩ := s
  obtain ⟨q', a', i'⟩ := r
  have hlt := plc_lt hm hr
  cases q
  · have hk : k = 4 := by rcases plc_kind h with q | q; cases q.1; exact q.2
    subst hk
    have hq : q' = false := by
      cases q' with
      | false => rfl
      | true => simp [plc] at hr
    subst hq
    simp only [plc, Bool.false_eq_true, if_false, if_true, roomAt] at hr hlt ⊢
    split at hr
    · rename_i h5
      have h6 : 0 ≤ i' ∧ i' < ((its.length + 1 : Nat) : Int) := by omega
      rw [if_pos h5] at hlt ⊢
      rw [if_pos h6]
      simp only at hlt ⊢
      exact ⟨trivial, ins_lo (Nat.le_refl _) hlt⟩
    · simp at hr
  · have hk : k = 5 := by rcases plc_kind h with q | q; exact q.2; cases q.1
    subst hk
    have hq : q' = true := by
      cases q' with
      | true => rfl
      | false => simp [plc] at hr
    subst hq
    have hup := (up_of_may hm).1
    have hkl := (up_of_may hm).2
    have hle := lb_le ks a
    simp only [plc, if_true, roomAt] at h hr hlt ⊢
    split at hr
    · rename_i h5
      have hn : ks[lb ks a]? ≠ some a := by
        intro e
        rw [if_pos e] at h
        simp at h
      rw [if_pos h5] at hlt ⊢
      rw [lb_ins_other hup h5 hn]
      simp only at hlt ⊢
      by_cases h6 : lb ks a' < lb ks a
      · rw [if_pos h6, ins_lo hle h6, if_pos h5]
        exact ⟨rfl, ins_lo (by omega) h6⟩
      · rw [if_neg h6, ins_hi hle (by omega), if_pos h5]
        exact ⟨rfl, ins_hi (by omega) (by omega)⟩
    · simp at hr

theorem getV_here {n : Nat} {s : St} {p : List St} {k b : Int} {t : ByteArray} {ks : List ByteArray} {its : List (V n)} {u : V n} (h0 : (plc k ks its.length s).1 = 0) (hu : its[(plc k ks its.length s).2]? = some u) :
    getV (s :: p) (n + 1) ((k, b, t, ks, its) : V (n + 1)) = getV p n u := by
  simp only [getV, h0, if_true, hu]

theorem getV_err {n : Nat} {s : St} {p : List St} {k b : Int} {t : ByteArray} {ks : List ByteArray} {its : List (V n)} (h0 : (plc k ks its.length s).1 ≠ 0) :
    getV (s :: p) (n + 1) ((k, b, t, ks, its) : V (n + 1)) = ((plc k ks its.length s).1, zeroT) := by
  simp only [getV]
  rw [if_neg h0]

/-- What was set is got. -/
theorem get_set {n : Nat} (x : V n) : ∀ (ps : List St) (v : V (n + ps.length)), okV (n + ps.length) v → (setV x ps v).1 = 0 → getV ps (n + ps.length) (setV x ps v).2 = (0, ⟨n, x⟩)
  | [], v, _, _ => rfl
  | s :: p, v, hok, h => by
    obtain ⟨k, b, t, ks, its⟩ := v
    obtain ⟨hmay, hoks⟩ := hok
    by_cases h0 : (plc k ks its.length s).1 = 0
    · have hlt := plc_lt hmay h0
      have hu : its[(plc k ks its.length s).2]? = some its[(plc k ks its.length s).2] := List.getElem?_eq_getElem hlt
      rw [setV_here h0 hu] at h ⊢
      refine (getV_here (n := n + p.length) (by rw [List.length_set]; exact h0) (u := (setV x p its[(plc k ks its.length s).2]).2) ?_).trans (get_set x p _ (hoks _ (List.mem_of_getElem? hu)) h)
      rw [List.length_set, List.getElem?_set_self hlt]
    · by_cases h1 : p ≠ [] ∨ ¬ ((plc k ks its.length s).1 = 71 ∨ (plc k ks its.length s).1 = 82)
      · exact absurd ((setV_err h0 h1).symm.trans h) h0
      · have hp : p = [] := by by_cases e : p = []; exact e; exact absurd (Or.inl e) h1
        subst hp
        have h2 : (plc k ks (List.length (α := V n) its) s).1 = 71 ∨ (plc k ks (List.length (α := V n) its) s).1 = 82 := Classical.byContradiction fun e => h1 (Or.inr e)
        by_cases hr : roomE (List.length (α := V n) its) s = 0
        · rw [setV_room h2 hr]
          have hat : roomAt ks (List.length (α := V n) its) s ≤ its.length := by
            unfold roomAt
            split
            · rename_i hs1
              have hk5 : k = 5 := by rcases plc_kind h2 with q | q; exact q.2; rw [q.1] at hs1; cases hs1
              subst hk5
              have := (up_of_may hmay).2
              have := lb_le ks s.2.1
              omega
            · exact Nat.le_refl _
          have hpl := plc_room hmay h2 hr
          have hln := ins_length (α := V n) its _ x hat
          exact getV_here (n := n) (p := []) (u := x) (by rw [hln, hpl]) (by rw [hln, hpl]; exact ins_at (α := V n) hat)
        · exact absurd ((setV_full (b := b) (t := t) (x := x) h2 hr).symm.trans h) hr

/-- Two paths part somewhere within both. -/
def part2 : List St → List St → Bool
  | s :: p, r :: q => !sameSt s r || part2 p q
  | _, _ => false

/-- Elsewhere all stays. -/
theorem get_other {n : Nat} (x : V n) (T' : T) : ∀ (ps : List St) (v : V (n + ps.length)) (qs : List St), okV (n + ps.length) v → (setV x ps v).1 = 0 → part2 ps qs = true → getV qs (n + ps.length) v = (0, T') → getV qs (n + ps.length) (setV x ps v).2 = (0, T')
  | [], v, qs, _, _, hd, _ => by simp [part2] at hd
  | s :: p, v, [], _, _, hd, _ => by simp [part2] at hd
  | s :: p, v, r :: q, hok, h, hd, hg => by
    obtain ⟨k, b, t, ks, its⟩ := v
    obtain ⟨hmay, hoks⟩ := hok
    have hr0 : (plc k ks its.length r).1 = 0 := by
      by_cases e : (plc k ks its.length r).1 = 0
      · exact e
      · have := (getV_err (n := n + p.length) (p := q) (b := b) (t := t) e).symm.trans hg
        simp only [Prod.mk.injEq] at this
        exact this.1
    have hrl := plc_lt hmay hr0
    have hru : its[(plc k ks its.length r).2]? = some its[(plc k ks its.length r).2] := List.getElem?_eq_getElem hrl
    have hg' : getV q (n + p.length) its[(plc k ks its.length r).2] = (0, T') := (getV_here (n := n + p.length) (p := q) (b := b) (t := t) hr0 hru).symm.trans hg
    by_cases h0 : (plc k ks its.length s).1 = 0
    · have hlt := plc_lt hmay h0
      have hu : its[(plc k ks its.length s).2]? = some its[(plc k ks its.length s).2] := List.getElem?_eq_getElem hlt
      rw [setV_here h0 hu] at h ⊢
      cases hs : sameSt s r with
      | true =>
        have e := plc_same hs k ks its.length
        have hd' : part2 p q = true := by
          simp only [part2, hs, Bool.not_true, Bool.false_or] at hd
          exact hd
        have hu2 : its[(plc k ks its.length r).2] = its[(plc k ks its.length s).2] := by
          have e2 : its[(plc k ks its.length r).2]? = its[(plc k ks its.length s).2]? := congrArg (fun z : Int × Nat => its[z.2]?) e.symm
          exact Option.some.inj (hru.symm.trans (e2.trans hu))
        rw [hu2] at hg'
        refine (getV_here (n := n + p.length) (by rw [List.length_set]; exact hr0) (u := (setV x p its[(plc k ks its.length s).2]).2) ?_).trans (get_other x T' p _ q (hoks _ (List.mem_of_getElem? hu)) h hd' hg')
        rw [List.length_set, ← e, List.getElem?_set_self hlt]
      | false =>
        have hne := plc_differ hs h0 hr0
        refine (getV_here (n := n + p.length) (by rw [List.length_set]; exact hr0) (u := its[(plc k ks its.length r).2]) ?_).trans hg'
        rw [List.length_set, List.getElem?_set_ne hne, hru]
    · by_cases h1 : p ≠ [] ∨ ¬ ((plc k ks its.length s).1 = 71 ∨ (plc k ks its.length s).1 = 82)
      · exact absurd ((setV_err h0 h1).symm.trans h) h0
      · have hp : p = [] := by by_cases e : p = []; exact e; exact absurd (Or.inl e) h1
        subst hp
        have h2 : (plc k ks (List.length (α := V n) its) s).1 = 71 ∨ (plc k ks (List.length (α := V n) its) s).1 = 82 := Classical.byContradiction fun e => h1 (Or.inr e)
        by_cases hr : roomE (List.length (α := V n) its) s = 0
        · rw [setV_room h2 hr]
          have hat : roomAt ks (List.length (α := V n) its) s ≤ its.length := by
            unfold roomAt
            split
            · rename_i hs1
              have hk5 : k = 5 := by rcases plc_kind h2 with q | q; exact q.2; rw [q.1] at hs1; cases hs1
              subst hk5
              have := (up_of_may hmay).2
              have := lb_le ks s.2.1
              omega
            · exact Nat.le_refl _
          obtain ⟨e1, e2⟩ := plc_room_other (α := V n) x hmay h2 hr0
          have hln := ins_length (α := V n) its _ x hat
          exact (getV_here (n := n) (p := q) (by rw [hln]; exact e1) (by rw [hln]; exact e2.trans hru)).trans hg'
        · exact absurd ((setV_full (b := b) (t := t) (x := x) h2 hr).symm.trans h) hr

/-- A deeper tree has the same parts. -/
theorem get_up : ∀ (qs : List St) (n : Nat) (v : V n) (m : Nat) (u : V m), okV n v → getV qs n v = (0, ⟨m, u⟩) → getV qs (n + 1) (up n v) = (0, ⟨m + 1, up m u⟩)
  | [], n, v, m, u, _, h => by
    simp only [getV, Prod.mk.injEq, true_and] at h
    cases h
    rfl
  | s :: q, 0, v, m, u, _, _ => v.elim
  | s :: q, n + 1, v, m, u, hok, h => by
    obtain ⟨k, b, t, ks, its⟩ := v
    obtain ⟨hmay, hoks⟩ := hok
    have h0 : (plc k ks its.length s).1 = 0 := by
      by_cases e : (plc k ks its.length s).1 = 0
      · exact e
      · have := (getV_err (p := q) (b := b) (t := t) e).symm.trans h
        simp only [Prod.mk.injEq] at this
        exact this.1
    have hlt := plc_lt hmay h0
    have hu : its[(plc k ks its.length s).2]? = some its[(plc k ks its.length s).2] := List.getElem?_eq_getElem hlt
    have h' := (getV_here (p := q) (b := b) (t := t) h0 hu).symm.trans h
    refine (getV_here (n := n + 1) (by rw [List.length_map]; exact h0) (u := up n its[(plc k ks its.length s).2]) ?_).trans (get_up q n _ m u (hoks _ (List.mem_of_getElem? hu)) h')
    rw [List.length_map, List.getElem?_map, hu]
    rfl

theorem okV_up : ∀ (n : Nat) (v : V n), okV n v → okV (n + 1) (up n v)
  | 0, v, _ => v.elim
  | n + 1, v, h => by
    obtain ⟨k, b, t, ks, its⟩ := v
    obtain ⟨hmay, hoks⟩ := h
    refine ⟨by simpa using hmay, ?_⟩
    intro u hu
    simp only [List.mem_map] at hu
    obtain ⟨u', hu', rfl⟩ := hu
    exact okV_up n u' (hoks u' hu')

theorem okV_ups {n : Nat} {v : V n} (h : okV n v) : ∀ p, okV (n + p) (ups v p)
  | 0 => h
  | p + 1 => okV_up _ _ (okV_ups h p)

theorem get_ups {qs : List St} {n : Nat} {v : V n} {m : Nat} {u : V m} (hok : okV n v) (h : getV qs n v = (0, ⟨m, u⟩)) : ∀ p, getV qs (n + p) (ups v p) = (0, ⟨m + p, ups u p⟩)
  | 0 => h
  | p + 1 => get_up qs (n + p) (ups v p) (m + p) (ups u p) (okV_ups hok p) (get_ups hok h p)
end Go.Proofs.Ytkjiiggboblioaa
