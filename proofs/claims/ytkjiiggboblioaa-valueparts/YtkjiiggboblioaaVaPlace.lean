/-
  The place of a step: the program's find, the page's place.
-/
import Derived.Test.YtkjiiggboblioaaJ2
namespace Go.Proofs.Ytkjiiggboblioaa
open Go.ChangeShapes Go.WideShapes Go.ChangeAt Go.RowKit
open Fl

theorem up_of_keys {ks : List ByteArray} (h : keysB ks = true) : Up ks := by
  have adj : ∀ i a b, ks[i]? = some a → ks[i + 1]? = some b → Op.bytesLess a.toList b.toList = true := by
    intro i a b ha hb
    have hlt : i + 1 < ks.length := (List.getElem?_eq_some_iff.1 hb).1
    have := List.all_eq_true.1 h (i + 1) (List.mem_range.2 hlt)
    unfold goodAt at this
    simp only [Bool.and_eq_true, Bool.or_eq_true] at this
    rcases this.2 with h0 | h0
    · simp at h0
    · simp only [Nat.add_sub_cancel, List.getD_eq_getElem?_getD, ha, hb, Option.getD_some] at h0
      exact h0
  intro i j
  induction j with
  | zero => intro a b hij; omega
  | succ j ih =>
    intro a b hij ha hb
    by_cases e : i = j
    · subst e; exact adj i a b ha hb
    · have hlt : j < ks.length := by have := (List.getElem?_eq_some_iff.1 hb).1; omega
      have hc : ks[j]? = some ks[j] := List.getElem?_eq_getElem hlt
      exact less_trans _ _ _ (ih a _ (by omega) ha hc) (adj j _ b hc hb)

theorem up_of_may {b : Int} {t : ByteArray} {ks : List ByteArray} {il : Nat} (h : mayB 5 b t ks il = true) : Up ks ∧ ks.length = il := by
  unfold mayB at h
  simp only [show ¬ (5 : Int) = 0 by decide, show ¬ (5 : Int) = 1 by decide, show ¬ (5 : Int) = 2 by decide, show ¬ (5 : Int) = 3 by decide, show ¬ (5 : Int) = 4 by decide, if_false, if_true, Bool.and_eq_true] at h
  exact ⟨up_of_keys h.2.2.2.2, by have := h.2.2.2.1; simp at this; omega⟩

theorem lb_of_key {ks : List ByteArray} {t : ByteArray} {i : Nat} (hup : Up ks) (h : ks[i]? = some t) : lb ks t = i :=
  lb_eq ks t i (by have := (List.getElem?_eq_some_iff.1 h).1; omega) (fun m s hm hs => hup m i s t hm hs h) (fun s hs => by rw [h] at hs; cases hs; exact less_self _)

set_option maxRecDepth 100000 in
set_option maxHeartbeats 1600000 in
theorem find_any (k b : Int) (t : ByteArray) (ka : Option Addr) (kc : Nat) (ia : Option Addr) (il ic : Nat) (ks : List ByteArray) (s : St) (w : World) (hup : k = 5 → Up ks) (hS : LayS w ka ks) (hk : ks.length * 16 ≤ 140737488351232)
    (hx : -9223372036854775808 ≤ s.2.2 ∧ s.2.2 ≤ 9223372036854775807) (hi : il * 80 ≤ 140737488351232) :
    Calls Try.prog 13 #[mk k b t ka ks.length kc ia il ic, .agg #[.bool s.1, .string s.2.1, .int .i64 s.2.2]] w fun e w' => e = .returned (.tuple #[.int .i64 ((plc k ks il s).2 : Int), .int .i64 (plc k ks il s).1]) ∧ Below w.heap.size w w' := by
  obtain ⟨q, key, x⟩ := s
  cases q with
  | true =>
    have e1 : plc k ks il (true, key, x) = plc k ks il (true, key, 0) := by simp [plc]
    rw [e1]
    have HF : Hid (∀ w', Below w.heap.size w w' → Calls Try.prog 23 #[mk k b t ka ks.length kc ia il ic, .string key] w' fun e w'' => e = .returned (.tuple #[.int .i64 ((plc k ks il (true, key, 0)).2 : Int), .int .i64 (plc k ks il (true, key, 0)).1]) ∧ Below w'.heap.size w' w'') := fun w' hb => findKey_any k b t ka kc ia il ic ks key w' hup (LayS.below hS hb) hk
    clear e1 hup hS hk hx hi
    generalize plc k ks il (true, key, 0) = r at *
    go_enter Try.func13, Try.ntmps13
    go_wp2_with (go_at_call 23; refine (HF.out _ (below_two _ _ _)).mono ?_; rintro e w1 ⟨rfl, hb1⟩)
    go_ret2
    exact ⟨rfl, nxt (below_two _ _ _) hb1⟩
  | false =>
    have e1 : plc k ks il (false, key, x) = plc k ks il (false, t, x) := by simp [plc]
    rw [e1]
    have HF : Hid (∀ w', Calls Try.prog 24 #[mk k b t ka ks.length kc ia il ic, .int .i64 x] w' fun e w'' => e = .returned (.tuple #[.int .i64 ((plc k ks il (false, t, x)).2 : Int), .int .i64 (plc k ks il (false, t, x)).1]) ∧ Below w'.heap.size w' w'') := fun w' => findIndex_any k b t ka ks.length kc ia il ic ks x w' hx hi
    clear e1 hup hS hk hx hi
    generalize plc k ks il (false, t, x) = r at *
    go_enter Try.func13, Try.ntmps13
    go_wp2_with (go_at_call 24; refine (HF.out _).mono ?_; rintro e w1 ⟨rfl, hb1⟩)
    go_ret2
    exact ⟨rfl, nxt (below_two _ _ _) hb1⟩

/-- What the page's place answers. -/
def rplc (r : Int × Nat) : Int := if r.1 = 0 then (r.2 : Int) else -1

set_option maxRecDepth 100000 in
set_option maxHeartbeats 1600000 in
theorem place_any (k b : Int) (t : ByteArray) (ka : Option Addr) (kc : Nat) (ia : Option Addr) (il ic : Nat) (ks : List ByteArray) (s : St) (w : World) (hup : k = 5 → Up ks) (hS : LayS w ka ks) (hk : ks.length * 16 ≤ 140737488351232)
    (hx : -9223372036854775808 ≤ s.2.2 ∧ s.2.2 ≤ 9223372036854775807) (_hi : il * 80 ≤ 140737488351232) :
    Calls Try.prog 16 #[mk k b t ka ks.length kc ia il ic, .agg #[.bool s.1, .string s.2.1, .int .i64 s.2.2]] w fun e w' => e = .returned (.tuple #[.int .i64 (rplc (plc k ks il s)), .int .i64 (plc k ks il s).1]) ∧ Below w.heap.size w w' := by
  obtain ⟨q, key, x⟩ := s
  cases q with
  | true =>
    by_cases h5 : k = 5
    · subst h5
      have HU : Hid (Up ks) := hup rfl
      have HS : Hid (LayS w ka ks) := hS
      clear hup hS hx
      go_enter Try.func16, Try.ntmps16
      go_wp2_with fail
      have T0 : Two w _ _ _ := Two.new w (.cells #[.int .i64 5, .int .u64 b, .string t, .slice ka ks.length kc, .slice ia il ic] 26) (.cells #[.bool true, .string key, .int .i64 x] 42) (Below.refl _ _)
      have B0 := below_two w (.cells #[.int .i64 5, .int .u64 b, .string t, .slice ka ks.length kc, .slice ia il ic] 26) (.cells #[.bool true, .string key, .int .i64 x] 42)
      generalize (w.alloc (.cells #[.int .i64 5, .int .u64 b, .string t, .slice ka ks.length kc, .slice ia il ic] 26)).alloc (.cells #[.bool true, .string key, .int .i64 x] 42) = W2 at T0 B0 ⊢
      have p3 := (box_cells T0.1).2.2.2.1
      have q1 : W2.cell? ⟨w.heap.size + 1, 1, none⟩ = some (.string key) := by simp only [World.cell?, T0.2]; rfl
      have P3 : Hid (W2.cell? ⟨w.heap.size, 3, none⟩ = some (.slice ka ks.length kc)) := p3
      have Q1 : Hid (W2.cell? ⟨w.heap.size + 1, 1, none⟩ = some (.string key)) := q1
      have HB0 : Hid (Below w.heap.size w W2) := B0
      clear B0 T0 p3 q1
      go_loopw [6] (fun v6 wr => ∃ i : Nat, i ≤ ks.length ∧ v6 = .int .i64 i ∧ Hid (∀ m, m < i → ks[m]? ≠ some key) ∧ Hid (Below W2.heap.size W2 wr)) (fun v6 _ => ks.length - (intOf v6).toNat)
      case atStart => exact ⟨0, Nat.zero_le _, rfl, (show ∀ m, m < 0 → ks[m]? ≠ some key from fun m h => by omega), Below.refl _ _⟩
      case round =>
        obtain ⟨i, hi, rfl, H1, HW⟩ := hrel
        have p3 := keepc HW.out _ _ P3.out
        have q1 := keepc HW.out _ _ Q1.out
        have BW : Hid (Below w.heap.size w wr) := nxt HB0.out HW.out
        by_cases hlt : i < ks.length
        · have hi1 : (i : Int) < (ks.length : Int) := by omega
          obtain ⟨b1, o1, rfl, r1, _⟩ := HS.out i ks[i] (by simp [hlt])
          rw [← BW.out.cell (lt_of_cell r1)] at r1
          by_cases he : ks[i] = key
          · have he' : (ks[i].toList == key.toList) = true := by rw [he]; simp
            have HE : Hid (plc 5 ks il (true, key, x) = (0, i)) := by
              have h0 : ks[i]? = some key := by rw [List.getElem?_eq_getElem hlt, he]
              have hl := lb_of_key HU.out h0
              show _ = _
              simp [plc, hl, h0]
            go_wp2_with fail
            go_quiet (fail)
            go_wp2_with fail
            go_ret2
            exact ⟨by rw [HE.out]; rfl, BW.out.trans (Below_drewN _ _ _)⟩
          · have he' := toList_beq_false he
            have HE : Hid (¬ ks[i] = key) := he
            go_wp2_with fail
            go_quiet (fail)
            go_wp2_with fail
            go_roundw
            case rel =>
              refine ⟨i + 1, by omega, by go_num, ?_, HW.out.trans (Below_drewN _ _ _)⟩
              intro m hm
              by_cases e : m = i
              · subst e
                rw [List.getElem?_eq_getElem hlt]
                intro h
                exact HE.out (Option.some.inj h)
              · exact H1.out m (by omega)
            case measure => simp [intOf]; omega
        · have HE : Hid (plc 5 ks il (true, key, x) = (71, 0)) := by
            have hne : ¬ ks[lb ks key]? = some key := fun h => H1.out _ (by have := (List.getElem?_eq_some_iff.1 h).1; omega) h
            show _ = _
            simp [plc, hne]
          go_wp2_with fail
          go_ret2
          exact ⟨by rw [HE.out]; rfl, BW.out⟩
    · have e1 : plc k ks il (true, key, x) = (81, 0) := by simp [plc, h5]
      rw [e1]
      have h5' : (k == 5) = false := by simpa using h5
      clear e1 h5 hup hS hk
      go_enter Try.func16, Try.ntmps16
      go_wp2_with fail
      go_ret2
      exact ⟨rfl, below_two _ _ _⟩
  | false =>
    clear hup hS
    simp only at hx
    by_cases h4 : k = 4
    · subst h4
      by_cases h0 : x < 0
      · have e1 : plc 4 ks il (false, key, x) = (82, 0) := by simp [plc]; intro h; omega
        rw [e1]
        clear e1
        go_enter Try.func16, Try.ntmps16
        go_wp2_with fail
        go_ret2
        exact ⟨rfl, below_two _ _ _⟩
      · by_cases h1 : x < (il : Int)
        · have e1 : plc 4 ks il (false, key, x) = (0, x.toNat) := by simp [plc, h1]; omega
          have e2 : rplc (plc 4 ks il (false, key, x)) = x := by rw [e1]; simp [rplc]; omega
          rw [e2, e1]
          clear e1 e2
          go_enter Try.func16, Try.ntmps16
          go_wp2_with fail
          go_ret2
          exact ⟨rfl, below_two _ _ _⟩
        · have e1 : plc 4 ks il (false, key, x) = (82, 0) := by simp [plc, h1]
          rw [e1]
          clear e1
          go_enter Try.func16, Try.ntmps16
          go_wp2_with fail
          go_ret2
          exact ⟨rfl, below_two _ _ _⟩
    · have e1 : plc k ks il (false, key, x) = (81, 0) := by simp [plc, h4]
      rw [e1]
      have h4' : (k == 4) = false := by simpa using h4
      clear e1 h4
      go_enter Try.func16, Try.ntmps16
      go_wp2_with fail
      go_ret2
      exact ⟨rfl, below_two _ _ _⟩
end Go.Proofs.Ytkjiiggboblioaa
