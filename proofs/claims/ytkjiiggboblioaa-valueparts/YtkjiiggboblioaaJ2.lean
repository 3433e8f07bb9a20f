/-
  Where a key lies: the library's binary search over keys that rise.
-/
import Derived.Test.YtkjiiggboblioaaVaGood
import Derived.Test.YtkjiiggboblioaaVaCopy
namespace Go.Proofs.Ytkjiiggboblioaa
open Go.ChangeShapes Go.WideShapes Go.ChangeAt Go.RowKit
open Fl

/-- How many keys, from the first on, lie below t. -/
def lb : List ByteArray → ByteArray → Nat
  | [], _ => 0
  | s :: l, t => if Op.bytesLess s.toList t.toList = true then lb l t + 1 else 0

/-- Keys that rise. -/
def Up (ks : List ByteArray) : Prop := ∀ (i j : Nat) (a b : ByteArray), i < j → ks[i]? = some a → ks[j]? = some b → Op.bytesLess a.toList b.toList = true

theorem lb_le (ks : List ByteArray) (t : ByteArray) : lb ks t ≤ ks.length := by
  induction ks with
  | nil => exact Nat.le_refl _
  | cons s l ih => simp only [lb, List.length_cons]; split <;> omega

theorem lb_eq : ∀ (ks : List ByteArray) (t : ByteArray) (i : Nat), i ≤ ks.length → (∀ m s, m < i → ks[m]? = some s → Op.bytesLess s.toList t.toList = true) → (∀ s, ks[i]? = some s → Op.bytesLess s.toList t.toList = false) → lb ks t = i
  | [], _, i, h, _, _ => by simp at h; simp [lb, h]
  | s :: l, t, 0, _, _, h2 => by
    have := h2 s (by simp)
    simp [lb, this]
  | s :: l, t, i + 1, h, h1, h2 => by
    have e := h1 0 s (by omega) (by simp)
    have := lb_eq l t i (by simpa using h) (fun m s' hm hs => h1 (m + 1) s' (by omega) (by simpa using hs)) (fun s' hs => h2 s' (by simpa using hs))
    simp [lb, e, this]

set_option maxRecDepth 100000 in
set_option maxHeartbeats 1600000 in
theorem bs_any (ks : List ByteArray) (t : ByteArray) (ka : Option Addr) (kc : Nat) (w : World) (hup : Up ks) (hS : LayS w ka ks) (hk : ks.length * 16 ≤ 140737488351232) :
    Calls Try.prog 27 #[.slice ka ks.length kc, .string t] w fun e w' => e = .returned (.tuple #[.int .i64 (lb ks t : Int), .bool (decide (ks[lb ks t]? = some t))]) ∧ w' = w := by
  have HS : Hid (LayS w ka ks) := hS
  have HU : Hid (Up ks) := hup
  clear hS hup
  go_enter Try.func27, Try.ntmps27
  go_wp2_with fail
  go_loopw [7, 8] (fun v7 v8 wr => ∃ i j : Nat, i ≤ j ∧ j ≤ ks.length ∧ v7 = .int .i64 i ∧ v8 = .int .i64 j ∧ Hid (∀ m s, m < i → ks[m]? = some s → Op.bytesLess s.toList t.toList = true) ∧ Hid (∀ m s, j ≤ m → ks[m]? = some s → Op.bytesLess s.toList t.toList = false) ∧ wr = w) (fun v7 v8 _ => (intOf v8).toNat - (intOf v7).toNat)
  case atStart => exact ⟨0, ks.length, Nat.zero_le _, Nat.le_refl _, rfl, rfl, (show ∀ m s, m < 0 → ks[m]? = some s → Op.bytesLess s.toList t.toList = true from fun m s h => by omega), (show ∀ m s, ks.length ≤ m → ks[m]? = some s → Op.bytesLess s.toList t.toList = false from fun m s h hs => by rw [List.getElem?_eq_none h] at hs; cases hs), rfl⟩
  case round =>
    obtain ⟨i, j, hij, hj, rfl, rfl, H1, H2, rfl⟩ := hrel
    by_cases hlt : i < j
    · have hh : (i + j) / 2 < ks.length := by omega
      obtain ⟨b1, o1, rfl, r1, _⟩ := HS.out ((i + j) / 2) ks[(i + j) / 2] (by simp [hh])
      have HG : Hid (ks[(i + j) / 2]? = some ks[(i + j) / 2]) := List.getElem?_eq_getElem hh
      cases hl : Op.bytesLess ks[(i + j) / 2].toList t.toList with
      | true =>
        have HL : Hid (Op.bytesLess ks[(i + j) / 2].toList t.toList = true) := hl
        go_wp2_with (go_at_call 34; refine (less_any _ _ _).mono ?_; rw [hl]; rintro e w' ⟨rfl, rfl⟩)
        go_roundw
        case rel =>
          refine ⟨(i + j) / 2 + 1, j, by omega, hj, by go_num, rfl, ?_, H2.out, trivial⟩
          intro m s hm hs
          by_cases e : m = (i + j) / 2
          · subst e
            rw [HG.out] at hs
            cases hs
            exact HL.out
          · exact less_trans _ _ _ (HU.out m ((i + j) / 2) s _ (by omega) hs HG.out) HL.out
        case measure => simp [intOf]; omega
      | false =>
        have HL : Hid (Op.bytesLess ks[(i + j) / 2].toList t.toList = false) := hl
        go_wp2_with (go_at_call 34; refine (less_any _ _ _).mono ?_; rw [hl]; rintro e w' ⟨rfl, rfl⟩)
        go_roundw
        case rel =>
          refine ⟨i, (i + j) / 2, by omega, by omega, rfl, by go_num, H1.out, ?_, trivial⟩
          intro m s hm hs
          by_cases e : m = (i + j) / 2
          · subst e
            rw [HG.out] at hs
            cases hs
            exact HL.out
          · cases hq : Op.bytesLess s.toList t.toList with
            | false => rfl
            | true =>
              have := less_trans _ _ _ (HU.out ((i + j) / 2) m _ s (by omega) HG.out hs) hq
              rw [HL.out] at this
              cases this
        case measure => simp [intOf]; omega
    · have e : i = j := by omega
      subst e
      have hlb : lb ks t = i := lb_eq ks t i hj (fun m s hm hs => H1.out m s hm hs) (fun s hs => H2.out i s (Nat.le_refl _) hs)
      have HLB : Hid (lb ks t = i) := hlb
      clear hlb H1 H2
      by_cases hlt2 : i < ks.length
      · obtain ⟨b1, o1, rfl, r1, _⟩ := HS.out i ks[i] (by simp [hlt2])
        by_cases he : ks[i] = t
        · have HE : Hid (ks[lb ks t]? = some t) := by show _ = _; rw [HLB.out, List.getElem?_eq_getElem hlt2, he]
          have he' : (ks[i].toList == t.toList) = true := by rw [he]; simp
          go_wp2_with fail
          go_ret2
          exact ⟨by rw [HLB.out, decide_eq_true (by rw [← HLB.out]; exact HE.out)]; rfl, rfl⟩
        · have HE : Hid (¬ ks[lb ks t]? = some t) := by show ¬ _; rw [HLB.out, List.getElem?_eq_getElem hlt2]; simpa using he
          have he' := toList_beq_false he
          go_wp2_with (go_at_call 35; refine (snan_any _ _).mono ?_; rintro e w' ⟨rfl, rfl⟩)
          go_ret2
          exact ⟨by rw [decide_eq_false HE.out, HLB.out]; rfl, rfl⟩
      · have HE : Hid (¬ ks[lb ks t]? = some t) := by show ¬ _; rw [HLB.out, List.getElem?_eq_none (by omega)]; simp
        go_wp2_with fail
        go_ret2
        exact ⟨by rw [decide_eq_false HE.out, HLB.out]; rfl, rfl⟩

/-- A step: by a key, or by an index. -/
abbrev St := Bool × ByteArray × Int

/-- A step's place among the items: its error, and the place. -/
def plc (k : Int) (ks : List ByteArray) (il : Nat) (s : St) : Int × Nat :=
  if s.1 = true then if k = 5 then if ks[lb ks s.2.1]? = some s.2.1 then (0, lb ks s.2.1) else (71, 0) else (81, 0)
  else if k = 4 then if 0 ≤ s.2.2 ∧ s.2.2 < il then (0, s.2.2.toNat) else (82, 0) else (81, 0)

theorem findKey_any (k b : Int) (t : ByteArray) (ka : Option Addr) (kc : Nat) (ia : Option Addr) (il ic : Nat) (ks : List ByteArray) (s : ByteArray) (w : World) (hup : k = 5 → Up ks) (hS : LayS w ka ks) (hk : ks.length * 16 ≤ 140737488351232) :
    Calls Try.prog 23 #[mk k b t ka ks.length kc ia il ic, .string s] w fun e w' => e = .returned (.tuple #[.int .i64 ((plc k ks il (true, s, 0)).2 : Int), .int .i64 (plc k ks il (true, s, 0)).1]) ∧ Below w.heap.size w w' := by
  have HB : Hid (k = 5 → ∀ w', Below w.heap.size w w' → Calls Try.prog 27 #[.slice ka ks.length kc, .string s] w' fun e w'' => e = .returned (.tuple #[.int .i64 (lb ks s : Int), .bool (decide (ks[lb ks s]? = some s))]) ∧ w'' = w') := fun h w' hb => bs_any ks s ka kc w' (hup h) (LayS.below hS hb) hk
  clear hup hS hk
  by_cases h5 : k = 5
  · subst h5
    have hbs := HB.out rfl
    clear HB
    have HBS : Hid _ := hbs
    clear hbs
    by_cases hf : ks[lb ks s]? = some s
    · have e1 : plc 5 ks il (true, s, 0) = (0, lb ks s) := by simp [plc, hf]
      rw [e1]
      rw [decide_eq_true hf] at HBS
      clear e1 hf
      go_enter Try.func23, Try.ntmps23
      go_wp2_with (go_at_call 27; refine (HBS.out _ (below_one _ _)).mono ?_; rintro e w' ⟨rfl, rfl⟩)
      go_ret2
      exact ⟨rfl, below_one _ _⟩
    · have e1 : plc 5 ks il (true, s, 0) = (71, 0) := by simp [plc, hf]
      rw [e1]
      rw [decide_eq_false hf] at HBS
      clear e1 hf
      go_enter Try.func23, Try.ntmps23
      go_wp2_with (go_at_call 27; refine (HBS.out _ (below_one _ _)).mono ?_; rintro e w' ⟨rfl, rfl⟩)
      go_ret2
      exact ⟨rfl, below_one _ _⟩
  · have e1 : plc k ks il (true, s, 0) = (81, 0) := by simp [plc, h5]
    rw [e1]
    have h5' : (k == 5) = false := by simpa using h5
    clear e1 h5 HB
    go_enter Try.func23, Try.ntmps23
    go_wp2_with fail
    go_ret2
    exact ⟨rfl, below_one _ _⟩

theorem findIndex_any (k b : Int) (t : ByteArray) (ka : Option Addr) (kl kc : Nat) (ia : Option Addr) (il ic : Nat) (ks : List ByteArray) (x : Int) (w : World) (hx : -9223372036854775808 ≤ x ∧ x ≤ 9223372036854775807) (_hi : il * 80 ≤ 140737488351232) :
    Calls Try.prog 24 #[mk k b t ka kl kc ia il ic, .int .i64 x] w fun e w' => e = .returned (.tuple #[.int .i64 ((plc k ks il (false, t, x)).2 : Int), .int .i64 (plc k ks il (false, t, x)).1]) ∧ Below w.heap.size w w' := by
  by_cases h4 : k = 4
  · subst h4
    by_cases h0 : x < 0
    · have e1 : plc 4 ks il (false, t, x) = (82, 0) := by simp [plc]; intro h; omega
      rw [e1]
      clear e1
      go_enter Try.func24, Try.ntmps24
      go_wp2_with fail
      go_ret2
      exact ⟨rfl, below_one _ _⟩
    · by_cases h1 : x < (il : Int)
      · have e1 : plc 4 ks il (false, t, x) = (0, x.toNat) := by simp [plc, h1]; omega
        rw [e1]
        have e2 : ((x.toNat : Nat) : Int) = x := by omega
        rw [e2]
        clear e1 e2
        go_enter Try.func24, Try.ntmps24
        go_wp2_with fail
        go_ret2
        exact ⟨rfl, below_one _ _⟩
      · have e1 : plc 4 ks il (false, t, x) = (82, 0) := by simp [plc, h1]
        rw [e1]
        clear e1
        go_enter Try.func24, Try.ntmps24
        go_wp2_with fail
        go_ret2
        exact ⟨rfl, below_one _ _⟩
  · have e1 : plc k ks il (false, t, x) = (81, 0) := by simp [plc, h4]
    rw [e1]
    have h4' : (k == 4) = false := by simpa using h4
    clear e1 h4
    go_enter Try.func24, Try.ntmps24
    go_wp2_with fail
    go_ret2
    exact ⟨rfl, below_one _ _⟩
end Go.Proofs.Ytkjiiggboblioaa

/-
  Two variables, and what stands in them.
-/
namespace Go.Proofs.Ytkjiiggboblioaa
open Go.ChangeShapes Go.WideShapes Go.ChangeAt Go.RowKit

/-- Two boxes, and what stands in them. -/
def Two (w w' : World) (a b : Obj) : Prop := w'.heap[w.heap.size]? = some a ∧ w'.heap[w.heap.size + 1]? = some b
theorem Two.below {w w' w'' : World} {a b : Obj} (h : Two w w' a b) (hb : Below w'.heap.size w' w'') : Two w w'' a b :=
  ⟨(hb.block _ (lt_of_block h.1)).trans h.1, (hb.block _ (lt_of_block h.2)).trans h.2⟩
theorem Two.new (w : World) (o o' : Obj) {w1 : World} (hb : Below ((w.alloc o).alloc o').heap.size ((w.alloc o).alloc o') w1) : Two w w1 o o' := by
  refine ⟨?_, ?_⟩
  · rw [hb.block _ (by simp; omega), Below.heap_alloc _ _ _ (by simp)]
    exact heap_alloc_new _ _
  · rw [hb.block _ (by simp)]
    exact heap_new2 _ _ _
end Go.Proofs.Ytkjiiggboblioaa
