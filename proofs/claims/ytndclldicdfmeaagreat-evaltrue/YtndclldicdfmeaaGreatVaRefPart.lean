/-
  May a part be, but for its items? What the page's function answers.
-/
import Derived.Test.YtndclldicdfmeaaGreatVaPart
import Derived.Test.YtndclldicdfmeaaGreatVaRefFl
namespace Go.Proofs.YtndclldicdfmeaaGreat
open Go.ChangeShapes Go.WideShapes Go.ChangeAt Go.RowKit
open Fl

theorem u8_tri (a b : UInt8) : a < b ∨ a = b ∨ b < a := by
  rcases Nat.lt_trichotomy a.toNat b.toNat with h | h | h
  · exact Or.inl (UInt8.lt_iff_toNat_lt.2 h)
  · exact Or.inr (Or.inl (UInt8.toNat_inj.1 h))
  · exact Or.inr (Or.inr (UInt8.lt_iff_toNat_lt.2 h))

theorem less_turn : ∀ x y : List UInt8, (!Op.bytesLess y x && !(y == x)) = Op.bytesLess x y
  | [], [] => rfl
  | [], _ :: _ => rfl
  | _ :: _, [] => rfl
  | a :: x, b :: y => by
    have ih := less_turn x y
    simp only [Op.bytesLess]
    rcases u8_tri a b with h | h | h
    · have h1 : ¬ b < a := UInt8.lt_asymm h
      have h2 : (b == a) = false := by simp; intro e; subst e; exact UInt8.lt_irrefl _ h
      simp [h, h1, h2]
    · subst h
      have h1 : ¬ a < a := UInt8.lt_irrefl _
      simp only [decide_eq_false h1, beq_self_eq_true, Bool.false_or, Bool.true_and, List.cons_beq_cons]
      exact ih
    · have h1 : ¬ a < b := UInt8.lt_asymm h
      have h2 : (a == b) = false := by simp; intro e; subst e; exact UInt8.lt_irrefl _ h
      simp [h, h1, h2]

theorem box3 (w : World) (a0 a1 a2 a3 a4 : Value) (t : TypeId) (n : Nat) : ((w.alloc (.cells #[a0, a1, a2, a3, a4] t)).drewN n).cell? ⟨w.heap.size, 3, none⟩ = some a3 := by
  show (w.alloc (.cells #[a0, a1, a2, a3, a4] t)).cell? ⟨w.heap.size, 3, none⟩ = some a3
  simp only [World.cell?, heap_alloc_new]
  rfl

theorem box1 (w : World) (a0 a1 a2 a3 a4 : Value) (t : TypeId) (n : Nat) : ((w.alloc (.cells #[a0, a1, a2, a3, a4] t)).drewN n).cell? ⟨w.heap.size, 1, none⟩ = some a1 := by
  show (w.alloc (.cells #[a0, a1, a2, a3, a4] t)).cell? ⟨w.heap.size, 1, none⟩ = some a1
  simp only [World.cell?, heap_alloc_new]
  rfl

set_option maxRecDepth 100000 in
set_option maxHeartbeats 3200000 in
theorem rpart_five (b : Int) (t : ByteArray) (ks : List ByteArray) (ka : Option Addr) (kc : Nat) (ia : Option Addr) (il ic : Nat) (w : World) (hk : LayS w ka ks) (hf : Fit 5 b t ks.length kc il ic) :
    Calls Tryz.prog 41 #[mk 5 b t ka ks.length kc ia il ic] w fun e w' => e = .returned (.bool (mayB 5 b t ks il)) ∧ Below w.heap.size w w' := by
  have HK : Hid (LayS w ka ks) := hk
  obtain ⟨-, hb, ht, -, -, bk, -, -, bi⟩ := hf
  clear hk
  have HM : Hid (mayB 5 b t ks il = (b == 0 && (t.toList.isEmpty && (decide ((il : Int) ≤ 32) && ((ks.length : Int) == il && keysB ks))))) := by simp [Hid, mayB]
  by_cases hok : (b == 0 && (t.toList.isEmpty && (decide ((il : Int) ≤ 32) && ((ks.length : Int) == il)))) = true
  · have HM2 : Hid (mayB 5 b t ks il = keysB ks) := by
      rw [HM.out]
      simp only [Bool.and_eq_true] at hok
      show _ = _
      rw [hok.1, hok.2.1, hok.2.2.1, hok.2.2.2]
      rfl
    have h0 : (b == 0) = true := by simp only [Bool.and_eq_true] at hok; exact hok.1
    have h1 : t.toList.isEmpty = true := by simp only [Bool.and_eq_true] at hok; exact hok.2.1
    have h2 : decide ((il : Int) ≤ 32) = true := by simp only [Bool.and_eq_true] at hok; exact hok.2.2.1
    have h3 : ((ks.length : Int) == il) = true := by simp only [Bool.and_eq_true] at hok; exact hok.2.2.2
    have h0' : b = 0 := by simpa using h0
    have h2' : (il : Int) ≤ 32 := by simpa using h2
    have h3' : ks.length = il := by simp at h3; omega
    have h1' : t.toList = [] := by simpa using h1
    subst h0' h3'
    clear hok h0 h1 h2 h3 hb
    go_enter Tryz.func41, Tryz.ntmps41
    go_wp2_with fail
    go_quiet (fail)
    go_wp2_with fail
    go_loopw [7, 8] (fun g i wr => ∃ m : Nat, m ≤ ks.length ∧ i = .int .i64 m ∧ Hid ((g = .bool true ∧ ∀ j, j < m → goodAt ks j = true) ∨ (g = .bool false ∧ keysB ks = false)) ∧ Hid (Below w.heap.size w wr) ∧
        wr.cell? ⟨w.heap.size, 3, none⟩ = some (.slice ka ks.length kc)) (fun _ i _ => ks.length - (intOf i).toNat)
    case atStart => exact ⟨0, Nat.zero_le _, rfl, Or.inl ⟨rfl, fun j hj => by omega⟩, below_draw _ _ _, box3 _ _ _ _ _ _ _ _⟩
    case round =>
      obtain ⟨m, hm, rfl, HG, HW, b3⟩ := hrel
      rcases HG.out with ⟨rfl, hg⟩ | ⟨rfl, hfalse⟩
      · have HGd : Hid (∀ j, j < m → goodAt ks j = true) := hg
        clear hg HG
        by_cases hlt : m < ks.length
        · have hi0 : (0 : Int) ≤ (m : Int) := by omega
          have hi1 : (m : Int) < (ks.length : Int) := by omega
          obtain ⟨s1, hs1⟩ : ∃ s, ks[m]? = some s := ⟨ks[m], by simp [hlt]⟩
          have e1 : ks[m] = s1 := by rw [List.getElem?_eq_getElem hlt] at hs1; simpa using hs1
          obtain ⟨b1, o1, rfl, q1, z1⟩ := LayS.below HK.out HW.out m s1 hs1
          by_cases h0 : 0 < m
          · obtain ⟨s0, hs0⟩ : ∃ s, ks[m - 1]? = some s := ⟨ks[m - 1], by simp⟩
            have e0 : ks[m - 1] = s0 := by rw [List.getElem?_eq_getElem (by omega)] at hs0; simpa using hs0
            obtain ⟨b2, o2, e2, q2, z2⟩ := LayS.below HK.out HW.out (m - 1) s0 hs0
            cases e2
            have hm1 : ((m : Int) - 1).toNat = m - 1 := by omega
            have hm2 : (0 : Int) ≤ (m : Int) - 1 := by omega
            have hm3 : (m : Int) - 1 < (ks.length : Int) := by omega
            have hmz : ((m : Int) == 0) = false := by simp; omega
            have hwm : IntKind.i64.wrap ((m : Int) - 1) = (m : Int) - 1 := by rw [IntKind.wrap_i64]; omega
            have HS := goodAt_succ hlt h0
            rw [e1, e0] at HS
            have HS' : Hid (goodAt ks m = (keyB s1 && Op.bytesLess s0.toList s1.toList)) := HS
            have HL : Hid (m < ks.length) := hlt
            have H0 : Hid (0 < m) := h0
            clear HS hs1 e1 hs0 e0
            by_cases hkey : keyB s1 = true
            · have hc : ∀ w, Calls Tryz.prog 64 #[.string s1] w fun e w' => e = .returned (.bool true) ∧ w' = w := fun w => by rw [← hkey]; exact rkey_any s1 w z1
              by_cases hless : Op.bytesLess s0.toList s1.toList = true
              · go_wp2_with fail
                go_quiet ((go_at_call 64; exact Calls.quiet_of_same (hc _)))
                all_goals
                  go_wp2_with fail
                  go_roundw
                  case rel => exact ⟨m + 1, by omega, by go_num, Or.inl ⟨by rw [less_turn, hless], good_next HGd.out (by rw [HS'.out, hkey, hless]; rfl)⟩, HW.out.trans (Below_drewN _ _ _), b3⟩
                  case measure => simp [intOf]; omega
              · have hl : Op.bytesLess s0.toList s1.toList = false := by simpa using hless
                clear hless
                go_wp2_with fail
                go_quiet ((go_at_call 64; exact Calls.quiet_of_same (hc _)))
                all_goals
                  go_wp2_with fail
                  go_roundw
                  case rel => exact ⟨m + 1, by omega, by go_num, Or.inr ⟨by rw [less_turn, hl], keysB_false HL.out (by rw [HS'.out, hkey, hl]; rfl)⟩, HW.out.trans (Below_drewN _ _ _), b3⟩
                  case measure => simp [intOf]; omega
            · have hkf : keyB s1 = false := by simpa using hkey
              have hc : ∀ w, Calls Tryz.prog 64 #[.string s1] w fun e w' => e = .returned (.bool false) ∧ w' = w := fun w => by rw [← hkf]; exact rkey_any s1 w z1
              clear hkey
              go_wp2_with fail
              go_quiet ((go_at_call 64; exact Calls.quiet_of_same (hc _)))
              all_goals
                go_wp2_with fail
                go_roundw
                case rel => exact ⟨m + 1, by omega, by go_num, Or.inr ⟨rfl, keysB_false HL.out (by rw [HS'.out, hkf]; rfl)⟩, HW.out.trans (Below_drewN _ _ _), b3⟩
                case measure => simp [intOf]; omega
          · have hz : m = 0 := by omega
            subst hz
            have q0 : wr.cell? ⟨b1, o1, none⟩ = some (.string s1) := by simpa using q1
            have HS := goodAt_zero hlt
            rw [e1] at HS
            have HS' : Hid (goodAt ks 0 = keyB s1) := HS
            have HL : Hid (0 < ks.length) := hlt
            clear HS hs1 e1 h0
            by_cases hkey : keyB s1 = true
            · have hc : ∀ w, Calls Tryz.prog 64 #[.string s1] w fun e w' => e = .returned (.bool true) ∧ w' = w := fun w => by rw [← hkey]; exact rkey_any s1 w z1
              go_wp2_with fail
              go_quiet ((go_at_call 64; exact Calls.quiet_of_same (hc _)))
              all_goals
                go_wp2_with fail
                go_roundw
                case rel => exact ⟨1, by omega, by go_num, Or.inl ⟨rfl, good_next HGd.out (by rw [HS'.out, hkey])⟩, HW.out.trans (Below_drewN _ _ _), b3⟩
                case measure => simp [intOf]; omega
            · have hkf : keyB s1 = false := by simpa using hkey
              have hc : ∀ w, Calls Tryz.prog 64 #[.string s1] w fun e w' => e = .returned (.bool false) ∧ w' = w := fun w => by rw [← hkf]; exact rkey_any s1 w z1
              clear hkey
              go_wp2_with fail
              go_quiet ((go_at_call 64; exact Calls.quiet_of_same (hc _)))
              all_goals
                go_wp2_with fail
                go_roundw
                case rel => exact ⟨1, by omega, by go_num, Or.inr ⟨rfl, keysB_false HL.out (by rw [HS'.out, hkf])⟩, HW.out.trans (Below_drewN _ _ _), b3⟩
                case measure => simp [intOf]; omega
        · go_wp2_with fail
          go_ret
          exact ⟨ret_bool (by rw [HM2.out]; exact (keysB_true fun j hj => HGd.out j (by omega)).symm), HW.out⟩
      · have HF : Hid (keysB ks = false) := hfalse
        clear hfalse
        go_wp2_with fail
        go_ret
        exact ⟨ret_bool (by rw [HM2.out]; exact HF.out.symm), HW.out⟩
  · have hno : (b == 0 && (t.toList.isEmpty && (decide ((il : Int) ≤ 32) && ((ks.length : Int) == il)))) = false := by simpa using hok
    have HM2 : Hid (mayB 5 b t ks il = false) := by
      rw [HM.out]
      show _ = _
      cases h0 : (b == 0) <;> cases h1 : t.toList.isEmpty <;> cases h2 : decide ((il : Int) ≤ 32) <;> cases h3 : ((ks.length : Int) == il) <;> simp_all
    have H0 : Hid ((b == 0 && (t.toList.isEmpty && (decide ((il : Int) ≤ 32) && ((ks.length : Int) == il)))) = false) := hno
    clear hok hno hb
    cases h3 : ((ks.length : Int) == il) with
    | true =>
      go_enter Tryz.func41, Tryz.ntmps41
      go_wp2_with fail
      go_quiet (fail)
      go_wp2_with fail
      all_goals first
        | (exfalso; have h := H0.out; simp_all; done)
        | (refine wp_loop_rounds 1 ?_; rw [rounds_succ]; go_wp2_with fail; go_ret; exact ⟨ret_bool HM2.out.symm, below_draw _ _ _⟩)
    | false =>
      go_enter Tryz.func41, Tryz.ntmps41
      go_wp2_with fail
      go_quiet (fail)
      go_wp2_with fail
      all_goals (refine wp_loop_rounds 1 ?_; rw [rounds_succ]; go_wp2_with fail; go_ret; exact ⟨ret_bool HM2.out.symm, below_draw _ _ _⟩)

set_option maxRecDepth 100000 in
set_option maxHeartbeats 3200000 in
theorem rpart_any (k b : Int) (t : ByteArray) (ks : List ByteArray) (ka : Option Addr) (kc : Nat) (ia : Option Addr) (il ic : Nat) (w : World) (hk : LayS w ka ks) (hf : Fit k b t ks.length kc il ic) :
    Calls Tryz.prog 41 #[mk k b t ka ks.length kc ia il ic] w fun e w' => e = .returned (.bool (mayB k b t ks il)) ∧ Below w.heap.size w w' := by
  by_cases k5 : k = 5
  · subst k5
    exact rpart_five b t ks ka kc ia il ic w hk hf
  obtain ⟨-, hb, ht, -, -, bk, -, -, bi⟩ := hf
  have HU : Hid (U b) := hb
  clear hk
  by_cases k0 : k = 0
  · subst k0
    clear hb k5
    go_enter Tryz.func41, Tryz.ntmps41
    go_wp2_with fail
    go_quiet (fail)
    go_wp2_with fail
    all_goals (go_ret; refine ⟨ret_bool ?_, below_draw _ _ _⟩; simp_all [mayB]; try (intros; omega))
  by_cases k1 : k = 1
  · subst k1
    clear hb k5 k0
    go_enter Tryz.func41, Tryz.ntmps41
    go_wp2_with fail
    go_quiet (fail)
    go_wp2_with fail
    all_goals (go_ret; refine ⟨ret_bool ?_, below_draw _ _ _⟩; simp_all [mayB]; try (intros; omega))
  by_cases k3 : k = 3
  · subst k3
    clear hb k5 k0 k1
    go_enter Tryz.func41, Tryz.ntmps41
    go_wp2_with fail
    go_quiet (fail)
    go_wp2_with fail
    all_goals (go_ret; refine ⟨ret_bool ?_, below_draw _ _ _⟩; simp_all [mayB]; try (intros; omega))
  by_cases k4 : k = 4
  · subst k4
    clear hb k5 k0 k1 k3
    go_enter Tryz.func41, Tryz.ntmps41
    go_wp2_with fail
    go_quiet (fail)
    go_wp2_with fail
    all_goals (go_ret; refine ⟨ret_bool ?_, below_draw _ _ _⟩; simp_all [mayB]; try (intros; omega))
  by_cases k2 : k = 2
  · subst k2
    clear hb k5 k0 k1 k3 k4
    have HC : Hid (∀ w, Calls Tryz.prog 63 #[.int .u64 b] w fun e w' => e = .returned (.int .u64 (can b)) ∧ w' = w) := fun w => rcanon_any _ _ HU.out
    cases hcan : (can b == b) with
    | false =>
      go_enter Tryz.func41, Tryz.ntmps41
      go_wp2_with fail
      go_quiet (fail)
      go_wp2_with fail
      generalize hW : (w.alloc (.cells #[.int .i64 2, .int .u64 b, .string t, .slice ka ks.length kc, .slice ia il ic] 29)).drewN nq = W1
      have c1 : W1.cell? ⟨w.heap.size, 1, none⟩ = some (.int .u64 b) := by rw [← hW]; exact box1 _ _ _ _ _ _ _ _
      have HW : Hid (Below w.heap.size w W1) := by rw [← hW]; exact below_draw _ _ _
      clear hW
      go_quiet ((go_at_call 63; exact Calls.quiet_of_same (HC.out _)))
      go_wp2_with fail
      all_goals (go_ret; refine ⟨ret_bool ?_, HW.out.trans (Below_drewN _ _ _)⟩; simp_all [mayB]; try (intros; omega))
    | true =>
      cases ht0 : t.toList.isEmpty with
      | false =>
        go_enter Tryz.func41, Tryz.ntmps41
        go_wp2_with fail
        go_quiet (fail)
        go_wp2_with fail
        generalize hW : (w.alloc (.cells #[.int .i64 2, .int .u64 b, .string t, .slice ka ks.length kc, .slice ia il ic] 29)).drewN nq = W1
        have c1 : W1.cell? ⟨w.heap.size, 1, none⟩ = some (.int .u64 b) := by rw [← hW]; exact box1 _ _ _ _ _ _ _ _
        have HW : Hid (Below w.heap.size w W1) := by rw [← hW]; exact below_draw _ _ _
        clear hW
        go_quiet ((go_at_call 63; exact Calls.quiet_of_same (HC.out _)))
        go_wp2_with fail
        all_goals (go_ret; refine ⟨ret_bool ?_, HW.out.trans (Below_drewN _ _ _)⟩; simp_all [mayB]; try (intros; omega))
      | true =>
        cases hk0 : ((ks.length : Int) == 0) with
        | false =>
          go_enter Tryz.func41, Tryz.ntmps41
          go_wp2_with fail
          go_quiet (fail)
          go_wp2_with fail
          generalize hW : (w.alloc (.cells #[.int .i64 2, .int .u64 b, .string t, .slice ka ks.length kc, .slice ia il ic] 29)).drewN nq = W1
          have c1 : W1.cell? ⟨w.heap.size, 1, none⟩ = some (.int .u64 b) := by rw [← hW]; exact box1 _ _ _ _ _ _ _ _
          have HW : Hid (Below w.heap.size w W1) := by rw [← hW]; exact below_draw _ _ _
          clear hW
          go_quiet ((go_at_call 63; exact Calls.quiet_of_same (HC.out _)))
          go_wp2_with fail
          all_goals (go_ret; refine ⟨ret_bool ?_, HW.out.trans (Below_drewN _ _ _)⟩; simp_all [mayB]; try (intros; omega))
        | true =>
          go_enter Tryz.func41, Tryz.ntmps41
          go_wp2_with fail
          go_quiet (fail)
          go_wp2_with fail
          generalize hW : (w.alloc (.cells #[.int .i64 2, .int .u64 b, .string t, .slice ka ks.length kc, .slice ia il ic] 29)).drewN nq = W1
          have c1 : W1.cell? ⟨w.heap.size, 1, none⟩ = some (.int .u64 b) := by rw [← hW]; exact box1 _ _ _ _ _ _ _ _
          have HW : Hid (Below w.heap.size w W1) := by rw [← hW]; exact below_draw _ _ _
          clear hW
          go_quiet ((go_at_call 63; exact Calls.quiet_of_same (HC.out _)))
          go_wp2_with fail
          all_goals (go_ret; refine ⟨ret_bool ?_, HW.out.trans (Below_drewN _ _ _)⟩; simp_all [mayB]; try (intros; omega))
  have d0 : (k == 0) = false := by simpa using k0
  have d1 : (k == 1) = false := by simpa using k1
  have d2 : (k == 2) = false := by simpa using k2
  have d3 : (k == 3) = false := by simpa using k3
  have d4 : (k == 4) = false := by simpa using k4
  have d5 : (k == 5) = false := by simpa using k5
  have HM : Hid (mayB k b t ks il = false) := by simp [Hid, mayB, k0, k1, k2, k3, k4, k5]
  clear hb k0 k1 k2 k3 k4 k5
  go_enter Tryz.func41, Tryz.ntmps41
  go_wp2_with fail
  go_quiet (fail)
  go_wp2_with fail
  go_ret
  exact ⟨ret_bool HM.out.symm, below_draw _ _ _⟩
end Go.Proofs.YtndclldicdfmeaaGreat
