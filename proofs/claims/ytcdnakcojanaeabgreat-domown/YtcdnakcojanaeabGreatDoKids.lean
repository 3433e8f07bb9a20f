/-
  The program's kidsMayBe, parentMayBe.
-/
import Derived.Test.YtcdnakcojanaeabGreatDoChk
namespace Go.Proofs.YtcdnakcojanaeabGreat
open Go.ChangeShapes Go.WideShapes Go.ChangeAt Go.RowKit Go.Deep
open Do

theorem kidB_at {ns : List Nd} {n : Nd} {i : Nat} (h : i < n.kids.length) : kidB ns n i = match pl ns n.kids[i] with
    | none => false
    | some p => match ns[p]? with
      | none => false
      | some m => decide (m.par = n.id) && !(n.kids.take i).contains n.kids[i] := by
  unfold kidB
  rw [List.getElem?_eq_getElem h]
  rfl

theorem kidsB_false {ns : List Nd} {n : Nd} {i : Nat} (h : i < n.kids.length) (hk : kidB ns n i = false) : kidsB ns n = false := by
  unfold kidsB
  rw [List.all_eq_false]
  exact ⟨i, by simp [h], by simp [hk]⟩

theorem kidsB_true {ns : List Nd} {n : Nd} (h : ∀ i, i < n.kids.length → kidB ns n i = true) : kidsB ns n = true := by
  unfold kidsB
  rw [List.all_eq_true]
  intro i hi
  exact h i (by simpa using hi)

set_option maxRecDepth 100000 in
set_option maxHeartbeats 3200000 in
theorem kids_any (ns : List Nd) (n : Nd) (a : Option Addr) (c : Nat) (aa : Option Addr) (ac : Nat) (ka : Option Addr) (kc : Nat) (w : World) (hL : LayN w a ns) (hu : Up ns) (hn : ns.length ≤ 1024) (hf : FitN n aa ac ka kc) (hK : LayZ w ka n.kids) :
    Calls Tryz.prog 31 #[.slice a ns.length c, mkN n.id n.par n.tag n.key n.txt aa n.ats.length ac ka n.kids.length kc] w fun e w' => e = .returned (.bool (kidsB ns n)) ∧ Below w.heap.size w w' := by
  have HL : Hid (LayN w a ns) := hL
  have HK : Hid (LayZ w ka n.kids) := hK
  have HU : Hid (Up ns) := hu
  have HB0 : Hid (∀ W, Below w.heap.size w W → ∀ x, Calls Tryz.prog 54 #[.slice a ns.length c, .int .i64 x] W fun e w' => ∃ v, e = .returned v ∧ FindIs a ns x v ∧ Below W.heap.size W w') := fun W hb x => find_any ns x a c W (hL.below hb) hu hn
  have hkl := hf.kids
  have hkl1 : n.kids.length ≤ kc := hkl.1
  have hkl2 : kc ≤ 9223372036854775807 := hkl.2.1
  have hkl3 : n.kids.length ≤ 140737488351232 := by have := hkl.2.2.1; omega
  have HKA : Hid (∀ ad, ka = some ad → 0 < kc → ad = ⟨ad.block, ad.off, none⟩) := hkl.2.2.2.2
  clear hL hK hu hf hkl
  go_enter Tryz.func31, Tryz.ntmps31
  go_wp2_with fail
  have X1 : Hid ((w.alloc (.cells #[.int .i64 n.id, .int .i64 n.par, .string n.tag, .string n.key, .string n.txt, .slice aa n.ats.length ac, .slice ka n.kids.length kc] 41)).heap[w.heap.size]? = some (.cells #[.int .i64 n.id, .int .i64 n.par, .string n.tag, .string n.key, .string n.txt, .slice aa n.ats.length ac, .slice ka n.kids.length kc] 41 (0, 0))) := heap_alloc_new _ _
  have K1 : Hid (Below w.heap.size w (w.alloc (.cells #[.int .i64 n.id, .int .i64 n.par, .string n.tag, .string n.key, .string n.txt, .slice aa n.ats.length ac, .slice ka n.kids.length kc] 41))) := below_one _ _
  generalize w.alloc (.cells #[.int .i64 n.id, .int .i64 n.par, .string n.tag, .string n.key, .string n.txt, .slice aa n.ats.length ac, .slice ka n.kids.length kc] 41) = W1 at *
  go_loopw [11] (fun v11 wr => ∃ i : Nat, i ≤ n.kids.length ∧ v11 = .int .i64 (i : Int) ∧ Hid (∀ j, j < i → kidB ns n j = true) ∧ Hid (Below W1.heap.size W1 wr)) (fun v11 _ => n.kids.length - (intOf v11).toNat)
  case atStart => exact ⟨0, Nat.zero_le _, rfl, (show ∀ j, j < 0 → kidB ns n j = true from fun j h => by omega), Below.refl _ _⟩
  case round =>
    obtain ⟨i, hi, rfl, HT, HB⟩ := hrel
    by_cases hlt : i < n.kids.length
    · have BW : Hid (Below w.heap.size w wr) := nxt K1.out HB.out
      obtain ⟨kb, ko, hka, r1, _⟩ := HK.out.below BW.out i n.kids[i] (List.getElem?_eq_getElem hlt)
      have HKB : Hid (kidB ns n i = _) := kidB_at (ns := ns) hlt
      go_wp2_with fail
      refine (HB0.out _ BW.out n.kids[i]).mono ?_
      rintro e w2 ⟨v, rfl, hfi, hb2⟩
      have B2 : Hid (Below w.heap.size w w2) := nxt BW.out hb2
      have BL : Hid (Below W1.heap.size W1 w2) := nxt HB.out hb2
      have X2 := (BL.out.block _ (lt_of_block X1.out)).trans X1.out
      obtain ⟨y0, -⟩ := cell_of X2 0
      obtain ⟨y6, -⟩ := cell_of X2 6
      simp at y0 y6
      unfold FindIs at hfi
      cases hp : pl ns n.kids[i] with
      | none =>
        rw [hp] at hfi HKB
        simp only at hfi HKB
        subst hfi
        have HR : Hid (kidsB ns n = false) := kidsB_false hlt HKB.out
        clear hp HKB hb2 X2 r1
        go_wp2_with fail
        go_big_quiet (fail)
        go_wp2_with fail
        go_ret
        exact ⟨by rw [HR.out]; rfl, nxt B2.out (Below_drewN _ _ _)⟩
      | some p =>
        rw [hp] at hfi HKB
        simp only at hfi HKB
        obtain ⟨b, o, ha, rfl⟩ := hfi
        obtain ⟨m, hm1, hm2⟩ := pl_some hp
        rw [hm1] at HKB
        simp only at HKB
        obtain ⟨b', o', maa, mac, mka, mkc, ha', hN⟩ := HL.out.below B2.out p m hm1
        subst ha
        cases ha'
        have q1 := hN.c1
        clear hN hm1 hm2 hp hb2 X2
        by_cases hpar : m.par = n.id
        · have hcon := HKB.out
          have CT : Hid (∀ W, Below w.heap.size w W → Calls Tryz.prog 57 #[.slice ka i kc, .int .i64 n.kids[i]] W fun e w' => e = .returned (.bool ((n.kids.take i).contains n.kids[i])) ∧ w' = W) := by
            intro W hb
            have hly : LayZ W ka (n.kids.take i) := by
              intro j z hj
              rw [List.getElem?_take] at hj
              split at hj
              · exact HK.out.below hb j z hj
              · cases hj
            have := containsZ_any (n.kids.take i) n.kids[i] ka kc W hly (by simp; omega)
            rwa [show (n.kids.take i).length = i by simp; omega] at this
          cases hct : (n.kids.take i).contains n.kids[i] with
          | true =>
            rw [hct] at CT hcon
            have HR : Hid (kidsB ns n = false) := kidsB_false hlt (by rw [hcon]; simp)
            clear HKB hct hcon
            subst hka
            generalize n.kids[i] = kk at *
            have g1 : (m.par != n.id) = false := by simpa using hpar
            have g2 : (i : Int) ≤ (kc : Int) := by omega
            have g3 : ((b : Nat) == b) = true := by simp
            clear hpar
            generalize m.par = mp at *
            go_wp2_with fail
            go_big_quiet ((go_at_call 57; exact Calls.quiet_of_same (CT.out _ (nxt B2.out (Below_drewN _ _ _)))))
            go_wp2_with fail
            go_ret
            exact ⟨by rw [HR.out]; rfl, nxt B2.out (Below_drewN _ _ _)⟩
          | false =>
            rw [hct] at CT hcon
            have HKT : Hid (kidB ns n i = true) := by show _ = _; rw [hcon]; simp [hpar]
            clear HKB hct hcon
            subst hka
            generalize n.kids[i] = kk at *
            have g1 : (m.par != n.id) = false := by simpa using hpar
            have g2 : (i : Int) ≤ (kc : Int) := by omega
            clear hpar
            generalize m.par = mp at *
            go_wp2_with fail
            go_big_quiet ((go_at_call 57; exact Calls.quiet_of_same (CT.out _ (nxt B2.out (Below_drewN _ _ _)))))
            go_wp2_with fail
            go_roundw
            case rel =>
              refine ⟨i + 1, by omega, by go_num, ?_, nxt BL.out (Below_drewN _ _ _)⟩
              intro j hj
              by_cases e : j = i
              · subst e
                exact HKT.out
              · exact HT.out j (by omega)
            case measure => simp [intOf]; omega
        · have HR : Hid (kidsB ns n = false) := kidsB_false hlt (by rw [HKB.out]; simp [hpar])
          have g1 : (m.par != n.id) = true := by simpa using hpar
          have g2 : (m.par == n.id) = false := by simpa using hpar
          clear HKB hpar r1
          generalize m.par = mp at *
          go_wp2_with fail
          go_big_quiet (fail)
          go_wp2_with fail
          go_ret
          exact ⟨by rw [HR.out]; rfl, nxt B2.out (Below_drewN _ _ _)⟩
    · have HR : Hid (kidsB ns n = true) := kidsB_true fun j hj => HT.out j (by omega)
      clear HT
      go_wp2_with fail
      go_ret
      exact ⟨by rw [HR.out]; rfl, nxt K1.out HB.out⟩

set_option maxRecDepth 100000 in
set_option maxHeartbeats 1600000 in
theorem par_any (ns : List Nd) (n : Nd) (a : Option Addr) (c : Nat) (aa : Option Addr) (ac : Nat) (ka : Option Addr) (kc : Nat) (w : World) (hL : LayN w a ns) (hu : Up ns) (hn : ns.length ≤ 1024) :
    Calls Tryz.prog 32 #[.slice a ns.length c, mkN n.id n.par n.tag n.key n.txt aa n.ats.length ac ka n.kids.length kc] w fun e w' => e = .returned (.bool (parB ns n)) ∧ Below w.heap.size w w' := by
  have HL : Hid (LayN w a ns) := hL
  have HB0 : Hid (∀ W, Below w.heap.size w W → ∀ x, Calls Tryz.prog 54 #[.slice a ns.length c, .int .i64 x] W fun e w' => ∃ v, e = .returned v ∧ FindIs a ns x v ∧ Below W.heap.size W w') := fun W hb x => find_any ns x a c W (hL.below hb) hu hn
  clear hL hu
  by_cases h0 : n.par = 0
  · have HR : Hid (parB ns n = true) := by show _ = _; unfold parB; simp [h0]
    go_enter Tryz.func32, Tryz.ntmps32
    go_wp2_with fail
    go_ret
    exact ⟨by rw [HR.out]; rfl, below_one _ _⟩
  · have HE : Hid (parB ns n = match pl ns n.par with
      | none => false
      | some p => match ns[p]? with
        | none => false
        | some m => m.kids.contains n.id) := by show _ = _; unfold parB; rw [decide_eq_false h0, Bool.false_or]; rfl
    have g0 : (n.par == 0) = false := by simpa using h0
    clear h0
    go_enter Tryz.func32, Tryz.ntmps32
    go_wp2_with fail
    have X1 : Hid ((w.alloc (.cells #[.int .i64 n.id, .int .i64 n.par, .string n.tag, .string n.key, .string n.txt, .slice aa n.ats.length ac, .slice ka n.kids.length kc] 41)).heap[w.heap.size]? = some (.cells #[.int .i64 n.id, .int .i64 n.par, .string n.tag, .string n.key, .string n.txt, .slice aa n.ats.length ac, .slice ka n.kids.length kc] 41 (0, 0))) := heap_alloc_new _ _
    refine (HB0.out _ (below_one _ _) n.par).mono ?_
    rintro e w2 ⟨v, rfl, hfi, hb2⟩
    have B2 : Hid (Below w.heap.size w w2) := nxt (below_one _ _) hb2
    have X2 := (hb2.block _ (lt_of_block X1.out)).trans X1.out
    obtain ⟨y0, -⟩ := cell_of X2 0
    simp at y0
    clear X1 X2 hb2 HB0
    unfold FindIs at hfi
    cases hp : pl ns n.par with
    | none =>
      rw [hp] at hfi HE
      simp only at hfi HE
      subst hfi
      clear hp
      go_wp2_with fail
      go_big_quiet (fail)
      go_wp2_with fail
      go_ret
      exact ⟨by rw [HE.out]; rfl, nxt B2.out (Below_drewN _ _ _)⟩
    | some p =>
      rw [hp] at hfi HE
      simp only at hfi HE
      obtain ⟨b, o, ha, rfl⟩ := hfi
      obtain ⟨m, hm1, hm2⟩ := pl_some hp
      rw [hm1] at HE
      simp only at HE
      obtain ⟨b', o', maa, mac, mka, mkc, ha', hN⟩ := HL.out.below B2.out p m hm1
      subst ha
      cases ha'
      have q6 := hN.c6
      have CT : Hid (∀ W, Below w2.heap.size w2 W → Calls Tryz.prog 57 #[.slice mka m.kids.length mkc, .int .i64 n.id] W fun e w' => e = .returned (.bool (m.kids.contains n.id)) ∧ w' = W) := fun W hb => containsZ_any m.kids n.id mka mkc W (hN.kids.below hb) (by have := hN.fit.kids.2.2.1; omega)
      clear hN hm1 hm2 hp
      generalize m.kids.contains n.id = cb at *
      go_wp2_with fail
      go_big_quiet ((go_at_call 57; exact Calls.quiet_of_same (CT.out _ (Below_drewN _ _ _))))
      go_wp2_with fail
      go_ret
      exact ⟨by rw [HE.out]; rfl, nxt B2.out (Below_drewN _ _ _)⟩
end Go.Proofs.YtcdnakcojanaeabGreat
