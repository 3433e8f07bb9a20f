/-
  The page's Letters and Attrs. (Printed by wip/make/mktrattr.py.)
-/
import Derived.Test.YtcdnakcojanaeabGreatTrAttr
namespace Go.Proofs.YtcdnakcojanaeabGreat
open Go.ChangeShapes Go.WideShapes Go.ChangeAt Go.RowKit

set_option maxRecDepth 100000 in
set_option maxHeartbeats 1600000 in
theorem rletters_any (s : ByteArray) (w : World) (hs : s.size ≤ 140737488351232) : Calls Tryz.prog 53 #[.string s] w fun e w' => e = .returned (.bool (nameB s)) ∧ Below w.heap.size w w' := by
  by_cases h1 : (s.size : Int) < 1
  · have h1d : decide ((s.size : Int) < 1) = true := decide_eq_true h1
    have e : nameB s = false := by unfold nameB; rw [decide_eq_false (by omega : ¬ 1 ≤ s.size)]; rfl
    rw [e]
    go_enter Tryz.func53, Tryz.ntmps53
    go_wp2_with fail
    go_ret
    exact ⟨rfl, Below.refl _ _⟩
  · have h1d : decide ((s.size : Int) < 1) = false := decide_eq_false h1
    by_cases h2 : 16 < (s.size : Int)
    · have h2d : decide (16 < (s.size : Int)) = true := decide_eq_true h2
      have e : nameB s = false := by unfold nameB; rw [decide_eq_false (by omega : ¬ s.size ≤ 16), Bool.and_false]; rfl
      rw [e]
      go_enter Tryz.func53, Tryz.ntmps53
      go_wp2_with fail
      go_ret
      exact ⟨rfl, Below.refl _ _⟩
    · have h2d : decide (16 < (s.size : Int)) = false := decide_eq_false h2
      have e : nameB s = s.data.toList.all ltr := by unfold nameB; rw [decide_eq_true (by omega : 1 ≤ s.size), decide_eq_true (by omega : s.size ≤ 16)]; rfl
      rw [e]
      clear e
      obtain ⟨R, hR⟩ : ∃ R, R = s.data.toList.all ltr := ⟨_, rfl⟩
      rw [← hR]
      have HR : Hid (R = s.data.toList.all ltr) := hR
      clear hR
      have hsz : s.data.toList.length = s.size := by cases s; rfl
      have HSZ : Hid (s.data.toList.length = s.size) := hsz
      clear hsz
      go_enter Tryz.func53, Tryz.ntmps53
      go_wp2_with fail
      go_loopw [3] (fun i wr => ∃ m : Nat, m ≤ s.size ∧ i = .int .i64 m ∧ Hid ((s.data.toList.take m).all ltr = true) ∧ Hid (Below w.heap.size w wr)) (fun i _ => s.size - (intOf i).toNat)
      case atStart => exact ⟨0, Nat.zero_le _, rfl, (by simp [Hid]), Below.refl _ _⟩
      case round =>
        obtain ⟨m, hm, rfl, HZ, HW⟩ := hrel
        by_cases hlt : m < s.size
        · have hm1 : (m : Int) < (s.size : Int) := by omega
          have HTK : Hid (s.data.toList.take (m + 1) = s.data.toList.take m ++ [s[m]]) := by show _ = _; rw [List.take_succ_eq_append_getElem (by rw [HSZ.out]; exact hlt)]; rfl
          have HO : Hid (s[m] ∈ s.data.toList) := by show s.data[m] ∈ _; simp
          by_cases c1 : (s[m].toNat : Int) < 97
          · have c1d : decide ((s[m].toNat : Int) < 97) = true := decide_eq_true c1
            have HF : Hid (s.data.toList.all ltr = false) := by show _ = _; rw [List.all_eq_false]; exact ⟨_, HO.out, by simp [ltr]; omega⟩
            go_wp2_with fail
            go_ret
            exact ⟨by rw [HR.out, HF.out]; rfl, HW.out⟩
          · have c1d : decide ((s[m].toNat : Int) < 97) = false := decide_eq_false c1
            by_cases c2 : 122 < (s[m].toNat : Int)
            · have c2d : decide (122 < (s[m].toNat : Int)) = true := decide_eq_true c2
              have HF : Hid (s.data.toList.all ltr = false) := by show _ = _; rw [List.all_eq_false]; exact ⟨_, HO.out, by simp [ltr]; omega⟩
              go_wp2_with fail
              go_ret
              exact ⟨by rw [HR.out, HF.out]; rfl, HW.out⟩
            · have c2d : decide (122 < (s[m].toNat : Int)) = false := decide_eq_false c2
              have HF : Hid ((s.data.toList.take (m + 1)).all ltr = true) := by show _ = _; rw [HTK.out, List.all_append, HZ.out]; simp [ltr]; omega
              go_wp2_with fail
              go_roundw
              case rel => exact ⟨m + 1, by omega, by go_num, HF.out, HW.out⟩
              case measure => simp [intOf]; omega
        · have hme : m = s.size := by omega
          subst hme
          have h := HZ.out
          rw [← HSZ.out, List.take_length] at h
          have HE : Hid (s.data.toList.all ltr = true) := h
          clear h
          go_wp2_with fail
          go_ret
          exact ⟨by rw [HR.out, HE.out]; rfl, HW.out⟩

set_option maxRecDepth 100000 in
set_option maxHeartbeats 3200000 in
theorem rattrs_any (l : List Atr) (aa : Option Addr) (ac : Nat) (w : World) (hA : LayA w aa l) (hl : l.length * 32 ≤ 140737488351232) :
    Calls Tryz.prog 77 #[.slice aa l.length ac] w fun e w' => e = .returned (.bool (attrsB l)) ∧ Below w.heap.size w w' := by
  have HA : Hid (LayA w aa l) := hA
  clear hA
  by_cases hlong : 16 < l.length
  · have hlong1 : 16 < (l.length : Int) := by omega
    rw [attrsB_long hlong]
    go_enter Tryz.func77, Tryz.ntmps77
    go_wp2_with fail
    go_ret
    exact ⟨rfl, Below.refl _ _⟩
  · go_enter Tryz.func77, Tryz.ntmps77
    go_wp2_with fail
    go_loopw [3] (fun i wr => ∃ m : Nat, m ≤ l.length ∧ i = .int .i64 m ∧ Hid (∀ j, j < m → okA l j = true) ∧ Hid (Below w.heap.size w wr)) (fun i _ => l.length - (intOf i).toNat)
    case atStart => exact ⟨0, Nat.zero_le _, rfl, (fun j h => by omega), Below.refl _ _⟩
    case round =>
      obtain ⟨m, hm, rfl, HZ, HW⟩ := hrel
      by_cases hlt : m < l.length
      · obtain ⟨b, o, rfl, q0, q1, z0, z1⟩ := (HA.out.below HW.out) m l[m] (by simp [hlt])
        have hm1 : (m : Int) < (l.length : Int) := by omega
        have HO : Hid (okA l m = _) := okA_at hlt
        obtain ⟨p, hp⟩ : ∃ p, p = (l[m - 1]'(by omega)).1 := ⟨_, rfl⟩
        have HP : Hid (0 < m → wr.cell? ⟨b, o + (m - 1) * 2, none⟩ = some (.string p)) := fun h0 => by
          obtain ⟨b', o', e, r0, -⟩ := (HA.out.below HW.out) (m - 1) (l[m - 1]'(by omega)) (List.getElem?_eq_getElem _)
          simp only [Option.some.injEq, Addr.mk.injEq, and_true] at e
          rw [hp, e.1, e.2]; exact r0
        rw [← hp] at HO
        generalize l[m].1 = a1 at *
        generalize l[m].2 = a2 at *
        clear hp
        have B1 : Hid (Below wr.heap.size wr wr) := Below.refl _ _
        have p0 : ∀ s : Cls wr, s.1.cell? ⟨b, o + m * 2, none⟩ = some (.string a1) := fun s => Cls.cell q0 s
        have p1 : ∀ s : Cls wr, s.1.cell? ⟨b, o + m * 2 + 1, none⟩ = some (.string a2) := fun s => Cls.cell q1 s
        have CN : Hid (∀ s : Cls wr, Calls Tryz.prog 53 #[.string a1] s.1 fun e w' => e = .returned (.bool (nameB a1)) ∧ Below s.1.heap.size s.1 w') := fun s => rletters_any a1 s.1 z0
        have j1 : IntKind.i64.wrap ((m : Int) - 1) = (m : Int) - 1 := by rw [IntKind.wrap_i64]; omega
        have j2 : ((m : Int) - 1).toNat = m - 1 := by omega
        have inst : Nonempty (Cls wr) := ⟨⟨_, Below.refl _ _⟩⟩
        generalize nameB a1 = nb at *
        clear z0 z1
        cases nb
        · have E : Hid (attrsB l = false) := attrsB_false hlt (by rw [HO.out]; rfl)
          go_wp2_with fail
          refine wp_region_cls (by kernel_rfl) (by kernel_rfl) ?_
          repeat (go_big_quiet_step ((go_at_call 53; exact Calls.cls (CN.out _))))
          refine wpQuiet_nil ?_
          intro _ hw'
          obtain ⟨s, hw''⟩ := hw'
          subst hw''
          have KS : Hid (Below wr.heap.size wr s.1) := nxt B1.out s.2
          go_wp2_with fail
          go_ret
          exact ⟨by rw [E.out]; rfl, nxt HW.out KS.out⟩
        · by_cases c2 : 128 < a2.size
          · have hd2 : decide (128 < (a2.size : Int)) = true := by simp; omega
            have E : Hid (attrsB l = false) := attrsB_false hlt (by rw [HO.out]; rw [decide_eq_false (by omega)]; rfl)
            go_wp2_with fail
            refine wp_region_cls (by kernel_rfl) (by kernel_rfl) ?_
            repeat (go_big_quiet_step ((go_at_call 53; exact Calls.cls (CN.out _))))
            refine wpQuiet_nil ?_
            intro _ hw'
            obtain ⟨s, hw''⟩ := hw'
            subst hw''
            have KS : Hid (Below wr.heap.size wr s.1) := nxt B1.out s.2
            go_wp2_with fail
            go_ret
            exact ⟨by rw [E.out]; rfl, nxt HW.out KS.out⟩
          · have hd2 : decide (128 < (a2.size : Int)) = false := by simp; omega
            by_cases c0 : 0 < m
            · have hm0 : decide ((0 : Int) < (m : Int)) = true := by simp; omega
              have j3 : 0 ≤ (m : Int) - 1 := by omega
              have j4 : (m : Int) - 1 < (l.length : Int) := by omega
              have pp : ∀ s : Cls wr, s.1.cell? ⟨b, o + (m - 1) * 2, none⟩ = some (.string p) := fun s => Cls.cell (keepc B1.out _ _ (HP.out c0)) s
              have ht := less_total p.toList a1.toList
              by_cases c3 : Op.bytesLess p.toList a1.toList = true
              · have hd3 : (Op.bytesLess a1.toList p.toList || a1.toList == p.toList) = false := by rw [ht, c3]; rfl
                clear ht
                have E : Hid (∀ j, j < m + 1 → okA l j = true) := fun j hj => by
                  by_cases e : j = m
                  · subst e; rw [HO.out]; rw [c3, decide_eq_true (by omega)]; simp
                  · exact HZ.out j (by omega)
                go_wp2_with fail
                refine wp_region_cls (by kernel_rfl) (by kernel_rfl) ?_
                repeat (go_big_quiet_step ((go_at_call 53; exact Calls.cls (CN.out _))))
                refine wpQuiet_nil ?_
                intro _ hw'
                obtain ⟨s, hw''⟩ := hw'
                subst hw''
                have KS : Hid (Below wr.heap.size wr s.1) := nxt B1.out s.2
                go_wp2_with fail
                go_roundw
                case rel => exact ⟨m + 1, by omega, by go_num, E.out, nxt HW.out KS.out⟩
                case measure => simp [intOf]; omega
              · have c3' : Op.bytesLess p.toList a1.toList = false := by simpa using c3
                have hd3 : (Op.bytesLess a1.toList p.toList || a1.toList == p.toList) = true := by rw [ht, c3']; rfl
                clear ht c3
                have E : Hid (attrsB l = false) := attrsB_false hlt (by rw [HO.out]; rw [c3', decide_eq_false (by omega : ¬ m = 0)]; simp)
                go_wp2_with fail
                refine wp_region_cls (by kernel_rfl) (by kernel_rfl) ?_
                repeat (go_big_quiet_step ((go_at_call 53; exact Calls.cls (CN.out _))))
                refine wpQuiet_nil ?_
                intro _ hw'
                obtain ⟨s, hw''⟩ := hw'
                subst hw''
                have KS : Hid (Below wr.heap.size wr s.1) := nxt B1.out s.2
                go_wp2_with fail
                go_ret
                exact ⟨by rw [E.out]; rfl, nxt HW.out KS.out⟩
            · have hm0 : decide ((0 : Int) < (m : Int)) = false := by simp; omega
              have E : Hid (∀ j, j < m + 1 → okA l j = true) := fun j hj => by
                by_cases e : j = m
                · subst e; rw [HO.out]; rw [decide_eq_true (by omega : j = 0), decide_eq_true (by omega)]; simp
                · exact HZ.out j (by omega)
              go_wp2_with fail
              refine wp_region_cls (by kernel_rfl) (by kernel_rfl) ?_
              repeat (go_big_quiet_step ((go_at_call 53; exact Calls.cls (CN.out _))))
              refine wpQuiet_nil ?_
              intro _ hw'
              obtain ⟨s, hw''⟩ := hw'
              subst hw''
              have KS : Hid (Below wr.heap.size wr s.1) := nxt B1.out s.2
              go_wp2_with fail
              go_roundw
              case rel => exact ⟨m + 1, by omega, by go_num, E.out, nxt HW.out KS.out⟩
              case measure => simp [intOf]; omega
      · have hme : m = l.length := by omega
        subst hme
        have E : Hid (attrsB l = true) := attrsB_true (by omega) HZ.out
        go_wp2_with fail
        go_ret
        exact ⟨by rw [E.out]; rfl, HW.out⟩
end Go.Proofs.YtcdnakcojanaeabGreat
