/-
  The program's attrsMayBe. (Printed by wip/make/mktrattr.py.)
-/
import Derived.Test.YtcdnakcojanaeabGreatTrName
namespace Go.Proofs.YtcdnakcojanaeabGreat
open Go.ChangeShapes Go.WideShapes Go.ChangeAt Go.RowKit

theorem okA_at {l : List Atr} {m : Nat} (h : m < l.length) : okA l m = (nameB l[m].1 && decide (l[m].2.size ≤ 128) && (decide (m = 0) || Op.bytesLess (l[m - 1]'(by omega)).1.toList l[m].1.toList)) := by
  unfold okA
  rw [List.getElem?_eq_getElem h, List.getElem?_eq_getElem (show m - 1 < l.length by omega)]

theorem attrsB_false {l : List Atr} {m : Nat} (h : m < l.length) (ho : okA l m = false) : attrsB l = false := by
  unfold attrsB
  rw [all_range_false h ho, Bool.and_false]
theorem attrsB_true {l : List Atr} (hl : l.length ≤ 16) (ho : ∀ i, i < l.length → okA l i = true) : attrsB l = true := by
  unfold attrsB
  rw [all_range.2 ho, decide_eq_true hl, Bool.and_true]
theorem attrsB_long {l : List Atr} (hl : 16 < l.length) : attrsB l = false := by
  unfold attrsB
  rw [decide_eq_false (by omega), Bool.false_and]

theorem less_total : ∀ x y : List UInt8, (Op.bytesLess y x || y == x) = !Op.bytesLess x y
  | [], [] => rfl
  | [], b :: y => rfl
  | a :: x, [] => rfl
  | a :: x, b :: y => by
    have ih := less_total x y
    simp only [Op.bytesLess, List.cons_beq_cons]
    by_cases h1 : a < b
    · have h2 : ¬ b < a := by simp only [UInt8.lt_iff_toNat_lt] at h1 ⊢; omega
      have h3 : (b == a) = false := by rw [beq_eq_false_iff_ne]; intro e; subst e; simp only [UInt8.lt_iff_toNat_lt] at h1; omega
      simp [h1, h2, h3]
    · by_cases h2 : b < a
      · have h3 : (a == b) = false := by rw [beq_eq_false_iff_ne]; intro e; subst e; exact h1 h2
        simp [h1, h2, h3]
      · have h3 : a = b := by
          simp only [UInt8.lt_iff_toNat_lt] at h1 h2
          exact UInt8.toNat_inj.1 (by omega)
        subst h3
        simpa [h1] using ih

set_option maxRecDepth 100000 in
set_option maxHeartbeats 3200000 in
theorem attrs_any (l : List Atr) (aa : Option Addr) (ac : Nat) (w : World) (hA : LayA w aa l) (hl : l.length * 32 ≤ 140737488351232) :
    Calls Tryz.prog 101 #[.slice aa l.length ac] w fun e w' => e = .returned (.bool (attrsB l)) ∧ Below w.heap.size w w' := by
  have HA : Hid (LayA w aa l) := hA
  clear hA
  by_cases hlong : 16 < l.length
  · have hlong1 : 16 < (l.length : Int) := by omega
    rw [attrsB_long hlong]
    go_enter Tryz.func101, Tryz.ntmps101
    go_wp2_with fail
    go_ret
    exact ⟨rfl, Below.refl _ _⟩
  · go_enter Tryz.func101, Tryz.ntmps101
    go_wp2_with fail
    go_loopw [10] (fun i wr => ∃ m : Nat, m ≤ l.length ∧ i = .int .i64 m ∧ Hid (∀ j, j < m → okA l j = true) ∧ Hid (Below w.heap.size w wr)) (fun i _ => l.length - (intOf i).toNat)
    case atStart => exact ⟨0, Nat.zero_le _, rfl, (fun j h => by omega), Below.refl _ _⟩
    case round =>
      obtain ⟨m, hm, rfl, HZ, HW⟩ := hrel
      by_cases hlt : m < l.length
      · obtain ⟨b, o, rfl, q0, q1, z0, z1⟩ := (HA.out.below HW.out) m l[m] (by simp [hlt])
        have hm1 : (m : Int) < (l.length : Int) := by omega
        have HO : Hid (okA l m = _) := okA_at hlt
        obtain ⟨p, hp⟩ : ∃ p, p = (l[m - 1]'(by omega)).1 := ⟨_, rfl⟩
        have HP : Hid (0 < m → wr.cell? ⟨b, o + (m - 1) * 2, none⟩ = some (.string p)) := fun h0 => by
          obtain ⟨b', o', e, r0, -⟩ := (HA.out.below HW.out) (m - 1) (l[m - 1]'(by omega)) (List.getElem?_eq_getElem _)
          simp only [Option.some.injEq, Addr.mk.injEq, and_true] at e
          rw [hp, e.1, e.2]; exact r0
        rw [← hp] at HO
        generalize l[m].1 = a1 at *
        generalize l[m].2 = a2 at *
        clear hp
        have B1 : Hid (Below wr.heap.size wr (wr.alloc (.cells #[.string a1, .string a2] 43))) := below_one _ _
        have p0 : ∀ s : Cls (wr.alloc (.cells #[.string a1, .string a2] 43)), s.1.cell? ⟨wr.heap.size, 0, none⟩ = some (.string a1) := fun s => Cls.cell (cell_of (heap_alloc_new _ _) 0).1 s
        have p1 : ∀ s : Cls (wr.alloc (.cells #[.string a1, .string a2] 43)), s.1.cell? ⟨wr.heap.size, 1, none⟩ = some (.string a2) := fun s => Cls.cell (cell_of (heap_alloc_new _ _) 1).1 s
        have CN : Hid (∀ s : Cls (wr.alloc (.cells #[.string a1, .string a2] 43)), Calls Tryz.prog 100 #[.string a1] s.1 fun e w' => e = .returned (.bool (nameB a1)) ∧ Below s.1.heap.size s.1 w') := fun s => name_any a1 s.1 z0
        have j1 : IntKind.i64.wrap ((m : Int) - 1) = (m : Int) - 1 := by rw [IntKind.wrap_i64]; omega
        have j2 : ((m : Int) - 1).toNat = m - 1 := by omega
        have inst : Nonempty (Cls (wr.alloc (.cells #[.string a1, .string a2] 43))) := ⟨⟨_, Below.refl _ _⟩⟩
        generalize nameB a1 = nb at *
        clear z0 z1
        cases nb
        · have E : Hid (attrsB l = false) := attrsB_false hlt (by rw [HO.out]; rfl)
          go_wp2_with fail
          generalize (wr.alloc (.cells #[.string a1, .string a2] 43)) = W1 at *
          refine wp_region_cls (by kernel_rfl) (by kernel_rfl) ?_
          repeat (go_big_quiet_step ((go_at_call 100; exact Calls.cls (CN.out _))))
          refine wpQuiet_nil ?_
          intro _ hw'
          obtain ⟨s, hw''⟩ := hw'
          subst hw''
          have KS : Hid (Below wr.heap.size wr s.1) := nxt B1.out s.2
          go_wp2_with fail
          go_ret
          exact ⟨by rw [E.out]; rfl, nxt HW.out KS.out⟩
        · by_cases c2 : 128 < a2.size
          · have hd2 : decide (128 < (a2.size : Int)) = true := by simp; omega
            have E : Hid (attrsB l = false) := attrsB_false hlt (by rw [HO.out]; rw [decide_eq_false (by omega)]; rfl)
            go_wp2_with fail
            generalize (wr.alloc (.cells #[.string a1, .string a2] 43)) = W1 at *
            refine wp_region_cls (by kernel_rfl) (by kernel_rfl) ?_
            repeat (go_big_quiet_step ((go_at_call 100; exact Calls.cls (CN.out _))))
            refine wpQuiet_nil ?_
            intro _ hw'
            obtain ⟨s, hw''⟩ := hw'
            subst hw''
            have KS : Hid (Below wr.heap.size wr s.1) := nxt B1.out s.2
            go_wp2_with fail
            go_ret
            exact ⟨by rw [E.out]; rfl, nxt HW.out KS.out⟩
          · have hd2 : decide (128 < (a2.size : Int)) = false := by simp; omega
            by_cases c0 : 0 < m
            · have hm0 : decide ((0 : Int) < (m : Int)) = true := by simp; omega
              have j3 : 0 ≤ (m : Int) - 1 := by omega
              have j4 : (m : Int) - 1 < (l.length : Int) := by omega
              have pp : ∀ s : Cls (wr.alloc (.cells #[.string a1, .string a2] 43)), s.1.cell? ⟨b, o + (m - 1) * 2, none⟩ = some (.string p) := fun s => Cls.cell (keepc B1.out _ _ (HP.out c0)) s
              by_cases c3 : Op.bytesLess p.toList a1.toList = true
              · have hd3 : Op.bytesLess p.toList a1.toList = true := c3
                have E : Hid (∀ j, j < m + 1 → okA l j = true) := fun j hj => by
                  by_cases e : j = m
                  · subst e; rw [HO.out]; rw [c3, decide_eq_true (by omega)]; simp
                  · exact HZ.out j (by omega)
                go_wp2_with fail
                generalize (wr.alloc (.cells #[.string a1, .string a2] 43)) = W1 at *
                refine wp_region_cls (by kernel_rfl) (by kernel_rfl) ?_
                repeat (go_big_quiet_step ((go_at_call 100; exact Calls.cls (CN.out _))))
                refine wpQuiet_nil ?_
                intro _ hw'
                obtain ⟨s, hw''⟩ := hw'
                subst hw''
                have KS : Hid (Below wr.heap.size wr s.1) := nxt B1.out s.2
                go_wp2_with fail
                go_roundw
                case rel => exact ⟨m + 1, by omega, by go_num, E.out, nxt HW.out KS.out⟩
                case measure => simp [intOf]; omega
              · have c3' : Op.bytesLess p.toList a1.toList = false := by simpa using c3
                clear c3
                have E : Hid (attrsB l = false) := attrsB_false hlt (by rw [HO.out]; rw [c3', decide_eq_false (by omega : ¬ m = 0)]; simp)
                go_wp2_with fail
                generalize (wr.alloc (.cells #[.string a1, .string a2] 43)) = W1 at *
                refine wp_region_cls (by kernel_rfl) (by kernel_rfl) ?_
                repeat (go_big_quiet_step ((go_at_call 100; exact Calls.cls (CN.out _))))
                refine wpQuiet_nil ?_
                intro _ hw'
                obtain ⟨s, hw''⟩ := hw'
                subst hw''
                have KS : Hid (Below wr.heap.size wr s.1) := nxt B1.out s.2
                go_wp2_with fail
                go_ret
                exact ⟨by rw [E.out]; rfl, nxt HW.out KS.out⟩
            · have hm0 : decide ((0 : Int) < (m : Int)) = false := by simp; omega
              have E : Hid (∀ j, j < m + 1 → okA l j = true) := fun j hj => by
                by_cases e : j = m
                · subst e; rw [HO.out]; rw [decide_eq_true (by omega : j = 0), decide_eq_true (by omega)]; simp
                · exact HZ.out j (by omega)
              go_wp2_with fail
              generalize (wr.alloc (.cells #[.string a1, .string a2] 43)) = W1 at *
              refine wp_region_cls (by kernel_rfl) (by kernel_rfl) ?_
              repeat (go_big_quiet_step ((go_at_call 100; exact Calls.cls (CN.out _))))
              refine wpQuiet_nil ?_
              intro _ hw'
              obtain ⟨s, hw''⟩ := hw'
              subst hw''
              have KS : Hid (Below wr.heap.size wr s.1) := nxt B1.out s.2
              go_wp2_with fail
              go_roundw
              case rel => exact ⟨m + 1, by omega, by go_num, E.out, nxt HW.out KS.out⟩
              case measure => simp [intOf]; omega
      · have hme : m = l.length := by omega
        subst hme
        have E : Hid (attrsB l = true) := attrsB_true (by omega) HZ.out
        go_wp2_with fail
        go_ret
        exact ⟨by rw [E.out]; rfl, HW.out⟩
end Go.Proofs.YtcdnakcojanaeabGreat
