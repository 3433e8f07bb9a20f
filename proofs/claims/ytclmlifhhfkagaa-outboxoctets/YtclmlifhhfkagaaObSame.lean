/-
  SameItems, SameEffects: they answer true just for one list.
-/
import Derived.Test.YtclmlifhhfkagaaObVar
import Derived.Test.YtclmlifhhfkagaaVaFrame
namespace Go.Proofs.Ytclmlifhhfkagaa
open Go.ChangeShapes Go.WideShapes Go.ChangeAt Go.RowKit

set_option maxRecDepth 100000 in
set_option maxHeartbeats 6400000 in
theorem sameItems_any {n : Nat} (l l' : List (Tm n)) (ia ia' : Option Addr) (ic ic' : Nat) (w : World) (h : TIs w n ia ic l) (h' : TIs w n ia' ic' l') :
    Calls Try.prog 25 #[.slice ia l.length ic, .slice ia' l'.length ic'] w fun e w' => e = .returned (.bool (one l l')) ∧ Below w.heap.size w w' := by
  have HA : Hid (TIs w n ia ic l) := h
  have HB : Hid (TIs w n ia' ic' l') := h'
  have b1 := h.2.2.1
  have b2 := h'.2.2.1
  clear h h'
  by_cases hlen : l.length = l'.length
  · have HLN : Hid (l.length = l'.length) := hlen
    have d5 : ((l.length : Int) != (l'.length : Int)) = false := by simp [hlen]
    clear hlen
    go_enter Try.func25, Try.ntmps25
    go_wp2_with fail
    go_loopw [5] (fun i wr => ∃ m : Nat, m ≤ l.length ∧ i = .int .i64 m ∧ Hid (l.take m = l'.take m) ∧ Hid (Below w.heap.size w wr)) (fun i _ => l.length - (intOf i).toNat)
    case atStart => exact ⟨0, Nat.zero_le _, rfl, by simp [Hid], Below.refl _ _⟩
    case round =>
      obtain ⟨m, hm, rfl, HT, HW⟩ := hrel
      by_cases hlt : m < l.length
      · have hlt2 : m < l'.length := by have := HLN.out; omega
        have hi1 : (m : Int) < (l.length : Int) := by omega
        have hi2 : (m : Int) < (l'.length : Int) := by omega
        have HN1 : Hid (l[m] = l'[m] → l.take (m + 1) = l'.take (m + 1)) := fun e => take_next HT.out hlt hlt2 e
        have HN2 : Hid (l = l' → l[m] = l'[m]) := fun e => by subst e; rfl
        obtain ⟨g1, o1, ak, ab, at_, aka, akl, akc, aja, ajl, ajc, rfl, q0, q1, q2, q3, q4, q5, q6, hl1, -⟩ := (HA.out.below HW.out).at m hlt
        obtain ⟨g2, o2, ck, cb, ct_, cka, ckl, ckc, cja, cjl, cjc, rfl, p0, p1, p2, p3, p4, p5, p6, hl2, -⟩ := (HB.out.below HW.out).at m hlt2
        have L1 : Hid (Lay wr n (mk ak ab at_ aka akl akc aja ajl ajc) l[m].2.2) := hl1
        have L2 : Hid (Lay wr n (mk ck cb ct_ cka ckl ckc cja cjl cjc) l'[m].2.2) := hl2
        clear hl1 hl2
        obtain ⟨⟨ai, an, au⟩, hu1⟩ : ∃ u : Tm n, l[m] = u := ⟨_, rfl⟩
        obtain ⟨⟨ci, cn, cu⟩, hu2⟩ : ∃ u : Tm n, l'[m] = u := ⟨_, rfl⟩
        rw [hu1] at q0 q1 L1
        rw [hu2] at p0 p1 L2
        rw [hu1, hu2] at HN1 HN2
        simp only at q0 q1 p0 p1 L1 L2
        clear hu1 hu2
        by_cases ei : ai = ci
        · subst ei
          by_cases en : an = cn
          · subst en
            by_cases eu : au = cu
            · have o5 := one_true eu
              have HE : Hid (au = cu) := eu
              clear eu
              go_wp2_with fail
              go_region_held3 (fun w' => w'.cell? ⟨g1, o1 + m * 7, none⟩ = some (.int .i64 ai) ∧ w'.cell? ⟨g1, o1 + m * 7 + 1, none⟩ = some (.string an) ∧ w'.cell? ⟨g1, o1 + m * 7 + 2, none⟩ = some (.int .i64 ak) ∧ w'.cell? ⟨g1, o1 + m * 7 + 3, none⟩ = some (.int .u64 ab) ∧ w'.cell? ⟨g1, o1 + m * 7 + 4, none⟩ = some (.string at_) ∧ w'.cell? ⟨g1, o1 + m * 7 + 5, none⟩ = some (.slice aka akl akc) ∧ w'.cell? ⟨g1, o1 + m * 7 + 6, none⟩ = some (.slice aja ajl ajc) ∧ w'.cell? ⟨g2, o2 + m * 7, none⟩ = some (.int .i64 ai) ∧ w'.cell? ⟨g2, o2 + m * 7 + 1, none⟩ = some (.string an) ∧ w'.cell? ⟨g2, o2 + m * 7 + 2, none⟩ = some (.int .i64 ck) ∧ w'.cell? ⟨g2, o2 + m * 7 + 3, none⟩ = some (.int .u64 cb) ∧ w'.cell? ⟨g2, o2 + m * 7 + 4, none⟩ = some (.string ct_) ∧ w'.cell? ⟨g2, o2 + m * 7 + 5, none⟩ = some (.slice cka ckl ckc) ∧ w'.cell? ⟨g2, o2 + m * 7 + 6, none⟩ = some (.slice cja cjl cjc)) (go_keep)
                ((go_at_call 42; refine (same_any n _ _ _ _ _ (Lay.below n L1.out ((Below.refl _ _).drew)) (Lay.below n L2.out ((Below.refl _ _).drew))).mono ?_; rintro e w2 ⟨rfl, hb2⟩; have hk2 := keepc hb2))
              go_wp2_with fail
              go_roundw
              case rel => exact ⟨m + 1, by omega, by go_num, HN1.out (by rw [HE.out]), nxt HW.out.drew (by assumption)⟩
              case measure => simp [intOf]; omega
            · have o5 := one_false eu
              have HE : Hid (¬ au = cu) := eu
              clear eu
              go_wp2_with fail
              go_region_held3 (fun w' => w'.cell? ⟨g1, o1 + m * 7, none⟩ = some (.int .i64 ai) ∧ w'.cell? ⟨g1, o1 + m * 7 + 1, none⟩ = some (.string an) ∧ w'.cell? ⟨g1, o1 + m * 7 + 2, none⟩ = some (.int .i64 ak) ∧ w'.cell? ⟨g1, o1 + m * 7 + 3, none⟩ = some (.int .u64 ab) ∧ w'.cell? ⟨g1, o1 + m * 7 + 4, none⟩ = some (.string at_) ∧ w'.cell? ⟨g1, o1 + m * 7 + 5, none⟩ = some (.slice aka akl akc) ∧ w'.cell? ⟨g1, o1 + m * 7 + 6, none⟩ = some (.slice aja ajl ajc) ∧ w'.cell? ⟨g2, o2 + m * 7, none⟩ = some (.int .i64 ai) ∧ w'.cell? ⟨g2, o2 + m * 7 + 1, none⟩ = some (.string an) ∧ w'.cell? ⟨g2, o2 + m * 7 + 2, none⟩ = some (.int .i64 ck) ∧ w'.cell? ⟨g2, o2 + m * 7 + 3, none⟩ = some (.int .u64 cb) ∧ w'.cell? ⟨g2, o2 + m * 7 + 4, none⟩ = some (.string ct_) ∧ w'.cell? ⟨g2, o2 + m * 7 + 5, none⟩ = some (.slice cka ckl ckc) ∧ w'.cell? ⟨g2, o2 + m * 7 + 6, none⟩ = some (.slice cja cjl cjc)) (go_keep)
                ((go_at_call 42; refine (same_any n _ _ _ _ _ (Lay.below n L1.out ((Below.refl _ _).drew)) (Lay.below n L2.out ((Below.refl _ _).drew))).mono ?_; rintro e w2 ⟨rfl, hb2⟩; have hk2 := keepc hb2))
              go_wp2_with fail
              go_ret
              exact ⟨ret_bool (one_false fun e => HE.out (by have := HN2.out e; simp only [Prod.mk.injEq] at this; exact this.2.2)).symm, nxt HW.out.drew (by assumption)⟩
          · have d1 := toList_beq_false en
            have HX : Hid (¬ an = cn) := en
            go_wp2_with fail
            go_quiet (fail)
            go_wp2_with fail
            go_ret
            exact ⟨ret_bool (one_false fun e => HX.out (by have := HN2.out e; simp only [Prod.mk.injEq] at this; exact this.2.1)).symm, HW.out.trans (Below_drewN _ _ _)⟩
        · have d1 : (ai == ci) = false := by simpa using ei
          have d2 : (ai != ci) = true := by simpa using ei
          have HX : Hid (¬ ai = ci) := ei
          clear ei
          go_wp2_with fail
          go_quiet (fail)
          go_wp2_with fail
          go_ret
          exact ⟨ret_bool (one_false fun e => HX.out (by have := HN2.out e; simp only [Prod.mk.injEq] at this; exact this.1)).symm, HW.out.trans (Below_drewN _ _ _)⟩
      · go_wp2_with fail
        go_ret
        exact ⟨ret_bool (one_true (take_all HT.out (by omega) HLN.out)).symm, HW.out⟩
  · have d5 : ((l.length : Int) == (l'.length : Int)) = false := by simp; omega
    have d6 : ((l.length : Int) != (l'.length : Int)) = true := by simp; omega
    have HX : Hid (¬ l.length = l'.length) := hlen
    clear hlen
    go_enter Try.func25, Try.ntmps25
    go_wp2_with fail
    go_ret
    exact ⟨ret_bool (one_false fun e => HX.out (by rw [e])).symm, Below.refl _ _⟩

end Go.Proofs.Ytclmlifhhfkagaa
