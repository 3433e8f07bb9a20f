/-
  Alike: it answers 0 just for one expression.
-/
import Derived.Test.YtnliokikcpnllaaExBase
import Derived.Deep.RegionHeld3
namespace Go.Proofs.Ytnliokikcpnllaa
open Go.ChangeShapes Go.WideShapes Go.ChangeAt Go.RowKit

/-- Are two trees (of whatever depth) one? -/
def sameX : (m n : Nat) → X m → X n → Prop
  | 0, _, _, _ => False
  | _ + 1, 0, _, _ => False
  | m + 1, n + 1, (k, b, t, its), (k', b', t', its') => k = k' ∧ b = b' ∧ t = t' ∧ its.length = its'.length ∧ ∀ (i : Nat) (u : X m) (u' : X n), its[i]? = some u → its'[i]? = some u' → sameX m n u u'

noncomputable def alkX (m n : Nat) (u : X m) (v : X n) : Int := @ite _ (sameX m n u v) (Classical.propDecidable _) 0 1
theorem alkX_yes {m n : Nat} {u : X m} {v : X n} (h : sameX m n u v) : alkX m n u v = 0 := by unfold alkX; rw [if_pos h]
theorem alkX_no {m n : Nat} {u : X m} {v : X n} (h : ¬ sameX m n u v) : alkX m n u v = 1 := by unfold alkX; rw [if_neg h]

theorem beq_falseX {s t : ByteArray} (h : ¬ s = t) : (s.toList == t.toList) = false := by
  cases e : (s.toList == t.toList) with
  | false => rfl
  | true =>
    have h1 : s.toList = t.toList := by simpa using e
    have e : s.data.toList = t.data.toList := by rw [← ByteArray.toList_eq, ← ByteArray.toList_eq]; exact h1
    exact absurd (by cases s; cases t; simp only [ByteArray.mk.injEq]; exact Array.toList_inj.1 e) h

theorem below_twoX (w : World) (o o' : Obj) : Below w.heap.size w ((w.alloc o).alloc o') := ((Below.refl _ _).alloc (Nat.le_refl _) o).alloc (by simp) o'

set_option maxRecDepth 100000 in
set_option maxHeartbeats 3200000 in
theorem alikeX_any (m : Nat) : ∀ (n : Nat) (u : X m) (v : X n) (x y : Value) (w : World), LayX w m x u → LayX w n y v →
    Calls Try.prog 21 #[x, y] w fun e w' => e = .returned (.int .i64 (alkX m n u v)) ∧ Below w.heap.size w w' := by
  induction m with
  | zero => intro n u; exact u.elim
  | succ m ih =>
    intro n
    cases n with
    | zero => intro u v; exact v.elim
    | succ n =>
    rintro ⟨k, b, t, its⟩ ⟨k', b', t', its'⟩ x y w ⟨ia, ic, rfl, hfit, hin, his⟩ ⟨ia', ic', rfl, hfit', hin', his'⟩
    have hil := hfit.2.2.2.2.2
    have hil' := hfit'.2.2.2.2.2
    have HI : Hid (LayJ w (LayX w m) ia its) := his
    have HI' : Hid (LayJ w (LayX w n) ia' its') := his'
    clear his his' hin hin' hfit hfit'
    by_cases e1 : k = k'
    · subst e1
      by_cases e2 : b = b'
      · subst e2
        by_cases e3 : t = t'
        · subst e3
          by_cases e5 : its.length = its'.length
          · have E5 : Hid (its.length = its'.length) := e5
            have d5 : ((its.length : Int) != (its'.length : Int)) = false := by simp [e5]
            have d5' : ((its.length : Int) == (its'.length : Int)) = true := by simp [e5]
            have HYES : Hid ((∀ (i : Nat) (u : X m) (u' : X n), its[i]? = some u → its'[i]? = some u' → sameX m n u u') → alkX (m + 1) (n + 1) (k, b, t, its) (k, b, t, its') = 0) := fun h => alkX_yes ⟨rfl, rfl, rfl, e5, h⟩
            have HNO : Hid (∀ (i : Nat) (u : X m) (u' : X n), its[i]? = some u → its'[i]? = some u' → ¬ sameX m n u u' → alkX (m + 1) (n + 1) (k, b, t, its) (k, b, t, its') = 1) := fun i u u' h1 h2 h3 => alkX_no fun h => h3 (h.2.2.2.2 i u u' h1 h2)
            generalize alkX (m + 1) (n + 1) (k, b, t, its) (k, b, t, its') = R at *
            clear e5
            go_enter Try.func21, Try.ntmps21
            go_wp2_with fail
            have HA : Hid (((w.alloc (.cells #[.int .i64 k, .int .u64 b, .string t, .slice ia its.length ic] 29)).alloc (.cells #[.int .i64 k, .int .u64 b, .string t, .slice ia' its'.length ic'] 25)).heap[w.heap.size]? = some (.cells #[.int .i64 k, .int .u64 b, .string t, .slice ia its.length ic] 29 (0, 0))) := (Below.heap_alloc _ _ _ (by simp)).trans (heap_alloc_new _ _)
            have HB : Hid (((w.alloc (.cells #[.int .i64 k, .int .u64 b, .string t, .slice ia its.length ic] 29)).alloc (.cells #[.int .i64 k, .int .u64 b, .string t, .slice ia' its'.length ic'] 25)).heap[w.heap.size + 1]? = some (.cells #[.int .i64 k, .int .u64 b, .string t, .slice ia' its'.length ic'] 25 (0, 0))) := heap_new2 _ _ _
            have H1 : Hid (Below w.heap.size w ((w.alloc (.cells #[.int .i64 k, .int .u64 b, .string t, .slice ia its.length ic] 29)).alloc (.cells #[.int .i64 k, .int .u64 b, .string t, .slice ia' its'.length ic'] 25))) := below_twoX _ _ _
            generalize (w.alloc (.cells #[.int .i64 k, .int .u64 b, .string t, .slice ia its.length ic] 29)).alloc (.cells #[.int .i64 k, .int .u64 b, .string t, .slice ia' its'.length ic'] 25) = w1 at *
            go_loopw [5] (fun i wr => ∃ j : Nat, j ≤ its.length ∧ i = .int .i64 j ∧ Hid (∀ (i : Nat) (u : X m) (u' : X n), i < j → its[i]? = some u → its'[i]? = some u' → sameX m n u u') ∧ Hid (Below w1.heap.size w1 wr)) (fun i _ => its.length - (intOf i).toNat)
            case atStart => exact ⟨0, Nat.zero_le _, rfl, fun i _ _ h => by omega, Below.refl _ _⟩
            case round =>
              obtain ⟨j, hm, rfl, HT, HW⟩ := hrel
              obtain ⟨-, -, -, a4, -⟩ := box4 ((HW.out.block _ (lt_of_block HA.out)).trans HA.out)
              obtain ⟨-, -, -, b4, -⟩ := box4 ((HW.out.block _ (lt_of_block HB.out)).trans HB.out)
              by_cases hlt : j < its.length
              · have hlt2 : j < its'.length := by have := E5.out; omega
                have hi0 : (0 : Int) ≤ (j : Int) := by omega
                have hi1 : (j : Int) < (its.length : Int) := by omega
                have hi2 : (j : Int) < (its'.length : Int) := by omega
                have hbw := nxt H1.out HW.out
                obtain ⟨g1, o1, k1, b1, t1, ja, jl, jc, rfl, p0, p1, p2, p3, l1⟩ := (LayJ.below HI.out hbw).at j hlt
                obtain ⟨g2, o2, k2, b2, t2, ka, kl, kc, rfl, q0, q1, q2, q3, l2⟩ := (LayJ.below HI'.out hbw).at j hlt2
                have L1 : Hid (LayX wr m (mkX k1 b1 t1 ja jl jc) its[j]) := l1
                have L2 : Hid (LayX wr n (mkX k2 b2 t2 ka kl kc) (its'[j]'hlt2)) := l2
                have G1 : Hid (its[j]? = some its[j]) := List.getElem?_eq_getElem hlt
                have G2 : Hid (its'[j]? = some (its'[j]'hlt2)) := List.getElem?_eq_getElem hlt2
                clear l1 l2 hbw
                generalize its[j] = u1 at *
                generalize its'[j]'hlt2 = u2 at *
                by_cases he : sameX m n u1 u2
                · have o5 := alkX_yes he
                  have HE : Hid (sameX m n u1 u2) := he
                  clear he
                  go_wp2_with fail
                  go_region_held3 (fun w' => w'.cell? ⟨w.heap.size, 3, none⟩ = some (.slice (some ⟨g1, o1, none⟩) its.length ic) ∧ w'.cell? ⟨w.heap.size + 1, 3, none⟩ = some (.slice (some ⟨g2, o2, none⟩) its'.length ic') ∧
                    w'.cell? ⟨g1, o1 + j * 4, none⟩ = some (.int .i64 k1) ∧ w'.cell? ⟨g1, o1 + j * 4 + 1, none⟩ = some (.int .u64 b1) ∧ w'.cell? ⟨g1, o1 + j * 4 + 2, none⟩ = some (.string t1) ∧ w'.cell? ⟨g1, o1 + j * 4 + 3, none⟩ = some (.slice ja jl jc) ∧
                    w'.cell? ⟨g2, o2 + j * 4, none⟩ = some (.int .i64 k2) ∧ w'.cell? ⟨g2, o2 + j * 4 + 1, none⟩ = some (.int .u64 b2) ∧ w'.cell? ⟨g2, o2 + j * 4 + 2, none⟩ = some (.string t2) ∧ w'.cell? ⟨g2, o2 + j * 4 + 3, none⟩ = some (.slice ka kl kc)) (go_keep)
                    ((go_at_call 21; refine (ih _ _ _ _ _ _ (LayX.below m L1.out ((Below.refl _ _).drew)) (LayX.below n L2.out ((Below.refl _ _).drew))).mono ?_; rw [o5]; rintro e w2 ⟨rfl, hb2⟩; have hk2 := keepc hb2))
                  go_wp2_with fail
                  go_roundw
                  case rel =>
                    refine ⟨j + 1, by omega, by go_num, ?_, nxt HW.out.drew (by assumption)⟩
                    intro i u u' hi h1 h2
                    by_cases hij : i = j
                    · subst hij
                      rw [G1.out] at h1
                      rw [G2.out] at h2
                      cases h1
                      cases h2
                      exact HE.out
                    · exact HT.out i u u' (by omega) h1 h2
                  case measure => simp [intOf]; omega
                · have o5 := alkX_no he
                  have HE : Hid (¬ sameX m n u1 u2) := he
                  clear he
                  go_wp2_with fail
                  go_region_held3 (fun w' => w'.cell? ⟨w.heap.size, 3, none⟩ = some (.slice (some ⟨g1, o1, none⟩) its.length ic) ∧ w'.cell? ⟨w.heap.size + 1, 3, none⟩ = some (.slice (some ⟨g2, o2, none⟩) its'.length ic') ∧
                    w'.cell? ⟨g1, o1 + j * 4, none⟩ = some (.int .i64 k1) ∧ w'.cell? ⟨g1, o1 + j * 4 + 1, none⟩ = some (.int .u64 b1) ∧ w'.cell? ⟨g1, o1 + j * 4 + 2, none⟩ = some (.string t1) ∧ w'.cell? ⟨g1, o1 + j * 4 + 3, none⟩ = some (.slice ja jl jc) ∧
                    w'.cell? ⟨g2, o2 + j * 4, none⟩ = some (.int .i64 k2) ∧ w'.cell? ⟨g2, o2 + j * 4 + 1, none⟩ = some (.int .u64 b2) ∧ w'.cell? ⟨g2, o2 + j * 4 + 2, none⟩ = some (.string t2) ∧ w'.cell? ⟨g2, o2 + j * 4 + 3, none⟩ = some (.slice ka kl kc)) (go_keep)
                    ((go_at_call 21; refine (ih _ _ _ _ _ _ (LayX.below m L1.out ((Below.refl _ _).drew)) (LayX.below n L2.out ((Below.refl _ _).drew))).mono ?_; rw [o5]; rintro e w2 ⟨rfl, hb2⟩; have hk2 := keepc hb2))
                  go_wp2_with fail
                  go_ret
                  exact ⟨by rw [HNO.out j u1 u2 G1.out G2.out HE.out]; rfl, nxt (nxt H1.out HW.out.drew) (by assumption)⟩
              · go_wp2_with fail
                go_ret
                exact ⟨by rw [HYES.out fun i u u' h1 h2 => HT.out i u u' (by have := (List.getElem?_eq_some_iff.1 h1).1; omega) h1 h2]; rfl, nxt H1.out HW.out⟩
          · have HNO : Hid (alkX (m + 1) (n + 1) (k, b, t, its) (k, b, t, its') = 1) := alkX_no fun h => e5 h.2.2.2.1
            have d5 : ((its.length : Int) == (its'.length : Int)) = false := by simp; omega
            rw [HNO.out]
            clear e5 HNO
            go_enter Try.func21, Try.ntmps21
            go_wp2_with fail
            go_ret
            exact ⟨rfl, below_twoX _ _ _⟩
        · have HNO : Hid (alkX (m + 1) (n + 1) (k, b, t, its) (k, b, t', its') = 1) := alkX_no fun h => e3 h.2.2.1
          have d1 := beq_falseX e3
          rw [HNO.out]
          clear HNO
          go_enter Try.func21, Try.ntmps21
          go_wp2_with fail
          go_ret
          exact ⟨rfl, below_twoX _ _ _⟩
      · have HNO : Hid (alkX (m + 1) (n + 1) (k, b, t, its) (k, b', t', its') = 1) := alkX_no fun h => e2 h.2.1
        have d1 : (b == b') = false := by simpa using e2
        rw [HNO.out]
        clear HNO
        go_enter Try.func21, Try.ntmps21
        go_wp2_with fail
        go_ret
        exact ⟨rfl, below_twoX _ _ _⟩
    · have HNO : Hid (alkX (m + 1) (n + 1) (k, b, t, its) (k', b', t', its') = 1) := alkX_no fun h => e1 h.1
      have d1 : (k == k') = false := by simpa using e1
      rw [HNO.out]
      clear HNO
      go_enter Try.func21, Try.ntmps21
      go_wp2_with fail
      go_ret
      exact ⟨rfl, below_twoX _ _ _⟩
end Go.Proofs.Ytnliokikcpnllaa
