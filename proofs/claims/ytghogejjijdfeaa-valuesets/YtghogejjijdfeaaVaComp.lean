/-
  Compare, for every two values; it is 0 just for one value.
-/
import Derived.Test.YtghogejjijdfeaaVaGood
namespace Go.Proofs.Ytghogejjijdfeaa
open Go.ChangeShapes Go.WideShapes Go.ChangeAt Go.RowKit
open Fl

theorem lcmp_zero {α : Type} {f : α → α → Int} : ∀ (x y : List α), (∀ (i : Nat) a b, x[i]? = some a → y[i]? = some b → f a b = 0 → a = b) → lcmp f x y = 0 → x = y
  | [], [], _, _ => rfl
  | [], _ :: _, _, h => by simp [lcmp] at h
  | _ :: _, [], _, h => by simp [lcmp] at h
  | a :: x, b :: y, hf, h => by
    simp only [lcmp] at h
    by_cases h0 : f a b = 0
    · rw [if_pos h0] at h
      rw [hf 0 a b rfl rfl h0, lcmp_zero x y (fun i a' b' h1 h2 => hf (i + 1) a' b' (by simpa using h1) (by simpa using h2)) h]
    · rw [if_neg h0] at h; exact absurd h h0

theorem or5_zero {a b c d e : Int} (h : or5 a b c d e = 0) : a = 0 ∧ b = 0 ∧ c = 0 ∧ d = 0 ∧ e = 0 := by
  unfold or5 at h
  split at h
  · split at h
    · split at h
      · split at h
        · exact ⟨by assumption, by assumption, by assumption, by assumption, h⟩
        · contradiction
      · contradiction
    · contradiction
  · contradiction

theorem ord_inj {a b : Int} (ha : U a) (hb : U b) (ca : can a = a) (cb : can b = b) (h : ord a = ord b) : a = b := by
  unfold U can ord at *
  split at ca <;> split at cb <;> (try split at h) <;> (try split at h) <;> (try split at h) <;> (try split at h) <;> omega

theorem vcmp_zero (n : Nat) : ∀ {w : World} {x y : Value} {u v : V n}, Lay w n x u → Lay w n y v → okV n u → okV n v → vcmp n u v = 0 → u = v := by
  induction n with
  | zero => intro w x y u; exact u.elim
  | succ n ih =>
    rintro w x y ⟨k, b, t, ks, its⟩ ⟨k', b', t', ks', its'⟩ ⟨ka, kc, ia, ic, _, hfit, _, _, _, hI⟩ ⟨ka', kc', ia', ic', _, hfit', _, _, _, hI'⟩ ⟨hm, ho⟩ ⟨hm', ho'⟩ h
    obtain ⟨e1, e2, e3, e4, e5⟩ := or5_zero h
    have k1 := icmp_zero e1
    have k2 := icmp_zero e2
    have k3 := scmp_zero e3
    have k4 := lcmp_zero ks ks' (fun _ _ _ _ _ hz => scmp_zero hz) e4
    have k5 := lcmp_zero its its' (fun i a c h1 h2 hz => by
      obtain ⟨_, _, _, _, _, _, _, _, _, _, _, _, _, l1⟩ := hI i a h1
      obtain ⟨_, _, _, _, _, _, _, _, _, _, _, _, _, l2⟩ := hI' i c h2
      exact ih l1 l2 (ho a (List.mem_of_getElem? h1)) (ho' c (List.mem_of_getElem? h2)) hz) e5
    subst k1 k3 k4 k5
    have kb : b = b' := by
      unfold rnk at k2
      by_cases hk : k = 2
      · rw [if_pos hk, if_pos hk] at k2
        subst hk
        simp only [mayB] at hm hm'
        simp at hm hm'
        exact ord_inj hfit.2.1 hfit'.2.1 hm.1 hm'.1 k2
      · rw [if_neg hk, if_neg hk] at k2; exact k2
    subst kb
    rfl

theorem vcmp_self {n : Nat} (u : V n) : vcmp n u u = 0 := by have := (vcmp_good n).1 u u; omega

/-- Compare's answer. -/
def cmpv {n : Nat} (u v : V n) : Int := if chk u = 0 then if chk v = 0 then vcmp n u v else 0 else 0
def cerr {n : Nat} (u v : V n) : Int := if chk u = 0 then chk v else chk u

set_option maxRecDepth 100000 in
set_option maxHeartbeats 1600000 in
theorem compare_any (n : Nat) (u v : V n) (x y : Value) (w : World) (hu : Lay w n x u) (hv : Lay w n y v) :
    Calls Try.prog 17 #[x, y] w fun e w' => e = .returned (.tuple #[.int .i64 (cmpv u v), .int .i64 (cerr u v)]) ∧ Below w.heap.size w w' := by
  obtain ⟨k, b, t, ka, kl, kc, ia, il, ic, rfl⟩ := Lay.shape n hu
  obtain ⟨k', b', t', ka', kl', kc', ia', il', ic', rfl⟩ := Lay.shape n hv
  have HU : Hid (Lay w n (mk k b t ka kl kc ia il ic) u) := hu
  have HV : Hid (Lay w n (mk k' b' t' ka' kl' kc' ia' il' ic') v) := hv
  clear hu hv
  by_cases h0 : cerr u v = 0
  · have h1 : chk u = 0 := by unfold cerr at h0; split at h0 <;> assumption
    have h2 : chk v = 0 := by unfold cerr at h0; rw [if_pos h1] at h0; exact h0
    have HC : Hid (cmpv u v = vcmp n u v) := by simp [Hid, cmpv, h1, h2]
    have HE : Hid ((if chk u = 0 then chk v else chk u) = 0) := by simp [Hid, h1, h2]
    rw [h0]
    clear h0 h1 h2
    go_enter Try.func17, Try.ntmps17
    go_wp2_with fail
    refine (both_any n u v _ _ _ _ _ _ _ _ _ _ _ _ _ _ _ _ _ _ _ (Lay.below n HU.out (below_two _ _ _)) (Lay.below n HV.out (below_two _ _ _))).mono ?_
    rw [HE.out]
    rintro e w1 ⟨rfl, hb1⟩
    obtain ⟨p0, p1, p2, p3, p4, -⟩ := box_cells ((hb1.block _ (by simp; omega)).trans (two_boxes _ _ _ _ _ _ _ _ _ _ _ _ _).1)
    obtain ⟨q0, q1, q2, q3, q4, -⟩ := box_cells ((hb1.block _ (by simp)).trans (two_boxes _ _ _ _ _ _ _ _ _ _ _ _ _).2)
    have B1 : Hid (Below w.heap.size w w1) := nxt (below_two _ _ _) hb1
    clear hb1
    go_wp2_with (go_at_call 30; refine (ord_any n _ _ _ _ _ (Lay.below n HU.out B1.out) (Lay.below n HV.out B1.out)).mono ?_; rintro e w2 ⟨rfl, hb2⟩)
    go_ret2
    exact ⟨by rw [HC.out]; rfl, nxt B1.out hb2⟩
  · have HC : Hid (cmpv u v = 0) := by
      show _ = _
      unfold cmpv
      unfold cerr at h0
      by_cases h1 : chk u = 0
      · rw [if_pos h1] at h0 ⊢; rw [if_neg h0]
      · rw [if_neg h1]
    generalize hce : cerr u v = ce at h0
    have HE : Hid ((if chk u = 0 then chk v else chk u) = ce) := hce
    have h1 : (ce == 0) = false := by simpa using h0
    clear h0 hce
    go_enter Try.func17, Try.ntmps17
    go_wp2_with fail
    refine (both_any n u v _ _ _ _ _ _ _ _ _ _ _ _ _ _ _ _ _ _ _ (Lay.below n HU.out (below_two _ _ _)) (Lay.below n HV.out (below_two _ _ _))).mono ?_
    rw [HE.out]
    rintro e w1 ⟨rfl, hb1⟩
    go_wp2_with fail
    go_ret2
    exact ⟨by rw [HC.out]; rfl, nxt (below_two _ _ _) hb1⟩
end Go.Proofs.Ytghogejjijdfeaa
