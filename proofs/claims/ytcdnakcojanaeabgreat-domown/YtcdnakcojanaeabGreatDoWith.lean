/-
  The program's isWithin.
-/
import Derived.Test.YtcdnakcojanaeabGreatDoOff
namespace Go.Proofs.YtcdnakcojanaeabGreat
open Go.ChangeShapes Go.WideShapes Go.ChangeAt Go.RowKit Go.Deep
open Do

namespace Do
/-- Going up from a number one comes out, in k steps at most. -/
def Out (ns : List Nd) : Nat → Int → Prop
  | 0, x => x = 0
  | k + 1, x => x = 0 ∨ ∃ q n, pl ns x = some q ∧ ns[q]? = some n ∧ Out ns k n.par

theorem Out.mono {ns : List Nd} : ∀ {k m : Nat} {x : Int}, Out ns k x → k ≤ m → Out ns m x
  | 0, 0, _, h, _ => h
  | 0, m + 1, _, h, _ => Or.inl h
  | k + 1, 0, _, _, h => by omega
  | k + 1, m + 1, x, h, hm => by
    rcases h with h | ⟨q, n, h1, h2, h3⟩
    · exact Or.inl h
    · exact Or.inr ⟨q, n, h1, h2, h3.mono (by omega)⟩

theorem least {p : Nat → Prop} (h : ∃ k, p k) : ∃ k, p k ∧ ∀ j, p j → k ≤ j := by
  obtain ⟨k, hk⟩ := h
  induction k using Nat.strongRecOn with
  | ind k ih =>
    by_cases hj : ∃ j, j < k ∧ p j
    · obtain ⟨j, hj1, hj2⟩ := hj
      exact ih j hj1 hj2
    · exact ⟨k, hk, fun j hpj => by
        rcases Nat.lt_or_ge j k with h | h
        · exact absurd ⟨j, h, hpj⟩ hj
        · exact h⟩

open Classical in
/-- How many steps at least. -/
noncomputable def stp (ns : List Nd) (x : Int) : Nat := if h : ∃ k, Out ns k x then Classical.choose (least h) else 0

theorem stp_le {ns : List Nd} {k : Nat} {x : Int} (h : Out ns k x) : stp ns x ≤ k := by
  unfold stp
  have hx : ∃ k, Out ns k x := ⟨k, h⟩
  rw [dif_pos hx]
  exact (Classical.choose_spec (least hx)).2 k h

theorem stp_out {ns : List Nd} {k : Nat} {x : Int} (h : Out ns k x) : Out ns (stp ns x) x := by
  unfold stp
  have hx : ∃ k, Out ns k x := ⟨k, h⟩
  rw [dif_pos hx]
  exact (Classical.choose_spec (least hx)).1

theorem stp_next {ns : List Nd} {k : Nat} {x : Int} (h : Out ns k x) (h0 : x ≠ 0) {q : Nat} {n : Nd} (hq : pl ns x = some q) (hn : ns[q]? = some n) : stp ns n.par < stp ns x ∧ Out ns (stp ns x - 1) n.par := by
  have h1 := stp_out h
  cases hs : stp ns x with
  | zero => rw [hs] at h1; exact absurd h1 h0
  | succ m =>
    rw [hs] at h1
    rcases h1 with h1 | ⟨q', n', h2, h3, h4⟩
    · exact absurd h1 h0
    · rw [hq] at h2
      cases h2
      rw [hn] at h3
      cases h3
      have := stp_le h4
      exact ⟨by omega, h4⟩

/-- Is a number within another, gone up k steps? -/
def wiB (ns : List Nd) (y : Int) : Nat → Int → Bool
  | 0, x => decide (x = y)
  | k + 1, x => if x = 0 ∨ x = y then decide (x = y) else match pl ns x with
    | none => false
    | some q => match ns[q]? with
      | none => false
      | some n => wiB ns y k n.par

theorem wiB_end {ns : List Nd} {y x : Int} (h : x = 0 ∨ x = y) : ∀ k, wiB ns y k x = decide (x = y)
  | 0 => rfl
  | k + 1 => by simp only [wiB]; rw [if_pos h]

theorem wiB_stable {ns : List Nd} {y : Int} : ∀ {k m : Nat} {x : Int}, Out ns k x → k ≤ m → wiB ns y m x = wiB ns y k x
  | 0, m, x, h, _ => by rw [wiB_end (Or.inl h), wiB_end (Or.inl h)]
  | k + 1, 0, _, _, h => by omega
  | k + 1, m + 1, x, h, hm => by
    by_cases he : x = 0 ∨ x = y
    · rw [wiB_end he, wiB_end he]
    · rcases h with h | ⟨q, n, h1, h2, h3⟩
      · exact absurd (Or.inl h) he
      · simp only [wiB]
        rw [if_neg he, if_neg he, h1]
        simp only
        rw [h2]
        exact wiB_stable h3 (by omega)
end Do

set_option maxRecDepth 100000 in
set_option maxHeartbeats 1600000 in
theorem isWithin_any (ns : List Nd) (x y : Int) (k : Nat) (a : Option Addr) (c : Nat) (w : World) (hL : LayN w a ns) (hu : Up ns) (hn : ns.length ≤ 1024) (hk : Out ns k x) :
    Calls Tryz.prog 68 #[.slice a ns.length c, .int .i64 x, .int .i64 y] w fun e w' => e = .returned (.bool (wiB ns y k x)) ∧ Below w.heap.size w w' := by
  have HL : Hid (LayN w a ns) := hL
  have HFI : Hid (∀ W, Below w.heap.size w W → ∀ x, Calls Tryz.prog 54 #[.slice a ns.length c, .int .i64 x] W fun e w' => ∃ v, e = .returned v ∧ FindIs a ns x v ∧ Below W.heap.size W w') := fun W hb x => find_any ns x a c W (hL.below hb) hu hn
  clear hL hu
  go_enter Tryz.func68, Tryz.ntmps68
  go_wp2_with fail
  go_loopw [1] (fun v1 wr => ∃ (z : Int) (m : Nat), v1 = .int .i64 z ∧ Hid (Out ns m z ∧ wiB ns y k x = wiB ns y m z) ∧ Hid (Below w.heap.size w wr)) (fun v1 _ => stp ns (intOf v1))
  case atStart => exact ⟨x, k, rfl, ⟨hk, rfl⟩, Below.refl _ _⟩
  case round =>
    obtain ⟨z, m, rfl, HE, HB⟩ := hrel
    by_cases h0 : z = 0
    · subst h0
      have HR : Hid (wiB ns y k x = ((0 : Int) == y)) := by show _ = _; rw [HE.out.2, wiB_end (Or.inl rfl)]; rfl
      clear HE
      go_wp2_with fail
      go_ret
      exact ⟨by rw [HR.out]; rfl, HB.out⟩
    · by_cases hy : z = y
      · subst hy
        have HR : Hid (wiB ns z k x = true) := by show _ = _; rw [HE.out.2, wiB_end (Or.inr rfl)]; simp
        have g0 : (z != 0) = true := by simpa using h0
        clear HE
        go_wp2_with fail
        go_ret
        exact ⟨by rw [HR.out]; simp, HB.out⟩
      · have hO := HE.out.1
        have hq : ∃ q n, pl ns z = some q ∧ ns[q]? = some n := by
          cases m with
          | zero => exact absurd hO h0
          | succ m =>
            rcases hO with hO | ⟨q, n, h1, h2, -⟩
            · exact absurd hO h0
            · exact ⟨q, n, h1, h2⟩
        obtain ⟨q, n, hq, hn1⟩ := hq
        obtain ⟨hs1, hs2⟩ := stp_next hO h0 hq hn1
        have HN : Hid (stp ns n.par < stp ns z) := hs1
        have HE' : Hid (Out ns (stp ns z - 1) n.par ∧ wiB ns y k x = wiB ns y (stp ns z - 1) n.par) := by
          refine ⟨hs2, ?_⟩
          have h1 := wiB_stable (y := y) (stp_out hO) (stp_le hO)
          rw [HE.out.2, h1]
          have e : stp ns z = (stp ns z - 1) + 1 := by omega
          rw [e]
          simp only [wiB, Nat.add_sub_cancel]
          rw [if_neg (by omega), hq]
          simp only
          rw [hn1]
        have g0 : (z != 0) = true := by simpa using h0
        have g1 : (z != y) = true := by simpa using hy
        clear HE hO hs1 hs2
        go_wp2_with fail
        refine (HFI.out _ HB.out z).mono ?_
        rintro e w2 ⟨fv, rfl, hfi, hb2⟩
        have B2 : Hid (Below w.heap.size w w2) := nxt HB.out hb2
        unfold FindIs at hfi
        rw [hq] at hfi
        simp only at hfi
        obtain ⟨b, o, ha, rfl⟩ := hfi
        obtain ⟨b', o', aa, ac, ka, kc, ha', hN⟩ := HL.out.below B2.out q n hn1
        subst ha
        cases ha'
        have r1 := hN.c1
        clear hN hb2 hq hn1
        generalize n.par = np at *
        go_wp2_with fail
        go_roundw
        case rel => exact ⟨np, _, rfl, HE'.out, B2.out⟩
        case measure => exact HN.out
end Go.Proofs.YtcdnakcojanaeabGreat
