/-
  States that lie in memory; may a write, may a state be.
-/
import Derived.Test.YtokebdeaahdcjabDkMath
namespace Go.Proofs.Ytokebdeaahdcjab
open Go.ChangeShapes Go.WideShapes Go.ChangeAt Go.RowKit Go.Deep
open Dk (Wr St)

/-- Sectors that lie somewhere. -/
def LayS (w : World) (a : Option Addr) (ss : List (List UInt8)) : Prop :=
  ∀ i l, ss[i]? = some l → ∃ b off a' c', a = some ⟨b, off, none⟩ ∧ w.cell? ⟨b, off + i, none⟩ = some (.slice a' l.length c') ∧ Oct w a' c' l ∧ l.length ≤ 140737488351232

/-- Writes that lie somewhere. -/
def LayW (w : World) (a : Option Addr) (ws : List Wr) : Prop :=
  ∀ i x, ws[i]? = some x → ∃ b off a' c', a = some ⟨b, off, none⟩ ∧ w.cell? ⟨b, off + i * 3, none⟩ = some (.bool x.fl) ∧ w.cell? ⟨b, off + i * 3 + 1, none⟩ = some (.int .i64 x.sec) ∧ w.cell? ⟨b, off + i * 3 + 2, none⟩ = some (.slice a' x.d.length c')
    ∧ Oct w a' c' x.d ∧ x.d.length ≤ 140737488351232 ∧ -9223372036854775808 ≤ x.sec ∧ x.sec ≤ 9223372036854775807

theorem LayS.below {w w' : World} {a : Option Addr} {ss : List (List UInt8)} (h : LayS w a ss) (hb : Below w.heap.size w w') : LayS w' a ss := by
  intro i l hi
  obtain ⟨b, off, a', c', h1, h2, h3, h4⟩ := h i l hi
  exact ⟨b, off, a', c', h1, keepc hb _ _ h2, h3.below hb, h4⟩

theorem LayW.below {w w' : World} {a : Option Addr} {ws : List Wr} (h : LayW w a ws) (hb : Below w.heap.size w w') : LayW w' a ws := by
  intro i x hi
  obtain ⟨b, off, a', c', h1, h2, h3, h4, h5, h6⟩ := h i x hi
  exact ⟨b, off, a', c', h1, keepc hb _ _ h2, keepc hb _ _ h3, keepc hb _ _ h4, h5.below hb, h6⟩

theorem LayS.nil (w : World) (a : Option Addr) : LayS w a [] := fun i l h => by simp at h

theorem LayW.nil (w : World) (a : Option Addr) : LayW w a [] := fun i l h => by simp at h

/-- A state that lies somewhere. -/
def StIs (w : World) (v : Value) (s : St) : Prop :=
  ∃ a c a' c', v = .agg #[.slice a s.secs.length c, .slice a' s.cache.length c'] ∧ LayS w a s.secs ∧ LayW w a' s.cache ∧ s.secs.length ≤ 200000000000000 ∧ s.cache.length ≤ 200000000000000

theorem StIs.below {w w' : World} {v : Value} {s : St} (h : StIs w v s) (hb : Below w.heap.size w w') : StIs w' v s := by
  obtain ⟨a, c, a', c', h1, h2, h3, h4⟩ := h
  exact ⟨a, c, a', c', h1, h2.below hb, h3.below hb, h4⟩

/-- A write that lies somewhere. -/
def WrIs (w : World) (v : Value) (x : Wr) : Prop :=
  ∃ a c, v = .agg #[.bool x.fl, .int .i64 x.sec, .slice a x.d.length c] ∧ Oct w a c x.d ∧ x.d.length ≤ 140737488351232 ∧ -9223372036854775808 ≤ x.sec ∧ x.sec ≤ 9223372036854775807

theorem WrIs.below {w w' : World} {v : Value} {x : Wr} (h : WrIs w v x) (hb : Below w.heap.size w w') : WrIs w' v x := by
  obtain ⟨a, c, h1, h2, h3⟩ := h
  exact ⟨a, c, h1, h2.below hb, h3⟩

theorem need_any (a : Option Addr) (c : Nat) (l : List UInt8) (w : World) (hl : l.length ≤ 140737488351232) :
    Calls Try.prog 43 #[.slice a l.length c] w fun e w' => e = .returned (.int .i64 (Dk.need l : Nat)) ∧ w' = w := by
  have hq : ((l.length : Int) + 48 - 1) / 48 = ((Dk.need l : Nat) : Int) := by
    unfold Dk.need
    omega
  go_enter Try.func43, Try.ntmps43
  go_wp2_with fail
  go_ret
  refine ⟨?_, rfl⟩
  rw [← hq]
  rfl

set_option maxRecDepth 100000 in
set_option maxHeartbeats 1600000 in
theorem misfit_any (x : Wr) (n : Nat) (a : Option Addr) (c : Nat) (w : World) (hn : n ≤ 200000000000000) (hd : x.d.length ≤ 140737488351232) (h1 : -9223372036854775808 ≤ x.sec) (h2 : x.sec ≤ 9223372036854775807) :
    Calls Try.prog 42 #[.agg #[.bool x.fl, .int .i64 x.sec, .slice a x.d.length c], .int .i64 n] w fun e w' => e = .returned (.int .i64 (Dk.misfit x n)) ∧ Below w.heap.size w w' := by
  obtain ⟨fl, sec, d⟩ := x
  simp only at hd h1 h2 ⊢
  have B0 : Hid (Below w.heap.size w (w.alloc (.cells #[.bool fl, .int .i64 sec, .slice a d.length c] 28))) := below_one _ _
  have hnd : Dk.need d ≤ 140737488351232 := by unfold Dk.need; omega
  have HM : Hid (Dk.misfit ⟨fl, sec, d⟩ n = if sec < 0 ∨ (0 < Dk.need d ∧ (n : Int) - sec < Dk.need d) then 4 else if Dk.need d = 0 ∨ d.length % 48 ≠ 0 then 1 else 0) := rfl
  have HN := fun w => need_any a c d w hd
  generalize Dk.need d = nd at *
  generalize Dk.misfit ⟨fl, sec, d⟩ n = res at *
  by_cases hs : sec < 0
  · have hsb : decide (sec < 0) = true := decide_eq_true hs
    have HR : Hid (res = 4) := by rw [HM.out, if_pos (Or.inl hs)]; rfl
    go_enter Try.func42, Try.ntmps42
    go_wp2_with (go_at_call 43; refine (HN _).mono ?_; rintro e w1 ⟨rfl, rfl⟩)
    go_ret
    exact ⟨by rw [HR.out]; rfl, B0.out⟩
  · have hsb : decide (sec < 0) = false := decide_eq_false hs
    by_cases hp : 0 < nd
    · have hpb : decide (0 < (nd : Int)) = true := decide_eq_true (by omega)
      by_cases hr : (n : Int) - sec < nd
      · have hrb : decide ((n : Int) - sec < nd) = true := decide_eq_true hr
        have HR : Hid (res = 4) := by rw [HM.out, if_pos (Or.inr ⟨hp, hr⟩)]; rfl
        go_enter Try.func42, Try.ntmps42
        go_wp2_with (go_at_call 43; refine (HN _).mono ?_; rintro e w1 ⟨rfl, rfl⟩)
        go_ret
        exact ⟨by rw [HR.out]; rfl, B0.out⟩
      · have hrb : decide ((n : Int) - sec < nd) = false := decide_eq_false hr
        have hz : ((nd : Int) == 0) = false := by simp; omega
        by_cases hm : d.length % 48 = 0
        · have hmb : ((d.length : Int) % 48 != 0) = false := by simp; omega
          have HR : Hid (res = 0) := by rw [HM.out, if_neg (by omega), if_neg (by omega)]; rfl
          go_enter Try.func42, Try.ntmps42
          go_wp2_with (go_at_call 43; refine (HN _).mono ?_; rintro e w1 ⟨rfl, rfl⟩)
          go_ret
          exact ⟨by rw [HR.out]; rfl, B0.out⟩
        · have hmb : ((d.length : Int) % 48 != 0) = true := by simp; omega
          have HR : Hid (res = 1) := by rw [HM.out, if_neg (by omega), if_pos (by omega)]; rfl
          go_enter Try.func42, Try.ntmps42
          go_wp2_with (go_at_call 43; refine (HN _).mono ?_; rintro e w1 ⟨rfl, rfl⟩)
          go_ret
          exact ⟨by rw [HR.out]; rfl, B0.out⟩
    · have hpb : decide (0 < (nd : Int)) = false := decide_eq_false (by omega)
      have hz : ((nd : Int) == 0) = true := by simp; omega
      have HR : Hid (res = 1) := by rw [HM.out, if_neg (by omega), if_pos (by omega)]; rfl
      go_enter Try.func42, Try.ntmps42
      go_wp2_with (go_at_call 43; refine (HN _).mono ?_; rintro e w1 ⟨rfl, rfl⟩)
      go_ret
      exact ⟨by rw [HR.out]; rfl, B0.out⟩
end Go.Proofs.Ytokebdeaahdcjab
