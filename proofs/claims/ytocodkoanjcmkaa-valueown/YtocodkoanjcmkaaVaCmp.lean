/-
  Comparisons: of numbers, texts, lists of texts; the first that is not 0.
-/
import Derived.Test.YtocodkoanjcmkaaVaSmall
import Derived.Test.YtocodkoanjcmkaaVaRefPart
namespace Go.Proofs.Ytocodkoanjcmkaa
open Go.ChangeShapes Go.WideShapes Go.ChangeAt Go.RowKit
open Fl

def icmp (a b : Int) : Int := if a < b then -1 else if b < a then 1 else 0
def scmp (s t : ByteArray) : Int := if Op.bytesLess s.toList t.toList = true then -1 else if Op.bytesLess t.toList s.toList = true then 1 else 0
/-- Item by item; one that begins another one first. -/
def lcmp {α : Type} (f : α → α → Int) : List α → List α → Int
  | [], [] => 0
  | [], _ :: _ => -1
  | _ :: _, [] => 1
  | a :: x, b :: y => if f a b = 0 then lcmp f x y else f a b
/-- The first that is not 0. -/
def or5 (a b c d e : Int) : Int := if a = 0 then if b = 0 then if c = 0 then if d = 0 then e else d else c else b else a
def rnk (k b : Int) : Int := if k = 2 then ord b else b

theorem cnanI_any (a : Int) (w : World) : Calls Try.prog 60 #[.int .i64 a] w fun e w' => e = .returned (.bool false) ∧ w' = w := by
  go_enter Try.func60, Try.ntmps60
  go_wp2_with fail
  go_ret
  exact ⟨rfl, rfl⟩

theorem cnanU_any (a : Int) (w : World) : Calls Try.prog 61 #[.int .u64 a] w fun e w' => e = .returned (.bool false) ∧ w' = w := by
  go_enter Try.func61, Try.ntmps61
  go_wp2_with fail
  go_ret
  exact ⟨rfl, rfl⟩

theorem cmpI_any (a b : Int) (w : World) : Calls Try.prog 42 #[.int .i64 a, .int .i64 b] w fun e w' => e = .returned (.int .i64 (icmp a b)) ∧ w' = w := by
  go_enter Try.func42, Try.ntmps42
  go_wp2_with (go_at_call 60; refine (cnanI_any _ _).mono ?_; rintro e w' ⟨rfl, rfl⟩)
  all_goals (go_ret; refine ⟨ret_int ?_, rfl⟩; unfold icmp; first | (rw [if_pos ‹_›]) | (rw [if_neg (by omega), if_pos (by omega)]) | (rw [if_neg (by omega), if_neg (by omega)]))

theorem cmpU_any (a b : Int) (w : World) : Calls Try.prog 43 #[.int .u64 a, .int .u64 b] w fun e w' => e = .returned (.int .i64 (icmp a b)) ∧ w' = w := by
  go_enter Try.func43, Try.ntmps43
  go_wp2_with (go_at_call 61; refine (cnanU_any _ _).mono ?_; rintro e w' ⟨rfl, rfl⟩)
  all_goals (go_ret; refine ⟨ret_int ?_, rfl⟩; unfold icmp; first | (rw [if_pos ‹_›]) | (rw [if_neg (by omega), if_pos (by omega)]) | (rw [if_neg (by omega), if_neg (by omega)]))

theorem cmpS_any (s t : ByteArray) (w : World) : Calls Try.prog 45 #[.string s, .string t] w fun e w' => e = .returned (.int .i64 (scmp s t)) ∧ w' = w := by
  have H := less_turn t.toList s.toList
  cases h1 : Op.bytesLess s.toList t.toList with
  | true =>
    have HE : Hid (scmp s t = -1) := by simp [Hid, scmp, h1]
    clear H
    go_enter Try.func45, Try.ntmps45
    go_wp2_with (go_at_call 63; refine (cnan_any _ _).mono ?_; rintro e w' ⟨rfl, rfl⟩)
    go_ret
    exact ⟨ret_int HE.out.symm, rfl⟩
  | false =>
    rw [h1] at H
    cases h2 : Op.bytesLess t.toList s.toList with
    | true =>
      have HE : Hid (scmp s t = 1) := by simp [Hid, scmp, h1, h2]
      have h3 : (s.toList == t.toList) = false := by rw [h2] at H; simpa using H
      clear H
      go_enter Try.func45, Try.ntmps45
      go_wp2_with (go_at_call 63; refine (cnan_any _ _).mono ?_; rintro e w' ⟨rfl, rfl⟩)
      go_ret
      exact ⟨ret_int HE.out.symm, rfl⟩
    | false =>
      have HE : Hid (scmp s t = 0) := by simp [Hid, scmp, h1, h2]
      have h3 : (s.toList == t.toList) = true := by rw [h2] at H; simpa using H
      clear H
      go_enter Try.func45, Try.ntmps45
      go_wp2_with (go_at_call 63; refine (cnan_any _ _).mono ?_; rintro e w' ⟨rfl, rfl⟩)
      go_ret
      exact ⟨ret_int HE.out.symm, rfl⟩

theorem or_any (g : Nat) (a b c d e' : Int) (w : World) (h0 : w.cell? ⟨g, 0, none⟩ = some (.int .i64 a)) (h1 : w.cell? ⟨g, 1, none⟩ = some (.int .i64 b)) (h2 : w.cell? ⟨g, 2, none⟩ = some (.int .i64 c)) (h3 : w.cell? ⟨g, 3, none⟩ = some (.int .i64 d)) (h4 : w.cell? ⟨g, 4, none⟩ = some (.int .i64 e')) :
    Calls Try.prog 41 #[.slice (some ⟨g, 0, none⟩) 5 5] w fun e w' => e = .returned (.int .i64 (or5 a b c d e')) ∧ w' = w := by
  go_enter Try.func41, Try.ntmps41
  go_wp2_with fail
  refine wp_loop_rounds 6 ?_
  rw [rounds_succ]
  cases z0 : (a == 0) with
  | false =>
    go_wp2_with fail
    go_ret
    exact ⟨ret_int (by simp at z0; simp [or5, z0]), rfl⟩
  | true =>
  go_wp2_with fail
  rw [rounds_succ]
  cases z1 : (b == 0) with
  | false =>
    go_wp2_with fail
    go_ret
    exact ⟨ret_int (by simp at z0 z1; simp [or5, z0, z1]), rfl⟩
  | true =>
  go_wp2_with fail
  rw [rounds_succ]
  cases z2 : (c == 0) with
  | false =>
    go_wp2_with fail
    go_ret
    exact ⟨ret_int (by simp at z0 z1 z2; simp [or5, z0, z1, z2]), rfl⟩
  | true =>
  go_wp2_with fail
  rw [rounds_succ]
  cases z3 : (d == 0) with
  | false =>
    go_wp2_with fail
    go_ret
    exact ⟨ret_int (by simp at z0 z1 z2 z3; simp [or5, z0, z1, z2, z3]), rfl⟩
  | true =>
  go_wp2_with fail
  rw [rounds_succ]
  cases z4 : (e' == 0) with
  | false =>
    go_wp2_with fail
    go_ret
    exact ⟨ret_int (by simp at z0 z1 z2 z3 z4; simp [or5, z0, z1, z2, z3]), rfl⟩
  | true =>
  go_wp2_with fail
  rw [rounds_succ]
  go_wp2_with fail
  go_ret
  exact ⟨ret_int (by simp at z0 z1 z2 z3 z4; simp [or5, z0, z1, z2, z3, z4]), rfl⟩

theorem rank_any (k b : Int) (t : ByteArray) (ka : Option Addr) (kl kc : Nat) (ia : Option Addr) (il ic : Nat) (w : World) (h : U b) :
    Calls Try.prog 44 #[mk k b t ka kl kc ia il ic] w fun e w' => e = .returned (.int .u64 (rnk k b)) ∧ Below w.heap.size w w' := by
  have HU : Hid (U b) := h
  clear h
  by_cases hk : k = 2
  · subst hk
    go_enter Try.func44, Try.ntmps44
    go_wp2_with (go_at_call 62; refine (order_any _ _ HU.out).mono ?_; rintro e w' ⟨rfl, rfl⟩)
    go_ret
    exact ⟨ret_int (by simp [rnk]), below_one _ _⟩
  · have hk' : (k == 2) = false := by simpa using hk
    have HK : Hid (¬ k = 2) := hk
    clear hk
    go_enter Try.func44, Try.ntmps44
    go_wp2_with fail
    go_ret
    exact ⟨ret_int (by unfold rnk; rw [if_neg HK.out]), below_one _ _⟩

theorem lcmp_drop {α : Type} {f : α → α → Int} {x y : List α} {m : Nat} (hx : m < x.length) (hy : m < y.length) : lcmp f (x.drop m) (y.drop m) = if f x[m] y[m] = 0 then lcmp f (x.drop (m + 1)) (y.drop (m + 1)) else f x[m] y[m] := by
  rw [List.drop_eq_getElem_cons hx, List.drop_eq_getElem_cons hy]
  rfl

theorem lcmp_left {α : Type} {f : α → α → Int} {x y : List α} {m : Nat} (hx : m < x.length) (hy : y.length ≤ m) : lcmp f (x.drop m) (y.drop m) = 1 := by
  rw [List.drop_eq_getElem_cons hx, List.drop_eq_nil_of_le hy]
  rfl

theorem lcmp_right {α : Type} {f : α → α → Int} {x y : List α} {m : Nat} (hx : x.length ≤ m) (hy : m < y.length) : lcmp f (x.drop m) (y.drop m) = -1 := by
  rw [List.drop_eq_getElem_cons hy, List.drop_eq_nil_of_le hx]
  rfl

theorem lcmp_none {α : Type} {f : α → α → Int} {x y : List α} {m : Nat} (hx : x.length ≤ m) (hy : y.length ≤ m) : lcmp f (x.drop m) (y.drop m) = 0 := by
  rw [List.drop_eq_nil_of_le hy, List.drop_eq_nil_of_le hx]
  rfl

set_option maxRecDepth 100000 in
set_option maxHeartbeats 1600000 in
theorem cmpL_any (ks ls : List ByteArray) (ka la : Option Addr) (kc lc : Nat) (w : World) (hk : LayS w ka ks) (hl : LayS w la ls) (bk : ks.length * 16 ≤ 140737488351232) :
    Calls Try.prog 46 #[.slice ka ks.length kc, .slice la ls.length lc] w fun e w' => e = .returned (.int .i64 (lcmp scmp ks ls)) ∧ w' = w := by
  have HK : Hid (LayS w ka ks) := hk
  have HL : Hid (LayS w la ls) := hl
  clear hk hl
  go_enter Try.func46, Try.ntmps46
  go_wp2_with fail
  go_loopw [11] (fun i wr => ∃ m : Nat, m ≤ ks.length ∧ m ≤ ls.length ∧ i = .int .i64 m ∧ Hid (lcmp scmp ks ls = lcmp scmp (ks.drop m) (ls.drop m)) ∧ wr = w) (fun i _ => ks.length - (intOf i).toNat)
  case atStart => exact ⟨0, Nat.zero_le _, Nat.zero_le _, rfl, rfl, rfl⟩
  case round =>
    obtain ⟨m, hm, hm2, rfl, HE, rfl⟩ := hrel
    by_cases hlt : m < ks.length
    · obtain ⟨s1, hs1⟩ : ∃ s, ks[m]? = some s := ⟨ks[m], by simp [hlt]⟩
      have e1 : ks[m] = s1 := by rw [List.getElem?_eq_getElem hlt] at hs1; simpa using hs1
      obtain ⟨b1, o1, rfl, q1, -⟩ := HK.out m s1 hs1
      by_cases hlt2 : m < ls.length
      · obtain ⟨s2, hs2⟩ : ∃ s, ls[m]? = some s := ⟨ls[m], by simp [hlt2]⟩
        have e2 : ls[m] = s2 := by rw [List.getElem?_eq_getElem hlt2] at hs2; simpa using hs2
        obtain ⟨b2, o2, rfl, q2, -⟩ := HL.out m s2 hs2
        have HD := lcmp_drop (f := scmp) hlt hlt2
        rw [e1, e2] at HD
        have HD' : Hid (lcmp scmp (ks.drop m) (ls.drop m) = if scmp s1 s2 = 0 then lcmp scmp (ks.drop (m + 1)) (ls.drop (m + 1)) else scmp s1 s2) := HD
        clear HD hs1 hs2 e1 e2
        cases hz : (scmp s1 s2 == 0) with
        | true =>
          go_wp2_with (go_at_call 45; refine (cmpS_any _ _ _).mono ?_; rintro e w' ⟨rfl, rfl⟩)
          go_roundw
          case rel => exact ⟨m + 1, by omega, by omega, by go_num, by rw [HE.out, HD'.out, if_pos (by simpa using hz)]; rfl, by first | trivial | rfl⟩
          case measure => simp [intOf]; omega
        | false =>
          go_wp2_with (go_at_call 45; refine (cmpS_any _ _ _).mono ?_; rintro e w' ⟨rfl, rfl⟩)
          go_ret
          exact ⟨ret_int (by rw [HE.out, HD'.out, if_neg (by simpa using hz)]), rfl⟩
      · clear hs1 e1
        go_wp2_with fail
        go_ret
        exact ⟨ret_int (by rw [HE.out, lcmp_left hlt (by omega)]), rfl⟩
    · by_cases hlt2 : m < ls.length
      · have hh : (ks.length : Int) < (ls.length : Int) := by omega
        go_wp2_with fail
        go_ret
        exact ⟨ret_int (by rw [HE.out, lcmp_right (by omega) hlt2]), rfl⟩
      · have hh : ¬ (ks.length : Int) < (ls.length : Int) := by omega
        go_wp2_with fail
        go_ret
        exact ⟨ret_int (by rw [HE.out, lcmp_none (by omega) (by omega)]), rfl⟩
end Go.Proofs.Ytocodkoanjcmkaa
