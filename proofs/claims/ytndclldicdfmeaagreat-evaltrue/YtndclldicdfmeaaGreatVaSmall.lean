/-
  Small calls: a search in a list of no text and of one, an insertion into an empty list, a copy of a value without lists.
-/
import Derived.Test.YtndclldicdfmeaaGreatVaMeasure
namespace Go.Proofs.YtndclldicdfmeaaGreat
open Go.ChangeShapes Go.WideShapes Go.ChangeAt Go.RowKit
open Fl

theorem num_any (n : Int) (w : World) : Calls Tryz.prog 14 #[.int .i64 n] w fun e w' => e = .returned (.int .i64 n) ∧ w' = w := by
  go_enter Tryz.func14, Tryz.ntmps14
  go_wp2_with fail
  go_ret
  exact ⟨rfl, rfl⟩

theorem cnan_any (s : ByteArray) (w : World) : Calls Tryz.prog 162 #[.string s] w fun e w' => e = .returned (.bool false) ∧ w' = w := by
  go_enter Tryz.func162, Tryz.ntmps162
  go_wp2_with fail
  go_ret
  exact ⟨rfl, rfl⟩

theorem snan_any (s : ByteArray) (w : World) : Calls Tryz.prog 147 #[.string s] w fun e w' => e = .returned (.bool false) ∧ w' = w := by
  go_enter Tryz.func147, Tryz.ntmps147
  go_wp2_with fail
  go_ret
  exact ⟨rfl, rfl⟩

theorem less_any (s t : ByteArray) (w : World) : Calls Tryz.prog 146 #[.string s, .string t] w fun e w' => e = .returned (.bool (Op.bytesLess s.toList t.toList)) ∧ w' = w := by
  go_enter Tryz.func146, Tryz.ntmps146
  go_wp2_with (go_at_call 162; refine (cnan_any _ _).mono ?_; rintro e w' ⟨rfl, rfl⟩)
  go_ret
  exact ⟨rfl, rfl⟩

theorem bs_empty (a : Option Addr) (c : Nat) (s : ByteArray) (w : World) : Calls Tryz.prog 110 #[.slice a 0 c, .string s] w fun e w' => e = .returned (.tuple #[.int .i64 0, .bool false]) ∧ w' = w := by
  go_enter Tryz.func110, Tryz.ntmps110
  go_wp2_with fail
  refine wp_loop_rounds 1 ?_
  rw [rounds_succ]
  go_wp2_with fail
  go_ret2
  exact ⟨rfl, rfl⟩

theorem less_self : ∀ l : List UInt8, Op.bytesLess l l = false
  | [] => rfl
  | a :: r => by simp [Op.bytesLess, less_self r]

theorem bs_one (g c : Nat) (s : ByteArray) (w : World) (h : w.cell? ⟨g, 0, none⟩ = some (.string s)) :
    Calls Tryz.prog 110 #[.slice (some ⟨g, 0, none⟩) 1 c, .string s] w fun e w' => e = .returned (.tuple #[.int .i64 0, .bool true]) ∧ w' = w := by
  have hs := less_self s.toList
  go_enter Tryz.func110, Tryz.ntmps110
  go_wp2_with fail
  refine wp_loop_rounds 2 ?_
  rw [rounds_succ]
  go_wp2_with (go_at_call 146; refine (less_any _ _ _).mono ?_; rw [hs]; rintro e w' ⟨rfl, rfl⟩)
  rw [rounds_succ]
  go_wp2_with fail
  go_ret2
  exact ⟨rfl, rfl⟩

set_option maxRecDepth 100000 in
set_option maxHeartbeats 1600000 in
theorem ins_str (g : Nat) (s : ByteArray) (w : World) (h : w.cell? ⟨g, 0, none⟩ = some (.string s)) :
    Calls Tryz.prog 124 #[.slice none 0 0, .int .i64 0, .slice (some ⟨g, 0, none⟩) 1 1] w fun e w' => ∃ v, e = .returned v ∧ w'.ownsRow w.heap.size 9 1 v 1 [.string s] ∧ Below w.heap.size w w' := by
  obtain ⟨i1, hi1, hz01, hz11, hz21⟩ := info_parts Tryz.infoStr
  go_enter Tryz.func124, Tryz.ntmps124
  go_wp2_with (at_builtin; refine wpList_append_own _ rfl _ _ 26 rfl w.heap.size 9 i1 _ 1 16 Tryz.underlying26 hi1 hz01 hz11 hz21 rfl (by decide) _ 0 [] rfl (World.ownsRow_nil _ _ _ _) ⟨g, 0, none⟩ 1 1 [.string s] rfl rfl ?f1 ?f2 (by decide) (by decide) (Nat.le_refl _) ?_)
  case f1 =>
    intro j u hj
    match j, hj with
    | 0, hj => simp at hj; subst hj; exact h
  case f2 => intro u hu; simp at hu; subst hu; rfl
  · intro v' w2 hown hgrow _
    go_wp2_with fail
    go_ret
    exact ⟨_, rfl, hown, (Below.refl _ _).grown hgrow (Nat.le_refl _) (fun k hk => by cases hk)⟩

set_option maxRecDepth 100000 in
set_option maxHeartbeats 1600000 in
theorem ins_val (g : Nat) (w : World) (h0 : w.cell? ⟨g, 0, none⟩ = some (.int .i64 0)) (h1 : w.cell? ⟨g, 1, none⟩ = some (.int .u64 0)) (h2 : w.cell? ⟨g, 2, none⟩ = some (.string ⟨#[]⟩)) (h3 : w.cell? ⟨g, 3, none⟩ = some (.slice none 0 0)) (h4 : w.cell? ⟨g, 4, none⟩ = some (.slice none 0 0)) :
    Calls Tryz.prog 125 #[.slice none 0 0, .int .i64 0, .slice (some ⟨g, 0, none⟩) 1 1] w fun e w' => ∃ v, e = .returned v ∧ w'.ownsRow w.heap.size 29 5 v 1 [.int .i64 0, .int .u64 0, .string ⟨#[]⟩, .slice none 0 0, .slice none 0 0] ∧ Below w.heap.size w w' := by
  obtain ⟨i1, hi1, hz01, hz11, hz21⟩ := info_parts Tryz.infoVal
  go_enter Tryz.func125, Tryz.ntmps125
  go_wp2_with (at_builtin; refine wpList_append_own _ rfl _ _ 27 rfl w.heap.size 29 i1 _ 5 80 Tryz.underlying27 hi1 hz01 hz11 hz21 rfl (by decide) _ 0 [] rfl (World.ownsRow_nil _ _ _ _) ⟨g, 0, none⟩ 1 1 [.int .i64 0, .int .u64 0, .string ⟨#[]⟩, .slice none 0 0, .slice none 0 0] rfl rfl ?f1 ?f2 (by decide) (by decide) (Nat.le_refl _) ?_)
  case f1 =>
    intro j u hj
    match j, hj with
    | 0, hj => simp at hj; subst hj; exact h0
    | 1, hj => simp at hj; subst hj; exact h1
    | 2, hj => simp at hj; subst hj; exact h2
    | 3, hj => simp at hj; subst hj; exact h3
    | 4, hj => simp at hj; subst hj; exact h4
  case f2 => intro u hu; simp at hu; rcases hu with rfl | rfl | rfl | rfl | rfl <;> rfl
  · intro v' w2 hown hgrow _
    go_wp2_with fail
    go_ret
    exact ⟨_, rfl, hown, (Below.refl _ _).grown hgrow (Nat.le_refl _) (fun k hk => by cases hk)⟩

/-- Check's number. -/
def chk {n : Nat} (v : V n) : Int := (msr (wk n v 1 (0, 0))).2.2

theorem below_one (w : World) (o : Obj) : Below w.heap.size w (w.alloc o) := (Below.refl _ _).alloc (Nat.le_refl _) _

theorem index0 (a0 a1 a2 a3 a4 a5 a6 a7 a8 a9 : Value) (w : World) :
    Sem.run Tryz.prog (Instr.index 168 (.agg #[a0, a1, a2, a3, a4, a5, a6, a7, a8, a9]) (.int .i64 0)) w = .ok (.agg #[a0, a1, a2, a3, a4]) w := by
  obtain ⟨i0, hi, hz0, hz1, hz2⟩ := info_parts Tryz.infoVal
  have hs : ∀ w, Sem.run Tryz.prog (sizeOf 29) w = .ok 5 w := fun w => by simp [sizeOf, typeInfo, hi, hz1]
  have ha : ∀ w, Sem.run Tryz.prog (isAgg 29) w = .ok true w := fun w => by simp [isAgg, run_underlying Tryz.underlying29]
  simp [Instr.index, asIntOf, run_underlying Tryz.underlying168, part, hs, ha]
theorem index1 (a0 a1 a2 a3 a4 a5 a6 a7 a8 a9 : Value) (w : World) :
    Sem.run Tryz.prog (Instr.index 168 (.agg #[a0, a1, a2, a3, a4, a5, a6, a7, a8, a9]) (.int .i64 1)) w = .ok (.agg #[a5, a6, a7, a8, a9]) w := by
  obtain ⟨i0, hi, hz0, hz1, hz2⟩ := info_parts Tryz.infoVal
  have hs : ∀ w, Sem.run Tryz.prog (sizeOf 29) w = .ok 5 w := fun w => by simp [sizeOf, typeInfo, hi, hz1]
  have ha : ∀ w, Sem.run Tryz.prog (isAgg 29) w = .ok true w := fun w => by simp [isAgg, run_underlying Tryz.underlying29]
  simp [Instr.index, asIntOf, run_underlying Tryz.underlying168, part, hs, ha]

set_option maxRecDepth 100000 in
set_option maxHeartbeats 1600000 in
theorem both_any (n : Nat) (u v : V n) (k b k' b' : Int) (t t' : ByteArray) (ka ia ka' ia' : Option Addr) (kl kc il ic kl' kc' il' ic' : Nat) (w : World) (hu : Lay w n (mk k b t ka kl kc ia il ic) u) (hv : Lay w n (mk k' b' t' ka' kl' kc' ia' il' ic') v) :
    Calls Tryz.prog 150 #[.agg #[.int .i64 k, .int .u64 b, .string t, .slice ka kl kc, .slice ia il ic, .int .i64 k', .int .u64 b', .string t', .slice ka' kl' kc', .slice ia' il' ic']] w
      fun e w' => e = .returned (.int .i64 (if chk u = 0 then chk v else chk u)) ∧ Below w.heap.size w w' := by
  have HU : Hid (Lay w n (mk k b t ka kl kc ia il ic) u) := hu
  have HV : Hid (Lay w n (mk k' b' t' ka' kl' kc' ia' il' ic') v) := hv
  clear hu hv
  generalize hcu : chk u = cu
  generalize hcv : chk v = cv
  have HCU : Hid ((msr (wk n u 1 (0, 0))).2.2 = cu) := hcu
  have HCV : Hid ((msr (wk n v 1 (0, 0))).2.2 = cv) := hcv
  clear hcu hcv
  have hx0 := index0
  have hx1 := index1
  by_cases h0 : cu = 0
  · subst h0
    cases h1 : (cv == 0) with
    | true =>
      have h1' : cv = 0 := by simpa using h1
      subst h1'
      clear h1
      go_enter Tryz.func150, Tryz.ntmps150
      go_wp2_with fail
      refine wp_loop_rounds 3 ?_
      rw [rounds_succ]
      go_wp2_with fail
      refine (check_any n _ _ _ (Lay.below n HU.out (below_two _ _ _))).mono ?_
      rw [HCU.out]
      rintro e w1 ⟨rfl, hb1⟩
      go_wp2_with fail
      rw [rounds_succ]
      go_wp2_with fail
      refine (check_any n _ _ _ (Lay.below n HV.out (nxt (nxt (below_two _ _ _) hb1) (below_one _ _)))).mono ?_
      rw [HCV.out]
      rintro e w2 ⟨rfl, hb2⟩
      go_wp2_with fail
      rw [rounds_succ]
      go_wp2_with fail
      go_ret
      exact ⟨rfl, nxt (nxt (nxt (below_two _ _ _) hb1) (below_one _ _)) hb2⟩
    | false =>
      go_enter Tryz.func150, Tryz.ntmps150
      go_wp2_with fail
      refine wp_loop_rounds 3 ?_
      rw [rounds_succ]
      go_wp2_with fail
      refine (check_any n _ _ _ (Lay.below n HU.out (below_two _ _ _))).mono ?_
      rw [HCU.out]
      rintro e w1 ⟨rfl, hb1⟩
      go_wp2_with fail
      rw [rounds_succ]
      go_wp2_with fail
      refine (check_any n _ _ _ (Lay.below n HV.out (nxt (nxt (below_two _ _ _) hb1) (below_one _ _)))).mono ?_
      rw [HCV.out]
      rintro e w2 ⟨rfl, hb2⟩
      go_wp2_with fail
      go_ret
      exact ⟨rfl, nxt (nxt (nxt (below_two _ _ _) hb1) (below_one _ _)) hb2⟩
  · have h1 : (cu == 0) = false := by simpa using h0
    rw [if_neg h0]
    clear h0
    go_enter Tryz.func150, Tryz.ntmps150
    go_wp2_with fail
    refine wp_loop_rounds 3 ?_
    rw [rounds_succ]
    go_wp2_with fail
    refine (check_any n _ _ _ (Lay.below n HU.out (below_two _ _ _))).mono ?_
    rw [HCU.out]
    rintro e w1 ⟨rfl, hb1⟩
    go_wp2_with fail
    go_ret
    exact ⟨rfl, nxt (below_two _ _ _) hb1⟩
end Go.Proofs.YtndclldicdfmeaaGreat
