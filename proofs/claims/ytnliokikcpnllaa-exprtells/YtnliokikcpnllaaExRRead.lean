/-
  The page's reading of a part: what comes ahead of its fields. (Printed by wip/make/mkexrread.py.)
-/
import Derived.Test.YtnliokikcpnllaaExRNext
import Derived.Test.YtnliokikcpnllaaExDecW
namespace Go.Proofs.Ytnliokikcpnllaa
open Go.ChangeShapes Go.WideShapes Go.ChangeAt Go.RowKit
open Fl

/-- What the page's reading of a part leaves. -/
def RXPost (n : Nat) (r : Except Int (X n × SX)) (p : Nat) (a : Option Addr) (c : Nat) (bs : List UInt8) (w : World) (e : Ending) (w' : World) : Prop :=
  w.grownBy w' (some p) ∧ ((∃ er K k b t ia il ic, r = .error er ∧ e = .returned (mkX k b t ia il ic) ∧ RErrX w' p K er) ∨
    (∃ v s' k b t ia il ic F, r = .ok (v, s') ∧ e = .returned (mkX k b t ia il ic) ∧ OwnX 25 w' n (mkX k b t ia il ic) v F ∧ (∀ g, F g → w.heap.size ≤ g ∧ g < w'.heap.size) ∧ RAtX w' p a c bs s'))

theorem RErrX.bump {w : World} {p K : Nat} {er : Int} {sl : Value} {i : Int} {q : Nat} (hq : q ≤ K) (hne : er ≠ 0) (h : w.heap[p]? = some (.cells #[sl, .int .i64 i, .int .i64 (q : Int), .int .i64 er] 73 (0, 0))) :
    RErrX (w.setCell ⟨p, 2, none⟩ (.int .i64 ((q : Int) + 1))) p (K + 1) er := ⟨hne, q + 1, by omega, sl, i, set4X_two h _⟩

/-- A fresh block of four cells set, beside the reader's. -/
theorem grown_setsX {w W : World} {p g : Nat} {cs : Array Value} {t : TypeId} (h : w.grownBy W (some p)) (hb : W.heap[g]? = some (.cells cs t (0, 0))) (hg : w.heap.size ≤ g) (v0 v1 v2 v3 : Value) :
    w.grownBy ((((W.setCell ⟨g, 0, none⟩ v0).setCell ⟨g, 1, none⟩ v1).setCell ⟨g, 2, none⟩ v2).setCell ⟨g, 3, none⟩ v3) (some p) := by
  have _ := hb
  refine ⟨h.os, h.tape, h.output, by simpa [World.setCell] using h.size, fun k hk hne => ?_⟩
  rw [Below.heap_setCell _ _ _ _ (by show k ≠ g; omega), Below.heap_setCell _ _ _ _ (by show k ≠ g; omega), Below.heap_setCell _ _ _ _ (by show k ≠ g; omega), Below.heap_setCell _ _ _ _ (by show k ≠ g; omega)]
  exact h.block k hk hne


set_option maxRecDepth 100000 in
set_option maxHeartbeats 3200000 in
theorem rexprX_deep (s : SX) (p : Nat) (a : Option Addr) (c : Nat) (bs : List UInt8) (w : World) (hr : RAtX w p a c bs s) (hb : s.2 ≤ 1000000000000000) :
    Calls Try.prog 33 #[.pointer (some ⟨p, 0, none⟩), .int .i64 9] w (RXPost 0 (rdX 0 s) p a c bs w) := by
  have hp : p < w.heap.size := by obtain ⟨i, -, -, h⟩ := hr; exact lt_of_block h
  have hA := hr.same ((below_one w (.cells #[.int .i64 0, .int .u64 0, .string ⟨#[]⟩, .slice none 0 0] 25)).block p hp)
  have HF := rfailX_set p a c bs s 10 _ hA (by decide)
  have HA0 : ∀ w, Calls Try.prog 48 #[.int .i64 0] w fun e w' => e = .returned (.int .i64 0) ∧ w' = w := rargs_any 0
  clear hr hA
  go_enter Try.func33, Try.ntmps33
  go_wp2_with fail
  refine HF.mono ?_
  rintro e w1 ⟨rfl, hg1, he1⟩
  have HE1 : Hid (RErrX w1 p s.2 10) := he1
  have HG1 : Hid (w.grownBy w1 (some p)) := below_grownX (below_one _ _) hg1
  have HZ1 : Hid (w1.heap[w.heap.size]? = some (.cells #[.int .i64 0, .int .u64 0, .string ⟨#[]⟩, .slice none 0 0] 25 (0, 0))) := (hg1.block _ (by simp) (by simp; omega)).trans (heap_alloc_new _ _)
  clear hg1 he1 HF
  go_wp2_with fail
  refine (roctetX_err p s.2 10 w1 HE1.out).mono ?_
  rintro e w2 ⟨rfl, hw2⟩
  subst hw2
  go_wp2_with fail
  refine (HA0 _).mono ?_
  rintro e w3 ⟨rfl, hw3⟩
  subst hw3
  have hp2 : p < w2.heap.size := Nat.lt_of_lt_of_le hp HG1.out.size
  have HE : Hid (RErrX (w2.alloc (.cells #[.int .i64 0, .int .u64 0, .string ⟨#[]⟩, .slice none 0 0] 25)) p s.2 10) := HE1.out.same ((below_one _ _).block p hp2)
  have HG : Hid (w.grownBy (w2.alloc (.cells #[.int .i64 0, .int .u64 0, .string ⟨#[]⟩, .slice none 0 0] 25)) (some p)) := grown_belowX HG1.out (below_one _ _)
  have HZ : Hid ((w2.alloc (.cells #[.int .i64 0, .int .u64 0, .string ⟨#[]⟩, .slice none 0 0] 25)).heap[w.heap.size]? = some (.cells #[.int .i64 0, .int .u64 0, .string ⟨#[]⟩, .slice none 0 0] 25 (0, 0))) := ((below_one _ _).block _ (lt_of_block HZ1.out)).trans HZ1.out
  clear HE1 HG1 HZ1
  go_wp2_with fail
  generalize w2.alloc (.cells #[.int .i64 0, .int .u64 0, .string ⟨#[]⟩, .slice none 0 0] 25) = W4 at *
  refine (rfailX_err p s.2 22 10 false W4 HE.out).mono ?_
  rintro e w5 ⟨rfl, hw5⟩
  subst hw5
  obtain ⟨hne, q9, hq9, sl9, i9, hb9⟩ := HE.out
  have HQ9 : (q9 : Int) ≤ 1000000000000000 := by omega
  have HE6 : Hid (RErrX (w5.setCell ⟨p, 2, none⟩ (.int .i64 ((q9 : Int) + 1))) p (s.2 + 1) 10) := RErrX.bump hq9 hne hb9
  have HG6 : Hid (w.grownBy (w5.setCell ⟨p, 2, none⟩ (.int .i64 ((q9 : Int) + 1))) (some p)) := grown_transX HG.out (grown_setX _)
  have HZ6 : Hid ((w5.setCell ⟨p, 2, none⟩ (.int .i64 ((q9 : Int) + 1))).heap[w.heap.size]? = some (.cells #[.int .i64 0, .int .u64 0, .string ⟨#[]⟩, .slice none 0 0] 25 (0, 0))) := (Below.heap_setCell _ _ _ _ (by show w.heap.size ≠ p; omega)).trans HZ.out
  obtain ⟨x0, x1, x2, x3, f0, f1, f2, f3⟩ := rd4X_cells hb9
  clear hb9 hq9 HE HG HZ
  go_upto_region 5 with fail
  generalize w5.setCell ⟨p, 2, none⟩ (.int .i64 ((q9 : Int) + 1)) = W6 at *
  clear x0 x1 x2 x3 f0 f1 f2 f3
  obtain ⟨-, q8, hq8, sl8, i8, hb8⟩ := HE6.out
  obtain ⟨x0, x1, x2, x3, -⟩ := rd4X_cells hb8
  obtain ⟨z0, z1, z2, z3, zf0, zf1, zf2, zf3⟩ := box4 HZ6.out
  have hne6 : (10 != 0) = true := by first | decide | simpa using hne
  clear hb8 hne hq8
  go_wp2_with fail
  obtain ⟨T2, O2, S2⟩ := set4 HZ6.out (.int .i64 0) (.int .u64 0) (.string ⟨#[]⟩) (.slice none 0 0)
  have HE7 : Hid (RErrX _ p (s.2 + 1) 10) := HE6.out.same (O2 p (by omega))
  have HG7 : Hid (w.grownBy _ (some p)) := grown_setsX HG6.out HZ6.out (by omega) (.int .i64 0) (.int .u64 0) (.string ⟨#[]⟩) (.slice none 0 0)
  generalize ((((W6.setCell ⟨w.heap.size, 0, none⟩ (.int .i64 0)).setCell ⟨w.heap.size, 1, none⟩ (.int .u64 0)).setCell ⟨w.heap.size, 2, none⟩ (.string ⟨#[]⟩)).setCell ⟨w.heap.size, 3, none⟩ (.slice none 0 0)) = W7 at *
  clear z0 z1 z2 z3
  obtain ⟨z0, z1, z2, z3, -⟩ := box4 T2
  refine bodyPost_ret (v := mkX 0 0 ⟨#[]⟩ none 0 0) (by simp [results, Try.results33, go_sem, z0, z1, z2, z3]) rfl ?_
  exact ⟨HG7.out, Or.inl ⟨10, s.2 + 1, _, _, _, _, _, _, rfl, rfl, HE7.out⟩⟩


set_option maxRecDepth 100000 in
set_option maxHeartbeats 3200000 in
theorem rexprX_nil (n : Nat) (d : Int) (q : Nat) (p : Nat) (a : Option Addr) (c : Nat) (bs : List UInt8) (w : World) (hd8 : d ≤ 8) (hr : RAtX w p a c bs ([], q)) (ho : Oct w a c bs) (hb : q ≤ 1000000000000000) :
    Calls Try.prog 33 #[.pointer (some ⟨p, 0, none⟩), .int .i64 d] w (RXPost (n + 1) (rdX (n + 1) ([], q)) p a c bs w) := by
  have hp : p < w.heap.size := by obtain ⟨i, -, -, h⟩ := hr; exact lt_of_block h
  have hA := hr.same ((below_one w (.cells #[.int .i64 0, .int .u64 0, .string ⟨#[]⟩, .slice none 0 0] 25)).block p hp)
  have hA0 := hA
  obtain ⟨i0, hi0, hd0, hbA⟩ := hA
  have HF := rfailX_no p 10 _ hbA
  have ho1 := ho.below (below_one w (.cells #[.int .i64 0, .int .u64 0, .string ⟨#[]⟩, .slice none 0 0] 25))
  have hdd : decide ((8 : Int) < d) = false := by simp; omega
  have HT := roctetX_any p a c bs [] q _ hA0 ho1
  have HA0 : ∀ w, Calls Try.prog 48 #[.int .i64 0] w fun e w' => e = .returned (.int .i64 0) ∧ w' = w := rargs_any 0
  clear hr hA0 hbA hi0 hd0 ho ho1
  go_enter Try.func33, Try.ntmps33
  go_wp2_with fail
  refine HF.mono ?_
  rintro e w1 ⟨rfl, hw1⟩
  subst hw1
  go_wp2_with fail
  refine HT.mono ?_
  rintro e w2 ⟨hg2, ⟨-, rfl, he2⟩ | ⟨o2, r2, h2, -⟩⟩
  rotate_left
  · cases h2
  have HE1 : Hid (RErrX w2 p q 8) := he2
  have HG1 : Hid (w.grownBy w2 (some p)) := below_grownX (below_one _ _) hg2
  have HZ1 : Hid (w2.heap[w.heap.size]? = some (.cells #[.int .i64 0, .int .u64 0, .string ⟨#[]⟩, .slice none 0 0] 25 (0, 0))) := (hg2.block _ (by simp) (by simp; omega)).trans (heap_alloc_new _ _)
  clear hg2 he2 HF HT
  go_wp2_with fail
  refine (HA0 _).mono ?_
  rintro e w3 ⟨rfl, hw3⟩
  subst hw3
  have hp2 : p < w2.heap.size := Nat.lt_of_lt_of_le hp HG1.out.size
  have HE : Hid (RErrX (w2.alloc (.cells #[.int .i64 0, .int .u64 0, .string ⟨#[]⟩, .slice none 0 0] 25)) p q 8) := HE1.out.same ((below_one _ _).block p hp2)
  have HG : Hid (w.grownBy (w2.alloc (.cells #[.int .i64 0, .int .u64 0, .string ⟨#[]⟩, .slice none 0 0] 25)) (some p)) := grown_belowX HG1.out (below_one _ _)
  have HZ : Hid ((w2.alloc (.cells #[.int .i64 0, .int .u64 0, .string ⟨#[]⟩, .slice none 0 0] 25)).heap[w.heap.size]? = some (.cells #[.int .i64 0, .int .u64 0, .string ⟨#[]⟩, .slice none 0 0] 25 (0, 0))) := ((below_one _ _).block _ (lt_of_block HZ1.out)).trans HZ1.out
  clear HE1 HG1 HZ1
  go_wp2_with fail
  generalize w2.alloc (.cells #[.int .i64 0, .int .u64 0, .string ⟨#[]⟩, .slice none 0 0] 25) = W4 at *
  refine (rfailX_err p q 22 8 false W4 HE.out).mono ?_
  rintro e w5 ⟨rfl, hw5⟩
  subst hw5
  obtain ⟨hne, q9, hq9, sl9, i9, hb9⟩ := HE.out
  have HQ9 : (q9 : Int) ≤ 1000000000000000 := by omega
  have HE6 : Hid (RErrX (w5.setCell ⟨p, 2, none⟩ (.int .i64 ((q9 : Int) + 1))) p (q + 1) 8) := RErrX.bump hq9 hne hb9
  have HG6 : Hid (w.grownBy (w5.setCell ⟨p, 2, none⟩ (.int .i64 ((q9 : Int) + 1))) (some p)) := grown_transX HG.out (grown_setX _)
  have HZ6 : Hid ((w5.setCell ⟨p, 2, none⟩ (.int .i64 ((q9 : Int) + 1))).heap[w.heap.size]? = some (.cells #[.int .i64 0, .int .u64 0, .string ⟨#[]⟩, .slice none 0 0] 25 (0, 0))) := (Below.heap_setCell _ _ _ _ (by show w.heap.size ≠ p; omega)).trans HZ.out
  obtain ⟨x0, x1, x2, x3, f0, f1, f2, f3⟩ := rd4X_cells hb9
  clear hb9 hq9 HE HG HZ
  go_upto_region 5 with fail
  generalize w5.setCell ⟨p, 2, none⟩ (.int .i64 ((q9 : Int) + 1)) = W6 at *
  clear x0 x1 x2 x3 f0 f1 f2 f3
  obtain ⟨-, q8, hq8, sl8, i8, hb8⟩ := HE6.out
  obtain ⟨x0, x1, x2, x3, -⟩ := rd4X_cells hb8
  obtain ⟨z0, z1, z2, z3, zf0, zf1, zf2, zf3⟩ := box4 HZ6.out
  have hne6 : (8 != 0) = true := by first | decide | simpa using hne
  clear hb8 hne hq8
  go_wp2_with fail
  obtain ⟨T2, O2, S2⟩ := set4 HZ6.out (.int .i64 0) (.int .u64 0) (.string ⟨#[]⟩) (.slice none 0 0)
  have HE7 : Hid (RErrX _ p (q + 1) 8) := HE6.out.same (O2 p (by omega))
  have HG7 : Hid (w.grownBy _ (some p)) := grown_setsX HG6.out HZ6.out (by omega) (.int .i64 0) (.int .u64 0) (.string ⟨#[]⟩) (.slice none 0 0)
  generalize ((((W6.setCell ⟨w.heap.size, 0, none⟩ (.int .i64 0)).setCell ⟨w.heap.size, 1, none⟩ (.int .u64 0)).setCell ⟨w.heap.size, 2, none⟩ (.string ⟨#[]⟩)).setCell ⟨w.heap.size, 3, none⟩ (.slice none 0 0)) = W7 at *
  clear z0 z1 z2 z3
  obtain ⟨z0, z1, z2, z3, -⟩ := box4 T2
  refine bodyPost_ret (v := mkX 0 0 ⟨#[]⟩ none 0 0) (by simp [results, Try.results33, go_sem, z0, z1, z2, z3]) rfl ?_
  exact ⟨HG7.out, Or.inl ⟨8, q + 1, _, _, _, _, _, _, rfl, rfl, HE7.out⟩⟩


set_option maxRecDepth 100000 in
set_option maxHeartbeats 3200000 in
theorem rexprX_bad (n : Nat) (d : Int) (o : UInt8) (l : List UInt8) (q : Nat) (p : Nat) (a : Option Addr) (c : Nat) (bs : List UInt8) (w : World) (hd8 : d ≤ 8) (hr : RAtX w p a c bs (o :: l, q)) (ho : Oct w a c bs) (hb : q ≤ 1000000000000000) (h29 : 29 < o.toNat) :
    Calls Try.prog 33 #[.pointer (some ⟨p, 0, none⟩), .int .i64 d] w (RXPost (n + 1) (rdX (n + 1) (o :: l, q)) p a c bs w) := by
  have hp : p < w.heap.size := by obtain ⟨i, -, -, h⟩ := hr; exact lt_of_block h
  have hA := hr.same ((below_one w (.cells #[.int .i64 0, .int .u64 0, .string ⟨#[]⟩, .slice none 0 0] 25)).block p hp)
  have hA0 := hA
  obtain ⟨i0, hi0, hd0, hbA⟩ := hA
  have HF := rfailX_no p 10 _ hbA
  have ho1 := ho.below (below_one w (.cells #[.int .i64 0, .int .u64 0, .string ⟨#[]⟩, .slice none 0 0] 25))
  have hdd : decide ((8 : Int) < d) = false := by simp; omega
  have HT := roctetX_any p a c bs (o :: l) q _ hA0 ho1
  have HRD : Hid (rdX (n + 1) (o :: l, q) = .error 22) := by
    have h1 : opR ((o :: l, q).1, (o :: l, q).2 + 1) = .error 22 := by
      simp only [opR, octetX]
      rw [if_neg (by rw [within_iff]; omega)]
    show _ = _
    simp only [rdX]
    rw [h1]
  have HA0 : ∀ w, Calls Try.prog 48 #[.int .i64 (o.toNat : Int)] w fun e w' => e = .returned (.int .i64 (-2)) ∧ w' = w := by
    intro w
    have := rargs_any (o.toNat : Int) w
    unfold rargN at this
    rw [if_neg (by rw [within_iff]; omega)] at this
    exact this
  clear hr hA0 hbA hi0 hd0 ho ho1
  go_enter Try.func33, Try.ntmps33
  go_wp2_with fail
  refine HF.mono ?_
  rintro e w1 ⟨rfl, hw1⟩
  subst hw1
  go_wp2_with fail
  refine HT.mono ?_
  rintro e w2 ⟨hg2, ⟨h2, -⟩ | ⟨o2, r2, h2, rfl, he2⟩⟩
  · cases h2
  cases h2
  have HE1 : Hid (RAtX w2 p a c bs (l, q)) := he2
  have HG1 : Hid (w.grownBy w2 (some p)) := below_grownX (below_one _ _) hg2
  have HZ1 : Hid (w2.heap[w.heap.size]? = some (.cells #[.int .i64 0, .int .u64 0, .string ⟨#[]⟩, .slice none 0 0] 25 (0, 0))) := (hg2.block _ (by simp) (by simp; omega)).trans (heap_alloc_new _ _)
  clear hg2 he2 HF HT
  go_wp2_with fail
  refine (HA0 _).mono ?_
  rintro e w3 ⟨rfl, hw3⟩
  subst hw3
  have hp2 : p < w2.heap.size := Nat.lt_of_lt_of_le hp HG1.out.size
  have HE4 : Hid (RAtX (w2.alloc (.cells #[.int .i64 (o.toNat : Int), .int .u64 0, .string ⟨#[]⟩, .slice none 0 0] 25)) p a c bs (l, q)) := HE1.out.same ((below_one _ _).block p hp2)
  have HG4 : Hid (w.grownBy (w2.alloc (.cells #[.int .i64 (o.toNat : Int), .int .u64 0, .string ⟨#[]⟩, .slice none 0 0] 25)) (some p)) := grown_belowX HG1.out (below_one _ _)
  have HZ4 : Hid ((w2.alloc (.cells #[.int .i64 (o.toNat : Int), .int .u64 0, .string ⟨#[]⟩, .slice none 0 0] 25)).heap[w.heap.size]? = some (.cells #[.int .i64 0, .int .u64 0, .string ⟨#[]⟩, .slice none 0 0] 25 (0, 0))) := ((below_one _ _).block _ (lt_of_block HZ1.out)).trans HZ1.out
  clear HE1 HG1 HZ1
  go_wp2_with fail
  generalize w2.alloc (.cells #[.int .i64 (o.toNat : Int), .int .u64 0, .string ⟨#[]⟩, .slice none 0 0] 25) = W4 at *
  refine (rfailX_set p a c bs (l, q) 22 W4 HE4.out (by decide)).mono ?_
  rintro e w5 ⟨rfl, hg5, he5⟩
  have HE : Hid (RErrX w5 p q 22) := he5
  have HG : Hid (w.grownBy w5 (some p)) := grown_transX HG4.out hg5
  have HZ : Hid (w5.heap[w.heap.size]? = some (.cells #[.int .i64 0, .int .u64 0, .string ⟨#[]⟩, .slice none 0 0] 25 (0, 0))) := (hg5.block _ (lt_of_block HZ4.out) (by simp; omega)).trans HZ4.out
  clear hg5 he5 HE4 HG4 HZ4
  obtain ⟨hne, q9, hq9, sl9, i9, hb9⟩ := HE.out
  have HQ9 : (q9 : Int) ≤ 1000000000000000 := by omega
  have HE6 : Hid (RErrX (w5.setCell ⟨p, 2, none⟩ (.int .i64 ((q9 : Int) + 1))) p (q + 1) 22) := RErrX.bump hq9 hne hb9
  have HG6 : Hid (w.grownBy (w5.setCell ⟨p, 2, none⟩ (.int .i64 ((q9 : Int) + 1))) (some p)) := grown_transX HG.out (grown_setX _)
  have HZ6 : Hid ((w5.setCell ⟨p, 2, none⟩ (.int .i64 ((q9 : Int) + 1))).heap[w.heap.size]? = some (.cells #[.int .i64 0, .int .u64 0, .string ⟨#[]⟩, .slice none 0 0] 25 (0, 0))) := (Below.heap_setCell _ _ _ _ (by show w.heap.size ≠ p; omega)).trans HZ.out
  obtain ⟨x0, x1, x2, x3, f0, f1, f2, f3⟩ := rd4X_cells hb9
  clear hb9 hq9 HE HG HZ
  go_upto_region 5 with fail
  generalize w5.setCell ⟨p, 2, none⟩ (.int .i64 ((q9 : Int) + 1)) = W6 at *
  clear x0 x1 x2 x3 f0 f1 f2 f3
  obtain ⟨-, q8, hq8, sl8, i8, hb8⟩ := HE6.out
  obtain ⟨x0, x1, x2, x3, -⟩ := rd4X_cells hb8
  obtain ⟨z0, z1, z2, z3, zf0, zf1, zf2, zf3⟩ := box4 HZ6.out
  have hne6 : (22 != 0) = true := by first | decide | simpa using hne
  clear hb8 hne hq8
  go_wp2_with fail
  obtain ⟨T2, O2, S2⟩ := set4 HZ6.out (.int .i64 0) (.int .u64 0) (.string ⟨#[]⟩) (.slice none 0 0)
  have HE7 : Hid (RErrX _ p (q + 1) 22) := HE6.out.same (O2 p (by omega))
  have HG7 : Hid (w.grownBy _ (some p)) := grown_setsX HG6.out HZ6.out (by omega) (.int .i64 0) (.int .u64 0) (.string ⟨#[]⟩) (.slice none 0 0)
  generalize ((((W6.setCell ⟨w.heap.size, 0, none⟩ (.int .i64 0)).setCell ⟨w.heap.size, 1, none⟩ (.int .u64 0)).setCell ⟨w.heap.size, 2, none⟩ (.string ⟨#[]⟩)).setCell ⟨w.heap.size, 3, none⟩ (.slice none 0 0)) = W7 at *
  clear z0 z1 z2 z3
  obtain ⟨z0, z1, z2, z3, -⟩ := box4 T2
  refine bodyPost_ret (v := mkX 0 0 ⟨#[]⟩ none 0 0) (by simp [results, Try.results33, go_sem, z0, z1, z2, z3]) rfl ?_
  exact ⟨HG7.out, Or.inl ⟨22, q + 1, _, _, _, _, _, _, HRD.out, rfl, HE7.out⟩⟩

end Go.Proofs.Ytnliokikcpnllaa
