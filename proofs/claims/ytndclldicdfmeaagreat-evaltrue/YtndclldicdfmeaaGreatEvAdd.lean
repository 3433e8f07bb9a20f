/-
  What the sum of two numbers' parts is.
-/
import Derived.Test.YtndclldicdfmeaaGreatEvAll2
import Derived.Test.YtndclldicdfmeaaGreatFlAddMul
namespace Go.Proofs.YtndclldicdfmeaaGreat
open Go.ChangeShapes Go.WideShapes Go.ChangeAt Go.RowKit Go.Deep

theorem OwnL.two {w : World} {v : Value} {b0 b1 : Int} {H : Nat → Prop} (h : OwnL w 1 v [nV b0, nV b1] H) : ∃ g c a0 c0 d0 e0 a1 c1 d1 e1, v = .slice (some ⟨g, 0, none⟩) 2 c ∧
    w.cell? ⟨g, 0, none⟩ = some (.int .i64 2) ∧ w.cell? ⟨g, 1, none⟩ = some (.int .u64 b0) ∧ w.cell? ⟨g, 2, none⟩ = some (.string ⟨#[]⟩) ∧ w.cell? ⟨g, 3, none⟩ = some (.slice a0 0 c0) ∧ w.cell? ⟨g, 4, none⟩ = some (.slice d0 0 e0) ∧
    w.cell? ⟨g, 5, none⟩ = some (.int .i64 2) ∧ w.cell? ⟨g, 6, none⟩ = some (.int .u64 b1) ∧ w.cell? ⟨g, 7, none⟩ = some (.string ⟨#[]⟩) ∧ w.cell? ⟨g, 8, none⟩ = some (.slice a1 0 c1) ∧ w.cell? ⟨g, 9, none⟩ = some (.slice d1 0 e1) := by
  obtain ⟨a, c, rfl⟩ := h.shape
  obtain ⟨xs, G, h1, h2, _⟩ := h
  obtain ⟨p0, p1, p2, p3, p4, x0, x1, x2, x3, x4, o0⟩ := h2 0 (nV b0) (by simp) rfl
  obtain ⟨r0, r1, r2, r3, r4, y0, y1, y2, y3, y4, o1⟩ := h2 1 (nV b1) (by simp) rfl
  obtain ⟨a0, c0, d0, e0, _, _, s0, _⟩ := o0
  obtain ⟨a1, c1, d1, e1, _, _, s1, _⟩ := o1
  simp only [mk, Value.agg.injEq, Array.mk.injEq, List.cons.injEq] at s0 s1
  obtain ⟨rfl, rfl, rfl, rfl, rfl, -⟩ := s0
  obtain ⟨rfl, rfl, rfl, rfl, rfl, -⟩ := s1
  obtain ⟨g, hg, z0⟩ := cells_of_own h1 0 _ (by simpa using x0)
  subst hg
  have K : ∀ j u, xs[j]? = some u → w.cell? ⟨g, j, none⟩ = some u := fun j u hj => by
    obtain ⟨g', e, z⟩ := cells_of_own h1 j u hj
    cases e
    simpa using z
  exact ⟨g, c, a0, c0, d0, e0, a1, c1, d1, e1, rfl, K 0 _ x0, K 1 _ x1, K 2 _ x2, K 3 _ x3, K 4 _ x4, K 5 _ y0, K 6 _ y1, K 7 _ y2, K 8 _ y3, K 9 _ y4⟩

set_option maxRecDepth 100000 in
set_option maxHeartbeats 1600000 in
theorem apply_add (b : Int) (t : ByteArray) (ia : Option Addr) (il ic : Nat) (v : Value) (b0 b1 : Int) (H : Nat → Prop) (w : World) (hv : OwnL w 1 v [nV b0, nV b1] H) :
    Calls Tryz.prog 50 #[.agg #[.int .i64 11, .int .u64 b, .string t, .slice ia il ic], v] w fun e w' => e = .returned (mk 2 (Fl.fop .add b0 b1) ⟨#[]⟩ none 0 0 none 0 0) ∧ Below w.heap.size w w' := by
  obtain ⟨g, c, a0, c0, d0, e0, a1, c1, d1, e1, rfl, q0, q1, q2, q3, q4, q5, q6, q7, q8, q9⟩ := hv.two
  have HB2 : Hid (Below w.heap.size w ((w.alloc (.cells #[.int .i64 11, .int .u64 b, .string t, .slice ia il ic] 34)).alloc (.cells #[.int .i64 0, .int .u64 0, .string ⟨#[]⟩, .slice none 0 0, .slice none 0 0] 29))) := nxt (below_one _ _) (below_one _ _)
  have HR2 : Hid (((w.alloc (.cells #[.int .i64 11, .int .u64 b, .string t, .slice ia il ic] 34)).alloc (.cells #[.int .i64 0, .int .u64 0, .string ⟨#[]⟩, .slice none 0 0, .slice none 0 0] 29)).heap[w.heap.size + 1]? = some (.cells #[.int .i64 0, .int .u64 0, .string ⟨#[]⟩, .slice none 0 0, .slice none 0 0] 29 (0, 0))) := heap_new2 _ _ _
  have HC : Hid (Calls Tryz.prog 77 #[.slice (some ⟨g, 0, none⟩) 2 c] ((w.alloc (.cells #[.int .i64 11, .int .u64 b, .string t, .slice ia il ic] 34)).alloc (.cells #[.int .i64 0, .int .u64 0, .string ⟨#[]⟩, .slice none 0 0, .slice none 0 0] 29)) _) :=
    two_ok g c b0 _ a0 0 c0 d0 0 e0 b1 _ a1 0 c1 d1 0 e1 _ (keepc HB2.out _ _ q0) (keepc HB2.out _ _ q1) (keepc HB2.out _ _ q2) (keepc HB2.out _ _ q3) (keepc HB2.out _ _ q4) (keepc HB2.out _ _ q5) (keepc HB2.out _ _ q6) (keepc HB2.out _ _ q7) (keepc HB2.out _ _ q8) (keepc HB2.out _ _ q9)
  have HA : Hid (∀ w, Calls Tryz.prog 76 #[.int .u64 b0, .int .u64 b1] w fun e w' => e = .returned (.int .u64 (Fl.fop .add b0 b1)) ∧ Below w.heap.size w w') := Fq.add_any b0 b1
  clear hv q0 q1 q2 q3 q4 q5 q6 q7 q8 q9
  generalize Fl.fop .add b0 b1 = r at *
  go_enter Tryz.func50, Tryz.ntmps50
  go_wp2_with (first
    | (go_at_call 77; refine HC.out.mono ?_; rintro e w1 ⟨rfl, hb1⟩)
    | (go_at_call 76; refine (HA.out _).mono ?_; rintro e w2 ⟨rfl, hb2⟩)
    | (go_at_call 45; refine (numberOf_any _ _).mono ?_; rintro e w3 ⟨rfl, hb3⟩; have B3 := nxt hb1 (nxt hb2 hb3); have R3 := (B3.block _ (lt_of_block HR2.out)).trans HR2.out; obtain ⟨z0, z1, z2, z3, z4, f0, f1, f2, f3, f4⟩ := box_cells R3))
  refine bodyPost_ret (v := mk 2 r ⟨#[]⟩ none 0 0 none 0 0) (by simp [results, Tryz.results50, go_sem, z0, z1, z2, z3, z4]) rfl ⟨rfl, ?_⟩
  have B := nxt HB2.out B3
  exact ((((B.setCell (by simp) _).setCell (by simp) _).setCell (by simp) _).setCell (by simp) _).setCell (by simp) _

set_option maxRecDepth 100000 in
set_option maxHeartbeats 3200000 in
theorem reckon_add (M : Nat) (s : List Value) (f : Int) (b : Int) (t : ByteArray) (g c : Nat) (b0 b1 : Int) (t0 t1 : ByteArray) (a0 a1 : Option Addr) (l0 c0 l1 c1 : Nat) (w : World) (hm : Mc w M s f) (h1 : 3 ≤ f) (h2 : f ≤ 4096) (hb0 : 0 ≤ b0 ∧ b0 < 18446744073709551616) (hb1 : 0 ≤ b1 ∧ b1 < 18446744073709551616) (hne : g ≠ M)
    (q0 : w.cell? ⟨g, 0, none⟩ = some (.int .i64 3)) (q1 : w.cell? ⟨g, 1, none⟩ = some (.int .u64 b0)) (q2 : w.cell? ⟨g, 2, none⟩ = some (.string t0)) (q3 : w.cell? ⟨g, 3, none⟩ = some (.slice a0 l0 c0))
    (q4 : w.cell? ⟨g, 4, none⟩ = some (.int .i64 3)) (q5 : w.cell? ⟨g, 5, none⟩ = some (.int .u64 b1)) (q6 : w.cell? ⟨g, 6, none⟩ = some (.string t1)) (q7 : w.cell? ⟨g, 7, none⟩ = some (.slice a1 l1 c1)) :
    Calls Tryz.prog 35 #[.pointer (some ⟨M, 0, none⟩), .agg #[.int .i64 11, .int .u64 b, .string t, .slice (some ⟨g, 0, none⟩) 2 c]] w fun e w' =>
      e = .returned (mk 2 (Fl.fop .add b0 b1) ⟨#[]⟩ none 0 0 none 0 0) ∧ Mc w' M s (f - 3) ∧ w.grownBy w' (some M) := by
  have HB2 : Hid (Below w.heap.size w ((w.alloc (.cells #[.int .i64 11, .int .u64 b, .string t, .slice (some ⟨g, 0, none⟩) 2 c] 34)).alloc (.cells #[.int .i64 0, .int .u64 0, .string ⟨#[]⟩, .slice none 0 0, .slice none 0 0] 29))) := nxt (below_one _ _) (below_one _ _)
  have HP2 : Hid (((w.alloc (.cells #[.int .i64 11, .int .u64 b, .string t, .slice (some ⟨g, 0, none⟩) 2 c] 34)).alloc (.cells #[.int .i64 0, .int .u64 0, .string ⟨#[]⟩, .slice none 0 0, .slice none 0 0] 29)).heap[w.heap.size]? = some (.cells #[.int .i64 11, .int .u64 b, .string t, .slice (some ⟨g, 0, none⟩) 2 c] 34 (0, 0))) := (Below.heap_alloc _ _ _ (by simp)).trans (heap_alloc_new _ _)
  have HR2 : Hid (((w.alloc (.cells #[.int .i64 11, .int .u64 b, .string t, .slice (some ⟨g, 0, none⟩) 2 c] 34)).alloc (.cells #[.int .i64 0, .int .u64 0, .string ⟨#[]⟩, .slice none 0 0, .slice none 0 0] 29)).heap[w.heap.size + 1]? = some (.cells #[.int .i64 0, .int .u64 0, .string ⟨#[]⟩, .slice none 0 0, .slice none 0 0] 29 (0, 0))) := heap_new2 _ _ _
  have HS2 : Hid (((w.alloc (.cells #[.int .i64 11, .int .u64 b, .string t, .slice (some ⟨g, 0, none⟩) 2 c] 34)).alloc (.cells #[.int .i64 0, .int .u64 0, .string ⟨#[]⟩, .slice none 0 0, .slice none 0 0] 29)).heap.size = w.heap.size + 2) := by show _ = _; simp
  have HL : Hid (M < w.heap.size) := hm.lt
  have HC : Hid (Calls Tryz.prog 43 #[.pointer (some ⟨M, 0, none⟩)] ((w.alloc (.cells #[.int .i64 11, .int .u64 b, .string t, .slice (some ⟨g, 0, none⟩) 2 c] 34)).alloc (.cells #[.int .i64 0, .int .u64 0, .string ⟨#[]⟩, .slice none 0 0, .slice none 0 0] 29)) _) := burn_ok M s f _ (hm.below HB2.out) (by omega) h2
  have HALL : Hid (∀ w1, w.grownBy w1 (some M) → Mc w1 M s (f - 1) → Calls Tryz.prog 51 #[.pointer (some ⟨M, 0, none⟩), .slice (some ⟨g, 0, none⟩) 2 c] w1 fun e w' =>
      ∃ v H, e = .returned v ∧ OwnL w' 1 v [nV b0, nV b1] H ∧ Mc w' M s (f - 3) ∧ w1.grownBy w' (some M)) := fun w1 hg1 hm1 => by
    have e : f - 3 = f - 1 - 2 := by omega
    rw [e]
    exact all_two M s (f - 1) g c b0 b1 t0 t1 a0 a1 l0 c0 l1 c1 w1 hm1 (by omega) (by omega) hb0 hb1 hne (keep_cell hg1 q0 hne) (keep_cell hg1 q1 hne) (keep_cell hg1 q2 hne) (keep_cell hg1 q3 hne) (keep_cell hg1 q4 hne) (keep_cell hg1 q5 hne) (keep_cell hg1 q6 hne) (keep_cell hg1 q7 hne)
  clear hm h1 h2 hb0 hb1 hne q0 q1 q2 q3 q4 q5 q6 q7
  go_enter Tryz.func35, Tryz.ntmps35
  go_wp2_with (go_at_call 43; refine HC.out.mono ?_; rintro e w1 ⟨rfl, hm1, hg1⟩; have P1 := (hg1.block w.heap.size (by rw [HS2.out]; omega) (fun e => by have := HL.out; cases e; omega)).trans HP2.out; have R1 := (hg1.block (w.heap.size + 1) (by rw [HS2.out]; omega) (fun e => by have := HL.out; cases e; omega)).trans HR2.out; obtain ⟨x0, x1, x2, x3⟩ := Xp.box4 P1)
  have HM1 : Hid (Mc w1 M s (f - 1)) := hm1
  have HG1 : Hid (w.grownBy w1 (some M)) := grown_trans (grown_of_below HB2.out) hg1
  have HR1 : Hid (w1.heap[w.heap.size + 1]? = some (.cells #[.int .i64 0, .int .u64 0, .string ⟨#[]⟩, .slice none 0 0, .slice none 0 0] 29 (0, 0))) := R1
  have HNE : Hid (w.heap.size ≠ M ∧ w.heap.size + 1 ≠ M) := by have := HL.out; exact ⟨by omega, by omega⟩
  have HX0 : Hid (∀ w2, w1.grownBy w2 (some M) → w2.cell? ⟨w.heap.size, 0, none⟩ = some (.int .i64 11) ∧ w2.cell? ⟨w.heap.size, 1, none⟩ = some (.int .u64 b) ∧ w2.cell? ⟨w.heap.size, 2, none⟩ = some (.string t) ∧ w2.cell? ⟨w.heap.size, 3, none⟩ = some (.slice (some ⟨g, 0, none⟩) 2 c)) := fun w2 h2 => ⟨keep_cell h2 x0 HNE.out.1, keep_cell h2 x1 HNE.out.1, keep_cell h2 x2 HNE.out.1, keep_cell h2 x3.1 HNE.out.1⟩
  obtain ⟨x0', x1', x2', x3'⟩ := HX0.out w1.drew (grown_of_below (Below.refl _ _).drew)
  have HD : Hid (w.grownBy w1.drew (some M) ∧ Mc w1.drew M s (f - 1)) := ⟨grown_trans HG1.out (grown_of_below (Below.refl _ _).drew), hm1⟩
  have HE : Hid (w1.grownBy w1.drew (some M)) := grown_of_below (Below.refl _ _).drew
  clear hm1 hg1 P1 R1
  go_region_held3 (fun w' => w'.cell? ⟨w.heap.size, 0, none⟩ = some (.int .i64 11) ∧ w'.cell? ⟨w.heap.size, 1, none⟩ = some (.int .u64 b) ∧ w'.cell? ⟨w.heap.size, 2, none⟩ = some (.string t) ∧ w'.cell? ⟨w.heap.size, 3, none⟩ = some (.slice (some ⟨g, 0, none⟩) 2 c)) (go_keep) (first
    | (go_at_call 51; refine (HALL.out _ HD.out.1 HD.out.2).mono ?_; rintro e w2 ⟨v, H, rfl, hv, hm2, hg2⟩; have G2 := grown_trans HE.out hg2; obtain ⟨u0, u1, u2, u3⟩ := HX0.out _ G2)
    | (go_at_call 50; refine (apply_add b t _ _ _ _ b0 b1 H _ hv).mono ?_; rintro e w3 ⟨rfl, hb3⟩; have G3 := grown_below G2 hb3; have M3 := hm2.below hb3; obtain ⟨t0, t1, t2, t3⟩ := HX0.out _ G3; have R3 := (G3.block (w.heap.size + 1) (lt_of_block HR1.out) (fun e => HNE.out.2 (by cases e; rfl))).trans HR1.out; obtain ⟨z0, z1, z2, z3, z4, f0, f1, f2, f3, f4⟩ := box_cells R3))
  go_wp2_with fail
  refine bodyPost_ret (v := mk 2 (Fl.fop .add b0 b1) ⟨#[]⟩ none 0 0 none 0 0) (by simp [results, Tryz.results35, go_sem, z0, z1, z2, z3, z4]) rfl ⟨rfl, ?_, ?_⟩
  · have hne : M ≠ w.heap.size + 1 := HNE.out.2.symm
    exact ((((M3.other hne _).other hne _).other hne _).other hne _).other hne _
  · have G : w.grownBy w3 (some M) := grown_trans HG1.out G3
    exact grown_setE (grown_setE (grown_setE (grown_setE (grown_setE G (by omega) _) (by omega) _) (by omega) _) (by omega) _) (by omega) _
end Go.Proofs.YtndclldicdfmeaaGreat
