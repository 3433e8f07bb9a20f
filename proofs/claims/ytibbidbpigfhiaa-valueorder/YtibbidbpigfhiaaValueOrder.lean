/-
  ValueOrder holds for every three values: their order is one, and 0 just for one value. No condition.
-/
import Derived.Test.YtibbidbpigfhiaaVaComp
import Derived.Test.YtibbidbpigfhiaaVaGetOne
namespace Go.Proofs.Ytibbidbpigfhiaa.valueOrder
open Go.ChangeShapes Go.WideShapes Go.ChangeAt Go.RowKit
open Fl

theorem chk_le {n : Nat} (v : V n) : chk v ≤ 10 := by
  unfold chk
  cases hw : wk n v 1 (0, 0) with
  | error e =>
    simp only [msr]
    rcases wk_err n _ _ _ _ hw with e1 | e1 | e1 <;> omega
  | ok s => obtain ⟨c, d⟩ := s; simp [msr]

theorem lcmp_bd {α : Type} {f : α → α → Int} (hf : ∀ a b, -1 ≤ f a b ∧ f a b ≤ 1) : ∀ x y : List α, -1 ≤ lcmp f x y ∧ lcmp f x y ≤ 1
  | [], [] => by simp [lcmp]
  | [], _ :: _ => by simp [lcmp]
  | _ :: _, [] => by simp [lcmp]
  | a :: x, b :: y => by
    simp only [lcmp]
    split
    · exact lcmp_bd hf x y
    · exact hf a b

theorem icmp_bd (a b : Int) : -1 ≤ icmp a b ∧ icmp a b ≤ 1 := by unfold icmp; split <;> (try split) <;> omega
theorem scmp_bd (a b : ByteArray) : -1 ≤ scmp a b ∧ scmp a b ≤ 1 := by unfold scmp; split <;> (try split) <;> omega

theorem vcmp_bd (n : Nat) : ∀ u v : V n, -1 ≤ vcmp n u v ∧ vcmp n u v ≤ 1 := by
  induction n with
  | zero => intro u; exact u.elim
  | succ n ih =>
    rintro ⟨k, b, t, ks, its⟩ ⟨k', b', t', ks', its'⟩
    simp only [vcmp]
    have h1 := icmp_bd k k'
    have h2 := icmp_bd (rnk k b) (rnk k' b')
    have h3 := scmp_bd t t'
    have h4 := lcmp_bd scmp_bd ks ks'
    have h5 := lcmp_bd ih its its'
    unfold or5
    split <;> (try split) <;> (try split) <;> (try split) <;> assumption

theorem three_boxes (w : World) (o o' o'' : Obj) {w1 : World} (hb : Below (((w.alloc o).alloc o').alloc o'').heap.size (((w.alloc o).alloc o').alloc o'') w1) :
    w1.heap[w.heap.size]? = some o ∧ w1.heap[w.heap.size + 1]? = some o' ∧ w1.heap[w.heap.size + 1 + 1]? = some o'' := by
  refine ⟨?_, ?_, ?_⟩
  · rw [hb.block _ (by simp; omega), Below.heap_alloc _ _ _ (by simp; omega), Below.heap_alloc _ _ _ (by simp)]
    exact heap_alloc_new _ _
  · rw [hb.block _ (by simp), Below.heap_alloc _ _ _ (by simp)]
    exact heap_new2 _ _ _
  · rw [hb.block _ (by simp)]
    have e : ((w.alloc o).alloc o').heap.size = w.heap.size + 1 + 1 := by simp
    rw [← e]
    exact heap_alloc_new _ _

/-- Three boxes, and what stands in them. -/
def Boxes (w w' : World) (a b c : Obj) : Prop := w'.heap[w.heap.size]? = some a ∧ w'.heap[w.heap.size + 1]? = some b ∧ w'.heap[w.heap.size + 1 + 1]? = some c
theorem Boxes.below {w w' w'' : World} {a b c : Obj} (h : Boxes w w' a b c) (hb : Below w'.heap.size w' w'') : Boxes w w'' a b c :=
  ⟨(hb.block _ (lt_of_block h.1)).trans h.1, (hb.block _ (lt_of_block h.2.1)).trans h.2.1, (hb.block _ (lt_of_block h.2.2)).trans h.2.2⟩

set_option maxRecDepth 100000 in
set_option maxHeartbeats 6400000 in
theorem run (w : World) (k b : Int) (t : ByteArray) (ka : Option Addr) (kl kc : Nat) (ia : Option Addr) (il ic : Nat) (k' b' : Int) (t' : ByteArray) (ka' : Option Addr) (kl' kc' : Nat) (ia' : Option Addr) (il' ic' : Nat) (k2 b2 : Int) (t2 : ByteArray) (ka2 : Option Addr) (kl2 kc2 : Nat) (ia2 : Option Addr) (il2 ic2 : Nat) (X X2 Z Y e1 e2 e3 e4 cu cv cs : Int) (o : Bool)
    (k1 : Hid (∀ (w' : World), Below w.heap.size w w' → Calls Try.prog 17 #[mk k b t ka kl kc ia il ic, mk k' b' t' ka' kl' kc' ia' il' ic'] w' fun e w'' => e = .returned (.tuple #[.int .i64 X, .int .i64 e1]) ∧ Below w'.heap.size w' w'')) (k2x : Hid (∀ (w' : World), Below w.heap.size w w' → Calls Try.prog 17 #[mk k' b' t' ka' kl' kc' ia' il' ic', mk k b t ka kl kc ia il ic] w' fun e w'' => e = .returned (.tuple #[.int .i64 X2, .int .i64 e2]) ∧ Below w'.heap.size w' w'')) (k3x : Hid (∀ (w' : World), Below w.heap.size w w' → Calls Try.prog 17 #[mk k' b' t' ka' kl' kc' ia' il' ic', mk k2 b2 t2 ka2 kl2 kc2 ia2 il2 ic2] w' fun e w'' => e = .returned (.tuple #[.int .i64 Z, .int .i64 e3]) ∧ Below w'.heap.size w' w'')) (k4x : Hid (∀ (w' : World), Below w.heap.size w w' → Calls Try.prog 17 #[mk k b t ka kl kc ia il ic, mk k2 b2 t2 ka2 kl2 kc2 ia2 il2 ic2] w' fun e w'' => e = .returned (.tuple #[.int .i64 Y, .int .i64 e4]) ∧ Below w'.heap.size w' w'')) (c1 : Hid (∀ (w' : World), Below w.heap.size w w' → Calls Try.prog 14 #[mk k b t ka kl kc ia il ic] w' fun e w'' => e = .returned (.int .i64 cu) ∧ Below w'.heap.size w' w'')) (c2x : Hid (∀ (w' : World), Below w.heap.size w w' → Calls Try.prog 14 #[mk k' b' t' ka' kl' kc' ia' il' ic'] w' fun e w'' => e = .returned (.int .i64 cv) ∧ Below w'.heap.size w' w'')) (c3x : Hid (∀ (w' : World), Below w.heap.size w w' → Calls Try.prog 14 #[mk k2 b2 t2 ka2 kl2 kc2 ia2 il2 ic2] w' fun e w'' => e = .returned (.int .i64 cs) ∧ Below w'.heap.size w' w'')) (s1 : Hid (∀ (w' : World), Below w.heap.size w w' → Calls Try.prog 15 #[mk k b t ka kl kc ia il ic, mk k' b' t' ka' kl' kc' ia' il' ic'] w' fun e w'' => e = .returned (.bool o) ∧ Below w'.heap.size w' w''))
    (bad : Hid ((cu ≠ 0 ∨ cv ≠ 0 ∨ cs ≠ 0) → (0 ≤ e1 ∧ e1 ≤ 10 ∧ 0 ≤ e3 ∧ e3 ≤ 10 ∧ e1 + e3 ≠ 0)))
    (fine : Hid (cu = 0 → cv = 0 → cs = 0 → e1 = 0 ∧ e2 = 0 ∧ e3 = 0 ∧ e4 = 0 ∧ X2 = -X ∧ (-1 ≤ X ∧ X ≤ 1) ∧ o = decide (X = 0) ∧ ((X < 0 ∨ Z < 0) ∨ (0 ≤ Y ∧ (0 < X ∨ 0 < Z ∨ Y = 0))))) :
    Calls Try.prog 7 #[mk k b t ka kl kc ia il ic, mk k' b' t' ka' kl' kc' ia' il' ic', mk k2 b2 t2 ka2 kl2 kc2 ia2 il2 ic2] w fun e w' => e = .returned (.bool true) ∧ Below w.heap.size w w' := by
  go_enter Try.func7, Try.ntmps7
  go_wp2_with fail
  refine (alive_any _).mono ?_
  rintro e w1 ⟨rfl, hb⟩
  have bx : Boxes w w1 _ _ _ := three_boxes w _ _ _ hb
  have B1 := nxt (below_three _ _ _ _) hb
  clear hb
  obtain ⟨p0, p1, p2, p3, p4, -⟩ := box_cells bx.1
  obtain ⟨q0, q1, q2, q3, q4, -⟩ := box_cells bx.2.1
  obtain ⟨r0, r1, r2, r3, r4, -⟩ := box_cells bx.2.2
  have X1 : Hid (Boxes w w1 _ _ _) := bx
  clear bx
  go_wp2_with fail
  refine (k1.out _ B1).mono ?_
  rintro e w2 ⟨rfl, hb⟩
  have X2 : Hid (Boxes w w2 _ _ _) := X1.out.below hb
  have B2 := nxt B1 hb
  clear hb p0 p1 p2 p3 p4 q0 q1 q2 q3 q4 r0 r1 r2 r3 r4 X1 B1
  obtain ⟨p0, p1, p2, p3, p4, -⟩ := box_cells X2.out.1
  obtain ⟨q0, q1, q2, q3, q4, -⟩ := box_cells X2.out.2.1
  obtain ⟨r0, r1, r2, r3, r4, -⟩ := box_cells X2.out.2.2
  go_wp2_with fail
  refine (k2x.out _ B2).mono ?_
  rintro e w3 ⟨rfl, hb⟩
  have X3 : Hid (Boxes w w3 _ _ _) := X2.out.below hb
  have B3 := nxt B2 hb
  clear hb p0 p1 p2 p3 p4 q0 q1 q2 q3 q4 r0 r1 r2 r3 r4 X2 B2
  obtain ⟨p0, p1, p2, p3, p4, -⟩ := box_cells X3.out.1
  obtain ⟨q0, q1, q2, q3, q4, -⟩ := box_cells X3.out.2.1
  obtain ⟨r0, r1, r2, r3, r4, -⟩ := box_cells X3.out.2.2
  go_wp2_with fail
  refine (k3x.out _ B3).mono ?_
  rintro e w4 ⟨rfl, hb⟩
  have X4 : Hid (Boxes w w4 _ _ _) := X3.out.below hb
  have B4 := nxt B3 hb
  clear hb p0 p1 p2 p3 p4 q0 q1 q2 q3 q4 r0 r1 r2 r3 r4 X3 B3
  obtain ⟨p0, p1, p2, p3, p4, -⟩ := box_cells X4.out.1
  obtain ⟨q0, q1, q2, q3, q4, -⟩ := box_cells X4.out.2.1
  obtain ⟨r0, r1, r2, r3, r4, -⟩ := box_cells X4.out.2.2
  go_wp2_with fail
  refine (k4x.out _ B4).mono ?_
  rintro e w5 ⟨rfl, hb⟩
  have X5 : Hid (Boxes w w5 _ _ _) := X4.out.below hb
  have B5 := nxt B4 hb
  clear hb p0 p1 p2 p3 p4 q0 q1 q2 q3 q4 r0 r1 r2 r3 r4 X4 B4
  obtain ⟨p0, p1, p2, p3, p4, -⟩ := box_cells X5.out.1
  obtain ⟨q0, q1, q2, q3, q4, -⟩ := box_cells X5.out.2.1
  obtain ⟨r0, r1, r2, r3, r4, -⟩ := box_cells X5.out.2.2
  by_cases h0 : cu = 0
  · by_cases h1 : cv = 0
    · by_cases h2 : cs = 0
      · obtain ⟨rfl, rfl, rfl, rfl, rfl, bX, rfl, fin⟩ := fine.out h0 h1 h2
        subst h0 h1 h2
        obtain ⟨bX1, bX2⟩ := bX
        clear bad fine
        have FIN : Hid _ := fin
        clear fin
        go_wp2_with fail
        refine (c1.out _ B5).mono ?_
        rintro e w6 ⟨rfl, hb⟩
        have X6 : Hid (Boxes w w6 _ _ _) := X5.out.below hb
        have B6 := nxt B5 hb
        clear hb p0 p1 p2 p3 p4 q0 q1 q2 q3 q4 r0 r1 r2 r3 r4 X5 B5
        obtain ⟨p0, p1, p2, p3, p4, -⟩ := box_cells X6.out.1
        obtain ⟨q0, q1, q2, q3, q4, -⟩ := box_cells X6.out.2.1
        obtain ⟨r0, r1, r2, r3, r4, -⟩ := box_cells X6.out.2.2
        go_wp2_with fail
        refine (c2x.out _ B6).mono ?_
        rintro e w7 ⟨rfl, hb⟩
        have X7 : Hid (Boxes w w7 _ _ _) := X6.out.below hb
        have B7 := nxt B6 hb
        clear hb p0 p1 p2 p3 p4 q0 q1 q2 q3 q4 r0 r1 r2 r3 r4 X6 B6
        obtain ⟨p0, p1, p2, p3, p4, -⟩ := box_cells X7.out.1
        obtain ⟨q0, q1, q2, q3, q4, -⟩ := box_cells X7.out.2.1
        obtain ⟨r0, r1, r2, r3, r4, -⟩ := box_cells X7.out.2.2
        go_wp2_with fail
        refine (c3x.out _ B7).mono ?_
        rintro e w8 ⟨rfl, hb⟩
        have X8 : Hid (Boxes w w8 _ _ _) := X7.out.below hb
        have B8 := nxt B7 hb
        clear hb p0 p1 p2 p3 p4 q0 q1 q2 q3 q4 r0 r1 r2 r3 r4 X7 B7
        obtain ⟨p0, p1, p2, p3, p4, -⟩ := box_cells X8.out.1
        obtain ⟨q0, q1, q2, q3, q4, -⟩ := box_cells X8.out.2.1
        obtain ⟨r0, r1, r2, r3, r4, -⟩ := box_cells X8.out.2.2
        go_wp2_with (go_at_call 12; refine (num_any _ _).mono ?_; rintro e w' ⟨rfl, rfl⟩)
        refine (s1.out _ B8).mono ?_
        rintro e w9 ⟨rfl, hb⟩
        have B9 := nxt B8 hb
        clear hb B8 X8
        have fin := FIN.out
        clear FIN
        have hx : X = -1 ∨ X = 0 ∨ X = 1 := by omega
        rcases hx with rfl | rfl | rfl
        · go_wp2_with fail
          go_ret
          exact ⟨rfl, B9⟩
        · by_cases hz : Z < 0
          · go_wp2_with fail
            go_ret
            exact ⟨rfl, B9⟩
          · have hy : 0 ≤ Y := by omega
            by_cases hz0 : 0 < Z
            · clear fin
              go_wp2_with fail
              go_ret
              exact ⟨rfl, B9⟩
            · have hy1 : Y = 0 := by omega
              subst hy1
              clear fin
              go_wp2_with fail
              go_ret
              exact ⟨rfl, B9⟩
        · by_cases hz : Z < 0
          · go_wp2_with fail
            go_ret
            exact ⟨rfl, B9⟩
          · have hy : 0 ≤ Y := by omega
            clear fin
            go_wp2_with fail
            go_ret
            exact ⟨rfl, B9⟩
      · have h2' : (cs == 0) = false := by simpa using h2
        have H2 : Hid (¬ cs = 0) := h2
        clear h2
        subst h0 h1
        obtain ⟨y1, y2, y3, y4, y5⟩ := bad.out (by right; right; exact H2.out)
        have NZ : Hid ((e1 + e3 != 0) = true) := by simpa [Hid] using y5
        clear bad fine y5
        go_wp2_with fail
        refine (c1.out _ B5).mono ?_
        rintro e w6 ⟨rfl, hb⟩
        have X6 : Hid (Boxes w w6 _ _ _) := X5.out.below hb
        have B6 := nxt B5 hb
        clear hb p0 p1 p2 p3 p4 q0 q1 q2 q3 q4 r0 r1 r2 r3 r4 X5 B5
        obtain ⟨p0, p1, p2, p3, p4, -⟩ := box_cells X6.out.1
        obtain ⟨q0, q1, q2, q3, q4, -⟩ := box_cells X6.out.2.1
        obtain ⟨r0, r1, r2, r3, r4, -⟩ := box_cells X6.out.2.2
        go_wp2_with fail
        refine (c2x.out _ B6).mono ?_
        rintro e w7 ⟨rfl, hb⟩
        have X7 : Hid (Boxes w w7 _ _ _) := X6.out.below hb
        have B7 := nxt B6 hb
        clear hb p0 p1 p2 p3 p4 q0 q1 q2 q3 q4 r0 r1 r2 r3 r4 X6 B6
        obtain ⟨p0, p1, p2, p3, p4, -⟩ := box_cells X7.out.1
        obtain ⟨q0, q1, q2, q3, q4, -⟩ := box_cells X7.out.2.1
        obtain ⟨r0, r1, r2, r3, r4, -⟩ := box_cells X7.out.2.2
        go_wp2_with fail
        refine (c3x.out _ B7).mono ?_
        rintro e w8 ⟨rfl, hb⟩
        have X8 : Hid (Boxes w w8 _ _ _) := X7.out.below hb
        have B8 := nxt B7 hb
        clear hb p0 p1 p2 p3 p4 q0 q1 q2 q3 q4 r0 r1 r2 r3 r4 X7 B7
        obtain ⟨p0, p1, p2, p3, p4, -⟩ := box_cells X8.out.1
        obtain ⟨q0, q1, q2, q3, q4, -⟩ := box_cells X8.out.2.1
        obtain ⟨r0, r1, r2, r3, r4, -⟩ := box_cells X8.out.2.2
        go_wp2_with (go_at_call 12; refine (num_any _ _).mono ?_; rintro e w' ⟨rfl, rfl⟩)
        go_ret
        exact ⟨ret_bool NZ.out, B8⟩
    · have h1' : (cv == 0) = false := by simpa using h1
      have H1 : Hid (¬ cv = 0) := h1
      clear h1
      subst h0
      obtain ⟨y1, y2, y3, y4, y5⟩ := bad.out (by right; left; exact H1.out)
      have NZ : Hid ((e1 + e3 != 0) = true) := by simpa [Hid] using y5
      clear bad fine y5
      go_wp2_with fail
      refine (c1.out _ B5).mono ?_
      rintro e w6 ⟨rfl, hb⟩
      have X6 : Hid (Boxes w w6 _ _ _) := X5.out.below hb
      have B6 := nxt B5 hb
      clear hb p0 p1 p2 p3 p4 q0 q1 q2 q3 q4 r0 r1 r2 r3 r4 X5 B5
      obtain ⟨p0, p1, p2, p3, p4, -⟩ := box_cells X6.out.1
      obtain ⟨q0, q1, q2, q3, q4, -⟩ := box_cells X6.out.2.1
      obtain ⟨r0, r1, r2, r3, r4, -⟩ := box_cells X6.out.2.2
      go_wp2_with fail
      refine (c2x.out _ B6).mono ?_
      rintro e w7 ⟨rfl, hb⟩
      have X7 : Hid (Boxes w w7 _ _ _) := X6.out.below hb
      have B7 := nxt B6 hb
      clear hb p0 p1 p2 p3 p4 q0 q1 q2 q3 q4 r0 r1 r2 r3 r4 X6 B6
      obtain ⟨p0, p1, p2, p3, p4, -⟩ := box_cells X7.out.1
      obtain ⟨q0, q1, q2, q3, q4, -⟩ := box_cells X7.out.2.1
      obtain ⟨r0, r1, r2, r3, r4, -⟩ := box_cells X7.out.2.2
      go_wp2_with (go_at_call 12; refine (num_any _ _).mono ?_; rintro e w' ⟨rfl, rfl⟩)
      go_ret
      exact ⟨ret_bool NZ.out, B7⟩
  · have h0' : (cu == 0) = false := by simpa using h0
    have H0 : Hid (¬ cu = 0) := h0
    clear h0
    obtain ⟨y1, y2, y3, y4, y5⟩ := bad.out (by left; exact H0.out)
    have NZ : Hid ((e1 + e3 != 0) = true) := by simpa [Hid] using y5
    clear bad fine y5
    go_wp2_with fail
    refine (c1.out _ B5).mono ?_
    rintro e w6 ⟨rfl, hb⟩
    have X6 : Hid (Boxes w w6 _ _ _) := X5.out.below hb
    have B6 := nxt B5 hb
    clear hb p0 p1 p2 p3 p4 q0 q1 q2 q3 q4 r0 r1 r2 r3 r4 X5 B5
    obtain ⟨p0, p1, p2, p3, p4, -⟩ := box_cells X6.out.1
    obtain ⟨q0, q1, q2, q3, q4, -⟩ := box_cells X6.out.2.1
    obtain ⟨r0, r1, r2, r3, r4, -⟩ := box_cells X6.out.2.2
    go_wp2_with (go_at_call 12; refine (num_any _ _).mono ?_; rintro e w' ⟨rfl, rfl⟩)
    go_ret
    exact ⟨ret_bool NZ.out, B6⟩
theorem walk (n : Nat) (u : V n) (x : Value) (v : V n) (y : Value) (s : V n) (z : Value) (w : World) (hu : Lay w n x u) (hv : Lay w n y v) (hs : Lay w n z s) :
    Calls Try.prog 7 #[x, y, z] w fun e w' => e = .returned (.bool true) ∧ Below w.heap.size w w' := by
  obtain ⟨k, b, t, ka, kl, kc, ia, il, ic, rfl⟩ := Lay.shape n hu
  obtain ⟨k', b', t', ka', kl', kc', ia', il', ic', rfl⟩ := Lay.shape n hv
  obtain ⟨k2, b2, t2, ka2, kl2, kc2, ia2, il2, ic2, rfl⟩ := Lay.shape n hs
  have bu := chk_pos u
  have bv := chk_pos v
  have bs := chk_pos s
  have bu' := chk_le u
  have bv' := chk_le v
  have bs' := chk_le s
  refine run w _ _ _ _ _ _ _ _ _ _ _ _ _ _ _ _ _ _ _ _ _ _ _ _ _ _ _ (cmpv u v) (cmpv v u) (cmpv v s) (cmpv u s) (cerr u v) (cerr v u) (cerr v s) (cerr u s) (chk u) (chk v) (chk s) (one u v)
    (fun w' hb => compare_any n _ _ _ _ _ (Lay.below n hu hb) (Lay.below n hv hb)) (fun w' hb => compare_any n _ _ _ _ _ (Lay.below n hv hb) (Lay.below n hu hb))
    (fun w' hb => compare_any n _ _ _ _ _ (Lay.below n hv hb) (Lay.below n hs hb)) (fun w' hb => compare_any n _ _ _ _ _ (Lay.below n hu hb) (Lay.below n hs hb))
    (fun w' hb => rcheck_any n _ _ _ (Lay.below n hu hb)) (fun w' hb => rcheck_any n _ _ _ (Lay.below n hv hb)) (fun w' hb => rcheck_any n _ _ _ (Lay.below n hs hb))
    (fun w' hb => same_any n _ _ _ _ _ (Lay.below n hu hb) (Lay.below n hv hb)) ?_ ?_
  · intro h
    unfold cerr
    split <;> split <;> omega
  · intro h0 h1 h2
    have G := vcmp_good n
    have g1 := G.1 u v
    have g2 := vcmp_bd n u v
    have g5 := G.2.1 u v s
    have g6 := G.2.2 u v s
    have g7 : vcmp n v s = 0 → vcmp n u v = vcmp n u s := fun h => G.right s h
    have HZ : one u v = decide (vcmp n u v = 0) := by
      by_cases e : vcmp n u v = 0
      · rw [one_true (vcmp_zero n hu hv (ok_of_chk h0) (ok_of_chk h1) e), decide_eq_true e]
      · rw [one_false (fun h => e (by rw [h]; exact vcmp_self v)), decide_eq_false e]
    unfold cmpv cerr
    rw [h0, h1, h2]
    simp only [if_true]
    exact ⟨trivial, trivial, trivial, trivial, g1, g2, HZ, by omega⟩

set_option maxRecDepth 100000 in
set_option maxHeartbeats 1600000 in
theorem lifted (os : Os) (started : os.Started) (H : Type) (enc : TypeId × Value → H) :
    ReturnsInHanded {} Try.checked os 7 .any (Rows.valueOrderSpec.pre6 enc Try.prog Try.f7 Rows.valueOrderRow.domain false) (Rows.valueOrderSpec.post enc Try.prog Try.f7 false true false false) := by
  refine returnsInHanded_of_change_sized (C := Try.checked) Try.own started (by kernel_rfl) Try.func7
    (ChangeSpec.witness6 (enc := enc) (C := Try.checked) false ⟨#[], #[.agg #[.int .i64 0, .int .u64 0, .string ⟨#[]⟩, .slice none 0 0, .slice none 0 0], .agg #[.int .i64 0, .int .u64 0, .string ⟨#[]⟩, .slice none 0 0, .slice none 0 0], .agg #[.int .i64 0, .int .u64 0, .string ⟨#[]⟩, .slice none 0 0, .slice none 0 0]], []⟩ 8 (by kernel_rfl) (by kernel_rfl) (by kernel_rfl) (by kernel_rfl)) ?_
  intro W base args ds gs before hval0 hW _ hsz0 _
  have hsz : (DataW.weightsEach Try.prog (Try.f7.params.toList ++ Rows.valueOrderSpec.plain.varTypes Try.prog) (ds ++ gs)).all (· ≤ reachBytes) = true := hsz0
  have hval : ∀ (j : Nat) t v, Try.f7.params[j]? = some t → args[j]? = some v → Value.okWide Try.prog W .any base t v := hval0
  have hW' := hW
  obtain ⟨p, q, hA0, hV, rfl, hfz, hnd⟩ := hW
  have hA : DataW.TrodAll enc Try.prog W 0 (fun _ => true) true Try.f7.params.toList args.toList ds p := hA0
  rw [Try.params7] at hA hval hsz
  obtain ⟨v0, vs0, d0, ds0, p0, q0, hargs, rfl, rfl, h0, r0⟩ := trodAll_cons hA
  obtain ⟨v1, vs1, d1, ds1, p1, q1, rfl, rfl, rfl, h1, r1⟩ := trodAll_cons r0
  obtain ⟨v2, vs2, d2, ds2, p2, q2, rfl, rfl, rfl, h2, r2⟩ := trodAll_cons r1
  obtain ⟨rfl, rfl, rfl⟩ := trodAll_nil r2
  obtain rfl : args = #[v0, v1, v2] := by cases args; simp_all
  obtain ⟨rfl, rfl⟩ := trodVars_none hV
  clear hA0 hval0
  simp only [List.append_nil] at hW' hsz
  have hlt : ∀ x ∈ p0 ++ p1 ++ p2, x.block < W.heap.size := fun x hx => hW'.lt x (by simpa using hx)
  have hall : ∀ x ∈ DataW.weightsEach Try.prog [26, 26, 26] [d0, d1, d2], x ≤ reachBytes := fun x hx => of_decide_eq_true (List.all_eq_true.1 hsz x hx)
  have g0 : ∀ x ∈ d0.weights Try.prog 26, x ≤ reachBytes := fun x hx => hall x (DataW.weights_mem_each (j := 0) rfl rfl x hx)
  obtain ⟨u0, l0⟩ := lay_of_arg (k := SizeOf.sizeOf d0 + SizeOf.sizeOf d1 + SizeOf.sizeOf d2) (hval 0 _ v0 rfl rfl) h0 (by omega) g0
  have g1 : ∀ x ∈ d1.weights Try.prog 26, x ≤ reachBytes := fun x hx => hall x (DataW.weights_mem_each (j := 1) rfl rfl x hx)
  obtain ⟨u1, l1⟩ := lay_of_arg (k := SizeOf.sizeOf d0 + SizeOf.sizeOf d1 + SizeOf.sizeOf d2) (hval 1 _ v1 rfl rfl) h1 (by omega) g1
  have g2 : ∀ x ∈ d2.weights Try.prog 26, x ≤ reachBytes := fun x hx => hall x (DataW.weights_mem_each (j := 2) rfl rfl x hx)
  obtain ⟨u2, l2⟩ := lay_of_arg (k := SizeOf.sizeOf d0 + SizeOf.sizeOf d1 + SizeOf.sizeOf d2) (hval 2 _ v2 rfl rfl) h2 (by omega) g2
  refine (walk _ u0 v0 u1 v1 u2 v2 W l0 l1 l2).mono fun e W' ⟨he, bel⟩ => ?_
  subst he
  exact ⟨_, rfl, _, _, _, [], _, [], hW', trodAll_mk1 (shut_bool Try.underlying4 _), (trodAll_cons_mk (Below.trod Try.laidOut (by kernel_rfl) (of_decide_eq_true (by kernel_rfl)) h0 bel (fun x hx => hlt x (by simp [hx]))) (trodAll_cons_mk (Below.trod Try.laidOut (by kernel_rfl) (of_decide_eq_true (by kernel_rfl)) h1 bel (fun x hx => hlt x (by simp [hx]))) (trodAll_cons_mk (Below.trod Try.laidOut (by kernel_rfl) (of_decide_eq_true (by kernel_rfl)) h2 bel (fun x hx => hlt x (by simp [hx]))) trodAll_mk0))), rfl, bel.frame _, fun h => by cases h⟩

theorem over : Rows.valueOrderRow.holds Try.pinned (OpenSpec.ofChange Rows.valueOrderSpec) :=
  OpenClaim.holds_of_wide 7 Try.f7 rfl rfl rfl rfl rfl rfl rfl ⟨rfl, rfl, rfl, rfl, rfl⟩ rfl rfl rfl rfl rfl (by kernel_rfl) Try.func7 (by kernel_rfl)
    (of_decide_eq_true (by kernel_rfl)) (by unfold Func.isWrapper; first | (rw [if_pos (by decide +kernel)]; kernel_rfl) | (rw [if_neg (by decide +kernel)]; exact ⟨rfl, rfl⟩))
    (fun os started H enc _ => lifted os started H enc)

/-- THE STATEMENT. -/
theorem proved : Rows.ValueOrderSaid := over
#print axioms proved
end Go.Proofs.Ytibbidbpigfhiaa.valueOrder
