/-
  The program's Newest.
-/
import Derived.Test.YtocodkoanjcmkacSnDecode
namespace Go.Proofs.Ytocodkoanjcmkac
open Go.ChangeShapes Go.WideShapes Go.ChangeAt Go.RowKit Go.Deep
open Se

/-- What Newest leaves. -/
def NewPost (w : World) (R : Int × Nat × Sn) (x : Ending) (w' : World) : Prop :=
  ∃ a2 c2, x = .returned (.tuple #[.agg #[.int .i64 R.2.2.1, .int .i64 R.2.2.2.1, .slice a2 R.2.2.2.2.length c2], .int .i64 R.2.1, .int .i64 R.1]) ∧ Oct w' a2 c2 R.2.2.2.2 ∧ Below w.heap.size w w'

/-- Octets stay where a box of three is written. -/
theorem oct_box3 {W : World} {g : Nat} {p q r : Value} {T : TypeId} {a : Option Addr} {c : Nat} {d : List UInt8} (h : Oct W a c d) (hg : W.heap[g]? = some (.cells #[p, q, r] T (0, 0))) (hp : ∀ o : UInt8, Value.int .u8 (o.toNat : Int) ∉ [p, q, r]) (x y z : Value) :
    Oct (((W.setCell ⟨g, 0, none⟩ x).setCell ⟨g, 1, none⟩ y).setCell ⟨g, 2, none⟩ z) a c d := by
  refine ⟨fun i o hi => ?_, h.2⟩
  obtain ⟨b', off', e', hc⟩ := h.1 i o hi
  subst e'
  refine ⟨b', off', rfl, ?_⟩
  have hne : b' ≠ g := by
    intro e
    subst e
    have h := hc
    simp only [World.cell?, hg] at h
    simp at h
    exact hp o (List.mem_of_getElem? h)
  simp only [World.cell?] at hc ⊢
  rw [Below.heap_setCell _ _ _ _ (by show b' ≠ g; exact hne), Below.heap_setCell _ _ _ _ (by show b' ≠ g; exact hne), Below.heap_setCell _ _ _ _ (by show b' ≠ g; exact hne)]
  exact hc

set_option maxRecDepth 100000 in
set_option maxHeartbeats 3200000 in
theorem newest_any (a b : Option Addr) (c k : Nat) (l m : List UInt8) (w : World) (ho : Oct w a c l) (hm : Oct w b k m) :
    Calls Try.prog 14 #[.slice a l.length c, .slice b m.length k] w (NewPost w (newR (decR l) (decR m))) := by
  have HO : Hid (Oct w a c l) := ho
  have HM : Hid (Oct w b k m) := hm
  clear ho hm
  have HD1 : Hid (∀ W, Below w.heap.size w W → Calls Try.prog 12 #[.slice a l.length c] W (DecPost W (decR l))) := fun W hb => decode_any a c l W (HO.out.below hb)
  have HD2 : Hid (∀ W, Below w.heap.size w W → Calls Try.prog 12 #[.slice b m.length k] W (DecPost W (decR m))) := fun W hb => decode_any b k m W (HM.out.below hb)
  obtain ⟨R, hR⟩ : ∃ R, newR (decR l) (decR m) = R := ⟨_, rfl⟩
  rw [hR]
  generalize decR l = d1 at *
  generalize decR m = d2 at *
  obtain ⟨e1, p1, q1, o1⟩ := d1
  obtain ⟨e2, p2, q2, o2⟩ := d2
  unfold newR at hR
  simp only at hR
  go_enter Try.func14, Try.ntmps14
  go_wp2_with fail
  refine (HD1.out _ (below_one _ _)).mono ?_
  rintro x w1 ⟨a1, c1, rfl, ho1, -, hb1⟩
  simp only at ho1 ⊢
  have O2 : Hid (Oct (w1.alloc (.cells #[.int .i64 p1, .int .i64 q1, .slice a1 o1.length c1] 25)) a1 c1 o1) := ho1.below (below_one _ _)
  have X2 : Hid ((w1.alloc (.cells #[.int .i64 p1, .int .i64 q1, .slice a1 o1.length c1] 25)).heap[w.heap.size]? = some (.cells #[.int .i64 0, .int .i64 0, .slice none 0 0] 25 (0, 0))) := ((nxt hb1 (below_one _ _)).block _ (by simp)).trans (heap_alloc_new _ _)
  have Y2 : Hid ((w1.alloc (.cells #[.int .i64 p1, .int .i64 q1, .slice a1 o1.length c1] 25)).heap[w1.heap.size]? = some (.cells #[.int .i64 p1, .int .i64 q1, .slice a1 o1.length c1] 25 (0, 0))) := heap_alloc_new _ _
  have B2 : Hid (Below w.heap.size w (w1.alloc (.cells #[.int .i64 p1, .int .i64 q1, .slice a1 o1.length c1] 25))) := nxt (nxt (below_one _ _) hb1) (below_one _ _)
  have hsz : w.heap.size < w1.heap.size := Nat.lt_of_lt_of_le (by simp) hb1.size
  clear ho1 hb1 HD1
  go_upto_region 2 with fail
  generalize w1.alloc (.cells #[.int .i64 p1, .int .i64 q1, .slice a1 o1.length c1] 25) = w2 at *
  generalize w1.heap.size = g1 at *
  go_wp2_with fail
  refine (HD2.out _ B2.out).mono ?_
  rintro x w3 ⟨a2, c2, rfl, ho3, -, hb3⟩
  simp only at ho3 ⊢
  have O4 : Hid (Oct (w3.alloc (.cells #[.int .i64 p2, .int .i64 q2, .slice a2 o2.length c2] 25)) a1 c1 o1) := (O2.out.below hb3).below (below_one _ _)
  have P4 : Hid (Oct (w3.alloc (.cells #[.int .i64 p2, .int .i64 q2, .slice a2 o2.length c2] 25)) a2 c2 o2) := ho3.below (below_one _ _)
  have X4 : Hid ((w3.alloc (.cells #[.int .i64 p2, .int .i64 q2, .slice a2 o2.length c2] 25)).heap[w.heap.size]? = some (.cells #[.int .i64 0, .int .i64 0, .slice none 0 0] 25 (0, 0))) := ((nxt hb3 (below_one _ _)).block _ (lt_of_block X2.out)).trans X2.out
  have Y4 : Hid ((w3.alloc (.cells #[.int .i64 p2, .int .i64 q2, .slice a2 o2.length c2] 25)).heap[g1]? = some (.cells #[.int .i64 p1, .int .i64 q1, .slice a1 o1.length c1] 25 (0, 0))) := ((nxt hb3 (below_one _ _)).block _ (lt_of_block Y2.out)).trans Y2.out
  have Z4 : Hid ((w3.alloc (.cells #[.int .i64 p2, .int .i64 q2, .slice a2 o2.length c2] 25)).heap[w3.heap.size]? = some (.cells #[.int .i64 p2, .int .i64 q2, .slice a2 o2.length c2] 25 (0, 0))) := heap_alloc_new _ _
  have B4 : Hid (Below w.heap.size w (w3.alloc (.cells #[.int .i64 p2, .int .i64 q2, .slice a2 o2.length c2] 25))) := nxt (nxt B2.out hb3) (below_one _ _)
  clear ho3 hb3 HD2 O2 X2 Y2 B2
  go_upto_region 3 with fail
  generalize w3.alloc (.cells #[.int .i64 p2, .int .i64 q2, .slice a2 o2.length c2] 25) = w4 at *
  generalize w3.heap.size = g2 at *
  obtain ⟨y0, -⟩ := cell_of Y4.out 0
  obtain ⟨y1, -⟩ := cell_of Y4.out 1
  obtain ⟨y2, -⟩ := cell_of Y4.out 2
  obtain ⟨z0, -⟩ := cell_of Z4.out 0
  obtain ⟨z1, -⟩ := cell_of Z4.out 1
  obtain ⟨z2, -⟩ := cell_of Z4.out 2
  obtain ⟨x0, f0⟩ := cell_of X4.out 0
  obtain ⟨x1, f1⟩ := cell_of X4.out 1
  obtain ⟨x2, f2⟩ := cell_of X4.out 2
  simp at y0 y1 y2 z0 z1 z2 x0 x1 x2
  have hcs : ((e1 != 0) = true ∧ (e2 != 0) = true ∧ R = (71, 0, 0, 0, [])) ∨ ((e1 != 0) = true ∧ (e2 != 0) = false ∧ (e2 == 0) = true ∧ R = (0, 1, p2, q2, o2)) ∨ ((e1 != 0) = false ∧ (e2 == 0) = true ∧ p1 < p2 ∧ R = (0, 1, p2, q2, o2)) ∨ ((e1 != 0) = false ∧ (e2 == 0) = false ∧ R = (0, 0, p1, q1, o1)) ∨ ((e1 != 0) = false ∧ (e2 == 0) = true ∧ ¬ p1 < p2 ∧ R = (0, 0, p1, q1, o1)) := by
    by_cases k1 : e1 = 0
    · by_cases k2 : e2 = 0
      · by_cases k3 : p1 < p2
        · exact Or.inr (Or.inr (Or.inl ⟨by simpa using k1, by simpa using k2, k3, by rw [← hR, if_neg (by simp [k1]), if_pos (Or.inr ⟨k2, k3⟩)]⟩))
        · exact Or.inr (Or.inr (Or.inr (Or.inr ⟨by simpa using k1, by simpa using k2, k3, by rw [← hR, if_neg (by simp [k1]), if_neg (by rintro (h | h); exact h k1; exact k3 h.2)]⟩)))
      · exact Or.inr (Or.inr (Or.inr (Or.inl ⟨by simpa using k1, by simpa using k2, by rw [← hR, if_neg (by simp [k1]), if_neg (by rintro (h | h); exact h k1; exact k2 h.1)]⟩)))
    · by_cases k2 : e2 = 0
      · exact Or.inr (Or.inl ⟨by simpa using k1, by simpa using k2, by simpa using k2, by rw [← hR, if_neg (by simp [k2]), if_pos (Or.inl k1)]⟩)
      · exact Or.inl ⟨by simpa using k1, by simpa using k2, by rw [← hR, if_pos ⟨k1, k2⟩]⟩
  clear hR
  rcases hcs with ⟨k1, k2, hr⟩ | ⟨k1, k2, k3, hr⟩ | ⟨k1, k2, k3, hr⟩ | ⟨k1, k2, hr⟩ | ⟨k1, k2, k3, hr⟩
  · have HR : Hid (R = (71, 0, 0, 0, [])) := hr
    clear hr
    go_wp2_with fail
    have S3 := boxed3 X4.out (.int .i64 0) (.int .i64 0) (.slice none 0 0)
    have s0 := (cell_of S3 0).1
    have s1 := (cell_of S3 1).1
    have s2 := (cell_of S3 2).1
    simp at s0 s1 s2
    refine bodyPost_ret (v := .tuple #[.agg #[.int .i64 0, .int .i64 0, .slice none 0 0], .int .i64 0, .int .i64 71]) (by simp [results, Try.results14, go_sem, s0, s1, s2]) rfl ?_
    rw [HR.out]
    exact ⟨_, _, rfl, Oct.none _ _, Below.box3 B4.out (Nat.le_refl _) _ _ _⟩
  · have HR : Hid (R = (0, 1, p2, q2, o2)) := hr
    clear hr
    go_wp2_with fail
    have S3 := boxed3 X4.out (.int .i64 p2) (.int .i64 q2) (.slice a2 o2.length c2)
    have s0 := (cell_of S3 0).1
    have s1 := (cell_of S3 1).1
    have s2 := (cell_of S3 2).1
    simp at s0 s1 s2
    refine bodyPost_ret (v := .tuple #[.agg #[.int .i64 p2, .int .i64 q2, .slice a2 o2.length c2], .int .i64 1, .int .i64 0]) (by simp [results, Try.results14, go_sem, s0, s1, s2]) rfl ?_
    rw [HR.out]
    exact ⟨_, _, rfl, oct_box3 P4.out X4.out (fun o h => by simp at h) _ _ _, Below.box3 B4.out (Nat.le_refl _) _ _ _⟩
  · have HR : Hid (R = (0, 1, p2, q2, o2)) := hr
    clear hr
    go_wp2_with fail
    have S3 := boxed3 X4.out (.int .i64 p2) (.int .i64 q2) (.slice a2 o2.length c2)
    have s0 := (cell_of S3 0).1
    have s1 := (cell_of S3 1).1
    have s2 := (cell_of S3 2).1
    simp at s0 s1 s2
    refine bodyPost_ret (v := .tuple #[.agg #[.int .i64 p2, .int .i64 q2, .slice a2 o2.length c2], .int .i64 1, .int .i64 0]) (by simp [results, Try.results14, go_sem, s0, s1, s2]) rfl ?_
    rw [HR.out]
    exact ⟨_, _, rfl, oct_box3 P4.out X4.out (fun o h => by simp at h) _ _ _, Below.box3 B4.out (Nat.le_refl _) _ _ _⟩
  · have HR : Hid (R = (0, 0, p1, q1, o1)) := hr
    clear hr
    go_wp2_with fail
    have S3 := boxed3 X4.out (.int .i64 p1) (.int .i64 q1) (.slice a1 o1.length c1)
    have s0 := (cell_of S3 0).1
    have s1 := (cell_of S3 1).1
    have s2 := (cell_of S3 2).1
    simp at s0 s1 s2
    refine bodyPost_ret (v := .tuple #[.agg #[.int .i64 p1, .int .i64 q1, .slice a1 o1.length c1], .int .i64 0, .int .i64 0]) (by simp [results, Try.results14, go_sem, s0, s1, s2]) rfl ?_
    rw [HR.out]
    exact ⟨_, _, rfl, oct_box3 O4.out X4.out (fun o h => by simp at h) _ _ _, Below.box3 B4.out (Nat.le_refl _) _ _ _⟩
  · have HR : Hid (R = (0, 0, p1, q1, o1)) := hr
    clear hr
    go_wp2_with fail
    have S3 := boxed3 X4.out (.int .i64 p1) (.int .i64 q1) (.slice a1 o1.length c1)
    have s0 := (cell_of S3 0).1
    have s1 := (cell_of S3 1).1
    have s2 := (cell_of S3 2).1
    simp at s0 s1 s2
    refine bodyPost_ret (v := .tuple #[.agg #[.int .i64 p1, .int .i64 q1, .slice a1 o1.length c1], .int .i64 0, .int .i64 0]) (by simp [results, Try.results14, go_sem, s0, s1, s2]) rfl ?_
    rw [HR.out]
    exact ⟨_, _, rfl, oct_box3 O4.out X4.out (fun o h => by simp at h) _ _ _, Below.box3 B4.out (Nat.le_refl _) _ _ _⟩
end Go.Proofs.Ytocodkoanjcmkac
