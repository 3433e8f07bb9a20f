/-
  Records as mathematics; the program's take.
-/
import Derived.Test.YtocodkoanjcmkabSeBk
import Derived.Test.YtocodkoanjcmkabOcNum
namespace Go.Proofs.Ytocodkoanjcmkab
open Go.ChangeShapes Go.WideShapes Go.ChangeAt Go.RowKit Go.Deep
open Se

/-- What take answers: the number, the octets, how many octets the frame has, whether there is one. -/
def tkR (l : List UInt8) : Int × List UInt8 × Nat × Bool :=
  if (getR l).1 ≠ 0 then (0, [], 0, false) else if (getR l).2.1 ≠ 2 then (0, [], 0, false) else if (getR l).2.2.1.length < 8 then (0, [], 0, false) else if 408 < (getR l).2.2.1.length then (0, [], 0, false)
  else if 9223372036854775807 < numO ((getR l).2.2.1.take 8) then (0, [], 0, false) else (numO ((getR l).2.2.1.take 8), (getR l).2.2.1.drop 8, (getR l).2.2.2, true)

/-- Octets that lie from B on, in a row of octets. -/
def LayU (W : World) (B : Nat) (a : Option Addr) (l : List UInt8) : Prop :=
  ∀ i o, l[i]? = some o → ∃ b off cs, a = some ⟨b, off, none⟩ ∧ B ≤ b ∧ W.heap[b]? = some (.cells cs 5 (0, 0)) ∧ cs[off + i]? = some (.int .u8 (o.toNat : Int))
theorem LayU.nil (W : World) (B : Nat) (a : Option Addr) : LayU W B a [] := fun i o h => by simp at h
theorem LayU.lay {W : World} {B : Nat} {a : Option Addr} {l : List UInt8} (h : LayU W B a l) : LayB W a l := fun i o hi => by
  obtain ⟨b, off, cs, h1, h2, h3, h4⟩ := h i o hi
  exact ⟨b, off, h1, by rw [(cell_of h3 (off + i)).1]; exact h4⟩
theorem LayU.kpb {W W' : World} {B : Nat} {a : Option Addr} {l : List UInt8} (h : LayU W B a l) (k : KpB W W') : LayU W' B a l := fun i o hi => by
  obtain ⟨b, off, cs, h1, h2, h3, h4⟩ := h i o hi
  exact ⟨b, off, cs, h1, h2, (k.2 _ _ _ h3).trans h3, h4⟩
theorem LayU.below {W W' : World} {B : Nat} {a : Option Addr} {l : List UInt8} (h : LayU W B a l) (hb : Below W.heap.size W W') : LayU W' B a l := h.kpb (KpB.below hb)
theorem LayU.base {W : World} {B B' : Nat} {a : Option Addr} {l : List UInt8} (h : LayU W B a l) (hB : B' ≤ B) : LayU W B' a l := fun i o hi => by
  obtain ⟨b, off, cs, h1, h2, h3⟩ := h i o hi
  exact ⟨b, off, cs, h1, by omega, h3⟩
theorem Bs.layu {W : World} {B : Nat} {a : Option Addr} {n c : Nat} {l : List UInt8} (h : Bs W B (.slice a n c) l) : LayU W B a l := by
  intro i o hi
  obtain ⟨h1, h2⟩ := h
  have hi2 := (List.getElem?_eq_some_iff.1 hi).1
  rcases h2 with ⟨h3, h4⟩ | ⟨g, cap, cur, h3, h4, h5, h6, h7, h8, h9⟩
  · omega
  · simp only [Value.slice.injEq] at h3
    obtain ⟨rfl, rfl, rfl⟩ := h3
    refine ⟨g, 0, cur, rfl, h4, h5, ?_⟩
    have e : (cur.toList.take (l.length * 1))[i]? = (cellsO l)[i]? := by rw [h9]
    rw [List.getElem?_take_of_lt (by omega), Array.getElem?_toList] at e
    rw [Nat.zero_add, e]
    simp [cellsO, hi]
theorem LayU.drop {W : World} {B b off : Nat} {l : List UInt8} (h : LayU W B (some ⟨b, off, none⟩) l) (k : Nat) : LayU W B (some ⟨b, off + k, none⟩) (l.drop k) := by
  intro i o hi
  rw [List.getElem?_drop] at hi
  obtain ⟨b', off', cs, h1, h2, h3, h4⟩ := h (k + i) o hi
  simp only [Option.some.injEq, Addr.mk.injEq, and_true] at h1
  obtain ⟨rfl, rfl⟩ := h1
  exact ⟨b, off + k, cs, rfl, h2, h3, by rw [Nat.add_assoc]; exact h4⟩

/-- A box of two cells that are written, another box laid behind. -/
theorem box2 {w1 : World} {g : Nat} {t : TypeId} {p q : Value} (h : w1.heap[g]? = some (.cells #[p, q] t (0, 0))) (x y : Value) (o : Obj) :
    (((w1.setCell ⟨g, 0, none⟩ x).setCell ⟨g, 1, none⟩ y).alloc o).cell? ⟨g, 0, none⟩ = some x ∧ (((w1.setCell ⟨g, 0, none⟩ x).setCell ⟨g, 1, none⟩ y).alloc o).cell? ⟨g, 1, none⟩ = some y := by
  have h1 := set_one_cell (o := 0) h x
  have h2 := set_one_cell (o := 1) h1 y
  have h3 := (heap_alloc_old' _ o g (lt_of_block h2)).trans h2
  refine ⟨(cell_of h3 0).1.trans (by simp), (cell_of h3 1).1.trans (by simp)⟩

/-- What take leaves. -/
def TkPost (w : World) (R : Int × List UInt8 × Nat × Bool) (e : Ending) (w' : World) : Prop :=
  ∃ a1 c1, e = .returned (.tuple #[.agg #[.int .i64 R.1, .slice a1 R.2.1.length c1], .int .i64 R.2.2.1, .bool R.2.2.2]) ∧ LayU w' w.heap.size a1 R.2.1 ∧ Below w.heap.size w w'

set_option maxRecDepth 100000 in
set_option maxHeartbeats 3200000 in
theorem take_any (a : Option Addr) (c : Nat) (l : List UInt8) (w : World) (ho : Oct w a c l) :
    Calls Try.prog 41 #[.slice a l.length c] w (TkPost w (tkR l)) := by
  have HG : Hid (Calls Try.prog 49 #[.slice a l.length c] (w.alloc (.cells #[.int .i64 0, .slice none 0 0] 66)) _) := get_any a c l (w.alloc (.cells #[.int .i64 0, .slice none 0 0] 66)) (ho.below (below_one _ _))
  have HK := getR_ok (l := l)
  have hll := ho.2.2.2.1
  clear ho
  unfold tkR
  generalize getR l = g at *
  obtain ⟨er, k, d, n⟩ := g
  simp only at HG HK ⊢
  generalize l.length = ll at *
  have X0 : Hid ((w.alloc (.cells #[.int .i64 0, .slice none 0 0] 66)).heap[w.heap.size]? = some (.cells #[.int .i64 0, .slice none 0 0] 66 (0, 0))) := heap_alloc_new _ _
  have B0 : Hid (Below w.heap.size w (w.alloc (.cells #[.int .i64 0, .slice none 0 0] 66))) := below_one _ _
  have hcases : (er ≠ 0 ∨ (er = 0 ∧ k ≠ 2) ∨ (er = 0 ∧ k = 2 ∧ d.length < 8) ∨ (er = 0 ∧ k = 2 ∧ 8 ≤ d.length ∧ 408 < d.length)) ∨ (er = 0 ∧ k = 2 ∧ 8 ≤ d.length ∧ d.length ≤ 408) := by omega
  rcases hcases with hbad | hgood
  · have hres : (if er ≠ 0 then (0, [], 0, false) else if k ≠ 2 then (0, [], 0, false) else if d.length < 8 then (0, [], 0, false) else if 408 < d.length then (0, [], 0, false)
        else if 9223372036854775807 < numO (d.take 8) then (0, [], 0, false) else (numO (d.take 8), d.drop 8, n, true) : Int × List UInt8 × Nat × Bool) = (0, [], 0, false) := by
      rcases hbad with h | ⟨h1, h⟩ | ⟨h1, h2, h⟩ | ⟨h1, h2, h3, h⟩
      · rw [if_pos h]
      · rw [if_neg (by omega), if_pos h]
      · rw [if_neg (by omega), if_neg (by omega), if_pos h]
      · rw [if_neg (by omega), if_neg (by omega), if_neg (by omega), if_pos h]
    rw [hres]
    clear hres HK
    have hb : ((er != 0) = true) ∨ ((er != 0) = false ∧ (k != 2) = true) ∨ ((er != 0) = false ∧ (k != 2) = false ∧ (d.length : Int) < 8) ∨ ((er != 0) = false ∧ (k != 2) = false ∧ ¬ (d.length : Int) < 8 ∧ (408 : Int) < d.length) := by
      rcases hbad with h | ⟨h1, h⟩ | ⟨h1, h2, h⟩ | ⟨h1, h2, h3, h⟩
      · exact Or.inl (by simpa using h)
      · exact Or.inr (Or.inl ⟨by simpa using h1, by simpa using h⟩)
      · exact Or.inr (Or.inr (Or.inl ⟨by simpa using h1, by simpa using h2, by omega⟩))
      · exact Or.inr (Or.inr (Or.inr ⟨by simpa using h1, by simpa using h2, by omega, by omega⟩))
    clear hbad
    rcases hb with h1 | ⟨h1, h2⟩ | ⟨h1, h2, h3⟩ | ⟨h1, h2, h3, h4⟩
    all_goals
      go_enter Try.func41, Try.ntmps41
      go_wp2_with (go_at_call 49; refine HG.out.mono ?_; rintro e w1 ⟨s1, rfl, hs1, hb1⟩; obtain ⟨a1, c1, rfl⟩ := hs1.shape; have HX1 : Hid (w1.heap[w.heap.size]? = some (.cells #[.int .i64 0, .slice none 0 0] 66 (0, 0))) := (hb1.block _ (lt_of_block X0.out)).trans X0.out; have HB1 : Hid (Below w.heap.size w w1) := nxt B0.out hb1; have hlt := lt_of_block HX1.out; obtain ⟨z0, f0⟩ := cell_of HX1.out 0; obtain ⟨z1, f1⟩ := cell_of HX1.out 1; simp at z0 z1; have z0' : ∀ o, (w1.alloc o).cell? ⟨w.heap.size, 0, none⟩ = some (.int .i64 0) := (fun o => keepc (below_one _ _) _ _ z0); have z1' : ∀ o, (w1.alloc o).cell? ⟨w.heap.size, 1, none⟩ = some (.slice none 0 0) := (fun o => keepc (below_one _ _) _ _ z1); clear hs1 hb1)
      refine bodyPost_ret (v := .tuple #[.agg #[.int .i64 0, .slice none 0 0], .int .i64 0, .bool false]) (by simp [results, Try.results41, go_sem, (box2 HX1.out _ _ _).1, (box2 HX1.out _ _ _).2]) rfl ⟨none, 0, rfl, LayU.nil _ _ _, ?_⟩
      exact nxt ((HB1.out.setCell (Nat.le_refl _) _).setCell (Nat.le_refl _) _) (below_one _ _)
  · obtain ⟨rfl, rfl, h8, h408⟩ := hgood
    rw [if_neg (by omega), if_neg (by omega), if_neg (by omega), if_neg (by omega)]
    have h8' : ¬ (d.length : Int) < 8 := by omega
    have h408' : ¬ (408 : Int) < d.length := by omega
    have HN : Hid (n ≤ ll) := (HK rfl).2.1
    clear HK
    have NB := numO_bound 8 (d.take 8) (by rw [List.length_take]; omega)
    have HR1 : Hid (9223372036854775807 < numO (d.take 8) → (if 9223372036854775807 < numO (d.take 8) then (0, [], 0, false) else (numO (d.take 8), d.drop 8, n, true) : Int × List UInt8 × Nat × Bool) = (0, [], 0, false)) := fun h => if_pos h
    have HR2 : Hid (numO (d.take 8) ≤ 9223372036854775807 → (if 9223372036854775807 < numO (d.take 8) then (0, [], 0, false) else (numO (d.take 8), d.drop 8, n, true) : Int × List UInt8 × Nat × Bool) = (numO (d.take 8), d.drop 8, n, true)) := fun h => if_neg (by omega)
    generalize (if 9223372036854775807 < numO (d.take 8) then (0, [], 0, false) else (numO (d.take 8), d.drop 8, n, true) : Int × List UInt8 × Nat × Bool) = R at *
    have e0 : ((0 : Int) != 0) = false := by decide
    have e2 : ((2 : Int) != 2) = false := by decide
    go_enter Try.func41, Try.ntmps41
    go_wp2_with (go_at_call 49; refine HG.out.mono ?_; rintro e w1 ⟨s1, rfl, hs1, hb1⟩; obtain ⟨a1, c1, rfl⟩ := hs1.shape; have HX1 : Hid (w1.heap[w.heap.size]? = some (.cells #[.int .i64 0, .slice none 0 0] 66 (0, 0))) := (hb1.block _ (lt_of_block X0.out)).trans X0.out; have HB1 : Hid (Below w.heap.size w w1) := nxt B0.out hb1; have hlt := lt_of_block HX1.out; have HO1 : Hid (Oct w1 a1 c1 d) := hs1.oct (by omega); have HU1 : Hid (LayU w1 w.heap.size a1 d) := hs1.layu.base (by simp); have hcd : d.length ≤ c1 ∧ c1 ≤ 9223372036854775807 := ⟨HO1.out.2.1, HO1.out.2.2.1⟩; obtain ⟨hcd1, hcd2⟩ := hcd; obtain ⟨z0, f0⟩ := cell_of HX1.out 0; obtain ⟨z1, f1⟩ := cell_of HX1.out 1; simp at z0 z1; obtain ⟨b1, o1, rfl, -⟩ := layB_get HO1.out.1 (show 0 < d.length by omega); clear hs1 hb1)
    have X2 : Hid ((w1.alloc (.cells #[.int .i64 2, .slice (some ⟨b1, o1, none⟩) d.length c1] 84)).heap[w.heap.size]? = some (.cells #[.int .i64 0, .slice none 0 0] 66 (0, 0))) := (heap_alloc_old' _ _ _ hlt).trans HX1.out
    have Y2 : Hid ((w1.alloc (.cells #[.int .i64 2, .slice (some ⟨b1, o1, none⟩) d.length c1] 84)).heap[w1.heap.size]? = some (.cells #[.int .i64 2, .slice (some ⟨b1, o1, none⟩) d.length c1] 84 (0, 0))) := heap_alloc_new _ _
    have B2 : Hid (Below w.heap.size w (w1.alloc (.cells #[.int .i64 2, .slice (some ⟨b1, o1, none⟩) d.length c1] 84))) := nxt HB1.out (below_one _ _)
    have U2 : Hid (LayU (w1.alloc (.cells #[.int .i64 2, .slice (some ⟨b1, o1, none⟩) d.length c1] 84)) w.heap.size (some ⟨b1, o1, none⟩) d) := HU1.out.below (below_one _ _)
    have hwne : w.heap.size ≠ w1.heap.size := by omega
    clear HX1 HB1 HO1 HU1 z0 z1 f0 f1 X0 B0 HG
    generalize w1.alloc (.cells #[.int .i64 2, .slice (some ⟨b1, o1, none⟩) d.length c1] 84) = W at *
    go_loopw [8, 41] (fun b i wr => ∃ m : Nat, m ≤ 8 ∧ i = .int .i64 m ∧ b = .int .u64 (numO (d.take m)) ∧ Hid (wr = W)) (fun _ i _ => 8 - (intOf i).toNat)
    case atStart => exact ⟨0, by omega, rfl, rfl, rfl⟩
    case round =>
      obtain ⟨m, hm, rfl, rfl, HW⟩ := hrel
      obtain rfl := HW.out
      by_cases hlt8 : m < 8
      · have hm1 : (m : Int) < 8 := by omega
        obtain ⟨o, hoo⟩ : ∃ o, d[m]? = some o := ⟨d[m]'(by omega), by simp⟩
        obtain ⟨_, _, e1, hc⟩ := U2.out.lay m o hoo
        cases e1
        have HS : Hid (bits .or .u64 (IntKind.u64.wrap (numO (d.take m) * 256)) (IntKind.u64.wrap (o.toNat : Int)) = numO (d.take (m + 1))) := by
          show _ = _
          obtain ⟨hml, heq⟩ := List.getElem?_eq_some_iff.1 hoo
          have hb := numO_bound m (d.take m) (by rw [List.length_take]; omega)
          have hp : (256 : Int) ^ m ≤ 256 ^ 7 := by
            have : (256 : Nat) ^ m ≤ 256 ^ 7 := Nat.pow_le_pow_right (by decide) (by omega)
            exact_mod_cast this
          rw [or_octet o hb.1 (by omega), List.take_succ_eq_append_getElem hml, heq, numO_snoc]
        clear hoo NB
        generalize numO (d.take m) = nb at *
        go_wp2_with fail
        refine ⟨⟨m + 1, by omega, by go_num, by rw [HS.out], trivial⟩, ?_⟩
        simp [intOf]
        omega
      · have hme : m = 8 := by omega
        subst hme
        obtain ⟨x0, f0⟩ := cell_of X2.out 0
        obtain ⟨x1, f1⟩ := cell_of X2.out 1
        obtain ⟨y1, -⟩ := cell_of Y2.out 1
        simp at x0 x1 y1
        have HUD : Hid (LayU wr w.heap.size (some ⟨b1, o1 + 8, none⟩) (d.drop 8)) := U2.out.drop 8
        have hdl : (d.drop 8).length = d.length - 8 := List.length_drop
        have HD : Hid ((d.drop 8).length = d.length - 8) := hdl
        clear hdl U2
        generalize d.drop 8 = dd at *
        generalize numO (d.take 8) = nb at *
        by_cases hbig : 9223372036854775807 < nb
        · have HR : Hid (R = (0, [], 0, false)) := HR1.out hbig
          clear HR1 HR2
          go_wp2_with fail
          refine bodyPost_ret (v := .tuple #[.agg #[.int .i64 0, .slice none 0 0], .int .i64 0, .bool false]) (by simp [results, Try.results41, go_sem, x0, x1]) rfl ?_
          rw [HR.out]
          exact ⟨none, 0, rfl, LayU.nil _ _ _, (B2.out.setCell (Nat.le_refl _) _).setCell (Nat.le_refl _) _⟩
        · have HR : Hid (R = (nb, dd, n, true)) := HR2.out (by omega)
          clear HR1 HR2
          have hw : IntKind.i64.wrap nb = nb := by rw [IntKind.wrap_i64]; omega
          by_cases hc8 : c1 = 8
          · have hd8 : d.length = 8 := by omega
            have HD0 : Hid (dd = []) := List.eq_nil_of_length_eq_zero (by have := HD.out; omega)
            have hs1 := set_one_cell (o := 0) X2.out (.int .i64 nb)
            have hs2 := set_one_cell (o := 1) hs1 (.slice (some ⟨b1, o1, none⟩) 0 0)
            have s0 := (cell_of hs2 0).1
            have s1 := (cell_of hs2 1).1
            simp at s0 s1
            subst hc8
            go_wp2_with fail
            refine bodyPost_ret (v := .tuple #[.agg #[.int .i64 nb, .slice (some ⟨b1, o1, none⟩) 0 0], .int .i64 n, .bool true]) (by simp [results, Try.results41, go_sem, s0, s1]) rfl ?_
            rw [HR.out, HD0.out]
            exact ⟨some ⟨b1, o1, none⟩, 0, rfl, LayU.nil _ _ _, (B2.out.setCell (Nat.le_refl _) _).setCell (Nat.le_refl _) _⟩
          · have hs1 := set_one_cell (o := 0) X2.out (.int .i64 nb)
            have hs2 := set_one_cell (o := 1) hs1 (.slice (some ⟨b1, o1 + 8, none⟩) (d.length - 8) (c1 - 8))
            have s0 := (cell_of hs2 0).1
            have s1 := (cell_of hs2 1).1
            simp at s0 s1
            go_wp2_with fail
            refine bodyPost_ret (v := .tuple #[.agg #[.int .i64 nb, .slice (some ⟨b1, o1 + 8, none⟩) (d.length - 8) (c1 - 8)], .int .i64 n, .bool true]) (by simp [results, Try.results41, go_sem, s0, s1]) rfl ?_
            rw [HR.out]
            refine ⟨some ⟨b1, o1 + 8, none⟩, c1 - 8, by rw [HD.out], ?_, (B2.out.setCell (Nat.le_refl _) _).setCell (Nat.le_refl _) _⟩
            exact HUD.out.kpb ((KpB.set X2.out (by decide) _).trans (KpB.set hs1 (by decide) _))
end Go.Proofs.Ytocodkoanjcmkab
