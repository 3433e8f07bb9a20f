/-
  ExprOwn: for every expression: its octets stay what they are whatever becomes of the expression that was handed in, and what was read of them stays whatever becomes of them. No condition.
-/
import Derived.Test.YtokakmcbpjbdpaaExLaw
namespace Go.Proofs.Ytokakmcbpjbdpaa.exprOwn
open Go.ChangeShapes Go.WideShapes Go.ChangeAt Go.RowKit
open Fl

theorem kept_below {F : Nat → Prop} {w w1 w2 : World} (h : Below w.heap.size w w1) (k : Kept F w1 w2) (hF : ∀ b, F b → w.heap.size ≤ b) : Below w.heap.size w w2 :=
  ⟨k.os.trans h.os, k.tape.trans h.tape, k.output.trans h.output, Nat.le_trans h.size k.size, fun j hj => (k.block j (by have := h.size; omega) (fun q => by have := hF j q; omega)).trans (h.block j hj)⟩

theorem sets4 {w : World} {g o : Nat} {cur : Array Value} {t : TypeId} (h : w.heap[g]? = some (.cells cur t (0, 0))) (v0 v1 v2 v3 : Value) :
    ∃ cur' : Array Value, ((((w.setCell ⟨g, o, none⟩ v0).setCell ⟨g, o + 1, none⟩ v1).setCell ⟨g, o + 2, none⟩ v2).setCell ⟨g, o + 3, none⟩ v3).heap[g]? = some (.cells cur' t (0, 0)) ∧ cur'.size = cur.size :=
  ⟨_, set_one_cell (set_one_cell (set_one_cell (set_one_cell h v0) v1) v2) v3, by simp⟩

set_option maxRecDepth 100000 in
set_option maxHeartbeats 6400000 in
theorem walk (n : Nat) (v : X n) (x : Value) (w : World) (hv : LayX w n x v) :
    Calls Try.prog 8 #[x] w fun e w' => e = .returned (.bool true) ∧ Below w.heap.size w w' := by
  cases n with
  | zero => exact v.elim
  | succ n =>
  obtain ⟨k, b, t, ia, il, ic, rfl⟩ := LayX.shape (n + 1) hv
  have HV : Hid (LayX w (n + 1) (mkX k b t ia il ic) v) := hv
  have HFT : Hid (fitX (n + 1) v) := LayX.fit (n + 1) hv
  clear hv
  go_enter Try.func8, Try.ntmps8
  go_wp2_with fail
  refine (aliveX_any _).mono ?_
  rintro e w1 ⟨rfl, hb1⟩
  have X1 : Hid (w1.heap[w.heap.size]? = some (.cells #[.int .i64 k, .int .u64 b, .string t, .slice ia il ic] 25 (0, 0))) := (hb1.block _ (by simp)).trans (heap_alloc_new _ _)
  have B1 : Hid (Below w.heap.size w w1) := nxt (below_one _ _) hb1
  clear hb1
  obtain ⟨p0, p1, p2, p3, -⟩ := box4 X1.out
  go_wp2_with fail
  refine (ofX_any (n + 1) v _ w1 (LayX.below _ HV.out B1.out)).mono ?_
  rintro e w2 ⟨y, F, rfl, ho, hFr, hb2⟩
  have B2 : Hid (Below w.heap.size w w2) := nxt B1.out hb2
  have X2 : Hid (w2.heap[w.heap.size]? = some (.cells #[.int .i64 k, .int .u64 b, .string t, .slice ia il ic] 25 (0, 0))) := (hb2.block _ (lt_of_block X1.out)).trans X1.out
  have L2 : Hid (LayX w2 (n + 1) y v) := OwnX.lay _ ho
  have hx1 : w.heap.size < w1.heap.size := lt_of_block X1.out
  have hvv : ∃ k' b' t' its, v = (k', b', t', its) := ⟨v.1, v.2.1, v.2.2.1, v.2.2.2, rfl⟩
  obtain ⟨k', b', t', its, hve⟩ := hvv
  have ho' := ho
  rw [hve] at ho'
  obtain ⟨ja, jc, xs, G, rfl, hfit, hrow, fI, -, -, -⟩ := ho'
  have hil := hfit.2.2.2.2.2
  have hil2 := hfit.2.2.2.1
  have hil3 := hfit.2.2.2.2.1
  have HROW : Hid (w2.ownsRow 0 29 4 (.slice ja its.length jc) its.length xs) := hrow
  have HFR : Hid (∀ g, (Value.slice ja its.length jc).ownBlock = some g → w1.heap.size ≤ g ∧ g < w2.heap.size) := fun g hg => hFr g (fI g hg)
  clear ho hb2 p0 p1 p2 p3 hfit hrow fI hFr hve X1
  have P3 : Hid ((w2.alloc (.cells #[.int .i64 k', .int .u64 b', .string t', .slice ja its.length jc] 29)).heap[w2.heap.size]? = some (.cells #[.int .i64 k', .int .u64 b', .string t', .slice ja its.length jc] 29 (0, 0))) := heap_alloc_new _ _
  have S3 : Hid ((w2.alloc (.cells #[.int .i64 k', .int .u64 b', .string t', .slice ja its.length jc] 29)).heap.size = w2.heap.size + 1) := by show _ = _; simp
  have HENC : Hid (Calls Try.prog 13 #[mkX k' b' t' ja its.length jc] (w2.alloc (.cells #[.int .i64 k', .int .u64 b', .string t', .slice ja its.length jc] 29)) fun e w' => ∃ a c l er, e = .returned (.tuple #[.slice a l.length c, .int .i64 er]) ∧ Bs w' (w2.heap.size + 1) (.slice a l.length c) l ∧ Below (w2.heap.size + 1) (w2.alloc (.cells #[.int .i64 k', .int .u64 b', .string t', .slice ja its.length jc] 29)) w' ∧ l.length ≤ 12800 ∧ ((er = 0 ∧ l = encX (n + 1) v ∧ ∃ s, pre stM (n + 1) v 1 (0, 0) = .ok s) ∨ (er ≠ 0 ∧ l = []))) := by
    cases hr : pre stM (n + 1) v 1 (0, 0) with
    | error er =>
      have he := preM_err (n + 1) v 1 (0, 0) er hr
      refine (enc_err (LayX.below _ L2.out (below_one _ _)) hr).mono ?_
      rintro e w' ⟨rfl, hb⟩
      rw [S3.out] at hb
      exact ⟨none, 0, [], er, rfl, Bs.nil _ _, hb, by simp, Or.inr ⟨by omega, rfl⟩⟩
    | ok s =>
      refine (enc_ok (LayX.below _ L2.out (below_one _ _)) hr).mono ?_
      rintro e w' ⟨a, c, rfl, hs, hb⟩
      rw [S3.out] at hb hs
      exact ⟨a, c, _, 0, rfl, hs, hb, (encX_len hr).1, Or.inl ⟨rfl, rfl, s, rfl⟩⟩
  go_wp2_with fail
  refine HENC.out.mono ?_
  rintro e w4 ⟨a4, c4, l, er, rfl, hs4, hb4, hl4, hcase⟩
  have S4 : Hid (Bs w4 (w2.heap.size + 1) (.slice a4 l.length c4) l) := hs4
  have P4 : Hid (w4.heap[w2.heap.size]? = some (.cells #[.int .i64 k', .int .u64 b', .string t', .slice ja its.length jc] 29 (0, 0))) := (hb4.block _ (by omega)).trans P3.out
  have O4 : Hid (∀ j, j < w2.heap.size → w4.heap[j]? = w2.heap[j]?) := fun j hj => (hb4.block j (by omega)).trans ((below_one _ _).block j hj)
  have Z4 : Hid (w2.heap.size + 1 ≤ w4.heap.size) := by have := hb4.size; rw [S3.out] at this; exact this
  have X4 : Hid (w4.heap[w.heap.size]? = some (.cells #[.int .i64 k, .int .u64 b, .string t, .slice ia il ic] 25 (0, 0))) := (O4.out _ (lt_of_block X2.out)).trans X2.out
  have B4 : Hid (Below w.heap.size w w4) := by
    have q := nxt B2.out (below_one w2 (.cells #[.int .i64 k', .int .u64 b', .string t', .slice ja its.length jc] 29))
    exact q.trans (hb4.mono (by have := B2.out.size; omega))
  have HCASE : Hid ((er = 0 ∧ l = encX (n + 1) v ∧ ∃ s, pre stM (n + 1) v 1 (0, 0) = .ok s) ∨ (er ≠ 0 ∧ l = [])) := hcase
  have HLL : Hid (l.length ≤ 12800) := hl4
  clear hs4 hb4 hcase HENC P3 S3 X2
  have C4 : Hid (∀ g, ja = some ⟨g, 0, none⟩ → 0 < its.length → ∃ cur : Array Value, w4.heap[g]? = some (.cells cur 29 (0, 0)) ∧ its.length * 4 ≤ cur.size) := by
    intro g hg hpos
    rcases HROW.out.2 with ⟨h1, h2⟩ | ⟨g', cap, cur, h1, _, h3, h4, _, h6, _⟩
    · omega
    · simp only [Value.slice.injEq] at h1
      rw [hg] at h1
      simp only [Option.some.injEq, Addr.mk.injEq, and_true] at h1
      rw [← h1.1] at h3
      exact ⟨cur, (O4.out _ (lt_of_block h3)).trans h3, by omega⟩
  go_wp2_with fail
  go_loopw [6] (fun i wr => ∃ m : Nat, m ≤ its.length ∧ i = .int .i64 m ∧ Hid (Kept (fun g => (Value.slice ja its.length jc).ownBlock = some g) w4 wr) ∧
      Hid (∀ g, ja = some ⟨g, 0, none⟩ → 0 < its.length → ∃ cur : Array Value, wr.heap[g]? = some (.cells cur 29 (0, 0)) ∧ its.length * 4 ≤ cur.size)) (fun i _ => its.length - (intOf i).toNat)
  case atStart => exact ⟨0, Nat.zero_le _, rfl, Kept.refl _ _, C4.out⟩
  case round =>
    obtain ⟨m, hm, rfl, HK, HC⟩ := hrel
    have hbx : wr.heap[w2.heap.size]? = some (.cells #[.int .i64 k', .int .u64 b', .string t', .slice ja its.length jc] 29 (0, 0)) := by
      rw [HK.out.block _ (lt_of_block P4.out) (fun e => by have := (HFR.out _ e).2; omega)]
      exact P4.out
    obtain ⟨x0, x1, x2, x3, -⟩ := box4 hbx
    clear hbx
    by_cases hlt : m < its.length
    · have hm1 : (m : Int) < (its.length : Int) := by omega
      obtain ⟨g, rfl⟩ : ∃ g, ja = some ⟨g, 0, none⟩ := by
        rcases HROW.out.2 with ⟨h1, h2⟩ | ⟨g', cap, cur, h1, _⟩
        · omega
        · simp only [Value.slice.injEq] at h1; exact ⟨g', h1.1⟩
      obtain ⟨cur, hcur, hcs⟩ := HC.out g rfl (by omega)
      have hc : ∀ d, d < 4 → ∃ c, wr.cell? ⟨g, m * 4 + d, none⟩ = some c := fun d hd => ⟨cur[m * 4 + d]'(by omega), by rw [(cell_of hcur _).1]; simp⟩
      obtain ⟨d0, hd0⟩ := hc 0 (by omega)
      obtain ⟨d1, hd1⟩ := hc 1 (by omega)
      obtain ⟨d2, hd2⟩ := hc 2 (by omega)
      obtain ⟨d3, hd3⟩ := hc 3 (by omega)
      rw [Nat.add_zero] at hd0
      have hf0 := (cell_of hcur (m * 4)).2
      have hf1 := (cell_of hcur (m * 4 + 1)).2
      have hf2 := (cell_of hcur (m * 4 + 2)).2
      have hf3 := (cell_of hcur (m * 4 + 3)).2
      obtain ⟨cur', hcur', hcs'⟩ := sets4 (o := m * 4) hcur (.int .i64 (-1)) (.int .u64 0) (.string ⟨#[]⟩) (.slice none 0 0)
      have R1 : Hid _ := (((HK.out.setCell (g := g) (o := m * 4) (.int .i64 (-1)) rfl).setCell (g := g) (o := m * 4 + 1) (.int .u64 0) rfl).setCell (g := g) (o := m * 4 + 2) (.string ⟨#[]⟩) rfl).setCell (g := g) (o := m * 4 + 3) (.slice none 0 0) rfl
      have R2 : Hid _ := hcur'
      clear hc hcur hcur'
      go_wp2_with fail
      go_roundw
      case rel => exact ⟨m + 1, by omega, by go_num, R1.out, (fun g' hg' _ => by cases hg'; exact ⟨_, R2.out, by omega⟩)⟩
      case measure => simp [intOf]; omega
    · clear HC C4 HROW
      have S5 : Hid (Bs wr (w2.heap.size + 1) (.slice a4 l.length c4) l) := ownsRow_same S4.out fun g hg => HK.out.block g (S4.out.base g hg).2 (fun e => by have := (HFR.out _ e).2; have := (S4.out.base g hg).1; omega)
      have X5 : Hid (wr.heap[w.heap.size]? = some (.cells #[.int .i64 k, .int .u64 b, .string t, .slice ia il ic] 25 (0, 0))) := (HK.out.block _ (lt_of_block X4.out) (fun e => by have := (HFR.out _ e).1; omega)).trans X4.out
      have B5 : Hid (Below w.heap.size w wr) := kept_below B4.out HK.out fun g hg => by have := (HFR.out _ hg).1; omega
      have Z5 : Hid (w2.heap.size + 1 ≤ wr.heap.size) := Nat.le_trans Z4.out HK.out.size
      clear HK S4 X4 B4 Z4 O4 P4
      have hO5 : OctX wr a4 c4 l := (S5.out.oct (by have := HLL.out; omega)).x
      rcases HCASE.out with ⟨he, hl, s, hs⟩ | ⟨he, hl⟩
      · subst he
        obtain ⟨p, hd1, hd2, -⟩ := dec_enc HFT.out hs
        rw [← hl] at hd1
        have HD : Hid (Calls Try.prog 15 #[.slice a4 l.length c4] wr _) := dec_ok hO5 hd1
        have HSM : Hid (sameX 8 (n + 1) p v) := hd2
        clear hd1 hd2 hl hs hO5 HCASE
        go_wp2_with fail
        refine HD.out.mono ?_
        rintro e w6 ⟨k6, b6, t6, ia6, il6, ic6, F6, rfl, hO6, hF6, hb6⟩
        have hbw7 : Below wr.heap.size wr (w6.alloc (.cells #[.int .i64 k6, .int .u64 b6, .string t6, .slice ia6 il6 ic6] 29)) := nxt hb6 (below_one _ _)
        have S7 : Hid (Bs (w6.alloc (.cells #[.int .i64 k6, .int .u64 b6, .string t6, .slice ia6 il6 ic6] 29)) (w2.heap.size + 1) (.slice a4 l.length c4) l) := S5.out.below hbw7
        have hxb : ∀ g, (Value.slice a4 l.length c4).ownBlock = some g → w2.heap.size + 1 ≤ g ∧ g < wr.heap.size := fun g hg => S5.out.base g hg
        have HXB : Hid (∀ g, (Value.slice a4 l.length c4).ownBlock = some g → w2.heap.size + 1 ≤ g ∧ g < wr.heap.size) := hxb
        have O7 : Hid (OwnX 29 (w6.alloc (.cells #[.int .i64 k6, .int .u64 b6, .string t6, .slice ia6 il6 ic6] 29)) 8 (mkX k6 b6 t6 ia6 il6 ic6) p F6) := hO6.same 8 fun g hg => (below_one _ _).block g (hF6 g hg).2
        have HF6 : Hid (∀ g, F6 g → wr.heap.size ≤ g ∧ g < w6.heap.size) := hF6
        have P7 : Hid ((w6.alloc (.cells #[.int .i64 k6, .int .u64 b6, .string t6, .slice ia6 il6 ic6] 29)).heap[w6.heap.size]? = some (.cells #[.int .i64 k6, .int .u64 b6, .string t6, .slice ia6 il6 ic6] 29 (0, 0))) := heap_alloc_new _ _
        have X7 : Hid ((w6.alloc (.cells #[.int .i64 k6, .int .u64 b6, .string t6, .slice ia6 il6 ic6] 29)).heap[w.heap.size]? = some (.cells #[.int .i64 k, .int .u64 b, .string t, .slice ia il ic] 25 (0, 0))) := (hbw7.block _ (lt_of_block X5.out)).trans X5.out
        have B7 : Hid (Below w.heap.size w (w6.alloc (.cells #[.int .i64 k6, .int .u64 b6, .string t6, .slice ia6 il6 ic6] 29))) := nxt B5.out hbw7
        have hz6 : wr.heap.size ≤ w6.heap.size := hb6.size
        have Z7 : Hid ((w6.alloc (.cells #[.int .i64 k6, .int .u64 b6, .string t6, .slice ia6 il6 ic6] 29)).heap.size = w6.heap.size + 1) := by show _ = _; simp
        have hz2 := B2.out.size
        clear hO6 hF6 hb6 hbw7 hxb HD S5 X5 B5
        go_wp2_with fail
        generalize w6.alloc (.cells #[.int .i64 k6, .int .u64 b6, .string t6, .slice ia6 il6 ic6] 29) = W7 at *
        refine (spoilB_any (w2.heap.size + 1) _ l W7 S7.out (by have := HLL.out; omega)).mono ?_
        rintro e w8 ⟨rfl, hK8⟩
        have P8 : Hid (w8.heap[w6.heap.size]? = some (.cells #[.int .i64 k6, .int .u64 b6, .string t6, .slice ia6 il6 ic6] 29 (0, 0))) := (hK8.block _ (lt_of_block P7.out) (fun e => by have := (HXB.out _ e).2; omega)).trans P7.out
        have X8 : Hid (w8.heap[w.heap.size]? = some (.cells #[.int .i64 k, .int .u64 b, .string t, .slice ia il ic] 25 (0, 0))) := (hK8.block _ (lt_of_block X7.out) (fun e => by have := (HXB.out _ e).1; omega)).trans X7.out
        have O8 : Hid (OwnX 29 w8 8 (mkX k6 b6 t6 ia6 il6 ic6) p F6) := O7.out.same 8 fun g hg => hK8.block g (by rw [Z7.out]; have := (HF6.out g hg).2; omega) (fun e => by have := (HXB.out _ e).2; have := (HF6.out g hg).1; omega)
        have B8 : Hid (Below w.heap.size w w8) := kept_below B7.out hK8 fun g hg => by have := (HXB.out _ hg).1; omega
        have HAL : Hid (Calls Try.prog 21 #[mkX k6 b6 t6 ia6 il6 ic6, mkX k b t ia il ic] w8 fun e w' => e = .returned (.int .i64 0) ∧ Below w8.heap.size w8 w') := by
          have q := alikeX_any 8 (n + 1) p v _ _ w8 (OwnX.lay _ O8.out) (LayX.below _ HV.out B8.out)
          rw [alkX_yes HSM.out] at q
          exact q
        obtain ⟨y0, y1, y2, y3, -⟩ := box4 P8.out
        obtain ⟨z0, z1, z2, z3, -⟩ := box4 X8.out
        clear hK8 S7 O7 P7 X7 B7
        go_wp2_with (first
          | (go_at_call 17; refine (num_any _ _).mono ?_; rintro e w9 ⟨rfl, hw9⟩; subst w9)
          | (go_at_call 21; refine HAL.out.mono ?_; rintro e w10 ⟨rfl, hb10⟩))
        go_ret
        exact ⟨rfl, nxt B8.out hb10⟩
      · subst hl
        have HD : Hid (Calls Try.prog 15 #[.slice a4 0 c4] wr _) := dec_err (er := 8) hO5 (by rfl)
        have he2 : (er != 0) = true := by simpa using he
        clear hO5 HCASE he
        go_wp2_with fail
        refine HD.out.mono ?_
        rintro e w6 ⟨rfl, hb6⟩
        have hbw7 : Below wr.heap.size wr (w6.alloc (.cells #[.int .i64 0, .int .u64 0, .string ⟨#[]⟩, .slice none 0 0] 29)) := nxt hb6 (below_one _ _)
        have S7 : Hid (Bs (w6.alloc (.cells #[.int .i64 0, .int .u64 0, .string ⟨#[]⟩, .slice none 0 0] 29)) (w2.heap.size + 1) (.slice a4 0 c4) []) := S5.out.below hbw7
        have HXB : Hid (∀ g, (Value.slice a4 0 c4).ownBlock = some g → w2.heap.size + 1 ≤ g ∧ g < wr.heap.size) := fun g hg => S5.out.base g hg
        have B7 : Hid (Below w.heap.size w (w6.alloc (.cells #[.int .i64 0, .int .u64 0, .string ⟨#[]⟩, .slice none 0 0] 29))) := nxt B5.out hbw7
        have hz2 := B2.out.size
        clear hb6 hbw7 HD S5 X5 B5
        go_wp2_with fail
        generalize w6.alloc (.cells #[.int .i64 0, .int .u64 0, .string ⟨#[]⟩, .slice none 0 0] 29) = W7 at *
        refine (spoilB_any (w2.heap.size + 1) _ [] W7 S7.out (by simp)).mono ?_
        rintro e w8 ⟨rfl, hK8⟩
        have B8 : Hid (Below w.heap.size w w8) := kept_below B7.out hK8 fun g hg => by have := (HXB.out _ hg).1; omega
        clear hK8 S7 B7
        go_wp2_with (go_at_call 17; refine (num_any _ _).mono ?_; rintro e w9 ⟨rfl, hw9⟩; subst w9)
        go_ret
        exact ⟨rfl, B8.out⟩

set_option maxRecDepth 100000 in
set_option maxHeartbeats 1600000 in
theorem lifted (os : Os) (started : os.Started) (H : Type) (enc : TypeId × Value → H) :
    ReturnsInHanded {} Try.checked os 8 .any (Rows.exprOwnSpec.pre6 enc Try.prog Try.f8 Rows.exprOwnRow.domain false) (Rows.exprOwnSpec.post enc Try.prog Try.f8 false true false false) := by
  refine returnsInHanded_of_change_sized (C := Try.checked) Try.own started (by kernel_rfl) Try.func8
    (ChangeSpec.witness6 (enc := enc) (C := Try.checked) false ⟨#[], #[.agg #[.int .i64 0, .int .u64 0, .string ⟨#[]⟩, .slice none 0 0]], []⟩ 8 (by kernel_rfl) (by kernel_rfl) (by kernel_rfl) (by kernel_rfl)) ?_
  intro W base args ds gs before hval0 hW _ hsz0 _
  have hsz : (DataW.weightsEach Try.prog (Try.f8.params.toList ++ Rows.exprOwnSpec.plain.varTypes Try.prog) (ds ++ gs)).all (· ≤ reachBytes) = true := hsz0
  have hval : ∀ (j : Nat) t v, Try.f8.params[j]? = some t → args[j]? = some v → Value.okWide Try.prog W .any base t v := hval0
  have hW' := hW
  obtain ⟨p, q, hA0, hV, rfl, hfz, hnd⟩ := hW
  have hA : DataW.TrodAll enc Try.prog W 0 (fun _ => true) true Try.f8.params.toList args.toList ds p := hA0
  rw [Try.params8] at hA hval hsz
  obtain ⟨v0, vs0, d0, ds0, p0, q0, hargs, rfl, rfl, h0, r0⟩ := trodAll_cons hA
  obtain ⟨rfl, rfl, rfl⟩ := trodAll_nil r0
  obtain rfl : args = #[v0] := by cases args; simp_all
  obtain ⟨rfl, rfl⟩ := trodVars_none hV
  clear hA0 hval0
  simp only [List.append_nil] at hW' hsz
  have hlt : ∀ x ∈ p0, x.block < W.heap.size := fun x hx => hW'.lt x (by simpa using hx)
  have hall : ∀ x ∈ DataW.weightsEach Try.prog [25] [d0], x ≤ reachBytes := fun x hx => of_decide_eq_true (List.all_eq_true.1 hsz x hx)
  have g0 : ∀ x ∈ d0.weights Try.prog 25, x ≤ reachBytes := fun x hx => hall x (DataW.weights_mem_each (j := 0) rfl rfl x hx)
  obtain ⟨u0, l0⟩ := ex_of_arg (k := SizeOf.sizeOf d0) (hval 0 _ v0 rfl rfl) h0 (by omega) g0
  refine (walk _ u0 v0 W l0).mono fun e W' ⟨he, bel⟩ => ?_
  subst he
  exact ⟨_, rfl, _, _, _, [], _, [], hW', trodAll_mk1 (shut_bool Try.underlying4 _), (trodAll_cons_mk (Below.trod Try.laidOut (by kernel_rfl) (of_decide_eq_true (by kernel_rfl)) h0 bel (fun x hx => hlt x (by simp [hx]))) trodAll_mk0), rfl, bel.frame _, fun h => by cases h⟩

theorem over : Rows.exprOwnRow.holds Try.pinned (OpenSpec.ofChange Rows.exprOwnSpec) :=
  OpenClaim.holds_of_wide 8 Try.f8 rfl rfl rfl rfl rfl rfl rfl ⟨rfl, rfl, rfl, rfl, rfl⟩ rfl rfl rfl rfl rfl (by kernel_rfl) Try.func8 (by kernel_rfl)
    (of_decide_eq_true (by kernel_rfl)) (by unfold Func.isWrapper; first | (rw [if_pos (by decide +kernel)]; kernel_rfl) | (rw [if_neg (by decide +kernel)]; exact ⟨rfl, rfl⟩))
    (fun os started H enc _ => lifted os started H enc)

/-- THE STATEMENT. -/
theorem proved : Rows.ExprOwnSaid := over
#print axioms proved
end Go.Proofs.Ytokakmcbpjbdpaa.exprOwn
