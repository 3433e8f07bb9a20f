/-
  ValueOwn holds for every value, path and value to be set: what is answered stays as the page says when what was handed in is spoilt behind it. No condition.
-/
import Derived.Test.YtpgkhiengocemaaVaRSetP
import Derived.Test.YtpgkhiengocemaaVaPairO
import Derived.Test.YtpgkhiengocemaaVaRefGet
namespace Go.Proofs.Ytpgkhiengocemaa.valueOwn
open Go.ChangeShapes Go.WideShapes Go.ChangeAt Go.RowKit
open Fl

set_option maxRecDepth 100000 in
set_option maxHeartbeats 6400000 in
theorem walk (n : Nat) (v : V n) (xv : Value) (ps : List St) (xp : Value) (x : V n) (xx : Value) (w : World) (hv : Lay w n xv v) (hp : PathIs w xp ps) (hx : Lay w n xx x) :
    Calls Try.prog 3 #[xv, xp, xx] w fun e w' => e = .returned (.bool true) ∧ Below w.heap.size w w' := by
  obtain ⟨k, b, t, ka, kl, kc, ia, il, ic, rfl⟩ := Lay.shape n hv
  obtain ⟨k1, b1, t1, ka1, kl1, kc1, ia1, il1, ic1, rfl⟩ := Lay.shape n hx
  obtain ⟨pa, pc, rfl, hpn, hpc, hpm, hpl, hp⟩ := hp
  have HU : Hid (Lay w n (mk k b t ka kl kc ia il ic) v) := hv
  have HV : Hid (Lay w n (mk k1 b1 t1 ka1 kl1 kc1 ia1 il1 ic1) x) := hx
  have HP : Hid (LayP w pa ps ∧ (ps.length ≤ pc ∧ pc ≤ 9223372036854775807) ∧ ps.length * 32 ≤ 140737488351232) := ⟨hp, ⟨hpc, hpm⟩, hpl⟩
  clear hv hx hp hpn hpc hpm hpl
  go_enter Try.func3, Try.ntmps3
  go_wp2_with fail
  have T0 : Two w _ _ _ := Two.new w (.cells #[.int .i64 k, .int .u64 b, .string t, .slice ka kl kc, .slice ia il ic] 26) (.cells #[.int .i64 k1, .int .u64 b1, .string t1, .slice ka1 kl1 kc1, .slice ia1 il1 ic1] 26) (Below.refl _ _)
  have B0 := below_two w (.cells #[.int .i64 k, .int .u64 b, .string t, .slice ka kl kc, .slice ia il ic] 26) (.cells #[.int .i64 k1, .int .u64 b1, .string t1, .slice ka1 kl1 kc1, .slice ia1 il1 ic1] 26)
  generalize (w.alloc (.cells #[.int .i64 k, .int .u64 b, .string t, .slice ka kl kc, .slice ia il ic] 26)).alloc (.cells #[.int .i64 k1, .int .u64 b1, .string t1, .slice ka1 kl1 kc1, .slice ia1 il1 ic1] 26) = W2 at T0 B0 ⊢
  refine (alive_any W2).mono ?_
  rintro e w1 ⟨rfl, hb1⟩
  have HB0 : Hid (Below w.heap.size w w1) := nxt B0 hb1
  have HT0 : Hid (Two w w1 _ _) := T0.below hb1
  clear B0 T0 hb1
  go_upto_region 3 with fail
  go_wp2_with fail
  refine pair_regionO (d0 := 19) (d1 := 20) (d2 := 21) (d3 := 22) (p := 7) (q := 8) (s0 := 3) (s1 := 5) (pos := "law.go:95") (u := v) (v := x) (x := (mk k b t ka kl kc ia il ic)) (y := (mk k1 b1 t1 ka1 kl1 kc1 ia1 il1 ic1))
    (fun v0 v1 v2 v3 v5 v6 => { tmps := #[(mk k b t ka kl kc ia il ic), .slice pa ps.length pc, (mk k1 b1 t1 ka1 kl1 kc1 ia1 il1 ic1), .pointer (some ⟨w.heap.size, 0, none⟩), undef, .pointer (some ⟨w.heap.size + 1, 0, none⟩), .bool false, v5, v6, undef, undef, undef, undef, undef, undef, undef, undef, .bool true, .bool false, v0, v1, v2, v3, undef, undef, undef, undef, undef, undef, undef, undef, undef, undef, undef, undef, undef, undef, undef, undef, undef, undef, undef, undef, undef, undef, undef, undef, undef, undef, undef, undef, undef, undef, undef, undef, undef, undef, undef, undef, undef, undef, undef, undef, undef, undef, undef, undef, undef, undef, undef, undef, undef, undef], defers := [] })
    (by intros; rfl) (by intros; rfl) (by intros; rfl) (by intros; rfl) (by intros; rfl) (by intros; rfl) (by intros; rfl) (by intros; rfl) (by intros; rfl) (by intros; rfl) (by intros; rfl) (by intros; rfl) (by intros; rfl) (by intros; rfl)
    (Lay.below n HU.out HB0.out) (Lay.below n HV.out HB0.out) HT0.out.1 HT0.out.2 ?_
  intro y3 y4 g5 g6 F3 F4 w3 ho3 ho4 hg5 hg6 hF3 hF4 _ _ _ hb3
  obtain ⟨k3, b3, t3, ka3, kl3, kc3, ia3, il3, ic3, rfl⟩ := Lay.shape n (Own.lay n ho3)
  obtain ⟨k4, b4, t4, ka4, kl4, kc4, ia4, il4, ic4, rfl⟩ := Lay.shape n (Own.lay n ho4)
  have T1 : Hid (w3.heap[w.heap.size]? = some (.cells #[.int .i64 k, .int .u64 b, .string t, .slice ka kl kc, .slice ia il ic] 26 (0, 0))) := (HT0.out.below hb3).1
  have T2 : Hid (w3.heap[w.heap.size + 1]? = some (.cells #[.int .i64 k1, .int .u64 b1, .string t1, .slice ka1 kl1 kc1, .slice ia1 il1 ic1] 26 (0, 0))) := (HT0.out.below hb3).2
  have NW : Hid (w.heap.size < w1.heap.size ∧ w.heap.size + 1 < w1.heap.size) := ⟨lt_of_block HT0.out.1, lt_of_block HT0.out.2⟩
  have G5 : Hid (w3.heap[g5]? = some (.cells #[.int .i64 k3, .int .u64 b3, .string t3, .slice ka3 kl3 kc3, .slice ia3 il3 ic3] 26 (0, 0))) := hg5
  have G6 : Hid (w3.heap[g6]? = some (.cells #[.int .i64 k4, .int .u64 b4, .string t4, .slice ka4 kl4 kc4, .slice ia4 il4 ic4] 26 (0, 0))) := hg6
  have O3 : Hid (Own w3 n (mk k3 b3 t3 ka3 kl3 kc3 ia3 il3 ic3) v F3) := ho3
  have O4 : Hid (Own w3 n (mk k4 b4 t4 ka4 kl4 kc4 ia4 il4 ic4) x F4) := ho4
  have QO3 : Hid (∀ b, F3 b → w1.heap.size ≤ b ∧ b < w3.heap.size) := fun b h => ⟨(hF3 b h).1, (hF3 b h).2.2.2.2⟩
  have QO4 : Hid (∀ b, F4 b → w1.heap.size ≤ b ∧ b < w3.heap.size) := fun b h => ⟨(hF4 b h).1, (hF4 b h).2.2.2⟩
  have NF : Hid (∀ b, F3 b ∨ F4 b → w1.heap.size ≤ b ∧ b < w3.heap.size) := fun b h => h.elim (QO3.out b) (QO4.out b)
  have DF : Hid ((∀ b, F4 b → ¬ F3 b) ∧ ¬ F3 g6) := ⟨fun b h e => (hF3 b e).2.2.2.1 h, fun e => (hF3 _ e).2.2.1 rfl⟩
  have BW : Hid (Below w.heap.size w w3) := nxt HB0.out hb3
  have HS : Hid (w3.heap.size ≤ w3.heap.size) := Nat.le_refl _
  have HW1 : Hid (w.heap.size ≤ w1.heap.size) := HB0.out.size
  clear ho3 ho4 hg5 hg6 hb3 HT0 HB0 hF3 hF4
  have CG : Hid (∀ (W : World) (y : Value), Lay W n y v → LayP W pa ps → Calls Try.prog 6 #[y, .slice pa ps.length pc] W (RSetPost (getR v ps) W)) := fun W y h h2 => get_any n v y ps pa pc W h h2 HP.out.2.2
  have CH : Hid (∀ (W : World) (y : Value), Lay W n y v → LayP W pa ps → Calls Try.prog 9 #[y, .slice pa ps.length pc] W (RSetPost (getR v ps) W)) := fun W y h h2 => rget_any n v y ps pa pc W h h2 HP.out.2.2
  have CS : Hid (∀ (W : World) (y z : Value), Lay W n y v → Lay W n z x → LayP W pa ps → Calls Try.prog 7 #[y, .slice pa ps.length pc, z] W (RSetPost (setR ps (ups v ps.length) x) W)) := fun W y z h h1 h2 => set_any ps (ups v ps.length) x y z pa pc W (Lay.ups h _) h1 h2 HP.out.2.2
  have CT : Hid (∀ (W : World) (y z : Value), Lay W n y v → Lay W n z x → LayP W pa ps → Calls Try.prog 10 #[y, .slice pa ps.length pc, z] W (RSetPost (setR ps (ups v ps.length) x) W)) := fun W y z h h1 h2 => rsetp_any ps (ups v ps.length) x y z pa pc W (Lay.ups h _) h1 h2 HP.out.2.1
  generalize getR v ps = A at *
  generalize setR ps (ups v ps.length) x = R at *
  obtain ⟨ea, na, ta⟩ := A
  obtain ⟨er, nr, tr⟩ := R
  obtain ⟨x0, x1, x2, x3, x4, -⟩ := box_cells G5.out
  go_wp2_with fail
  refine (CG.out _ _ (Own.lay n O3.out) (HP.out.1.below BW.out)).mono ?_
  intro e c6 hR
  obtain ⟨y, E6, rfl, ho, hE, hb⟩ := hR
  obtain ⟨k6, b6, t6, ka6, kl6, kc6, ia6, il6, ic6, rfl⟩ := Lay.shape _ (Own.lay _ ho)
  simp only at ho
  clear x0 x1 x2 x3 x4
  have QO6 : Hid (∀ b, E6 b → w3.heap.size ≤ b ∧ b < c6.heap.size) := fun b h => ⟨Nat.le_trans HS.out (hE b h).1, (hE b h).2⟩
  replace T1 : Hid (c6.heap[w.heap.size]? = some (.cells #[.int .i64 k, .int .u64 b, .string t, .slice ka kl kc, .slice ia il ic] 26 (0, 0))) := (hb.block _ (lt_of_block T1.out)).trans T1.out
  replace T2 : Hid (c6.heap[w.heap.size + 1]? = some (.cells #[.int .i64 k1, .int .u64 b1, .string t1, .slice ka1 kl1 kc1, .slice ia1 il1 ic1] 26 (0, 0))) := (hb.block _ (lt_of_block T2.out)).trans T2.out
  replace G5 : Hid (c6.heap[g5]? = some (.cells #[.int .i64 k3, .int .u64 b3, .string t3, .slice ka3 kl3 kc3, .slice ia3 il3 ic3] 26 (0, 0))) := (hb.block _ (lt_of_block G5.out)).trans G5.out
  replace G6 : Hid (c6.heap[g6]? = some (.cells #[.int .i64 k4, .int .u64 b4, .string t4, .slice ka4 kl4 kc4, .slice ia4 il4 ic4] 26 (0, 0))) := (hb.block _ (lt_of_block G6.out)).trans G6.out
  replace O3 : Hid (Own c6 n (mk k3 b3 t3 ka3 kl3 kc3 ia3 il3 ic3) v F3) := Own.next _ O3.out (fun b h => (QO3.out b h).2) hb
  replace QO3 : Hid (∀ b, F3 b → w1.heap.size ≤ b ∧ b < c6.heap.size) := fun b h => ⟨(QO3.out b h).1, Nat.lt_of_lt_of_le (QO3.out b h).2 hb.size⟩
  replace O4 : Hid (Own c6 n (mk k4 b4 t4 ka4 kl4 kc4 ia4 il4 ic4) x F4) := Own.next _ O4.out (fun b h => (QO4.out b h).2) hb
  replace QO4 : Hid (∀ b, F4 b → w1.heap.size ≤ b ∧ b < c6.heap.size) := fun b h => ⟨(QO4.out b h).1, Nat.lt_of_lt_of_le (QO4.out b h).2 hb.size⟩
  replace BW : Hid (Below w.heap.size w c6) := nxt BW.out hb
  replace HS : Hid (w3.heap.size ≤ c6.heap.size) := Nat.le_trans HS.out hb.size
  have O6 : Hid (Own c6 na (mk k6 b6 t6 ka6 kl6 kc6 ia6 il6 ic6) ta E6) := ho
  clear ho hE hb
  go_upto_region 5 with fail
  have hb := below_one c6 (.cells #[.int .i64 k6, .int .u64 b6, .string t6, .slice ka6 kl6 kc6, .slice ia6 il6 ic6] 26)
  have X6 : Hid ((c6.alloc (.cells #[.int .i64 k6, .int .u64 b6, .string t6, .slice ka6 kl6 kc6, .slice ia6 il6 ic6] 26)).heap[c6.heap.size]? = some (.cells #[.int .i64 k6, .int .u64 b6, .string t6, .slice ka6 kl6 kc6, .slice ia6 il6 ic6] 26 (0, 0))) := heap_alloc_new _ _
  have M6 : Hid (w3.heap.size ≤ c6.heap.size) := HS.out
  generalize c6.alloc (.cells #[.int .i64 k6, .int .u64 b6, .string t6, .slice ka6 kl6 kc6, .slice ia6 il6 ic6] 26) = W6 at hb X6 ⊢
  replace T1 : Hid (W6.heap[w.heap.size]? = some (.cells #[.int .i64 k, .int .u64 b, .string t, .slice ka kl kc, .slice ia il ic] 26 (0, 0))) := (hb.block _ (lt_of_block T1.out)).trans T1.out
  replace T2 : Hid (W6.heap[w.heap.size + 1]? = some (.cells #[.int .i64 k1, .int .u64 b1, .string t1, .slice ka1 kl1 kc1, .slice ia1 il1 ic1] 26 (0, 0))) := (hb.block _ (lt_of_block T2.out)).trans T2.out
  replace G5 : Hid (W6.heap[g5]? = some (.cells #[.int .i64 k3, .int .u64 b3, .string t3, .slice ka3 kl3 kc3, .slice ia3 il3 ic3] 26 (0, 0))) := (hb.block _ (lt_of_block G5.out)).trans G5.out
  replace G6 : Hid (W6.heap[g6]? = some (.cells #[.int .i64 k4, .int .u64 b4, .string t4, .slice ka4 kl4 kc4, .slice ia4 il4 ic4] 26 (0, 0))) := (hb.block _ (lt_of_block G6.out)).trans G6.out
  replace O3 : Hid (Own W6 n (mk k3 b3 t3 ka3 kl3 kc3 ia3 il3 ic3) v F3) := Own.next _ O3.out (fun b h => (QO3.out b h).2) hb
  replace QO3 : Hid (∀ b, F3 b → w1.heap.size ≤ b ∧ b < W6.heap.size) := fun b h => ⟨(QO3.out b h).1, Nat.lt_of_lt_of_le (QO3.out b h).2 hb.size⟩
  replace O4 : Hid (Own W6 n (mk k4 b4 t4 ka4 kl4 kc4 ia4 il4 ic4) x F4) := Own.next _ O4.out (fun b h => (QO4.out b h).2) hb
  replace QO4 : Hid (∀ b, F4 b → w1.heap.size ≤ b ∧ b < W6.heap.size) := fun b h => ⟨(QO4.out b h).1, Nat.lt_of_lt_of_le (QO4.out b h).2 hb.size⟩
  replace O6 : Hid (Own W6 na (mk k6 b6 t6 ka6 kl6 kc6 ia6 il6 ic6) ta E6) := Own.next _ O6.out (fun b h => (QO6.out b h).2) hb
  replace QO6 : Hid (∀ b, E6 b → w3.heap.size ≤ b ∧ b < W6.heap.size) := fun b h => ⟨(QO6.out b h).1, Nat.lt_of_lt_of_le (QO6.out b h).2 hb.size⟩
  replace BW : Hid (Below w.heap.size w W6) := nxt BW.out hb
  replace HS : Hid (w3.heap.size ≤ W6.heap.size) := Nat.le_trans HS.out hb.size
  clear hb
  generalize c6.heap.size = gg6 at X6 M6 ⊢
  obtain ⟨x0, x1, x2, x3, x4, -⟩ := box_cells G5.out
  obtain ⟨y0, y1, y2, y3, y4, -⟩ := box_cells G6.out
  go_wp2_with fail
  refine (CS.out _ _ _ (Own.lay n O3.out) (Own.lay n O4.out) (HP.out.1.below BW.out)).mono ?_
  intro e c8 hR
  obtain ⟨y, E8, rfl, ho, hE, hb⟩ := hR
  obtain ⟨k8, b8, t8, ka8, kl8, kc8, ia8, il8, ic8, rfl⟩ := Lay.shape _ (Own.lay _ ho)
  simp only at ho
  clear x0 x1 x2 x3 x4 y0 y1 y2 y3 y4
  have QO8 : Hid (∀ b, E8 b → w3.heap.size ≤ b ∧ b < c8.heap.size) := fun b h => ⟨Nat.le_trans HS.out (hE b h).1, (hE b h).2⟩
  replace T1 : Hid (c8.heap[w.heap.size]? = some (.cells #[.int .i64 k, .int .u64 b, .string t, .slice ka kl kc, .slice ia il ic] 26 (0, 0))) := (hb.block _ (lt_of_block T1.out)).trans T1.out
  replace T2 : Hid (c8.heap[w.heap.size + 1]? = some (.cells #[.int .i64 k1, .int .u64 b1, .string t1, .slice ka1 kl1 kc1, .slice ia1 il1 ic1] 26 (0, 0))) := (hb.block _ (lt_of_block T2.out)).trans T2.out
  replace G5 : Hid (c8.heap[g5]? = some (.cells #[.int .i64 k3, .int .u64 b3, .string t3, .slice ka3 kl3 kc3, .slice ia3 il3 ic3] 26 (0, 0))) := (hb.block _ (lt_of_block G5.out)).trans G5.out
  replace G6 : Hid (c8.heap[g6]? = some (.cells #[.int .i64 k4, .int .u64 b4, .string t4, .slice ka4 kl4 kc4, .slice ia4 il4 ic4] 26 (0, 0))) := (hb.block _ (lt_of_block G6.out)).trans G6.out
  replace X6 : Hid (c8.heap[gg6]? = some (.cells #[.int .i64 k6, .int .u64 b6, .string t6, .slice ka6 kl6 kc6, .slice ia6 il6 ic6] 26 (0, 0))) := (hb.block _ (lt_of_block X6.out)).trans X6.out
  replace O3 : Hid (Own c8 n (mk k3 b3 t3 ka3 kl3 kc3 ia3 il3 ic3) v F3) := Own.next _ O3.out (fun b h => (QO3.out b h).2) hb
  replace QO3 : Hid (∀ b, F3 b → w1.heap.size ≤ b ∧ b < c8.heap.size) := fun b h => ⟨(QO3.out b h).1, Nat.lt_of_lt_of_le (QO3.out b h).2 hb.size⟩
  replace O4 : Hid (Own c8 n (mk k4 b4 t4 ka4 kl4 kc4 ia4 il4 ic4) x F4) := Own.next _ O4.out (fun b h => (QO4.out b h).2) hb
  replace QO4 : Hid (∀ b, F4 b → w1.heap.size ≤ b ∧ b < c8.heap.size) := fun b h => ⟨(QO4.out b h).1, Nat.lt_of_lt_of_le (QO4.out b h).2 hb.size⟩
  replace O6 : Hid (Own c8 na (mk k6 b6 t6 ka6 kl6 kc6 ia6 il6 ic6) ta E6) := Own.next _ O6.out (fun b h => (QO6.out b h).2) hb
  replace QO6 : Hid (∀ b, E6 b → w3.heap.size ≤ b ∧ b < c8.heap.size) := fun b h => ⟨(QO6.out b h).1, Nat.lt_of_lt_of_le (QO6.out b h).2 hb.size⟩
  replace BW : Hid (Below w.heap.size w c8) := nxt BW.out hb
  replace HS : Hid (w3.heap.size ≤ c8.heap.size) := Nat.le_trans HS.out hb.size
  have O8 : Hid (Own c8 nr (mk k8 b8 t8 ka8 kl8 kc8 ia8 il8 ic8) tr E8) := ho
  clear ho hE hb
  go_upto_region 6 with fail
  have hb := below_one c8 (.cells #[.int .i64 k8, .int .u64 b8, .string t8, .slice ka8 kl8 kc8, .slice ia8 il8 ic8] 26)
  have X8 : Hid ((c8.alloc (.cells #[.int .i64 k8, .int .u64 b8, .string t8, .slice ka8 kl8 kc8, .slice ia8 il8 ic8] 26)).heap[c8.heap.size]? = some (.cells #[.int .i64 k8, .int .u64 b8, .string t8, .slice ka8 kl8 kc8, .slice ia8 il8 ic8] 26 (0, 0))) := heap_alloc_new _ _
  have M8 : Hid (w3.heap.size ≤ c8.heap.size) := HS.out
  generalize c8.alloc (.cells #[.int .i64 k8, .int .u64 b8, .string t8, .slice ka8 kl8 kc8, .slice ia8 il8 ic8] 26) = W8 at hb X8 ⊢
  replace T1 : Hid (W8.heap[w.heap.size]? = some (.cells #[.int .i64 k, .int .u64 b, .string t, .slice ka kl kc, .slice ia il ic] 26 (0, 0))) := (hb.block _ (lt_of_block T1.out)).trans T1.out
  replace T2 : Hid (W8.heap[w.heap.size + 1]? = some (.cells #[.int .i64 k1, .int .u64 b1, .string t1, .slice ka1 kl1 kc1, .slice ia1 il1 ic1] 26 (0, 0))) := (hb.block _ (lt_of_block T2.out)).trans T2.out
  replace G5 : Hid (W8.heap[g5]? = some (.cells #[.int .i64 k3, .int .u64 b3, .string t3, .slice ka3 kl3 kc3, .slice ia3 il3 ic3] 26 (0, 0))) := (hb.block _ (lt_of_block G5.out)).trans G5.out
  replace G6 : Hid (W8.heap[g6]? = some (.cells #[.int .i64 k4, .int .u64 b4, .string t4, .slice ka4 kl4 kc4, .slice ia4 il4 ic4] 26 (0, 0))) := (hb.block _ (lt_of_block G6.out)).trans G6.out
  replace X6 : Hid (W8.heap[gg6]? = some (.cells #[.int .i64 k6, .int .u64 b6, .string t6, .slice ka6 kl6 kc6, .slice ia6 il6 ic6] 26 (0, 0))) := (hb.block _ (lt_of_block X6.out)).trans X6.out
  replace O3 : Hid (Own W8 n (mk k3 b3 t3 ka3 kl3 kc3 ia3 il3 ic3) v F3) := Own.next _ O3.out (fun b h => (QO3.out b h).2) hb
  replace QO3 : Hid (∀ b, F3 b → w1.heap.size ≤ b ∧ b < W8.heap.size) := fun b h => ⟨(QO3.out b h).1, Nat.lt_of_lt_of_le (QO3.out b h).2 hb.size⟩
  replace O4 : Hid (Own W8 n (mk k4 b4 t4 ka4 kl4 kc4 ia4 il4 ic4) x F4) := Own.next _ O4.out (fun b h => (QO4.out b h).2) hb
  replace QO4 : Hid (∀ b, F4 b → w1.heap.size ≤ b ∧ b < W8.heap.size) := fun b h => ⟨(QO4.out b h).1, Nat.lt_of_lt_of_le (QO4.out b h).2 hb.size⟩
  replace O6 : Hid (Own W8 na (mk k6 b6 t6 ka6 kl6 kc6 ia6 il6 ic6) ta E6) := Own.next _ O6.out (fun b h => (QO6.out b h).2) hb
  replace QO6 : Hid (∀ b, E6 b → w3.heap.size ≤ b ∧ b < W8.heap.size) := fun b h => ⟨(QO6.out b h).1, Nat.lt_of_lt_of_le (QO6.out b h).2 hb.size⟩
  replace O8 : Hid (Own W8 nr (mk k8 b8 t8 ka8 kl8 kc8 ia8 il8 ic8) tr E8) := Own.next _ O8.out (fun b h => (QO8.out b h).2) hb
  replace QO8 : Hid (∀ b, E8 b → w3.heap.size ≤ b ∧ b < W8.heap.size) := fun b h => ⟨(QO8.out b h).1, Nat.lt_of_lt_of_le (QO8.out b h).2 hb.size⟩
  replace BW : Hid (Below w.heap.size w W8) := nxt BW.out hb
  replace HS : Hid (w3.heap.size ≤ W8.heap.size) := Nat.le_trans HS.out hb.size
  clear hb
  generalize c8.heap.size = gg8 at X8 M8 ⊢
  obtain ⟨x0, x1, x2, x3, x4, -⟩ := box_cells G5.out
  go_wp2_with fail
  refine (spoil_any n v _ F3 _ O3.out (fun b h => (QO3.out b h).2)).mono ?_
  rintro e s1 ⟨rfl, hk⟩
  clear x0 x1 x2 x3 x4
  have K1 : Hid (Kept F3 W8 s1) := hk
  replace G6 : Hid (s1.heap[g6]? = some (.cells #[.int .i64 k4, .int .u64 b4, .string t4, .slice ka4 kl4 kc4, .slice ia4 il4 ic4] 26 (0, 0))) := (hk.block _ (lt_of_block G6.out) DF.out.2).trans G6.out
  replace O4 : Hid (Own s1 n (mk k4 b4 t4 ka4 kl4 kc4 ia4 il4 ic4) x F4) := Own.same n O4.out (fun b h => hk.block b (QO4.out b h).2 (DF.out.1 b h))
  replace QO4 : Hid (∀ b, F4 b → w1.heap.size ≤ b ∧ b < s1.heap.size) := fun b h => ⟨(QO4.out b h).1, Nat.lt_of_lt_of_le (QO4.out b h).2 hk.size⟩
  clear hk G5 O3 QO3
  obtain ⟨x0, x1, x2, x3, x4, -⟩ := box_cells G6.out
  go_wp2_with fail
  refine (spoil_any n x _ F4 _ O4.out (fun b h => (QO4.out b h).2)).mono ?_
  rintro e s2 ⟨rfl, hk⟩
  clear x0 x1 x2 x3 x4
  have K2 : Hid (Kept (fun b => F3 b ∨ F4 b) W8 s2) := (K1.out.mono fun _ h => Or.inl h).trans (hk.mono fun _ h => Or.inr h)
  clear hk G6 O4 QO4 K1
  have LOW : Hid (∀ b, b < w1.heap.size → ¬ (F3 b ∨ F4 b)) := fun b h e => Nat.not_le.2 h (NF.out b e).1
  have HIGH : Hid (∀ b, w3.heap.size ≤ b → ¬ (F3 b ∨ F4 b)) := fun b h e => Nat.not_le.2 (NF.out b e).2 h
  replace T1 : Hid (s2.heap[w.heap.size]? = some (.cells #[.int .i64 k, .int .u64 b, .string t, .slice ka kl kc, .slice ia il ic] 26 (0, 0))) := (K2.out.block _ (lt_of_block T1.out) (LOW.out _ NW.out.1)).trans T1.out
  replace T2 : Hid (s2.heap[w.heap.size + 1]? = some (.cells #[.int .i64 k1, .int .u64 b1, .string t1, .slice ka1 kl1 kc1, .slice ia1 il1 ic1] 26 (0, 0))) := (K2.out.block _ (lt_of_block T2.out) (LOW.out _ NW.out.2)).trans T2.out
  replace X6 : Hid (s2.heap[gg6]? = some (.cells #[.int .i64 k6, .int .u64 b6, .string t6, .slice ka6 kl6 kc6, .slice ia6 il6 ic6] 26 (0, 0))) := (K2.out.block _ (lt_of_block X6.out) (HIGH.out _ M6.out)).trans X6.out
  have L6 : Hid (Lay s2 na (mk k6 b6 t6 ka6 kl6 kc6 ia6 il6 ic6) ta) := Own.lay _ (Own.same _ O6.out (fun b h => K2.out.block b (QO6.out b h).2 (HIGH.out b (QO6.out b h).1)))
  replace X8 : Hid (s2.heap[gg8]? = some (.cells #[.int .i64 k8, .int .u64 b8, .string t8, .slice ka8 kl8 kc8, .slice ia8 il8 ic8] 26 (0, 0))) := (K2.out.block _ (lt_of_block X8.out) (HIGH.out _ M8.out)).trans X8.out
  have L8 : Hid (Lay s2 nr (mk k8 b8 t8 ka8 kl8 kc8 ia8 il8 ic8) tr) := Own.lay _ (Own.same _ O8.out (fun b h => K2.out.block b (QO8.out b h).2 (HIGH.out b (QO8.out b h).1)))
  replace BW : Hid (Below w.heap.size w s2) := BW.out.trans (K2.out.to_below (fun b h => Nat.le_trans HW1.out (NF.out b h).1) BW.out.size)
  replace HS : Hid (w3.heap.size ≤ s2.heap.size) := Nat.le_trans HS.out K2.out.size
  clear K2 LOW HIGH O6 O8 QO6 QO8 NF DF NW M6 M8
  obtain ⟨x0, x1, x2, x3, x4, -⟩ := box_cells T1.out
  go_wp2_with fail
  refine (CH.out _ _ (Lay.below n HU.out BW.out) (HP.out.1.below BW.out)).mono ?_
  intro e c7 hR
  obtain ⟨y, E7, rfl, ho, hE, hb⟩ := hR
  obtain ⟨k7, b7, t7, ka7, kl7, kc7, ia7, il7, ic7, rfl⟩ := Lay.shape _ (Own.lay _ ho)
  simp only at ho
  clear x0 x1 x2 x3 x4
  replace T1 : Hid (c7.heap[w.heap.size]? = some (.cells #[.int .i64 k, .int .u64 b, .string t, .slice ka kl kc, .slice ia il ic] 26 (0, 0))) := (hb.block _ (lt_of_block T1.out)).trans T1.out
  replace T2 : Hid (c7.heap[w.heap.size + 1]? = some (.cells #[.int .i64 k1, .int .u64 b1, .string t1, .slice ka1 kl1 kc1, .slice ia1 il1 ic1] 26 (0, 0))) := (hb.block _ (lt_of_block T2.out)).trans T2.out
  replace X6 : Hid (c7.heap[gg6]? = some (.cells #[.int .i64 k6, .int .u64 b6, .string t6, .slice ka6 kl6 kc6, .slice ia6 il6 ic6] 26 (0, 0))) := (hb.block _ (lt_of_block X6.out)).trans X6.out
  replace X8 : Hid (c7.heap[gg8]? = some (.cells #[.int .i64 k8, .int .u64 b8, .string t8, .slice ka8 kl8 kc8, .slice ia8 il8 ic8] 26 (0, 0))) := (hb.block _ (lt_of_block X8.out)).trans X8.out
  replace L6 : Hid (Lay c7 na (mk k6 b6 t6 ka6 kl6 kc6 ia6 il6 ic6) ta) := Lay.below _ L6.out hb
  replace L8 : Hid (Lay c7 nr (mk k8 b8 t8 ka8 kl8 kc8 ia8 il8 ic8) tr) := Lay.below _ L8.out hb
  replace BW : Hid (Below w.heap.size w c7) := nxt BW.out hb
  replace HS : Hid (w3.heap.size ≤ c7.heap.size) := Nat.le_trans HS.out hb.size
  have L7 : Hid (Lay c7 na (mk k7 b7 t7 ka7 kl7 kc7 ia7 il7 ic7) ta) := Own.lay _ ho
  clear ho hE hb
  go_upto_region 9 with fail
  have hb := below_one c7 (.cells #[.int .i64 k7, .int .u64 b7, .string t7, .slice ka7 kl7 kc7, .slice ia7 il7 ic7] 26)
  have X7 : Hid ((c7.alloc (.cells #[.int .i64 k7, .int .u64 b7, .string t7, .slice ka7 kl7 kc7, .slice ia7 il7 ic7] 26)).heap[c7.heap.size]? = some (.cells #[.int .i64 k7, .int .u64 b7, .string t7, .slice ka7 kl7 kc7, .slice ia7 il7 ic7] 26 (0, 0))) := heap_alloc_new _ _
  have M7 : Hid (w3.heap.size ≤ c7.heap.size) := HS.out
  generalize c7.alloc (.cells #[.int .i64 k7, .int .u64 b7, .string t7, .slice ka7 kl7 kc7, .slice ia7 il7 ic7] 26) = W7 at hb X7 ⊢
  replace T1 : Hid (W7.heap[w.heap.size]? = some (.cells #[.int .i64 k, .int .u64 b, .string t, .slice ka kl kc, .slice ia il ic] 26 (0, 0))) := (hb.block _ (lt_of_block T1.out)).trans T1.out
  replace T2 : Hid (W7.heap[w.heap.size + 1]? = some (.cells #[.int .i64 k1, .int .u64 b1, .string t1, .slice ka1 kl1 kc1, .slice ia1 il1 ic1] 26 (0, 0))) := (hb.block _ (lt_of_block T2.out)).trans T2.out
  replace X6 : Hid (W7.heap[gg6]? = some (.cells #[.int .i64 k6, .int .u64 b6, .string t6, .slice ka6 kl6 kc6, .slice ia6 il6 ic6] 26 (0, 0))) := (hb.block _ (lt_of_block X6.out)).trans X6.out
  replace X8 : Hid (W7.heap[gg8]? = some (.cells #[.int .i64 k8, .int .u64 b8, .string t8, .slice ka8 kl8 kc8, .slice ia8 il8 ic8] 26 (0, 0))) := (hb.block _ (lt_of_block X8.out)).trans X8.out
  replace L6 : Hid (Lay W7 na (mk k6 b6 t6 ka6 kl6 kc6 ia6 il6 ic6) ta) := Lay.below _ L6.out hb
  replace L8 : Hid (Lay W7 nr (mk k8 b8 t8 ka8 kl8 kc8 ia8 il8 ic8) tr) := Lay.below _ L8.out hb
  replace L7 : Hid (Lay W7 na (mk k7 b7 t7 ka7 kl7 kc7 ia7 il7 ic7) ta) := Lay.below _ L7.out hb
  replace BW : Hid (Below w.heap.size w W7) := nxt BW.out hb
  replace HS : Hid (w3.heap.size ≤ W7.heap.size) := Nat.le_trans HS.out hb.size
  clear hb
  generalize c7.heap.size = gg7 at X7 M7 ⊢
  obtain ⟨x0, x1, x2, x3, x4, -⟩ := box_cells T1.out
  obtain ⟨y0, y1, y2, y3, y4, -⟩ := box_cells T2.out
  go_wp2_with fail
  refine (CT.out _ _ _ (Lay.below n HU.out BW.out) (Lay.below n HV.out BW.out) (HP.out.1.below BW.out)).mono ?_
  intro e c9 hR
  obtain ⟨y, E9, rfl, ho, hE, hb⟩ := hR
  obtain ⟨k9, b9, t9, ka9, kl9, kc9, ia9, il9, ic9, rfl⟩ := Lay.shape _ (Own.lay _ ho)
  simp only at ho
  clear x0 x1 x2 x3 x4 y0 y1 y2 y3 y4
  replace T1 : Hid (c9.heap[w.heap.size]? = some (.cells #[.int .i64 k, .int .u64 b, .string t, .slice ka kl kc, .slice ia il ic] 26 (0, 0))) := (hb.block _ (lt_of_block T1.out)).trans T1.out
  replace T2 : Hid (c9.heap[w.heap.size + 1]? = some (.cells #[.int .i64 k1, .int .u64 b1, .string t1, .slice ka1 kl1 kc1, .slice ia1 il1 ic1] 26 (0, 0))) := (hb.block _ (lt_of_block T2.out)).trans T2.out
  replace X6 : Hid (c9.heap[gg6]? = some (.cells #[.int .i64 k6, .int .u64 b6, .string t6, .slice ka6 kl6 kc6, .slice ia6 il6 ic6] 26 (0, 0))) := (hb.block _ (lt_of_block X6.out)).trans X6.out
  replace X8 : Hid (c9.heap[gg8]? = some (.cells #[.int .i64 k8, .int .u64 b8, .string t8, .slice ka8 kl8 kc8, .slice ia8 il8 ic8] 26 (0, 0))) := (hb.block _ (lt_of_block X8.out)).trans X8.out
  replace X7 : Hid (c9.heap[gg7]? = some (.cells #[.int .i64 k7, .int .u64 b7, .string t7, .slice ka7 kl7 kc7, .slice ia7 il7 ic7] 26 (0, 0))) := (hb.block _ (lt_of_block X7.out)).trans X7.out
  replace L6 : Hid (Lay c9 na (mk k6 b6 t6 ka6 kl6 kc6 ia6 il6 ic6) ta) := Lay.below _ L6.out hb
  replace L8 : Hid (Lay c9 nr (mk k8 b8 t8 ka8 kl8 kc8 ia8 il8 ic8) tr) := Lay.below _ L8.out hb
  replace L7 : Hid (Lay c9 na (mk k7 b7 t7 ka7 kl7 kc7 ia7 il7 ic7) ta) := Lay.below _ L7.out hb
  replace BW : Hid (Below w.heap.size w c9) := nxt BW.out hb
  replace HS : Hid (w3.heap.size ≤ c9.heap.size) := Nat.le_trans HS.out hb.size
  have L9 : Hid (Lay c9 nr (mk k9 b9 t9 ka9 kl9 kc9 ia9 il9 ic9) tr) := Own.lay _ ho
  clear ho hE hb
  go_upto_region 10 with fail
  have hb := below_one c9 (.cells #[.int .i64 k9, .int .u64 b9, .string t9, .slice ka9 kl9 kc9, .slice ia9 il9 ic9] 26)
  have X9 : Hid ((c9.alloc (.cells #[.int .i64 k9, .int .u64 b9, .string t9, .slice ka9 kl9 kc9, .slice ia9 il9 ic9] 26)).heap[c9.heap.size]? = some (.cells #[.int .i64 k9, .int .u64 b9, .string t9, .slice ka9 kl9 kc9, .slice ia9 il9 ic9] 26 (0, 0))) := heap_alloc_new _ _
  have M9 : Hid (w3.heap.size ≤ c9.heap.size) := HS.out
  generalize c9.alloc (.cells #[.int .i64 k9, .int .u64 b9, .string t9, .slice ka9 kl9 kc9, .slice ia9 il9 ic9] 26) = W9 at hb X9 ⊢
  replace T1 : Hid (W9.heap[w.heap.size]? = some (.cells #[.int .i64 k, .int .u64 b, .string t, .slice ka kl kc, .slice ia il ic] 26 (0, 0))) := (hb.block _ (lt_of_block T1.out)).trans T1.out
  replace T2 : Hid (W9.heap[w.heap.size + 1]? = some (.cells #[.int .i64 k1, .int .u64 b1, .string t1, .slice ka1 kl1 kc1, .slice ia1 il1 ic1] 26 (0, 0))) := (hb.block _ (lt_of_block T2.out)).trans T2.out
  replace X6 : Hid (W9.heap[gg6]? = some (.cells #[.int .i64 k6, .int .u64 b6, .string t6, .slice ka6 kl6 kc6, .slice ia6 il6 ic6] 26 (0, 0))) := (hb.block _ (lt_of_block X6.out)).trans X6.out
  replace X8 : Hid (W9.heap[gg8]? = some (.cells #[.int .i64 k8, .int .u64 b8, .string t8, .slice ka8 kl8 kc8, .slice ia8 il8 ic8] 26 (0, 0))) := (hb.block _ (lt_of_block X8.out)).trans X8.out
  replace X7 : Hid (W9.heap[gg7]? = some (.cells #[.int .i64 k7, .int .u64 b7, .string t7, .slice ka7 kl7 kc7, .slice ia7 il7 ic7] 26 (0, 0))) := (hb.block _ (lt_of_block X7.out)).trans X7.out
  replace L6 : Hid (Lay W9 na (mk k6 b6 t6 ka6 kl6 kc6 ia6 il6 ic6) ta) := Lay.below _ L6.out hb
  replace L8 : Hid (Lay W9 nr (mk k8 b8 t8 ka8 kl8 kc8 ia8 il8 ic8) tr) := Lay.below _ L8.out hb
  replace L7 : Hid (Lay W9 na (mk k7 b7 t7 ka7 kl7 kc7 ia7 il7 ic7) ta) := Lay.below _ L7.out hb
  replace L9 : Hid (Lay W9 nr (mk k9 b9 t9 ka9 kl9 kc9 ia9 il9 ic9) tr) := Lay.below _ L9.out hb
  replace BW : Hid (Below w.heap.size w W9) := nxt BW.out hb
  replace HS : Hid (w3.heap.size ≤ W9.heap.size) := Nat.le_trans HS.out hb.size
  clear hb
  generalize c9.heap.size = gg9 at X9 M9 ⊢
  have DS : Hid (∀ (W : World) (m : Nat) (u : V m) (y z : Value), Lay W m y u → Lay W m z u → Calls Try.prog 11 #[y, z] W fun e w' => e = .returned (.bool true) ∧ Below W.heap.size W w') := fun W m u y z h h1 => by
    have := same_any m u u y z W h h1
    rw [one_true rfl] at this
    exact this
  obtain ⟨x0, x1, x2, x3, x4, -⟩ := box_cells X6.out
  obtain ⟨y0, y1, y2, y3, y4, -⟩ := box_cells X7.out
  go_wp2_with fail
  refine (DS.out _ _ _ _ _ L6.out L7.out).mono ?_
  rintro e d1 ⟨rfl, hb⟩
  clear x0 x1 x2 x3 x4 y0 y1 y2 y3 y4
  replace T1 : Hid (d1.heap[w.heap.size]? = some (.cells #[.int .i64 k, .int .u64 b, .string t, .slice ka kl kc, .slice ia il ic] 26 (0, 0))) := (hb.block _ (lt_of_block T1.out)).trans T1.out
  replace T2 : Hid (d1.heap[w.heap.size + 1]? = some (.cells #[.int .i64 k1, .int .u64 b1, .string t1, .slice ka1 kl1 kc1, .slice ia1 il1 ic1] 26 (0, 0))) := (hb.block _ (lt_of_block T2.out)).trans T2.out
  replace X6 : Hid (d1.heap[gg6]? = some (.cells #[.int .i64 k6, .int .u64 b6, .string t6, .slice ka6 kl6 kc6, .slice ia6 il6 ic6] 26 (0, 0))) := (hb.block _ (lt_of_block X6.out)).trans X6.out
  replace X8 : Hid (d1.heap[gg8]? = some (.cells #[.int .i64 k8, .int .u64 b8, .string t8, .slice ka8 kl8 kc8, .slice ia8 il8 ic8] 26 (0, 0))) := (hb.block _ (lt_of_block X8.out)).trans X8.out
  replace X7 : Hid (d1.heap[gg7]? = some (.cells #[.int .i64 k7, .int .u64 b7, .string t7, .slice ka7 kl7 kc7, .slice ia7 il7 ic7] 26 (0, 0))) := (hb.block _ (lt_of_block X7.out)).trans X7.out
  replace X9 : Hid (d1.heap[gg9]? = some (.cells #[.int .i64 k9, .int .u64 b9, .string t9, .slice ka9 kl9 kc9, .slice ia9 il9 ic9] 26 (0, 0))) := (hb.block _ (lt_of_block X9.out)).trans X9.out
  replace L6 : Hid (Lay d1 na (mk k6 b6 t6 ka6 kl6 kc6 ia6 il6 ic6) ta) := Lay.below _ L6.out hb
  replace L8 : Hid (Lay d1 nr (mk k8 b8 t8 ka8 kl8 kc8 ia8 il8 ic8) tr) := Lay.below _ L8.out hb
  replace L7 : Hid (Lay d1 na (mk k7 b7 t7 ka7 kl7 kc7 ia7 il7 ic7) ta) := Lay.below _ L7.out hb
  replace L9 : Hid (Lay d1 nr (mk k9 b9 t9 ka9 kl9 kc9 ia9 il9 ic9) tr) := Lay.below _ L9.out hb
  replace BW : Hid (Below w.heap.size w d1) := nxt BW.out hb
  replace HS : Hid (w3.heap.size ≤ d1.heap.size) := Nat.le_trans HS.out hb.size
  clear hb
  go_wp2_with fail
  refine (num_any _ _).mono ?_
  rintro e wn ⟨rfl, hn⟩
  subst wn
  obtain ⟨x0, x1, x2, x3, x4, -⟩ := box_cells X8.out
  obtain ⟨y0, y1, y2, y3, y4, -⟩ := box_cells X9.out
  go_wp2_with fail
  refine (DS.out _ _ _ _ _ L8.out L9.out).mono ?_
  rintro e d2 ⟨rfl, hb⟩
  clear x0 x1 x2 x3 x4 y0 y1 y2 y3 y4
  replace T1 : Hid (d2.heap[w.heap.size]? = some (.cells #[.int .i64 k, .int .u64 b, .string t, .slice ka kl kc, .slice ia il ic] 26 (0, 0))) := (hb.block _ (lt_of_block T1.out)).trans T1.out
  replace T2 : Hid (d2.heap[w.heap.size + 1]? = some (.cells #[.int .i64 k1, .int .u64 b1, .string t1, .slice ka1 kl1 kc1, .slice ia1 il1 ic1] 26 (0, 0))) := (hb.block _ (lt_of_block T2.out)).trans T2.out
  replace X6 : Hid (d2.heap[gg6]? = some (.cells #[.int .i64 k6, .int .u64 b6, .string t6, .slice ka6 kl6 kc6, .slice ia6 il6 ic6] 26 (0, 0))) := (hb.block _ (lt_of_block X6.out)).trans X6.out
  replace X8 : Hid (d2.heap[gg8]? = some (.cells #[.int .i64 k8, .int .u64 b8, .string t8, .slice ka8 kl8 kc8, .slice ia8 il8 ic8] 26 (0, 0))) := (hb.block _ (lt_of_block X8.out)).trans X8.out
  replace X7 : Hid (d2.heap[gg7]? = some (.cells #[.int .i64 k7, .int .u64 b7, .string t7, .slice ka7 kl7 kc7, .slice ia7 il7 ic7] 26 (0, 0))) := (hb.block _ (lt_of_block X7.out)).trans X7.out
  replace X9 : Hid (d2.heap[gg9]? = some (.cells #[.int .i64 k9, .int .u64 b9, .string t9, .slice ka9 kl9 kc9, .slice ia9 il9 ic9] 26 (0, 0))) := (hb.block _ (lt_of_block X9.out)).trans X9.out
  replace L6 : Hid (Lay d2 na (mk k6 b6 t6 ka6 kl6 kc6 ia6 il6 ic6) ta) := Lay.below _ L6.out hb
  replace L8 : Hid (Lay d2 nr (mk k8 b8 t8 ka8 kl8 kc8 ia8 il8 ic8) tr) := Lay.below _ L8.out hb
  replace L7 : Hid (Lay d2 na (mk k7 b7 t7 ka7 kl7 kc7 ia7 il7 ic7) ta) := Lay.below _ L7.out hb
  replace L9 : Hid (Lay d2 nr (mk k9 b9 t9 ka9 kl9 kc9 ia9 il9 ic9) tr) := Lay.below _ L9.out hb
  replace BW : Hid (Below w.heap.size w d2) := nxt BW.out hb
  replace HS : Hid (w3.heap.size ≤ d2.heap.size) := Nat.le_trans HS.out hb.size
  clear hb
  go_wp2_with fail
  refine (num_any _ _).mono ?_
  rintro e wn ⟨rfl, hn⟩
  subst wn
  go_wp2_with fail
  go_ret
  exact ⟨rfl, BW.out⟩

set_option maxRecDepth 100000 in
set_option maxHeartbeats 1600000 in
theorem lifted (os : Os) (started : os.Started) (H : Type) (enc : TypeId × Value → H) :
    ReturnsInHanded {} Try.checked os 3 .any (Rows.valueOwnSpec.pre6 enc Try.prog Try.f3 Rows.valueOwnRow.domain false) (Rows.valueOwnSpec.post enc Try.prog Try.f3 false true false false) := by
  refine returnsInHanded_of_change_sized (C := Try.checked) Try.own started (by kernel_rfl) Try.func3
    (ChangeSpec.witness6 (enc := enc) (C := Try.checked) false ⟨#[], #[.agg #[.int .i64 0, .int .u64 0, .string ⟨#[]⟩, .slice none 0 0, .slice none 0 0], .slice none 0 0, .agg #[.int .i64 0, .int .u64 0, .string ⟨#[]⟩, .slice none 0 0, .slice none 0 0]], []⟩ 8 (by kernel_rfl) (by kernel_rfl) (by kernel_rfl) (by kernel_rfl)) ?_
  intro W base args ds gs before hval0 hW _ hsz0 _
  have hsz : (DataW.weightsEach Try.prog (Try.f3.params.toList ++ Rows.valueOwnSpec.plain.varTypes Try.prog) (ds ++ gs)).all (· ≤ reachBytes) = true := hsz0
  have hval : ∀ (j : Nat) t v, Try.f3.params[j]? = some t → args[j]? = some v → Value.okWide Try.prog W .any base t v := hval0
  have hW' := hW
  obtain ⟨p, q, hA0, hV, rfl, hfz, hnd⟩ := hW
  have hA : DataW.TrodAll enc Try.prog W 0 (fun _ => true) true Try.f3.params.toList args.toList ds p := hA0
  rw [Try.params3] at hA hval hsz
  obtain ⟨v0, vs0, d0, ds0, p0, q0, hargs, rfl, rfl, h0, r0⟩ := trodAll_cons hA
  obtain ⟨v1, vs1, d1, ds1, p1, q1, rfl, rfl, rfl, h1, r1⟩ := trodAll_cons r0
  obtain ⟨v2, vs2, d2, ds2, p2, q2, rfl, rfl, rfl, h2, r2⟩ := trodAll_cons r1
  obtain ⟨rfl, rfl, rfl⟩ := trodAll_nil r2
  obtain rfl : args = #[v0, v1, v2] := by cases args; simp_all
  obtain ⟨rfl, rfl⟩ := trodVars_none hV
  clear hA0 hval0
  simp only [List.append_nil] at hW' hsz
  have hlt : ∀ x ∈ p0 ++ p1 ++ p2, x.block < W.heap.size := fun x hx => hW'.lt x (by simpa using hx)
  have hall : ∀ x ∈ DataW.weightsEach Try.prog [26, 27, 26] [d0, d1, d2], x ≤ reachBytes := fun x hx => of_decide_eq_true (List.all_eq_true.1 hsz x hx)
  have g0 : ∀ x ∈ d0.weights Try.prog 26, x ≤ reachBytes := fun x hx => hall x (DataW.weights_mem_each (j := 0) rfl rfl x hx)
  obtain ⟨u0, l0⟩ := lay_of_arg (k := SizeOf.sizeOf d0 + SizeOf.sizeOf d2) (hval 0 _ v0 rfl rfl) h0 (by omega) g0
  have g1 : ∀ x ∈ d1.weights Try.prog 27, x ≤ reachBytes := fun x hx => hall x (DataW.weights_mem_each (j := 1) rfl rfl x hx)
  obtain ⟨u1, l1⟩ := path_of_arg (hval 1 _ v1 rfl rfl) h1 g1
  have g2 : ∀ x ∈ d2.weights Try.prog 26, x ≤ reachBytes := fun x hx => hall x (DataW.weights_mem_each (j := 2) rfl rfl x hx)
  obtain ⟨u2, l2⟩ := lay_of_arg (k := SizeOf.sizeOf d0 + SizeOf.sizeOf d2) (hval 2 _ v2 rfl rfl) h2 (by omega) g2
  refine (walk _ u0 v0 u1 v1 u2 v2 W l0 l1 l2).mono fun e W' ⟨he, bel⟩ => ?_
  subst he
  exact ⟨_, rfl, _, _, _, [], _, [], hW', trodAll_mk1 (shut_bool Try.underlying4 _), (trodAll_cons_mk (Below.trod Try.laidOut (by kernel_rfl) (of_decide_eq_true (by kernel_rfl)) h0 bel (fun x hx => hlt x (by simp [hx]))) (trodAll_cons_mk (Below.trod Try.laidOut (by kernel_rfl) (of_decide_eq_true (by kernel_rfl)) h1 bel (fun x hx => hlt x (by simp [hx]))) (trodAll_cons_mk (Below.trod Try.laidOut (by kernel_rfl) (of_decide_eq_true (by kernel_rfl)) h2 bel (fun x hx => hlt x (by simp [hx]))) trodAll_mk0))), rfl, bel.frame _, fun h => by cases h⟩

theorem over : Rows.valueOwnRow.holds Try.pinned (OpenSpec.ofChange Rows.valueOwnSpec) :=
  OpenClaim.holds_of_wide 3 Try.f3 rfl rfl rfl rfl rfl rfl rfl ⟨rfl, rfl, rfl, rfl, rfl⟩ rfl rfl rfl rfl rfl (by kernel_rfl) Try.func3 (by kernel_rfl)
    (of_decide_eq_true (by kernel_rfl)) (by unfold Func.isWrapper; first | (rw [if_pos (by decide +kernel)]; kernel_rfl) | (rw [if_neg (by decide +kernel)]; exact ⟨rfl, rfl⟩))
    (fun os started H enc _ => lifted os started H enc)

/-- THE STATEMENT. -/
theorem proved : Rows.ValueOwnSaid := over
#print axioms proved
end Go.Proofs.Ytpgkhiengocemaa.valueOwn
