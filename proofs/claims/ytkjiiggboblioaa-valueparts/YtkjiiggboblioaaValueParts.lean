/-
  ValueParts holds for every value, path and value to be set: what is got, and what setting a part makes, are as the page says, and what is handed in stays. No condition.
-/
import Derived.Test.YtkjiiggboblioaaVaRSetP
import Derived.Test.YtkjiiggboblioaaVaPair
import Derived.Test.YtkjiiggboblioaaVaRefGet
namespace Go.Proofs.Ytkjiiggboblioaa.valueParts
open Go.ChangeShapes Go.WideShapes Go.ChangeAt Go.RowKit
open Fl

set_option maxRecDepth 100000 in
set_option maxHeartbeats 6400000 in
theorem walk (n : Nat) (v : V n) (xv : Value) (ps : List St) (xp : Value) (x : V n) (xx : Value) (w : World) (hv : Lay w n xv v) (hp : PathIs w xp ps) (hx : Lay w n xx x) :
    Calls Try.prog 3 #[xv, xp, xx] w fun e w' => e = .returned (.bool true) ∧ Below w.heap.size w w' := by
  obtain ⟨k, b, t, ka, kl, kc, ia, il, ic, rfl⟩ := Lay.shape n hv
  obtain ⟨k1, b1, t1, ka1, kl1, kc1, ia1, il1, ic1, rfl⟩ := Lay.shape n hx
  obtain ⟨pa, pc, rfl, hpn, hpc, hpm, hpl, hp⟩ := hp
  have HU : Hid (Lay w n (mk k b t ka kl kc ia il ic) v) := hv
  have HV : Hid (Lay w n (mk k1 b1 t1 ka1 kl1 kc1 ia1 il1 ic1) x) := hx
  have HP : Hid (LayP w pa ps ∧ (ps.length ≤ pc ∧ pc ≤ 9223372036854775807) ∧ ps.length * 32 ≤ 140737488351232) := ⟨hp, ⟨hpc, hpm⟩, hpl⟩
  clear hv hx hp hpn hpc hpm hpl
  go_enter Try.func3, Try.ntmps3
  go_upto_region 1 with fail
  have T0 : Two w _ _ _ := Two.new w (.cells #[.int .i64 k, .int .u64 b, .string t, .slice ka kl kc, .slice ia il ic] 26) (.cells #[.int .i64 k1, .int .u64 b1, .string t1, .slice ka1 kl1 kc1, .slice ia1 il1 ic1] 26) (Below.refl _ _)
  have B0 := below_two w (.cells #[.int .i64 k, .int .u64 b, .string t, .slice ka kl kc, .slice ia il ic] 26) (.cells #[.int .i64 k1, .int .u64 b1, .string t1, .slice ka1 kl1 kc1, .slice ia1 il1 ic1] 26)
  generalize (w.alloc (.cells #[.int .i64 k, .int .u64 b, .string t, .slice ka kl kc, .slice ia il ic] 26)).alloc (.cells #[.int .i64 k1, .int .u64 b1, .string t1, .slice ka1 kl1 kc1, .slice ia1 il1 ic1] 26) = W2 at T0 B0 ⊢
  have HB0 : Hid (Below w.heap.size w W2) := B0
  have HT0 : Hid (Two w W2 _ _) := T0
  clear B0 T0
  skip
  go_wp2_with fail
  refine pair_region (d0 := 17) (d1 := 18) (d2 := 19) (d3 := 20) (p := 7) (q := 8) (s0 := 3) (s1 := 5) (pos := "law.go:38") (u := v) (v := x) (x := (mk k b t ka kl kc ia il ic)) (y := (mk k1 b1 t1 ka1 kl1 kc1 ia1 il1 ic1))
    (fun v0 v1 v2 v3 v5 v6 => { tmps := #[(mk k b t ka kl kc ia il ic), .slice pa ps.length pc, (mk k1 b1 t1 ka1 kl1 kc1 ia1 il1 ic1), .pointer (some ⟨w.heap.size, 0, none⟩), undef, .pointer (some ⟨w.heap.size + 1, 0, none⟩), .bool false, v5, v6, undef, undef, undef, undef, undef, undef, undef, undef, v0, v1, v2, v3, undef, undef, undef, undef, undef, undef, undef, undef, undef, undef, undef, undef, undef, undef, undef, undef, undef, undef, undef, undef, undef, undef, undef, undef, undef, undef, undef, undef, undef, undef, undef, undef, undef, undef, undef, undef, undef, undef, undef, undef, undef, undef, undef, undef, undef, undef, undef, undef, undef, undef, undef, undef, undef, undef, undef, undef, undef, undef, undef], defers := [] })
    (by intros; rfl) (by intros; rfl) (by intros; rfl) (by intros; rfl) (by intros; rfl) (by intros; rfl) (by intros; rfl) (by intros; rfl) (by intros; rfl) (by intros; rfl) (by intros; rfl) (by intros; rfl) (by intros; rfl) (by intros; rfl)
    (Lay.below n HU.out HB0.out) (Lay.below n HV.out HB0.out) HT0.out.1 HT0.out.2 ?_
  intro y3 y4 g5 g6 F3 F4 w3 ho3 ho4 hg5 hg6 _ _ _ _ _ hb3
  have hl3 := Own.lay n ho3
  have hl4 := Own.lay n ho4
  obtain ⟨k3, b3, t3, ka3, kl3, kc3, ia3, il3, ic3, rfl⟩ := Lay.shape n hl3
  obtain ⟨k4, b4, t4, ka4, kl4, kc4, ia4, il4, ic4, rfl⟩ := Lay.shape n hl4
  have T1 : Hid (w3.heap[w.heap.size]? = some (.cells #[.int .i64 k, .int .u64 b, .string t, .slice ka kl kc, .slice ia il ic] 26 (0, 0))) := (HT0.out.below hb3).1
  have T2 : Hid (w3.heap[w.heap.size + 1]? = some (.cells #[.int .i64 k1, .int .u64 b1, .string t1, .slice ka1 kl1 kc1, .slice ia1 il1 ic1] 26 (0, 0))) := (HT0.out.below hb3).2
  have G5 : Hid (w3.heap[g5]? = some (.cells #[.int .i64 k3, .int .u64 b3, .string t3, .slice ka3 kl3 kc3, .slice ia3 il3 ic3] 26 (0, 0))) := hg5
  have G6 : Hid (w3.heap[g6]? = some (.cells #[.int .i64 k4, .int .u64 b4, .string t4, .slice ka4 kl4 kc4, .slice ia4 il4 ic4] 26 (0, 0))) := hg6
  have L3 : Hid (Lay w3 n (mk k3 b3 t3 ka3 kl3 kc3 ia3 il3 ic3) v) := hl3
  have L4 : Hid (Lay w3 n (mk k4 b4 t4 ka4 kl4 kc4 ia4 il4 ic4) x) := hl4
  have BW : Hid (Below w.heap.size w w3) := nxt HB0.out hb3
  clear ho3 ho4 hg5 hg6 hb3 hl3 hl4 HT0 HB0
  have CG : Hid (∀ (W : World) (y : Value), Lay W n y v → LayP W pa ps → Calls Try.prog 5 #[y, .slice pa ps.length pc] W (RSetPost (getR v ps) W)) := fun W y h h2 => get_any n v y ps pa pc W h h2 HP.out.2.2
  have CH : Hid (∀ (W : World) (y : Value), Lay W n y v → LayP W pa ps → Calls Try.prog 6 #[y, .slice pa ps.length pc] W (RSetPost (getR v ps) W)) := fun W y h h2 => rget_any n v y ps pa pc W h h2 HP.out.2.2
  have CS : Hid (∀ (W : World) (y z : Value), Lay W n y v → Lay W n z x → LayP W pa ps → Calls Try.prog 7 #[y, .slice pa ps.length pc, z] W (RSetPost (setR ps (ups v ps.length) x) W)) := fun W y z h h1 h2 => set_any ps (ups v ps.length) x y z pa pc W (Lay.ups h _) h1 h2 HP.out.2.2
  have CT : Hid (∀ (W : World) (y z : Value), Lay W n y v → Lay W n z x → LayP W pa ps → Calls Try.prog 8 #[y, .slice pa ps.length pc, z] W (RSetPost (setR ps (ups v ps.length) x) W)) := fun W y z h h1 h2 => rsetp_any ps (ups v ps.length) x y z pa pc W (Lay.ups h _) h1 h2 HP.out.2.1
  generalize getR v ps = A at *
  generalize setR ps (ups v ps.length) x = R at *
  obtain ⟨ea, na, ta⟩ := A
  obtain ⟨er, nr, tr⟩ := R
  obtain ⟨x0, x1, x2, x3, x4, -⟩ := box_cells G5.out
  go_wp2_with fail
  refine (CG.out _ _ L3.out (HP.out.1.below BW.out)).mono ?_
  intro e c6 hR
  obtain ⟨y, E, rfl, ho, -, hb⟩ := hR
  have hl := Own.lay _ ho
  obtain ⟨k6, b6, t6, ka6, kl6, kc6, ia6, il6, ic6, rfl⟩ := Lay.shape _ hl
  simp only at hl
  clear x0 x1 x2 x3 x4
  replace T1 : Hid (c6.heap[w.heap.size]? = some (.cells #[.int .i64 k, .int .u64 b, .string t, .slice ka kl kc, .slice ia il ic] 26 (0, 0))) := (hb.block _ (lt_of_block T1.out)).trans T1.out
  replace T2 : Hid (c6.heap[w.heap.size + 1]? = some (.cells #[.int .i64 k1, .int .u64 b1, .string t1, .slice ka1 kl1 kc1, .slice ia1 il1 ic1] 26 (0, 0))) := (hb.block _ (lt_of_block T2.out)).trans T2.out
  replace G5 : Hid (c6.heap[g5]? = some (.cells #[.int .i64 k3, .int .u64 b3, .string t3, .slice ka3 kl3 kc3, .slice ia3 il3 ic3] 26 (0, 0))) := (hb.block _ (lt_of_block G5.out)).trans G5.out
  replace G6 : Hid (c6.heap[g6]? = some (.cells #[.int .i64 k4, .int .u64 b4, .string t4, .slice ka4 kl4 kc4, .slice ia4 il4 ic4] 26 (0, 0))) := (hb.block _ (lt_of_block G6.out)).trans G6.out
  replace L3 : Hid (Lay c6 n (mk k3 b3 t3 ka3 kl3 kc3 ia3 il3 ic3) v) := Lay.below _ L3.out hb
  replace L4 : Hid (Lay c6 n (mk k4 b4 t4 ka4 kl4 kc4 ia4 il4 ic4) x) := Lay.below _ L4.out hb
  replace BW : Hid (Below w.heap.size w c6) := nxt BW.out hb
  have L6 : Hid (Lay c6 na (mk k6 b6 t6 ka6 kl6 kc6 ia6 il6 ic6) ta) := hl
  clear ho hl hb
  go_upto_region 3 with fail
  have hb := below_one c6 (.cells #[.int .i64 k6, .int .u64 b6, .string t6, .slice ka6 kl6 kc6, .slice ia6 il6 ic6] 26)
  have X6 : Hid ((c6.alloc (.cells #[.int .i64 k6, .int .u64 b6, .string t6, .slice ka6 kl6 kc6, .slice ia6 il6 ic6] 26)).heap[c6.heap.size]? = some (.cells #[.int .i64 k6, .int .u64 b6, .string t6, .slice ka6 kl6 kc6, .slice ia6 il6 ic6] 26 (0, 0))) := heap_alloc_new _ _
  generalize c6.alloc (.cells #[.int .i64 k6, .int .u64 b6, .string t6, .slice ka6 kl6 kc6, .slice ia6 il6 ic6] 26) = W6 at hb X6 ⊢
  replace T1 : Hid (W6.heap[w.heap.size]? = some (.cells #[.int .i64 k, .int .u64 b, .string t, .slice ka kl kc, .slice ia il ic] 26 (0, 0))) := (hb.block _ (lt_of_block T1.out)).trans T1.out
  replace T2 : Hid (W6.heap[w.heap.size + 1]? = some (.cells #[.int .i64 k1, .int .u64 b1, .string t1, .slice ka1 kl1 kc1, .slice ia1 il1 ic1] 26 (0, 0))) := (hb.block _ (lt_of_block T2.out)).trans T2.out
  replace G5 : Hid (W6.heap[g5]? = some (.cells #[.int .i64 k3, .int .u64 b3, .string t3, .slice ka3 kl3 kc3, .slice ia3 il3 ic3] 26 (0, 0))) := (hb.block _ (lt_of_block G5.out)).trans G5.out
  replace G6 : Hid (W6.heap[g6]? = some (.cells #[.int .i64 k4, .int .u64 b4, .string t4, .slice ka4 kl4 kc4, .slice ia4 il4 ic4] 26 (0, 0))) := (hb.block _ (lt_of_block G6.out)).trans G6.out
  replace L3 : Hid (Lay W6 n (mk k3 b3 t3 ka3 kl3 kc3 ia3 il3 ic3) v) := Lay.below _ L3.out hb
  replace L4 : Hid (Lay W6 n (mk k4 b4 t4 ka4 kl4 kc4 ia4 il4 ic4) x) := Lay.below _ L4.out hb
  replace L6 : Hid (Lay W6 na (mk k6 b6 t6 ka6 kl6 kc6 ia6 il6 ic6) ta) := Lay.below _ L6.out hb
  replace BW : Hid (Below w.heap.size w W6) := nxt BW.out hb
  clear hb
  generalize c6.heap.size = gg6 at X6 ⊢
  obtain ⟨x0, x1, x2, x3, x4, -⟩ := box_cells T1.out
  go_wp2_with fail
  refine (CH.out _ _ (Lay.below n HU.out BW.out) (HP.out.1.below BW.out)).mono ?_
  intro e c7 hR
  obtain ⟨y, E, rfl, ho, -, hb⟩ := hR
  have hl := Own.lay _ ho
  obtain ⟨k7, b7, t7, ka7, kl7, kc7, ia7, il7, ic7, rfl⟩ := Lay.shape _ hl
  simp only at hl
  clear x0 x1 x2 x3 x4
  replace T1 : Hid (c7.heap[w.heap.size]? = some (.cells #[.int .i64 k, .int .u64 b, .string t, .slice ka kl kc, .slice ia il ic] 26 (0, 0))) := (hb.block _ (lt_of_block T1.out)).trans T1.out
  replace T2 : Hid (c7.heap[w.heap.size + 1]? = some (.cells #[.int .i64 k1, .int .u64 b1, .string t1, .slice ka1 kl1 kc1, .slice ia1 il1 ic1] 26 (0, 0))) := (hb.block _ (lt_of_block T2.out)).trans T2.out
  replace G5 : Hid (c7.heap[g5]? = some (.cells #[.int .i64 k3, .int .u64 b3, .string t3, .slice ka3 kl3 kc3, .slice ia3 il3 ic3] 26 (0, 0))) := (hb.block _ (lt_of_block G5.out)).trans G5.out
  replace G6 : Hid (c7.heap[g6]? = some (.cells #[.int .i64 k4, .int .u64 b4, .string t4, .slice ka4 kl4 kc4, .slice ia4 il4 ic4] 26 (0, 0))) := (hb.block _ (lt_of_block G6.out)).trans G6.out
  replace X6 : Hid (c7.heap[gg6]? = some (.cells #[.int .i64 k6, .int .u64 b6, .string t6, .slice ka6 kl6 kc6, .slice ia6 il6 ic6] 26 (0, 0))) := (hb.block _ (lt_of_block X6.out)).trans X6.out
  replace L3 : Hid (Lay c7 n (mk k3 b3 t3 ka3 kl3 kc3 ia3 il3 ic3) v) := Lay.below _ L3.out hb
  replace L4 : Hid (Lay c7 n (mk k4 b4 t4 ka4 kl4 kc4 ia4 il4 ic4) x) := Lay.below _ L4.out hb
  replace L6 : Hid (Lay c7 na (mk k6 b6 t6 ka6 kl6 kc6 ia6 il6 ic6) ta) := Lay.below _ L6.out hb
  replace BW : Hid (Below w.heap.size w c7) := nxt BW.out hb
  have L7 : Hid (Lay c7 na (mk k7 b7 t7 ka7 kl7 kc7 ia7 il7 ic7) ta) := hl
  clear ho hl hb
  go_upto_region 4 with fail
  have hb := below_one c7 (.cells #[.int .i64 k7, .int .u64 b7, .string t7, .slice ka7 kl7 kc7, .slice ia7 il7 ic7] 26)
  have X7 : Hid ((c7.alloc (.cells #[.int .i64 k7, .int .u64 b7, .string t7, .slice ka7 kl7 kc7, .slice ia7 il7 ic7] 26)).heap[c7.heap.size]? = some (.cells #[.int .i64 k7, .int .u64 b7, .string t7, .slice ka7 kl7 kc7, .slice ia7 il7 ic7] 26 (0, 0))) := heap_alloc_new _ _
  generalize c7.alloc (.cells #[.int .i64 k7, .int .u64 b7, .string t7, .slice ka7 kl7 kc7, .slice ia7 il7 ic7] 26) = W7 at hb X7 ⊢
  replace T1 : Hid (W7.heap[w.heap.size]? = some (.cells #[.int .i64 k, .int .u64 b, .string t, .slice ka kl kc, .slice ia il ic] 26 (0, 0))) := (hb.block _ (lt_of_block T1.out)).trans T1.out
  replace T2 : Hid (W7.heap[w.heap.size + 1]? = some (.cells #[.int .i64 k1, .int .u64 b1, .string t1, .slice ka1 kl1 kc1, .slice ia1 il1 ic1] 26 (0, 0))) := (hb.block _ (lt_of_block T2.out)).trans T2.out
  replace G5 : Hid (W7.heap[g5]? = some (.cells #[.int .i64 k3, .int .u64 b3, .string t3, .slice ka3 kl3 kc3, .slice ia3 il3 ic3] 26 (0, 0))) := (hb.block _ (lt_of_block G5.out)).trans G5.out
  replace G6 : Hid (W7.heap[g6]? = some (.cells #[.int .i64 k4, .int .u64 b4, .string t4, .slice ka4 kl4 kc4, .slice ia4 il4 ic4] 26 (0, 0))) := (hb.block _ (lt_of_block G6.out)).trans G6.out
  replace X6 : Hid (W7.heap[gg6]? = some (.cells #[.int .i64 k6, .int .u64 b6, .string t6, .slice ka6 kl6 kc6, .slice ia6 il6 ic6] 26 (0, 0))) := (hb.block _ (lt_of_block X6.out)).trans X6.out
  replace L3 : Hid (Lay W7 n (mk k3 b3 t3 ka3 kl3 kc3 ia3 il3 ic3) v) := Lay.below _ L3.out hb
  replace L4 : Hid (Lay W7 n (mk k4 b4 t4 ka4 kl4 kc4 ia4 il4 ic4) x) := Lay.below _ L4.out hb
  replace L6 : Hid (Lay W7 na (mk k6 b6 t6 ka6 kl6 kc6 ia6 il6 ic6) ta) := Lay.below _ L6.out hb
  replace L7 : Hid (Lay W7 na (mk k7 b7 t7 ka7 kl7 kc7 ia7 il7 ic7) ta) := Lay.below _ L7.out hb
  replace BW : Hid (Below w.heap.size w W7) := nxt BW.out hb
  clear hb
  generalize c7.heap.size = gg7 at X7 ⊢
  obtain ⟨x0, x1, x2, x3, x4, -⟩ := box_cells G5.out
  obtain ⟨y0, y1, y2, y3, y4, -⟩ := box_cells G6.out
  go_wp2_with fail
  refine (CS.out _ _ _ L3.out L4.out (HP.out.1.below BW.out)).mono ?_
  intro e c8 hR
  obtain ⟨y, E, rfl, ho, -, hb⟩ := hR
  have hl := Own.lay _ ho
  obtain ⟨k8, b8, t8, ka8, kl8, kc8, ia8, il8, ic8, rfl⟩ := Lay.shape _ hl
  simp only at hl
  clear x0 x1 x2 x3 x4 y0 y1 y2 y3 y4
  replace T1 : Hid (c8.heap[w.heap.size]? = some (.cells #[.int .i64 k, .int .u64 b, .string t, .slice ka kl kc, .slice ia il ic] 26 (0, 0))) := (hb.block _ (lt_of_block T1.out)).trans T1.out
  replace T2 : Hid (c8.heap[w.heap.size + 1]? = some (.cells #[.int .i64 k1, .int .u64 b1, .string t1, .slice ka1 kl1 kc1, .slice ia1 il1 ic1] 26 (0, 0))) := (hb.block _ (lt_of_block T2.out)).trans T2.out
  replace G5 : Hid (c8.heap[g5]? = some (.cells #[.int .i64 k3, .int .u64 b3, .string t3, .slice ka3 kl3 kc3, .slice ia3 il3 ic3] 26 (0, 0))) := (hb.block _ (lt_of_block G5.out)).trans G5.out
  replace G6 : Hid (c8.heap[g6]? = some (.cells #[.int .i64 k4, .int .u64 b4, .string t4, .slice ka4 kl4 kc4, .slice ia4 il4 ic4] 26 (0, 0))) := (hb.block _ (lt_of_block G6.out)).trans G6.out
  replace X6 : Hid (c8.heap[gg6]? = some (.cells #[.int .i64 k6, .int .u64 b6, .string t6, .slice ka6 kl6 kc6, .slice ia6 il6 ic6] 26 (0, 0))) := (hb.block _ (lt_of_block X6.out)).trans X6.out
  replace X7 : Hid (c8.heap[gg7]? = some (.cells #[.int .i64 k7, .int .u64 b7, .string t7, .slice ka7 kl7 kc7, .slice ia7 il7 ic7] 26 (0, 0))) := (hb.block _ (lt_of_block X7.out)).trans X7.out
  replace L3 : Hid (Lay c8 n (mk k3 b3 t3 ka3 kl3 kc3 ia3 il3 ic3) v) := Lay.below _ L3.out hb
  replace L4 : Hid (Lay c8 n (mk k4 b4 t4 ka4 kl4 kc4 ia4 il4 ic4) x) := Lay.below _ L4.out hb
  replace L6 : Hid (Lay c8 na (mk k6 b6 t6 ka6 kl6 kc6 ia6 il6 ic6) ta) := Lay.below _ L6.out hb
  replace L7 : Hid (Lay c8 na (mk k7 b7 t7 ka7 kl7 kc7 ia7 il7 ic7) ta) := Lay.below _ L7.out hb
  replace BW : Hid (Below w.heap.size w c8) := nxt BW.out hb
  have L8 : Hid (Lay c8 nr (mk k8 b8 t8 ka8 kl8 kc8 ia8 il8 ic8) tr) := hl
  clear ho hl hb
  go_upto_region 5 with fail
  have hb := below_one c8 (.cells #[.int .i64 k8, .int .u64 b8, .string t8, .slice ka8 kl8 kc8, .slice ia8 il8 ic8] 26)
  have X8 : Hid ((c8.alloc (.cells #[.int .i64 k8, .int .u64 b8, .string t8, .slice ka8 kl8 kc8, .slice ia8 il8 ic8] 26)).heap[c8.heap.size]? = some (.cells #[.int .i64 k8, .int .u64 b8, .string t8, .slice ka8 kl8 kc8, .slice ia8 il8 ic8] 26 (0, 0))) := heap_alloc_new _ _
  generalize c8.alloc (.cells #[.int .i64 k8, .int .u64 b8, .string t8, .slice ka8 kl8 kc8, .slice ia8 il8 ic8] 26) = W8 at hb X8 ⊢
  replace T1 : Hid (W8.heap[w.heap.size]? = some (.cells #[.int .i64 k, .int .u64 b, .string t, .slice ka kl kc, .slice ia il ic] 26 (0, 0))) := (hb.block _ (lt_of_block T1.out)).trans T1.out
  replace T2 : Hid (W8.heap[w.heap.size + 1]? = some (.cells #[.int .i64 k1, .int .u64 b1, .string t1, .slice ka1 kl1 kc1, .slice ia1 il1 ic1] 26 (0, 0))) := (hb.block _ (lt_of_block T2.out)).trans T2.out
  replace G5 : Hid (W8.heap[g5]? = some (.cells #[.int .i64 k3, .int .u64 b3, .string t3, .slice ka3 kl3 kc3, .slice ia3 il3 ic3] 26 (0, 0))) := (hb.block _ (lt_of_block G5.out)).trans G5.out
  replace G6 : Hid (W8.heap[g6]? = some (.cells #[.int .i64 k4, .int .u64 b4, .string t4, .slice ka4 kl4 kc4, .slice ia4 il4 ic4] 26 (0, 0))) := (hb.block _ (lt_of_block G6.out)).trans G6.out
  replace X6 : Hid (W8.heap[gg6]? = some (.cells #[.int .i64 k6, .int .u64 b6, .string t6, .slice ka6 kl6 kc6, .slice ia6 il6 ic6] 26 (0, 0))) := (hb.block _ (lt_of_block X6.out)).trans X6.out
  replace X7 : Hid (W8.heap[gg7]? = some (.cells #[.int .i64 k7, .int .u64 b7, .string t7, .slice ka7 kl7 kc7, .slice ia7 il7 ic7] 26 (0, 0))) := (hb.block _ (lt_of_block X7.out)).trans X7.out
  replace L3 : Hid (Lay W8 n (mk k3 b3 t3 ka3 kl3 kc3 ia3 il3 ic3) v) := Lay.below _ L3.out hb
  replace L4 : Hid (Lay W8 n (mk k4 b4 t4 ka4 kl4 kc4 ia4 il4 ic4) x) := Lay.below _ L4.out hb
  replace L6 : Hid (Lay W8 na (mk k6 b6 t6 ka6 kl6 kc6 ia6 il6 ic6) ta) := Lay.below _ L6.out hb
  replace L7 : Hid (Lay W8 na (mk k7 b7 t7 ka7 kl7 kc7 ia7 il7 ic7) ta) := Lay.below _ L7.out hb
  replace L8 : Hid (Lay W8 nr (mk k8 b8 t8 ka8 kl8 kc8 ia8 il8 ic8) tr) := Lay.below _ L8.out hb
  replace BW : Hid (Below w.heap.size w W8) := nxt BW.out hb
  clear hb
  generalize c8.heap.size = gg8 at X8 ⊢
  obtain ⟨x0, x1, x2, x3, x4, -⟩ := box_cells T1.out
  obtain ⟨y0, y1, y2, y3, y4, -⟩ := box_cells T2.out
  go_wp2_with fail
  refine (CT.out _ _ _ (Lay.below n HU.out BW.out) (Lay.below n HV.out BW.out) (HP.out.1.below BW.out)).mono ?_
  intro e c9 hR
  obtain ⟨y, E, rfl, ho, -, hb⟩ := hR
  have hl := Own.lay _ ho
  obtain ⟨k9, b9, t9, ka9, kl9, kc9, ia9, il9, ic9, rfl⟩ := Lay.shape _ hl
  simp only at hl
  clear x0 x1 x2 x3 x4 y0 y1 y2 y3 y4
  replace T1 : Hid (c9.heap[w.heap.size]? = some (.cells #[.int .i64 k, .int .u64 b, .string t, .slice ka kl kc, .slice ia il ic] 26 (0, 0))) := (hb.block _ (lt_of_block T1.out)).trans T1.out
  replace T2 : Hid (c9.heap[w.heap.size + 1]? = some (.cells #[.int .i64 k1, .int .u64 b1, .string t1, .slice ka1 kl1 kc1, .slice ia1 il1 ic1] 26 (0, 0))) := (hb.block _ (lt_of_block T2.out)).trans T2.out
  replace G5 : Hid (c9.heap[g5]? = some (.cells #[.int .i64 k3, .int .u64 b3, .string t3, .slice ka3 kl3 kc3, .slice ia3 il3 ic3] 26 (0, 0))) := (hb.block _ (lt_of_block G5.out)).trans G5.out
  replace G6 : Hid (c9.heap[g6]? = some (.cells #[.int .i64 k4, .int .u64 b4, .string t4, .slice ka4 kl4 kc4, .slice ia4 il4 ic4] 26 (0, 0))) := (hb.block _ (lt_of_block G6.out)).trans G6.out
  replace X6 : Hid (c9.heap[gg6]? = some (.cells #[.int .i64 k6, .int .u64 b6, .string t6, .slice ka6 kl6 kc6, .slice ia6 il6 ic6] 26 (0, 0))) := (hb.block _ (lt_of_block X6.out)).trans X6.out
  replace X7 : Hid (c9.heap[gg7]? = some (.cells #[.int .i64 k7, .int .u64 b7, .string t7, .slice ka7 kl7 kc7, .slice ia7 il7 ic7] 26 (0, 0))) := (hb.block _ (lt_of_block X7.out)).trans X7.out
  replace X8 : Hid (c9.heap[gg8]? = some (.cells #[.int .i64 k8, .int .u64 b8, .string t8, .slice ka8 kl8 kc8, .slice ia8 il8 ic8] 26 (0, 0))) := (hb.block _ (lt_of_block X8.out)).trans X8.out
  replace L3 : Hid (Lay c9 n (mk k3 b3 t3 ka3 kl3 kc3 ia3 il3 ic3) v) := Lay.below _ L3.out hb
  replace L4 : Hid (Lay c9 n (mk k4 b4 t4 ka4 kl4 kc4 ia4 il4 ic4) x) := Lay.below _ L4.out hb
  replace L6 : Hid (Lay c9 na (mk k6 b6 t6 ka6 kl6 kc6 ia6 il6 ic6) ta) := Lay.below _ L6.out hb
  replace L7 : Hid (Lay c9 na (mk k7 b7 t7 ka7 kl7 kc7 ia7 il7 ic7) ta) := Lay.below _ L7.out hb
  replace L8 : Hid (Lay c9 nr (mk k8 b8 t8 ka8 kl8 kc8 ia8 il8 ic8) tr) := Lay.below _ L8.out hb
  replace BW : Hid (Below w.heap.size w c9) := nxt BW.out hb
  have L9 : Hid (Lay c9 nr (mk k9 b9 t9 ka9 kl9 kc9 ia9 il9 ic9) tr) := hl
  clear ho hl hb
  go_upto_region 6 with fail
  have hb := below_one c9 (.cells #[.int .i64 k9, .int .u64 b9, .string t9, .slice ka9 kl9 kc9, .slice ia9 il9 ic9] 26)
  have X9 : Hid ((c9.alloc (.cells #[.int .i64 k9, .int .u64 b9, .string t9, .slice ka9 kl9 kc9, .slice ia9 il9 ic9] 26)).heap[c9.heap.size]? = some (.cells #[.int .i64 k9, .int .u64 b9, .string t9, .slice ka9 kl9 kc9, .slice ia9 il9 ic9] 26 (0, 0))) := heap_alloc_new _ _
  generalize c9.alloc (.cells #[.int .i64 k9, .int .u64 b9, .string t9, .slice ka9 kl9 kc9, .slice ia9 il9 ic9] 26) = W9 at hb X9 ⊢
  replace T1 : Hid (W9.heap[w.heap.size]? = some (.cells #[.int .i64 k, .int .u64 b, .string t, .slice ka kl kc, .slice ia il ic] 26 (0, 0))) := (hb.block _ (lt_of_block T1.out)).trans T1.out
  replace T2 : Hid (W9.heap[w.heap.size + 1]? = some (.cells #[.int .i64 k1, .int .u64 b1, .string t1, .slice ka1 kl1 kc1, .slice ia1 il1 ic1] 26 (0, 0))) := (hb.block _ (lt_of_block T2.out)).trans T2.out
  replace G5 : Hid (W9.heap[g5]? = some (.cells #[.int .i64 k3, .int .u64 b3, .string t3, .slice ka3 kl3 kc3, .slice ia3 il3 ic3] 26 (0, 0))) := (hb.block _ (lt_of_block G5.out)).trans G5.out
  replace G6 : Hid (W9.heap[g6]? = some (.cells #[.int .i64 k4, .int .u64 b4, .string t4, .slice ka4 kl4 kc4, .slice ia4 il4 ic4] 26 (0, 0))) := (hb.block _ (lt_of_block G6.out)).trans G6.out
  replace X6 : Hid (W9.heap[gg6]? = some (.cells #[.int .i64 k6, .int .u64 b6, .string t6, .slice ka6 kl6 kc6, .slice ia6 il6 ic6] 26 (0, 0))) := (hb.block _ (lt_of_block X6.out)).trans X6.out
  replace X7 : Hid (W9.heap[gg7]? = some (.cells #[.int .i64 k7, .int .u64 b7, .string t7, .slice ka7 kl7 kc7, .slice ia7 il7 ic7] 26 (0, 0))) := (hb.block _ (lt_of_block X7.out)).trans X7.out
  replace X8 : Hid (W9.heap[gg8]? = some (.cells #[.int .i64 k8, .int .u64 b8, .string t8, .slice ka8 kl8 kc8, .slice ia8 il8 ic8] 26 (0, 0))) := (hb.block _ (lt_of_block X8.out)).trans X8.out
  replace L3 : Hid (Lay W9 n (mk k3 b3 t3 ka3 kl3 kc3 ia3 il3 ic3) v) := Lay.below _ L3.out hb
  replace L4 : Hid (Lay W9 n (mk k4 b4 t4 ka4 kl4 kc4 ia4 il4 ic4) x) := Lay.below _ L4.out hb
  replace L6 : Hid (Lay W9 na (mk k6 b6 t6 ka6 kl6 kc6 ia6 il6 ic6) ta) := Lay.below _ L6.out hb
  replace L7 : Hid (Lay W9 na (mk k7 b7 t7 ka7 kl7 kc7 ia7 il7 ic7) ta) := Lay.below _ L7.out hb
  replace L8 : Hid (Lay W9 nr (mk k8 b8 t8 ka8 kl8 kc8 ia8 il8 ic8) tr) := Lay.below _ L8.out hb
  replace L9 : Hid (Lay W9 nr (mk k9 b9 t9 ka9 kl9 kc9 ia9 il9 ic9) tr) := Lay.below _ L9.out hb
  replace BW : Hid (Below w.heap.size w W9) := nxt BW.out hb
  clear hb
  generalize c9.heap.size = gg9 at X9 ⊢
  have DS : Hid (∀ (W : World) (m : Nat) (u : V m) (y z : Value), Lay W m y u → Lay W m z u → Calls Try.prog 9 #[y, z] W fun e w' => e = .returned (.bool true) ∧ Below W.heap.size W w') := fun W m u y z h h1 => by
    have := same_any m u u y z W h h1
    rw [one_true rfl] at this
    exact this
  obtain ⟨x0, x1, x2, x3, x4, -⟩ := box_cells X6.out
  obtain ⟨y0, y1, y2, y3, y4, -⟩ := box_cells X7.out
  go_wp2_with fail
  refine (DS.out _ _ _ _ _ L6.out L7.out).mono ?_
  rintro e d1 ⟨rfl, hb⟩
  clear x0 x1 x2 x3 x4 y0 y1 y2 y3 y4
  replace T1 : Hid (d1.heap[w.heap.size]? = some (.cells #[.int .i64 k, .int .u64 b, .string t, .slice ka kl kc, .slice ia il ic] 26 (0, 0))) := (hb.block _ (lt_of_block T1.out)).trans T1.out
  replace T2 : Hid (d1.heap[w.heap.size + 1]? = some (.cells #[.int .i64 k1, .int .u64 b1, .string t1, .slice ka1 kl1 kc1, .slice ia1 il1 ic1] 26 (0, 0))) := (hb.block _ (lt_of_block T2.out)).trans T2.out
  replace G5 : Hid (d1.heap[g5]? = some (.cells #[.int .i64 k3, .int .u64 b3, .string t3, .slice ka3 kl3 kc3, .slice ia3 il3 ic3] 26 (0, 0))) := (hb.block _ (lt_of_block G5.out)).trans G5.out
  replace G6 : Hid (d1.heap[g6]? = some (.cells #[.int .i64 k4, .int .u64 b4, .string t4, .slice ka4 kl4 kc4, .slice ia4 il4 ic4] 26 (0, 0))) := (hb.block _ (lt_of_block G6.out)).trans G6.out
  replace X6 : Hid (d1.heap[gg6]? = some (.cells #[.int .i64 k6, .int .u64 b6, .string t6, .slice ka6 kl6 kc6, .slice ia6 il6 ic6] 26 (0, 0))) := (hb.block _ (lt_of_block X6.out)).trans X6.out
  replace X7 : Hid (d1.heap[gg7]? = some (.cells #[.int .i64 k7, .int .u64 b7, .string t7, .slice ka7 kl7 kc7, .slice ia7 il7 ic7] 26 (0, 0))) := (hb.block _ (lt_of_block X7.out)).trans X7.out
  replace X8 : Hid (d1.heap[gg8]? = some (.cells #[.int .i64 k8, .int .u64 b8, .string t8, .slice ka8 kl8 kc8, .slice ia8 il8 ic8] 26 (0, 0))) := (hb.block _ (lt_of_block X8.out)).trans X8.out
  replace X9 : Hid (d1.heap[gg9]? = some (.cells #[.int .i64 k9, .int .u64 b9, .string t9, .slice ka9 kl9 kc9, .slice ia9 il9 ic9] 26 (0, 0))) := (hb.block _ (lt_of_block X9.out)).trans X9.out
  replace L3 : Hid (Lay d1 n (mk k3 b3 t3 ka3 kl3 kc3 ia3 il3 ic3) v) := Lay.below _ L3.out hb
  replace L4 : Hid (Lay d1 n (mk k4 b4 t4 ka4 kl4 kc4 ia4 il4 ic4) x) := Lay.below _ L4.out hb
  replace L6 : Hid (Lay d1 na (mk k6 b6 t6 ka6 kl6 kc6 ia6 il6 ic6) ta) := Lay.below _ L6.out hb
  replace L7 : Hid (Lay d1 na (mk k7 b7 t7 ka7 kl7 kc7 ia7 il7 ic7) ta) := Lay.below _ L7.out hb
  replace L8 : Hid (Lay d1 nr (mk k8 b8 t8 ka8 kl8 kc8 ia8 il8 ic8) tr) := Lay.below _ L8.out hb
  replace L9 : Hid (Lay d1 nr (mk k9 b9 t9 ka9 kl9 kc9 ia9 il9 ic9) tr) := Lay.below _ L9.out hb
  replace BW : Hid (Below w.heap.size w d1) := nxt BW.out hb
  clear hb
  go_wp2_with fail
  refine (num_any _ _).mono ?_
  rintro e wn ⟨rfl, hn⟩
  subst wn
  obtain ⟨x0, x1, x2, x3, x4, -⟩ := box_cells X8.out
  obtain ⟨y0, y1, y2, y3, y4, -⟩ := box_cells X9.out
  go_wp2_with fail
  refine (DS.out _ _ _ _ _ L8.out L9.out).mono ?_
  rintro e d2 ⟨rfl, hb⟩
  clear x0 x1 x2 x3 x4 y0 y1 y2 y3 y4
  replace T1 : Hid (d2.heap[w.heap.size]? = some (.cells #[.int .i64 k, .int .u64 b, .string t, .slice ka kl kc, .slice ia il ic] 26 (0, 0))) := (hb.block _ (lt_of_block T1.out)).trans T1.out
  replace T2 : Hid (d2.heap[w.heap.size + 1]? = some (.cells #[.int .i64 k1, .int .u64 b1, .string t1, .slice ka1 kl1 kc1, .slice ia1 il1 ic1] 26 (0, 0))) := (hb.block _ (lt_of_block T2.out)).trans T2.out
  replace G5 : Hid (d2.heap[g5]? = some (.cells #[.int .i64 k3, .int .u64 b3, .string t3, .slice ka3 kl3 kc3, .slice ia3 il3 ic3] 26 (0, 0))) := (hb.block _ (lt_of_block G5.out)).trans G5.out
  replace G6 : Hid (d2.heap[g6]? = some (.cells #[.int .i64 k4, .int .u64 b4, .string t4, .slice ka4 kl4 kc4, .slice ia4 il4 ic4] 26 (0, 0))) := (hb.block _ (lt_of_block G6.out)).trans G6.out
  replace X6 : Hid (d2.heap[gg6]? = some (.cells #[.int .i64 k6, .int .u64 b6, .string t6, .slice ka6 kl6 kc6, .slice ia6 il6 ic6] 26 (0, 0))) := (hb.block _ (lt_of_block X6.out)).trans X6.out
  replace X7 : Hid (d2.heap[gg7]? = some (.cells #[.int .i64 k7, .int .u64 b7, .string t7, .slice ka7 kl7 kc7, .slice ia7 il7 ic7] 26 (0, 0))) := (hb.block _ (lt_of_block X7.out)).trans X7.out
  replace X8 : Hid (d2.heap[gg8]? = some (.cells #[.int .i64 k8, .int .u64 b8, .string t8, .slice ka8 kl8 kc8, .slice ia8 il8 ic8] 26 (0, 0))) := (hb.block _ (lt_of_block X8.out)).trans X8.out
  replace X9 : Hid (d2.heap[gg9]? = some (.cells #[.int .i64 k9, .int .u64 b9, .string t9, .slice ka9 kl9 kc9, .slice ia9 il9 ic9] 26 (0, 0))) := (hb.block _ (lt_of_block X9.out)).trans X9.out
  replace L3 : Hid (Lay d2 n (mk k3 b3 t3 ka3 kl3 kc3 ia3 il3 ic3) v) := Lay.below _ L3.out hb
  replace L4 : Hid (Lay d2 n (mk k4 b4 t4 ka4 kl4 kc4 ia4 il4 ic4) x) := Lay.below _ L4.out hb
  replace L6 : Hid (Lay d2 na (mk k6 b6 t6 ka6 kl6 kc6 ia6 il6 ic6) ta) := Lay.below _ L6.out hb
  replace L7 : Hid (Lay d2 na (mk k7 b7 t7 ka7 kl7 kc7 ia7 il7 ic7) ta) := Lay.below _ L7.out hb
  replace L8 : Hid (Lay d2 nr (mk k8 b8 t8 ka8 kl8 kc8 ia8 il8 ic8) tr) := Lay.below _ L8.out hb
  replace L9 : Hid (Lay d2 nr (mk k9 b9 t9 ka9 kl9 kc9 ia9 il9 ic9) tr) := Lay.below _ L9.out hb
  replace BW : Hid (Below w.heap.size w d2) := nxt BW.out hb
  clear hb
  go_wp2_with fail
  refine (num_any _ _).mono ?_
  rintro e wn ⟨rfl, hn⟩
  subst wn
  obtain ⟨x0, x1, x2, x3, x4, -⟩ := box_cells G5.out
  obtain ⟨y0, y1, y2, y3, y4, -⟩ := box_cells T1.out
  go_wp2_with fail
  refine (DS.out _ _ _ _ _ L3.out (Lay.below n HU.out BW.out)).mono ?_
  rintro e d3 ⟨rfl, hb⟩
  clear x0 x1 x2 x3 x4 y0 y1 y2 y3 y4
  replace T1 : Hid (d3.heap[w.heap.size]? = some (.cells #[.int .i64 k, .int .u64 b, .string t, .slice ka kl kc, .slice ia il ic] 26 (0, 0))) := (hb.block _ (lt_of_block T1.out)).trans T1.out
  replace T2 : Hid (d3.heap[w.heap.size + 1]? = some (.cells #[.int .i64 k1, .int .u64 b1, .string t1, .slice ka1 kl1 kc1, .slice ia1 il1 ic1] 26 (0, 0))) := (hb.block _ (lt_of_block T2.out)).trans T2.out
  replace G5 : Hid (d3.heap[g5]? = some (.cells #[.int .i64 k3, .int .u64 b3, .string t3, .slice ka3 kl3 kc3, .slice ia3 il3 ic3] 26 (0, 0))) := (hb.block _ (lt_of_block G5.out)).trans G5.out
  replace G6 : Hid (d3.heap[g6]? = some (.cells #[.int .i64 k4, .int .u64 b4, .string t4, .slice ka4 kl4 kc4, .slice ia4 il4 ic4] 26 (0, 0))) := (hb.block _ (lt_of_block G6.out)).trans G6.out
  replace X6 : Hid (d3.heap[gg6]? = some (.cells #[.int .i64 k6, .int .u64 b6, .string t6, .slice ka6 kl6 kc6, .slice ia6 il6 ic6] 26 (0, 0))) := (hb.block _ (lt_of_block X6.out)).trans X6.out
  replace X7 : Hid (d3.heap[gg7]? = some (.cells #[.int .i64 k7, .int .u64 b7, .string t7, .slice ka7 kl7 kc7, .slice ia7 il7 ic7] 26 (0, 0))) := (hb.block _ (lt_of_block X7.out)).trans X7.out
  replace X8 : Hid (d3.heap[gg8]? = some (.cells #[.int .i64 k8, .int .u64 b8, .string t8, .slice ka8 kl8 kc8, .slice ia8 il8 ic8] 26 (0, 0))) := (hb.block _ (lt_of_block X8.out)).trans X8.out
  replace X9 : Hid (d3.heap[gg9]? = some (.cells #[.int .i64 k9, .int .u64 b9, .string t9, .slice ka9 kl9 kc9, .slice ia9 il9 ic9] 26 (0, 0))) := (hb.block _ (lt_of_block X9.out)).trans X9.out
  replace L3 : Hid (Lay d3 n (mk k3 b3 t3 ka3 kl3 kc3 ia3 il3 ic3) v) := Lay.below _ L3.out hb
  replace L4 : Hid (Lay d3 n (mk k4 b4 t4 ka4 kl4 kc4 ia4 il4 ic4) x) := Lay.below _ L4.out hb
  replace L6 : Hid (Lay d3 na (mk k6 b6 t6 ka6 kl6 kc6 ia6 il6 ic6) ta) := Lay.below _ L6.out hb
  replace L7 : Hid (Lay d3 na (mk k7 b7 t7 ka7 kl7 kc7 ia7 il7 ic7) ta) := Lay.below _ L7.out hb
  replace L8 : Hid (Lay d3 nr (mk k8 b8 t8 ka8 kl8 kc8 ia8 il8 ic8) tr) := Lay.below _ L8.out hb
  replace L9 : Hid (Lay d3 nr (mk k9 b9 t9 ka9 kl9 kc9 ia9 il9 ic9) tr) := Lay.below _ L9.out hb
  replace BW : Hid (Below w.heap.size w d3) := nxt BW.out hb
  clear hb
  obtain ⟨x0, x1, x2, x3, x4, -⟩ := box_cells G6.out
  obtain ⟨y0, y1, y2, y3, y4, -⟩ := box_cells T2.out
  go_wp2_with fail
  refine (DS.out _ _ _ _ _ L4.out (Lay.below n HV.out BW.out)).mono ?_
  rintro e d4 ⟨rfl, hb⟩
  clear x0 x1 x2 x3 x4 y0 y1 y2 y3 y4
  replace T1 : Hid (d4.heap[w.heap.size]? = some (.cells #[.int .i64 k, .int .u64 b, .string t, .slice ka kl kc, .slice ia il ic] 26 (0, 0))) := (hb.block _ (lt_of_block T1.out)).trans T1.out
  replace T2 : Hid (d4.heap[w.heap.size + 1]? = some (.cells #[.int .i64 k1, .int .u64 b1, .string t1, .slice ka1 kl1 kc1, .slice ia1 il1 ic1] 26 (0, 0))) := (hb.block _ (lt_of_block T2.out)).trans T2.out
  replace G5 : Hid (d4.heap[g5]? = some (.cells #[.int .i64 k3, .int .u64 b3, .string t3, .slice ka3 kl3 kc3, .slice ia3 il3 ic3] 26 (0, 0))) := (hb.block _ (lt_of_block G5.out)).trans G5.out
  replace G6 : Hid (d4.heap[g6]? = some (.cells #[.int .i64 k4, .int .u64 b4, .string t4, .slice ka4 kl4 kc4, .slice ia4 il4 ic4] 26 (0, 0))) := (hb.block _ (lt_of_block G6.out)).trans G6.out
  replace X6 : Hid (d4.heap[gg6]? = some (.cells #[.int .i64 k6, .int .u64 b6, .string t6, .slice ka6 kl6 kc6, .slice ia6 il6 ic6] 26 (0, 0))) := (hb.block _ (lt_of_block X6.out)).trans X6.out
  replace X7 : Hid (d4.heap[gg7]? = some (.cells #[.int .i64 k7, .int .u64 b7, .string t7, .slice ka7 kl7 kc7, .slice ia7 il7 ic7] 26 (0, 0))) := (hb.block _ (lt_of_block X7.out)).trans X7.out
  replace X8 : Hid (d4.heap[gg8]? = some (.cells #[.int .i64 k8, .int .u64 b8, .string t8, .slice ka8 kl8 kc8, .slice ia8 il8 ic8] 26 (0, 0))) := (hb.block _ (lt_of_block X8.out)).trans X8.out
  replace X9 : Hid (d4.heap[gg9]? = some (.cells #[.int .i64 k9, .int .u64 b9, .string t9, .slice ka9 kl9 kc9, .slice ia9 il9 ic9] 26 (0, 0))) := (hb.block _ (lt_of_block X9.out)).trans X9.out
  replace L3 : Hid (Lay d4 n (mk k3 b3 t3 ka3 kl3 kc3 ia3 il3 ic3) v) := Lay.below _ L3.out hb
  replace L4 : Hid (Lay d4 n (mk k4 b4 t4 ka4 kl4 kc4 ia4 il4 ic4) x) := Lay.below _ L4.out hb
  replace L6 : Hid (Lay d4 na (mk k6 b6 t6 ka6 kl6 kc6 ia6 il6 ic6) ta) := Lay.below _ L6.out hb
  replace L7 : Hid (Lay d4 na (mk k7 b7 t7 ka7 kl7 kc7 ia7 il7 ic7) ta) := Lay.below _ L7.out hb
  replace L8 : Hid (Lay d4 nr (mk k8 b8 t8 ka8 kl8 kc8 ia8 il8 ic8) tr) := Lay.below _ L8.out hb
  replace L9 : Hid (Lay d4 nr (mk k9 b9 t9 ka9 kl9 kc9 ia9 il9 ic9) tr) := Lay.below _ L9.out hb
  replace BW : Hid (Below w.heap.size w d4) := nxt BW.out hb
  clear hb
  go_wp2_with fail
  refine (alive_any _).mono ?_
  rintro e w9 ⟨rfl, hb⟩
  go_wp2_with fail
  go_ret
  exact ⟨rfl, nxt BW.out hb⟩

set_option maxRecDepth 100000 in
set_option maxHeartbeats 1600000 in
theorem lifted (os : Os) (started : os.Started) (H : Type) (enc : TypeId × Value → H) :
    ReturnsInHanded {} Try.checked os 3 .any (Rows.valuePartsSpec.pre6 enc Try.prog Try.f3 Rows.valuePartsRow.domain false) (Rows.valuePartsSpec.post enc Try.prog Try.f3 false true false false) := by
  refine returnsInHanded_of_change_sized (C := Try.checked) Try.own started (by kernel_rfl) Try.func3
    (ChangeSpec.witness6 (enc := enc) (C := Try.checked) false ⟨#[], #[.agg #[.int .i64 0, .int .u64 0, .string ⟨#[]⟩, .slice none 0 0, .slice none 0 0], .slice none 0 0, .agg #[.int .i64 0, .int .u64 0, .string ⟨#[]⟩, .slice none 0 0, .slice none 0 0]], []⟩ 8 (by kernel_rfl) (by kernel_rfl) (by kernel_rfl) (by kernel_rfl)) ?_
  intro W base args ds gs before hval0 hW _ hsz0 _
  have hsz : (DataW.weightsEach Try.prog (Try.f3.params.toList ++ Rows.valuePartsSpec.plain.varTypes Try.prog) (ds ++ gs)).all (· ≤ reachBytes) = true := hsz0
  have hval : ∀ (j : Nat) t v, Try.f3.params[j]? = some t → args[j]? = some v → Value.okWide Try.prog W .any base t v := hval0
  have hW' := hW
  obtain ⟨p, q, hA0, hV, rfl, hfz, hnd⟩ := hW
  have hA : DataW.TrodAll enc Try.prog W 0 (fun _ => true) true Try.f3.params.toList args.toList ds p := hA0
  rw [Try.params3] at hA hval hsz
  obtain ⟨v0, vs0, d0, ds0, p0, q0, hargs, rfl, rfl, h0, r0⟩ := trodAll_cons hA
  obtain ⟨v1, vs1, d1, ds1, p1, q1, rfl, rfl, rfl, h1, r1⟩ := trodAll_cons r0
  obtain ⟨v2, vs2, d2, ds2, p2, q2, rfl, rfl, rfl, h2, r2⟩ := trodAll_cons r1
  obtain ⟨rfl, rfl, rfl⟩ := trodAll_nil r2
  obtain rfl : args = #[v0, v1, v2] := by cases args; simp_all
  obtain ⟨rfl, rfl⟩ := trodVars_none hV
  clear hA0 hval0
  simp only [List.append_nil] at hW' hsz
  have hlt : ∀ x ∈ p0 ++ p1 ++ p2, x.block < W.heap.size := fun x hx => hW'.lt x (by simpa using hx)
  have hall : ∀ x ∈ DataW.weightsEach Try.prog [26, 27, 26] [d0, d1, d2], x ≤ reachBytes := fun x hx => of_decide_eq_true (List.all_eq_true.1 hsz x hx)
  have g0 : ∀ x ∈ d0.weights Try.prog 26, x ≤ reachBytes := fun x hx => hall x (DataW.weights_mem_each (j := 0) rfl rfl x hx)
  obtain ⟨u0, l0⟩ := lay_of_arg (k := SizeOf.sizeOf d0 + SizeOf.sizeOf d2) (hval 0 _ v0 rfl rfl) h0 (by omega) g0
  have g1 : ∀ x ∈ d1.weights Try.prog 27, x ≤ reachBytes := fun x hx => hall x (DataW.weights_mem_each (j := 1) rfl rfl x hx)
  obtain ⟨u1, l1⟩ := path_of_arg (hval 1 _ v1 rfl rfl) h1 g1
  have g2 : ∀ x ∈ d2.weights Try.prog 26, x ≤ reachBytes := fun x hx => hall x (DataW.weights_mem_each (j := 2) rfl rfl x hx)
  obtain ⟨u2, l2⟩ := lay_of_arg (k := SizeOf.sizeOf d0 + SizeOf.sizeOf d2) (hval 2 _ v2 rfl rfl) h2 (by omega) g2
  refine (walk _ u0 v0 u1 v1 u2 v2 W l0 l1 l2).mono fun e W' ⟨he, bel⟩ => ?_
  subst he
  exact ⟨_, rfl, _, _, _, [], _, [], hW', trodAll_mk1 (shut_bool Try.underlying4 _), (trodAll_cons_mk (Below.trod Try.laidOut (by kernel_rfl) (of_decide_eq_true (by kernel_rfl)) h0 bel (fun x hx => hlt x (by simp [hx]))) (trodAll_cons_mk (Below.trod Try.laidOut (by kernel_rfl) (of_decide_eq_true (by kernel_rfl)) h1 bel (fun x hx => hlt x (by simp [hx]))) (trodAll_cons_mk (Below.trod Try.laidOut (by kernel_rfl) (of_decide_eq_true (by kernel_rfl)) h2 bel (fun x hx => hlt x (by simp [hx]))) trodAll_mk0))), rfl, bel.frame _, fun h => by cases h⟩

theorem over : Rows.valuePartsRow.holds Try.pinned (OpenSpec.ofChange Rows.valuePartsSpec) :=
  OpenClaim.holds_of_wide 3 Try.f3 rfl rfl rfl rfl rfl rfl rfl ⟨rfl, rfl, rfl, rfl, rfl⟩ rfl rfl rfl rfl rfl (by kernel_rfl) Try.func3 (by kernel_rfl)
    (of_decide_eq_true (by kernel_rfl)) (by unfold Func.isWrapper; first | (rw [if_pos (by decide +kernel)]; kernel_rfl) | (rw [if_neg (by decide +kernel)]; exact ⟨rfl, rfl⟩))
    (fun os started H enc _ => lifted os started H enc)

/-- THE STATEMENT. -/
theorem proved : Rows.ValuePartsSaid := over
#print axioms proved
end Go.Proofs.Ytkjiiggboblioaa.valueParts
