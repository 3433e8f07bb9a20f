/-
  PackTells holds for every value and every row of octets: the program and the page tell the same.
-/
import Derived.Test.YtihncekjbmepoabPkRDec
import Derived.Test.YtihncekjbmepoabPkCopy
import Derived.Test.YtihncekjbmepoabPkBytes
namespace Go.Proofs.Ytihncekjbmepoab.packTells
open Go.ChangeShapes Go.WideShapes Go.ChangeAt Go.RowKit
open Fl

set_option maxRecDepth 100000 in
set_option maxHeartbeats 12800000 in
theorem walk (n : Nat) (u : V n) (x : Value) (bs : List UInt8) (xb : Value) (w : World) (hu : Lay w n x u) (hb : BytesIs w xb bs) :
    Calls Try.prog 3 #[x, xb] w fun e w' => e = .returned (.bool true) ∧ Below w.heap.size w w' := by
  obtain ⟨k0, b0, t0, ka0, kl0, kc0, ia0, il0, ic0, rfl⟩ := Lay.shape n hu
  obtain ⟨ba, bc, rfl, hb, hbl⟩ := hb
  have HB : Hid (Oct w ba bc bs) := hb
  have HBL : Hid (bs.length ≤ 140737488351232) := hbl
  have HU : Hid (Lay w n (mk k0 b0 t0 ka0 kl0 kc0 ia0 il0 ic0) u) := hu
  clear hu hb hbl
  have CE : Hid (∀ w' y, Lay w' n y u → Calls Try.prog 11 #[y] w' fun e w'' => ∃ s, e = .returned (.tuple #[s, .int .i64 (chk u)]) ∧ Bs w'' w'.heap.size s (if chk u = 0 then enc n u else []) ∧ Below w'.heap.size w' w'') := fun w' y h => encode_any n u y w' h
  have RE : Hid (∀ w' y, Lay w' n y u → Calls Try.prog 12 #[y] w' fun e w'' => ∃ s, e = .returned (.tuple #[s, .int .i64 (chk u)]) ∧ Bs w'' w'.heap.size s (if chk u = 0 then enc n u else []) ∧ Below w'.heap.size w' w'') := fun w' y h => rencode_any n u y w' h
  have CD : Hid (∀ w' a c, Oct w' a c bs → Calls Try.prog 13 #[.slice a bs.length c] w' fun e w'' => ∃ y F, e = .returned (.tuple #[y, .int .i64 (decR bs).1]) ∧ Own w'' (decR bs).2.1 y (decR bs).2.2 F ∧ (∀ b, F b → w'.heap.size ≤ b ∧ b < w''.heap.size) ∧ Below w'.heap.size w' w'') := fun w' a c h => decode_any a c bs w' h
  have RD : Hid (∀ w' a c, Oct w' a c bs → Calls Try.prog 14 #[.slice a bs.length c] w' fun e w'' => ∃ y F, e = .returned (.tuple #[y, .int .i64 (decR bs).1]) ∧ Own w'' (decR bs).2.1 y (decR bs).2.2 F ∧ (∀ b, F b → w'.heap.size ≤ b ∧ b < w''.heap.size) ∧ Below w'.heap.size w' w'') := fun w' a c h => rdec_any a c bs w' h
  have CT : Hid (∀ w' a c, Oct w' a c bs → Calls Try.prog 15 #[.slice a bs.length c] w' fun e w'' => ∃ y F, e = .returned (.tuple #[y, .int .i64 ((takeR bs).2.2 : Int), .int .i64 (takeR bs).1]) ∧ Own w'' (takeR bs).2.1.1 y (takeR bs).2.1.2 F ∧ (∀ b, F b → w'.heap.size ≤ b ∧ b < w''.heap.size) ∧ Below w'.heap.size w' w'') := fun w' a c h => take_any a c bs w' h
  have RT : Hid (∀ w' a c, Oct w' a c bs → Calls Try.prog 16 #[.slice a bs.length c] w' fun e w'' => ∃ y F, e = .returned (.tuple #[y, .int .i64 ((takeR bs).2.2 : Int), .int .i64 (takeR bs).1]) ∧ Own w'' (takeR bs).2.1.1 y (takeR bs).2.1.2 F ∧ (∀ b, F b → w'.heap.size ≤ b ∧ b < w''.heap.size) ∧ Below w'.heap.size w' w'') := fun w' a c h => rtk_any a c bs w' h
  generalize hE : (if chk u = 0 then enc n u else []) = E at CE RE
  clear hE
  generalize hcu : chk u = cu at CE RE
  clear hcu
  generalize hR : decR bs = R at CD RD
  clear hR
  obtain ⟨de, dm, dv⟩ := R
  generalize hT : takeR bs = T at CT RT
  clear hT
  obtain ⟨te, ⟨tm, tv⟩, tn⟩ := T
  dsimp only at CD RD CT RT
  go_enter Try.func3, Try.ntmps3
  go_wp2_with fail
  have BW : Hid (Below w.heap.size w (w.alloc (.cells #[.int .i64 k0, .int .u64 b0, .string t0, .slice ka0 kl0 kc0, .slice ia0 il0 ic0] 26))) := below_one _ _
  have XV : Hid ((w.alloc (.cells #[.int .i64 k0, .int .u64 b0, .string t0, .slice ka0 kl0 kc0, .slice ia0 il0 ic0] 26)).heap[w.heap.size]? = some (.cells #[.int .i64 k0, .int .u64 b0, .string t0, .slice ka0 kl0 kc0, .slice ia0 il0 ic0] 26 (0, 0))) := heap_alloc_new _ _
  generalize (w.alloc (.cells #[.int .i64 k0, .int .u64 b0, .string t0, .slice ka0 kl0 kc0, .slice ia0 il0 ic0] 26)) = W1 at *
  refine (copy_any n u _ W1 (Lay.below n HU.out BW.out)).mono ?_
  rintro e w2 ⟨y, F, rfl, ho, -, hb⟩
  obtain ⟨k1, b1, t1, ka1, kl1, kc1, ia1, il1, ic1, rfl⟩ := Lay.shape n (Own.lay n ho)
  have BWn : Hid (Below w.heap.size w w2) := nxt BW.out hb
  have XVn : Hid (w2.heap[w.heap.size]? = some (.cells #[.int .i64 k0, .int .u64 b0, .string t0, .slice ka0 kl0 kc0, .slice ia0 il0 ic0] 26 (0, 0))) := (hb.block _ (lt_of_block XV.out)).trans XV.out
  clear BW XV
  have BW := BWn
  have XV := XVn
  clear BWn XVn
  have LO : Hid (Lay w2 n (mk k1 b1 t1 ka1 kl1 kc1 ia1 il1 ic1) u) := Own.lay n ho
  clear ho hb F
  go_wp2_with fail
  refine (copyB_any ba bc bs w2 (HB.out.below BW.out) HBL.out).mono ?_
  rintro e w3 ⟨s3, rfl, hs, hb⟩
  obtain ⟨a3, c3, rfl⟩ := hs.shape
  have BWn : Hid (Below w.heap.size w w3) := nxt BW.out hb
  have XVn : Hid (w3.heap[w.heap.size]? = some (.cells #[.int .i64 k0, .int .u64 b0, .string t0, .slice ka0 kl0 kc0, .slice ia0 il0 ic0] 26 (0, 0))) := (hb.block _ (lt_of_block XV.out)).trans XV.out
  have LOn : Hid (Lay w3 n (mk k1 b1 t1 ka1 kl1 kc1 ia1 il1 ic1) u) := Lay.below n LO.out hb
  clear BW XV LO
  have BW := BWn
  have XV := XVn
  have LO := LOn
  clear BWn XVn LOn
  have SI : Hid (Bs w3 w2.heap.size (.slice a3 bs.length c3) bs) := hs
  clear hs hb
  go_upto_region 2 with fail
  have bA := below_one w3 (.cells #[.int .i64 k1, .int .u64 b1, .string t1, .slice ka1 kl1 kc1, .slice ia1 il1 ic1] 26)
  have BWn : Hid (Below w.heap.size w (w3.alloc (.cells #[.int .i64 k1, .int .u64 b1, .string t1, .slice ka1 kl1 kc1, .slice ia1 il1 ic1] 26))) := nxt BW.out bA
  have XVn : Hid ((w3.alloc (.cells #[.int .i64 k1, .int .u64 b1, .string t1, .slice ka1 kl1 kc1, .slice ia1 il1 ic1] 26)).heap[w.heap.size]? = some (.cells #[.int .i64 k0, .int .u64 b0, .string t0, .slice ka0 kl0 kc0, .slice ia0 il0 ic0] 26 (0, 0))) := (bA.block _ (lt_of_block XV.out)).trans XV.out
  have LOn : Hid (Lay (w3.alloc (.cells #[.int .i64 k1, .int .u64 b1, .string t1, .slice ka1 kl1 kc1, .slice ia1 il1 ic1] 26)) n (mk k1 b1 t1 ka1 kl1 kc1 ia1 il1 ic1) u) := Lay.below n LO.out bA
  have SIn : Hid (Bs (w3.alloc (.cells #[.int .i64 k1, .int .u64 b1, .string t1, .slice ka1 kl1 kc1, .slice ia1 il1 ic1] 26)) w2.heap.size (.slice a3 bs.length c3) bs) := SI.out.below bA
  clear BW XV LO SI
  have BW := BWn
  have XV := XVn
  have LO := LOn
  have SI := SIn
  clear BWn XVn LOn SIn
  obtain ⟨g1, hg1⟩ : ∃ g, g = w3.heap.size := ⟨_, rfl⟩
  have XO : Hid ((w3.alloc (.cells #[.int .i64 k1, .int .u64 b1, .string t1, .slice ka1 kl1 kc1, .slice ia1 il1 ic1] 26)).heap[g1]? = some (.cells #[.int .i64 k1, .int .u64 b1, .string t1, .slice ka1 kl1 kc1, .slice ia1 il1 ic1] 26 (0, 0))) := by rw [hg1]; exact heap_alloc_new _ _
  clear bA
  generalize (w3.alloc (.cells #[.int .i64 k1, .int .u64 b1, .string t1, .slice ka1 kl1 kc1, .slice ia1 il1 ic1] 26)) = W4 at *
  rw [← hg1]
  clear hg1
  obtain ⟨cXO0, cXO1, cXO2, cXO3, cXO4, -⟩ := box_cells XO.out
  go_wp2_with fail
  refine (CE.out W4 _ LO.out).mono ?_
  rintro e w5 ⟨s5, rfl, hs, hb⟩
  obtain ⟨a5, c5, rfl⟩ := hs.shape
  clear cXO0 cXO1 cXO2 cXO3 cXO4
  have BWn : Hid (Below w.heap.size w w5) := nxt BW.out hb
  have XVn : Hid (w5.heap[w.heap.size]? = some (.cells #[.int .i64 k0, .int .u64 b0, .string t0, .slice ka0 kl0 kc0, .slice ia0 il0 ic0] 26 (0, 0))) := (hb.block _ (lt_of_block XV.out)).trans XV.out
  have LOn : Hid (Lay w5 n (mk k1 b1 t1 ka1 kl1 kc1 ia1 il1 ic1) u) := Lay.below n LO.out hb
  have SIn : Hid (Bs w5 w2.heap.size (.slice a3 bs.length c3) bs) := SI.out.below hb
  have XOn : Hid (w5.heap[g1]? = some (.cells #[.int .i64 k1, .int .u64 b1, .string t1, .slice ka1 kl1 kc1, .slice ia1 il1 ic1] 26 (0, 0))) := (hb.block _ (lt_of_block XO.out)).trans XO.out
  clear BW XV LO SI XO
  have BW := BWn
  have XV := XVn
  have LO := LOn
  have SI := SIn
  have XO := XOn
  clear BWn XVn LOn SIn XOn
  have SX : Hid (Bs w5 W4.heap.size (.slice a5 E.length c5) E) := hs
  clear hs hb
  obtain ⟨cXV0, cXV1, cXV2, cXV3, cXV4, -⟩ := box_cells XV.out
  go_wp2_with fail
  refine (RE.out w5 _ (Lay.below n HU.out BW.out)).mono ?_
  rintro e w6 ⟨s6, rfl, hs, hb⟩
  obtain ⟨a6, c6, rfl⟩ := hs.shape
  clear cXV0 cXV1 cXV2 cXV3 cXV4
  have BWn : Hid (Below w.heap.size w w6) := nxt BW.out hb
  have XVn : Hid (w6.heap[w.heap.size]? = some (.cells #[.int .i64 k0, .int .u64 b0, .string t0, .slice ka0 kl0 kc0, .slice ia0 il0 ic0] 26 (0, 0))) := (hb.block _ (lt_of_block XV.out)).trans XV.out
  have LOn : Hid (Lay w6 n (mk k1 b1 t1 ka1 kl1 kc1 ia1 il1 ic1) u) := Lay.below n LO.out hb
  have SIn : Hid (Bs w6 w2.heap.size (.slice a3 bs.length c3) bs) := SI.out.below hb
  have XOn : Hid (w6.heap[g1]? = some (.cells #[.int .i64 k1, .int .u64 b1, .string t1, .slice ka1 kl1 kc1, .slice ia1 il1 ic1] 26 (0, 0))) := (hb.block _ (lt_of_block XO.out)).trans XO.out
  have SXn : Hid (Bs w6 W4.heap.size (.slice a5 E.length c5) E) := SX.out.below hb
  clear BW XV LO SI XO SX
  have BW := BWn
  have XV := XVn
  have LO := LOn
  have SI := SIn
  have XO := XOn
  have SX := SXn
  clear BWn XVn LOn SIn XOn SXn
  have SY : Hid (Bs w6 w5.heap.size (.slice a6 E.length c6) E) := hs
  clear hs hb
  go_wp2_with fail
  refine (CD.out w6 a3 c3 (SI.out.oct (by have := HBL.out; omega))).mono ?_
  rintro e w7 ⟨y, F, rfl, ho, -, hb⟩
  obtain ⟨k2, b2, t2, ka2, kl2, kc2, ia2, il2, ic2, rfl⟩ := Lay.shape dm (Own.lay dm ho)
  have BWn : Hid (Below w.heap.size w w7) := nxt BW.out hb
  have XVn : Hid (w7.heap[w.heap.size]? = some (.cells #[.int .i64 k0, .int .u64 b0, .string t0, .slice ka0 kl0 kc0, .slice ia0 il0 ic0] 26 (0, 0))) := (hb.block _ (lt_of_block XV.out)).trans XV.out
  have LOn : Hid (Lay w7 n (mk k1 b1 t1 ka1 kl1 kc1 ia1 il1 ic1) u) := Lay.below n LO.out hb
  have SIn : Hid (Bs w7 w2.heap.size (.slice a3 bs.length c3) bs) := SI.out.below hb
  have XOn : Hid (w7.heap[g1]? = some (.cells #[.int .i64 k1, .int .u64 b1, .string t1, .slice ka1 kl1 kc1, .slice ia1 il1 ic1] 26 (0, 0))) := (hb.block _ (lt_of_block XO.out)).trans XO.out
  have SXn : Hid (Bs w7 W4.heap.size (.slice a5 E.length c5) E) := SX.out.below hb
  have SYn : Hid (Bs w7 w5.heap.size (.slice a6 E.length c6) E) := SY.out.below hb
  clear BW XV LO SI XO SX SY
  have BW := BWn
  have XV := XVn
  have LO := LOn
  have SI := SIn
  have XO := XOn
  have SX := SXn
  have SY := SYn
  clear BWn XVn LOn SIn XOn SXn SYn
  have L2 : Hid (Lay w7 dm (mk k2 b2 t2 ka2 kl2 kc2 ia2 il2 ic2) dv) := Own.lay dm ho
  clear ho hb F
  go_upto_region 5 with fail
  have bA := below_one w7 (.cells #[.int .i64 k2, .int .u64 b2, .string t2, .slice ka2 kl2 kc2, .slice ia2 il2 ic2] 26)
  have BWn : Hid (Below w.heap.size w (w7.alloc (.cells #[.int .i64 k2, .int .u64 b2, .string t2, .slice ka2 kl2 kc2, .slice ia2 il2 ic2] 26))) := nxt BW.out bA
  have XVn : Hid ((w7.alloc (.cells #[.int .i64 k2, .int .u64 b2, .string t2, .slice ka2 kl2 kc2, .slice ia2 il2 ic2] 26)).heap[w.heap.size]? = some (.cells #[.int .i64 k0, .int .u64 b0, .string t0, .slice ka0 kl0 kc0, .slice ia0 il0 ic0] 26 (0, 0))) := (bA.block _ (lt_of_block XV.out)).trans XV.out
  have LOn : Hid (Lay (w7.alloc (.cells #[.int .i64 k2, .int .u64 b2, .string t2, .slice ka2 kl2 kc2, .slice ia2 il2 ic2] 26)) n (mk k1 b1 t1 ka1 kl1 kc1 ia1 il1 ic1) u) := Lay.below n LO.out bA
  have SIn : Hid (Bs (w7.alloc (.cells #[.int .i64 k2, .int .u64 b2, .string t2, .slice ka2 kl2 kc2, .slice ia2 il2 ic2] 26)) w2.heap.size (.slice a3 bs.length c3) bs) := SI.out.below bA
  have XOn : Hid ((w7.alloc (.cells #[.int .i64 k2, .int .u64 b2, .string t2, .slice ka2 kl2 kc2, .slice ia2 il2 ic2] 26)).heap[g1]? = some (.cells #[.int .i64 k1, .int .u64 b1, .string t1, .slice ka1 kl1 kc1, .slice ia1 il1 ic1] 26 (0, 0))) := (bA.block _ (lt_of_block XO.out)).trans XO.out
  have SXn : Hid (Bs (w7.alloc (.cells #[.int .i64 k2, .int .u64 b2, .string t2, .slice ka2 kl2 kc2, .slice ia2 il2 ic2] 26)) W4.heap.size (.slice a5 E.length c5) E) := SX.out.below bA
  have SYn : Hid (Bs (w7.alloc (.cells #[.int .i64 k2, .int .u64 b2, .string t2, .slice ka2 kl2 kc2, .slice ia2 il2 ic2] 26)) w5.heap.size (.slice a6 E.length c6) E) := SY.out.below bA
  have L2n : Hid (Lay (w7.alloc (.cells #[.int .i64 k2, .int .u64 b2, .string t2, .slice ka2 kl2 kc2, .slice ia2 il2 ic2] 26)) dm (mk k2 b2 t2 ka2 kl2 kc2 ia2 il2 ic2) dv) := Lay.below dm L2.out bA
  clear BW XV LO SI XO SX SY L2
  have BW := BWn
  have XV := XVn
  have LO := LOn
  have SI := SIn
  have XO := XOn
  have SX := SXn
  have SY := SYn
  have L2 := L2n
  clear BWn XVn LOn SIn XOn SXn SYn L2n
  obtain ⟨g2, hg2⟩ : ∃ g, g = w7.heap.size := ⟨_, rfl⟩
  have XP : Hid ((w7.alloc (.cells #[.int .i64 k2, .int .u64 b2, .string t2, .slice ka2 kl2 kc2, .slice ia2 il2 ic2] 26)).heap[g2]? = some (.cells #[.int .i64 k2, .int .u64 b2, .string t2, .slice ka2 kl2 kc2, .slice ia2 il2 ic2] 26 (0, 0))) := by rw [hg2]; exact heap_alloc_new _ _
  clear bA
  generalize (w7.alloc (.cells #[.int .i64 k2, .int .u64 b2, .string t2, .slice ka2 kl2 kc2, .slice ia2 il2 ic2] 26)) = W8 at *
  rw [← hg2]
  clear hg2
  go_wp2_with fail
  refine (RD.out W8 ba bc (HB.out.below BW.out)).mono ?_
  rintro e w9 ⟨y, F, rfl, ho, -, hb⟩
  obtain ⟨k3, b3, t3, ka3, kl3, kc3, ia3, il3, ic3, rfl⟩ := Lay.shape dm (Own.lay dm ho)
  have BWn : Hid (Below w.heap.size w w9) := nxt BW.out hb
  have XVn : Hid (w9.heap[w.heap.size]? = some (.cells #[.int .i64 k0, .int .u64 b0, .string t0, .slice ka0 kl0 kc0, .slice ia0 il0 ic0] 26 (0, 0))) := (hb.block _ (lt_of_block XV.out)).trans XV.out
  have LOn : Hid (Lay w9 n (mk k1 b1 t1 ka1 kl1 kc1 ia1 il1 ic1) u) := Lay.below n LO.out hb
  have SIn : Hid (Bs w9 w2.heap.size (.slice a3 bs.length c3) bs) := SI.out.below hb
  have XOn : Hid (w9.heap[g1]? = some (.cells #[.int .i64 k1, .int .u64 b1, .string t1, .slice ka1 kl1 kc1, .slice ia1 il1 ic1] 26 (0, 0))) := (hb.block _ (lt_of_block XO.out)).trans XO.out
  have SXn : Hid (Bs w9 W4.heap.size (.slice a5 E.length c5) E) := SX.out.below hb
  have SYn : Hid (Bs w9 w5.heap.size (.slice a6 E.length c6) E) := SY.out.below hb
  have L2n : Hid (Lay w9 dm (mk k2 b2 t2 ka2 kl2 kc2 ia2 il2 ic2) dv) := Lay.below dm L2.out hb
  have XPn : Hid (w9.heap[g2]? = some (.cells #[.int .i64 k2, .int .u64 b2, .string t2, .slice ka2 kl2 kc2, .slice ia2 il2 ic2] 26 (0, 0))) := (hb.block _ (lt_of_block XP.out)).trans XP.out
  clear BW XV LO SI XO SX SY L2 XP
  have BW := BWn
  have XV := XVn
  have LO := LOn
  have SI := SIn
  have XO := XOn
  have SX := SXn
  have SY := SYn
  have L2 := L2n
  have XP := XPn
  clear BWn XVn LOn SIn XOn SXn SYn L2n XPn
  have L3 : Hid (Lay w9 dm (mk k3 b3 t3 ka3 kl3 kc3 ia3 il3 ic3) dv) := Own.lay dm ho
  clear ho hb F
  go_upto_region 6 with fail
  have bA := below_one w9 (.cells #[.int .i64 k3, .int .u64 b3, .string t3, .slice ka3 kl3 kc3, .slice ia3 il3 ic3] 26)
  have BWn : Hid (Below w.heap.size w (w9.alloc (.cells #[.int .i64 k3, .int .u64 b3, .string t3, .slice ka3 kl3 kc3, .slice ia3 il3 ic3] 26))) := nxt BW.out bA
  have XVn : Hid ((w9.alloc (.cells #[.int .i64 k3, .int .u64 b3, .string t3, .slice ka3 kl3 kc3, .slice ia3 il3 ic3] 26)).heap[w.heap.size]? = some (.cells #[.int .i64 k0, .int .u64 b0, .string t0, .slice ka0 kl0 kc0, .slice ia0 il0 ic0] 26 (0, 0))) := (bA.block _ (lt_of_block XV.out)).trans XV.out
  have LOn : Hid (Lay (w9.alloc (.cells #[.int .i64 k3, .int .u64 b3, .string t3, .slice ka3 kl3 kc3, .slice ia3 il3 ic3] 26)) n (mk k1 b1 t1 ka1 kl1 kc1 ia1 il1 ic1) u) := Lay.below n LO.out bA
  have SIn : Hid (Bs (w9.alloc (.cells #[.int .i64 k3, .int .u64 b3, .string t3, .slice ka3 kl3 kc3, .slice ia3 il3 ic3] 26)) w2.heap.size (.slice a3 bs.length c3) bs) := SI.out.below bA
  have XOn : Hid ((w9.alloc (.cells #[.int .i64 k3, .int .u64 b3, .string t3, .slice ka3 kl3 kc3, .slice ia3 il3 ic3] 26)).heap[g1]? = some (.cells #[.int .i64 k1, .int .u64 b1, .string t1, .slice ka1 kl1 kc1, .slice ia1 il1 ic1] 26 (0, 0))) := (bA.block _ (lt_of_block XO.out)).trans XO.out
  have SXn : Hid (Bs (w9.alloc (.cells #[.int .i64 k3, .int .u64 b3, .string t3, .slice ka3 kl3 kc3, .slice ia3 il3 ic3] 26)) W4.heap.size (.slice a5 E.length c5) E) := SX.out.below bA
  have SYn : Hid (Bs (w9.alloc (.cells #[.int .i64 k3, .int .u64 b3, .string t3, .slice ka3 kl3 kc3, .slice ia3 il3 ic3] 26)) w5.heap.size (.slice a6 E.length c6) E) := SY.out.below bA
  have L2n : Hid (Lay (w9.alloc (.cells #[.int .i64 k3, .int .u64 b3, .string t3, .slice ka3 kl3 kc3, .slice ia3 il3 ic3] 26)) dm (mk k2 b2 t2 ka2 kl2 kc2 ia2 il2 ic2) dv) := Lay.below dm L2.out bA
  have XPn : Hid ((w9.alloc (.cells #[.int .i64 k3, .int .u64 b3, .string t3, .slice ka3 kl3 kc3, .slice ia3 il3 ic3] 26)).heap[g2]? = some (.cells #[.int .i64 k2, .int .u64 b2, .string t2, .slice ka2 kl2 kc2, .slice ia2 il2 ic2] 26 (0, 0))) := (bA.block _ (lt_of_block XP.out)).trans XP.out
  have L3n : Hid (Lay (w9.alloc (.cells #[.int .i64 k3, .int .u64 b3, .string t3, .slice ka3 kl3 kc3, .slice ia3 il3 ic3] 26)) dm (mk k3 b3 t3 ka3 kl3 kc3 ia3 il3 ic3) dv) := Lay.below dm L3.out bA
  clear BW XV LO SI XO SX SY L2 XP L3
  have BW := BWn
  have XV := XVn
  have LO := LOn
  have SI := SIn
  have XO := XOn
  have SX := SXn
  have SY := SYn
  have L2 := L2n
  have XP := XPn
  have L3 := L3n
  clear BWn XVn LOn SIn XOn SXn SYn L2n XPn L3n
  obtain ⟨g3, hg3⟩ : ∃ g, g = w9.heap.size := ⟨_, rfl⟩
  have XQ : Hid ((w9.alloc (.cells #[.int .i64 k3, .int .u64 b3, .string t3, .slice ka3 kl3 kc3, .slice ia3 il3 ic3] 26)).heap[g3]? = some (.cells #[.int .i64 k3, .int .u64 b3, .string t3, .slice ka3 kl3 kc3, .slice ia3 il3 ic3] 26 (0, 0))) := by rw [hg3]; exact heap_alloc_new _ _
  clear bA
  generalize (w9.alloc (.cells #[.int .i64 k3, .int .u64 b3, .string t3, .slice ka3 kl3 kc3, .slice ia3 il3 ic3] 26)) = W10 at *
  rw [← hg3]
  clear hg3
  go_wp2_with fail
  refine (CT.out W10 a3 c3 (SI.out.oct (by have := HBL.out; omega))).mono ?_
  rintro e w11 ⟨y, F, rfl, ho, -, hb⟩
  obtain ⟨k4, b4, t4, ka4, kl4, kc4, ia4, il4, ic4, rfl⟩ := Lay.shape tm (Own.lay tm ho)
  have BWn : Hid (Below w.heap.size w w11) := nxt BW.out hb
  have XVn : Hid (w11.heap[w.heap.size]? = some (.cells #[.int .i64 k0, .int .u64 b0, .string t0, .slice ka0 kl0 kc0, .slice ia0 il0 ic0] 26 (0, 0))) := (hb.block _ (lt_of_block XV.out)).trans XV.out
  have LOn : Hid (Lay w11 n (mk k1 b1 t1 ka1 kl1 kc1 ia1 il1 ic1) u) := Lay.below n LO.out hb
  have SIn : Hid (Bs w11 w2.heap.size (.slice a3 bs.length c3) bs) := SI.out.below hb
  have XOn : Hid (w11.heap[g1]? = some (.cells #[.int .i64 k1, .int .u64 b1, .string t1, .slice ka1 kl1 kc1, .slice ia1 il1 ic1] 26 (0, 0))) := (hb.block _ (lt_of_block XO.out)).trans XO.out
  have SXn : Hid (Bs w11 W4.heap.size (.slice a5 E.length c5) E) := SX.out.below hb
  have SYn : Hid (Bs w11 w5.heap.size (.slice a6 E.length c6) E) := SY.out.below hb
  have L2n : Hid (Lay w11 dm (mk k2 b2 t2 ka2 kl2 kc2 ia2 il2 ic2) dv) := Lay.below dm L2.out hb
  have XPn : Hid (w11.heap[g2]? = some (.cells #[.int .i64 k2, .int .u64 b2, .string t2, .slice ka2 kl2 kc2, .slice ia2 il2 ic2] 26 (0, 0))) := (hb.block _ (lt_of_block XP.out)).trans XP.out
  have L3n : Hid (Lay w11 dm (mk k3 b3 t3 ka3 kl3 kc3 ia3 il3 ic3) dv) := Lay.below dm L3.out hb
  have XQn : Hid (w11.heap[g3]? = some (.cells #[.int .i64 k3, .int .u64 b3, .string t3, .slice ka3 kl3 kc3, .slice ia3 il3 ic3] 26 (0, 0))) := (hb.block _ (lt_of_block XQ.out)).trans XQ.out
  clear BW XV LO SI XO SX SY L2 XP L3 XQ
  have BW := BWn
  have XV := XVn
  have LO := LOn
  have SI := SIn
  have XO := XOn
  have SX := SXn
  have SY := SYn
  have L2 := L2n
  have XP := XPn
  have L3 := L3n
  have XQ := XQn
  clear BWn XVn LOn SIn XOn SXn SYn L2n XPn L3n XQn
  have L4 : Hid (Lay w11 tm (mk k4 b4 t4 ka4 kl4 kc4 ia4 il4 ic4) tv) := Own.lay tm ho
  clear ho hb F
  go_upto_region 7 with fail
  have bA := below_one w11 (.cells #[.int .i64 k4, .int .u64 b4, .string t4, .slice ka4 kl4 kc4, .slice ia4 il4 ic4] 26)
  have BWn : Hid (Below w.heap.size w (w11.alloc (.cells #[.int .i64 k4, .int .u64 b4, .string t4, .slice ka4 kl4 kc4, .slice ia4 il4 ic4] 26))) := nxt BW.out bA
  have XVn : Hid ((w11.alloc (.cells #[.int .i64 k4, .int .u64 b4, .string t4, .slice ka4 kl4 kc4, .slice ia4 il4 ic4] 26)).heap[w.heap.size]? = some (.cells #[.int .i64 k0, .int .u64 b0, .string t0, .slice ka0 kl0 kc0, .slice ia0 il0 ic0] 26 (0, 0))) := (bA.block _ (lt_of_block XV.out)).trans XV.out
  have LOn : Hid (Lay (w11.alloc (.cells #[.int .i64 k4, .int .u64 b4, .string t4, .slice ka4 kl4 kc4, .slice ia4 il4 ic4] 26)) n (mk k1 b1 t1 ka1 kl1 kc1 ia1 il1 ic1) u) := Lay.below n LO.out bA
  have SIn : Hid (Bs (w11.alloc (.cells #[.int .i64 k4, .int .u64 b4, .string t4, .slice ka4 kl4 kc4, .slice ia4 il4 ic4] 26)) w2.heap.size (.slice a3 bs.length c3) bs) := SI.out.below bA
  have XOn : Hid ((w11.alloc (.cells #[.int .i64 k4, .int .u64 b4, .string t4, .slice ka4 kl4 kc4, .slice ia4 il4 ic4] 26)).heap[g1]? = some (.cells #[.int .i64 k1, .int .u64 b1, .string t1, .slice ka1 kl1 kc1, .slice ia1 il1 ic1] 26 (0, 0))) := (bA.block _ (lt_of_block XO.out)).trans XO.out
  have SXn : Hid (Bs (w11.alloc (.cells #[.int .i64 k4, .int .u64 b4, .string t4, .slice ka4 kl4 kc4, .slice ia4 il4 ic4] 26)) W4.heap.size (.slice a5 E.length c5) E) := SX.out.below bA
  have SYn : Hid (Bs (w11.alloc (.cells #[.int .i64 k4, .int .u64 b4, .string t4, .slice ka4 kl4 kc4, .slice ia4 il4 ic4] 26)) w5.heap.size (.slice a6 E.length c6) E) := SY.out.below bA
  have L2n : Hid (Lay (w11.alloc (.cells #[.int .i64 k4, .int .u64 b4, .string t4, .slice ka4 kl4 kc4, .slice ia4 il4 ic4] 26)) dm (mk k2 b2 t2 ka2 kl2 kc2 ia2 il2 ic2) dv) := Lay.below dm L2.out bA
  have XPn : Hid ((w11.alloc (.cells #[.int .i64 k4, .int .u64 b4, .string t4, .slice ka4 kl4 kc4, .slice ia4 il4 ic4] 26)).heap[g2]? = some (.cells #[.int .i64 k2, .int .u64 b2, .string t2, .slice ka2 kl2 kc2, .slice ia2 il2 ic2] 26 (0, 0))) := (bA.block _ (lt_of_block XP.out)).trans XP.out
  have L3n : Hid (Lay (w11.alloc (.cells #[.int .i64 k4, .int .u64 b4, .string t4, .slice ka4 kl4 kc4, .slice ia4 il4 ic4] 26)) dm (mk k3 b3 t3 ka3 kl3 kc3 ia3 il3 ic3) dv) := Lay.below dm L3.out bA
  have XQn : Hid ((w11.alloc (.cells #[.int .i64 k4, .int .u64 b4, .string t4, .slice ka4 kl4 kc4, .slice ia4 il4 ic4] 26)).heap[g3]? = some (.cells #[.int .i64 k3, .int .u64 b3, .string t3, .slice ka3 kl3 kc3, .slice ia3 il3 ic3] 26 (0, 0))) := (bA.block _ (lt_of_block XQ.out)).trans XQ.out
  have L4n : Hid (Lay (w11.alloc (.cells #[.int .i64 k4, .int .u64 b4, .string t4, .slice ka4 kl4 kc4, .slice ia4 il4 ic4] 26)) tm (mk k4 b4 t4 ka4 kl4 kc4 ia4 il4 ic4) tv) := Lay.below tm L4.out bA
  clear BW XV LO SI XO SX SY L2 XP L3 XQ L4
  have BW := BWn
  have XV := XVn
  have LO := LOn
  have SI := SIn
  have XO := XOn
  have SX := SXn
  have SY := SYn
  have L2 := L2n
  have XP := XPn
  have L3 := L3n
  have XQ := XQn
  have L4 := L4n
  clear BWn XVn LOn SIn XOn SXn SYn L2n XPn L3n XQn L4n
  obtain ⟨g4, hg4⟩ : ∃ g, g = w11.heap.size := ⟨_, rfl⟩
  have XT : Hid ((w11.alloc (.cells #[.int .i64 k4, .int .u64 b4, .string t4, .slice ka4 kl4 kc4, .slice ia4 il4 ic4] 26)).heap[g4]? = some (.cells #[.int .i64 k4, .int .u64 b4, .string t4, .slice ka4 kl4 kc4, .slice ia4 il4 ic4] 26 (0, 0))) := by rw [hg4]; exact heap_alloc_new _ _
  clear bA
  generalize (w11.alloc (.cells #[.int .i64 k4, .int .u64 b4, .string t4, .slice ka4 kl4 kc4, .slice ia4 il4 ic4] 26)) = W12 at *
  rw [← hg4]
  clear hg4
  go_wp2_with fail
  refine (RT.out W12 ba bc (HB.out.below BW.out)).mono ?_
  rintro e w13 ⟨y, F, rfl, ho, -, hb⟩
  obtain ⟨k5, b5, t5, ka5, kl5, kc5, ia5, il5, ic5, rfl⟩ := Lay.shape tm (Own.lay tm ho)
  have BWn : Hid (Below w.heap.size w w13) := nxt BW.out hb
  have XVn : Hid (w13.heap[w.heap.size]? = some (.cells #[.int .i64 k0, .int .u64 b0, .string t0, .slice ka0 kl0 kc0, .slice ia0 il0 ic0] 26 (0, 0))) := (hb.block _ (lt_of_block XV.out)).trans XV.out
  have LOn : Hid (Lay w13 n (mk k1 b1 t1 ka1 kl1 kc1 ia1 il1 ic1) u) := Lay.below n LO.out hb
  have SIn : Hid (Bs w13 w2.heap.size (.slice a3 bs.length c3) bs) := SI.out.below hb
  have XOn : Hid (w13.heap[g1]? = some (.cells #[.int .i64 k1, .int .u64 b1, .string t1, .slice ka1 kl1 kc1, .slice ia1 il1 ic1] 26 (0, 0))) := (hb.block _ (lt_of_block XO.out)).trans XO.out
  have SXn : Hid (Bs w13 W4.heap.size (.slice a5 E.length c5) E) := SX.out.below hb
  have SYn : Hid (Bs w13 w5.heap.size (.slice a6 E.length c6) E) := SY.out.below hb
  have L2n : Hid (Lay w13 dm (mk k2 b2 t2 ka2 kl2 kc2 ia2 il2 ic2) dv) := Lay.below dm L2.out hb
  have XPn : Hid (w13.heap[g2]? = some (.cells #[.int .i64 k2, .int .u64 b2, .string t2, .slice ka2 kl2 kc2, .slice ia2 il2 ic2] 26 (0, 0))) := (hb.block _ (lt_of_block XP.out)).trans XP.out
  have L3n : Hid (Lay w13 dm (mk k3 b3 t3 ka3 kl3 kc3 ia3 il3 ic3) dv) := Lay.below dm L3.out hb
  have XQn : Hid (w13.heap[g3]? = some (.cells #[.int .i64 k3, .int .u64 b3, .string t3, .slice ka3 kl3 kc3, .slice ia3 il3 ic3] 26 (0, 0))) := (hb.block _ (lt_of_block XQ.out)).trans XQ.out
  have L4n : Hid (Lay w13 tm (mk k4 b4 t4 ka4 kl4 kc4 ia4 il4 ic4) tv) := Lay.below tm L4.out hb
  have XTn : Hid (w13.heap[g4]? = some (.cells #[.int .i64 k4, .int .u64 b4, .string t4, .slice ka4 kl4 kc4, .slice ia4 il4 ic4] 26 (0, 0))) := (hb.block _ (lt_of_block XT.out)).trans XT.out
  clear BW XV LO SI XO SX SY L2 XP L3 XQ L4 XT
  have BW := BWn
  have XV := XVn
  have LO := LOn
  have SI := SIn
  have XO := XOn
  have SX := SXn
  have SY := SYn
  have L2 := L2n
  have XP := XPn
  have L3 := L3n
  have XQ := XQn
  have L4 := L4n
  have XT := XTn
  clear BWn XVn LOn SIn XOn SXn SYn L2n XPn L3n XQn L4n XTn
  have L5 : Hid (Lay w13 tm (mk k5 b5 t5 ka5 kl5 kc5 ia5 il5 ic5) tv) := Own.lay tm ho
  clear ho hb F
  go_upto_region 8 with fail
  have bA := below_one w13 (.cells #[.int .i64 k5, .int .u64 b5, .string t5, .slice ka5 kl5 kc5, .slice ia5 il5 ic5] 26)
  have BWn : Hid (Below w.heap.size w (w13.alloc (.cells #[.int .i64 k5, .int .u64 b5, .string t5, .slice ka5 kl5 kc5, .slice ia5 il5 ic5] 26))) := nxt BW.out bA
  have XVn : Hid ((w13.alloc (.cells #[.int .i64 k5, .int .u64 b5, .string t5, .slice ka5 kl5 kc5, .slice ia5 il5 ic5] 26)).heap[w.heap.size]? = some (.cells #[.int .i64 k0, .int .u64 b0, .string t0, .slice ka0 kl0 kc0, .slice ia0 il0 ic0] 26 (0, 0))) := (bA.block _ (lt_of_block XV.out)).trans XV.out
  have LOn : Hid (Lay (w13.alloc (.cells #[.int .i64 k5, .int .u64 b5, .string t5, .slice ka5 kl5 kc5, .slice ia5 il5 ic5] 26)) n (mk k1 b1 t1 ka1 kl1 kc1 ia1 il1 ic1) u) := Lay.below n LO.out bA
  have SIn : Hid (Bs (w13.alloc (.cells #[.int .i64 k5, .int .u64 b5, .string t5, .slice ka5 kl5 kc5, .slice ia5 il5 ic5] 26)) w2.heap.size (.slice a3 bs.length c3) bs) := SI.out.below bA
  have XOn : Hid ((w13.alloc (.cells #[.int .i64 k5, .int .u64 b5, .string t5, .slice ka5 kl5 kc5, .slice ia5 il5 ic5] 26)).heap[g1]? = some (.cells #[.int .i64 k1, .int .u64 b1, .string t1, .slice ka1 kl1 kc1, .slice ia1 il1 ic1] 26 (0, 0))) := (bA.block _ (lt_of_block XO.out)).trans XO.out
  have SXn : Hid (Bs (w13.alloc (.cells #[.int .i64 k5, .int .u64 b5, .string t5, .slice ka5 kl5 kc5, .slice ia5 il5 ic5] 26)) W4.heap.size (.slice a5 E.length c5) E) := SX.out.below bA
  have SYn : Hid (Bs (w13.alloc (.cells #[.int .i64 k5, .int .u64 b5, .string t5, .slice ka5 kl5 kc5, .slice ia5 il5 ic5] 26)) w5.heap.size (.slice a6 E.length c6) E) := SY.out.below bA
  have L2n : Hid (Lay (w13.alloc (.cells #[.int .i64 k5, .int .u64 b5, .string t5, .slice ka5 kl5 kc5, .slice ia5 il5 ic5] 26)) dm (mk k2 b2 t2 ka2 kl2 kc2 ia2 il2 ic2) dv) := Lay.below dm L2.out bA
  have XPn : Hid ((w13.alloc (.cells #[.int .i64 k5, .int .u64 b5, .string t5, .slice ka5 kl5 kc5, .slice ia5 il5 ic5] 26)).heap[g2]? = some (.cells #[.int .i64 k2, .int .u64 b2, .string t2, .slice ka2 kl2 kc2, .slice ia2 il2 ic2] 26 (0, 0))) := (bA.block _ (lt_of_block XP.out)).trans XP.out
  have L3n : Hid (Lay (w13.alloc (.cells #[.int .i64 k5, .int .u64 b5, .string t5, .slice ka5 kl5 kc5, .slice ia5 il5 ic5] 26)) dm (mk k3 b3 t3 ka3 kl3 kc3 ia3 il3 ic3) dv) := Lay.below dm L3.out bA
  have XQn : Hid ((w13.alloc (.cells #[.int .i64 k5, .int .u64 b5, .string t5, .slice ka5 kl5 kc5, .slice ia5 il5 ic5] 26)).heap[g3]? = some (.cells #[.int .i64 k3, .int .u64 b3, .string t3, .slice ka3 kl3 kc3, .slice ia3 il3 ic3] 26 (0, 0))) := (bA.block _ (lt_of_block XQ.out)).trans XQ.out
  have L4n : Hid (Lay (w13.alloc (.cells #[.int .i64 k5, .int .u64 b5, .string t5, .slice ka5 kl5 kc5, .slice ia5 il5 ic5] 26)) tm (mk k4 b4 t4 ka4 kl4 kc4 ia4 il4 ic4) tv) := Lay.below tm L4.out bA
  have XTn : Hid ((w13.alloc (.cells #[.int .i64 k5, .int .u64 b5, .string t5, .slice ka5 kl5 kc5, .slice ia5 il5 ic5] 26)).heap[g4]? = some (.cells #[.int .i64 k4, .int .u64 b4, .string t4, .slice ka4 kl4 kc4, .slice ia4 il4 ic4] 26 (0, 0))) := (bA.block _ (lt_of_block XT.out)).trans XT.out
  have L5n : Hid (Lay (w13.alloc (.cells #[.int .i64 k5, .int .u64 b5, .string t5, .slice ka5 kl5 kc5, .slice ia5 il5 ic5] 26)) tm (mk k5 b5 t5 ka5 kl5 kc5 ia5 il5 ic5) tv) := Lay.below tm L5.out bA
  clear BW XV LO SI XO SX SY L2 XP L3 XQ L4 XT L5
  have BW := BWn
  have XV := XVn
  have LO := LOn
  have SI := SIn
  have XO := XOn
  have SX := SXn
  have SY := SYn
  have L2 := L2n
  have XP := XPn
  have L3 := L3n
  have XQ := XQn
  have L4 := L4n
  have XT := XTn
  have L5 := L5n
  clear BWn XVn LOn SIn XOn SXn SYn L2n XPn L3n XQn L4n XTn L5n
  obtain ⟨g5, hg5⟩ : ∃ g, g = w13.heap.size := ⟨_, rfl⟩
  have XS : Hid ((w13.alloc (.cells #[.int .i64 k5, .int .u64 b5, .string t5, .slice ka5 kl5 kc5, .slice ia5 il5 ic5] 26)).heap[g5]? = some (.cells #[.int .i64 k5, .int .u64 b5, .string t5, .slice ka5 kl5 kc5, .slice ia5 il5 ic5] 26 (0, 0))) := by rw [hg5]; exact heap_alloc_new _ _
  clear bA
  generalize (w13.alloc (.cells #[.int .i64 k5, .int .u64 b5, .string t5, .slice ka5 kl5 kc5, .slice ia5 il5 ic5] 26)) = W14 at *
  rw [← hg5]
  clear hg5
  have hEE : (E == E) = true := by simp
  have hBB : (bs == bs) = true := by simp
  obtain ⟨cXP0, cXP1, cXP2, cXP3, cXP4, -⟩ := box_cells XP.out
  obtain ⟨cXQ0, cXQ1, cXQ2, cXQ3, cXQ4, -⟩ := box_cells XQ.out
  obtain ⟨cXT0, cXT1, cXT2, cXT3, cXT4, -⟩ := box_cells XT.out
  obtain ⟨cXS0, cXS1, cXS2, cXS3, cXS4, -⟩ := box_cells XS.out
  obtain ⟨cXO0, cXO1, cXO2, cXO3, cXO4, -⟩ := box_cells XO.out
  obtain ⟨cXV0, cXV1, cXV2, cXV3, cXV4, -⟩ := box_cells XV.out
  have CS := sameB_any E E a5 a6 c5 c6 W14 SX.out.lay SY.out.lay
  rw [hEE] at CS
  go_wp2_with fail
  refine CS.mono ?_
  rintro e w' ⟨rfl, hw'⟩
  subst w'
  clear CS
  have CS := same_any dm dv dv _ _ W14 L2.out L3.out
  rw [one_true rfl] at CS
  go_wp2_with (go_at_call 18; refine (num_any _ _).mono ?_; rintro e w' ⟨rfl, rfl⟩)
  refine CS.mono ?_
  rintro e w20 ⟨rfl, hb⟩
  clear CS
  clear cXP0 cXP1 cXP2 cXP3 cXP4 cXQ0 cXQ1 cXQ2 cXQ3 cXQ4 cXT0 cXT1 cXT2 cXT3 cXT4 cXS0 cXS1 cXS2 cXS3 cXS4 cXO0 cXO1 cXO2 cXO3 cXO4 cXV0 cXV1 cXV2 cXV3 cXV4
  have BWn : Hid (Below w.heap.size w w20) := nxt BW.out hb
  have XVn : Hid (w20.heap[w.heap.size]? = some (.cells #[.int .i64 k0, .int .u64 b0, .string t0, .slice ka0 kl0 kc0, .slice ia0 il0 ic0] 26 (0, 0))) := (hb.block _ (lt_of_block XV.out)).trans XV.out
  have LOn : Hid (Lay w20 n (mk k1 b1 t1 ka1 kl1 kc1 ia1 il1 ic1) u) := Lay.below n LO.out hb
  have SIn : Hid (Bs w20 w2.heap.size (.slice a3 bs.length c3) bs) := SI.out.below hb
  have XOn : Hid (w20.heap[g1]? = some (.cells #[.int .i64 k1, .int .u64 b1, .string t1, .slice ka1 kl1 kc1, .slice ia1 il1 ic1] 26 (0, 0))) := (hb.block _ (lt_of_block XO.out)).trans XO.out
  have SXn : Hid (Bs w20 W4.heap.size (.slice a5 E.length c5) E) := SX.out.below hb
  have SYn : Hid (Bs w20 w5.heap.size (.slice a6 E.length c6) E) := SY.out.below hb
  have L2n : Hid (Lay w20 dm (mk k2 b2 t2 ka2 kl2 kc2 ia2 il2 ic2) dv) := Lay.below dm L2.out hb
  have XPn : Hid (w20.heap[g2]? = some (.cells #[.int .i64 k2, .int .u64 b2, .string t2, .slice ka2 kl2 kc2, .slice ia2 il2 ic2] 26 (0, 0))) := (hb.block _ (lt_of_block XP.out)).trans XP.out
  have L3n : Hid (Lay w20 dm (mk k3 b3 t3 ka3 kl3 kc3 ia3 il3 ic3) dv) := Lay.below dm L3.out hb
  have XQn : Hid (w20.heap[g3]? = some (.cells #[.int .i64 k3, .int .u64 b3, .string t3, .slice ka3 kl3 kc3, .slice ia3 il3 ic3] 26 (0, 0))) := (hb.block _ (lt_of_block XQ.out)).trans XQ.out
  have L4n : Hid (Lay w20 tm (mk k4 b4 t4 ka4 kl4 kc4 ia4 il4 ic4) tv) := Lay.below tm L4.out hb
  have XTn : Hid (w20.heap[g4]? = some (.cells #[.int .i64 k4, .int .u64 b4, .string t4, .slice ka4 kl4 kc4, .slice ia4 il4 ic4] 26 (0, 0))) := (hb.block _ (lt_of_block XT.out)).trans XT.out
  have L5n : Hid (Lay w20 tm (mk k5 b5 t5 ka5 kl5 kc5 ia5 il5 ic5) tv) := Lay.below tm L5.out hb
  have XSn : Hid (w20.heap[g5]? = some (.cells #[.int .i64 k5, .int .u64 b5, .string t5, .slice ka5 kl5 kc5, .slice ia5 il5 ic5] 26 (0, 0))) := (hb.block _ (lt_of_block XS.out)).trans XS.out
  clear BW XV LO SI XO SX SY L2 XP L3 XQ L4 XT L5 XS
  have BW := BWn
  have XV := XVn
  have LO := LOn
  have SI := SIn
  have XO := XOn
  have SX := SXn
  have SY := SYn
  have L2 := L2n
  have XP := XPn
  have L3 := L3n
  have XQ := XQn
  have L4 := L4n
  have XT := XTn
  have L5 := L5n
  have XS := XSn
  clear BWn XVn LOn SIn XOn SXn SYn L2n XPn L3n XQn L4n XTn L5n XSn
  clear hb
  obtain ⟨cXP0, cXP1, cXP2, cXP3, cXP4, -⟩ := box_cells XP.out
  obtain ⟨cXQ0, cXQ1, cXQ2, cXQ3, cXQ4, -⟩ := box_cells XQ.out
  obtain ⟨cXT0, cXT1, cXT2, cXT3, cXT4, -⟩ := box_cells XT.out
  obtain ⟨cXS0, cXS1, cXS2, cXS3, cXS4, -⟩ := box_cells XS.out
  obtain ⟨cXO0, cXO1, cXO2, cXO3, cXO4, -⟩ := box_cells XO.out
  obtain ⟨cXV0, cXV1, cXV2, cXV3, cXV4, -⟩ := box_cells XV.out
  have CS := same_any tm tv tv _ _ w20 L4.out L5.out
  rw [one_true rfl] at CS
  go_wp2_with (go_at_call 18; refine (num_any _ _).mono ?_; rintro e w' ⟨rfl, rfl⟩)
  refine CS.mono ?_
  rintro e w21 ⟨rfl, hb⟩
  clear CS
  clear cXP0 cXP1 cXP2 cXP3 cXP4 cXQ0 cXQ1 cXQ2 cXQ3 cXQ4 cXT0 cXT1 cXT2 cXT3 cXT4 cXS0 cXS1 cXS2 cXS3 cXS4 cXO0 cXO1 cXO2 cXO3 cXO4 cXV0 cXV1 cXV2 cXV3 cXV4
  have BWn : Hid (Below w.heap.size w w21) := nxt BW.out hb
  have XVn : Hid (w21.heap[w.heap.size]? = some (.cells #[.int .i64 k0, .int .u64 b0, .string t0, .slice ka0 kl0 kc0, .slice ia0 il0 ic0] 26 (0, 0))) := (hb.block _ (lt_of_block XV.out)).trans XV.out
  have LOn : Hid (Lay w21 n (mk k1 b1 t1 ka1 kl1 kc1 ia1 il1 ic1) u) := Lay.below n LO.out hb
  have SIn : Hid (Bs w21 w2.heap.size (.slice a3 bs.length c3) bs) := SI.out.below hb
  have XOn : Hid (w21.heap[g1]? = some (.cells #[.int .i64 k1, .int .u64 b1, .string t1, .slice ka1 kl1 kc1, .slice ia1 il1 ic1] 26 (0, 0))) := (hb.block _ (lt_of_block XO.out)).trans XO.out
  have SXn : Hid (Bs w21 W4.heap.size (.slice a5 E.length c5) E) := SX.out.below hb
  have SYn : Hid (Bs w21 w5.heap.size (.slice a6 E.length c6) E) := SY.out.below hb
  have L2n : Hid (Lay w21 dm (mk k2 b2 t2 ka2 kl2 kc2 ia2 il2 ic2) dv) := Lay.below dm L2.out hb
  have XPn : Hid (w21.heap[g2]? = some (.cells #[.int .i64 k2, .int .u64 b2, .string t2, .slice ka2 kl2 kc2, .slice ia2 il2 ic2] 26 (0, 0))) := (hb.block _ (lt_of_block XP.out)).trans XP.out
  have L3n : Hid (Lay w21 dm (mk k3 b3 t3 ka3 kl3 kc3 ia3 il3 ic3) dv) := Lay.below dm L3.out hb
  have XQn : Hid (w21.heap[g3]? = some (.cells #[.int .i64 k3, .int .u64 b3, .string t3, .slice ka3 kl3 kc3, .slice ia3 il3 ic3] 26 (0, 0))) := (hb.block _ (lt_of_block XQ.out)).trans XQ.out
  have L4n : Hid (Lay w21 tm (mk k4 b4 t4 ka4 kl4 kc4 ia4 il4 ic4) tv) := Lay.below tm L4.out hb
  have XTn : Hid (w21.heap[g4]? = some (.cells #[.int .i64 k4, .int .u64 b4, .string t4, .slice ka4 kl4 kc4, .slice ia4 il4 ic4] 26 (0, 0))) := (hb.block _ (lt_of_block XT.out)).trans XT.out
  have L5n : Hid (Lay w21 tm (mk k5 b5 t5 ka5 kl5 kc5 ia5 il5 ic5) tv) := Lay.below tm L5.out hb
  have XSn : Hid (w21.heap[g5]? = some (.cells #[.int .i64 k5, .int .u64 b5, .string t5, .slice ka5 kl5 kc5, .slice ia5 il5 ic5] 26 (0, 0))) := (hb.block _ (lt_of_block XS.out)).trans XS.out
  clear BW XV LO SI XO SX SY L2 XP L3 XQ L4 XT L5 XS
  have BW := BWn
  have XV := XVn
  have LO := LOn
  have SI := SIn
  have XO := XOn
  have SX := SXn
  have SY := SYn
  have L2 := L2n
  have XP := XPn
  have L3 := L3n
  have XQ := XQn
  have L4 := L4n
  have XT := XTn
  have L5 := L5n
  have XS := XSn
  clear BWn XVn LOn SIn XOn SXn SYn L2n XPn L3n XQn L4n XTn L5n XSn
  clear hb
  obtain ⟨cXP0, cXP1, cXP2, cXP3, cXP4, -⟩ := box_cells XP.out
  obtain ⟨cXQ0, cXQ1, cXQ2, cXQ3, cXQ4, -⟩ := box_cells XQ.out
  obtain ⟨cXT0, cXT1, cXT2, cXT3, cXT4, -⟩ := box_cells XT.out
  obtain ⟨cXS0, cXS1, cXS2, cXS3, cXS4, -⟩ := box_cells XS.out
  obtain ⟨cXO0, cXO1, cXO2, cXO3, cXO4, -⟩ := box_cells XO.out
  obtain ⟨cXV0, cXV1, cXV2, cXV3, cXV4, -⟩ := box_cells XV.out
  have CS := same_any n u u _ _ w21 LO.out (Lay.below n HU.out BW.out)
  rw [one_true rfl] at CS
  go_wp2_with (go_at_call 18; refine (num_any _ _).mono ?_; rintro e w' ⟨rfl, rfl⟩)
  refine CS.mono ?_
  rintro e w22 ⟨rfl, hb⟩
  clear CS
  clear cXP0 cXP1 cXP2 cXP3 cXP4 cXQ0 cXQ1 cXQ2 cXQ3 cXQ4 cXT0 cXT1 cXT2 cXT3 cXT4 cXS0 cXS1 cXS2 cXS3 cXS4 cXO0 cXO1 cXO2 cXO3 cXO4 cXV0 cXV1 cXV2 cXV3 cXV4
  have BWn : Hid (Below w.heap.size w w22) := nxt BW.out hb
  have XVn : Hid (w22.heap[w.heap.size]? = some (.cells #[.int .i64 k0, .int .u64 b0, .string t0, .slice ka0 kl0 kc0, .slice ia0 il0 ic0] 26 (0, 0))) := (hb.block _ (lt_of_block XV.out)).trans XV.out
  have LOn : Hid (Lay w22 n (mk k1 b1 t1 ka1 kl1 kc1 ia1 il1 ic1) u) := Lay.below n LO.out hb
  have SIn : Hid (Bs w22 w2.heap.size (.slice a3 bs.length c3) bs) := SI.out.below hb
  have XOn : Hid (w22.heap[g1]? = some (.cells #[.int .i64 k1, .int .u64 b1, .string t1, .slice ka1 kl1 kc1, .slice ia1 il1 ic1] 26 (0, 0))) := (hb.block _ (lt_of_block XO.out)).trans XO.out
  have SXn : Hid (Bs w22 W4.heap.size (.slice a5 E.length c5) E) := SX.out.below hb
  have SYn : Hid (Bs w22 w5.heap.size (.slice a6 E.length c6) E) := SY.out.below hb
  have L2n : Hid (Lay w22 dm (mk k2 b2 t2 ka2 kl2 kc2 ia2 il2 ic2) dv) := Lay.below dm L2.out hb
  have XPn : Hid (w22.heap[g2]? = some (.cells #[.int .i64 k2, .int .u64 b2, .string t2, .slice ka2 kl2 kc2, .slice ia2 il2 ic2] 26 (0, 0))) := (hb.block _ (lt_of_block XP.out)).trans XP.out
  have L3n : Hid (Lay w22 dm (mk k3 b3 t3 ka3 kl3 kc3 ia3 il3 ic3) dv) := Lay.below dm L3.out hb
  have XQn : Hid (w22.heap[g3]? = some (.cells #[.int .i64 k3, .int .u64 b3, .string t3, .slice ka3 kl3 kc3, .slice ia3 il3 ic3] 26 (0, 0))) := (hb.block _ (lt_of_block XQ.out)).trans XQ.out
  have L4n : Hid (Lay w22 tm (mk k4 b4 t4 ka4 kl4 kc4 ia4 il4 ic4) tv) := Lay.below tm L4.out hb
  have XTn : Hid (w22.heap[g4]? = some (.cells #[.int .i64 k4, .int .u64 b4, .string t4, .slice ka4 kl4 kc4, .slice ia4 il4 ic4] 26 (0, 0))) := (hb.block _ (lt_of_block XT.out)).trans XT.out
  have L5n : Hid (Lay w22 tm (mk k5 b5 t5 ka5 kl5 kc5 ia5 il5 ic5) tv) := Lay.below tm L5.out hb
  have XSn : Hid (w22.heap[g5]? = some (.cells #[.int .i64 k5, .int .u64 b5, .string t5, .slice ka5 kl5 kc5, .slice ia5 il5 ic5] 26 (0, 0))) := (hb.block _ (lt_of_block XS.out)).trans XS.out
  clear BW XV LO SI XO SX SY L2 XP L3 XQ L4 XT L5 XS
  have BW := BWn
  have XV := XVn
  have LO := LOn
  have SI := SIn
  have XO := XOn
  have SX := SXn
  have SY := SYn
  have L2 := L2n
  have XP := XPn
  have L3 := L3n
  have XQ := XQn
  have L4 := L4n
  have XT := XTn
  have L5 := L5n
  have XS := XSn
  clear BWn XVn LOn SIn XOn SXn SYn L2n XPn L3n XQn L4n XTn L5n XSn
  clear hb
  obtain ⟨cXP0, cXP1, cXP2, cXP3, cXP4, -⟩ := box_cells XP.out
  obtain ⟨cXQ0, cXQ1, cXQ2, cXQ3, cXQ4, -⟩ := box_cells XQ.out
  obtain ⟨cXT0, cXT1, cXT2, cXT3, cXT4, -⟩ := box_cells XT.out
  obtain ⟨cXS0, cXS1, cXS2, cXS3, cXS4, -⟩ := box_cells XS.out
  obtain ⟨cXO0, cXO1, cXO2, cXO3, cXO4, -⟩ := box_cells XO.out
  obtain ⟨cXV0, cXV1, cXV2, cXV3, cXV4, -⟩ := box_cells XV.out
  have CS := sameB_any bs bs a3 ba c3 bc w22 SI.out.lay (HB.out.below BW.out).1
  rw [hBB] at CS
  go_wp2_with (go_at_call 18; refine (num_any _ _).mono ?_; rintro e w' ⟨rfl, rfl⟩)
  refine CS.mono ?_
  rintro e w' ⟨rfl, hw'⟩
  subst w'
  clear CS
  go_wp2_with (go_at_call 18; refine (num_any _ _).mono ?_; rintro e w' ⟨rfl, rfl⟩)
  refine (pkalive_any w22).mono ?_
  rintro e w30 ⟨rfl, hb⟩
  go_wp2_with (go_at_call 18; refine (num_any _ _).mono ?_; rintro e w' ⟨rfl, rfl⟩)
  go_ret
  exact ⟨rfl, nxt BW.out hb⟩

set_option maxRecDepth 100000 in
set_option maxHeartbeats 1600000 in
theorem lifted (os : Os) (started : os.Started) (H : Type) (enc : TypeId × Value → H) :
    ReturnsInHanded {} Try.checked os 3 .any (Rows.packTellsSpec.pre6 enc Try.prog Try.f3 Rows.packTellsRow.domain false) (Rows.packTellsSpec.post enc Try.prog Try.f3 false true false false) := by
  refine returnsInHanded_of_change_sized (C := Try.checked) Try.own started (by kernel_rfl) Try.func3
    (ChangeSpec.witness6 (enc := enc) (C := Try.checked) false ⟨#[], #[.agg #[.int .i64 0, .int .u64 0, .string ⟨#[]⟩, .slice none 0 0, .slice none 0 0], .slice none 0 0], []⟩ 8 (by kernel_rfl) (by kernel_rfl) (by kernel_rfl) (by kernel_rfl)) ?_
  intro W base args ds gs before hval0 hW _ hsz0 _
  have hsz : (DataW.weightsEach Try.prog (Try.f3.params.toList ++ Rows.packTellsSpec.plain.varTypes Try.prog) (ds ++ gs)).all (· ≤ reachBytes) = true := hsz0
  have hval : ∀ (j : Nat) t v, Try.f3.params[j]? = some t → args[j]? = some v → Value.okWide Try.prog W .any base t v := hval0
  have hW' := hW
  obtain ⟨p, q, hA0, hV, rfl, hfz, hnd⟩ := hW
  have hA : DataW.TrodAll enc Try.prog W 0 (fun _ => true) true Try.f3.params.toList args.toList ds p := hA0
  rw [Try.params3] at hA hval hsz
  obtain ⟨v0, vs0, d0, ds0, p0, q0, hargs, rfl, rfl, h0, r0⟩ := trodAll_cons hA
  obtain ⟨v1, vs1, d1, ds1, p1, q1, rfl, rfl, rfl, h1, r1⟩ := trodAll_cons r0
  obtain ⟨rfl, rfl, rfl⟩ := trodAll_nil r1
  obtain rfl : args = #[v0, v1] := by cases args; simp_all
  obtain ⟨rfl, rfl⟩ := trodVars_none hV
  clear hA0 hval0
  simp only [List.append_nil] at hW' hsz
  have hlt : ∀ x ∈ p0 ++ p1, x.block < W.heap.size := fun x hx => hW'.lt x (by simpa using hx)
  have hall : ∀ x ∈ DataW.weightsEach Try.prog [26, 27] [d0, d1], x ≤ reachBytes := fun x hx => of_decide_eq_true (List.all_eq_true.1 hsz x hx)
  have g0 : ∀ x ∈ d0.weights Try.prog 26, x ≤ reachBytes := fun x hx => hall x (DataW.weights_mem_each (j := 0) rfl rfl x hx)
  obtain ⟨u0, l0⟩ := lay_of_arg (k := SizeOf.sizeOf d0) (hval 0 _ v0 rfl rfl) h0 (by omega) g0
  have g1 : ∀ x ∈ d1.weights Try.prog 27, x ≤ reachBytes := fun x hx => hall x (DataW.weights_mem_each (j := 1) rfl rfl x hx)
  obtain ⟨u1, l1⟩ := bytes_of_arg (hval 1 _ v1 rfl rfl) h1 g1
  refine (walk _ u0 v0 u1 v1 W l0 l1).mono fun e W' ⟨he, bel⟩ => ?_
  subst he
  exact ⟨_, rfl, _, _, _, [], _, [], hW', trodAll_mk1 (shut_bool Try.underlying4 _), (trodAll_cons_mk (Below.trod Try.laidOut (by kernel_rfl) (of_decide_eq_true (by kernel_rfl)) h0 bel (fun x hx => hlt x (by simp [hx]))) (trodAll_cons_mk (Below.trod Try.laidOut (by kernel_rfl) (of_decide_eq_true (by kernel_rfl)) h1 bel (fun x hx => hlt x (by simp [hx]))) trodAll_mk0)), rfl, bel.frame _, fun h => by cases h⟩

theorem over : Rows.packTellsRow.holds Try.pinned (OpenSpec.ofChange Rows.packTellsSpec) :=
  OpenClaim.holds_of_wide 3 Try.f3 rfl rfl rfl rfl rfl rfl rfl ⟨rfl, rfl, rfl, rfl, rfl⟩ rfl rfl rfl rfl rfl (by kernel_rfl) Try.func3 (by kernel_rfl)
    (of_decide_eq_true (by kernel_rfl)) (by unfold Func.isWrapper; first | (rw [if_pos (by decide +kernel)]; kernel_rfl) | (rw [if_neg (by decide +kernel)]; exact ⟨rfl, rfl⟩))
    (fun os started H enc _ => lifted os started H enc)

/-- THE STATEMENT. -/
theorem proved : Rows.PackTellsSaid := over
#print axioms proved
end Go.Proofs.Ytihncekjbmepoab.packTells
