/-
  ExprTells holds for every expression and all octets: what it is, how great, its octets, what octets are, are as the page says; what is handed in stays. No condition.
-/
import Derived.Test.YtnliokikcpnllaaExTwo
import Derived.Test.YtnliokikcpnllaaExPair
namespace Go.Proofs.Ytnliokikcpnllaa.exprTells
open Go.ChangeShapes Go.WideShapes Go.ChangeAt Go.RowKit
open Fl

set_option maxRecDepth 100000 in
set_option maxHeartbeats 12800000 in
theorem walk (n : Nat) (u : X n) (x : Value) (bs : List UInt8) (y : Value) (w : World) (hu : LayX w n x u) (hb : BytesIs w y bs) :
    Calls Try.prog 3 #[x, y] w fun e w' => e = .returned (.bool true) ∧ Below w.heap.size w w' := by
  obtain ⟨k, b, t, ia, il, ic, rfl⟩ := LayX.shape n hu
  obtain ⟨ba, bc, rfl, hbo, hbl⟩ := hb
  have HBO : Hid (Oct w ba bc bs) := hbo
  have HBL : Hid (bs.length ≤ 140737488351232) := hbl
  have HU : Hid (LayX w n (mkX k b t ia il ic) u) := hu
  clear hu hbo hbl
  have HM : Hid (∃ c d er, msrX (pre stM n u 1 (0, 0)) = (c, d, er)) := ⟨_, _, _, rfl⟩
  obtain ⟨mc, md, mer, hm⟩ := HM.out
  have PS : Hid (∀ (W : World) (z : Value), LayX W n z u → Calls Try.prog 11 #[z] W fun e w' => e = .returned (.tuple #[.int .i64 mc, .int .i64 md, .int .i64 mer]) ∧ Below W.heap.size W w') := fun W z h => by
    have := sizeX_any n u z W h
    rw [hm] at this
    exact this
  have RS : Hid (∀ (W : World) (z : Value), LayX W n z u → Calls Try.prog 12 #[z] W fun e w' => e = .returned (.tuple #[.int .i64 mc, .int .i64 md, .int .i64 mer]) ∧ Below W.heap.size W w') := fun W z h => by
    have := rsizeX_any n u z W h
    rw [hm] at this
    exact this
  have PC : Hid (∀ (W : World) (z : Value), LayX W n z u → Calls Try.prog 18 #[z] W fun e w' => e = .returned (.int .i64 mer) ∧ Below W.heap.size W w') := fun W z h => by
    have := checkX_any n u z W h
    rw [hm] at this
    exact this
  have RC : Hid (∀ (W : World) (z : Value), LayX W n z u → Calls Try.prog 19 #[z] W fun e w' => e = .returned (.int .i64 mer) ∧ Below W.heap.size W w') := fun W z h => by
    have := rcheckX_any n u z W h
    rw [hm] at this
    exact this
  have HN : Hid (∃ l er, encT n u = (l, er)) := ⟨_, _, rfl⟩
  obtain ⟨el, eer, hn⟩ := HN.out
  have PE : Hid (∀ (W : World) (z : Value), LayX W n z u → Calls Try.prog 13 #[z] W fun e w' => ∃ a c, e = .returned (.tuple #[.slice a el.length c, .int .i64 eer]) ∧ LayB w' a el ∧ Below W.heap.size W w') := fun W z h => by
    have := encT_any h
    rw [hn] at this
    exact this
  have RE : Hid (∀ (W : World) (z : Value), LayX W n z u → Calls Try.prog 14 #[z] W fun e w' => ∃ a c, e = .returned (.tuple #[.slice a el.length c, .int .i64 eer]) ∧ LayB w' a el ∧ Below W.heap.size W w') := fun W z h => by
    have := rencT_any h
    rw [hn] at this
    exact this
  have HQ : Hid (∃ v er, decT bs = (v, er)) := ⟨_, _, rfl⟩
  obtain ⟨dv, der, hq⟩ := HQ.out
  have PD : Hid (∀ (W : World) (a : Option Addr) (c : Nat), Oct W a c bs → Calls Try.prog 15 #[.slice a bs.length c] W fun e w' => ∃ k b t ia il ic, e = .returned (.tuple #[mkX k b t ia il ic, .int .i64 der]) ∧ LayX w' 8 (mkX k b t ia il ic) dv ∧ Below W.heap.size W w') := fun W a c h => by
    have := decT_any a c bs W h
    rw [hq] at this
    exact this
  have RD : Hid (∀ (W : World) (a : Option Addr) (c : Nat), Oct W a c bs → Calls Try.prog 16 #[.slice a bs.length c] W fun e w' => ∃ k b t ia il ic, e = .returned (.tuple #[mkX k b t ia il ic, .int .i64 der]) ∧ LayX w' 8 (mkX k b t ia il ic) dv ∧ Below W.heap.size W w') := fun W a c h => by
    have := rdecT_any a c bs W h
    rw [hq] at this
    exact this
  clear HM HN HQ hm hn hq
  go_enter Try.func3, Try.ntmps3
  have X1 : Hid ((w.alloc (.cells #[.int .i64 k, .int .u64 b, .string t, .slice ia il ic] 25)).heap[w.heap.size]? = some ((.cells #[.int .i64 k, .int .u64 b, .string t, .slice ia il ic] 25 (0, 0)))) := heap_alloc_new _ _
  have B1 : Hid (Below w.heap.size w (w.alloc (.cells #[.int .i64 k, .int .u64 b, .string t, .slice ia il ic] 25))) := below_one _ _
  go_wp2_with fail
  generalize w.alloc (.cells #[.int .i64 k, .int .u64 b, .string t, .slice ia il ic] 25) = W1 at *
  obtain ⟨p0, p1, p2, p3, -⟩ := box4 X1.out
  go_wp2_with fail
  refine (ofX_any n u _ W1 (LayX.below n HU.out B1.out)).mono ?_
  rintro e w2 ⟨yo, F, rfl, ho, -, hb2⟩
  obtain ⟨k1, b1, t1, ia1, il1, ic1, rfl⟩ := LayX.shape n (OwnX.lay n ho)
  have B2 : Hid (Below w.heap.size w w2) := nxt B1.out hb2
  have X2 : Hid (w2.heap[w.heap.size]? = some ((.cells #[.int .i64 k, .int .u64 b, .string t, .slice ia il ic] 25 (0, 0)))) := (hb2.block _ (lt_of_block X1.out)).trans X1.out
  have L2 : Hid (LayX w2 n (mkX k1 b1 t1 ia1 il1 ic1) u) := OwnX.lay n ho
  clear ho hb2 p0 p1 p2 p3 X1 B1
  go_wp2_with fail
  refine (copyB_any ba bc bs w2 (HBO.out.below B2.out) HBL.out).mono ?_
  rintro e w3 ⟨s3, rfl, hs3, hb3⟩
  obtain ⟨sa, sc, rfl⟩ := hs3.shape
  have O3 : Hid (Oct (w3.alloc (.cells #[.int .i64 k1, .int .u64 b1, .string t1, .slice ia1 il1 ic1] 29)) sa sc bs) := Oct.below (hs3.oct (by have := HBL.out; omega)) (below_one _ _)
  have B3 : Hid (Below w.heap.size w (w3.alloc (.cells #[.int .i64 k1, .int .u64 b1, .string t1, .slice ia1 il1 ic1] 29))) := nxt B2.out (nxt hb3 (below_one _ _))
  have X3 : Hid ((w3.alloc (.cells #[.int .i64 k1, .int .u64 b1, .string t1, .slice ia1 il1 ic1] 29)).heap[w.heap.size]? = some ((.cells #[.int .i64 k, .int .u64 b, .string t, .slice ia il ic] 25 (0, 0)))) := ((nxt hb3 (below_one _ _)).block _ (lt_of_block X2.out)).trans X2.out
  have L3 : Hid (LayX (w3.alloc (.cells #[.int .i64 k1, .int .u64 b1, .string t1, .slice ia1 il1 ic1] 29)) n (mkX k1 b1 t1 ia1 il1 ic1) u) := LayX.below n L2.out (nxt hb3 (below_one _ _))
  have Y3 : Hid ((w3.alloc (.cells #[.int .i64 k1, .int .u64 b1, .string t1, .slice ia1 il1 ic1] 29)).heap[w3.heap.size]? = some ((.cells #[.int .i64 k1, .int .u64 b1, .string t1, .slice ia1 il1 ic1] 29 (0, 0)))) := heap_alloc_new _ _
  clear hs3 hb3 X2 L2 B2
  go_upto_region 2 with fail
  generalize w3.alloc (.cells #[.int .i64 k1, .int .u64 b1, .string t1, .slice ia1 il1 ic1] 29) = W3 at *
  generalize w3.heap.size = g5 at *
  obtain ⟨p0, p1, p2, p3, -⟩ := box4 Y3.out
  go_wp2_with fail
  refine (PS.out W3 _ L3.out).mono ?_
  rintro e w4 ⟨rfl, hb⟩
  have B4 : Hid (Below w.heap.size w w4) := nxt B3.out hb
  have X4 : Hid (w4.heap[w.heap.size]? = some ((.cells #[.int .i64 k, .int .u64 b, .string t, .slice ia il ic] 25 (0, 0)))) := (hb.block _ (lt_of_block X3.out)).trans X3.out
  have Y4 : Hid (w4.heap[g5]? = some ((.cells #[.int .i64 k1, .int .u64 b1, .string t1, .slice ia1 il1 ic1] 29 (0, 0)))) := (hb.block _ (lt_of_block Y3.out)).trans Y3.out
  have L4 : Hid (LayX w4 n (mkX k1 b1 t1 ia1 il1 ic1) u) := LayX.below n L3.out hb
  have O4 : Hid (Oct w4 sa sc bs) := O3.out.below hb
  clear hb B3 X3 Y3 L3 O3
  clear p0 p1 p2 p3
  obtain ⟨p0, p1, p2, p3, -⟩ := box4 X4.out
  go_wp2_with fail
  refine (RS.out w4 _ (LayX.below n HU.out B4.out)).mono ?_
  rintro e w5 ⟨rfl, hb⟩
  have B5 : Hid (Below w.heap.size w w5) := nxt B4.out hb
  have X5 : Hid (w5.heap[w.heap.size]? = some ((.cells #[.int .i64 k, .int .u64 b, .string t, .slice ia il ic] 25 (0, 0)))) := (hb.block _ (lt_of_block X4.out)).trans X4.out
  have Y5 : Hid (w5.heap[g5]? = some ((.cells #[.int .i64 k1, .int .u64 b1, .string t1, .slice ia1 il1 ic1] 29 (0, 0)))) := (hb.block _ (lt_of_block Y4.out)).trans Y4.out
  have L5 : Hid (LayX w5 n (mkX k1 b1 t1 ia1 il1 ic1) u) := LayX.below n L4.out hb
  have O5 : Hid (Oct w5 sa sc bs) := O4.out.below hb
  clear hb B4 X4 Y4 L4 O4
  clear p0 p1 p2 p3
  obtain ⟨p0, p1, p2, p3, -⟩ := box4 Y5.out
  go_wp2_with fail
  refine (PE.out w5 _ L5.out).mono ?_
  rintro e w6 ⟨a6, c6, rfl, hlb, hb⟩
  have B6 : Hid (Below w.heap.size w w6) := nxt B5.out hb
  have X6 : Hid (w6.heap[w.heap.size]? = some ((.cells #[.int .i64 k, .int .u64 b, .string t, .slice ia il ic] 25 (0, 0)))) := (hb.block _ (lt_of_block X5.out)).trans X5.out
  have Y6 : Hid (w6.heap[g5]? = some ((.cells #[.int .i64 k1, .int .u64 b1, .string t1, .slice ia1 il1 ic1] 29 (0, 0)))) := (hb.block _ (lt_of_block Y5.out)).trans Y5.out
  have L6 : Hid (LayX w6 n (mkX k1 b1 t1 ia1 il1 ic1) u) := LayX.below n L5.out hb
  have O6 : Hid (Oct w6 sa sc bs) := O5.out.below hb
  have E6 : Hid (LayB w6 a6 el) := hlb
  clear hlb
  clear hb B5 X5 Y5 L5 O5
  clear p0 p1 p2 p3
  obtain ⟨p0, p1, p2, p3, -⟩ := box4 X6.out
  go_wp2_with fail
  refine (RE.out w6 _ (LayX.below n HU.out B6.out)).mono ?_
  rintro e w7 ⟨a7, c7, rfl, hlb, hb⟩
  have B7 : Hid (Below w.heap.size w w7) := nxt B6.out hb
  have X7 : Hid (w7.heap[w.heap.size]? = some ((.cells #[.int .i64 k, .int .u64 b, .string t, .slice ia il ic] 25 (0, 0)))) := (hb.block _ (lt_of_block X6.out)).trans X6.out
  have Y7 : Hid (w7.heap[g5]? = some ((.cells #[.int .i64 k1, .int .u64 b1, .string t1, .slice ia1 il1 ic1] 29 (0, 0)))) := (hb.block _ (lt_of_block Y6.out)).trans Y6.out
  have L7 : Hid (LayX w7 n (mkX k1 b1 t1 ia1 il1 ic1) u) := LayX.below n L6.out hb
  have O7 : Hid (Oct w7 sa sc bs) := O6.out.below hb
  have E7 : Hid (LayB w7 a6 el) := E6.out.below hb
  have R7 : Hid (LayB w7 a7 el) := hlb
  clear hlb E6
  clear hb B6 X6 Y6 L6 O6
  clear p0 p1 p2 p3
  go_wp2_with fail
  refine (PD.out w7 _ _ O7.out).mono ?_
  rintro e w8 ⟨k8, b8, t8, ia8, il8, ic8, rfl, hl, hb0⟩
  have hb : Below w7.heap.size w7 (w8.alloc (.cells #[.int .i64 k8, .int .u64 b8, .string t8, .slice ia8 il8 ic8] 29)) := nxt hb0 (below_one _ _)
  have B8 : Hid (Below w.heap.size w (w8.alloc (.cells #[.int .i64 k8, .int .u64 b8, .string t8, .slice ia8 il8 ic8] 29))) := nxt B7.out hb
  have X8 : Hid ((w8.alloc (.cells #[.int .i64 k8, .int .u64 b8, .string t8, .slice ia8 il8 ic8] 29)).heap[w.heap.size]? = some ((.cells #[.int .i64 k, .int .u64 b, .string t, .slice ia il ic] 25 (0, 0)))) := (hb.block _ (lt_of_block X7.out)).trans X7.out
  have Y8 : Hid ((w8.alloc (.cells #[.int .i64 k8, .int .u64 b8, .string t8, .slice ia8 il8 ic8] 29)).heap[g5]? = some ((.cells #[.int .i64 k1, .int .u64 b1, .string t1, .slice ia1 il1 ic1] 29 (0, 0)))) := (hb.block _ (lt_of_block Y7.out)).trans Y7.out
  have L8 : Hid (LayX (w8.alloc (.cells #[.int .i64 k8, .int .u64 b8, .string t8, .slice ia8 il8 ic8] 29)) n (mkX k1 b1 t1 ia1 il1 ic1) u) := LayX.below n L7.out hb
  have O8 : Hid (Oct (w8.alloc (.cells #[.int .i64 k8, .int .u64 b8, .string t8, .slice ia8 il8 ic8] 29)) sa sc bs) := O7.out.below hb
  have E8 : Hid (LayB (w8.alloc (.cells #[.int .i64 k8, .int .u64 b8, .string t8, .slice ia8 il8 ic8] 29)) a6 el) := E7.out.below hb
  have R8 : Hid (LayB (w8.alloc (.cells #[.int .i64 k8, .int .u64 b8, .string t8, .slice ia8 il8 ic8] 29)) a7 el) := R7.out.below hb
  have P8 : Hid ((w8.alloc (.cells #[.int .i64 k8, .int .u64 b8, .string t8, .slice ia8 il8 ic8] 29)).heap[w8.heap.size]? = some ((.cells #[.int .i64 k8, .int .u64 b8, .string t8, .slice ia8 il8 ic8] 29 (0, 0)))) := heap_alloc_new _ _
  have M8 : Hid (LayX (w8.alloc (.cells #[.int .i64 k8, .int .u64 b8, .string t8, .slice ia8 il8 ic8] 29)) 8 (mkX k8 b8 t8 ia8 il8 ic8) dv) := LayX.below 8 hl (below_one _ _)
  clear hl hb0 E7 R7
  clear hb B7 X7 Y7 L7 O7
  go_upto_region 7 with fail
  generalize w8.alloc (.cells #[.int .i64 k8, .int .u64 b8, .string t8, .slice ia8 il8 ic8] 29) = W8 at *
  generalize w8.heap.size = g8 at *
  go_wp2_with fail
  refine (RD.out W8 _ _ (HBO.out.below B8.out)).mono ?_
  rintro e w9 ⟨k9, b9, t9, ia9, il9, ic9, rfl, hl, hb0⟩
  have hb : Below W8.heap.size W8 (w9.alloc (.cells #[.int .i64 k9, .int .u64 b9, .string t9, .slice ia9 il9 ic9] 25)) := nxt hb0 (below_one _ _)
  have B9 : Hid (Below w.heap.size w (w9.alloc (.cells #[.int .i64 k9, .int .u64 b9, .string t9, .slice ia9 il9 ic9] 25))) := nxt B8.out hb
  have X9 : Hid ((w9.alloc (.cells #[.int .i64 k9, .int .u64 b9, .string t9, .slice ia9 il9 ic9] 25)).heap[w.heap.size]? = some ((.cells #[.int .i64 k, .int .u64 b, .string t, .slice ia il ic] 25 (0, 0)))) := (hb.block _ (lt_of_block X8.out)).trans X8.out
  have Y9 : Hid ((w9.alloc (.cells #[.int .i64 k9, .int .u64 b9, .string t9, .slice ia9 il9 ic9] 25)).heap[g5]? = some ((.cells #[.int .i64 k1, .int .u64 b1, .string t1, .slice ia1 il1 ic1] 29 (0, 0)))) := (hb.block _ (lt_of_block Y8.out)).trans Y8.out
  have L9 : Hid (LayX (w9.alloc (.cells #[.int .i64 k9, .int .u64 b9, .string t9, .slice ia9 il9 ic9] 25)) n (mkX k1 b1 t1 ia1 il1 ic1) u) := LayX.below n L8.out hb
  have O9 : Hid (Oct (w9.alloc (.cells #[.int .i64 k9, .int .u64 b9, .string t9, .slice ia9 il9 ic9] 25)) sa sc bs) := O8.out.below hb
  have E9 : Hid (LayB (w9.alloc (.cells #[.int .i64 k9, .int .u64 b9, .string t9, .slice ia9 il9 ic9] 25)) a6 el) := E8.out.below hb
  have R9 : Hid (LayB (w9.alloc (.cells #[.int .i64 k9, .int .u64 b9, .string t9, .slice ia9 il9 ic9] 25)) a7 el) := R8.out.below hb
  have P9 : Hid ((w9.alloc (.cells #[.int .i64 k9, .int .u64 b9, .string t9, .slice ia9 il9 ic9] 25)).heap[g8]? = some ((.cells #[.int .i64 k8, .int .u64 b8, .string t8, .slice ia8 il8 ic8] 29 (0, 0)))) := (hb.block _ (lt_of_block P8.out)).trans P8.out
  have M9 : Hid (LayX (w9.alloc (.cells #[.int .i64 k9, .int .u64 b9, .string t9, .slice ia9 il9 ic9] 25)) 8 (mkX k8 b8 t8 ia8 il8 ic8) dv) := LayX.below 8 M8.out hb
  have Q9 : Hid ((w9.alloc (.cells #[.int .i64 k9, .int .u64 b9, .string t9, .slice ia9 il9 ic9] 25)).heap[w9.heap.size]? = some ((.cells #[.int .i64 k9, .int .u64 b9, .string t9, .slice ia9 il9 ic9] 25 (0, 0)))) := heap_alloc_new _ _
  have N9 : Hid (LayX (w9.alloc (.cells #[.int .i64 k9, .int .u64 b9, .string t9, .slice ia9 il9 ic9] 25)) 8 (mkX k9 b9 t9 ia9 il9 ic9) dv) := LayX.below 8 hl (below_one _ _)
  clear hl hb0 E8 R8 P8 M8
  clear hb B8 X8 Y8 L8 O8
  go_upto_region 8 with fail
  generalize w9.alloc (.cells #[.int .i64 k9, .int .u64 b9, .string t9, .slice ia9 il9 ic9] 25) = W9 at *
  generalize w9.heap.size = g9 at *
  have D1 : Hid (∀ W, Below W9.heap.size W9 W → Calls Try.prog 18 #[mkX k1 b1 t1 ia1 il1 ic1] W fun e w' => e = .returned (.int .i64 mer) ∧ Below W.heap.size W w') := fun W h => PC.out W _ (LayX.below n L9.out h)
  have D2 : Hid (∀ W, Below W9.heap.size W9 W → Calls Try.prog 19 #[mkX k b t ia il ic] W fun e w' => e = .returned (.int .i64 mer) ∧ Below W.heap.size W w') := fun W h => RC.out W _ (LayX.below n HU.out (nxt B9.out h))
  have D3 : Hid (∀ W, Below W9.heap.size W9 W → Calls Try.prog 20 #[.slice a6 el.length c6, .slice a7 el.length c7] W fun e w' => e = .returned (.bool true) ∧ w' = W) := fun W h => by
    have := sameB_any el el a6 a7 c6 c7 W (E9.out.below h) (R9.out.below h)
    rw [beq_self_eq_true] at this
    exact this
  have D4 : Hid (∀ W, Below W9.heap.size W9 W → Calls Try.prog 21 #[mkX k8 b8 t8 ia8 il8 ic8, mkX k9 b9 t9 ia9 il9 ic9] W fun e w' => e = .returned (.int .i64 0) ∧ Below W.heap.size W w') := fun W h => by
    have := alikeX_any 8 8 dv dv _ _ W (LayX.below 8 M9.out h) (LayX.below 8 N9.out h)
    rw [alkX_yes (oneX_refl 8 _)] at this
    exact this
  have D5 : Hid (∀ W, Below W9.heap.size W9 W → Calls Try.prog 21 #[mkX k1 b1 t1 ia1 il1 ic1, mkX k b t ia il ic] W fun e w' => e = .returned (.int .i64 0) ∧ Below W.heap.size W w') := fun W h => by
    have := alikeX_any n n u u _ _ W (LayX.below n L9.out h) (LayX.below n HU.out (nxt B9.out h))
    rw [alkX_yes (oneX_refl n _)] at this
    exact this
  have D6 : Hid (∀ W, Below W9.heap.size W9 W → Calls Try.prog 20 #[.slice sa bs.length sc, .slice ba bs.length bc] W fun e w' => e = .returned (.bool true) ∧ w' = W) := fun W h => by
    have := sameB_any bs bs sa ba sc bc W (O9.out.below h).1 (HBO.out.below (nxt B9.out h)).1
    rw [beq_self_eq_true] at this
    exact this
  obtain ⟨p0, p1, p2, p3, -⟩ := box4 X9.out
  obtain ⟨q0, q1, q2, q3, -⟩ := box4 Y9.out
  obtain ⟨r0, r1, r2, r3, -⟩ := box4 P9.out
  obtain ⟨s0, s1, s2, s3, -⟩ := box4 Q9.out
  have b0 : Below W9.heap.size W9 W9.drew := (Below.refl _ _).drew
  clear PS RS PC RC PE RE PD RD X9 Y9 P9 Q9 L9 O9 E9 R9 M9 N9 HU HBO HBL
  go_region_held3 (fun w' => w'.cell? ⟨w.heap.size, 0, none⟩ = some (.int .i64 k) ∧ w'.cell? ⟨w.heap.size, 1, none⟩ = some (.int .u64 b) ∧ w'.cell? ⟨w.heap.size, 2, none⟩ = some (.string t) ∧ w'.cell? ⟨w.heap.size, 3, none⟩ = some (.slice ia il ic) ∧
      w'.cell? ⟨g5, 0, none⟩ = some (.int .i64 k1) ∧ w'.cell? ⟨g5, 1, none⟩ = some (.int .u64 b1) ∧ w'.cell? ⟨g5, 2, none⟩ = some (.string t1) ∧ w'.cell? ⟨g5, 3, none⟩ = some (.slice ia1 il1 ic1) ∧
      w'.cell? ⟨g8, 0, none⟩ = some (.int .i64 k8) ∧ w'.cell? ⟨g8, 1, none⟩ = some (.int .u64 b8) ∧ w'.cell? ⟨g8, 2, none⟩ = some (.string t8) ∧ w'.cell? ⟨g8, 3, none⟩ = some (.slice ia8 il8 ic8) ∧
      w'.cell? ⟨g9, 0, none⟩ = some (.int .i64 k9) ∧ w'.cell? ⟨g9, 1, none⟩ = some (.int .u64 b9) ∧ w'.cell? ⟨g9, 2, none⟩ = some (.string t9) ∧ w'.cell? ⟨g9, 3, none⟩ = some (.slice ia9 il9 ic9)) (go_keep)
    (first
      | (go_at_call 17; refine (num_any _ _).mono ?_; rintro e w' ⟨rfl, hw'⟩; subst hw')
      | (go_at_call 18; refine (D1.out _ (by assumption)).mono ?_; rintro e w' ⟨rfl, hb⟩; have hk := keepc hb; have bN := nxt (by assumption) hb; clear hb)
      | (go_at_call 19; refine (D2.out _ (by assumption)).mono ?_; rintro e w' ⟨rfl, hb⟩; have hk := keepc hb; have bN := nxt (by assumption) hb; clear hb)
      | (go_at_call_of 20 (Value.slice a6 el.length c6); refine (D3.out _ (by assumption)).mono ?_; rintro e w' ⟨rfl, hw'⟩; subst hw')
      | (go_at_call_of 20 (Value.slice sa bs.length sc); refine (D6.out _ (by assumption)).mono ?_; rintro e w' ⟨rfl, hw'⟩; subst hw')
      | (go_at_call_of 21 (Value.string t8); refine (D4.out _ (by assumption)).mono ?_; rintro e w' ⟨rfl, hb⟩; have hk := keepc hb; have bN := nxt (by assumption) hb; clear hb)
      | (go_at_call_of 21 (Value.string t1); refine (D5.out _ (by assumption)).mono ?_; rintro e w' ⟨rfl, hb⟩; have hk := keepc hb; have bN := nxt (by assumption) hb; clear hb)
      | (go_at_call 22; refine (aliveX_any _).mono ?_; rintro e w' ⟨rfl, hb⟩; have hk := keepc hb; have bN := nxt (by assumption) hb; clear hb))
  go_wp2_with fail
  go_ret
  exact ⟨rfl, nxt B9.out (by assumption)⟩

set_option maxRecDepth 100000 in
set_option maxHeartbeats 1600000 in
theorem lifted (os : Os) (started : os.Started) (H : Type) (enc : TypeId × Value → H) :
    ReturnsInHanded {} Try.checked os 3 .any (Rows.exprTellsSpec.pre6 enc Try.prog Try.f3 Rows.exprTellsRow.domain false) (Rows.exprTellsSpec.post enc Try.prog Try.f3 false true false false) := by
  refine returnsInHanded_of_change_sized (C := Try.checked) Try.own started (by kernel_rfl) Try.func3
    (ChangeSpec.witness6 (enc := enc) (C := Try.checked) false ⟨#[], #[.agg #[.int .i64 0, .int .u64 0, .string ⟨#[]⟩, .slice none 0 0], .slice none 0 0], []⟩ 8 (by kernel_rfl) (by kernel_rfl) (by kernel_rfl) (by kernel_rfl)) ?_
  intro W base args ds gs before hval0 hW _ hsz0 _
  have hsz : (DataW.weightsEach Try.prog (Try.f3.params.toList ++ Rows.exprTellsSpec.plain.varTypes Try.prog) (ds ++ gs)).all (· ≤ reachBytes) = true := hsz0
  have hval : ∀ (j : Nat) t v, Try.f3.params[j]? = some t → args[j]? = some v → Value.okWide Try.prog W .any base t v := hval0
  have hW' := hW
  obtain ⟨p, q, hA0, hV, rfl, hfz, hnd⟩ := hW
  have hA : DataW.TrodAll enc Try.prog W 0 (fun _ => true) true Try.f3.params.toList args.toList ds p := hA0
  rw [Try.params3] at hA hval hsz
  obtain ⟨v0, vs0, d0, ds0, p0, q0, hargs, rfl, rfl, h0, r0⟩ := trodAll_cons hA
  obtain ⟨v1, vs1, d1, ds1, p1, q1, rfl, rfl, rfl, h1, r1⟩ := trodAll_cons r0
  obtain ⟨rfl, rfl, rfl⟩ := trodAll_nil r1
  obtain rfl : args = #[v0, v1] := by cases args; simp_all
  obtain ⟨rfl, rfl⟩ := trodVars_none hV
  clear hA0 hval0
  simp only [List.append_nil] at hW' hsz
  have hlt : ∀ x ∈ p0 ++ p1, x.block < W.heap.size := fun x hx => hW'.lt x (by simpa using hx)
  have hall : ∀ x ∈ DataW.weightsEach Try.prog [25, 26] [d0, d1], x ≤ reachBytes := fun x hx => of_decide_eq_true (List.all_eq_true.1 hsz x hx)
  have g0 : ∀ x ∈ d0.weights Try.prog 25, x ≤ reachBytes := fun x hx => hall x (DataW.weights_mem_each (j := 0) rfl rfl x hx)
  obtain ⟨u0, l0⟩ := ex_of_arg (k := SizeOf.sizeOf d0) (hval 0 _ v0 rfl rfl) h0 (by omega) g0
  have g1 : ∀ x ∈ d1.weights Try.prog 26, x ≤ reachBytes := fun x hx => hall x (DataW.weights_mem_each (j := 1) rfl rfl x hx)
  obtain ⟨u1, l1⟩ := bytes_of_arg (hval 1 _ v1 rfl rfl) h1 g1
  refine (walk _ u0 v0 u1 v1 W l0 l1).mono fun e W' ⟨he, bel⟩ => ?_
  subst he
  exact ⟨_, rfl, _, _, _, [], _, [], hW', trodAll_mk1 (shut_bool Try.underlying4 _), (trodAll_cons_mk (Below.trod Try.laidOut (by kernel_rfl) (of_decide_eq_true (by kernel_rfl)) h0 bel (fun x hx => hlt x (by simp [hx]))) (trodAll_cons_mk (Below.trod Try.laidOut (by kernel_rfl) (of_decide_eq_true (by kernel_rfl)) h1 bel (fun x hx => hlt x (by simp [hx]))) trodAll_mk0)), rfl, bel.frame _, fun h => by cases h⟩

theorem over : Rows.exprTellsRow.holds Try.pinned (OpenSpec.ofChange Rows.exprTellsSpec) :=
  OpenClaim.holds_of_wide 3 Try.f3 rfl rfl rfl rfl rfl rfl rfl ⟨rfl, rfl, rfl, rfl, rfl⟩ rfl rfl rfl rfl rfl (by kernel_rfl) Try.func3 (by kernel_rfl)
    (of_decide_eq_true (by kernel_rfl)) (by unfold Func.isWrapper; first | (rw [if_pos (by decide +kernel)]; kernel_rfl) | (rw [if_neg (by decide +kernel)]; exact ⟨rfl, rfl⟩))
    (fun os started H enc _ => lifted os started H enc)

/-- THE STATEMENT. -/
theorem proved : Rows.ExprTellsSaid := over
#print axioms proved
end Go.Proofs.Ytnliokikcpnllaa.exprTells
