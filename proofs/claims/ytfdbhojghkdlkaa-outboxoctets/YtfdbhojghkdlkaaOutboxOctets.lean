/-
  OutboxOctets: for every box and all octets: what Encode makes of the box, and Decode of the octets, is the page's; a box comes back from its octets, octets that are a box's are built again of it; what was handed in stays. No condition.
-/
import Derived.Test.YtfdbhojghkdlkaaObRDec
import Derived.Test.YtfdbhojghkdlkaaJ21
import Derived.Test.YtfdbhojghkdlkaaJ8
namespace Go.Proofs.Ytfdbhojghkdlkaa.outboxOctets
open Go.ChangeShapes Go.WideShapes Go.ChangeAt Go.RowKit Go.Deep

theorem cells2 {w : World} {P : Nat} {x y : Value} {t : TypeId} (h : w.heap[P]? = some (.cells #[x, y] t (0, 0))) {W' : World} (hb : Below w.heap.size w W') : W'.cell? ⟨P, 0, none⟩ = some x ∧ W'.cell? ⟨P, 1, none⟩ = some y := by
  have h' := (hb.block _ (lt_of_block h)).trans h
  exact ⟨(cell_of h' 0).1, (cell_of h' 1).1⟩

theorem alk_eq {n : Nat} (L : Int) (l : List (Tm n)) : alk L L l l = 0 := by
  unfold alk
  rw [if_pos ⟨rfl, one_true rfl⟩]

theorem dec_facts (x : List UInt8) : ((∀ u ∈ (decB nmK x).2.2, TmOk u) ∧ (decB nmK x).2.2.length * 104 ≤ 140737488351232) ∧ ((decB nmK x).1 = 0 → chkB (decB nmK x).2.1 (decB nmK x).2.2 = 0 ∧ encB (decB nmK x).2.1 (decB nmK x).2.2 = x) := by
  refine ⟨?_, fun h => ⟨(encB_decB h).1, (encB_decB h).2.1⟩⟩
  by_cases h : (decB nmK x).1 = 0
  · exact tm_ok (encB_decB h).1
  · rw [decB_err h]
    simp

theorem encB_len {n : Nat} (L : Int) (its : List (Tm n)) : (if chkB L its = 0 then encB L its else []).length ≤ 200000000000000 := by
  by_cases h : chkB L its = 0
  · rw [if_pos h]
    obtain ⟨_, _, h3, h4⟩ := chkB_ok h
    have := encIs_len (its := its) fun u hu => (okT_mem h4 u hu).2.2
    unfold encB
    simp only [List.length_append, octs_length, octsK_length]
    omega
  · rw [if_neg h]; simp

/-- Items as trees of depth up to eight. -/
def RelE {n : Nat} : List (Tm n) → List (Tm 8) → Prop
  | [], [] => True
  | u :: r, v :: s => (v.1 = u.1 ∧ v.2.1 = u.2.1 ∧ (∀ w x, Lay w n x u.2.2 → Lay w 8 x v.2.2) ∧ chk v.2.2 = 0) ∧ RelE r s
  | _, _ => False
theorem relE_ex {n : Nat} : ∀ (its : List (Tm n)), (∀ u ∈ its, chk u.2.2 = 0) → ∃ s, RelE its s
  | [], _ => ⟨[], trivial⟩
  | u :: r, h => by
    obtain ⟨v, h1, h2⟩ := Lay.eight (h u List.mem_cons_self)
    obtain ⟨s, hs⟩ := relE_ex r fun x hx => h x (List.mem_cons_of_mem _ hx)
    exact ⟨(u.1, u.2.1, v) :: s, ⟨rfl, rfl, h1, h2⟩, hs⟩
theorem RelE.length {n : Nat} : ∀ {its : List (Tm n)} {s : List (Tm 8)}, RelE its s → s.length = its.length
  | [], [], _ => rfl
  | _ :: _, _ :: _, ⟨_, h⟩ => by simp [RelE.length h]
theorem RelE.okT {n : Nat} {L : Int} : ∀ {its : List (Tm n)} {s : List (Tm 8)} {lo : Int}, RelE its s → okT L lo its = true → okT L lo s = true
  | [], [], _, _, _ => rfl
  | u :: r, v :: s, lo, ⟨⟨h1, h2, _, h4⟩, h⟩, ho => by
    rw [okT_cons] at ho ⊢
    obtain ⟨k1, k2, k3, k4⟩ := ho
    obtain ⟨_, k6, k7⟩ := effE_chk k3
    refine ⟨by omega, by omega, effE_mk h4 (by rw [h2]; exact k6) (by rw [h2]; exact k7), ?_⟩
    rw [h1]
    exact RelE.okT h k4
theorem RelE.at {n : Nat} : ∀ {its : List (Tm n)} {s : List (Tm 8)} (i : Nat) (v : Tm 8), RelE its s → s[i]? = some v → ∃ u, its[i]? = some u ∧ v.1 = u.1 ∧ v.2.1 = u.2.1 ∧ (∀ w x, Lay w n x u.2.2 → Lay w 8 x v.2.2)
  | [], [], _, _, _, e => by simp at e
  | u :: r, v :: s, 0, _, ⟨⟨h1, h2, h3, _⟩, _⟩, e => by
    simp only [List.getElem?_cons_zero, Option.some.injEq] at e
    subst e
    exact ⟨u, rfl, h1, h2, h3⟩
  | _ :: r, _ :: s, i + 1, v, ⟨_, h⟩, e => by
    simp only [List.getElem?_cons_succ] at e ⊢
    exact RelE.at i v h e
theorem tis_eight {n : Nat} {w : World} {ia : Option Addr} {ic : Nat} {L : Int} {its : List (Tm n)} (h : TIs w n ia ic its) (h0 : chkB L its = 0) : ∃ s : List (Tm 8), s.length = its.length ∧ TIs w 8 ia ic s ∧ chkB L s = 0 ∧ ∀ u ∈ s, bitsV 8 u.2.2 := by
  obtain ⟨k1, k2, k3, k4⟩ := chkB_ok h0
  obtain ⟨s, hs⟩ := relE_ex its fun u hu => (effE_chk (okT_mem k4 u hu).2.2).1
  have hl := hs.length
  obtain ⟨t1, t2, t3, t4, t5, t6, t7⟩ := h
  have hlay : LayR (shT 8) w ia s := by
    intro i v hv
    obtain ⟨u, hu, e1, e2, e3⟩ := hs.at i v hv
    obtain ⟨b, o, c0, c1, c2, c3, c4, q, q0, q1, q2, q3, q4, q5, q6⟩ := t7 i u hu
    refine ⟨b, o, c0, c1, c2, c3, c4, q, ?_, q1, q2, q3, q4, q5, e3 _ _ q6⟩
    intro j z hj
    refine q0 j z ?_
    show ([.int .i64 u.1, .string u.2.1] : List Value)[j]? = some z
    rw [← e1, ← e2]
    exact hj
  have hc : chkB L s = 0 := by
    unfold chkB
    rw [if_pos ⟨k1, k2, by omega, hs.okT k4⟩]
  refine ⟨s, hl, ⟨by omega, t2, by omega, fun e => by rw [hl]; exact t4 e, t5, fun v hv => ?_, hlay⟩, hc, fun v hv => ?_⟩
  · obtain ⟨i, hi⟩ := List.getElem?_of_mem hv
    obtain ⟨u, hu, e1, e2, _⟩ := hs.at i v hi
    have := t6 u (List.mem_of_getElem? hu)
    unfold TmOk at this ⊢
    rw [e1, e2]
    exact this
  · obtain ⟨i, hi⟩ := List.getElem?_of_mem hv
    obtain ⟨b, o, c0, c1, c2, c3, c4, q, q0, q1, q2, q3, q4, q5, q6⟩ := hlay i v hi
    exact Lay.bits 8 q6

set_option maxRecDepth 100000 in
set_option maxHeartbeats 12800000 in
theorem bad {n : Nat} (L : Int) (its : List (Tm n)) (ia : Option Addr) (ic : Nat) (x : List UInt8) (a : Option Addr) (c : Nat) (w : World) (hT : TIs w n ia ic its) (ho : Oct w a c x) (hl : x.length ≤ 140737488351232) (hc : chkB L its = 9) :
    Calls Try.prog 3 #[.agg #[.int .i64 L, .slice ia its.length ic], .slice a x.length c] w fun e w' => e = .returned (.bool true) ∧ Below w.heap.size w w' := by
  have HT : Hid (TIs w n ia ic its) := hT
  have HOK : Hid ((∀ u ∈ its, TmOk u) ∧ its.length * 104 ≤ 140737488351232) := ⟨hT.2.2.2.2.2.1, hT.2.2.1⟩
  have HX : Hid (Oct w a c x) := ho
  have HXL : Hid (x.length ≤ 140737488351232) := hl
  clear hT ho hl
  have HD0 := dec_facts x
  have HDQ := decB_same x
  obtain ⟨⟨eh, Lh, ih⟩, hD⟩ : ∃ R, decB nmK x = R := ⟨_, rfl⟩
  rw [hD] at HD0 HDQ
  have HIH : Hid ((∀ u ∈ ih, TmOk u) ∧ ih.length * 104 ≤ 140737488351232) := HD0.1
  have HBK : Hid (eh = 0 → chkB Lh ih = 0 ∧ encB Lh ih = x) := HD0.2
  have CD : Hid (∀ W' a' c', Oct W' a' c' x → Calls Try.prog 8 #[.slice a' x.length c'] W' (BoxPost W' (eh, Lh, ih))) := fun W' a' c' h => by have := bdecode_any a' c' x W' h; rwa [hD] at this
  have CQ : Hid (∀ W' a' c', Oct W' a' c' x → Calls Try.prog 9 #[.slice a' x.length c'] W' (BoxPost W' (eh, Lh, ih))) := fun W' a' c' h => by have := rbdecode_any a' c' x W' h; rwa [← HDQ] at this
  clear hD HD0 HDQ
  obtain ⟨pl, HPL⟩ : ∃ pl, Hid ((if chkB L its = 0 then encB L its else []) = pl) := ⟨_, rfl⟩
  have HPN : Hid (pl.length ≤ 200000000000000) := by
    have := encB_len L its
    rwa [HPL.out] at this
  have CE : Hid (∀ W' a' c', TIs W' n a' c' its → Calls Try.prog 6 #[.agg #[.int .i64 L, .slice a' its.length c']] W' fun e w' => ∃ s, e = .returned (.tuple #[s, .int .i64 (chkB L its)]) ∧ Bs w' W'.heap.size s pl ∧ Below W'.heap.size W' w') := fun W' a' c' h => by have := bencode_any L its a' c' W' h; rwa [HPL.out] at this
  have CF : Hid (∀ W' a' c', TIs W' n a' c' its → Calls Try.prog 7 #[.agg #[.int .i64 L, .slice a' its.length c']] W' fun e w' => ∃ s, e = .returned (.tuple #[s, .int .i64 (chkB L its)]) ∧ Bs w' W'.heap.size s pl ∧ Below W'.heap.size W' w') := fun W' a' c' h => by have := rbencode_any L its a' c' W' h; rwa [HPL.out] at this
  obtain ⟨cb, HCB⟩ : ∃ cb, Hid (chkB L its = cb) := ⟨_, rfl⟩
  rw [HCB.out] at CE CF
  have X0 : Hid ((w.alloc (.cells #[.int .i64 L, .slice ia its.length ic] 24)).heap[w.heap.size]? = some (.cells #[.int .i64 L, .slice ia its.length ic] 24 (0, 0))) := heap_alloc_new _ _
  have B1 : Hid (Below w.heap.size w (w.alloc (.cells #[.int .i64 L, .slice ia its.length ic] 24))) := below_one _ _
  go_enter Try.func3, Try.ntmps3
  go_wp2_with fail
  generalize w.alloc (.cells #[.int .i64 L, .slice ia its.length ic] 24) = w1 at *
  refine (of_any L its ia ic w1 (HT.out.below B1.out)).mono ?_
  rintro e w2 ⟨v2, H2, rfl, h2⟩
  obtain ⟨a2, c2, rfl, t2⟩ := CopyInv.tis h2 HOK.out.2 HOK.out.1
  have T2 : Hid (TIs w2 n a2 c2 its) := t2
  have B12 : Hid (Below w1.heap.size w1 w2) := h2.2.2
  clear h2 t2
  go_wp2_with fail
  refine (copyB_any a c x w2 (HX.out.below (nxt B1.out B12.out)) HXL.out).mono ?_
  rintro e w3 ⟨s3, rfl, h3, hb3⟩
  obtain ⟨a3, c3, rfl⟩ := h3.shape
  have O3 : Hid (Oct w3 a3 c3 x) := h3.oct (by have := HXL.out; omega)
  have B23 : Hid (Below w2.heap.size w2 w3) := hb3
  clear h3 hb3
  have Q4 : Hid ((w3.alloc (.cells #[.int .i64 L, .slice a2 its.length c2] 26)).heap[w3.heap.size]? = some (.cells #[.int .i64 L, .slice a2 its.length c2] 26 (0, 0))) := heap_alloc_new _ _
  have B34 : Hid (Below w3.heap.size w3 (w3.alloc (.cells #[.int .i64 L, .slice a2 its.length c2] 26))) := below_one _ _
  go_wp2_with fail
  generalize w3.alloc (.cells #[.int .i64 L, .slice a2 its.length c2] 26) = W4 at *
  have O4 : Hid (TIs W4 n a2 c2 its) := T2.out.below (nxt B23.out B34.out)
  have I4 : Hid (Oct W4 a3 c3 x) := O3.out.below B34.out
  have B14 : Hid (Below w1.heap.size w1 W4) := nxt B12.out (nxt B23.out B34.out)
  clear T2 B12 B23 B34 O3
  refine (CE.out W4 a2 c2 O4.out).mono ?_
  rintro e w5 ⟨s5, rfl, h5, hb5⟩
  obtain ⟨a5, c5, rfl⟩ := h5.shape
  have O5 : Hid (Oct w5 a5 c5 pl) := h5.oct HPN.out
  have B45 : Hid (Below W4.heap.size W4 w5) := hb5
  clear h5 hb5
  obtain ⟨p0, p1⟩ := cells2 X0.out (nxt B14.out B45.out)
  simp only
  go_wp2_with fail
  clear p0 p1
  refine (CF.out w5 ia ic (HT.out.below (nxt B1.out (nxt B14.out B45.out)))).mono ?_
  rintro e w6 ⟨s6, rfl, h6, hb6⟩
  obtain ⟨a6, c6, rfl⟩ := h6.shape
  have O6 : Hid (Oct w6 a6 c6 pl) := h6.oct HPN.out
  have B56 : Hid (Below w5.heap.size w5 w6) := hb6
  have B46 : Hid (Below W4.heap.size W4 w6) := nxt B45.out hb6
  clear h6 hb6
  simp only
  go_wp2_with fail
  refine (CD.out w6 a3 c3 (I4.out.below B46.out)).mono ?_
  rintro e w7 ⟨v7, H7, rfl, h7⟩
  obtain ⟨a7, c7, rfl, t7⟩ := CopyInv.tis h7 HIH.out.2 HIH.out.1
  have Q8 : Hid ((w7.alloc (.cells #[.int .i64 Lh, .slice a7 ih.length c7] 26)).heap[w7.heap.size]? = some (.cells #[.int .i64 Lh, .slice a7 ih.length c7] 26 (0, 0))) := heap_alloc_new _ _
  have B68 : Hid (Below w6.heap.size w6 (w7.alloc (.cells #[.int .i64 Lh, .slice a7 ih.length c7] 26))) := nxt h7.2.2 (below_one _ _)
  have T8 : Hid (TIs (w7.alloc (.cells #[.int .i64 Lh, .slice a7 ih.length c7] 26)) 8 a7 c7 ih) := t7.below (below_one _ _)
  clear h7 t7
  simp only
  go_wp2_with fail
  generalize w7.alloc (.cells #[.int .i64 Lh, .slice a7 ih.length c7] 26) = W8 at *
  have B48 : Hid (Below W4.heap.size W4 W8) := nxt B46.out B68.out
  have B18 : Hid (Below w1.heap.size w1 W8) := nxt B14.out B48.out
  refine (CQ.out W8 a c (HX.out.below (nxt B1.out B18.out))).mono ?_
  rintro e w9 ⟨v9, H9, rfl, h9⟩
  obtain ⟨a9, c9, rfl, t9⟩ := CopyInv.tis h9 HIH.out.2 HIH.out.1
  have Q10 : Hid ((w9.alloc (.cells #[.int .i64 Lh, .slice a9 ih.length c9] 24)).heap[w9.heap.size]? = some (.cells #[.int .i64 Lh, .slice a9 ih.length c9] 24 (0, 0))) := heap_alloc_new _ _
  have B810 : Hid (Below W8.heap.size W8 (w9.alloc (.cells #[.int .i64 Lh, .slice a9 ih.length c9] 24))) := nxt h9.2.2 (below_one _ _)
  have T10 : Hid (TIs (w9.alloc (.cells #[.int .i64 Lh, .slice a9 ih.length c9] 24)) 8 a9 c9 ih) := t9.below (below_one _ _)
  clear h9 t9
  simp only
  go_wp2_with fail
  generalize w9.alloc (.cells #[.int .i64 Lh, .slice a9 ih.length c9] 24) = WA at *
  have B6A : Hid (Below w6.heap.size w6 WA) := nxt B68.out B810.out
  have B5A : Hid (Below w5.heap.size w5 WA) := nxt B56.out B6A.out
  have B4A : Hid (Below W4.heap.size W4 WA) := nxt B48.out B810.out
  have B1A : Hid (Below w1.heap.size w1 WA) := nxt B18.out B810.out
  have BWA : Hid (Below w.heap.size w WA) := nxt B1.out B1A.out
  have S1 : Hid (∀ W', Below WA.heap.size WA W' → Calls Try.prog 10 #[.slice a5 pl.length c5, .slice a6 pl.length c6] W' fun e w' => e = .returned (.bool true) ∧ w' = W') := fun W' h => by have := sameB_any pl pl a5 a6 c5 c6 W' (O5.out.below (nxt B5A.out h)).1 (O6.out.below (nxt B6A.out h)).1; rwa [beq_self_eq_true] at this
  have S2 : Hid (∀ W', Below WA.heap.size WA W' → Calls Try.prog 10 #[.slice a3 x.length c3, .slice a x.length c] W' fun e w' => e = .returned (.bool true) ∧ w' = W') := fun W' h => by have := sameB_any x x a3 a c3 c W' (I4.out.below (nxt B4A.out h)).1 (HX.out.below (nxt BWA.out h)).1; rwa [beq_self_eq_true] at this
  have L1 : Hid (∀ W', Below WA.heap.size WA W' → Calls Try.prog 12 #[.agg #[.int .i64 Lh, .slice a7 ih.length c7], .agg #[.int .i64 Lh, .slice a9 ih.length c9]] W' fun e w' => e = .returned (.int .i64 0) ∧ Below W'.heap.size W' w') := fun W' h => by have := alike_any Lh Lh ih ih a7 a9 c7 c9 W' (T8.out.below (nxt B810.out h)) (T10.out.below h); rwa [alk_eq] at this
  have L2 : Hid (∀ W', Below WA.heap.size WA W' → Calls Try.prog 12 #[.agg #[.int .i64 L, .slice a2 its.length c2], .agg #[.int .i64 L, .slice ia its.length ic]] W' fun e w' => e = .returned (.int .i64 0) ∧ Below W'.heap.size W' w') := fun W' h => by have := alike_any L L its its a2 ia c2 ic W' (O4.out.below (nxt B4A.out h)) (HT.out.below (nxt BWA.out h)); rwa [alk_eq] at this
  have XP : Hid (∀ W', Below WA.heap.size WA W' → W'.cell? ⟨w.heap.size, 0, none⟩ = some (.int .i64 L) ∧ W'.cell? ⟨w.heap.size, 1, none⟩ = some (.slice ia its.length ic)) := fun W' h => cells2 X0.out (nxt B1A.out h)
  have X4 : Hid (∀ W', Below WA.heap.size WA W' → W'.cell? ⟨w3.heap.size, 0, none⟩ = some (.int .i64 L) ∧ W'.cell? ⟨w3.heap.size, 1, none⟩ = some (.slice a2 its.length c2)) := fun W' h => cells2 Q4.out (nxt B4A.out h)
  have X8 : Hid (∀ W', Below WA.heap.size WA W' → W'.cell? ⟨w7.heap.size, 0, none⟩ = some (.int .i64 Lh) ∧ W'.cell? ⟨w7.heap.size, 1, none⟩ = some (.slice a7 ih.length c7)) := fun W' h => cells2 Q8.out (nxt B810.out h)
  have XA : Hid (∀ W', Below WA.heap.size WA W' → W'.cell? ⟨w9.heap.size, 0, none⟩ = some (.int .i64 Lh) ∧ W'.cell? ⟨w9.heap.size, 1, none⟩ = some (.slice a9 ih.length c9)) := fun W' h => cells2 Q10.out h
  have TU : Hid (∀ W', Below WA.heap.size WA W' → TIs W' 8 a7 c7 ih) := fun W' h => T8.out.below (nxt B810.out h)
  have TB : Hid (∀ W', Below WA.heap.size WA W' → TIs W' n ia ic its) := fun W' h => HT.out.below (nxt BWA.out h)
  have OP : Hid (∀ W', Below WA.heap.size WA W' → Oct W' a5 c5 pl) := fun W' h => O5.out.below (nxt B5A.out h)
  have OX : Hid (∀ W', Below WA.heap.size WA W' → Oct W' a c x) := fun W' h => HX.out.below (nxt BWA.out h)
  clear B6A B5A B4A B1A B810 B18 B48 B68 B46 B56 B45 B14 B1 T8 T10 O4 O5 O6 I4 Q4 Q8 Q10 X0 CD CQ CE CF HT HX
  refine (S1.out _ (Below.refl _ _)).mono ?_
  rintro e w11 ⟨rfl, rfl⟩
  obtain ⟨p0, p1⟩ := X8.out _ (Below.refl _ _)
  obtain ⟨p2, p3⟩ := XA.out _ (Below.refl _ _)
  go_wp2_with (go_at_call 11; refine (num_any _ _).mono ?_; rintro e w12 ⟨rfl, hw12⟩; subst w12)
  clear p0 p1 p2 p3
  refine (L1.out _ (Below.refl _ _)).mono ?_
  rintro e w12 ⟨rfl, hb12⟩
  have D12 : Hid (Below _ _ w12) := hb12
  clear hb12
  obtain ⟨p0, p1⟩ := X4.out _ D12.out
  obtain ⟨p2, p3⟩ := XP.out _ D12.out
  go_wp2_with (go_at_call 11; refine (num_any _ _).mono ?_; rintro e w12 ⟨rfl, hw12⟩; subst w12)
  clear p0 p1 p2 p3
  refine (L2.out _ D12.out).mono ?_
  rintro e w13 ⟨rfl, hb13⟩
  have D13 : Hid (Below _ _ w13) := nxt D12.out hb13
  clear hb13 D12
  go_wp2_with fail
  refine (S2.out _ D13.out).mono ?_
  rintro e w14 ⟨rfl, rfl⟩
  rw [hc] at HCB
  obtain rfl := HCB.out
  clear hc HCB
  by_cases hh : eh = 0
  · subst hh
    have HB0 : Hid _ := HBK.out rfl
    obtain ⟨p0, p1⟩ := X8.out _ D13.out
    go_wp2_with fail
    clear p0 p1
    have CZ : Hid (∀ W', TIs W' 8 a7 c7 ih → Calls Try.prog 6 #[.agg #[.int .i64 Lh, .slice a7 ih.length c7]] W' fun e w' => ∃ s, e = .returned (.tuple #[s, .int .i64 0]) ∧ Bs w' W'.heap.size s x ∧ Below W'.heap.size W' w') := fun W' h => by have := bencode_any Lh ih a7 c7 W' h; rwa [HB0.out.1, if_pos rfl, HB0.out.2] at this
    refine (CZ.out _ (TU.out _ D13.out)).mono ?_
    rintro e w20 ⟨s20, rfl, h20, hb20⟩
    obtain ⟨a20, c20, rfl⟩ := h20.shape
    have O20 : Hid (Oct w20 a20 c20 x) := h20.oct (by have := HXL.out; omega)
    have D20 : Hid (Below _ _ w20) := nxt D13.out hb20
    have S20 : Hid (Calls Try.prog 10 #[.slice a20 x.length c20, .slice a x.length c] w20 fun e w' => e = .returned (.bool true) ∧ w' = w20) := by have := sameB_any x x a20 a c20 c w20 O20.out.1 (OX.out _ D20.out).1; rwa [beq_self_eq_true] at this
    clear h20 hb20
    simp only
    go_wp2_with (go_at_call 11; refine (num_any _ _).mono ?_; rintro e w12 ⟨rfl, hw12⟩; subst w12)
    refine S20.out.mono ?_
    rintro e w21 ⟨rfl, rfl⟩
    go_wp2_with fail
    refine (alive_any _).mono ?_
    rintro e w22 ⟨rfl, hb22⟩
    go_wp2_with fail
    go_ret
    exact ⟨rfl, nxt BWA.out (nxt D20.out hb22)⟩
  · have hd1 : (eh == 0) = false := by simpa using hh
    clear hh
    go_wp2_with fail
    refine (alive_any _).mono ?_
    rintro e w22 ⟨rfl, hb22⟩
    go_wp2_with fail
    go_ret
    exact ⟨rfl, nxt BWA.out (nxt D13.out hb22)⟩

set_option maxRecDepth 100000 in
set_option maxHeartbeats 12800000 in
theorem good (L : Int) (its : List (Tm 8)) (ia : Option Addr) (ic : Nat) (x : List UInt8) (a : Option Addr) (c : Nat) (w : World) (hT : TIs w 8 ia ic its) (ho : Oct w a c x) (hl : x.length ≤ 140737488351232) (hc : chkB L its = 0) (hbits : ∀ u ∈ its, bitsV 8 u.2.2) :
    Calls Try.prog 3 #[.agg #[.int .i64 L, .slice ia its.length ic], .slice a x.length c] w fun e w' => e = .returned (.bool true) ∧ Below w.heap.size w w' := by
  have CB : Hid (∀ W' a' c', Oct W' a' c' (encB L its) → Calls Try.prog 8 #[.slice a' (encB L its).length c'] W' (BoxPost W' (0, L, its))) := fun W' a' c' h => by have := bdecode_any a' c' (encB L its) W' h; rwa [decB_encB hc hbits] at this
  clear hbits
  have HT : Hid (TIs w 8 ia ic its) := hT
  have HOK : Hid ((∀ u ∈ its, TmOk u) ∧ its.length * 104 ≤ 140737488351232) := ⟨hT.2.2.2.2.2.1, hT.2.2.1⟩
  have HX : Hid (Oct w a c x) := ho
  have HXL : Hid (x.length ≤ 140737488351232) := hl
  clear hT ho hl
  have HD0 := dec_facts x
  have HDQ := decB_same x
  obtain ⟨⟨eh, Lh, ih⟩, hD⟩ : ∃ R, decB nmK x = R := ⟨_, rfl⟩
  rw [hD] at HD0 HDQ
  have HIH : Hid ((∀ u ∈ ih, TmOk u) ∧ ih.length * 104 ≤ 140737488351232) := HD0.1
  have HBK : Hid (eh = 0 → chkB Lh ih = 0 ∧ encB Lh ih = x) := HD0.2
  have CD : Hid (∀ W' a' c', Oct W' a' c' x → Calls Try.prog 8 #[.slice a' x.length c'] W' (BoxPost W' (eh, Lh, ih))) := fun W' a' c' h => by have := bdecode_any a' c' x W' h; rwa [hD] at this
  have CQ : Hid (∀ W' a' c', Oct W' a' c' x → Calls Try.prog 9 #[.slice a' x.length c'] W' (BoxPost W' (eh, Lh, ih))) := fun W' a' c' h => by have := rbdecode_any a' c' x W' h; rwa [← HDQ] at this
  clear hD HD0 HDQ
  obtain ⟨pl, HPL⟩ : ∃ pl, Hid ((if chkB L its = 0 then encB L its else []) = pl) := ⟨_, rfl⟩
  have HPN : Hid (pl.length ≤ 200000000000000) := by
    have := encB_len L its
    rwa [HPL.out] at this
  have CE : Hid (∀ W' a' c', TIs W' 8 a' c' its → Calls Try.prog 6 #[.agg #[.int .i64 L, .slice a' its.length c']] W' fun e w' => ∃ s, e = .returned (.tuple #[s, .int .i64 (chkB L its)]) ∧ Bs w' W'.heap.size s pl ∧ Below W'.heap.size W' w') := fun W' a' c' h => by have := bencode_any L its a' c' W' h; rwa [HPL.out] at this
  have CF : Hid (∀ W' a' c', TIs W' 8 a' c' its → Calls Try.prog 7 #[.agg #[.int .i64 L, .slice a' its.length c']] W' fun e w' => ∃ s, e = .returned (.tuple #[s, .int .i64 (chkB L its)]) ∧ Bs w' W'.heap.size s pl ∧ Below W'.heap.size W' w') := fun W' a' c' h => by have := rbencode_any L its a' c' W' h; rwa [HPL.out] at this
  obtain ⟨cb, HCB⟩ : ∃ cb, Hid (chkB L its = cb) := ⟨_, rfl⟩
  rw [HCB.out] at CE CF
  have X0 : Hid ((w.alloc (.cells #[.int .i64 L, .slice ia its.length ic] 24)).heap[w.heap.size]? = some (.cells #[.int .i64 L, .slice ia its.length ic] 24 (0, 0))) := heap_alloc_new _ _
  have B1 : Hid (Below w.heap.size w (w.alloc (.cells #[.int .i64 L, .slice ia its.length ic] 24))) := below_one _ _
  go_enter Try.func3, Try.ntmps3
  go_wp2_with fail
  generalize w.alloc (.cells #[.int .i64 L, .slice ia its.length ic] 24) = w1 at *
  refine (of_any L its ia ic w1 (HT.out.below B1.out)).mono ?_
  rintro e w2 ⟨v2, H2, rfl, h2⟩
  obtain ⟨a2, c2, rfl, t2⟩ := CopyInv.tis h2 HOK.out.2 HOK.out.1
  have T2 : Hid (TIs w2 8 a2 c2 its) := t2
  have B12 : Hid (Below w1.heap.size w1 w2) := h2.2.2
  clear h2 t2
  go_wp2_with fail
  refine (copyB_any a c x w2 (HX.out.below (nxt B1.out B12.out)) HXL.out).mono ?_
  rintro e w3 ⟨s3, rfl, h3, hb3⟩
  obtain ⟨a3, c3, rfl⟩ := h3.shape
  have O3 : Hid (Oct w3 a3 c3 x) := h3.oct (by have := HXL.out; omega)
  have B23 : Hid (Below w2.heap.size w2 w3) := hb3
  clear h3 hb3
  have Q4 : Hid ((w3.alloc (.cells #[.int .i64 L, .slice a2 its.length c2] 26)).heap[w3.heap.size]? = some (.cells #[.int .i64 L, .slice a2 its.length c2] 26 (0, 0))) := heap_alloc_new _ _
  have B34 : Hid (Below w3.heap.size w3 (w3.alloc (.cells #[.int .i64 L, .slice a2 its.length c2] 26))) := below_one _ _
  go_wp2_with fail
  generalize w3.alloc (.cells #[.int .i64 L, .slice a2 its.length c2] 26) = W4 at *
  have O4 : Hid (TIs W4 8 a2 c2 its) := T2.out.below (nxt B23.out B34.out)
  have I4 : Hid (Oct W4 a3 c3 x) := O3.out.below B34.out
  have B14 : Hid (Below w1.heap.size w1 W4) := nxt B12.out (nxt B23.out B34.out)
  clear T2 B12 B23 B34 O3
  refine (CE.out W4 a2 c2 O4.out).mono ?_
  rintro e w5 ⟨s5, rfl, h5, hb5⟩
  obtain ⟨a5, c5, rfl⟩ := h5.shape
  have O5 : Hid (Oct w5 a5 c5 pl) := h5.oct HPN.out
  have B45 : Hid (Below W4.heap.size W4 w5) := hb5
  clear h5 hb5
  obtain ⟨p0, p1⟩ := cells2 X0.out (nxt B14.out B45.out)
  simp only
  go_wp2_with fail
  clear p0 p1
  refine (CF.out w5 ia ic (HT.out.below (nxt B1.out (nxt B14.out B45.out)))).mono ?_
  rintro e w6 ⟨s6, rfl, h6, hb6⟩
  obtain ⟨a6, c6, rfl⟩ := h6.shape
  have O6 : Hid (Oct w6 a6 c6 pl) := h6.oct HPN.out
  have B56 : Hid (Below w5.heap.size w5 w6) := hb6
  have B46 : Hid (Below W4.heap.size W4 w6) := nxt B45.out hb6
  clear h6 hb6
  simp only
  go_wp2_with fail
  refine (CD.out w6 a3 c3 (I4.out.below B46.out)).mono ?_
  rintro e w7 ⟨v7, H7, rfl, h7⟩
  obtain ⟨a7, c7, rfl, t7⟩ := CopyInv.tis h7 HIH.out.2 HIH.out.1
  have Q8 : Hid ((w7.alloc (.cells #[.int .i64 Lh, .slice a7 ih.length c7] 26)).heap[w7.heap.size]? = some (.cells #[.int .i64 Lh, .slice a7 ih.length c7] 26 (0, 0))) := heap_alloc_new _ _
  have B68 : Hid (Below w6.heap.size w6 (w7.alloc (.cells #[.int .i64 Lh, .slice a7 ih.length c7] 26))) := nxt h7.2.2 (below_one _ _)
  have T8 : Hid (TIs (w7.alloc (.cells #[.int .i64 Lh, .slice a7 ih.length c7] 26)) 8 a7 c7 ih) := t7.below (below_one _ _)
  clear h7 t7
  simp only
  go_wp2_with fail
  generalize w7.alloc (.cells #[.int .i64 Lh, .slice a7 ih.length c7] 26) = W8 at *
  have B48 : Hid (Below W4.heap.size W4 W8) := nxt B46.out B68.out
  have B18 : Hid (Below w1.heap.size w1 W8) := nxt B14.out B48.out
  refine (CQ.out W8 a c (HX.out.below (nxt B1.out B18.out))).mono ?_
  rintro e w9 ⟨v9, H9, rfl, h9⟩
  obtain ⟨a9, c9, rfl, t9⟩ := CopyInv.tis h9 HIH.out.2 HIH.out.1
  have Q10 : Hid ((w9.alloc (.cells #[.int .i64 Lh, .slice a9 ih.length c9] 24)).heap[w9.heap.size]? = some (.cells #[.int .i64 Lh, .slice a9 ih.length c9] 24 (0, 0))) := heap_alloc_new _ _
  have B810 : Hid (Below W8.heap.size W8 (w9.alloc (.cells #[.int .i64 Lh, .slice a9 ih.length c9] 24))) := nxt h9.2.2 (below_one _ _)
  have T10 : Hid (TIs (w9.alloc (.cells #[.int .i64 Lh, .slice a9 ih.length c9] 24)) 8 a9 c9 ih) := t9.below (below_one _ _)
  clear h9 t9
  simp only
  go_wp2_with fail
  generalize w9.alloc (.cells #[.int .i64 Lh, .slice a9 ih.length c9] 24) = WA at *
  have B6A : Hid (Below w6.heap.size w6 WA) := nxt B68.out B810.out
  have B5A : Hid (Below w5.heap.size w5 WA) := nxt B56.out B6A.out
  have B4A : Hid (Below W4.heap.size W4 WA) := nxt B48.out B810.out
  have B1A : Hid (Below w1.heap.size w1 WA) := nxt B18.out B810.out
  have BWA : Hid (Below w.heap.size w WA) := nxt B1.out B1A.out
  have S1 : Hid (∀ W', Below WA.heap.size WA W' → Calls Try.prog 10 #[.slice a5 pl.length c5, .slice a6 pl.length c6] W' fun e w' => e = .returned (.bool true) ∧ w' = W') := fun W' h => by have := sameB_any pl pl a5 a6 c5 c6 W' (O5.out.below (nxt B5A.out h)).1 (O6.out.below (nxt B6A.out h)).1; rwa [beq_self_eq_true] at this
  have S2 : Hid (∀ W', Below WA.heap.size WA W' → Calls Try.prog 10 #[.slice a3 x.length c3, .slice a x.length c] W' fun e w' => e = .returned (.bool true) ∧ w' = W') := fun W' h => by have := sameB_any x x a3 a c3 c W' (I4.out.below (nxt B4A.out h)).1 (HX.out.below (nxt BWA.out h)).1; rwa [beq_self_eq_true] at this
  have L1 : Hid (∀ W', Below WA.heap.size WA W' → Calls Try.prog 12 #[.agg #[.int .i64 Lh, .slice a7 ih.length c7], .agg #[.int .i64 Lh, .slice a9 ih.length c9]] W' fun e w' => e = .returned (.int .i64 0) ∧ Below W'.heap.size W' w') := fun W' h => by have := alike_any Lh Lh ih ih a7 a9 c7 c9 W' (T8.out.below (nxt B810.out h)) (T10.out.below h); rwa [alk_eq] at this
  have L2 : Hid (∀ W', Below WA.heap.size WA W' → Calls Try.prog 12 #[.agg #[.int .i64 L, .slice a2 its.length c2], .agg #[.int .i64 L, .slice ia its.length ic]] W' fun e w' => e = .returned (.int .i64 0) ∧ Below W'.heap.size W' w') := fun W' h => by have := alike_any L L its its a2 ia c2 ic W' (O4.out.below (nxt B4A.out h)) (HT.out.below (nxt BWA.out h)); rwa [alk_eq] at this
  have XP : Hid (∀ W', Below WA.heap.size WA W' → W'.cell? ⟨w.heap.size, 0, none⟩ = some (.int .i64 L) ∧ W'.cell? ⟨w.heap.size, 1, none⟩ = some (.slice ia its.length ic)) := fun W' h => cells2 X0.out (nxt B1A.out h)
  have X4 : Hid (∀ W', Below WA.heap.size WA W' → W'.cell? ⟨w3.heap.size, 0, none⟩ = some (.int .i64 L) ∧ W'.cell? ⟨w3.heap.size, 1, none⟩ = some (.slice a2 its.length c2)) := fun W' h => cells2 Q4.out (nxt B4A.out h)
  have X8 : Hid (∀ W', Below WA.heap.size WA W' → W'.cell? ⟨w7.heap.size, 0, none⟩ = some (.int .i64 Lh) ∧ W'.cell? ⟨w7.heap.size, 1, none⟩ = some (.slice a7 ih.length c7)) := fun W' h => cells2 Q8.out (nxt B810.out h)
  have XA : Hid (∀ W', Below WA.heap.size WA W' → W'.cell? ⟨w9.heap.size, 0, none⟩ = some (.int .i64 Lh) ∧ W'.cell? ⟨w9.heap.size, 1, none⟩ = some (.slice a9 ih.length c9)) := fun W' h => cells2 Q10.out h
  have TU : Hid (∀ W', Below WA.heap.size WA W' → TIs W' 8 a7 c7 ih) := fun W' h => T8.out.below (nxt B810.out h)
  have TB : Hid (∀ W', Below WA.heap.size WA W' → TIs W' 8 ia ic its) := fun W' h => HT.out.below (nxt BWA.out h)
  have OP : Hid (∀ W', Below WA.heap.size WA W' → Oct W' a5 c5 pl) := fun W' h => O5.out.below (nxt B5A.out h)
  have OX : Hid (∀ W', Below WA.heap.size WA W' → Oct W' a c x) := fun W' h => HX.out.below (nxt BWA.out h)
  clear B6A B5A B4A B1A B810 B18 B48 B68 B46 B56 B45 B14 B1 T8 T10 O4 O5 O6 I4 Q4 Q8 Q10 X0 CD CQ CE CF HT HX
  refine (S1.out _ (Below.refl _ _)).mono ?_
  rintro e w11 ⟨rfl, rfl⟩
  obtain ⟨p0, p1⟩ := X8.out _ (Below.refl _ _)
  obtain ⟨p2, p3⟩ := XA.out _ (Below.refl _ _)
  go_wp2_with (go_at_call 11; refine (num_any _ _).mono ?_; rintro e w12 ⟨rfl, hw12⟩; subst w12)
  clear p0 p1 p2 p3
  refine (L1.out _ (Below.refl _ _)).mono ?_
  rintro e w12 ⟨rfl, hb12⟩
  have D12 : Hid (Below _ _ w12) := hb12
  clear hb12
  obtain ⟨p0, p1⟩ := X4.out _ D12.out
  obtain ⟨p2, p3⟩ := XP.out _ D12.out
  go_wp2_with (go_at_call 11; refine (num_any _ _).mono ?_; rintro e w12 ⟨rfl, hw12⟩; subst w12)
  clear p0 p1 p2 p3
  refine (L2.out _ D12.out).mono ?_
  rintro e w13 ⟨rfl, hb13⟩
  have D13 : Hid (Below _ _ w13) := nxt D12.out hb13
  clear hb13 D12
  go_wp2_with fail
  refine (S2.out _ D13.out).mono ?_
  rintro e w14 ⟨rfl, rfl⟩
  rw [hc] at HCB
  obtain rfl := HCB.out
  rw [hc, if_pos rfl] at HPL
  rw [HPL.out] at CB
  clear hc HCB
  go_wp2_with fail
  refine (CB.out _ a5 c5 (OP.out _ D13.out)).mono ?_
  rintro e w15 ⟨v15, H15, rfl, h15⟩
  obtain ⟨a15, c15, rfl, t15⟩ := CopyInv.tis h15 HOK.out.2 HOK.out.1
  have QF : Hid ((w15.alloc (.cells #[.int .i64 L, .slice a15 its.length c15] 26)).heap[w15.heap.size]? = some (.cells #[.int .i64 L, .slice a15 its.length c15] 26 (0, 0))) := heap_alloc_new _ _
  have DF : Hid (Below _ _ (w15.alloc (.cells #[.int .i64 L, .slice a15 its.length c15] 26))) := nxt D13.out (nxt h15.2.2 (below_one _ _))
  have TF : Hid (TIs (w15.alloc (.cells #[.int .i64 L, .slice a15 its.length c15] 26)) 8 a15 c15 its) := t15.below (below_one _ _)
  clear h15 t15
  obtain ⟨p0, p1⟩ := XP.out _ DF.out
  simp only
  obtain ⟨p2, p3⟩ := cells2 QF.out (Below.refl _ _)
  go_wp2_with (go_at_call 11; refine (num_any _ _).mono ?_; rintro e w12 ⟨rfl, hw12⟩; subst w12)
  generalize w15.alloc (.cells #[.int .i64 L, .slice a15 its.length c15] 26) = WF at *
  clear p0 p1 p2 p3
  have L3 : Hid (Calls Try.prog 12 #[.agg #[.int .i64 L, .slice a15 its.length c15], .agg #[.int .i64 L, .slice ia its.length ic]] WF fun e w' => e = .returned (.int .i64 0) ∧ Below WF.heap.size WF w') := by have := alike_any L L its its a15 ia c15 ic WF TF.out (TB.out _ DF.out); rwa [alk_eq] at this
  refine L3.out.mono ?_
  rintro e w16 ⟨rfl, hb16⟩
  have D16 : Hid (Below _ _ w16) := nxt DF.out hb16
  clear hb16
  by_cases hh : eh = 0
  · subst hh
    have HB0 : Hid _ := HBK.out rfl
    obtain ⟨p0, p1⟩ := X8.out _ D16.out
    go_wp2_with fail
    clear p0 p1
    have CZ : Hid (∀ W', TIs W' 8 a7 c7 ih → Calls Try.prog 6 #[.agg #[.int .i64 Lh, .slice a7 ih.length c7]] W' fun e w' => ∃ s, e = .returned (.tuple #[s, .int .i64 0]) ∧ Bs w' W'.heap.size s x ∧ Below W'.heap.size W' w') := fun W' h => by have := bencode_any Lh ih a7 c7 W' h; rwa [HB0.out.1, if_pos rfl, HB0.out.2] at this
    refine (CZ.out _ (TU.out _ D16.out)).mono ?_
    rintro e w20 ⟨s20, rfl, h20, hb20⟩
    obtain ⟨a20, c20, rfl⟩ := h20.shape
    have O20 : Hid (Oct w20 a20 c20 x) := h20.oct (by have := HXL.out; omega)
    have D20 : Hid (Below _ _ w20) := nxt D16.out hb20
    have S20 : Hid (Calls Try.prog 10 #[.slice a20 x.length c20, .slice a x.length c] w20 fun e w' => e = .returned (.bool true) ∧ w' = w20) := by have := sameB_any x x a20 a c20 c w20 O20.out.1 (OX.out _ D20.out).1; rwa [beq_self_eq_true] at this
    clear h20 hb20
    simp only
    go_wp2_with (go_at_call 11; refine (num_any _ _).mono ?_; rintro e w12 ⟨rfl, hw12⟩; subst w12)
    refine S20.out.mono ?_
    rintro e w21 ⟨rfl, rfl⟩
    go_wp2_with fail
    refine (alive_any _).mono ?_
    rintro e w22 ⟨rfl, hb22⟩
    go_wp2_with fail
    go_ret
    exact ⟨rfl, nxt BWA.out (nxt D20.out hb22)⟩
  · have hd1 : (eh == 0) = false := by simpa using hh
    clear hh
    go_wp2_with fail
    refine (alive_any _).mono ?_
    rintro e w22 ⟨rfl, hb22⟩
    go_wp2_with fail
    go_ret
    exact ⟨rfl, nxt BWA.out (nxt D16.out hb22)⟩

theorem walk (n : Nat) (bx : Int × List (Tm n)) (x0 : Value) (x : List UInt8) (x1 : Value) (w : World) (hb : BoxArg w n x0 bx) (hx : BytesIs w x1 x) :
    Calls Try.prog 3 #[x0, x1] w fun e w' => e = .returned (.bool true) ∧ Below w.heap.size w w' := by
  obtain ⟨L, its⟩ := bx
  obtain ⟨ia, ic, rfl, hT, -, -⟩ := hb
  obtain ⟨a, c, rfl, ho, hl⟩ := hx
  rcases chkB_cases L its with h | h
  · obtain ⟨s, h1, h2, h3, h4⟩ := tis_eight hT h
    have := good L s ia ic x a c w h2 ho hl h3 h4
    rwa [h1] at this
  · exact bad L its ia ic x a c w hT ho hl h

set_option maxRecDepth 100000 in
set_option maxHeartbeats 1600000 in
theorem lifted (os : Os) (started : os.Started) (H : Type) (enc : TypeId × Value → H) :
    ReturnsInHanded {} Try.checked os 3 .any (Rows.outboxOctetsSpec.pre6 enc Try.prog Try.f3 Rows.outboxOctetsRow.domain false) (Rows.outboxOctetsSpec.post enc Try.prog Try.f3 false true false false) := by
  refine returnsInHanded_of_change_sized (C := Try.checked) Try.own started (by kernel_rfl) Try.func3
    (ChangeSpec.witness6 (enc := enc) (C := Try.checked) false ⟨#[], #[.agg #[.int .i64 0, .slice none 0 0], .slice none 0 0], []⟩ 8 (by kernel_rfl) (by kernel_rfl) (by kernel_rfl) (by kernel_rfl)) ?_
  intro W base args ds gs before hval0 hW _ hsz0 _
  have hsz : (DataW.weightsEach Try.prog (Try.f3.params.toList ++ Rows.outboxOctetsSpec.plain.varTypes Try.prog) (ds ++ gs)).all (· ≤ reachBytes) = true := hsz0
  have hval : ∀ (j : Nat) t v, Try.f3.params[j]? = some t → args[j]? = some v → Value.okWide Try.prog W .any base t v := hval0
  have hW' := hW
  obtain ⟨p, q, hA0, hV, rfl, hfz, hnd⟩ := hW
  have hA : DataW.TrodAll enc Try.prog W 0 (fun _ => true) true Try.f3.params.toList args.toList ds p := hA0
  rw [Try.params3] at hA hval hsz
  obtain ⟨v0, vs0, d0, ds0, p0, q0, hargs, rfl, rfl, h0, r0⟩ := trodAll_cons hA
  obtain ⟨v1, vs1, d1, ds1, p1, q1, rfl, rfl, rfl, h1, r1⟩ := trodAll_cons r0
  obtain ⟨rfl, rfl, rfl⟩ := trodAll_nil r1
  obtain rfl : args = #[v0, v1] := by cases args; simp_all
  obtain ⟨rfl, rfl⟩ := trodVars_none hV
  clear hA0 hval0
  simp only [List.append_nil] at hW' hsz
  have hlt : ∀ x ∈ p0 ++ p1, x.block < W.heap.size := fun x hx => hW'.lt x (by simpa using hx)
  have hall : ∀ x ∈ DataW.weightsEach Try.prog [24, 25] [d0, d1], x ≤ reachBytes := fun x hx => of_decide_eq_true (List.all_eq_true.1 hsz x hx)
  have g0 : ∀ x ∈ d0.weights Try.prog 24, x ≤ reachBytes := fun x hx => hall x (DataW.weights_mem_each (j := 0) rfl rfl x hx)
  obtain ⟨u0, l0⟩ := box_of_arg (k := SizeOf.sizeOf d0) (hval 0 _ v0 rfl rfl) h0 (by omega) g0
  have g1 : ∀ x ∈ d1.weights Try.prog 25, x ≤ reachBytes := fun x hx => hall x (DataW.weights_mem_each (j := 1) rfl rfl x hx)
  obtain ⟨u1, l1⟩ := bytes_of_arg (hval 1 _ v1 rfl rfl) h1 g1
  refine (walk _ u0 v0 u1 v1 W l0 l1).mono fun e W' ⟨he, bel⟩ => ?_
  subst he
  exact ⟨_, rfl, _, _, _, [], _, [], hW', trodAll_mk1 (shut_bool Try.underlying4 _), (trodAll_cons_mk (Below.trod Try.laidOut (by kernel_rfl) (of_decide_eq_true (by kernel_rfl)) h0 bel (fun x hx => hlt x (by simp [hx]))) (trodAll_cons_mk (Below.trod Try.laidOut (by kernel_rfl) (of_decide_eq_true (by kernel_rfl)) h1 bel (fun x hx => hlt x (by simp [hx]))) trodAll_mk0)), rfl, bel.frame _, fun h => by cases h⟩

theorem over : Rows.outboxOctetsRow.holds Try.pinned (OpenSpec.ofChange Rows.outboxOctetsSpec) :=
  OpenClaim.holds_of_wide 3 Try.f3 rfl rfl rfl rfl rfl rfl rfl ⟨rfl, rfl, rfl, rfl, rfl⟩ rfl rfl rfl rfl rfl (by kernel_rfl) Try.func3 (by kernel_rfl)
    (of_decide_eq_true (by kernel_rfl)) (by unfold Func.isWrapper; first | (rw [if_pos (by decide +kernel)]; kernel_rfl) | (rw [if_neg (by decide +kernel)]; exact ⟨rfl, rfl⟩))
    (fun os started H enc _ => lifted os started H enc)

/-- THE STATEMENT. -/
theorem proved : Rows.OutboxOctetsSaid := over
#print axioms proved
end Go.Proofs.Ytfdbhojghkdlkaa.outboxOctets
