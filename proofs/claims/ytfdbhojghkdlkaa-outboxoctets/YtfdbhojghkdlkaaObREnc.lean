/-
  The page's Octets, number and Encode of a box.
-/
import Derived.Test.YtfdbhojghkdlkaaObEnc
import Derived.Test.YtfdbhojghkdlkaaObDecM
import Derived.Test.YtfdbhojghkdlkaaObPage
import Derived.Test.YtfdbhojghkdlkaaPkROct
import Derived.Test.YtfdbhojghkdlkaaPkRNext
namespace Go.Proofs.Ytfdbhojghkdlkaa
open Go.ChangeShapes Go.WideShapes Go.ChangeAt Go.RowKit
open Fl

theorem Bs.cell {w : World} {B g n c : Nat} {l : List UInt8} (h : Bs w B (.slice (some ⟨g, 0, none⟩) n c) l) {j : Nat} {o : UInt8} (hj : l[j]? = some o) : w.cell? ⟨g, j, none⟩ = some (.int .u8 (o.toNat : Int)) ∧ w.frozen? ⟨g, j, none⟩ = false := by
  have hc : (cellsO l)[j]? = some (.int .u8 (o.toNat : Int)) := by simp [cellsO, hj]
  obtain ⟨h1, h2⟩ := h
  rcases h2 with ⟨h3, -⟩ | ⟨g', cap, cur, h3, h4, h5, h6, h7, h8, h9⟩
  · simp at h3
  · simp only [Value.slice.injEq, Option.some.injEq, Addr.mk.injEq, and_true] at h3
    obtain ⟨rfl, rfl, rfl⟩ := h3
    have hlt : j < l.length := (List.getElem?_eq_some_iff.1 hj).1
    obtain ⟨q1, q2⟩ := cell_of h5 j
    refine ⟨q1.trans ?_, q2⟩
    rw [← hc, ← h9, List.getElem?_take_of_lt (by omega), Array.getElem?_toList]
theorem Bs.spot {w : World} {B : Nat} {a : Option Addr} {n c : Nat} {l : List UInt8} (h : Bs w B (.slice a n c) l) (hl : 0 < l.length) : ∃ g, a = some ⟨g, 0, none⟩ ∧ B ≤ g := by
  obtain ⟨h1, h2⟩ := h
  rcases h2 with ⟨h3, h4⟩ | ⟨g', cap, cur, h3, h4, h5⟩
  · omega
  · simp only [Value.slice.injEq] at h3
    exact ⟨g', h3.1, h4⟩

set_option maxRecDepth 100000 in
set_option maxHeartbeats 1600000 in
theorem roctK_any (k : Nat) (hk : k = 8 ∨ k = 2) (b : Int) (w : World) (h0 : 0 ≤ b) :
    Calls Try.prog 19 #[.int .u64 b, .int .i64 k] w fun e w' => ∃ s, e = .returned s ∧ Bs w' w.heap.size s (octsK k b) ∧ Below w.heap.size w w' := by
  have hk1 : 1 ≤ k ∧ k ≤ 8 := by omega
  obtain ⟨hk1, hk2⟩ := hk1
  go_enter Try.func19, Try.ntmps19
  go_wp2_with fail
  go_loopw [5, 6] (fun v i wr => ∃ (m : Nat), m ≤ k ∧ i = .int .i64 ((k : Int) - 1 - (m : Int)) ∧ Hid (Bs wr w.heap.size v ((octsK k b).take m)) ∧ Hid (RowTo w wr (.slice none 0 0) v)) (fun _ i _ => (intOf i + 1).toNat)
  case atStart => exact ⟨0, by omega, by go_num, Bs.nil _ _, RowTo.refl _ _⟩
  case round =>
    obtain ⟨m, hm, rfl, HR, HT⟩ := hrel
    have hsz := HT.out.grown.size
    by_cases hlt : m < k
    · have hm1 : (0 : Int) ≤ (k : Int) - 1 - (m : Int) := by omega
      have hm2 : (k : Int) - 1 - (m : Int) ≤ 7 := by omega
      have e1 : ((8 : Int) * ((k : Int) - 1 - (m : Int))).toNat = 8 * (k - 1 - m) := by omega
      go_wp2_with (at_builtin; refine wpList_app _ rfl _ _ rfl w.heap.size _ ((octsK k b).take m) [octK k b m] rfl ?d0 ⟨wr.heap.size, 0, none⟩ 1 rfl ?d1 ?d2 ?d3 ?_)
      case d0 => exact HR.out.below (below_one _ _)
      case d1 => exact new_octets wr _ _ _ (by simp [cellsO, octK_val h0])
      case d2 => have := List.length_take_le m (octsK k b); simp only [List.length_singleton]; omega
      case d3 => simp; omega
      intro s1 w1 q1 q2
      have R1 : Hid (RowTo w w1 (.slice none 0 0) s1) := HT.out.trans (q2.pre (below_one _ _))
      have H1 : Hid (Bs w1 w.heap.size s1 ((octsK k b).take (m + 1))) := by
        show Bs _ _ _ _
        rw [octsK_take hlt]
        exact q1
      clear q1 q2
      go_wp2_with fail
      go_roundw
      case rel => exact ⟨m + 1, by omega, by go_num, H1.out, R1.out⟩
      case measure => simp [intOf]; omega
    · have hme : m = k := by omega
      subst hme
      have hd : decide ((0 : Int) ≤ (m : Int) - 1 - (m : Int)) = false := decide_eq_false (by omega)
      go_wp2_with fail
      go_ret
      refine ⟨_, rfl, ?_, HT.out.below (Nat.le_refl _) fun g hg => by simp [Value.ownBlock] at hg⟩
      have := HR.out
      rw [List.take_of_length_le (by rw [octsK_length]; omega)] at this
      exact this

set_option maxRecDepth 100000 in
theorem rnum_any (a : Option Addr) (c : Nat) (l : List UInt8) (w : World) (hl : LayB w a l) (h8 : l.length ≤ 8) :
    Calls Try.prog 22 #[.slice a l.length c] w fun e w' => e = .returned (.int .i64 (nmQ l)) ∧ w' = w := by
  have HC : Hid (Calls Try.prog 23 #[.slice a l.length c] w _) := rnumber_any a c l w hl h8
  have hb := numO_bound l.length l rfl
  have h0 : 0 ≤ numO l := hb.1
  clear hb
  unfold nmQ
  generalize numO l = y at *
  by_cases h : 4611686018427387904 < y
  · rw [if_pos h]
    go_enter Try.func22, Try.ntmps22
    go_wp2_with fail
    refine HC.out.mono ?_
    rintro e w1 ⟨rfl, rfl⟩
    go_wp2_with fail
    go_ret
    exact ⟨rfl, rfl⟩
  · rw [if_neg h]
    go_enter Try.func22, Try.ntmps22
    go_wp2_with fail
    refine HC.out.mono ?_
    rintro e w1 ⟨rfl, rfl⟩
    go_wp2_with fail
    go_ret
    exact ⟨rfl, rfl⟩

set_option maxRecDepth 100000 in
set_option maxHeartbeats 3200000 in
theorem rbencode_any {n : Nat} (L : Int) (its : List (Tm n)) (ia : Option Addr) (ic : Nat) (w : World) (hT : TIs w n ia ic its) :
    Calls Try.prog 7 #[.agg #[.int .i64 L, .slice ia its.length ic]] w fun e w' => ∃ s, e = .returned (.tuple #[s, .int .i64 (chkB L its)]) ∧ Bs w' w.heap.size s (if chkB L its = 0 then encB L its else []) ∧ Below w.heap.size w w' := by
  have HT : Hid (TIs w n ia ic its) := hT
  have hc1 := hT.1
  have hc2 := hT.2.1
  clear hT
  have CC : Hid (∀ W, Below w.heap.size w W → Calls Try.prog 18 #[.agg #[.int .i64 L, .slice ia its.length ic]] W fun e w' => e = .returned (.int .i64 (chkB L its)) ∧ Below W.heap.size W w') := fun W h => rbcheck_any L its ia ic W (HT.out.below h)
  by_cases h0 : chkB L its = 0
  · rw [if_pos h0, h0]
    rw [h0] at CC
    obtain ⟨hL0, hL1, hn, hok⟩ := chkB_ok h0
    have HMEM : Hid (∀ u ∈ its, 32 ≤ u.1 ∧ u.1 < 32 * (L + 1) ∧ effE u.2.1 u.2.2 = 0) := okT_mem hok
    clear h0 hok
    go_enter Try.func7, Try.ntmps7
    go_wp2_with fail
    refine (CC.out _ (below_one _ _)).mono ?_
    rintro e w1 ⟨rfl, hb1⟩
    have X1 : Hid (w1.heap[w.heap.size]? = some (.cells #[.int .i64 L, .slice ia its.length ic] 24 (0, 0))) := (hb1.block _ (by simp)).trans (heap_alloc_new _ _)
    have B1 : Hid (Below w.heap.size w w1) := nxt (below_one _ _) hb1
    clear hb1 CC
    obtain ⟨y0, -⟩ := cell_of X1.out 0
    obtain ⟨y1, -⟩ := cell_of X1.out 1
    simp at y0 y1
    have HOC : Hid (∀ (k : Nat) (W : World) (b : Int), (k = 8 ∨ k = 2) → 0 ≤ b → Calls Try.prog 19 #[.int .u64 b, .int .i64 k] W _) := fun k W b hk hb => roctK_any k hk b W hb
    have wL : IntKind.u64.wrap L = L := by rw [IntKind.wrap_u64]; omega
    have wn : IntKind.u64.wrap (its.length : Int) = (its.length : Int) := by rw [IntKind.wrap_u64]; omega
    have y0' : w1.drew.cell? ⟨w.heap.size, 0, none⟩ = some (.int .i64 L) := y0
    have y1' : w1.drew.cell? ⟨w.heap.size, 1, none⟩ = some (.slice ia its.length ic) := y1
    have HL8 : Hid ((octsK 8 L).length = 8 ∧ (octsK 2 (its.length : Int)).length = 2) := ⟨octsK_length _ _, octsK_length _ _⟩
    have HN0 : Hid (0 ≤ (its.length : Int)) := (by omega : (0 : Int) ≤ (its.length : Int))
    go_wp2_with fail
    go_region_held3 (fun w' => w'.cell? ⟨w.heap.size, 0, none⟩ = some (.int .i64 L) ∧ w'.cell? ⟨w.heap.size, 1, none⟩ = some (.slice ia its.length ic)) (go_keep) (first
      | (go_at_call_of 19 (Value.int .i64 8); refine (HOC.out 8 w1.drew L (Or.inl rfl) hL0).mono ?_; rintro x w2 ⟨s2, rfl, hs2, hb2⟩; have u0 := keepc hb2 _ _ y0'; have u1 := keepc hb2 _ _ y1'; obtain ⟨a2, c2, rfl⟩ := hs2.shape)
      | (go_at_call_of 19 (Value.int .i64 2); refine (HOC.out 2 w2 (its.length : Int) (Or.inr rfl) HN0.out).mono ?_; rintro x w3 ⟨s3, rfl, hs3, hb3⟩; have z0 := keepc hb3 _ _ u0; have z1 := keepc hb3 _ _ u1; obtain ⟨a3, c3, rfl⟩ := hs3.shape; obtain ⟨g3, rfl, hg3⟩ := hs3.spot (by have := HL8.out.2; omega))
      | (refine step_app rfl _ _ rfl w1.heap.size (.slice a2 (octsK 8 L).length c2) (octsK 8 L) (octsK 2 (its.length : Int)) rfl (hs2.below hb3) ⟨g3, 0, none⟩ c3 rfl (fun j u hj => by rw [add_plain, Nat.zero_add]; exact (hs3.cell hj).1) (by have := HL8.out; omega) (by have := hb2.size; have := hb3.size; have e : w1.drew.heap.size = w1.heap.size := rfl; omega) ?_; intro s4 w4 hs4 hr4
         have X3' : w3.heap[w.heap.size]? = some (.cells #[.int .i64 L, .slice ia its.length ic] 24 (0, 0)) := ((nxt hb2 hb3).block _ (show w.heap.size < w1.heap.size from lt_of_block X1.out)).trans X1.out
         have X4 : w4.heap[w.heap.size]? = some (.cells #[.int .i64 L, .slice ia its.length ic] 24 (0, 0)) := (hr4.block (lt_of_block X3') (fun h => by have h1 := (hs2.base _ h).1; have h2 := lt_of_block X1.out; have e : w1.drew.heap.size = w1.heap.size := rfl; omega)).trans X3'
         have t0 := (cell_of X4 0).1
         have t1 := (cell_of X4 1).1
         simp at t0 t1))
    have H4 : Hid (EncI w w1 w4 L its 0 s4) := by
      have hb13 : Below w1.drew.heap.size w1.drew w3 := nxt hb2 hb3
      have e : w1.drew.heap.size = w1.heap.size := rfl
      have h1 : Below w1.heap.size w1 w4 := ((Below.refl _ w1).drew.trans hb13).trans (hr4.below (by have := hb13.size; omega) fun g hg => (hs2.base g hg).1)
      refine ⟨?_, h1, nxt B1.out h1⟩
      have h5 := hs4
      rw [octsK_eight] at h5
      simpa [encIs] using h5
    have hw1 := B1.out.size
    have hlt1 : w.heap.size < w1.heap.size := lt_of_block X1.out
    clear hs2 hb2 hs3 hb3 hs4 hr4 X3' X4 B1 y0 y1 y0' y1' u0 u1 z0 z1 t0 t1 hg3
    go_wp2_with fail
    go_loopw [4, 5] (fun v5 v26 wr => ∃ m : Nat, m ≤ its.length ∧ v26 = .int .i64 m ∧ Hid (EncI w w1 wr L its m v5)) (fun _ i _ => its.length - (intOf i).toNat)
    case atStart => exact ⟨0, Nat.zero_le _, rfl, H4.out⟩
    case round =>
      obtain ⟨m, hm, rfl, HI⟩ := hrel
      have HLEN : Hid ((octs L ++ (octsK 2 (its.length : Int) ++ encIs (its.take m))).length ≤ 30000000) := by
        show _ ≤ _
        have h1 := encIs_len (its := its.take m) fun u hu => (HMEM.out u (List.mem_of_mem_take hu)).2.2
        have h2 : (its.take m).length ≤ 256 := by rw [List.length_take]; omega
        simp only [List.length_append, octs_length, octsK_length]
        omega
      obtain ⟨xx1, -⟩ := cell_of ((HI.out.2.1.block _ hlt1).trans X1.out) 1
      simp only [List.getElem?_toArray, List.getElem?_cons_zero, List.getElem?_cons_succ] at xx1
      by_cases hlt : m < its.length
      · have hm1 : (m : Int) < (its.length : Int) := by omega
        obtain ⟨b, o, k, bb, t, ka, kl, kc, ja, jl, jc, rfl, q0, q1, q2, q3, q4, q5, q6, hl, -⟩ := HT.out.at m hlt
        replace q0 := keepc HI.out.2.2 _ _ q0
        replace q1 := keepc HI.out.2.2 _ _ q1
        replace q2 := keepc HI.out.2.2 _ _ q2
        replace q3 := keepc HI.out.2.2 _ _ q3
        replace q4 := keepc HI.out.2.2 _ _ q4
        replace q5 := keepc HI.out.2.2 _ _ q5
        replace q6 := keepc HI.out.2.2 _ _ q6
        obtain ⟨hid0, hid1, hef⟩ := HMEM.out its[m] (List.getElem_mem hlt)
        obtain ⟨hck, hn1, hn2⟩ := effE_chk hef
        have HTK : Hid (encIs (its.take (m + 1)) = encIs (its.take m) ++ (octs its[m].1 ++ (txt its[m].2.1 ++ enc n its[m].2.2))) := encIs_take its m hlt
        have HLW0 : Hid (Lay w n (mk k bb t ka kl kc ja jl jc) its[m].2.2) := hl
        have HCK : Hid (chk its[m].2.2 = 0) := hck
        clear hl hck hef
        generalize its[m] = u at *
        obtain ⟨id, nm, v⟩ := u
        simp only at *
        have B4 : Hid (Below wr.heap.size wr (wr.alloc (.cells #[.int .i64 id, .string nm, .int .i64 k, .int .u64 bb, .string t, .slice ka kl kc, .slice ja jl jc] 54))) := below_one _ _
        have X4 : Hid ((wr.alloc (.cells #[.int .i64 id, .string nm, .int .i64 k, .int .u64 bb, .string t, .slice ka kl kc, .slice ja jl jc] 54)).heap[wr.heap.size]? = some (.cells #[.int .i64 id, .string nm, .int .i64 k, .int .u64 bb, .string t, .slice ka kl kc, .slice ja jl jc] 54 (0, 0))) := heap_alloc_new _ _
        have HI4 : Hid (Bs (wr.alloc (.cells #[.int .i64 id, .string nm, .int .i64 k, .int .u64 bb, .string t, .slice ka kl kc, .slice ja jl jc] 54)) w1.heap.size u4 (octs L ++ (octsK 2 (its.length : Int) ++ encIs (its.take m))) ∧ Below w1.heap.size w1 (wr.alloc (.cells #[.int .i64 id, .string nm, .int .i64 k, .int .u64 bb, .string t, .slice ka kl kc, .slice ja jl jc] 54)) ∧ Below w.heap.size w (wr.alloc (.cells #[.int .i64 id, .string nm, .int .i64 k, .int .u64 bb, .string t, .slice ka kl kc, .slice ja jl jc] 54))) := ⟨HI.out.1.below B4.out, nxt HI.out.2.1 B4.out, nxt HI.out.2.2 B4.out⟩
        have hwlt : wr.heap.size < (wr.alloc (.cells #[.int .i64 id, .string nm, .int .i64 k, .int .u64 bb, .string t, .slice ka kl kc, .slice ja jl jc] 54)).heap.size := by simp
        clear HI B4
        obtain ⟨l0, HL0⟩ : ∃ l0, Hid (octs L ++ (octsK 2 (its.length : Int) ++ encIs (its.take m)) = l0) := ⟨_, rfl⟩
        rw [HL0.out] at HI4 HLEN
        have hl0 := HLEN.out
        have wid : IntKind.u64.wrap id = id := by rw [IntKind.wrap_u64]; omega
        go_wp2_with fail
        generalize hW4 : wr.alloc (.cells #[.int .i64 id, .string nm, .int .i64 k, .int .u64 bb, .string t, .slice ka kl kc, .slice ja jl jc] 54) = W4 at *
        clear q0 q1 q2 q3 q4 q5 q6
        refine (HOC.out 8 W4 id (Or.inl rfl) (by omega)).mono ?_
        rintro e w45 ⟨s45, rfl, h45, hb45⟩
        obtain ⟨a45, c45, rfl⟩ := h45.slice
        have HO45 : Hid (Oct w45 a45 c45 (octsK 8 id)) := h45.oct (by rw [octsK_length]; omega)
        have H45 : Hid (Bs w45 w1.heap.size u4 l0 ∧ Below w1.heap.size w1 w45 ∧ Below w.heap.size w w45) := ⟨HI4.out.1.below hb45, nxt HI4.out.2.1 hb45, nxt HI4.out.2.2 hb45⟩
        have X45 : Hid (w45.heap[wr.heap.size]? = some (.cells #[.int .i64 id, .string nm, .int .i64 k, .int .u64 bb, .string t, .slice ka kl kc, .slice ja jl jc] 54 (0, 0))) := (hb45.block _ (lt_of_block X4.out)).trans X4.out
        have hsz45 := H45.out.2.1.size
        clear h45 hb45 xx1
        go_wp2_with (at_builtin; refine wpList_appO _ rfl _ _ rfl w1.heap.size _ l0 (octsK 8 id) rfl H45.out.1 a45 c45 rfl HO45.out ?b0 ?b1 ?_)
        case b0 => rw [octsK_length]; omega
        case b1 => exact hsz45
        intro s5 w5 h5 r5
        rw [octsK_eight] at h5
        have H5 : Hid (Bs w5 w1.heap.size s5 (l0 ++ octs id)) := h5
        have B5 : Hid (Below w1.heap.size w1 w5 ∧ Below w.heap.size w w5) := enc_put H45.out.2.1 H45.out.2.2 hw1 H45.out.1 r5
        have X5 : Hid (w5.heap[wr.heap.size]? = some (.cells #[.int .i64 id, .string nm, .int .i64 k, .int .u64 bb, .string t, .slice ka kl kc, .slice ja jl jc] 54 (0, 0))) := (r5.block (lt_of_block X45.out) (H45.out.1.ne X45.out (by decide))).trans X45.out
        clear h5 r5 hW4
        obtain ⟨z0, z1, z2, z3, z4, z5, z6⟩ := seven_cells X5.out
        have HL5 : Hid ((l0 ++ octs id).length ≤ 30000008) := by show _ ≤ _; rw [List.length_append, octs_length]; omega
        have hsz5 := B5.out.1.size
        go_wp2_with (at_builtin; refine wpList_app _ rfl _ _ rfl w1.heap.size _ (l0 ++ octs id) [UInt8.ofNat nm.size] rfl ?d0 ⟨w5.heap.size, 0, none⟩ 1 rfl ?d1 ?d2 ?d3 ?_)
        case d0 => exact H5.out.below (below_one _ _)
        case d1 => exact new_octets w5 _ _ _ (by simp [cellsO]; omega)
        case d2 => have := HL5.out; simp only [List.length_singleton]; omega
        case d3 => simp; omega
        intro s6 w6 h6 r6
        have R6 : Hid (RowTo w5 w6 s5 s6) := r6.pre (below_one _ _)
        have H6 : Hid (Bs w6 w1.heap.size s6 (l0 ++ octs id ++ [UInt8.ofNat nm.size])) := by show Bs _ _ _ _; rw [List.append_assoc]; exact h6
        have B6 : Hid (Below w1.heap.size w1 w6 ∧ Below w.heap.size w w6) := enc_put B5.out.1 B5.out.2 hw1 H5.out R6.out
        have X6 : Hid (w6.heap[wr.heap.size]? = some (.cells #[.int .i64 id, .string nm, .int .i64 k, .int .u64 bb, .string t, .slice ka kl kc, .slice ja jl jc] 54 (0, 0))) := (R6.out.block (lt_of_block X5.out) (H5.out.ne X5.out (by decide))).trans X5.out
        have HL6 : Hid ((l0 ++ octs id ++ [UInt8.ofNat nm.size]).length ≤ 30000009) := by have := HL5.out; show _ ≤ _; rw [List.length_append, List.length_singleton]; omega
        clear h6 r6 z0 z1 z2 z3 z4 z5 z6 H5 X5
        obtain ⟨z0, z1, z2, z3, z4, z5, z6⟩ := seven_cells X6.out
        have hsz6 := B6.out.1.size
        go_wp2_with (at_builtin; refine wpList_apps _ rfl _ _ rfl w1.heap.size _ (l0 ++ octs id ++ [UInt8.ofNat nm.size]) nm rfl H6.out rfl ?e0 ?e1 ?_)
        case e0 => have := HL6.out; omega
        case e1 => exact hsz6
        intro s7 w7 h7 r7
        have H7 : Hid (Bs w7 w1.heap.size s7 (l0 ++ octs id ++ [UInt8.ofNat nm.size] ++ nm.toList)) := by show Bs _ _ _ _; rw [List.append_assoc, List.append_assoc]; exact h7
        have B7 : Hid (Below w1.heap.size w1 w7 ∧ Below w.heap.size w w7) := enc_put B6.out.1 B6.out.2 hw1 H6.out r7
        have X7 : Hid (w7.heap[wr.heap.size]? = some (.cells #[.int .i64 id, .string nm, .int .i64 k, .int .u64 bb, .string t, .slice ka kl kc, .slice ja jl jc] 54 (0, 0))) := (r7.block (lt_of_block X6.out) (H6.out.ne X6.out (by decide))).trans X6.out
        have HL7 : Hid ((l0 ++ octs id ++ [UInt8.ofNat nm.size] ++ nm.toList).length ≤ 30000025) := by have := HL6.out; show _ ≤ _; rw [List.length_append, toList_length]; omega
        have HV7 : Hid (Lay w7 n (mk k bb t ka kl kc ja jl jc) v) := HLW0.out.below n B7.out.2
        clear h7 r7 z0 z1 z2 z3 z4 z5 z6 H6 X6 B6 B5 R6 HI4 X4
        obtain ⟨z0, z1, z2, z3, z4, z5, z6⟩ := seven_cells X7.out
        have CE : Hid (Calls Try.prog 20 #[mk k bb t ka kl kc ja jl jc] w7 fun e w' => ∃ s, e = .returned (.tuple #[s, .int .i64 0]) ∧ Bs w' w7.heap.size s (enc n v) ∧ Below w7.heap.size w7 w') := by
          have := rencode_any n v _ w7 HV7.out
          rwa [HCK.out, if_pos rfl] at this
        have HEL : Hid ((enc n v).length ≤ 100000) := by have := enc_len n v (ok_of_chk HCK.out); have := cnt_of_chk HCK.out; show _ ≤ _; omega
        go_wp2_with fail
        refine CE.out.mono ?_
        rintro e w8 ⟨s8, rfl, h8, hb8⟩
        obtain ⟨a8, c8, rfl⟩ := h8.slice
        have HO8 : Hid (Oct w8 a8 c8 (enc n v)) := h8.oct (by have := HEL.out; omega)
        have H8 : Hid (Bs w8 w1.heap.size s7 (l0 ++ octs id ++ [UInt8.ofNat nm.size] ++ nm.toList)) := H7.out.below hb8
        have B8 : Hid (Below w1.heap.size w1 w8 ∧ Below w.heap.size w w8) := ⟨nxt B7.out.1 hb8, nxt B7.out.2 hb8⟩
        clear h8 hb8 z0 z1 z2 z3 z4 z5 z6 H7 X7 B7
        have hsz8 := B8.out.1.size
        go_wp2_with (at_builtin; refine wpList_appO _ rfl _ _ rfl w1.heap.size _ (l0 ++ octs id ++ [UInt8.ofNat nm.size] ++ nm.toList) (enc n v) rfl H8.out a8 c8 rfl HO8.out ?f0 ?f1 ?_)
        case f0 => have := HL7.out; have := HEL.out; omega
        case f1 => exact hsz8
        intro s9 w9 h9 r9
        have B9 : Hid (Below w1.heap.size w1 w9 ∧ Below w.heap.size w w9) := enc_put B8.out.1 B8.out.2 hw1 H8.out r9
        have I9 : Hid (EncI w w1 w9 L its (m + 1) s9) := by
          refine ⟨?_, B9.out⟩
          have e1 : octs L ++ (octsK 2 (its.length : Int) ++ encIs (its.take (m + 1))) = l0 ++ octs id ++ [UInt8.ofNat nm.size] ++ nm.toList ++ enc n v := by
            rw [HTK.out, ← HL0.out]
            simp [txt, List.append_assoc]
          rw [e1, List.append_assoc, List.append_assoc, List.append_assoc]
          exact h9
        clear h9 r9
        go_wp2_with fail
        go_roundw
        case rel => exact ⟨m + 1, by omega, by go_num, I9.out⟩
        case measure => simp [intOf]; omega
      · have hme : m = its.length := by omega
        subst hme
        have hfin := HI.out.1
        rw [List.take_length] at hfin
        have HF : Hid (Bs wr w.heap.size u4 (encB L its)) := hfin.less hw1
        obtain ⟨a5, c5, rfl⟩ := HF.out.slice
        clear hfin
        go_wp2_with fail
        refine bodyPost_ret (v := .tuple #[.slice a5 (encB L its).length c5, .int .i64 0]) (by simp [results, Try.results7, go_sem]) rfl ?_
        exact ⟨_, rfl, HF.out, HI.out.2.2⟩
  · rw [if_neg h0]
    have h9 : chkB L its = 9 := (chkB_cases L its).resolve_left h0
    rw [h9] at CC ⊢
    clear h0 h9
    go_enter Try.func7, Try.ntmps7
    go_wp2_with fail
    refine (CC.out _ (below_one _ _)).mono ?_
    rintro e w1 ⟨rfl, hb1⟩
    go_wp2_with fail
    refine bodyPost_ret (v := .tuple #[.slice none 0 0, .int .i64 9]) (by simp [results, Try.results7, go_sem]) rfl ?_
    exact ⟨_, rfl, Bs.nil _ _, nxt (below_one _ _) hb1⟩
end Go.Proofs.Ytfdbhojghkdlkaa
