/-
  The program's Encode of a box.
-/
import Derived.Test.YtfdbhojghkdlkaaJ11
namespace Go.Proofs.Ytfdbhojghkdlkaa
open Go.ChangeShapes Go.WideShapes Go.ChangeAt Go.RowKit
open Fl

/-- What an item of a box that may be weighs. -/
theorem encI_len {n : Nat} {u : Tm n} (h : effE u.2.1 u.2.2 = 0) : (encI u).length ≤ 100025 := by
  obtain ⟨h1, h2, h3⟩ := effE_chk h
  have h4 := enc_len n u.2.2 (ok_of_chk h1)
  have h5 := cnt_of_chk h1
  simp only [encI, txt, List.length_append, octs_length, List.length_cons]
  have h6 : u.2.1.toList.length = u.2.1.size := toList_length _
  omega
theorem encIs_len {n : Nat} : ∀ {its : List (Tm n)}, (∀ u ∈ its, effE u.2.1 u.2.2 = 0) → (encIs its).length ≤ 100025 * its.length
  | [], _ => by simp [encIs]
  | u :: r, h => by
    have h1 := encI_len (h u List.mem_cons_self)
    have h2 := encIs_len (its := r) fun x hx => h x (List.mem_cons_of_mem _ hx)
    simp only [encIs, List.length_append, List.length_cons]
    omega

theorem seven_cells {w : World} {g : Nat} {c0 c1 c2 c3 c4 c5 c6 : Value} {t : TypeId} (h : w.heap[g]? = some (.cells #[c0, c1, c2, c3, c4, c5, c6] t (0, 0))) :
    w.cell? ⟨g, 0, none⟩ = some c0 ∧ w.cell? ⟨g, 1, none⟩ = some c1 ∧ w.cell? ⟨g, 2, none⟩ = some c2 ∧ w.cell? ⟨g, 3, none⟩ = some c3 ∧ w.cell? ⟨g, 4, none⟩ = some c4 ∧ w.cell? ⟨g, 5, none⟩ = some c5 ∧ w.cell? ⟨g, 6, none⟩ = some c6 :=
  ⟨(cell_of h 0).1, (cell_of h 1).1, (cell_of h 2).1, (cell_of h 3).1, (cell_of h 4).1, (cell_of h 5).1, (cell_of h 6).1⟩

theorem Bs.less {w : World} {B B' : Nat} {s : Value} {l : List UInt8} (h : Bs w B s l) (hB : B' ≤ B) : Bs w B' s l := by
  obtain ⟨h1, h2⟩ := h
  refine ⟨h1, ?_⟩
  rcases h2 with h2 | ⟨g, cap, cur, hv, hg, r⟩
  · exact Or.inl h2
  · exact Or.inr ⟨g, cap, cur, hv, Nat.le_trans hB hg, r⟩
theorem Bs.slice {w : World} {B : Nat} {s : Value} {l : List UInt8} (h : Bs w B s l) : ∃ a c, s = .slice a l.length c := slice_of_own h

/-- What the encoder's loop keeps. -/
def EncI {n : Nat} (w w1 wr : World) (L : Int) (its : List (Tm n)) (m : Nat) (v : Value) : Prop :=
  Bs wr w1.heap.size v (octs L ++ (octsK 2 (its.length : Int) ++ encIs (its.take m))) ∧ Below w1.heap.size w1 wr ∧ Below w.heap.size w wr
theorem enc_put {w w1 wr : World} {v : Value} {l : List UInt8} (hb : Below w1.heap.size w1 wr) (hw : Below w.heap.size w wr) (h1 : w.heap.size ≤ w1.heap.size) {w' : World} {v' : Value} (hs : Bs wr w1.heap.size v l) (hr : RowTo wr w' v v') : Below w1.heap.size w1 w' ∧ Below w.heap.size w w' := by
  have h2 := hr.below hb.size fun g hg => (hs.base g hg).1
  exact ⟨hb.trans h2, hw.trans (h2.mono h1)⟩

set_option maxRecDepth 100000 in
set_option maxHeartbeats 3200000 in
theorem bencode_any {n : Nat} (L : Int) (its : List (Tm n)) (ia : Option Addr) (ic : Nat) (w : World) (hT : TIs w n ia ic its) :
    Calls Try.prog 6 #[.agg #[.int .i64 L, .slice ia its.length ic]] w fun e w' => ∃ s, e = .returned (.tuple #[s, .int .i64 (chkB L its)]) ∧ Bs w' w.heap.size s (if chkB L its = 0 then encB L its else []) ∧ Below w.heap.size w w' := by
  have HT : Hid (TIs w n ia ic its) := hT
  have hc1 := hT.1
  have hc2 := hT.2.1
  clear hT
  have CC : Hid (∀ W, Below w.heap.size w W → Calls Try.prog 15 #[.agg #[.int .i64 L, .slice ia its.length ic]] W fun e w' => e = .returned (.int .i64 (chkB L its)) ∧ Below W.heap.size W w') := fun W h => bcheck_any L its ia ic W (HT.out.below h)
  by_cases h0 : chkB L its = 0
  · rw [if_pos h0, h0]
    rw [h0] at CC
    obtain ⟨hL0, hL1, hn, hok⟩ := chkB_ok h0
    have HMEM : Hid (∀ u ∈ its, 32 ≤ u.1 ∧ u.1 < 32 * (L + 1) ∧ effE u.2.1 u.2.2 = 0) := okT_mem hok
    clear h0 hok
    go_enter Try.func6, Try.ntmps6
    go_wp2_with fail
    refine (CC.out _ (below_one _ _)).mono ?_
    rintro e w1 ⟨rfl, hb1⟩
    have X1 : Hid (w1.heap[w.heap.size]? = some (.cells #[.int .i64 L, .slice ia its.length ic] 26 (0, 0))) := (hb1.block _ (by simp)).trans (heap_alloc_new _ _)
    have B1 : Hid (Below w.heap.size w w1) := nxt (below_one _ _) hb1
    clear hb1 CC
    obtain ⟨y0, -⟩ := cell_of X1.out 0
    obtain ⟨y1, -⟩ := cell_of X1.out 1
    simp at y0 y1
    go_wp2_with fail
    have hw1 := B1.out.size
    have hlt1 : w.heap.size < w1.heap.size := lt_of_block X1.out
    refine (appNum_any 8 (Or.inl rfl) L _ [] w1.heap.size w1 (Bs.nil _ _) (Nat.le_refl _) (by simp) hL0).mono ?_
    rintro e w2 ⟨s2, rfl, h2, r2⟩
    rw [List.nil_append, octsK_eight] at h2
    have H2 : Hid (Bs w2 w1.heap.size s2 (octs L)) := h2
    have B2 : Hid (Below w1.heap.size w1 w2 ∧ Below w.heap.size w w2) := enc_put (Below.refl _ _) B1.out hw1 (Bs.nil _ _) r2
    have X2 : Hid (w2.heap[w.heap.size]? = some (.cells #[.int .i64 L, .slice ia its.length ic] 26 (0, 0))) := (r2.block (lt_of_block X1.out) (fun e => by simp [Value.ownBlock] at e)).trans X1.out
    clear h2 r2 y0 y1 X1 B1
    obtain ⟨y0, -⟩ := cell_of X2.out 0
    obtain ⟨y1, -⟩ := cell_of X2.out 1
    simp at y0 y1
    go_wp2_with fail
    refine (appNum_any 2 (Or.inr rfl) (its.length : Int) s2 (octs L) w1.heap.size w2 H2.out B2.out.1.size (by rw [octs_length]; omega) (by omega)).mono ?_
    rintro e w3 ⟨s3, rfl, h3, r3⟩
    have B3 : Hid (Below w1.heap.size w1 w3 ∧ Below w.heap.size w w3) := enc_put B2.out.1 B2.out.2 hw1 H2.out r3
    have X3 : Hid (w3.heap[w.heap.size]? = some (.cells #[.int .i64 L, .slice ia its.length ic] 26 (0, 0))) := (r3.block (lt_of_block X2.out) (fun e => by have := (H2.out.base _ e).1; omega)).trans X2.out
    have I3 : Hid (EncI w w1 w3 L its 0 s3) := ⟨by simpa [encIs] using h3, B3.out⟩
    clear h3 r3 y0 y1 H2 B2 X2 B3
    obtain ⟨y0, -⟩ := cell_of X3.out 0
    obtain ⟨y1, -⟩ := cell_of X3.out 1
    simp at y0 y1
    go_wp2_with fail
    clear y0 y1 X3
    go_loopw [5, 26] (fun v5 v26 wr => ∃ m : Nat, m ≤ its.length ∧ v26 = .int .i64 m ∧ Hid (EncI w w1 wr L its m v5)) (fun _ i _ => its.length - (intOf i).toNat)
    case atStart => exact ⟨0, Nat.zero_le _, rfl, I3.out⟩
    case round =>
      obtain ⟨m, hm, rfl, HI⟩ := hrel
      have HLEN : Hid ((octs L ++ (octsK 2 (its.length : Int) ++ encIs (its.take m))).length ≤ 30000000) := by
        show _ ≤ _
        have h1 := encIs_len (its := its.take m) fun u hu => (HMEM.out u (List.mem_of_mem_take hu)).2.2
        have h2 : (its.take m).length ≤ 256 := by rw [List.length_take]; omega
        simp only [List.length_append, octs_length, octsK_length]
        omega
      by_cases hlt : m < its.length
      · have hm1 : (m : Int) < (its.length : Int) := by omega
        obtain ⟨b, o, k, bb, t, ka, kl, kc, ja, jl, jc, rfl, q0, q1, q2, q3, q4, q5, q6, hl, -⟩ := HT.out.at m hlt
        replace q0 := keepc HI.out.2.2 _ _ q0
        replace q1 := keepc HI.out.2.2 _ _ q1
        replace q2 := keepc HI.out.2.2 _ _ q2
        replace q3 := keepc HI.out.2.2 _ _ q3
        replace q4 := keepc HI.out.2.2 _ _ q4
        replace q5 := keepc HI.out.2.2 _ _ q5
        replace q6 := keepc HI.out.2.2 _ _ q6
        obtain ⟨hid0, hid1, hef⟩ := HMEM.out its[m] (List.getElem_mem hlt)
        obtain ⟨hck, hn1, hn2⟩ := effE_chk hef
        have HTK : Hid (encIs (its.take (m + 1)) = encIs (its.take m) ++ (octs its[m].1 ++ (txt its[m].2.1 ++ enc n its[m].2.2))) := encIs_take its m hlt
        have HLW0 : Hid (Lay w n (mk k bb t ka kl kc ja jl jc) its[m].2.2) := hl
        have HCK : Hid (chk its[m].2.2 = 0) := hck
        clear hl hck hef
        generalize its[m] = u at *
        obtain ⟨id, nm, v⟩ := u
        simp only at *
        have B4 : Hid (Below wr.heap.size wr (wr.alloc (.cells #[.int .i64 id, .string nm, .int .i64 k, .int .u64 bb, .string t, .slice ka kl kc, .slice ja jl jc] 54))) := below_one _ _
        have X4 : Hid ((wr.alloc (.cells #[.int .i64 id, .string nm, .int .i64 k, .int .u64 bb, .string t, .slice ka kl kc, .slice ja jl jc] 54)).heap[wr.heap.size]? = some (.cells #[.int .i64 id, .string nm, .int .i64 k, .int .u64 bb, .string t, .slice ka kl kc, .slice ja jl jc] 54 (0, 0))) := heap_alloc_new _ _
        have HI4 : Hid (Bs (wr.alloc (.cells #[.int .i64 id, .string nm, .int .i64 k, .int .u64 bb, .string t, .slice ka kl kc, .slice ja jl jc] 54)) w1.heap.size u5 (octs L ++ (octsK 2 (its.length : Int) ++ encIs (its.take m))) ∧ Below w1.heap.size w1 (wr.alloc (.cells #[.int .i64 id, .string nm, .int .i64 k, .int .u64 bb, .string t, .slice ka kl kc, .slice ja jl jc] 54)) ∧ Below w.heap.size w (wr.alloc (.cells #[.int .i64 id, .string nm, .int .i64 k, .int .u64 bb, .string t, .slice ka kl kc, .slice ja jl jc] 54))) := ⟨HI.out.1.below B4.out, nxt HI.out.2.1 B4.out, nxt HI.out.2.2 B4.out⟩
        have hwlt : wr.heap.size < (wr.alloc (.cells #[.int .i64 id, .string nm, .int .i64 k, .int .u64 bb, .string t, .slice ka kl kc, .slice ja jl jc] 54)).heap.size := by simp
        clear HI B4
        obtain ⟨l0, HL0⟩ : ∃ l0, Hid (octs L ++ (octsK 2 (its.length : Int) ++ encIs (its.take m)) = l0) := ⟨_, rfl⟩
        rw [HL0.out] at HI4 HLEN
        have hl0 := HLEN.out
        go_wp2_with fail
        generalize hW4 : wr.alloc (.cells #[.int .i64 id, .string nm, .int .i64 k, .int .u64 bb, .string t, .slice ka kl kc, .slice ja jl jc] 54) = W4 at *
        clear q0 q1 q2 q3 q4 q5 q6
        refine (appNum_any 8 (Or.inl rfl) id u5 l0 w1.heap.size W4 HI4.out.1 HI4.out.2.1.size (by omega) (by omega)).mono ?_
        rintro e w5 ⟨s5, rfl, h5, r5⟩
        rw [octsK_eight] at h5
        have H5 : Hid (Bs w5 w1.heap.size s5 (l0 ++ octs id)) := h5
        have B5 : Hid (Below w1.heap.size w1 w5 ∧ Below w.heap.size w w5) := enc_put HI4.out.2.1 HI4.out.2.2 hw1 HI4.out.1 r5
        have X5 : Hid (w5.heap[wr.heap.size]? = some (.cells #[.int .i64 id, .string nm, .int .i64 k, .int .u64 bb, .string t, .slice ka kl kc, .slice ja jl jc] 54 (0, 0))) := (r5.block (lt_of_block X4.out) (HI4.out.1.ne X4.out (by decide))).trans X4.out
        have R5 : Hid (RowTo W4 w5 u5 s5) := r5
        clear h5 r5 hW4
        obtain ⟨z0, z1, z2, z3, z4, z5, z6⟩ := seven_cells X5.out
        have HL5 : Hid ((l0 ++ octs id).length ≤ 30000008) := by show _ ≤ _; rw [List.length_append, octs_length]; omega
        have hsz5 := B5.out.1.size
        go_wp2_with (at_builtin; refine wpList_app _ rfl _ _ rfl w1.heap.size _ (l0 ++ octs id) [UInt8.ofNat nm.size] rfl ?d0 ⟨w5.heap.size, 0, none⟩ 1 rfl ?d1 ?d2 ?d3 ?_)
        case d0 => exact H5.out.below (below_one _ _)
        case d1 => exact new_octets w5 _ _ _ (by simp [cellsO]; omega)
        case d2 => have := HL5.out; simp only [List.length_singleton]; omega
        case d3 => simp; omega
        intro s6 w6 h6 r6
        have R6 : Hid (RowTo w5 w6 s5 s6) := r6.pre (below_one _ _)
        have H6 : Hid (Bs w6 w1.heap.size s6 (l0 ++ octs id ++ [UInt8.ofNat nm.size])) := by show Bs _ _ _ _; rw [List.append_assoc]; exact h6
        have B6 : Hid (Below w1.heap.size w1 w6 ∧ Below w.heap.size w w6) := enc_put B5.out.1 B5.out.2 hw1 H5.out R6.out
        have X6 : Hid (w6.heap[wr.heap.size]? = some (.cells #[.int .i64 id, .string nm, .int .i64 k, .int .u64 bb, .string t, .slice ka kl kc, .slice ja jl jc] 54 (0, 0))) := (R6.out.block (lt_of_block X5.out) (H5.out.ne X5.out (by decide))).trans X5.out
        have HL6 : Hid ((l0 ++ octs id ++ [UInt8.ofNat nm.size]).length ≤ 30000009) := by have := HL5.out; show _ ≤ _; rw [List.length_append, List.length_singleton]; omega
        clear h6 r6 z0 z1 z2 z3 z4 z5 z6 H5 X5
        obtain ⟨z0, z1, z2, z3, z4, z5, z6⟩ := seven_cells X6.out
        have hsz6 := B6.out.1.size
        go_wp2_with (at_builtin; refine wpList_apps _ rfl _ _ rfl w1.heap.size _ (l0 ++ octs id ++ [UInt8.ofNat nm.size]) nm rfl H6.out rfl ?e0 ?e1 ?_)
        case e0 => have := HL6.out; omega
        case e1 => exact hsz6
        intro s7 w7 h7 r7
        have H7 : Hid (Bs w7 w1.heap.size s7 (l0 ++ octs id ++ [UInt8.ofNat nm.size] ++ nm.toList)) := by show Bs _ _ _ _; rw [List.append_assoc, List.append_assoc]; exact h7
        have B7 : Hid (Below w1.heap.size w1 w7 ∧ Below w.heap.size w w7) := enc_put B6.out.1 B6.out.2 hw1 H6.out r7
        have X7 : Hid (w7.heap[wr.heap.size]? = some (.cells #[.int .i64 id, .string nm, .int .i64 k, .int .u64 bb, .string t, .slice ka kl kc, .slice ja jl jc] 54 (0, 0))) := (r7.block (lt_of_block X6.out) (H6.out.ne X6.out (by decide))).trans X6.out
        have HL7 : Hid ((l0 ++ octs id ++ [UInt8.ofNat nm.size] ++ nm.toList).length ≤ 30000025) := by have := HL6.out; show _ ≤ _; rw [List.length_append, toList_length]; omega
        have HV7 : Hid (Lay w7 n (mk k bb t ka kl kc ja jl jc) v) := HLW0.out.below n B7.out.2
        clear h7 r7 z0 z1 z2 z3 z4 z5 z6 H6 X6 B6 B5 R5 R6 HI4 X4
        obtain ⟨z0, z1, z2, z3, z4, z5, z6⟩ := seven_cells X7.out
        have CE : Hid (Calls Try.prog 17 #[mk k bb t ka kl kc ja jl jc] w7 fun e w' => ∃ s, e = .returned (.tuple #[s, .int .i64 0]) ∧ Bs w' w7.heap.size s (enc n v) ∧ Below w7.heap.size w7 w') := by
          have := encode_any n v _ w7 HV7.out
          rwa [HCK.out, if_pos rfl] at this
        have HEL : Hid ((enc n v).length ≤ 100000) := by have := enc_len n v (ok_of_chk HCK.out); have := cnt_of_chk HCK.out; show _ ≤ _; omega
        go_wp2_with fail
        refine CE.out.mono ?_
        rintro e w8 ⟨s8, rfl, h8, hb8⟩
        obtain ⟨a8, c8, rfl⟩ := h8.slice
        have HO8 : Hid (Oct w8 a8 c8 (enc n v)) := h8.oct (by have := HEL.out; omega)
        have H8 : Hid (Bs w8 w1.heap.size s7 (l0 ++ octs id ++ [UInt8.ofNat nm.size] ++ nm.toList)) := H7.out.below hb8
        have B8 : Hid (Below w1.heap.size w1 w8 ∧ Below w.heap.size w w8) := ⟨nxt B7.out.1 hb8, nxt B7.out.2 hb8⟩
        clear h8 hb8 z0 z1 z2 z3 z4 z5 z6 H7 X7 B7
        have hsz8 := B8.out.1.size
        go_wp2_with (at_builtin; refine wpList_appO _ rfl _ _ rfl w1.heap.size _ (l0 ++ octs id ++ [UInt8.ofNat nm.size] ++ nm.toList) (enc n v) rfl H8.out a8 c8 rfl HO8.out ?f0 ?f1 ?_)
        case f0 => have := HL7.out; have := HEL.out; omega
        case f1 => exact hsz8
        intro s9 w9 h9 r9
        have B9 : Hid (Below w1.heap.size w1 w9 ∧ Below w.heap.size w w9) := enc_put B8.out.1 B8.out.2 hw1 H8.out r9
        have I9 : Hid (EncI w w1 w9 L its (m + 1) s9) := by
          refine ⟨?_, B9.out⟩
          have e1 : octs L ++ (octsK 2 (its.length : Int) ++ encIs (its.take (m + 1))) = l0 ++ octs id ++ [UInt8.ofNat nm.size] ++ nm.toList ++ enc n v := by
            rw [HTK.out, ← HL0.out]
            simp [txt, List.append_assoc]
          rw [e1, List.append_assoc, List.append_assoc, List.append_assoc]
          exact h9
        clear h9 r9
        go_wp2_with fail
        go_roundw
        case rel => exact ⟨m + 1, by omega, by go_num, I9.out⟩
        case measure => simp [intOf]; omega
      · have hme : m = its.length := by omega
        subst hme
        have hfin := HI.out.1
        rw [List.take_length] at hfin
        have HF : Hid (Bs wr w.heap.size u5 (encB L its)) := hfin.less hw1
        obtain ⟨a5, c5, rfl⟩ := HF.out.slice
        clear hfin
        go_wp2_with fail
        refine bodyPost_ret (v := .tuple #[.slice a5 (encB L its).length c5, .int .i64 0]) (by simp [results, Try.results6, go_sem]) rfl ?_
        exact ⟨_, rfl, HF.out, HI.out.2.2⟩
  · rw [if_neg h0]
    have hd1 : (chkB L its == 0) = false := by simpa using h0
    have hd2 : (chkB L its != 0) = true := by simpa using h0
    clear h0
    generalize chkB L its = er at *
    go_enter Try.func6, Try.ntmps6
    go_wp2_with fail
    refine (CC.out _ (below_one _ _)).mono ?_
    rintro e w1 ⟨rfl, hb1⟩
    go_wp2_with fail
    refine bodyPost_ret (v := .tuple #[.slice none 0 0, .int .i64 er]) (by simp [results, Try.results6, go_sem]) rfl ?_
    exact ⟨_, rfl, Bs.nil _ _, nxt (below_one _ _) hb1⟩
end Go.Proofs.Ytfdbhojghkdlkaa
