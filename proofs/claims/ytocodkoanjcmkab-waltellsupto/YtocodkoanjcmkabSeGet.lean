/-
  The program's Get.
-/
import Derived.Test.YtocodkoanjcmkabSePut
namespace Go.Proofs.Ytocodkoanjcmkab
open Go.ChangeShapes Go.WideShapes Go.ChangeAt Go.RowKit Go.Deep
open Se

/-- How long a frame's Data says it is. -/
def lenO (l : List UInt8) : Nat := (l.getD 1 0).toNat * 65536 + (l.getD 2 0).toNat * 256 + (l.getD 3 0).toNat
/-- Get's answer: the error, the kind, the data, how many octets. -/
def getR (l : List UInt8) : Int × Int × List UInt8 × Nat :=
  if l.length < 8 then (8, 0, [], 0) else if (l.getD 0 0).toNat = 0 then (22, 0, [], 0) else if 65536 < lenO l then (5, 0, [], 0) else if l.length < 4 + lenO l + 4 then (8, 0, [], 0)
  else if le4 (sum (l.take (4 + lenO l))) = (l.drop (4 + lenO l)).take 4 then (0, (l.getD 0 0).toNat, (l.take (4 + lenO l)).drop 4, 4 + lenO l + 4) else (21, 0, [], 0)

theorem arrayAt4 (x : Addr) (m c : Nat) (h : 4 ≤ m) (w : World) : Sem.run Try.prog (Instr.arrayAt 97 (.slice (some x) m c)) w = .ok (.pointer (some x)) w := by
  simp [Instr.arrayAt, run_underlying Try.underlying97, Nat.not_lt.2 h]

theorem eq4 (a0 a1 a2 a3 b0 b1 b2 b3 : Int) (w : World) :
    Sem.run Try.prog (Op.equalIn 10000 97 (.agg #[.int .u8 a0, .int .u8 a1, .int .u8 a2, .int .u8 a3]) (.agg #[.int .u8 b0, .int .u8 b1, .int .u8 b2, .int .u8 b3])) w = .ok (a0 == b0 && a1 == b1 && a2 == b2 && a3 == b3) w := by
  obtain ⟨i0, hi, hz0, hz1, hz2⟩ := info_parts Try.infoU8
  have hs : ∀ w, Sem.run Try.prog (sizeOf 5) w = .ok 1 w := fun w => by simp [sizeOf, typeInfo, hi, hz1]
  have ha : ∀ w, Sem.run Try.prog (isAgg 5) w = .ok false w := fun w => by simp [isAgg, run_underlying Try.underlying5]
  have hq : ∀ (a b : Int) w, Sem.run Try.prog (Op.equalIn 9999 5 (.int .u8 a) (.int .u8 b)) w = .ok (a == b) w := fun a b w => by
    have := run_equalIn_int (P := Try.prog) (w := w) 9998 5 .u8 .u8 a b Try.underlying5
    simpa using this
  rw [Op.equalIn]
  simp [run_underlying Try.underlying97, hs, part]
  simp [List.range', hq, hs, ha]
  by_cases h0 : a0 = b0 <;> by_cases h1 : a1 = b1 <;> by_cases h2 : a2 = b2 <;> by_cases h3 : a3 = b3 <;> simp [h0, h1, h2, h3]

theorem Try.noGuard : Try.prog.eqGuardType Try.prog.depth 97 = false := by kernel_rfl

theorem cellsO_inj {l m : List UInt8} (h : cellsO l = cellsO m) : l = m := by
  have hf : ∀ a b : UInt8, Value.int .u8 (a.toNat : Int) = Value.int .u8 (b.toNat : Int) → a = b := fun a b e => by
    simp only [Value.int.injEq, true_and] at e
    exact UInt8.toNat_inj.1 (by omega)
  exact List.map_inj_right hf |>.1 h

theorem four_cells {l : List UInt8} {i : Nat} (h : i + 4 ≤ l.length) : cellsO ((l.drop i).take 4) = [.int .u8 ((l.getD i 0).toNat : Int), .int .u8 ((l.getD (i + 1) 0).toNat : Int), .int .u8 ((l.getD (i + 2) 0).toNat : Int), .int .u8 ((l.getD (i + 3) 0).toNat : Int)] := by
  have e : (l.drop i).take 4 = [l.getD i 0, l.getD (i + 1) 0, l.getD (i + 2) 0, l.getD (i + 3) 0] := by
    apply List.ext_getElem
    · simp; omega
    · intro j h1 h2
      simp at h1
      have hj : j = 0 ∨ j = 1 ∨ j = 2 ∨ j = 3 := by omega
      rcases hj with rfl | rfl | rfl | rfl <;> simp [List.getElem?_eq_getElem (show i < l.length by omega), List.getElem?_eq_getElem (show i + 1 < l.length by omega), List.getElem?_eq_getElem (show i + 2 < l.length by omega), List.getElem?_eq_getElem (show i + 3 < l.length by omega)]
  rw [e]
  rfl

theorem Oct.part {w : World} {b off c : Nat} {l : List UInt8} (h : Oct w (some ⟨b, off, none⟩) c l) (i j : Nat) (hi : i ≤ j) (hj : j ≤ l.length) : Oct w (some ⟨b, off + i, none⟩) (c - i) ((l.take j).drop i) := by
  obtain ⟨h1, h2, h3, h4, h5, h6⟩ := h
  have hm : ((l.take j).drop i).length = j - i := by simp; omega
  refine ⟨fun k o hk => ⟨b, off + i, rfl, ?_⟩, by rw [hm]; omega, by omega, by rw [hm]; omega, (fun e => by cases e), fun ad e _ => by cases e; rfl⟩
  have hk' : l[i + k]? = some o := by
    rw [List.getElem?_drop, List.getElem?_take] at hk
    split at hk
    · exact hk
    · cases hk
  obtain ⟨_, _, e, hc⟩ := h1 (i + k) o hk'
  cases e
  rw [Nat.add_assoc]
  exact hc

theorem getD_get {l : List UInt8} {i : Nat} (h : i < l.length) : l.getD i 0 = l[i] := by simp [h]

theorem or_i64 (x y i : Nat) (hx : x % 2 ^ i = 0) (hy : y < 2 ^ i) (h : x + y < 9223372036854775808) : bits .or .i64 (x : Int) (y : Int) = ((x + y : Nat) : Int) := by
  show IntKind.i64.wrap ((BitVec.ofInt 64 (x : Int) ||| BitVec.ofInt 64 (y : Int)).toNat : Int) = _
  rw [BitVec.toNat_or, ofInt_u64 x (by omega), ofInt_u64 y (by omega), nat_join i x y hx hy, IntKind.wrap_i64]
  omega

theorem or_three (o1 o2 o3 : Nat) (h1 : o1 < 256) (h2 : o2 < 256) (h3 : o3 < 256) : bits .or .i64 (bits .or .i64 ((o1 : Int) * 65536) ((o2 : Int) * 256)) (o3 : Int) = ((o1 * 65536 + o2 * 256 + o3 : Nat) : Int) := by
  have e1 : (o1 : Int) * 65536 = ((o1 * 65536 : Nat) : Int) := by omega
  have e2 : (o2 : Int) * 256 = ((o2 * 256 : Nat) : Int) := by omega
  rw [e1, e2, or_i64 _ _ 16 (by omega) (by omega) (by omega), or_i64 _ _ 8 (by omega) (by omega) (by omega)]

set_option maxRecDepth 100000 in
set_option maxHeartbeats 3200000 in
theorem get_any (a : Option Addr) (c : Nat) (l : List UInt8) (w : World) (ho : Oct w a c l) :
    Calls Try.prog 49 #[.slice a l.length c] w fun e w' => ∃ s, e = .returned (.tuple #[.agg #[.int .i64 (getR l).2.1, s], .int .i64 (getR l).2.2.2, .int .i64 (getR l).1]) ∧ Bs w' w.heap.size s (getR l).2.2.1 ∧ Below w.heap.size w w' := by
  have HO : Hid (Oct w a c l) := ho
  obtain ⟨hL, hcl, hc63, hdl, hnil, had⟩ := ho
  have HL : Hid (LayB w a l) := hL
  clear hL hnil had
  unfold getR
  by_cases h8 : l.length < 8
  · rw [if_pos h8]
    have h8' : (l.length : Int) < 8 := by omega
    go_enter Try.func49, Try.ntmps49
    go_wp2_with fail
    exact bodyPost_ret (v := .tuple #[.agg #[.int .i64 0, .slice none 0 0], .int .i64 0, .int .i64 8]) (by simp [results, Try.results49, go_sem]) rfl ⟨_, rfl, Bs.nil _ _, below_one _ _⟩
  rw [if_neg h8]
  have h8' : ¬ (l.length : Int) < 8 := by omega
  obtain ⟨b, off, rfl, q0⟩ := layB_get HL.out (show 0 < l.length by omega)
  obtain ⟨_, _, e1, q1⟩ := layB_get HL.out (show 1 < l.length by omega)
  cases e1
  obtain ⟨_, _, e1, q2⟩ := layB_get HL.out (show 2 < l.length by omega)
  cases e1
  obtain ⟨_, _, e1, q3⟩ := layB_get HL.out (show 3 < l.length by omega)
  cases e1
  have Q0 : Hid (w.cell? ⟨b, off + 0, none⟩ = some (.int .u8 ((l.getD 0 0).toNat : Int))) := by rw [getD_get (by omega)]; exact q0
  have Q1 : Hid (w.cell? ⟨b, off + 1, none⟩ = some (.int .u8 ((l.getD 1 0).toNat : Int))) := by rw [getD_get (by omega)]; exact q1
  have Q2 : Hid (w.cell? ⟨b, off + 2, none⟩ = some (.int .u8 ((l.getD 2 0).toNat : Int))) := by rw [getD_get (by omega)]; exact q2
  have Q3 : Hid (w.cell? ⟨b, off + 3, none⟩ = some (.int .u8 ((l.getD 3 0).toNat : Int))) := by rw [getD_get (by omega)]; exact q3
  have d0 := u8_lt (l.getD 0 0)
  have d1 := u8_lt (l.getD 1 0)
  have d2 := u8_lt (l.getD 2 0)
  have d3 := u8_lt (l.getD 3 0)
  have hn : lenO l = (l.getD 1 0).toNat * 65536 + (l.getD 2 0).toNat * 256 + (l.getD 3 0).toNat := rfl
  generalize (l.getD 0 0).toNat = o0 at *
  generalize (l.getD 1 0).toNat = o1 at *
  generalize (l.getD 2 0).toNat = o2 at *
  generalize (l.getD 3 0).toNat = o3 at *
  generalize lenO l = n at *
  clear q0 q1 q2 q3
  have QW : Hid (∀ W, Below w.heap.size w W → W.cell? ⟨b, off, none⟩ = some (.int .u8 (o0 : Int)) ∧ W.cell? ⟨b, off + 1, none⟩ = some (.int .u8 (o1 : Int)) ∧ W.cell? ⟨b, off + 2, none⟩ = some (.int .u8 (o2 : Int)) ∧ W.cell? ⟨b, off + 3, none⟩ = some (.int .u8 (o3 : Int))) :=
    fun W hb => ⟨keepc hb _ _ Q0.out, keepc hb _ _ Q1.out, keepc hb _ _ Q2.out, keepc hb _ _ Q3.out⟩
  clear Q0 Q1 Q2 Q3
  have X0 : Hid ((w.alloc (.cells #[.int .i64 0, .slice none 0 0] 84)).heap[w.heap.size]? = some (.cells #[.int .i64 0, .slice none 0 0] 84 (0, 0))) := heap_alloc_new _ _
  have B0 : Hid (Below w.heap.size w (w.alloc (.cells #[.int .i64 0, .slice none 0 0] 84))) := below_one _ _
  obtain ⟨y0, y1, y2, y3⟩ := QW.out _ B0.out
  by_cases hk : o0 = 0
  · rw [if_pos hk]
    have hk' : ((o0 : Int) == 0) = true := by simp [hk]
    go_enter Try.func49, Try.ntmps49
    go_wp2_with fail
    exact bodyPost_ret (v := .tuple #[.agg #[.int .i64 0, .slice none 0 0], .int .i64 0, .int .i64 22]) (by simp [results, Try.results49, go_sem]) rfl ⟨_, rfl, Bs.nil _ _, below_one _ _⟩
  rw [if_neg hk]
  have hk' : ((o0 : Int) == 0) = false := by simp; omega
  have hor := or_three o1 o2 o3 d1 d2 d3
  rw [← hn] at hor
  clear hn
  by_cases h5 : 65536 < n
  · rw [if_pos h5]
    have h5' : (65536 : Int) < n := by omega
    go_enter Try.func49, Try.ntmps49
    go_wp2_with fail
    go_quiet (fail)
    have X1 : Hid (((w.alloc (.cells #[.int .i64 0, .slice none 0 0] 84)).drewN nq).heap[w.heap.size]? = some (.cells #[.int .i64 0, .slice none 0 0] 84 (0, 0))) := X0.out
    have B1 : Hid (Below w.heap.size w ((w.alloc (.cells #[.int .i64 0, .slice none 0 0] 84)).drewN nq)) := B0.out.trans (Below_drewN _ _ _)
    clear X0 B0 y0 y1 y2 y3
    generalize (w.alloc (.cells #[.int .i64 0, .slice none 0 0] 84)).drewN nq = W1 at *
    obtain ⟨z0, f0⟩ := cell_of X1.out 0
    obtain ⟨z1, f1⟩ := cell_of X1.out 1
    simp at z0 z1
    go_wp2_with fail
    exact bodyPost_ret (v := .tuple #[.agg #[.int .i64 0, .slice none 0 0], .int .i64 0, .int .i64 5]) (by simp [results, Try.results49, go_sem, z0, z1]) rfl ⟨_, rfl, Bs.nil _ _, (B1.out.setCell (Nat.le_refl _) _).setCell (Nat.le_refl _) _⟩
  rw [if_neg h5]
  have h5' : ¬ (65536 : Int) < n := by omega
  by_cases hs : l.length < 4 + n + 4
  · rw [if_pos hs]
    have hs' : (l.length : Int) < 4 + (n : Int) + 4 := by omega
    go_enter Try.func49, Try.ntmps49
    go_wp2_with fail
    go_quiet (fail)
    have X1 : Hid (((w.alloc (.cells #[.int .i64 0, .slice none 0 0] 84)).drewN nq).heap[w.heap.size]? = some (.cells #[.int .i64 0, .slice none 0 0] 84 (0, 0))) := X0.out
    have B1 : Hid (Below w.heap.size w ((w.alloc (.cells #[.int .i64 0, .slice none 0 0] 84)).drewN nq)) := B0.out.trans (Below_drewN _ _ _)
    clear X0 B0 y0 y1 y2 y3
    generalize (w.alloc (.cells #[.int .i64 0, .slice none 0 0] 84)).drewN nq = W1 at *
    obtain ⟨z0, f0⟩ := cell_of X1.out 0
    obtain ⟨z1, f1⟩ := cell_of X1.out 1
    simp at z0 z1
    go_wp2_with fail
    exact bodyPost_ret (v := .tuple #[.agg #[.int .i64 0, .slice none 0 0], .int .i64 0, .int .i64 8]) (by simp [results, Try.results49, go_sem, z0, z1]) rfl ⟨_, rfl, Bs.nil _ _, (B1.out.setCell (Nat.le_refl _) _).setCell (Nat.le_refl _) _⟩
  rw [if_neg hs]
  have hs' : ¬ (l.length : Int) < 4 + (n : Int) + 4 := by omega
  generalize hGG : (if le4 (sum (l.take (4 + n))) = (l.drop (4 + n)).take 4 then ((0 : Int), (o0 : Int), (l.take (4 + n)).drop 4, 4 + n + 4) else ((21 : Int), (0 : Int), ([] : List UInt8), 0)) = G
  have HGG : Hid ((if le4 (sum (l.take (4 + n))) = (l.drop (4 + n)).take 4 then ((0 : Int), (o0 : Int), (l.take (4 + n)).drop 4, 4 + n + 4) else ((21 : Int), (0 : Int), ([] : List UInt8), 0)) = G) := hGG
  clear hGG
  go_enter Try.func49, Try.ntmps49
  go_wp2_with fail
  go_quiet (fail)
  have X1 : Hid (((w.alloc (.cells #[.int .i64 0, .slice none 0 0] 84)).drewN nq).heap[w.heap.size]? = some (.cells #[.int .i64 0, .slice none 0 0] 84 (0, 0))) := X0.out
  have B1 : Hid (Below w.heap.size w ((w.alloc (.cells #[.int .i64 0, .slice none 0 0] 84)).drewN nq)) := B0.out.trans (Below_drewN _ _ _)
  clear X0 B0 y0 y1 y2 y3
  generalize (w.alloc (.cells #[.int .i64 0, .slice none 0 0] 84)).drewN nq = W1 at *
  obtain ⟨z0, f0⟩ := cell_of X1.out 0
  obtain ⟨z1, f1⟩ := cell_of X1.out 1
  simp at z0 z1
  obtain ⟨y0, y1, y2, y3⟩ := QW.out _ B1.out
  have inst : Nonempty (Cls W1) := ⟨⟨W1, Below.refl _ _⟩⟩
  have HLW : Hid (LayB W1 (some ⟨b, off, none⟩) l) := HL.out.below B1.out
  have hlt : 4 + n + 4 ≤ l.length := by omega
  obtain ⟨v0, v1, v2, v3, hv⟩ : ∃ v0 v1 v2 v3 : Nat, cellsO (le4 (sum (l.take (4 + n)))) = [.int .u8 (v0 : Int), .int .u8 (v1 : Int), .int .u8 (v2 : Int), .int .u8 (v3 : Int)] := ⟨_, _, _, _, rfl⟩
  have HV : Hid (cellsO (le4 (sum (l.take (4 + n)))) = [.int .u8 (v0 : Int), .int .u8 (v1 : Int), .int .u8 (v2 : Int), .int .u8 (v3 : Int)]) := hv
  have D1 : Hid (∀ s : Cls W1, Calls Try.prog 52 #[.slice (some ⟨b, off, none⟩) (4 + n) c] s.1 fun e w' => e = .returned (.agg #[.int .u8 (v0 : Int), .int .u8 (v1 : Int), .int .u8 (v2 : Int), .int .u8 (v3 : Int)]) ∧ Below s.1.heap.size s.1 w') := fun s => by
    have h := sealOf_any (some ⟨b, off, none⟩) c (l.take (4 + n)) s.1 (fun i o hi => (HLW.out.below s.2) i o (by rw [List.getElem?_take] at hi; split at hi; exact hi; cases hi)) (by rw [List.length_take]; omega)
    rw [hv, List.length_take, Nat.min_eq_left (by omega)] at h
    exact h
  have HE : Hid (∀ j, j < 4 → ∀ s : Cls W1, s.1.cell? ⟨b, off + (4 + n + j), none⟩ = some (.int .u8 ((l.getD (4 + n + j) 0).toNat : Int))) := fun j hj s => by
    obtain ⟨_, _, e, h⟩ := layB_get (HLW.out.below s.2) (show 4 + n + j < l.length by omega)
    cases e
    rw [getD_get (by omega)]
    exact h
  clear hv
  have g0 : ∀ s : Cls W1, s.1.cell? ⟨b, off + (4 + n), none⟩ = some (.int .u8 ((l.getD (4 + n) 0).toNat : Int)) := HE.out 0 (by decide)
  have g1 : ∀ s : Cls W1, s.1.cell? ⟨b, off + (4 + n) + 1, none⟩ = some (.int .u8 ((l.getD (4 + n + 1) 0).toNat : Int)) := HE.out 1 (by decide)
  have g2 : ∀ s : Cls W1, s.1.cell? ⟨b, off + (4 + n) + 2, none⟩ = some (.int .u8 ((l.getD (4 + n + 2) 0).toNat : Int)) := HE.out 2 (by decide)
  have g3 : ∀ s : Cls W1, s.1.cell? ⟨b, off + (4 + n) + 3, none⟩ = some (.int .u8 ((l.getD (4 + n + 3) 0).toNat : Int)) := HE.out 3 (by decide)
  obtain ⟨p0, hp0⟩ : ∃ p, p = (l.getD (4 + n) 0).toNat := ⟨_, rfl⟩
  obtain ⟨p1, hp1⟩ : ∃ p, p = (l.getD (4 + n + 1) 0).toNat := ⟨_, rfl⟩
  obtain ⟨p2, hp2⟩ : ∃ p, p = (l.getD (4 + n + 2) 0).toNat := ⟨_, rfl⟩
  obtain ⟨p3, hp3⟩ : ∃ p, p = (l.getD (4 + n + 3) 0).toNat := ⟨_, rfl⟩
  have HP : Hid (cellsO ((l.drop (4 + n)).take 4) = [.int .u8 (p0 : Int), .int .u8 (p1 : Int), .int .u8 (p2 : Int), .int .u8 (p3 : Int)]) := by
    show _ = _
    rw [hp0, hp1, hp2, hp3]
    exact four_cells (by omega)
  rw [← hp0] at g0
  rw [← hp1] at g1
  rw [← hp2] at g2
  rw [← hp3] at g3
  clear hp0 hp1 hp2 hp3 HE
  have hA : ∀ w', Sem.run Try.prog (Instr.arrayAt 97 (.slice (some ⟨b, off + (4 + n), none⟩) 4 (c - (4 + n)))) w' = .ok (.pointer (some ⟨b, off + (4 + n), none⟩)) w' := fun w' => arrayAt4 _ _ _ (by omega) w'
  have hG := Try.noGuard
  by_cases heq : le4 (sum (l.take (4 + n))) = (l.drop (4 + n)).take 4
  · have HG : Hid (G = ((0 : Int), (o0 : Int), (l.take (4 + n)).drop 4, 4 + n + 4)) := by have := HGG.out; rw [if_pos heq] at this; exact this.symm
    have hQ : ∀ w', Sem.run Try.prog (Op.equalIn 10000 97 (.agg #[.int .u8 (v0 : Int), .int .u8 (v1 : Int), .int .u8 (v2 : Int), .int .u8 (v3 : Int)]) (.agg #[.int .u8 (p0 : Int), .int .u8 (p1 : Int), .int .u8 (p2 : Int), .int .u8 (p3 : Int)])) w' = .ok true w' := fun w' => by
      have e := HV.out.symm.trans ((congrArg cellsO heq).trans HP.out)
      simp only [List.cons.injEq, Value.int.injEq, true_and, and_true] at e
      rw [eq4, e.1, e.2.1, e.2.2.1, e.2.2.2]
      simp
    clear heq HP HV
    go_wp2_with fail
    refine wp_region_cls (by kernel_rfl) (by kernel_rfl) ?_
    repeat (go_big_quiet_step (first | (go_at_call 52; exact Calls.cls (D1.out _))))
    refine wpQuiet_nil ?_
    intro _ hw'
    obtain ⟨s, hw''⟩ := hw'
    subst hw''
    have XS : Hid (s.1.heap[w.heap.size]? = some (.cells #[.int .i64 0, .slice none 0 0] 84 (0, 0))) := (s.2.block _ (lt_of_block X1.out)).trans X1.out
    have BS : Hid (Below w.heap.size w s.1) := nxt B1.out s.2
    have OS : Hid (Oct s.1 (some ⟨b, off + 4, none⟩) (c - 4) ((l.take (4 + n)).drop 4)) := (HO.out.below (nxt B1.out s.2)).part 4 (4 + n) (by omega) (by omega)
    have HML : Hid (((l.take (4 + n)).drop 4).length = n) := by show _ = _; simp; omega
    clear X1 B1 HLW D1 inst g0 g1 g2 g3 hQ hA y0 y1 y2 y3
    generalize s.1 = W2 at *
    obtain ⟨z0, f0⟩ := cell_of XS.out 0
    obtain ⟨z1, f1⟩ := cell_of XS.out 1
    simp at z0 z1
    obtain ⟨y0, -⟩ := QW.out _ BS.out
    go_wp2_with (at_builtin; refine wpList_appO _ rfl _ _ rfl (w.heap.size + 1) _ [] ((l.take (4 + n)).drop 4) rfl (Bs.nil _ _) (some ⟨b, off + 4, none⟩) (c - 4) ?e0 OS.out ?e1 ?e2 ?_)
    case e0 =>
      rw [HML.out]
      show Value.slice _ (4 + n - 4) _ = _
      rw [Nat.add_sub_cancel_left]
    case e1 => rw [HML.out]; simp; omega
    case e2 => have := lt_of_block XS.out; omega
    intro s3 w3 hs3 hr3
    obtain ⟨a3, c3, rfl⟩ := hs3.shape
    rw [HML.out] at hs3 hr3 ⊢
    have S3 : Hid (Bs w3 (w.heap.size + 1) (.slice a3 n c3) ((l.take (4 + n)).drop 4)) := hs3
    have B3' : Below W2.heap.size W2 w3 := hr3.below (Nat.le_refl _) (fun g hg => by simp [Value.ownBlock] at hg)
    have X3 : Hid (w3.heap[w.heap.size]? = some (.cells #[.int .i64 0, .slice none 0 0] 84 (0, 0))) := (B3'.block _ (lt_of_block XS.out)).trans XS.out
    have B3 : Hid (Below w.heap.size w w3) := nxt BS.out B3'
    clear hs3 hr3 B3' XS BS OS z0 z1 f0 f1 y0
    obtain ⟨z0, f0⟩ := cell_of X3.out 0
    obtain ⟨z1, f1⟩ := cell_of X3.out 1
    simp at z0 z1
    obtain ⟨y0, -⟩ := QW.out _ B3.out
    go_wp2_with fail
    refine bodyPost_ret (v := .tuple #[.agg #[.int .i64 o0, .slice a3 n c3], .int .i64 (4 + (n : Int) + 4), .int .i64 0]) (by simp [results, Try.results49, go_sem, z0, z1]) rfl ?_
    refine ⟨.slice a3 n c3, by rw [HG.out]; simp, ?_, (B3.out.setCell (Nat.le_refl _) _).setCell (Nat.le_refl _) _⟩
    rw [HG.out]
    have h := S3.out
    refine Bs.up (B := w.heap.size + 1) (ownsRow_same h ?_) ?_
    · intro g hg
      have := (h.base g hg).1
      rw [Below.heap_setCell _ _ _ _ (by show g ≠ w.heap.size; omega), Below.heap_setCell _ _ _ _ (by show g ≠ w.heap.size; omega)]
    · intro g hg
      have := (h.base g hg).1
      omega
  · have HG : Hid (G = ((21 : Int), (0 : Int), ([] : List UInt8), 0)) := by have := HGG.out; rw [if_neg heq] at this; exact this.symm
    have hQ : ∀ w', Sem.run Try.prog (Op.equalIn 10000 97 (.agg #[.int .u8 (v0 : Int), .int .u8 (v1 : Int), .int .u8 (v2 : Int), .int .u8 (v3 : Int)]) (.agg #[.int .u8 (p0 : Int), .int .u8 (p1 : Int), .int .u8 (p2 : Int), .int .u8 (p3 : Int)])) w' = .ok false w' := fun w' => by
      rw [eq4]
      congr 1
      cases hb : ((v0 : Int) == p0 && (v1 : Int) == p1 && (v2 : Int) == p2 && (v3 : Int) == p3) with
      | false => rfl
      | true =>
        exfalso
        simp only [Bool.and_eq_true, beq_iff_eq] at hb
        obtain ⟨⟨⟨e0, e1⟩, e2⟩, e3⟩ := hb
        apply heq
        apply cellsO_inj
        rw [HV.out, HP.out, e0, e1, e2, e3]
    clear heq HP HV
    go_wp2_with fail
    refine wp_region_cls (by kernel_rfl) (by kernel_rfl) ?_
    repeat (go_big_quiet_step (first | (go_at_call 52; exact Calls.cls (D1.out _))))
    refine wpQuiet_nil ?_
    intro _ hw'
    obtain ⟨s, hw''⟩ := hw'
    subst hw''
    have XS : Hid (s.1.heap[w.heap.size]? = some (.cells #[.int .i64 0, .slice none 0 0] 84 (0, 0))) := (s.2.block _ (lt_of_block X1.out)).trans X1.out
    have BS : Hid (Below w.heap.size w s.1) := nxt B1.out s.2
    clear X1 B1 HLW D1 inst g0 g1 g2 g3 hQ hA y0 y1 y2 y3
    generalize s.1 = W2 at *
    obtain ⟨z0, f0⟩ := cell_of XS.out 0
    obtain ⟨z1, f1⟩ := cell_of XS.out 1
    simp at z0 z1
    go_wp2_with fail
    refine bodyPost_ret (v := .tuple #[.agg #[.int .i64 0, .slice none 0 0], .int .i64 0, .int .i64 21]) (by simp [results, Try.results49, go_sem, z0, z1]) rfl ?_
    exact ⟨.slice none 0 0, by rw [HG.out]; simp, by rw [HG.out]; exact Bs.nil _ _, (BS.out.setCell (Nat.le_refl _) _).setCell (Nat.le_refl _) _⟩
end Go.Proofs.Ytocodkoanjcmkab
